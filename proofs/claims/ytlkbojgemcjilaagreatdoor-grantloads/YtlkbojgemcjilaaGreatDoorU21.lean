/- YtlkbojgemcjilaaGreatDoorU19 + YtlkbojgemcjilaaGreatDoorU20 + YtlkbojgemcjilaaGreatDoorU21 -/
import Derived.Test.YtlkbojgemcjilaaGreatDoorU18
/- Grants: Consents. -/
namespace Go.Proofs.YtlkbojgemcjilaaGreatDoor
open Go.RowKit Go.Maps Go.Shelf Go.Sort Go.Lib
set_option linter.unusedVariables false
set_option maxRecDepth 20000
def coCells (l : List Co) : List Value := l.flatMap fun a => [.string a.t, .string a.u, .string a.n, .int .u8 (a.sc : Int)]
theorem coCells_snoc (l : List Co) (a : Co) : coCells (l ++ [a]) = coCells l ++ [.string a.t, .string a.u, .string a.n, .int .u8 (a.sc : Int)] := by simp [coCells]
theorem coInfo : (Tryz.prog.info? 59).map (fun i => (i.zero, i.size, i.bytes)) = some (some (.agg #[.string ⟨#[]⟩, .string ⟨#[]⟩, .string ⟨#[]⟩, .int .u8 0]), 4, 56) := by kernel_rfl
theorem own_onU {w w' : World} {B e s n : Nat} {v : Value} {xs : List Value} (h : w.ownsRow B e s v n xs) (hb : Below w.heap.size w w') : w'.ownsRow B e s v n xs :=
  h.kept (row := none) ⟨hb.os, hb.tape, hb.output, hb.size, fun k hk _ => hb.block k hk⟩ (Classical.em _)
theorem app_coU {W : World} {ops : Array Oper} {rest : List Oper} {o : Oper} {a : Act} {Q : Exit → Act → World → Prop} (hgd : o.guard = none) (sl x : Operand)
    (ho : o.op = .call { callee := .builtin .append, args := #[sl, x], argTypes := #[51, 51] }) (w : World) (c : Co) (hW : W = w.alloc (.cells #[.string c.t, .string c.u, .string c.n, .int .u8 (c.sc : Int)] 59)) (base : Nat) (v : Value) (l : List Co) (hs : a.eval sl = v)
    (hown : w.ownsRow base 59 4 v l.length (coCells l)) (hx : a.eval x = .slice (some ⟨w.heap.size, 0, none⟩) 1 1) (hb : l.length ≤ 2000000000) (hbase : base ≤ w.heap.size)
    (h : ∀ g m w', w'.ownsRow base 59 4 (.slice (some ⟨g, 0, none⟩) (l ++ [c]).length m) (l ++ [c]).length (coCells (l ++ [c])) → w.grownBy w' v.ownBlock → wpList Tryz.prog ops Q rest (a.put o.dst (.slice (some ⟨g, 0, none⟩) (l ++ [c]).length m)) w') :
    wpList Tryz.prog ops Q (o :: rest) a W := by
  subst hW
  obtain ⟨i0, hi, hz0, hz1, hz2⟩ := info_parts coInfo
  refine wpList_append_own _ hgd sl x 51 ho base 59 i0 _ 4 56 Tryz.underlying51 hi hz0 hz1 hz2 rfl (by decide) v l.length (coCells l) hs (hown.alloc _) ⟨w.heap.size, 0, none⟩ 1 1 [.string c.t, .string c.u, .string c.n, .int .u8 (c.sc : Int)] hx rfl (World.news_of_block (cs := #[.string c.t, .string c.u, .string c.n, .int .u8 (c.sc : Int)]) (t := 59) (fr := (0, 0)) (MapKept.heap_alloc w _).1) (by simp [Value.oneCell']) (by unfold maxLen; omega) (by omega) (by simp; omega) ?_
  intro v' w' h1 h2 h3
  rw [← coCells_snoc l c, show l.length + 1 = (l ++ [c]).length by simp] at h1
  obtain ⟨g, m, rfl⟩ := own_someU h1 (by simp)
  exact h g m w' h1 ((World.grownBy_alloc w _ _).trans h2)
theorem own_baseU {w : World} {B B' e s n : Nat} {v : Value} {xs : List Value} (h : w.ownsRow B e s v n xs) (hB : B' ≤ B) : w.ownsRow B' e s v n xs := by
  refine ⟨h.1, h.2.imp id ?_⟩
  rintro ⟨g, cap, cur, e1, e2, e3⟩
  exact ⟨g, cap, cur, e1, Nat.le_trans hB e2, e3⟩
theorem measU (k n : Nat) (v : Int) (h : k < n) (e : v = (k : Int) + 1) : n - (intOf (.int .i64 v)).toNat < n - (intOf (.int .i64 (k : Int))).toNat := by
  rw [e]
  simp only [intOf]
  omega
/-- the consents of a user for clients, in their order -/
def consF (L : List Reg) (s : GS) (t u : ByteArray) (S : List Cl) : List Co := S.filterMap fun c => (fB L s t u c.n).map (·.2)
theorem consF_len (L : List Reg) (s : GS) (t u : ByteArray) (S : List Cl) : (consF L s t u S).length ≤ S.length := List.length_filterMap_le _ _
theorem consF_take (L : List Reg) (s : GS) (t u : ByteArray) {S : List Cl} {k : Nat} (hk : k < S.length) : consF L s t u (S.take (k + 1)) = consF L s t u (S.take k) ++ ((fB L s t u S[k].n).map (·.2)).toList := by
  unfold consF
  rw [← List.take_append_getElem hk, List.filterMap_append]
  congr 1
section
variable {w : World} {B g mc d : Nat} {L : List Reg} {s : GS}
set_option maxHeartbeats 4000000 in
theorem consents_any (h : SAt w B g mc L s d) (hl9 : L.length ≤ 100000) (t u : ByteArray) (ht : t.size ≤ maxLen) (hu : u.size ≤ maxLen) :
    Calls Tryz.prog 39 #[.pointer (some ⟨g, 0, none⟩), .agg #[.string t, .string u]] w fun e w' => ∃ v S c, e = .returned (.slice v (consF L s t u S).length c) ∧ S.Perm (s.cs.filter (inT t)) ∧ NameOrder S ∧ w'.ownsRow w.heap.size 59 4 (.slice v (consF L s t u S).length c) (consF L s t u S).length (coCells (consF L s t u S)) ∧ Below w.heap.size w w' := by
  obtain ⟨W, hW⟩ : ∃ W, W = w.alloc (.cells #[.string t, .string u] 30) := ⟨_, rfl⟩
  have b0 : Below w.heap.size w W := by rw [hW]; exact (Below.refl _ w).alloc (Nat.le_refl _) _
  have x0 : W.heap[w.heap.size]? = some (.cells #[.string t, .string u] 30 (0, 0)) := by rw [hW]; exact heap_allocN w _
  have o0 : W.cell? ⟨w.heap.size, 0, none⟩ = some (.string t) := (cell_of_rowU _ _ 0 _ _ _ x0).trans rfl
  have h0 := h.below b0
  have hlS : (s.cs.filter (inT t)).length ≤ 100000 := by
    refine Nat.le_trans (List.length_filter_le _ _) ?_
    rw [← h.cs, List.length_map]
    exact hl9
  have hcs : ∀ c ∈ s.cs, c.n.size ≤ maxLen := fun c hc => by have := okN_len (h.ok.names c hc).2.1; unfold maxLen; omega
  have HC := hid (clients_any h0 hl9 t ht)
  have HW := hid hW.symm
  have B0 := hid b0
  have X0 := hid x0
  have H0 := hid h0
  have Htu := hid (And.intro ht hu)
  have HlS := hid hlS
  have Hcs := hid hcs
  rw [← HW.out] at o0
  clear h h0 hW b0 x0 hl9 hlS hcs
  go_enter Tryz.func39, Tryz.ntmps39
  go_wp2_with (go_at_call 37; rw [HW.out]; refine HC.out.mono ?_; rintro _ w2 ⟨v, S, rfl, p1, p2, p3, p4⟩; obtain ⟨n, hn⟩ : ∃ n, n = S.length := ⟨_, rfl⟩; rw [← hn] at p3; obtain ⟨a9, c9, rfl⟩ : ∃ a9 c9, v = .slice a9 n c9 := (by rcases p3.2 with ⟨e1, h1⟩ | ⟨g1, cap, cur, e1, _⟩; exact ⟨none, 0, by rw [e1, h1]⟩; exact ⟨_, cap, e1⟩); have Hn := hid hn; have P1 := hid p1; have P2 := hid p2; have P3 := hid p3; have P4 := hid p4; clear p1 p2 p3 p4 hn)
  clear o0
  have b2 := hid (Below.on' B0.out (P4.out.mono (Nat.le_refl _)))
  go_loopw [5, 7, 8, 9, 15] (fun v5 v7 v8 v9 i wr => ∃ (k : Nat), i = .int .i64 (k : Int) ∧ k ≤ n ∧ wr.ownsRow w2.heap.size 59 4 v5 (consF L s t u (S.take k)).length (coCells (consF L s t u (S.take k))) ∧ Below w2.heap.size w2 wr) (fun _ _ _ _ i _ => n - (intOf i).toNat)
  case atStart => exact ⟨0, rfl, Nat.zero_le _, World.ownsRow_nil _ _ _ _, Below.refl _ _⟩
  case round =>
    obtain ⟨k, rfl, hk, hrow, hb⟩ := hrel
    have Hrow := hid hrow
    have Hb := hid hb
    have Hk := hid hk
    clear hrow hb
    by_cases hlt : k < n
    · have g1 : (k : Int) < (n : Int) := by omega
      have g2 : (0 : Int) ≤ (k : Int) := by omega
      have hkS : k < S.length := by rw [← Hn.out]; exact hlt
      have hvS := own_onU P3.out Hb.out
      obtain ⟨gS, cS, eS⟩ := own_someU hvS (by omega)
      injection eS with eS1 _ eS2
      subst eS1 eS2
      have ca := fun j (hj : j < 4) => hvS.cellAt (k * 4 + j) (by omega)
      obtain ⟨e0, e1, e2, e3⟩ := clCells_get S k hkS
      have q0 : wr.cell? ⟨gS, k * 4, none⟩ = some (.string S[k].t) := (ca 0 (by omega)).trans e0
      have q1 : wr.cell? ⟨gS, k * 4 + 1, none⟩ = some (.string S[k].n) := (ca 1 (by omega)).trans e1
      have q2 : wr.cell? ⟨gS, k * 4 + 2, none⟩ = some (.string S[k].r) := (ca 2 (by omega)).trans e2
      have q3 : wr.cell? ⟨gS, k * 4 + 3, none⟩ = some (.int .u8 (S[k].sc : Int)) := (ca 3 (by omega)).trans e3
      have htk := hid (consF_take L s t u hkS)
      have hmem : S[k] ∈ s.cs := (List.mem_filter.1 (P1.out.mem_iff.1 (List.getElem_mem hkS))).1
      have hns := Hcs.out _ hmem
      obtain ⟨x, hx⟩ : ∃ x, x = S[k] := ⟨_, rfl⟩
      rw [← hx] at q0 q1 q2 q3 htk hns
      clear hx hmem ca e0 e1 e2 e3 hvS
      have HO := hid (fun (V : World) (hV : Below wr.heap.size wr V) => (show V.cell? ⟨w.heap.size, 0, none⟩ = some (.string t) ∧ V.cell? ⟨w.heap.size, 1, none⟩ = some (.string u) from by
        have x9 := ((Below.on' P4.out (Hb.out.trans (hV.mono Hb.out.size))).block _ (heap_lt X0.out)).trans X0.out
        exact ⟨(cell_of_rowU _ _ 0 _ _ _ x9).trans rfl, (cell_of_rowU _ _ 1 _ _ _ x9).trans rfl⟩))
      have gw : Hid (wrap64 ((k : Int) + 1) = (k : Int) + 1) := IntWalk.wrap64_in _ (by have := HlS.out; have := P1.out.length_eq; omega)
      have Hlt := hid hlt
      have HC9 := hid (fun (V : World) (hV : Below wr.heap.size wr V) => consent_any (H0.out.below (Below.on' P4.out (Hb.out.trans (hV.mono Hb.out.size)))) t u x.n Htu.out.1 Htu.out.2 hns)
      have hlen : Hid ((consF L s t u (S.take k)).length ≤ 100000) := by
        refine Nat.le_trans (consF_len _ _ _ _ _) (Nat.le_trans (List.length_take_le _ _) ?_)
        have := HlS.out
        have h9 := P1.out.length_eq
        have := Hn.out
        omega
      obtain ⟨R, hR⟩ : ∃ R, R = consF L s t u (S.take k) := ⟨_, rfl⟩
      rw [← hR] at htk Hrow hlen
      have HR := hid hR
      clear hR
      obtain ⟨X, hX⟩ : ∃ X, X = wr.alloc (.cells #[.string x.t, .string x.n, .string x.r, .int .u8 (x.sc : Int)] 56) := ⟨_, rfl⟩
      have bX : Below wr.heap.size wr X := by rw [hX]; exact (Below.refl _ wr).alloc (Nat.le_refl _) _
      obtain ⟨k0, k1⟩ := HO.out X bX
      have n1 : X.cell? ⟨wr.heap.size, 1, none⟩ = some (.string x.n) := by rw [hX]; exact (cell_of_rowU _ _ 1 _ _ _ (heap_allocN wr _)).trans rfl
      have HX := hid hX.symm
      have BX := hid bX
      have HCX := hid (HC9.out X bX)
      rw [hX] at k0 k1 n1
      clear hX bX HC9
      cases hf : fB L s t u x.n with
      | none =>
        rw [hf] at HCX htk
        have Htk : Hid (consF L s t u (S.take (k + 1)) = R) := htk.out.trans (List.append_nil R)
        clear hf htk
        go_wp2_with (first
          | (go_at_call 35; rw [HX.out]; refine HCX.out.mono ?_; rintro _ w5 ⟨rfl, b5⟩; have B5 := hid (Below.on' BX.out b5); clear b5; unfold noneE clC0; simp only [Option.map_none, Option.getD_none, Option.isSome_none, Bool.false_eq_true, if_false])
          | go_in)
        go_roundw
        case rel =>
          refine ⟨k + 1, by simp [gw.out], by have := Hlt.out; omega, ?_, Hb.out.trans ((B5.out.alloc B5.out.size _).mono Hb.out.size)⟩
          rw [Htk.out]
          exact own_onU Hrow.out (B5.out.alloc B5.out.size _)
        case measure => exact measU _ _ _ Hlt.out gw.out
      | some q =>
        rw [hf] at HCX htk
        have Htk : Hid (consF L s t u (S.take (k + 1)) = R ++ [q.2]) := htk.out
        obtain ⟨p, co⟩ := q
        simp only [Option.map_some, Option.getD_some, Option.isSome_some] at HCX Htk
        clear hf htk
        go_wp2_with (first
          | (go_at_call 35; rw [HX.out]; refine HCX.out.mono ?_; rintro _ w5 ⟨rfl, b5⟩; have B5 := hid (Below.on' BX.out b5); clear b5; unfold noneE coC; simp only [if_true])
          | (at_builtin; have b6 := hid (B5.out.alloc B5.out.size (.cells #[.string co.t, .string co.u, .string co.n, .int .u8 (co.sc : Int)] 59)); refine app_coU rfl (.tmp 29) (.tmp 31) rfl _ co rfl w2.heap.size u5 R rfl (own_onU Hrow.out b6.out) (by show Value.slice (some ⟨w5.heap.size + 1, 0, none⟩) 1 1 = _; simp) (by have := hlen.out; omega) (Nat.le_trans Hb.out.size b6.out.size) ?_; intro g9 m9 w8 h8 k8; have H8 := hid h8; have K8 := hid k8; clear h8 k8)
          | go_in)
        go_roundw
        case rel =>
          refine ⟨k + 1, by simp [gw.out], by have := Hlt.out; omega, ?_, (Hb.out.trans (b6.out.mono Hb.out.size)).grown K8.out (Nat.le_trans Hb.out.size b6.out.size) (fun k9 hk9 => (Hrow.out.lt k9 hk9).1)⟩
          rw [Htk.out]
          have h9 := H8.out
          simpa using h9
        case measure => exact measU _ _ _ Hlt.out gw.out
    · have hkn : k = n := by omega
      subst hkn
      have hd0 : decide ((k : Int) < (k : Int)) = false := by simp
      have hS : S.take k = S := by rw [Hn.out]; exact List.take_length
      rw [hS] at Hrow
      have hrow := Hrow.out
      obtain ⟨a5, c5, e5⟩ : ∃ a5 c5, u5 = .slice a5 (consF L s t u S).length c5 := by
        rcases hrow.2 with ⟨e1, h1⟩ | ⟨g1, cap, cur, e1, _⟩
        · exact ⟨none, 0, by rw [e1, h1]⟩
        · exact ⟨_, cap, e1⟩
      subst e5
      have HR := hid hrow
      clear hrow hlt hk hS
      go_wp2_with go_in
      go_ret
      exact ⟨a5, S, c5, rfl, P1.out, P2.out, own_baseU HR.out b2.out.size, b2.out.trans (Hb.out.mono b2.out.size)⟩
end
end Go.Proofs.YtlkbojgemcjilaaGreatDoor

/- Grants: how many consents a user has; Allow, the mathematics. -/
namespace Go.Proofs.YtlkbojgemcjilaaGreatDoor
open Go.RowKit Go.Maps Go.Shelf Go.Sort Go.Lib
set_option linter.unusedVariables false
set_option maxRecDepth 20000
def isU (t u : ByteArray) (a : Co) : Bool := decide (a.t = t ∧ a.u = u)
theorem isU_iff {t u : ByteArray} {a : Co} : isU t u a = true ↔ a.t = t ∧ a.u = u := by unfold isU; exact decide_eq_true_iff
def consN (s : GS) (t u : ByteArray) : Nat := (s.al.filter (isU t u)).length
theorem pw_mem {α : Type} {R : α → α → Prop} (hs : ∀ a b, R a b → R b a) : ∀ {l : List α}, l.Pairwise R → ∀ {a b : α}, a ∈ l → b ∈ l → a = b ∨ R a b
  | x :: l, h, a, b, ha, hb => by
    obtain ⟨h1, h2⟩ := List.pairwise_cons.1 h
    rcases List.mem_cons.1 ha with rfl | ha' <;> rcases List.mem_cons.1 hb with rfl | hb'
    · exact .inl rfl
    · exact .inr (h1 b hb')
    · exact .inr (hs _ _ (h1 a ha'))
    · exact pw_mem hs h2 ha' hb'
theorem GS.Ok.a_inj {s : GS} (h : s.Ok) {a b : Co} (ha : a ∈ s.al) (hb : b ∈ s.al) (e1 : a.t = b.t) (e2 : a.u = b.u) (e3 : a.n = b.n) : a = b :=
  (pw_mem (fun a b hn e => hn ⟨e.1.symm, e.2.1.symm, e.2.2.symm⟩) h.akeys ha hb).resolve_right (fun hn => hn ⟨e1, e2, e3⟩)
theorem GS.Ok.c_inj {s : GS} (h : s.Ok) {a b : Cl} (ha : a ∈ s.cs) (hb : b ∈ s.cs) (e1 : a.t = b.t) (e3 : a.n = b.n) : a = b :=
  (pw_mem (fun a b hn e => hn ⟨e.1.symm, e.2.symm⟩) h.keys ha hb).resolve_right (fun hn => hn ⟨e1, e3⟩)
theorem fA_some {s : GS} {t u n : ByteArray} {a : Co} (h : fA s t u n = some a) : a ∈ s.al ∧ a.t = t ∧ a.u = u ∧ a.n = n := by
  unfold fA at h
  have h9 := isA_iff.1 (List.find?_some h)
  exact ⟨List.mem_of_find?_eq_some h, h9⟩
theorem GS.Ok.fA_of {s : GS} (h : s.Ok) {a : Co} (ha : a ∈ s.al) : fA s a.t a.u a.n = some a := by
  cases hf : fA s a.t a.u a.n with
  | none =>
    unfold fA at hf
    have := List.find?_eq_none.1 hf a ha
    exact absurd (isA_iff.2 ⟨rfl, rfl, rfl⟩) (by simpa using this)
  | some b =>
    obtain ⟨h1, h2, h3, h4⟩ := fA_some hf
    rw [h.a_inj h1 ha h2 h3 h4]
theorem GS.Ok.a_nodup {s : GS} (h : s.Ok) : s.al.Nodup := h.akeys.imp fun {x y} hne e => hne (by rw [e]; exact ⟨rfl, rfl, rfl⟩)
theorem GS.Ok.c_nodup {s : GS} (h : s.Ok) : s.cs.Nodup := h.keys.imp fun {x y} hne e => hne (by rw [e]; exact ⟨rfl, rfl⟩)
section
variable {w w' : World} {B g mc d : Nat} {L : List Reg} {s : GS}
theorem SAt.fB_eq (h : SAt w B g mc L s d) (t u n : ByteArray) : (fB L s t u n).map (·.2) = fA s t u n := by
  unfold fB
  cases hc : fC L t n with
  | some p =>
    cases ha : fA s t u n with
    | none => rfl
    | some a => rfl
  | none =>
    cases ha : fA s t u n with
    | none => rfl
    | some a =>
      obtain ⟨h1, rfl, rfl, rfl⟩ := fA_some ha
      obtain ⟨_, _, _, c, h2, h3, h4, _⟩ := h.ok.anames a h1
      exact absurd ⟨h3, h4⟩ (fC_none_cs h hc c h2)
theorem SAt.consF_eq (h : SAt w B g mc L s d) (t u : ByteArray) (S : List Cl) : consF L s t u S = S.filterMap fun c => fA s t u c.n := by
  unfold consF
  congr 1
  funext c
  exact h.fB_eq t u c.n
theorem consF_perm (h : SAt w B g mc L s d) (t u : ByteArray) {S : List Cl} (hS : S.Perm (s.cs.filter (inT t))) : (consF L s t u S).Perm (s.al.filter (isU t u)) := by
  rw [h.consF_eq]
  refine (hS.filterMap _).trans ?_
  refine (List.perm_ext_iff_of_nodup ?_ (h.ok.a_nodup.filter _)).2 fun a => ?_
  · have h1 : (s.cs.filter (inT t)).Pairwise fun a b => ¬ a.n = b.n := (h.ok.keys.filter (inT t)).imp_of_mem fun {a b} ha hb hne e => hne ⟨(of_decide_eq_true (List.mem_filter.1 ha).2).trans (of_decide_eq_true (List.mem_filter.1 hb).2).symm, e⟩
    refine List.Pairwise.filterMap _ ?_ h1
    intro c c' hne a ha a' ha' e
    obtain ⟨_, _, _, e1⟩ := fA_some ha
    obtain ⟨_, _, _, e2⟩ := fA_some ha'
    exact hne (by rw [← e1, ← e2, e])
  · rw [List.mem_filterMap, List.mem_filter]
    constructor
    · rintro ⟨c, hc, ha⟩
      obtain ⟨h1, h2, h3, h4⟩ := fA_some ha
      exact ⟨h1, isU_iff.2 ⟨h2, h3⟩⟩
    · rintro ⟨h1, h2⟩
      obtain ⟨rfl, rfl⟩ := isU_iff.1 h2
      obtain ⟨_, _, _, c, h3, h4, h5, _⟩ := h.ok.anames a h1
      exact ⟨c, List.mem_filter.2 ⟨h3, by unfold inT; exact decide_eq_true h4⟩, by rw [h5]; exact h.ok.fA_of h1⟩
theorem consents_len (h : SAt w B g mc L s d) (hl9 : L.length ≤ 100000) (t u : ByteArray) : consN s t u ≤ 100000 := by
  unfold consN
  rw [← (consF_perm h t u (List.Perm.refl (s.cs.filter (inT t)))).length_eq]
  refine Nat.le_trans (consF_len _ _ _ _ _) (Nat.le_trans (List.length_filter_le _ _) ?_)
  rw [← h.cs, List.length_map]
  exact hl9
theorem consF_cnt (h : SAt w B g mc L s d) (t u : ByteArray) {S : List Cl} (hS : S.Perm (s.cs.filter (inT t))) : (consF L s t u S).length = consN s t u := (consF_perm h t u hS).length_eq
end
/-- Allow's answer -/
def allE (L : List Reg) (s : GS) (a : Co) : Nat :=
  if (okN a.t && okN a.u) = false then 8 else match fC L a.t a.n with
    | none => 4
    | some p => if nar a.sc p.c.sc = false then 14 else if (fA s a.t a.u a.n).isSome = false ∧ 4 ≤ consN s a.t a.u then 25 else 0
def GS.putA (s : GS) (a : Co) : GS := ⟨s.cs, s.al.filter (fun x => !isA a.t a.u a.n x) ++ [a]⟩
def GS.allow (L : List Reg) (s : GS) (a : Co) : GS := if allE L s a = 0 then s.putA a else s
theorem GS.Ok.putA {s : GS} (h : s.Ok) {a : Co} {c : Cl} (h1 : okN a.t = true) (h2 : okN a.u = true) (h3 : a.sc ≤ 255) (hc : c ∈ s.cs) (h4 : c.t = a.t) (h5 : c.n = a.n) (h6 : a.sc &&& c.sc = a.sc) : (s.putA a).Ok := by
  refine ⟨h.names, h.keys, fun x hx => ?_, ?_⟩
  · rcases List.mem_append.1 hx with hx | hx
    · exact h.anames x (List.mem_filter.1 hx).1
    · obtain rfl := List.mem_singleton.1 hx
      exact ⟨h1, h2, h3, c, hc, h4, h5, h6⟩
  · refine List.pairwise_append.2 ⟨h.akeys.filter _, List.pairwise_singleton _ _, fun x hx y hy => ?_⟩
    obtain rfl := List.mem_singleton.1 hy
    have h9 := (List.mem_filter.1 hx).2
    intro e
    rw [isA_iff.2 e] at h9
    cases h9
theorem isA_ofC {t u n : ByteArray} (a : Co) : isA t u n a = (ofC t n a && decide (a.u = u)) := by
  unfold ofC isA
  by_cases h1 : a.t = t <;> by_cases h2 : a.n = n <;> by_cases h3 : a.u = u <;> simp [h1, h2, h3]
theorem ARel.putA {s : GS} (hok : s.Ok) {D : DataW Unit} {a : Co} (h : ARel D (s.al.filter (ofC a.t a.n))) :
    ARel (D.put (.string a.u.data.toList) (.lit (.int .u8 (a.sc : Int)))) ((s.putA a).al.filter (ofC a.t a.n)) := by
  have hself : ofC a.t a.n a = true := ofC_iff.2 ⟨rfl, rfl⟩
  have e : (s.putA a).al.filter (ofC a.t a.n) = ((s.al.filter (ofC a.t a.n)).filter fun x => !decide (x.u = a.u)) ++ [a] := by
    show (s.al.filter (fun x => !isA a.t a.u a.n x) ++ [a]).filter _ = _
    rw [List.filter_append, List.filter_filter, List.filter_filter, List.filter_cons_of_pos hself, List.filter_nil]
    congr 2
    funext x
    rw [isA_ofC]
    cases ofC a.t a.n x <;> simp
  rw [e]
  refine ⟨h.tidy.put (str_lit _) _, fun v => ?_, fun b hb z => ?_, ?_⟩
  · rw [List.any_append, List.any_cons, List.any_nil, Bool.or_false]
    by_cases e : v = a.u
    · subst e
      rw [has_put_same h.tidy.isMap (str_lit _)]
      simp
    · rw [has_put_other (fun e' => e (str_inj e')), h.has]
      have : ¬ a.u = v := fun e' => e e'.symm
      simp only [this, decide_false, Bool.or_false]
      conv => rhs; rw [List.any_filter]
      congr 1
      funext x
      by_cases h1 : x.u = v
      · subst h1
        simp [e]
      · simp [h1]
  · rcases List.mem_append.1 hb with hb | hb
    · obtain ⟨h1, h2⟩ := List.mem_filter.1 hb
      have hne : (Lit.string b.u.data.toList) ≠ .string a.u.data.toList := fun e => by
        rw [str_inj e] at h2
        simp at h2
      rw [atKey_put_other hne, h.at' b h1]
    · obtain rfl := List.mem_singleton.1 hb
      rw [atKey_put_same h.tidy.isMap (str_lit _)]
  · rw [size_put h.tidy, h.has, h.size, List.length_append]
    have hq : (s.al.filter (ofC a.t a.n)).Pairwise fun x y => ¬ (decide (x.u = a.u) = true ∧ decide (y.u = a.u) = true) := (users_apart hok a.t a.n).imp fun {x y} hne e => hne ((of_decide_eq_true e.1).trans (of_decide_eq_true e.2).symm)
    have h2 := len_drop (fun x : Co => decide (x.u = a.u)) _ hq
    show _ = _ + 1
    generalize ((s.al.filter (ofC a.t a.n)).any fun x => decide (x.u = a.u)) = b at h2 ⊢
    cases b
    · simp at h2 ⊢
      omega
    · simp at h2 ⊢
      omega
end Go.Proofs.YtlkbojgemcjilaaGreatDoor

/- Grants: Allow, the walk. -/
namespace Go.Proofs.YtlkbojgemcjilaaGreatDoor
open Go.RowKit Go.Maps Go.Shelf Go.Sort Go.Lib
set_option linter.unusedVariables false
set_option maxRecDepth 20000
section
variable {w w' : World} {B g mc d : Nat} {L : List Reg} {s : GS}
theorem SAt.putA (h : SAt w B g mc L s d) {p : Reg} (hp : p ∈ L) (a : Co) (ht : p.c.t = a.t) (hn : p.c.n = a.n) (h1 : okN a.t = true) (h2 : okN a.u = true) (h3 : a.sc ≤ 255) (h6 : a.sc &&& p.c.sc = a.sc) (k : Nat) (D : DataW Unit) (hk : k ≤ d) (hD : ARel D (s.al.filter (ofC a.t a.n)))
    (hm : w'.ownsMap Tryz.prog 9 (plainElem Tryz.prog 31) p.m (k + 1) (D.put (.string a.u.data.toList) (.lit (.int .u8 (a.sc : Int))))) (hg : w.grownBy w' (some p.m)) : SAt w' B g mc L (s.putA a) (d + 1) := by
  have hok := h.ok.putA h1 h2 h3 (h.mem_cs hp) ht hn h6
  refine h.turnA hp (Nat.le_succ d) hok (k + 1) _ (by omega) ?_ (fun q hq hne => ?_) hm hg
  · rw [ht, hn]
    exact hD.putA h.ok
  · show (s.al.filter (fun x => !isA a.t a.u a.n x) ++ [a]).filter _ = _
    have hne' : ofC q.c.t q.c.n a = false := by
      cases h9 : ofC q.c.t q.c.n a with
      | false => rfl
      | true =>
        obtain ⟨e1, e2⟩ := ofC_iff.1 h9
        exact absurd (h.key_inj hq hp (by rw [← e1, ← e2, ht, hn])) hne
    rw [List.filter_append, List.filter_cons_of_neg (by rw [hne']; simp), List.filter_nil, List.append_nil, List.filter_filter]
    refine List.filter_congr fun x hx => ?_
    cases h9 : ofC q.c.t q.c.n x with
    | false => rfl
    | true =>
      obtain ⟨e1, e2⟩ := ofC_iff.1 h9
      have : isA a.t a.u a.n x = false := by
        cases h8 : isA a.t a.u a.n x with
        | false => rfl
        | true =>
          obtain ⟨e3, _, e4⟩ := isA_iff.1 h8
          rw [ofC_iff.2 ⟨by rw [← e1, e3], by rw [← e2, e4]⟩] at hne'
          cases hne'
      rw [this]
      rfl
set_option maxHeartbeats 8000000 in
theorem allow_any (h : SAt w B g mc L s d) (hd : d ≤ 17592186044416) (hl9 : L.length ≤ 100000) (hB : B ≤ w.heap.size) (a : Co) (ht : a.t.size ≤ maxLen) (hu : a.u.size ≤ maxLen) (hn : a.n.size ≤ maxLen) (hsc : a.sc ≤ 255) :
    Calls Tryz.prog 20 #[.pointer (some ⟨g, 0, none⟩), .agg (coC a)] w fun e w' => e = .returned (.int .i64 (allE L s a : Nat)) ∧ OutJ (MineU g mc L) w w' ∧ SAt w' B g mc L (s.allow L a) (d + 1) := by
  obtain ⟨W, hW⟩ : ∃ W, W = w.alloc (.cells (coC a) 59) := ⟨_, rfl⟩
  have b0 : Below w.heap.size w W := by rw [hW]; exact (Below.refl _ w).alloc (Nat.le_refl _) _
  have x0 : W.heap[w.heap.size]? = some (.cells (coC a) 59 (0, 0)) := by rw [hW]; exact heap_allocN w _
  have h0 := h.below b0
  have HX := hid (fun (V : World) (hV : Below W.heap.size W V) => (hV.block _ (heap_lt x0)).trans x0)
  have HP := hid (fun (V : World) (hV : V.heap[w.heap.size]? = some (.cells (coC a) 59 (0, 0))) => (show V.cell? ⟨w.heap.size, 0, none⟩ = some (.string a.t) ∧ V.cell? ⟨w.heap.size, 1, none⟩ = some (.string a.u) ∧ V.cell? ⟨w.heap.size, 2, none⟩ = some (.string a.n) ∧ V.cell? ⟨w.heap.size, 3, none⟩ = some (.int .u8 (a.sc : Int)) from
    ⟨(cell_of_rowU _ _ 0 _ _ _ hV).trans rfl, (cell_of_rowU _ _ 1 _ _ _ hV).trans rfl, (cell_of_rowU _ _ 2 _ _ _ hV).trans rfl, (cell_of_rowU _ _ 3 _ _ _ hV).trans rfl⟩))
  obtain ⟨y0, y1, y2, y3⟩ := HP.out W x0
  have HO := hid (isOwner_any a.t a.u W ht hu)
  have HF := hid (fun (V : World) (hV : Below W.heap.size W V) => find_any (h0.below hV) a.t a.n ht hn)
  have HW : Hid (w.alloc (.cells (coC a) 59) = W) := hid hW.symm
  have B0 := hid b0
  have H := hid h
  have H0 := hid h0
  have HZ := hid (And.intro hd (And.intro hl9 (And.intro hB (And.intro ht (And.intro hu (And.intro hn hsc))))))
  obtain ⟨E, hE⟩ : ∃ E, E = allE L s a := ⟨_, rfl⟩
  obtain ⟨s9, hs9⟩ : ∃ s9, s9 = s.allow L a := ⟨_, rfl⟩
  rw [← hE, ← hs9]
  unfold GS.allow at hs9
  rw [← hE] at hs9
  unfold allE at hE
  have hbk : ∀ V, Below W.heap.size W V → Below w.heap.size w V := fun V hV => Below.on' b0 hV
  have HB := hid hbk
  unfold coC at HW HX HP ⊢
  rw [← HW.out] at y0 y1 y2 y3
  cases ho : okN a.t && okN a.u with
  | false =>
    rw [ho] at HO
    rw [if_pos ho] at hE
    subst hE
    rw [if_neg (by decide)] at hs9
    subst hs9
    clear h h0 hW b0 x0 ho ht hu hn hsc hd hl9 hB hbk
    go_enter Tryz.func20, Tryz.ntmps20
    go_wp2_with (go_at_call 54; rw [HW.out]; refine HO.out.mono ?_; rintro _ w1 ⟨rfl, b1⟩; have B1 := hid (HB.out _ b1); clear b1)
    go_ret
    exact ⟨rfl, OutJ.of_below B1.out, (H.out.below B1.out).mono (Nat.le_succ d)⟩
  | true =>
    rw [ho] at HO
    rw [if_neg (by rw [ho]; simp)] at hE
    obtain ⟨ok1, ok2⟩ : okN a.t = true ∧ okN a.u = true := by simpa using ho
    have HK := hid (And.intro ok1 ok2)
    cases hf : fC L a.t a.n with
    | none =>
      rw [hf] at HF hE
      simp only at hE
      subst hE
      rw [if_neg (by decide)] at hs9
      subst hs9
      clear h h0 hW b0 x0 ho ht hu hn hsc hd hl9 hB hbk hf ok1 ok2
      go_enter Tryz.func20, Tryz.ntmps20
      go_wp2_with (first
        | (go_at_call 54; rw [HW.out]; refine HO.out.mono ?_; rintro _ w1 ⟨rfl, b1⟩; have BW := hid b1; obtain ⟨z0, z1, z2, z3⟩ := HP.out w1 (HX.out w1 b1); clear b1)
        | (go_at_call 52; refine (HF.out _ BW.out).mono ?_; rintro _ w2 ⟨rfl, e2⟩; subst w2; unfold noneE; simp only [Option.isSome_none, Bool.false_eq_true, if_false]))
      go_ret
      exact ⟨rfl, OutJ.of_below (HB.out _ BW.out), (H.out.below (HB.out _ BW.out)).mono (Nat.le_succ d)⟩
    | some p =>
      rw [hf] at HF hE
      obtain ⟨hp, hpt, hpn⟩ := fC_some hf
      simp only [Option.map_some, Option.isSome_some] at HF hE
      have Hp := hid (And.intro hp (And.intro hpt hpn))
      have hps := (h.ok.names _ (h.mem_cs hp)).2.2.2
      have HN := hid (fun (V : World) => isNarrower_any a.sc p.c.sc hsc hps V)
      have HR := hid (fun (V : World) (hV : Below W.heap.size W V) => ((h0.below hV).regs p hp).c)
      cases hnr : nar a.sc p.c.sc with
      | false =>
        rw [hnr] at HN
        rw [if_pos hnr] at hE
        subst hE
        rw [if_neg (by decide)] at hs9
        subst hs9
        clear h h0 hW b0 x0 ho ht hu hn hsc hd hl9 hB hbk hf ok1 ok2 hp hpt hpn hps hnr
        go_enter Tryz.func20, Tryz.ntmps20
        go_wp2_with (first
          | (go_at_call 54; rw [HW.out]; refine HO.out.mono ?_; rintro _ w1 ⟨rfl, b1⟩; have BW := hid b1; obtain ⟨z0, z1, z2, z3⟩ := HP.out w1 (HX.out w1 b1); obtain ⟨r0, r1, r2⟩ := HR.out w1 b1; clear b1)
          | (go_at_call 52; refine (HF.out _ BW.out).mono ?_; rintro _ w2 ⟨rfl, e2⟩; subst w2; unfold noneE; simp only [if_true]))
        go_quiet ((go_at_call 55; refine Calls.quiet_of_same (HN.out _)))
        go_wp2
        go_ret
        have b9 : Below w.heap.size w (w1.drewN nq) := (HB.out _ BW.out).trans (below_dN _ _ _)
        exact ⟨rfl, OutJ.of_below b9, (H.out.below b9).mono (Nat.le_succ d)⟩
      | true =>
        rw [hnr] at HN
        rw [if_neg (by rw [hnr]; simp)] at hE
        have hand : a.sc &&& p.c.sc = a.sc := by unfold nar at hnr; exact of_decide_eq_true hnr
        have Hand := hid hand
        have HLk := hid (fun (V : World) (hV : Below W.heap.size W V) (q : Nat) => (((h0.below hV).regs p hp).below (below_dN _ V q)).look a.u hu)
        have HC := hid (fun (V : World) (hV : Below W.heap.size W V) => consents_any (h0.below hV) hl9 a.t a.u ht hu)
        have HCn := hid (fun (S : List Cl) (hS : S.Perm (s.cs.filter (inT a.t))) => consF_cnt h a.t a.u hS)
        have Hkl := hid (Go.WideMaps.keyOf_string_mk Tryz.underlying9 (s := a.u) hu)
        have hfa : s.al.find? (isA p.c.t a.u p.c.n) = fA s a.t a.u a.n := by rw [hpt, hpn]; rfl
        rw [hfa] at HLk
        cases hg : fA s a.t a.u a.n with
        | some b =>
          rw [hg] at HLk hE
          rw [if_neg (by simp)] at hE
          subst hE
          rw [if_pos rfl] at hs9
          subst hs9
          simp only [Option.map_some, Option.getD_some, Option.isSome_some] at HLk
          clear h h0 hW b0 x0 ho ht hu hn hsc hd hl9 hB hbk hf ok1 ok2 hp hpt hpn hps hnr hand hfa hg HC HCn
          go_enter Tryz.func20, Tryz.ntmps20
          go_wp2_with (first
            | (go_at_call 54; rw [HW.out]; refine HO.out.mono ?_; rintro _ w1 ⟨rfl, b1⟩; have BW := hid b1; obtain ⟨z0, z1, z2, z3⟩ := HP.out w1 (HX.out w1 b1); obtain ⟨r0, r1, r2⟩ := HR.out w1 b1; clear b1)
            | (go_at_call 52; refine (HF.out _ BW.out).mono ?_; rintro _ w2 ⟨rfl, e2⟩; subst w2; unfold noneE; simp only [if_true]))
          go_quiet ((go_at_call 55; refine Calls.quiet_of_same (HN.out _)))
          go_wp2
          obtain ⟨V, hV⟩ : ∃ V, V = w1.drewN nq := ⟨_, rfl⟩
          have bV : Below W.heap.size W V := by rw [hV]; exact Below.on' BW.out (below_dN _ _ _)
          rw [← hV]
          clear z0 z1 z2 z3 r0 r1 r2
          obtain ⟨z0, z1, z2, z3⟩ := HP.out V (HX.out V bV)
          obtain ⟨r0, r1, r2⟩ := HR.out V bV
          have hlk := HLk.out V bV
          have BV := hid bV
          clear bV hV HLk
          go_quiet (fail)
          go_wp2
          clear z0 z1 z2 z3 r0 r1 r2 hlk
          obtain ⟨U, hU⟩ : ∃ U, U = V.drewN nq := ⟨_, rfl⟩
          have bU : Below W.heap.size W U := by rw [hU]; exact Below.on' BV.out (below_dN _ _ _)
          rw [← hU]
          have BU := hid bU
          clear bU hU
          obtain ⟨z0, z1, z2, z3⟩ := HP.out U (HX.out U BU.out)
          have bUd : Below W.heap.size W U.drew := Below.on' BU.out (below_dN _ _ 1)
          have H1 := hid (H0.out.below bUd)
          obtain ⟨r0, r1, r2⟩ := HR.out U BU.out
          obtain ⟨hp, hpt, hpn⟩ := Hp.out
          obtain ⟨_, _, _, k, D, hmm, hk, hD⟩ := H1.out.regs p hp
          rw [hpt, hpn] at hD
          have hwf : (Lit.int .u8 (a.sc : Int)).wf = true := by have := HZ.out.2.2.2.2.2.2; simp [Lit.wf, IntKind.min, IntKind.max, IntKind.signed, IntKind.bits]; omega
          obtain ⟨w2, hrun, hown2, ht2⟩ := hmm.store (key := .string a.u) (val := .int .u8 (a.sc : Int)) (d := .lit (.int .u8 (a.sc : Int))) (ps := []) lawStr Tryz.underlying64 (by have := HZ.out.1; unfold maxLen; omega) Hkl.out (plainElem_int Tryz.underlying31 hwf)
          have hg2 := ht2.grown
          have xU := HX.out U.drew bUd
          have x2 := (hg2.block w.heap.size (heap_lt xU) (fun e => cells_ne_map hmm xU (Option.some.inj e))).trans xU
          obtain ⟨q0, q1, q2, q3⟩ := HP.out _ x2
          have hS := H1.out.putA hp a hpt hpn HK.out.1 HK.out.2 HZ.out.2.2.2.2.2.2 Hand.out k D hk hD hown2 hg2
          have s2 := (hS.regs p hp).c.2.2
          have H2 := hid hS
          have O2 := hid ((OutJ.of_below (P := MineU g mc L) (HB.out _ bUd)).trans (OutJ.of_grown (P := MineU g mc L) hg2 (.inr (.inr ⟨p, hp, .inr rfl⟩))))
          clear z0 z2 r0 r1 q0 q2 hmm hk hD hwf hown2 hg2 ht2 xU x2 hS bUd hp hpt hpn
          go_region_held3 (fun w9 => w9.cell? ⟨w.heap.size, 1, none⟩ = some (.string a.u) ∧ w9.cell? ⟨w.heap.size, 3, none⟩ = some (.int .u8 (a.sc : Int)) ∧ w9.cell? ⟨p.r, 2, none⟩ = some (.map (some p.m)))
            (first
              | exact ⟨z1, z3, r2⟩
              | exact ⟨q1, q3, s2⟩)
            (fail)
          go_wp2
          go_ret
          exact ⟨rfl, O2.out, H2.out⟩
        | none =>
          rw [hg] at HLk hE
          simp only [Option.isSome_none, true_and] at hE
          simp only [Option.map_none, Option.getD_none, Option.isSome_none] at HLk
          have Hcn9 := hid (show consN s a.t a.u ≤ 100000 from by
            have h9 := consents_len h hl9 a.t a.u
            exact h9)
          clear h h0 hW b0 x0 ho ht hu hn hsc hd hl9 hB hbk hf ok1 ok2 hp hpt hpn hps hnr hand hfa hg
          obtain ⟨m, hm⟩ : ∃ m, m = consN s a.t a.u := ⟨_, rfl⟩
          rw [← hm] at hE HCn
          have Hm := hid hm
          clear hm
          by_cases h4 : 4 ≤ m
          · rw [if_pos h4] at hE
            subst hE
            rw [if_neg (by decide)] at hs9
            subst hs9
            have d4 : decide ((4 : Int) ≤ (m : Int)) = true := by simp; omega
            clear h4
            go_enter Tryz.func20, Tryz.ntmps20
            go_wp2_with (first
              | (go_at_call 54; rw [HW.out]; refine HO.out.mono ?_; rintro _ w1 ⟨rfl, b1⟩; have BW := hid b1; obtain ⟨z0, z1, z2, z3⟩ := HP.out w1 (HX.out w1 b1); obtain ⟨r0, r1, r2⟩ := HR.out w1 b1; clear b1)
              | (go_at_call 52; refine (HF.out _ BW.out).mono ?_; rintro _ w2 ⟨rfl, e2⟩; subst w2; unfold noneE; simp only [if_true]))
            go_quiet ((go_at_call 55; refine Calls.quiet_of_same (HN.out _)))
            go_wp2
            obtain ⟨V, hV⟩ : ∃ V, V = w1.drewN nq := ⟨_, rfl⟩
            have bV : Below W.heap.size W V := by rw [hV]; exact Below.on' BW.out (below_dN _ _ _)
            rw [← hV]
            clear z0 z1 z2 z3 r0 r1 r2
            obtain ⟨z0, z1, z2, z3⟩ := HP.out V (HX.out V bV)
            obtain ⟨r0, r1, r2⟩ := HR.out V bV
            have hlk := HLk.out V bV
            have BV := hid bV
            clear bV hV HLk
            go_quiet (fail)
            clear z0 z1 z2 z3 r0 r1 r2 hlk
            obtain ⟨T, hT⟩ : ∃ T, T = V.drewN nq := ⟨_, rfl⟩
            have bT : Below W.heap.size W T := by rw [hT]; exact Below.on' BV.out (below_dN _ _ _)
            rw [← hT]
            obtain ⟨z0, z1, z2, z3⟩ := HP.out T (HX.out T bT)
            have BT := hid bT
            clear bT hT
            go_wp2_with (go_at_call 39; refine (HC.out _ BT.out).mono ?_; rintro _ U ⟨v, S, c, rfl, p1, p2, p3, p4⟩; rw [HCn.out S p1]; have BU := hid (Below.on' BT.out p4); clear p1 p2 p3 p4)
            clear z0 z1 z2 z3
            go_ret
            exact ⟨rfl, OutJ.of_below (HB.out _ BU.out), (H.out.below (HB.out _ BU.out)).mono (Nat.le_succ d)⟩
          · rw [if_neg h4] at hE
            subst hE
            rw [if_pos rfl] at hs9
            subst hs9
            have d4 : decide ((4 : Int) ≤ (m : Int)) = false := by simp; omega
            clear h4
            go_enter Tryz.func20, Tryz.ntmps20
            go_wp2_with (first
              | (go_at_call 54; rw [HW.out]; refine HO.out.mono ?_; rintro _ w1 ⟨rfl, b1⟩; have BW := hid b1; obtain ⟨z0, z1, z2, z3⟩ := HP.out w1 (HX.out w1 b1); obtain ⟨r0, r1, r2⟩ := HR.out w1 b1; clear b1)
              | (go_at_call 52; refine (HF.out _ BW.out).mono ?_; rintro _ w2 ⟨rfl, e2⟩; subst w2; unfold noneE; simp only [if_true]))
            go_quiet ((go_at_call 55; refine Calls.quiet_of_same (HN.out _)))
            go_wp2
            obtain ⟨V, hV⟩ : ∃ V, V = w1.drewN nq := ⟨_, rfl⟩
            have bV : Below W.heap.size W V := by rw [hV]; exact Below.on' BW.out (below_dN _ _ _)
            rw [← hV]
            clear z0 z1 z2 z3 r0 r1 r2
            obtain ⟨z0, z1, z2, z3⟩ := HP.out V (HX.out V bV)
            obtain ⟨r0, r1, r2⟩ := HR.out V bV
            have hlk := HLk.out V bV
            have BV := hid bV
            clear bV hV HLk
            go_quiet (fail)
            clear z0 z1 z2 z3 r0 r1 r2 hlk
            obtain ⟨T, hT⟩ : ∃ T, T = V.drewN nq := ⟨_, rfl⟩
            have bT : Below W.heap.size W T := by rw [hT]; exact Below.on' BV.out (below_dN _ _ _)
            rw [← hT]
            obtain ⟨z0, z1, z2, z3⟩ := HP.out T (HX.out T bT)
            have BT := hid bT
            clear bT hT
            go_wp2_with (go_at_call 39; refine (HC.out _ BT.out).mono ?_; rintro _ U ⟨v, S, c, rfl, p1, p2, p3, p4⟩; rw [HCn.out S p1]; have BU := hid (Below.on' BT.out p4); clear p1 p2 p3 p4)
            clear z0 z1 z2 z3
            obtain ⟨z0, z1, z2, z3⟩ := HP.out U (HX.out U BU.out)
            have bUd : Below W.heap.size W U.drew := Below.on' BU.out (below_dN _ _ 1)
            have H1 := hid (H0.out.below bUd)
            obtain ⟨r0, r1, r2⟩ := HR.out U BU.out
            obtain ⟨hp, hpt, hpn⟩ := Hp.out
            obtain ⟨_, _, _, k, D, hmm, hk, hD⟩ := H1.out.regs p hp
            rw [hpt, hpn] at hD
            have hwf : (Lit.int .u8 (a.sc : Int)).wf = true := by have := HZ.out.2.2.2.2.2.2; simp [Lit.wf, IntKind.min, IntKind.max, IntKind.signed, IntKind.bits]; omega
            obtain ⟨w2, hrun, hown2, ht2⟩ := hmm.store (key := .string a.u) (val := .int .u8 (a.sc : Int)) (d := .lit (.int .u8 (a.sc : Int))) (ps := []) lawStr Tryz.underlying64 (by have := HZ.out.1; unfold maxLen; omega) Hkl.out (plainElem_int Tryz.underlying31 hwf)
            have hg2 := ht2.grown
            have xU := HX.out U.drew bUd
            have x2 := (hg2.block w.heap.size (heap_lt xU) (fun e => cells_ne_map hmm xU (Option.some.inj e))).trans xU
            obtain ⟨q0, q1, q2, q3⟩ := HP.out _ x2
            have hS := H1.out.putA hp a hpt hpn HK.out.1 HK.out.2 HZ.out.2.2.2.2.2.2 Hand.out k D hk hD hown2 hg2
            have s2 := (hS.regs p hp).c.2.2
            have H2 := hid hS
            have O2 := hid ((OutJ.of_below (P := MineU g mc L) (HB.out _ bUd)).trans (OutJ.of_grown (P := MineU g mc L) hg2 (.inr (.inr ⟨p, hp, .inr rfl⟩))))
            clear z0 z2 r0 r1 q0 q2 hmm hk hD hwf hown2 hg2 ht2 xU x2 hS bUd hp hpt hpn
            go_region_held3 (fun w9 => w9.cell? ⟨w.heap.size, 1, none⟩ = some (.string a.u) ∧ w9.cell? ⟨w.heap.size, 3, none⟩ = some (.int .u8 (a.sc : Int)) ∧ w9.cell? ⟨p.r, 2, none⟩ = some (.map (some p.m)))
              (first
                | exact ⟨z1, z3, r2⟩
                | exact ⟨q1, q3, s2⟩)
              (fail)
            go_wp2
            go_ret
            exact ⟨rfl, O2.out, H2.out⟩
end
end Go.Proofs.YtlkbojgemcjilaaGreatDoor
