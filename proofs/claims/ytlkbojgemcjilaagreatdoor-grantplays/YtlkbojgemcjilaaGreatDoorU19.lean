/- Grants: Consents. -/
import Derived.Test.YtlkbojgemcjilaaGreatDoorU18
namespace Go.Proofs.YtlkbojgemcjilaaGreatDoor
open Go.RowKit Go.Maps Go.Shelf Go.Sort Go.Lib
set_option linter.unusedVariables false
set_option maxRecDepth 20000
def coCells (l : List Co) : List Value := l.flatMap fun a => [.string a.t, .string a.u, .string a.n, .int .u8 (a.sc : Int)]
theorem coCells_snoc (l : List Co) (a : Co) : coCells (l ++ [a]) = coCells l ++ [.string a.t, .string a.u, .string a.n, .int .u8 (a.sc : Int)] := by simp [coCells]
theorem coInfo : (Tryz.prog.info? 59).map (fun i => (i.zero, i.size, i.bytes)) = some (some (.agg #[.string ⟨#[]⟩, .string ⟨#[]⟩, .string ⟨#[]⟩, .int .u8 0]), 4, 56) := by kernel_rfl
theorem own_onU {w w' : World} {B e s n : Nat} {v : Value} {xs : List Value} (h : w.ownsRow B e s v n xs) (hb : Below w.heap.size w w') : w'.ownsRow B e s v n xs :=
  h.kept (row := none) ⟨hb.os, hb.tape, hb.output, hb.size, fun k hk _ => hb.block k hk⟩ (Classical.em _)
theorem app_coU {W : World} {ops : Array Oper} {rest : List Oper} {o : Oper} {a : Act} {Q : Exit → Act → World → Prop} (hgd : o.guard = none) (sl x : Operand)
    (ho : o.op = .call { callee := .builtin .append, args := #[sl, x], argTypes := #[51, 51] }) (w : World) (c : Co) (hW : W = w.alloc (.cells #[.string c.t, .string c.u, .string c.n, .int .u8 (c.sc : Int)] 59)) (base : Nat) (v : Value) (l : List Co) (hs : a.eval sl = v)
    (hown : w.ownsRow base 59 4 v l.length (coCells l)) (hx : a.eval x = .slice (some ⟨w.heap.size, 0, none⟩) 1 1) (hb : l.length ≤ 2000000000) (hbase : base ≤ w.heap.size)
    (h : ∀ g m w', w'.ownsRow base 59 4 (.slice (some ⟨g, 0, none⟩) (l ++ [c]).length m) (l ++ [c]).length (coCells (l ++ [c])) → w.grownBy w' v.ownBlock → wpList Tryz.prog ops Q rest (a.put o.dst (.slice (some ⟨g, 0, none⟩) (l ++ [c]).length m)) w') :
    wpList Tryz.prog ops Q (o :: rest) a W := by
  subst hW
  obtain ⟨i0, hi, hz0, hz1, hz2⟩ := info_parts coInfo
  refine wpList_append_own _ hgd sl x 51 ho base 59 i0 _ 4 56 Tryz.underlying51 hi hz0 hz1 hz2 rfl (by decide) v l.length (coCells l) hs (hown.alloc _) ⟨w.heap.size, 0, none⟩ 1 1 [.string c.t, .string c.u, .string c.n, .int .u8 (c.sc : Int)] hx rfl (World.news_of_block (cs := #[.string c.t, .string c.u, .string c.n, .int .u8 (c.sc : Int)]) (t := 59) (fr := (0, 0)) (MapKept.heap_alloc w _).1) (by simp [Value.oneCell']) (by unfold maxLen; omega) (by omega) (by simp; omega) ?_
  intro v' w' h1 h2 h3
  rw [← coCells_snoc l c, show l.length + 1 = (l ++ [c]).length by simp] at h1
  obtain ⟨g, m, rfl⟩ := own_someU h1 (by simp)
  exact h g m w' h1 ((World.grownBy_alloc w _ _).trans h2)
theorem own_baseU {w : World} {B B' e s n : Nat} {v : Value} {xs : List Value} (h : w.ownsRow B e s v n xs) (hB : B' ≤ B) : w.ownsRow B' e s v n xs := by
  refine ⟨h.1, h.2.imp id ?_⟩
  rintro ⟨g, cap, cur, e1, e2, e3⟩
  exact ⟨g, cap, cur, e1, Nat.le_trans hB e2, e3⟩
theorem measU (k n : Nat) (v : Int) (h : k < n) (e : v = (k : Int) + 1) : n - (intOf (.int .i64 v)).toNat < n - (intOf (.int .i64 (k : Int))).toNat := by
  rw [e]
  simp only [intOf]
  omega
/-- the consents of a user for clients, in their order -/
def consF (L : List Reg) (s : GS) (t u : ByteArray) (S : List Cl) : List Co := S.filterMap fun c => (fB L s t u c.n).map (·.2)
theorem consF_len (L : List Reg) (s : GS) (t u : ByteArray) (S : List Cl) : (consF L s t u S).length ≤ S.length := List.length_filterMap_le _ _
theorem consF_take (L : List Reg) (s : GS) (t u : ByteArray) {S : List Cl} {k : Nat} (hk : k < S.length) : consF L s t u (S.take (k + 1)) = consF L s t u (S.take k) ++ ((fB L s t u S[k].n).map (·.2)).toList := by
  unfold consF
  rw [← List.take_append_getElem hk, List.filterMap_append]
  congr 1
section
variable {w : World} {B g mc d : Nat} {L : List Reg} {s : GS}
set_option maxHeartbeats 4000000 in
theorem consents_any (h : SAt w B g mc L s d) (hl9 : L.length ≤ 100000) (t u : ByteArray) (ht : t.size ≤ maxLen) (hu : u.size ≤ maxLen) :
    Calls Tryz.prog 39 #[.pointer (some ⟨g, 0, none⟩), .agg #[.string t, .string u]] w fun e w' => ∃ v S c, e = .returned (.slice v (consF L s t u S).length c) ∧ S.Perm (s.cs.filter (inT t)) ∧ NameOrder S ∧ w'.ownsRow w.heap.size 59 4 (.slice v (consF L s t u S).length c) (consF L s t u S).length (coCells (consF L s t u S)) ∧ Below w.heap.size w w' := by
  obtain ⟨W, hW⟩ : ∃ W, W = w.alloc (.cells #[.string t, .string u] 30) := ⟨_, rfl⟩
  have b0 : Below w.heap.size w W := by rw [hW]; exact (Below.refl _ w).alloc (Nat.le_refl _) _
  have x0 : W.heap[w.heap.size]? = some (.cells #[.string t, .string u] 30 (0, 0)) := by rw [hW]; exact heap_allocN w _
  have o0 : W.cell? ⟨w.heap.size, 0, none⟩ = some (.string t) := (cell_of_rowU _ _ 0 _ _ _ x0).trans rfl
  have h0 := h.below b0
  have hlS : (s.cs.filter (inT t)).length ≤ 100000 := by
    refine Nat.le_trans (List.length_filter_le _ _) ?_
    rw [← h.cs, List.length_map]
    exact hl9
  have hcs : ∀ c ∈ s.cs, c.n.size ≤ maxLen := fun c hc => by have := okN_len (h.ok.names c hc).2.1; unfold maxLen; omega
  have HC := hid (clients_any h0 hl9 t ht)
  have HW := hid hW.symm
  have B0 := hid b0
  have X0 := hid x0
  have H0 := hid h0
  have Htu := hid (And.intro ht hu)
  have HlS := hid hlS
  have Hcs := hid hcs
  rw [← HW.out] at o0
  clear h h0 hW b0 x0 hl9 hlS hcs
  go_enter Tryz.func39, Tryz.ntmps39
  go_wp2_with (go_at_call 37; rw [HW.out]; refine HC.out.mono ?_; rintro _ w2 ⟨v, S, rfl, p1, p2, p3, p4⟩; obtain ⟨n, hn⟩ : ∃ n, n = S.length := ⟨_, rfl⟩; rw [← hn] at p3; obtain ⟨a9, c9, rfl⟩ : ∃ a9 c9, v = .slice a9 n c9 := (by rcases p3.2 with ⟨e1, h1⟩ | ⟨g1, cap, cur, e1, _⟩; exact ⟨none, 0, by rw [e1, h1]⟩; exact ⟨_, cap, e1⟩); have Hn := hid hn; have P1 := hid p1; have P2 := hid p2; have P3 := hid p3; have P4 := hid p4; clear p1 p2 p3 p4 hn)
  clear o0
  have b2 := hid (Below.on' B0.out (P4.out.mono (Nat.le_refl _)))
  go_loopw [5, 7, 8, 9, 15] (fun v5 v7 v8 v9 i wr => ∃ (k : Nat), i = .int .i64 (k : Int) ∧ k ≤ n ∧ wr.ownsRow w2.heap.size 59 4 v5 (consF L s t u (S.take k)).length (coCells (consF L s t u (S.take k))) ∧ Below w2.heap.size w2 wr) (fun _ _ _ _ i _ => n - (intOf i).toNat)
  case atStart => exact ⟨0, rfl, Nat.zero_le _, World.ownsRow_nil _ _ _ _, Below.refl _ _⟩
  case round =>
    obtain ⟨k, rfl, hk, hrow, hb⟩ := hrel
    have Hrow := hid hrow
    have Hb := hid hb
    have Hk := hid hk
    clear hrow hb
    by_cases hlt : k < n
    · have g1 : (k : Int) < (n : Int) := by omega
      have g2 : (0 : Int) ≤ (k : Int) := by omega
      have hkS : k < S.length := by rw [← Hn.out]; exact hlt
      have hvS := own_onU P3.out Hb.out
      obtain ⟨gS, cS, eS⟩ := own_someU hvS (by omega)
      injection eS with eS1 _ eS2
      subst eS1 eS2
      have ca := fun j (hj : j < 4) => hvS.cellAt (k * 4 + j) (by omega)
      obtain ⟨e0, e1, e2, e3⟩ := clCells_get S k hkS
      have q0 : wr.cell? ⟨gS, k * 4, none⟩ = some (.string S[k].t) := (ca 0 (by omega)).trans e0
      have q1 : wr.cell? ⟨gS, k * 4 + 1, none⟩ = some (.string S[k].n) := (ca 1 (by omega)).trans e1
      have q2 : wr.cell? ⟨gS, k * 4 + 2, none⟩ = some (.string S[k].r) := (ca 2 (by omega)).trans e2
      have q3 : wr.cell? ⟨gS, k * 4 + 3, none⟩ = some (.int .u8 (S[k].sc : Int)) := (ca 3 (by omega)).trans e3
      have htk := hid (consF_take L s t u hkS)
      have hmem : S[k] ∈ s.cs := (List.mem_filter.1 (P1.out.mem_iff.1 (List.getElem_mem hkS))).1
      have hns := Hcs.out _ hmem
      obtain ⟨x, hx⟩ : ∃ x, x = S[k] := ⟨_, rfl⟩
      rw [← hx] at q0 q1 q2 q3 htk hns
      clear hx hmem ca e0 e1 e2 e3 hvS
      have HO := hid (fun (V : World) (hV : Below wr.heap.size wr V) => (show V.cell? ⟨w.heap.size, 0, none⟩ = some (.string t) ∧ V.cell? ⟨w.heap.size, 1, none⟩ = some (.string u) from by
        have x9 := ((Below.on' P4.out (Hb.out.trans (hV.mono Hb.out.size))).block _ (heap_lt X0.out)).trans X0.out
        exact ⟨(cell_of_rowU _ _ 0 _ _ _ x9).trans rfl, (cell_of_rowU _ _ 1 _ _ _ x9).trans rfl⟩))
      have gw : Hid (wrap64 ((k : Int) + 1) = (k : Int) + 1) := IntWalk.wrap64_in _ (by have := HlS.out; have := P1.out.length_eq; omega)
      have Hlt := hid hlt
      have HC9 := hid (fun (V : World) (hV : Below wr.heap.size wr V) => consent_any (H0.out.below (Below.on' P4.out (Hb.out.trans (hV.mono Hb.out.size)))) t u x.n Htu.out.1 Htu.out.2 hns)
      have hlen : Hid ((consF L s t u (S.take k)).length ≤ 100000) := by
        refine Nat.le_trans (consF_len _ _ _ _ _) (Nat.le_trans (List.length_take_le _ _) ?_)
        have := HlS.out
        have h9 := P1.out.length_eq
        have := Hn.out
        omega
      obtain ⟨R, hR⟩ : ∃ R, R = consF L s t u (S.take k) := ⟨_, rfl⟩
      rw [← hR] at htk Hrow hlen
      have HR := hid hR
      clear hR
      obtain ⟨X, hX⟩ : ∃ X, X = wr.alloc (.cells #[.string x.t, .string x.n, .string x.r, .int .u8 (x.sc : Int)] 56) := ⟨_, rfl⟩
      have bX : Below wr.heap.size wr X := by rw [hX]; exact (Below.refl _ wr).alloc (Nat.le_refl _) _
      obtain ⟨k0, k1⟩ := HO.out X bX
      have n1 : X.cell? ⟨wr.heap.size, 1, none⟩ = some (.string x.n) := by rw [hX]; exact (cell_of_rowU _ _ 1 _ _ _ (heap_allocN wr _)).trans rfl
      have HX := hid hX.symm
      have BX := hid bX
      have HCX := hid (HC9.out X bX)
      rw [hX] at k0 k1 n1
      clear hX bX HC9
      cases hf : fB L s t u x.n with
      | none =>
        rw [hf] at HCX htk
        have Htk : Hid (consF L s t u (S.take (k + 1)) = R) := htk.out.trans (List.append_nil R)
        clear hf htk
        go_wp2_with (first
          | (go_at_call 35; rw [HX.out]; refine HCX.out.mono ?_; rintro _ w5 ⟨rfl, b5⟩; have B5 := hid (Below.on' BX.out b5); clear b5; unfold noneE clC0; simp only [Option.map_none, Option.getD_none, Option.isSome_none, Bool.false_eq_true, if_false])
          | go_in)
        go_roundw
        case rel =>
          refine ⟨k + 1, by simp [gw.out], by have := Hlt.out; omega, ?_, Hb.out.trans ((B5.out.alloc B5.out.size _).mono Hb.out.size)⟩
          rw [Htk.out]
          exact own_onU Hrow.out (B5.out.alloc B5.out.size _)
        case measure => exact measU _ _ _ Hlt.out gw.out
      | some q =>
        rw [hf] at HCX htk
        have Htk : Hid (consF L s t u (S.take (k + 1)) = R ++ [q.2]) := htk.out
        obtain ⟨p, co⟩ := q
        simp only [Option.map_some, Option.getD_some, Option.isSome_some] at HCX Htk
        clear hf htk
        go_wp2_with (first
          | (go_at_call 35; rw [HX.out]; refine HCX.out.mono ?_; rintro _ w5 ⟨rfl, b5⟩; have B5 := hid (Below.on' BX.out b5); clear b5; unfold noneE coC; simp only [if_true])
          | (at_builtin; have b6 := hid (B5.out.alloc B5.out.size (.cells #[.string co.t, .string co.u, .string co.n, .int .u8 (co.sc : Int)] 59)); refine app_coU rfl (.tmp 29) (.tmp 31) rfl _ co rfl w2.heap.size u5 R rfl (own_onU Hrow.out b6.out) (by show Value.slice (some ⟨w5.heap.size + 1, 0, none⟩) 1 1 = _; simp) (by have := hlen.out; omega) (Nat.le_trans Hb.out.size b6.out.size) ?_; intro g9 m9 w8 h8 k8; have H8 := hid h8; have K8 := hid k8; clear h8 k8)
          | go_in)
        go_roundw
        case rel =>
          refine ⟨k + 1, by simp [gw.out], by have := Hlt.out; omega, ?_, (Hb.out.trans (b6.out.mono Hb.out.size)).grown K8.out (Nat.le_trans Hb.out.size b6.out.size) (fun k9 hk9 => (Hrow.out.lt k9 hk9).1)⟩
          rw [Htk.out]
          have h9 := H8.out
          simpa using h9
        case measure => exact measU _ _ _ Hlt.out gw.out
    · have hkn : k = n := by omega
      subst hkn
      have hd0 : decide ((k : Int) < (k : Int)) = false := by simp
      have hS : S.take k = S := by rw [Hn.out]; exact List.take_length
      rw [hS] at Hrow
      have hrow := Hrow.out
      obtain ⟨a5, c5, e5⟩ : ∃ a5 c5, u5 = .slice a5 (consF L s t u S).length c5 := by
        rcases hrow.2 with ⟨e1, h1⟩ | ⟨g1, cap, cur, e1, _⟩
        · exact ⟨none, 0, by rw [e1, h1]⟩
        · exact ⟨_, cap, e1⟩
      subst e5
      have HR := hid hrow
      clear hrow hlt hk hS
      go_wp2_with go_in
      go_ret
      exact ⟨a5, S, c5, rfl, P1.out, P2.out, own_baseU HR.out b2.out.size, b2.out.trans (Hb.out.mono b2.out.size)⟩
end
end Go.Proofs.YtlkbojgemcjilaaGreatDoor
