/- YtlkbojgemcjilaaGreatDoorU22 + YtlkbojgemcjilaaGreatDoorU23 + YtlkbojgemcjilaaGreatDoorU24 + YtlkbojgemcjilaaGreatDoorU25 -/
import Derived.Test.YtlkbojgemcjilaaGreatDoorU21
/- Grants: DropUser. -/
namespace Go.Proofs.YtlkbojgemcjilaaGreatDoor
open Go.RowKit Go.Maps Go.Shelf Go.Sort Go.Lib
set_option linter.unusedVariables false
set_option maxRecDepth 20000
def GS.dropU (s : GS) (t u : ByteArray) : GS := ⟨s.cs, s.al.filter fun a => !isU t u a⟩
/-- with the consents at those clients gone -/
def GS.dropN (s : GS) (t u : ByteArray) (C : List Co) : GS := ⟨s.cs, s.al.filter fun a => !(isU t u a && C.any fun x => decide (x.n = a.n))⟩
theorem dropN_nil (s : GS) (t u : ByteArray) : s.dropN t u [] = s := by
  show (⟨s.cs, s.al.filter _⟩ : GS) = s
  rw [List.filter_eq_self.2 (fun a _ => by simp)]
theorem isA_isU (t u n : ByteArray) (a : Co) : isA t u n a = (isU t u a && decide (n = a.n)) := by
  rw [Bool.eq_iff_iff, Bool.and_eq_true, isA_iff, isU_iff, decide_eq_true_iff]
  exact ⟨fun ⟨h1, h2, h3⟩ => ⟨⟨h1, h2⟩, h3.symm⟩, fun ⟨⟨h1, h2⟩, h3⟩ => ⟨h1, h2, h3.symm⟩⟩
theorem dropN_step (s : GS) (t u : ByteArray) (C : List Co) (x : Co) : (s.dropN t u C).dropA t u x.n = s.dropN t u (C ++ [x]) := by
  unfold GS.dropN GS.dropA
  rw [List.filter_filter]
  congr 2
  funext a
  rw [List.any_append, List.any_cons, List.any_nil, Bool.or_false, isA_isU]
  cases isU t u a <;> cases C.any (fun x => decide (x.n = a.n)) <;> cases decide (x.n = a.n) <;> rfl
theorem own_outU {P : Nat → Prop} {w w' : World} {B n sz : Nat} {e : TypeId} {v : Value} {xs : List Value} (h : w.ownsRow B e sz v n xs) (ho : OutJ P w w') (hp : ∀ k, B ≤ k → ¬ P k) : w'.ownsRow B e sz v n xs := by
  refine ⟨h.1, ?_⟩
  rcases h.2 with h0 | ⟨g, cap, cur, e1, hb, hg, rest⟩
  · exact .inl h0
  · exact .inr ⟨g, cap, cur, e1, hb, (ho.block g (heap_lt hg) (hp g hb)).trans hg, rest⟩
theorem dropN_all {s : GS} {t u : ByteArray} {C : List Co} (hC : C.Perm (s.al.filter (isU t u))) : s.dropN t u C = s.dropU t u := by
  unfold GS.dropN GS.dropU
  congr 1
  refine List.filter_congr fun a ha => ?_
  cases hu : isU t u a with
  | false => rfl
  | true =>
    have : C.any (fun x => decide (x.n = a.n)) = true := List.any_eq_true.2 ⟨a, hC.mem_iff.2 (List.mem_filter.2 ⟨ha, hu⟩), decide_eq_true rfl⟩
    rw [this]
    rfl
theorem coCells_get (l : List Co) (k : Nat) (h : k < l.length) : (coCells l)[k * 4]? = some (.string l[k].t) ∧ (coCells l)[k * 4 + 1]? = some (.string l[k].u) ∧ (coCells l)[k * 4 + 2]? = some (.string l[k].n) ∧ (coCells l)[k * 4 + 3]? = some (.int .u8 (l[k].sc : Int)) := by
  induction l generalizing k with
  | nil => simp at h
  | cons a l ih =>
    have e : coCells (a :: l) = [.string a.t, .string a.u, .string a.n, .int .u8 (a.sc : Int)] ++ coCells l := rfl
    cases k with
    | zero => exact ⟨rfl, rfl, rfl, rfl⟩
    | succ k =>
      have h2 := ih k (by simpa using h)
      rw [e, List.getElem?_append_right (by simp; omega), List.getElem?_append_right (by simp; omega), List.getElem?_append_right (by simp; omega), List.getElem?_append_right (by simp; omega)]
      simp only [List.length_cons, List.length_nil, List.getElem_cons_succ]
      rw [show (k + 1) * 4 - (0 + 1 + 1 + 1 + 1) = k * 4 by omega, show (k + 1) * 4 + 1 - (0 + 1 + 1 + 1 + 1) = k * 4 + 1 by omega, show (k + 1) * 4 + 2 - (0 + 1 + 1 + 1 + 1) = k * 4 + 2 by omega, show (k + 1) * 4 + 3 - (0 + 1 + 1 + 1 + 1) = k * 4 + 3 by omega]
      exact h2
section
variable {w w' : World} {B g mc d : Nat} {L : List Reg} {s : GS}
set_option maxHeartbeats 8000000 in
theorem dropUser_any (h : SAt w B g mc L s d) (hl9 : L.length ≤ 100000) (t u : ByteArray) (ht : t.size ≤ maxLen) (hu : u.size ≤ maxLen) :
    Calls Tryz.prog 30 #[.pointer (some ⟨g, 0, none⟩), .agg #[.string t, .string u]] w fun e w' => e = .returned (.int .i64 (consN s t u : Nat)) ∧ OutJ (MineU g mc L) w w' ∧ SAt w' B g mc L (s.dropU t u) d := by
  obtain ⟨W, hW⟩ : ∃ W, W = w.alloc (.cells #[.string t, .string u] 30) := ⟨_, rfl⟩
  have b0 : Below w.heap.size w W := by rw [hW]; exact (Below.refl _ w).alloc (Nat.le_refl _) _
  have x0 : W.heap[w.heap.size]? = some (.cells #[.string t, .string u] 30 (0, 0)) := by rw [hW]; exact heap_allocN w _
  have o0 : W.cell? ⟨w.heap.size, 0, none⟩ = some (.string t) := (cell_of_rowU _ _ 0 _ _ _ x0).trans rfl
  have o1 : W.cell? ⟨w.heap.size, 1, none⟩ = some (.string u) := (cell_of_rowU _ _ 1 _ _ _ x0).trans rfl
  have h0 := h.below b0
  have HC := hid (consents_any h0 hl9 t u ht hu)
  have HCn := hid (fun (S : List Cl) (hS : S.Perm (s.cs.filter (inT t))) => consF_perm h t u hS)
  have Hcl := hid (consents_len h hl9 t u)
  have Hns := hid (fun (a : Co) (ha : a ∈ s.al) => (show a.n.size ≤ maxLen from by
    obtain ⟨_, _, _, c, hc, _, e2, _⟩ := h.ok.anames a ha
    rw [← e2]
    have := okN_len (h.ok.names c hc).2.1
    unfold maxLen; omega))
  have HW := hid hW.symm
  have B0 := hid b0
  have X0 := hid x0
  have H0 := hid h0
  have Htu := hid (And.intro ht hu)
  obtain ⟨m, hm⟩ : ∃ m, m = consN s t u := ⟨_, rfl⟩
  rw [← hm] at Hcl ⊢
  have Hm := hid hm
  have hmine : ∀ k, MineU g mc L k → k < W.heap.size := fun k hk => by
    rcases hk with rfl | rfl | ⟨p, hp, rfl | rfl⟩
    · exact h0.lt
    · obtain ⟨_, _, h9, _⟩ := h0.cm; exact map_new_ne h9
    · exact heap_lt (h0.regs p hp).2.2.1
    · obtain ⟨_, _, _, _, _, h9, _⟩ := h0.regs p hp; exact map_new_ne h9
  have Hmine := hid hmine
  have hnw : ¬ MineU g mc L w.heap.size := fun hk => by
    rcases hk with e | e | ⟨p, hp, e | e⟩
    · have := h.lt; omega
    · obtain ⟨_, _, h9, _⟩ := h.cm; have := map_new_ne h9; omega
    · have := heap_lt (h.regs p hp).2.2.1; omega
    · obtain ⟨_, _, _, _, _, h9, _⟩ := h.regs p hp; have := map_new_ne h9; omega
  have Hnw := hid hnw
  rw [hW] at o0 o1
  clear h h0 hW b0 x0 hm hmine hnw ht hu hl9
  go_enter Tryz.func30, Tryz.ntmps30
  go_wp2_with (go_at_call 39; rw [HW.out]; refine HC.out.mono ?_; rintro _ w2 ⟨v, S, c, rfl, p1, p2, p3, p4⟩; have hP := HCn.out S p1; have hlen : (consF L s t u S).length = m := hP.length_eq.trans Hm.out.symm; obtain ⟨C, hCC⟩ : ∃ C, C = consF L s t u S := ⟨_, rfl⟩; rw [← hCC] at hP hlen p3 ⊢; rw [hlen] at p3 ⊢; have HP := hid hP; have P3 := hid p3; have P4 := hid p4; have HLen := hid hlen; clear p1 p2 p3 p4 hP hlen hCC)
  clear o0 o1
  go_loopw [7, 13] (fun _ i wr => ∃ (k : Nat), i = .int .i64 (k : Int) ∧ k ≤ m ∧ OutJ (MineU g mc L) w2 wr ∧ SAt wr B g mc L (s.dropN t u (C.take k)) d) (fun _ i _ => m - (intOf i).toNat)
  case atStart => exact ⟨0, rfl, Nat.zero_le _, OutJ.of_below (Below.refl _ _), by rw [List.take_zero, dropN_nil]; exact H0.out.below P4.out⟩
  case round =>
    obtain ⟨k, rfl, hk, ho, hs⟩ := hrel
    have Ho := hid ho
    have Hs := hid hs
    clear ho hs
    by_cases hlt : k < m
    · have g1 : (k : Int) < (m : Int) := by omega
      have g2 : (0 : Int) ≤ (k : Int) := by omega
      have hkC : k < C.length := by rw [HLen.out]; exact hlt
      obtain ⟨gC, cC, eC⟩ := own_someU P3.out (by omega)
      injection eC with eC1 _ eC2
      subst eC1 eC2
      have hvS : wr.ownsRow W.heap.size 59 4 (.slice (some ⟨gC, 0, none⟩) m c) m (coCells C) := by
        exact own_outU P3.out Ho.out (fun k9 h8 h9 => by have := Hmine.out k9 h9; omega)
      have ca := fun j (hj : j < 4) => hvS.cellAt (k * 4 + j) (by omega)
      obtain ⟨e0, e1, e2, e3⟩ := coCells_get C k hkC
      have q0 : wr.cell? ⟨gC, k * 4, none⟩ = some (.string C[k].t) := (ca 0 (by omega)).trans e0
      have q1 : wr.cell? ⟨gC, k * 4 + 1, none⟩ = some (.string C[k].u) := (ca 1 (by omega)).trans e1
      have q2 : wr.cell? ⟨gC, k * 4 + 2, none⟩ = some (.string C[k].n) := (ca 2 (by omega)).trans e2
      have q3 : wr.cell? ⟨gC, k * 4 + 3, none⟩ = some (.int .u8 (C[k].sc : Int)) := (ca 3 (by omega)).trans e3
      have hmem : C[k] ∈ s.al := (List.mem_filter.1 (HP.out.mem_iff.1 (List.getElem_mem hkC))).1
      have hns := Hns.out _ hmem
      have htk : Hid (C.take (k + 1) = C.take k ++ [C[k]]) := List.take_succ_eq_append_getElem hkC
      obtain ⟨x, hx⟩ : ∃ x, x = C[k] := ⟨_, rfl⟩
      rw [← hx] at q0 q1 q2 q3 htk hns
      clear hx hmem ca e0 e1 e2 e3 hvS
      have gw : Hid (wrap64 ((k : Int) + 1) = (k : Int) + 1) := IntWalk.wrap64_in _ (by have := Hcl.out; omega)
      obtain ⟨X, hX⟩ : ∃ X, X = wr.alloc (.cells #[.string x.t, .string x.u, .string x.n, .int .u8 (x.sc : Int)] 59) := ⟨_, rfl⟩
      have bX : Below wr.heap.size wr X := by rw [hX]; exact (Below.refl _ wr).alloc (Nat.le_refl _) _
      have n1 : X.cell? ⟨wr.heap.size, 2, none⟩ = some (.string x.n) := by rw [hX]; exact (cell_of_rowU _ _ 2 _ _ _ (heap_allocN wr _)).trans rfl
      have xw : X.heap[w.heap.size]? = some (.cells #[.string t, .string u] 30 (0, 0)) := by
        have h2 : w2.heap[w.heap.size]? = some (.cells #[.string t, .string u] 30 (0, 0)) := (P4.out.block _ (heap_lt X0.out)).trans X0.out
        have h3 := (Ho.out.block _ (heap_lt h2) Hnw.out).trans h2
        exact (bX.block _ (heap_lt h3)).trans h3
      have k0 : X.cell? ⟨w.heap.size, 0, none⟩ = some (.string t) := (cell_of_rowU _ _ 0 _ _ _ xw).trans rfl
      have k1 : X.cell? ⟨w.heap.size, 1, none⟩ = some (.string u) := (cell_of_rowU _ _ 1 _ _ _ xw).trans rfl
      have HX := hid hX.symm
      have HWd := hid (withdraw_any (Hs.out.below bX) t u x.n Htu.out.1 Htu.out.2 hns)
      have hoX := hid (Ho.out.trans (OutJ.of_below (P := MineU g mc L) bX))
      have Hlt := hid hlt
      rw [hX] at k0 k1 n1
      clear hX bX xw hns hkC hlt
      go_wp2_with (first
        | (go_at_call 28; rw [HX.out]; refine HWd.out.mono ?_; rintro _ w5 ⟨rfl, o5, s5⟩; have O5 := hid (hoX.out.trans o5); have S5 := hid s5; clear o5 s5)
        | go_in)
      go_roundw
      case rel =>
        refine ⟨k + 1, by simp [gw.out], by have := Hlt.out; omega, O5.out, ?_⟩
        rw [htk.out, ← dropN_step]
        exact S5.out
      case measure => exact measU _ _ _ Hlt.out gw.out
    · have hkn : k = m := by omega
      subst hkn
      have hd0 : decide ((k : Int) < (k : Int)) = false := by simp
      have hC : C.take k = C := by rw [← HLen.out]; exact List.take_length
      have hs9 := hid (show SAt wr B g mc L (s.dropU t u) d from by
        have h9 := Hs.out
        rw [hC, dropN_all HP.out] at h9
        exact h9)
      clear hlt hk hC Hs
      go_wp2_with go_in
      go_ret
      exact ⟨rfl, ((OutJ.of_below B0.out).trans (OutJ.of_below P4.out)).trans Ho.out, hs9.out⟩
end
end Go.Proofs.YtlkbojgemcjilaaGreatDoor

/- Grants: a nil store. -/
namespace Go.Proofs.YtlkbojgemcjilaaGreatDoor
open Go.RowKit Go.Maps
set_option linter.unusedVariables false
set_option maxRecDepth 20000
theorem find_nil (t n : ByteArray) (w : World) : Calls Tryz.prog 52 #[.pointer none, .string t, .string n] w fun e w' => e = .returned (.tuple #[.pointer none, .int .i64 1]) ∧ w' = w := by
  go_enter Tryz.func52, Tryz.ntmps52
  go_wp2
  go_ret2
  exact ⟨rfl, rfl⟩
theorem findConsent_nil (t u n : ByteArray) (w : World) : Calls Tryz.prog 56 #[.pointer none, .agg #[.string t, .string u], .string n] w fun e w' => e = .returned (.tuple #[.pointer none, .int .u8 0, .int .i64 1]) ∧ Below w.heap.size w w' := by
  obtain ⟨W, hW⟩ : ∃ W, W = w.alloc (.cells #[.string t, .string u] 30) := ⟨_, rfl⟩
  have b0 : Below w.heap.size w W := by rw [hW]; exact (Below.refl _ w).alloc (Nat.le_refl _) _
  have o0 : W.cell? ⟨w.heap.size, 0, none⟩ = some (.string t) := by rw [hW]; exact (cell_of_rowU _ _ 0 _ _ _ (heap_allocN w _)).trans rfl
  have HW := hid hW.symm
  have B0 := hid b0
  rw [hW] at o0
  clear hW b0
  go_enter Tryz.func56, Tryz.ntmps56
  go_wp2_with (go_at_call 52; rw [HW.out]; refine (find_nil _ _ _).mono ?_; rintro _ w1 ⟨rfl, e1⟩; subst w1)
  go_ret3
  exact ⟨rfl, B0.out⟩
theorem registerError_nil (c : Cl) (w : World) : Calls Tryz.prog 53 #[.pointer none, .agg (clC c)] w fun e w' => e = .returned (.int .i64 1) ∧ Below w.heap.size w w' := by
  unfold clC
  go_enter Tryz.func53, Tryz.ntmps53
  go_wp2
  go_ret
  exact ⟨rfl, (Below.refl _ w).alloc (Nat.le_refl _) _⟩
theorem register_nil (c : Cl) (w : World) : Calls Tryz.prog 19 #[.pointer none, .agg (clC c)] w fun e w' => e = .returned (.int .i64 1) ∧ Below w.heap.size w w' := by
  have HE := hid (fun (V : World) => registerError_nil c V)
  have b0 := hid ((Below.refl _ w).alloc (Nat.le_refl _) (.cells (clC c) 56))
  unfold clC at HE b0 ⊢
  go_enter Tryz.func19, Tryz.ntmps19
  go_wp2_with (go_at_call 53; refine (HE.out _).mono ?_; rintro _ w1 ⟨rfl, b1⟩; have B1 := hid (Below.on' b0.out b1); clear b1)
  go_ret
  exact ⟨rfl, B1.out⟩
theorem narrow_nil (t n : ByteArray) (m : Nat) (w : World) : Calls Tryz.prog 18 #[.pointer none, .string t, .string n, .int .u8 (m : Int)] w fun e w' => e = .returned (.tuple #[.int .u8 0, .int .i64 1]) ∧ w' = w := by
  go_enter Tryz.func18, Tryz.ntmps18
  go_wp2_with (go_at_call 52; refine (find_nil _ _ _).mono ?_; rintro _ w1 ⟨rfl, e1⟩; subst w1)
  go_ret2
  exact ⟨rfl, rfl⟩
theorem drop_nil (t n : ByteArray) (w : World) : Calls Tryz.prog 25 #[.pointer none, .string t, .string n] w fun e w' => e = .returned (.int .i64 1) ∧ w' = w := by
  go_enter Tryz.func25, Tryz.ntmps25
  go_wp2_with (go_at_call 52; refine (find_nil _ _ _).mono ?_; rintro _ w1 ⟨rfl, e1⟩; subst w1)
  go_ret
  exact ⟨rfl, rfl⟩
theorem allow_nil (c : Co) (w : World) : Calls Tryz.prog 20 #[.pointer none, .agg (coC c)] w fun e w' => e = .returned (.int .i64 1) ∧ Below w.heap.size w w' := by
  unfold coC
  go_enter Tryz.func20, Tryz.ntmps20
  go_wp2
  go_ret
  exact ⟨rfl, (Below.refl _ w).alloc (Nat.le_refl _) _⟩
theorem client_nil (t n : ByteArray) (w : World) : Calls Tryz.prog 33 #[.pointer none, .string t, .string n] w fun e w' => e = .returned (.tuple #[.agg clC0, .int .i64 1]) ∧ Below w.heap.size w w' := by
  obtain ⟨W, hW⟩ : ∃ W, W = w.alloc (.cells #[.string ⟨#[]⟩, .string ⟨#[]⟩, .string ⟨#[]⟩, .int .u8 0] 56) := ⟨_, rfl⟩
  have b0 : Below w.heap.size w W := by rw [hW]; exact (Below.refl _ w).alloc (Nat.le_refl _) _
  have x0 : W.heap[w.heap.size]? = some (.cells #[.string ⟨#[]⟩, .string ⟨#[]⟩, .string ⟨#[]⟩, .int .u8 0] 56 (0, 0)) := by rw [hW]; exact heap_allocN w _
  have z0 : W.cell? ⟨w.heap.size, 0, none⟩ = some (.string ⟨#[]⟩) ∧ W.cell? ⟨w.heap.size, 1, none⟩ = some (.string ⟨#[]⟩) ∧ W.cell? ⟨w.heap.size, 2, none⟩ = some (.string ⟨#[]⟩) ∧ W.cell? ⟨w.heap.size, 3, none⟩ = some (.int .u8 0) := ⟨(cell_of_rowU _ _ 0 _ _ _ x0).trans rfl, (cell_of_rowU _ _ 1 _ _ _ x0).trans rfl, (cell_of_rowU _ _ 2 _ _ _ x0).trans rfl, (cell_of_rowU _ _ 3 _ _ _ x0).trans rfl⟩
  have zf : W.frozen? ⟨w.heap.size, 0, none⟩ = false ∧ W.frozen? ⟨w.heap.size, 1, none⟩ = false ∧ W.frozen? ⟨w.heap.size, 2, none⟩ = false ∧ W.frozen? ⟨w.heap.size, 3, none⟩ = false := ⟨frozen_of_row _ _ _ _ _ x0, frozen_of_row _ _ _ _ _ x0, frozen_of_row _ _ _ _ _ x0, frozen_of_row _ _ _ _ _ x0⟩
  obtain ⟨y0, y1, y2, y3⟩ := z0
  obtain ⟨f0, f1, f2, f3⟩ := zf
  have HW := hid hW.symm
  have B0 := hid b0
  have X0 := hid x0
  clear hW b0 x0
  go_enter Tryz.func33, Tryz.ntmps33
  go_wp2_with (go_at_call 52; rw [HW.out]; refine (find_nil _ _ _).mono ?_; rintro _ w1 ⟨rfl, e1⟩; subst w1)
  refine bodyPost_ret (results_row_tmp rfl _ _ w.heap.size 56 clC0 (0, 0) _ rfl (set4U X0.out) Tryz.underlying56 rfl size_cl) rfl ?_
  exact ⟨rfl, below4U B0.out (Nat.le_refl _)⟩
theorem consent_nil (t u n : ByteArray) (w : World) : Calls Tryz.prog 35 #[.pointer none, .agg #[.string t, .string u], .string n] w fun e w' => e = .returned (.tuple #[.agg clC0, .int .i64 1]) ∧ Below w.heap.size w w' := by
  obtain ⟨W1, hW1⟩ : ∃ W1, W1 = w.alloc (.cells #[.string t, .string u] 30) := ⟨_, rfl⟩
  obtain ⟨W, hW⟩ : ∃ W, W = W1.alloc (.cells #[.string ⟨#[]⟩, .string ⟨#[]⟩, .string ⟨#[]⟩, .int .u8 0] 59) := ⟨_, rfl⟩
  have hsz : W1.heap.size = w.heap.size + 1 := by rw [hW1]; simp
  have b1 : Below w.heap.size w W1 := by rw [hW1]; exact (Below.refl _ w).alloc (Nat.le_refl _) _
  have b0 : Below w.heap.size w W := by rw [hW]; exact b1.alloc b1.size _
  have x0 : W.heap[w.heap.size + 1]? = some (.cells #[.string ⟨#[]⟩, .string ⟨#[]⟩, .string ⟨#[]⟩, .int .u8 0] 59 (0, 0)) := by rw [hW, ← hsz]; exact heap_allocN W1 _
  have q1 : W.heap[w.heap.size]? = some (.cells #[.string t, .string u] 30 (0, 0)) := by
    have h9 : W1.heap[w.heap.size]? = some (.cells #[.string t, .string u] 30 (0, 0)) := by rw [hW1]; exact heap_allocN w _
    rw [hW]
    exact (((Below.refl _ W1).alloc (Nat.le_refl _) _).block _ (heap_lt h9)).trans h9
  have o0 : W.cell? ⟨w.heap.size, 0, none⟩ = some (.string t) := (cell_of_rowU _ _ 0 _ _ _ q1).trans rfl
  have o1 : W.cell? ⟨w.heap.size, 1, none⟩ = some (.string u) := (cell_of_rowU _ _ 1 _ _ _ q1).trans rfl
  have HW : Hid ((w.alloc (.cells #[.string t, .string u] 30)).alloc (.cells #[.string ⟨#[]⟩, .string ⟨#[]⟩, .string ⟨#[]⟩, .int .u8 0] 59) = W) := by rw [Hid, hW, hW1]
  have B0 := hid b0
  have X0 := hid x0
  have HX := hid (fun (V : World) (hV : Below W.heap.size W V) => (hV.block _ (heap_lt x0)).trans x0)
  have HZ := hid (fun (V : World) (hV : V.heap[w.heap.size + 1]? = some (.cells #[.string ⟨#[]⟩, .string ⟨#[]⟩, .string ⟨#[]⟩, .int .u8 0] 59 (0, 0))) => (show V.cell? ⟨w.heap.size + 1, 0, none⟩ = some (.string ⟨#[]⟩) ∧ V.cell? ⟨w.heap.size + 1, 1, none⟩ = some (.string ⟨#[]⟩) ∧ V.cell? ⟨w.heap.size + 1, 2, none⟩ = some (.string ⟨#[]⟩) ∧ V.cell? ⟨w.heap.size + 1, 3, none⟩ = some (.int .u8 0) ∧ V.frozen? ⟨w.heap.size + 1, 0, none⟩ = false ∧ V.frozen? ⟨w.heap.size + 1, 1, none⟩ = false ∧ V.frozen? ⟨w.heap.size + 1, 2, none⟩ = false ∧ V.frozen? ⟨w.heap.size + 1, 3, none⟩ = false from
    ⟨(cell_of_rowU _ _ 0 _ _ _ hV).trans rfl, (cell_of_rowU _ _ 1 _ _ _ hV).trans rfl, (cell_of_rowU _ _ 2 _ _ _ hV).trans rfl, (cell_of_rowU _ _ 3 _ _ _ hV).trans rfl, frozen_of_row _ _ _ _ _ hV, frozen_of_row _ _ _ _ _ hV, frozen_of_row _ _ _ _ _ hV, frozen_of_row _ _ _ _ _ hV⟩))
  clear hW hW1 b0 b1 x0 q1 hsz
  go_enter Tryz.func35, Tryz.ntmps35
  go_wp2_with (go_at_call 56; rw [HW.out]; refine (findConsent_nil _ _ _ _).mono ?_; rintro _ w1 ⟨rfl, b1⟩; have B1 := hid (Below.on' B0.out b1); have X1 := hid (HX.out w1 b1); obtain ⟨y0, y1, y2, y3, z0, z1, z2, z3⟩ := HZ.out w1 X1.out; clear b1)
  refine bodyPost_ret (results_row_tmp rfl _ _ (w.heap.size + 1) 59 clC0 (0, 0) _ rfl (set4U X1.out) Tryz.underlying59 rfl size_co) rfl ?_
  exact ⟨rfl, below4U B1.out (by omega)⟩
theorem withdraw_nil (t u n : ByteArray) (w : World) : Calls Tryz.prog 28 #[.pointer none, .agg #[.string t, .string u], .string n] w fun e w' => e = .returned (.int .i64 1) ∧ Below w.heap.size w w' := by
  obtain ⟨W, hW⟩ : ∃ W, W = w.alloc (.cells #[.string t, .string u] 30) := ⟨_, rfl⟩
  have b0 : Below w.heap.size w W := by rw [hW]; exact (Below.refl _ w).alloc (Nat.le_refl _) _
  have x0 : W.heap[w.heap.size]? = some (.cells #[.string t, .string u] 30 (0, 0)) := by rw [hW]; exact heap_allocN w _
  have o0 : W.cell? ⟨w.heap.size, 0, none⟩ = some (.string t) := (cell_of_rowU _ _ 0 _ _ _ x0).trans rfl
  have o1 : W.cell? ⟨w.heap.size, 1, none⟩ = some (.string u) := (cell_of_rowU _ _ 1 _ _ _ x0).trans rfl
  have HW := hid hW.symm
  have B0 := hid b0
  rw [hW] at o0 o1
  clear hW b0 x0
  go_enter Tryz.func28, Tryz.ntmps28
  go_wp2_with (go_at_call 56; rw [HW.out]; refine (findConsent_nil _ _ _ _).mono ?_; rintro _ w1 ⟨rfl, b1⟩; have B1 := hid (Below.on' B0.out b1); clear b1)
  go_ret
  exact ⟨rfl, B1.out⟩
theorem may_nil (t u n r : ByteArray) (sc : Int) (w : World) : Calls Tryz.prog 21 #[.pointer none, .agg #[.string t, .string u], .string n, .string r, .int .u8 sc] w fun e w' => e = .returned (.int .i64 1) ∧ Below w.heap.size w w' := by
  obtain ⟨W, hW⟩ : ∃ W, W = w.alloc (.cells #[.string t, .string u] 30) := ⟨_, rfl⟩
  have b0 : Below w.heap.size w W := by rw [hW]; exact (Below.refl _ w).alloc (Nat.le_refl _) _
  have x0 : W.heap[w.heap.size]? = some (.cells #[.string t, .string u] 30 (0, 0)) := by rw [hW]; exact heap_allocN w _
  have o0 : W.cell? ⟨w.heap.size, 0, none⟩ = some (.string t) := (cell_of_rowU _ _ 0 _ _ _ x0).trans rfl
  have o1 : W.cell? ⟨w.heap.size, 1, none⟩ = some (.string u) := (cell_of_rowU _ _ 1 _ _ _ x0).trans rfl
  have HW := hid hW.symm
  have B0 := hid b0
  rw [hW] at o0 o1
  clear hW b0 x0
  go_enter Tryz.func21, Tryz.ntmps21
  go_wp2_with (go_at_call 56; rw [HW.out]; refine (findConsent_nil _ _ _ _).mono ?_; rintro _ w1 ⟨rfl, b1⟩; have B1 := hid (Below.on' B0.out b1); clear b1)
  go_ret
  exact ⟨rfl, B1.out⟩
theorem clients_nil (t : ByteArray) (w : World) : Calls Tryz.prog 37 #[.pointer none, .string t] w fun e w' => e = .returned (.slice none 0 0) ∧ Below w.heap.size w w' := by
  go_enter Tryz.func37, Tryz.ntmps37
  go_wp2
  go_ret
  exact ⟨rfl, Below.refl _ w⟩
theorem consents_nil (t u : ByteArray) (w : World) : Calls Tryz.prog 39 #[.pointer none, .agg #[.string t, .string u]] w fun e w' => e = .returned (.slice none 0 0) ∧ Below w.heap.size w w' := by
  obtain ⟨W, hW⟩ : ∃ W, W = w.alloc (.cells #[.string t, .string u] 30) := ⟨_, rfl⟩
  have b0 : Below w.heap.size w W := by rw [hW]; exact (Below.refl _ w).alloc (Nat.le_refl _) _
  have x0 : W.heap[w.heap.size]? = some (.cells #[.string t, .string u] 30 (0, 0)) := by rw [hW]; exact heap_allocN w _
  have o0 : W.cell? ⟨w.heap.size, 0, none⟩ = some (.string t) := (cell_of_rowU _ _ 0 _ _ _ x0).trans rfl
  have HW := hid hW.symm
  have B0 := hid b0
  rw [hW] at o0
  clear hW b0 x0
  go_enter Tryz.func39, Tryz.ntmps39
  go_wp2_with (go_at_call 37; rw [HW.out]; refine (clients_nil _ _).mono ?_; rintro _ w1 ⟨rfl, b1⟩; have B1 := hid (Below.on' B0.out b1); clear b1)
  go_loopw [5, 7, 8, 9, 15] (fun v5 _ _ _ i wr => v5 = .slice none 0 0 ∧ i = .int .i64 0 ∧ Below w.heap.size w wr) (fun _ _ _ _ _ _ => 0)
  case atStart => exact ⟨rfl, rfl, B1.out⟩
  case round =>
    obtain ⟨rfl, rfl, hb⟩ := hrel
    have Hb := hid hb
    clear hb
    go_wp2
    go_ret
    exact ⟨rfl, Hb.out⟩
theorem dropUser_nil (t u : ByteArray) (w : World) : Calls Tryz.prog 30 #[.pointer none, .agg #[.string t, .string u]] w fun e w' => e = .returned (.int .i64 0) ∧ Below w.heap.size w w' := by
  obtain ⟨W, hW⟩ : ∃ W, W = w.alloc (.cells #[.string t, .string u] 30) := ⟨_, rfl⟩
  have b0 : Below w.heap.size w W := by rw [hW]; exact (Below.refl _ w).alloc (Nat.le_refl _) _
  have x0 : W.heap[w.heap.size]? = some (.cells #[.string t, .string u] 30 (0, 0)) := by rw [hW]; exact heap_allocN w _
  have o0 : W.cell? ⟨w.heap.size, 0, none⟩ = some (.string t) := (cell_of_rowU _ _ 0 _ _ _ x0).trans rfl
  have o1 : W.cell? ⟨w.heap.size, 1, none⟩ = some (.string u) := (cell_of_rowU _ _ 1 _ _ _ x0).trans rfl
  have HW := hid hW.symm
  have B0 := hid b0
  rw [hW] at o0 o1
  clear hW b0 x0
  go_enter Tryz.func30, Tryz.ntmps30
  go_wp2_with (go_at_call 39; rw [HW.out]; refine (consents_nil _ _ _).mono ?_; rintro _ w1 ⟨rfl, b1⟩; have B1 := hid (Below.on' B0.out b1); clear b1)
  go_loopw [7, 13] (fun _ i wr => i = .int .i64 0 ∧ Below w.heap.size w wr) (fun _ _ _ => 0)
  case atStart => exact ⟨rfl, B1.out⟩
  case round =>
    obtain ⟨rfl, hb⟩ := hrel
    have Hb := hid hb
    clear hb
    go_wp2
    go_ret
    exact ⟨rfl, Hb.out⟩
theorem rows_nil (w : World) : Calls Tryz.prog 14 #[.pointer none] w fun e w' => e = .returned (.slice none 0 0) ∧ Below w.heap.size w w' := by
  go_enter Tryz.func14, Tryz.ntmps14
  go_wp2
  go_ret
  exact ⟨rfl, Below.refl _ w⟩
theorem fork_nil (w : World) : Calls Tryz.prog 9 #[.pointer none] w fun e w' => e = .returned (.pointer none) ∧ Below w.heap.size w w' := by
  go_enter Tryz.func9, Tryz.ntmps9
  go_wp2
  go_ret
  exact ⟨rfl, Below.refl _ w⟩
end Go.Proofs.YtlkbojgemcjilaaGreatDoor

/- Grants: the calls by the store's state alone. -/
namespace Go.Proofs.YtlkbojgemcjilaaGreatDoor
open Go.RowKit Go.Maps
set_option linter.unusedVariables false
set_option maxRecDepth 20000
def findC (s : GS) (t n : ByteArray) : Option Cl := s.cs.find? (isC t n)
theorem fC_map {L : List Reg} {s : GS} (h : L.map (·.c) = s.cs) (t n : ByteArray) : (fC L t n).map (·.c) = findC s t n := by
  unfold findC fC
  rw [← h, List.find?_map]
  rfl
theorem fC_isSome {L : List Reg} {s : GS} (h : L.map (·.c) = s.cs) (t n : ByteArray) : (fC L t n).isSome = (findC s t n).isSome := by
  rw [← fC_map h, Option.isSome_map]
def regEs (s : GS) (c : Cl) : Nat :=
  if (okN c.t && okN c.n) = false then 8 else if 24 < c.r.size then 6 else if (findC s c.t c.n).isSome = true then 5 else if roomR (s.cs.map (·.t)) c.t = false then 24 else 0
def GS.reg (s : GS) (c : Cl) : GS := if regEs s c = 0 then s.addC c else s
def narRs (s : GS) (t n : ByteArray) (m : Nat) : Nat := ((findC s t n).map fun c => c.sc &&& m).getD 0
def allEs (s : GS) (a : Co) : Nat :=
  if (okN a.t && okN a.u) = false then 8 else match findC s a.t a.n with
    | none => 4
    | some c => if nar a.sc c.sc = false then 14 else if (fA s a.t a.u a.n).isSome = false ∧ 4 ≤ consN s a.t a.u then 25 else 0
def GS.alw (s : GS) (a : Co) : GS := if allEs s a = 0 then s.putA a else s
def mayRs (s : GS) (t u n r : ByteArray) (sc : Nat) : Nat := match findC s t n, fA s t u n with
  | some c, some a => if r = c.r then (if nar sc a.sc then 0 else 14) else 10
  | _, _ => 4
section
variable {L : List Reg} {s : GS}
theorem regE_s (h : L.map (·.c) = s.cs) (c : Cl) : regE L c = regEs s c := by
  unfold regE regEs
  rw [fC_isSome h, ← h, List.map_map]
  rfl
theorem regS_s (h : L.map (·.c) = s.cs) (c : Cl) : regS L s c = s.reg c := by
  unfold regS GS.reg
  rw [regE_s h]
theorem narR_s (h : L.map (·.c) = s.cs) (t n : ByteArray) (m : Nat) : narR L t n m = narRs s t n m := by
  unfold narR narRs
  rw [← fC_map h, Option.map_map]
  rfl
theorem allE_s (h : L.map (·.c) = s.cs) (a : Co) : allE L s a = allEs s a := by
  unfold allE allEs
  rw [← fC_map h]
  cases fC L a.t a.n with
  | none => rfl
  | some p => rfl
theorem alw_s (h : L.map (·.c) = s.cs) (a : Co) : s.allow L a = s.alw a := by
  unfold GS.allow GS.alw
  rw [allE_s h]
theorem mayR_s (h : L.map (·.c) = s.cs) (t u n r : ByteArray) (sc : Nat) : mayR L s t u n r sc = mayRs s t u n r sc := by
  unfold mayR mayRs fB
  rw [← fC_map h]
  cases fC L t n with
  | none => rfl
  | some p =>
    cases fA s t u n with
    | none => rfl
    | some a => rfl
end
/-- the kinds of block that a store is made of -/
def PT (w : World) (k : Nat) : Prop := (∃ es c, w.heap[k]? = some (.map es c)) ∨ ∃ cs T fr, w.heap[k]? = some (.cells cs T fr) ∧ (T = 49 ∨ T = 66)
/-- a store in memory, its inside hidden; X: a set of blocks that its calls may change -/
structure GP (w : World) (B g : Nat) (s : GS) (c d : Nat) (X : Nat → Prop) : Prop where
  at' : ∃ mc L, SAt w B g mc L s d ∧ ∀ k, X k ↔ MineU g mc L k
  cl : s.cs.length ≤ c
  al : s.al.length ≤ d
  base : B ≤ w.heap.size
section
variable {w w' : World} {B g c d : Nat} {s : GS} {X : Nat → Prop}
theorem SAt.mine_lt {mc : Nat} {L : List Reg} (h : SAt w B g mc L s d) : ∀ k, MineU g mc L k → k < w.heap.size := fun k hk => by
  rcases hk with rfl | rfl | ⟨p, hp, rfl | rfl⟩
  · exact h.lt
  · obtain ⟨_, _, h9, _⟩ := h.cm; exact map_new_ne h9
  · exact heap_lt (h.regs p hp).2.2.1
  · obtain ⟨_, _, _, _, _, h9, _⟩ := h.regs p hp; exact map_new_ne h9
theorem SAt.mine_typed {mc : Nat} {L : List Reg} (h : SAt w B g mc L s d) : ∀ k, MineU g mc L k → PT w k := fun k hk => by
  rcases hk with rfl | rfl | ⟨p, hp, rfl | rfl⟩
  · exact .inr ⟨_, _, _, h.obj, .inl rfl⟩
  · obtain ⟨_, _, h9, _⟩ := h.cm; exact .inl (mapObj h9)
  · exact .inr ⟨_, _, _, (h.regs p hp).2.2.1, .inr rfl⟩
  · obtain ⟨_, _, _, _, _, h9, _⟩ := h.regs p hp; exact .inl (mapObj h9)
theorem GP.lt (h : GP w B g s c d X) : ∀ k, X k → k < w.heap.size := by
  obtain ⟨mc, L, h1, h2⟩ := h.at'
  exact fun k hk => h1.mine_lt k ((h2 k).1 hk)
theorem GP.ge (h : GP w B g s c d X) : ∀ k, X k → B ≤ k := by
  obtain ⟨mc, L, h1, h2⟩ := h.at'
  exact fun k hk => h1.mine_ge k ((h2 k).1 hk)
theorem GP.typed (h : GP w B g s c d X) : ∀ k, X k → PT w k := by
  obtain ⟨mc, L, h1, h2⟩ := h.at'
  exact fun k hk => h1.mine_typed k ((h2 k).1 hk)
theorem GP.ok (h : GP w B g s c d X) : s.Ok := by
  obtain ⟨mc, L, h1, h2⟩ := h.at'
  exact h1.ok
theorem GP.below (h : GP w B g s c d X) (hb : Below w.heap.size w w') : GP w' B g s c d X := by
  obtain ⟨mc, L, h1, h2⟩ := h.at'
  exact ⟨⟨mc, L, h1.below hb, h2⟩, h.cl, h.al, Nat.le_trans h.base hb.size⟩
theorem SAt.outJ {P : Nat → Prop} {mc : Nat} {L : List Reg} (h : SAt w B g mc L s d) (ho : OutJ P w w') (hp : ∀ k, MineU g mc L k → ¬ P k) : SAt w' B g mc L s d := by
  have hm : ∀ {H : Type} {k : TypeId} {R : Value → Option (DataW H × List MemPlace)} {b n : Nat} {D : DataW H}, w.ownsMap Tryz.prog k R b n D → ¬ P b → w'.ownsMap Tryz.prog k R b n D := fun {H k R b n D} h1 h2 => by
    have hlt := map_new_ne h1
    obtain ⟨es, clock, hb, rest⟩ := h1
    exact ⟨es, clock, (ho.block b hlt h2).trans hb, rest⟩
  obtain ⟨n, V, h1, h2⟩ := h.cm
  refine ⟨h.ok, h.cs, (ho.block g h.lt (hp g (.inl rfl))).trans h.obj, ⟨n, V, hm h1 (hp mc (.inr (.inl rfl))), h2⟩, fun p hq => ?_, h.ndr, h.ndm, h.bg, h.bm⟩
  obtain ⟨k1, k2, k3, n9, D9, k4, k5⟩ := h.regs p hq
  exact ⟨k1, k2, (ho.block _ (heap_lt k3) (hp _ (.inr (.inr ⟨p, hq, .inl rfl⟩)))).trans k3, n9, D9, hm k4 (hp _ (.inr (.inr ⟨p, hq, .inr rfl⟩))), k5⟩
theorem GP.outJ {P : Nat → Prop} (h : GP w B g s c d X) (ho : OutJ P w w') (hp : ∀ k, X k → ¬ P k) : GP w' B g s c d X := by
  obtain ⟨mc, L, h1, h2⟩ := h.at'
  exact ⟨⟨mc, L, h1.outJ ho (fun k hk => hp k ((h2 k).2 hk)), h2⟩, h.cl, h.al, Nat.le_trans h.base ho.size⟩
/-- what a call that changes a store leaves: the set of blocks may have grown by new ones -/
def Turned (w w' : World) (B g : Nat) (s' : GS) (c' d' : Nat) (X : Nat → Prop) : Prop := OutJ X w w' ∧ ∃ X', GP w' B g s' c' d' X' ∧ ∀ k, X' k → X k ∨ w.heap.size ≤ k
theorem GP.mk' {mc : Nat} {L : List Reg} (h : SAt w B g mc L s d) (hc : s.cs.length ≤ c) (ha : s.al.length ≤ d) (hB : B ≤ w.heap.size) : GP w B g s c d (MineU g mc L) := ⟨⟨mc, L, h, fun _ => Iff.rfl⟩, hc, ha, hB⟩
theorem OutJ.iff {P Q : Nat → Prop} (h : OutJ P w w') (e : ∀ k, Q k ↔ P k) : OutJ Q w w' := h.mono fun k hk => (e k).2 hk
theorem gNew_any (w : World) (B : Nat) (hB : B ≤ w.heap.size) :
    Calls Tryz.prog 6 #[] w fun e w' => ∃ g X, e = .returned (.pointer (some ⟨g, 0, none⟩)) ∧ Below w.heap.size w w' ∧ GP w' B g ⟨[], []⟩ 0 0 X ∧ ∀ k, X k → w.heap.size ≤ k := by
  refine (new_any w B hB).mono ?_
  rintro _ w' ⟨g, mc, rfl, h1, h2, h3, h4⟩
  refine ⟨g, _, rfl, h3, GP.mk' h4 (Nat.le_refl _) (Nat.le_refl _) (Nat.le_trans hB h3.size), ?_⟩
  rintro k (rfl | rfl | ⟨p, hp, _⟩)
  · exact h1
  · exact h2
  · exact nomatch hp
theorem gRegister_any (h : GP w B g s c d X) (hc9 : c ≤ 100000) (hd : d ≤ 17592186044415) (x : Cl) (hc : ClIn x) :
    Calls Tryz.prog 19 #[.pointer (some ⟨g, 0, none⟩), .agg (clC x)] w fun e w' => e = .returned (.int .i64 (regEs s x : Nat)) ∧ Turned w w' B g (s.reg x) (c + 1) (d + 1) X := by
  obtain ⟨mc, L, h1, h2⟩ := h.at'
  have hcl := h.cl
  refine (register_any h1 hd (by rw [← List.length_map (f := (·.c)), h1.cs]; omega) h.base x hc).mono ?_
  rintro _ w' ⟨L', rfl, h3, h4, h5⟩
  rw [regE_s h1.cs]
  rw [regS_s h1.cs] at h4
  refine ⟨rfl, h3.iff h2, _, GP.mk' h4 ?_ ?_ (Nat.le_trans h.base h3.size), fun k hk => (h5 k hk).imp_left (h2 k).2⟩
  · unfold GS.reg
    split
    · show (s.cs ++ [x]).length ≤ _
      rw [List.length_append, List.length_singleton]
      omega
    · omega
  · have := h.al
    unfold GS.reg
    split
    · show s.al.length ≤ _
      omega
    · omega
theorem gNarrow_any (h : GP w B g s c d X) (hd : d ≤ 17592186044416) (t n : ByteArray) (m : Nat) (ht : t.size ≤ maxLen) (hn : n.size ≤ maxLen) (hm : m ≤ 255) :
    Calls Tryz.prog 18 #[.pointer (some ⟨g, 0, none⟩), .string t, .string n, .int .u8 (m : Int)] w fun e w' => e = .returned (.tuple #[.int .u8 (narRs s t n m : Nat), .int .i64 (noneE (findC s t n).isSome)]) ∧ Turned w w' B g (s.nar t n m) c d X := by
  obtain ⟨mc, L, h1, h2⟩ := h.at'
  have hal := h.al
  refine (narrow_any h1 hd h.base (by omega) t n m ht hn hm).mono ?_
  rintro _ w' ⟨L', d', rfl, h3, h4, h5, h6, h7⟩
  rw [narR_s h1.cs, fC_isSome h1.cs]
  have hd' : d' = d := by rw [Nat.max_eq_left hal] at h5; omega
  subst hd'
  refine ⟨rfl, h3.iff h2, _, GP.mk' h6 ?_ ?_ (Nat.le_trans h.base h3.size), fun k hk => (h7 k hk).imp_left (h2 k).2⟩
  · show (s.cs.map _).length ≤ _
    rw [List.length_map]
    exact h.cl
  · show (s.al.map _).length ≤ _
    rw [List.length_map]
    exact h.al
theorem gDrop_any (h : GP w B g s c d X) (t n : ByteArray) (ht : t.size ≤ maxLen) (hn : n.size ≤ maxLen) :
    Calls Tryz.prog 25 #[.pointer (some ⟨g, 0, none⟩), .string t, .string n] w fun e w' => e = .returned (.int .i64 (noneE (findC s t n).isSome)) ∧ Turned w w' B g (s.dropC t n) c d X := by
  obtain ⟨mc, L, h1, h2⟩ := h.at'
  refine (drop_any h1 t n ht hn).mono ?_
  rintro _ w' ⟨rfl, h3, h4⟩
  rw [fC_isSome h1.cs]
  refine ⟨rfl, h3.iff h2, _, GP.mk' h4 (Nat.le_trans (List.length_filter_le _ _) h.cl) (Nat.le_trans (List.length_filter_le _ _) h.al) (Nat.le_trans h.base h3.size), fun k hk => .inl ((h2 k).2 ?_)⟩
  rcases hk with h9 | h9 | ⟨p, hp, h9⟩
  · exact .inl h9
  · exact .inr (.inl h9)
  · exact .inr (.inr ⟨p, (List.mem_filter.1 hp).1, h9⟩)
theorem gAllow_any (h : GP w B g s c d X) (hc9 : c ≤ 100000) (hd : d ≤ 17592186044415) (a : Co) (ht : a.t.size ≤ maxLen) (hu : a.u.size ≤ maxLen) (hn : a.n.size ≤ maxLen) (hsc : a.sc ≤ 255) :
    Calls Tryz.prog 20 #[.pointer (some ⟨g, 0, none⟩), .agg (coC a)] w fun e w' => e = .returned (.int .i64 (allEs s a : Nat)) ∧ Turned w w' B g (s.alw a) c (d + 1) X := by
  obtain ⟨mc, L, h1, h2⟩ := h.at'
  have hcl := h.cl
  have hal := h.al
  refine (allow_any h1 (by omega) (by rw [← List.length_map (f := (·.c)), h1.cs]; omega) h.base a ht hu hn hsc).mono ?_
  rintro _ w' ⟨rfl, h3, h4⟩
  rw [allE_s h1.cs]
  rw [alw_s h1.cs] at h4
  refine ⟨rfl, h3.iff h2, _, GP.mk' h4 ?_ ?_ (Nat.le_trans h.base h3.size), fun k hk => .inl ((h2 k).2 hk)⟩
  · unfold GS.alw
    split
    · show s.cs.length ≤ _
      omega
    · omega
  · unfold GS.alw
    split
    · show (s.al.filter _ ++ [a]).length ≤ _
      have := List.length_filter_le (fun x => !isA a.t a.u a.n x) s.al
      rw [List.length_append, List.length_singleton]
      omega
    · omega
theorem fB_isSome {mc : Nat} {L : List Reg} (h : SAt w B g mc L s d) (t u n : ByteArray) : (fB L s t u n).isSome = (fA s t u n).isSome := by
  rw [← h.fB_eq, Option.isSome_map]
theorem gWithdraw_any (h : GP w B g s c d X) (t u n : ByteArray) (ht : t.size ≤ maxLen) (hu : u.size ≤ maxLen) (hn : n.size ≤ maxLen) :
    Calls Tryz.prog 28 #[.pointer (some ⟨g, 0, none⟩), .agg #[.string t, .string u], .string n] w fun e w' => e = .returned (.int .i64 (noneE (fA s t u n).isSome)) ∧ Turned w w' B g (s.dropA t u n) c d X := by
  obtain ⟨mc, L, h1, h2⟩ := h.at'
  refine (withdraw_any h1 t u n ht hu hn).mono ?_
  rintro _ w' ⟨rfl, h3, h4⟩
  rw [fB_isSome h1]
  exact ⟨rfl, h3.iff h2, _, GP.mk' h4 h.cl (Nat.le_trans (List.length_filter_le _ _) h.al) (Nat.le_trans h.base h3.size), fun k hk => .inl ((h2 k).2 hk)⟩
theorem gDropUser_any (h : GP w B g s c d X) (hc9 : c ≤ 100000) (t u : ByteArray) (ht : t.size ≤ maxLen) (hu : u.size ≤ maxLen) :
    Calls Tryz.prog 30 #[.pointer (some ⟨g, 0, none⟩), .agg #[.string t, .string u]] w fun e w' => e = .returned (.int .i64 (consN s t u : Nat)) ∧ Turned w w' B g (s.dropU t u) c d X := by
  obtain ⟨mc, L, h1, h2⟩ := h.at'
  have hcl := h.cl
  refine (dropUser_any h1 (by rw [← List.length_map (f := (·.c)), h1.cs]; omega) t u ht hu).mono ?_
  rintro _ w' ⟨rfl, h3, h4⟩
  exact ⟨rfl, h3.iff h2, _, GP.mk' h4 h.cl (Nat.le_trans (List.length_filter_le _ _) h.al) (Nat.le_trans h.base h3.size), fun k hk => .inl ((h2 k).2 hk)⟩
theorem gMay_any (h : GP w B g s c d X) (t u n r : ByteArray) (sc : Nat) (ht : t.size ≤ maxLen) (hu : u.size ≤ maxLen) (hn : n.size ≤ maxLen) (hsc : sc ≤ 255) :
    Calls Tryz.prog 21 #[.pointer (some ⟨g, 0, none⟩), .agg #[.string t, .string u], .string n, .string r, .int .u8 (sc : Int)] w fun e w' => e = .returned (.int .i64 (mayRs s t u n r sc : Nat)) ∧ Below w.heap.size w w' := by
  obtain ⟨mc, L, h1, h2⟩ := h.at'
  rw [← mayR_s h1.cs]
  exact may_any h1 t u n r sc ht hu hn hsc
theorem gClient_any (h : GP w B g s c d X) (t n : ByteArray) (ht : t.size ≤ maxLen) (hn : n.size ≤ maxLen) :
    Calls Tryz.prog 33 #[.pointer (some ⟨g, 0, none⟩), .string t, .string n] w fun e w' => e = .returned (.tuple #[.agg (((findC s t n).map clC).getD clC0), .int .i64 (noneE (findC s t n).isSome)]) ∧ Below w.heap.size w w' := by
  obtain ⟨mc, L, h1, h2⟩ := h.at'
  rw [← fC_map h1.cs, Option.isSome_map, Option.map_map]
  exact client_any h1 t n ht hn
theorem gConsent_any (h : GP w B g s c d X) (t u n : ByteArray) (ht : t.size ≤ maxLen) (hu : u.size ≤ maxLen) (hn : n.size ≤ maxLen) :
    Calls Tryz.prog 35 #[.pointer (some ⟨g, 0, none⟩), .agg #[.string t, .string u], .string n] w fun e w' => e = .returned (.tuple #[.agg (((fA s t u n).map coC).getD clC0), .int .i64 (noneE (fA s t u n).isSome)]) ∧ Below w.heap.size w w' := by
  obtain ⟨mc, L, h1, h2⟩ := h.at'
  rw [← h1.fB_eq, Option.isSome_map, Option.map_map]
  exact consent_any h1 t u n ht hu hn
/-- a row in the order of clients' names -/
theorem gClients_any (h : GP w B g s c d X) (hc9 : c ≤ 100000) (t : ByteArray) (ht : t.size ≤ maxLen) :
    Calls Tryz.prog 37 #[.pointer (some ⟨g, 0, none⟩), .string t] w fun e w' => ∃ v S, e = .returned v ∧ S.Perm (s.cs.filter (inT t)) ∧ NameOrder S ∧ w'.ownsRow w.heap.size 56 4 v S.length (clCells S) ∧ Below w.heap.size w w' := by
  obtain ⟨mc, L, h1, h2⟩ := h.at'
  have hcl := h.cl
  exact clients_any h1 (by rw [← List.length_map (f := (·.c)), h1.cs]; omega) t ht
def consS (s : GS) (t u : ByteArray) (S : List Cl) : List Co := S.filterMap fun c => fA s t u c.n
theorem gConsents_any (h : GP w B g s c d X) (hc9 : c ≤ 100000) (t u : ByteArray) (ht : t.size ≤ maxLen) (hu : u.size ≤ maxLen) :
    Calls Tryz.prog 39 #[.pointer (some ⟨g, 0, none⟩), .agg #[.string t, .string u]] w fun e w' => ∃ v S c, e = .returned (.slice v (consS s t u S).length c) ∧ S.Perm (s.cs.filter (inT t)) ∧ NameOrder S ∧ w'.ownsRow w.heap.size 59 4 (.slice v (consS s t u S).length c) (consS s t u S).length (coCells (consS s t u S)) ∧ Below w.heap.size w w' ∧ (consS s t u S).Perm (s.al.filter (isU t u)) := by
  obtain ⟨mc, L, h1, h2⟩ := h.at'
  have hcl := h.cl
  refine (consents_any h1 (by rw [← List.length_map (f := (·.c)), h1.cs]; omega) t u ht hu).mono ?_
  rintro _ w' ⟨v, S, c, rfl, p1, p2, p3, p4⟩
  have e : consF L s t u S = consS s t u S := h1.consF_eq t u S
  have p5 := consF_perm h1 t u p1
  rw [e] at p3 p5 ⊢
  exact ⟨v, S, c, rfl, p1, p2, p3, p4, p5⟩
end
end Go.Proofs.YtlkbojgemcjilaaGreatDoor

/- Grants: live of the laws. -/
namespace Go.Proofs.YtlkbojgemcjilaaGreatDoor
open Go.RowKit Go.Maps
set_option linter.unusedVariables false
set_option maxRecDepth 20000
section
variable {w w' : World} {B g c d c' d' : Nat} {s s' : GS} {X : Nat → Prop}
theorem GP.keep (h : GP w B g s c d X) (ho : OutJ X w w') {k : Nat} {cs : Array Value} {T : TypeId} {fr : Nat × Nat} (hk : w.heap[k]? = some (.cells cs T fr)) (h1 : T ≠ 49) (h2 : T ≠ 66) : w'.heap[k]? = some (.cells cs T fr) := by
  refine (ho.block k (heap_lt hk) (fun hx => ?_)).trans hk
  rcases h.typed k hx with ⟨es, c, e⟩ | ⟨cs', T', fr', e, hT⟩
  · rw [hk] at e; cases e
  · rw [hk] at e
    cases e
    exact hT.elim h1 h2
theorem Turned.below (t : Turned w w' B g s' c' d' X) (h : GP w B g s c d X) : Below B w w' := t.1.below h.base h.ge
end
def tU : ByteArray := ⟨#[116]⟩
def uU : ByteArray := ⟨#[117]⟩
def cU : ByteArray := ⟨#[99]⟩
def rU : ByteArray := ⟨#[114]⟩
def s0U : GS := ⟨[], []⟩
def clU : Cl := ⟨tU, cU, rU, 3⟩
def coU : Co := ⟨tU, uU, cU, 1⟩
def s1U : GS := s0U.reg clU
def s2U : GS := s1U.alw coU
def s3U : GS := s2U.nar tU cU 2
theorem live1 : regEs s0U clU = 0 := by decide +kernel
theorem live2 : allEs s1U coU = 0 := by decide +kernel
theorem live3 : mayRs s2U tU uU cU rU 1 = 0 := by decide +kernel
theorem live4 : narRs s2U tU cU 2 = 2 := by decide +kernel
theorem live5 : noneE (findC s2U tU cU).isSome = 0 := by decide +kernel
theorem live6 : mayRs s3U tU uU cU rU 1 = 14 := by decide +kernel
theorem sz1 : tU.size ≤ maxLen := by decide +kernel
theorem sz2 : uU.size ≤ maxLen := by decide +kernel
theorem sz3 : cU.size ≤ maxLen := by decide +kernel
theorem clU_in : ClIn clU := ⟨by decide +kernel, by decide +kernel, by decide +kernel, by decide +kernel⟩
set_option maxHeartbeats 4000000 in
theorem liveG_any (w : World) : Calls Tryz.prog 8 #[] w fun e w' => e = .returned (.bool true) ∧ Below w.heap.size w w' := by
  have HN := hid (gNew_any w w.heap.size (Nat.le_refl _))
  have HR := hid (fun (V : World) (g : Nat) (X : Nat → Prop) (h : GP V w.heap.size g s0U 0 0 X) => (show Calls Tryz.prog 19 #[.pointer (some ⟨g, 0, none⟩), .agg #[.string ⟨#[116]⟩, .string ⟨#[99]⟩, .string ⟨#[114]⟩, .int .u8 3]] V fun e w' => e = .returned (.int .i64 0) ∧ Turned V w' w.heap.size g s1U 1 1 X from by
    have h9 := gRegister_any h (by omega) (by omega) clU clU_in
    rw [live1] at h9
    exact h9))
  have HA := hid (fun (V : World) (g : Nat) (X : Nat → Prop) (h : GP V w.heap.size g s1U 1 1 X) => (show Calls Tryz.prog 20 #[.pointer (some ⟨g, 0, none⟩), .agg #[.string ⟨#[116]⟩, .string ⟨#[117]⟩, .string ⟨#[99]⟩, .int .u8 1]] V fun e w' => e = .returned (.int .i64 0) ∧ Turned V w' w.heap.size g s2U 1 2 X from by
    have h9 := gAllow_any h (by omega) (by omega) coU sz1 sz2 sz3 (by decide +kernel)
    rw [live2] at h9
    exact h9))
  have HM := hid (fun (V : World) (g : Nat) (X : Nat → Prop) (h : GP V w.heap.size g s2U 1 2 X) => (show Calls Tryz.prog 21 #[.pointer (some ⟨g, 0, none⟩), .agg #[.string ⟨#[116]⟩, .string ⟨#[117]⟩], .string ⟨#[99]⟩, .string ⟨#[114]⟩, .int .u8 1] V fun e w' => e = .returned (.int .i64 0) ∧ Below V.heap.size V w' from by
    have h9 := gMay_any h tU uU cU rU 1 sz1 sz2 sz3 (by omega)
    rw [live3] at h9
    exact h9))
  have HNr := hid (fun (V : World) (g : Nat) (X : Nat → Prop) (h : GP V w.heap.size g s2U 1 2 X) => (show Calls Tryz.prog 18 #[.pointer (some ⟨g, 0, none⟩), .string ⟨#[116]⟩, .string ⟨#[99]⟩, .int .u8 2] V fun e w' => e = .returned (.tuple #[.int .u8 2, .int .i64 0]) ∧ Turned V w' w.heap.size g s3U 1 2 X from by
    have h9 := gNarrow_any h (by omega) tU cU 2 sz1 sz3 (by omega)
    rw [live4, live5] at h9
    exact h9))
  have HM2 := hid (fun (V : World) (g : Nat) (X : Nat → Prop) (h : GP V w.heap.size g s3U 1 2 X) => (show Calls Tryz.prog 21 #[.pointer (some ⟨g, 0, none⟩), .agg #[.string ⟨#[116]⟩, .string ⟨#[117]⟩], .string ⟨#[99]⟩, .string ⟨#[114]⟩, .int .u8 1] V fun e w' => e = .returned (.int .i64 14) ∧ Below V.heap.size V w' from by
    have h9 := gMay_any h tU uU cU rU 1 sz1 sz2 sz3 (by omega)
    rw [live6] at h9
    exact h9))
  go_enter Tryz.func8, Tryz.ntmps8
  go_wp2_with (first
    | (go_at_call 6; refine HN.out.mono ?_; rintro _ w1 ⟨g, X1, rfl, b1, g1, _⟩; have B1 := hid b1; clear HN b1; obtain ⟨V1, hV1⟩ : ∃ V1, V1 = w1.alloc (.cells #[.string ⟨#[116]⟩, .string ⟨#[117]⟩] 30) := ⟨_, rfl⟩; have bV1 : Below w1.heap.size w1 V1 := (by rw [hV1]; exact (Below.refl _ w1).alloc (Nat.le_refl _) _); have xV1 : V1.heap[w1.heap.size]? = some (.cells #[.string ⟨#[116]⟩, .string ⟨#[117]⟩] 30 (0, 0)) := (by rw [hV1]; exact heap_allocN w1 _); have G1 := hid (g1.below bV1); have BV1 := hid (Below.on' B1.out bV1); have XV1 := hid xV1; have HV1 := hid hV1.symm; clear g1 hV1 bV1 xV1)
    | (go_at_call 19; rw [HV1.out]; refine (HR.out _ _ _ G1.out).mono ?_; rintro _ w2 ⟨rfl, t2⟩; have B2 := hid (BV1.out.trans (t2.below G1.out)); have x2 := G1.out.keep t2.1 XV1.out (by decide) (by decide); obtain ⟨_, X2, g2, _⟩ := t2; have G2 := hid g2; have o0 : w2.cell? ⟨w1.heap.size, 0, none⟩ = some (.string ⟨#[116]⟩) := (cell_of_rowU _ _ 0 _ _ _ x2).trans rfl; have o1 : w2.cell? ⟨w1.heap.size, 1, none⟩ = some (.string ⟨#[117]⟩) := (cell_of_rowU _ _ 1 _ _ _ x2).trans rfl; have X2h := hid x2; clear g2 HR G1 x2)
    | (go_at_call 20; refine (HA.out _ _ _ G2.out).mono ?_; rintro _ w3 ⟨rfl, t3⟩; have B3 := hid (B2.out.trans (t3.below G2.out)); have x3 := G2.out.keep t3.1 X2h.out (by decide) (by decide); obtain ⟨_, X3, g3, _⟩ := t3; have G3 := hid g3; clear o0 o1; have o0 : w3.cell? ⟨w1.heap.size, 0, none⟩ = some (.string ⟨#[116]⟩) := (cell_of_rowU _ _ 0 _ _ _ x3).trans rfl; have o1 : w3.cell? ⟨w1.heap.size, 1, none⟩ = some (.string ⟨#[117]⟩) := (cell_of_rowU _ _ 1 _ _ _ x3).trans rfl; have X3h := hid x3; clear g3 HA G2 x3)
    | (go_at_call 21; refine (HM.out _ _ _ G3.out).mono ?_; rintro _ w4 ⟨rfl, b4⟩; have B4 := hid (Below.on' B3.out b4); have G4 := hid (G3.out.below b4); have x4 := (b4.block _ (heap_lt X3h.out)).trans X3h.out; have X4h := hid x4; clear b4 HM G3 x4)
    | (go_at_call 18; refine (HNr.out _ _ _ G4.out).mono ?_; rintro _ w5 ⟨rfl, t5⟩; have B5 := hid (B4.out.trans (t5.below G4.out)); have x5 := G4.out.keep t5.1 X4h.out (by decide) (by decide); obtain ⟨_, X5, g5, _⟩ := t5; have G5 := hid g5; clear o0 o1; have o0 : w5.cell? ⟨w1.heap.size, 0, none⟩ = some (.string ⟨#[116]⟩) := (cell_of_rowU _ _ 0 _ _ _ x5).trans rfl; have o1 : w5.cell? ⟨w1.heap.size, 1, none⟩ = some (.string ⟨#[117]⟩) := (cell_of_rowU _ _ 1 _ _ _ x5).trans rfl; clear g5 HNr G4 x5)
    | (go_at_call 21; refine (HM2.out _ _ _ G5.out).mono ?_; rintro _ w6 ⟨rfl, b6⟩; have B6 := hid (Below.on' B5.out b6); clear b6 HM2))
  go_ret
  exact ⟨rfl, B6.out⟩
end Go.Proofs.YtlkbojgemcjilaaGreatDoor
