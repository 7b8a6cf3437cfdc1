/- Grants: DropUser. -/
import Derived.Test.YtlkbojgemcjilaaU21
namespace Go.Proofs.Ytlkbojgemcjilaa
open Go.RowKit Go.Maps Go.Shelf Go.Sort Go.Lib
set_option linter.unusedVariables false
set_option maxRecDepth 20000
def GS.dropU (s : GS) (t u : ByteArray) : GS := ⟨s.cs, s.al.filter fun a => !isU t u a⟩
/-- with the consents at those clients gone -/
def GS.dropN (s : GS) (t u : ByteArray) (C : List Co) : GS := ⟨s.cs, s.al.filter fun a => !(isU t u a && C.any fun x => decide (x.n = a.n))⟩
theorem dropN_nil (s : GS) (t u : ByteArray) : s.dropN t u [] = s := by
  show (⟨s.cs, s.al.filter _⟩ : GS) = s
  rw [List.filter_eq_self.2 (fun a _ => by simp)]
theorem isA_isU (t u n : ByteArray) (a : Co) : isA t u n a = (isU t u a && decide (n = a.n)) := by
  rw [Bool.eq_iff_iff, Bool.and_eq_true, isA_iff, isU_iff, decide_eq_true_iff]
  exact ⟨fun ⟨h1, h2, h3⟩ => ⟨⟨h1, h2⟩, h3.symm⟩, fun ⟨⟨h1, h2⟩, h3⟩ => ⟨h1, h2, h3.symm⟩⟩
theorem dropN_step (s : GS) (t u : ByteArray) (C : List Co) (x : Co) : (s.dropN t u C).dropA t u x.n = s.dropN t u (C ++ [x]) := by
  unfold GS.dropN GS.dropA
  rw [List.filter_filter]
  congr 2
  funext a
  rw [List.any_append, List.any_cons, List.any_nil, Bool.or_false, isA_isU]
  cases isU t u a <;> cases C.any (fun x => decide (x.n = a.n)) <;> cases decide (x.n = a.n) <;> rfl
theorem own_outU {P : Nat → Prop} {w w' : World} {B n sz : Nat} {e : TypeId} {v : Value} {xs : List Value} (h : w.ownsRow B e sz v n xs) (ho : OutJ P w w') (hp : ∀ k, B ≤ k → ¬ P k) : w'.ownsRow B e sz v n xs := by
  refine ⟨h.1, ?_⟩
  rcases h.2 with h0 | ⟨g, cap, cur, e1, hb, hg, rest⟩
  · exact .inl h0
  · exact .inr ⟨g, cap, cur, e1, hb, (ho.block g (heap_lt hg) (hp g hb)).trans hg, rest⟩
theorem dropN_all {s : GS} {t u : ByteArray} {C : List Co} (hC : C.Perm (s.al.filter (isU t u))) : s.dropN t u C = s.dropU t u := by
  unfold GS.dropN GS.dropU
  congr 1
  refine List.filter_congr fun a ha => ?_
  cases hu : isU t u a with
  | false => rfl
  | true =>
    have : C.any (fun x => decide (x.n = a.n)) = true := List.any_eq_true.2 ⟨a, hC.mem_iff.2 (List.mem_filter.2 ⟨ha, hu⟩), decide_eq_true rfl⟩
    rw [this]
    rfl
theorem coCells_get (l : List Co) (k : Nat) (h : k < l.length) : (coCells l)[k * 4]? = some (.string l[k].t) ∧ (coCells l)[k * 4 + 1]? = some (.string l[k].u) ∧ (coCells l)[k * 4 + 2]? = some (.string l[k].n) ∧ (coCells l)[k * 4 + 3]? = some (.int .u8 (l[k].sc : Int)) := by
  induction l generalizing k with
  | nil => simp at h
  | cons a l ih =>
    have e : coCells (a :: l) = [.string a.t, .string a.u, .string a.n, .int .u8 (a.sc : Int)] ++ coCells l := rfl
    cases k with
    | zero => exact ⟨rfl, rfl, rfl, rfl⟩
    | succ k =>
      have h2 := ih k (by simpa using h)
      rw [e, List.getElem?_append_right (by simp; omega), List.getElem?_append_right (by simp; omega), List.getElem?_append_right (by simp; omega), List.getElem?_append_right (by simp; omega)]
      simp only [List.length_cons, List.length_nil, List.getElem_cons_succ]
      rw [show (k + 1) * 4 - (0 + 1 + 1 + 1 + 1) = k * 4 by omega, show (k + 1) * 4 + 1 - (0 + 1 + 1 + 1 + 1) = k * 4 + 1 by omega, show (k + 1) * 4 + 2 - (0 + 1 + 1 + 1 + 1) = k * 4 + 2 by omega, show (k + 1) * 4 + 3 - (0 + 1 + 1 + 1 + 1) = k * 4 + 3 by omega]
      exact h2
section
variable {w w' : World} {B g mc d : Nat} {L : List Reg} {s : GS}
set_option maxHeartbeats 8000000 in
theorem dropUser_any (h : SAt w B g mc L s d) (hl9 : L.length ≤ 100000) (t u : ByteArray) (ht : t.size ≤ maxLen) (hu : u.size ≤ maxLen) :
    Calls Try.prog 18 #[.pointer (some ⟨g, 0, none⟩), .agg #[.string t, .string u]] w fun e w' => e = .returned (.int .i64 (consN s t u : Nat)) ∧ OutJ (MineU g mc L) w w' ∧ SAt w' B g mc L (s.dropU t u) d := by
  obtain ⟨W, hW⟩ : ∃ W, W = w.alloc (.cells #[.string t, .string u] 24) := ⟨_, rfl⟩
  have b0 : Below w.heap.size w W := by rw [hW]; exact (Below.refl _ w).alloc (Nat.le_refl _) _
  have x0 : W.heap[w.heap.size]? = some (.cells #[.string t, .string u] 24 (0, 0)) := by rw [hW]; exact heap_allocN w _
  have o0 : W.cell? ⟨w.heap.size, 0, none⟩ = some (.string t) := (cell_of_rowU _ _ 0 _ _ _ x0).trans rfl
  have o1 : W.cell? ⟨w.heap.size, 1, none⟩ = some (.string u) := (cell_of_rowU _ _ 1 _ _ _ x0).trans rfl
  have h0 := h.below b0
  have HC := hid (consents_any h0 hl9 t u ht hu)
  have HCn := hid (fun (S : List Cl) (hS : S.Perm (s.cs.filter (inT t))) => consF_perm h t u hS)
  have Hcl := hid (consents_len h hl9 t u)
  have Hns := hid (fun (a : Co) (ha : a ∈ s.al) => (show a.n.size ≤ maxLen from by
    obtain ⟨_, _, _, c, hc, _, e2, _⟩ := h.ok.anames a ha
    rw [← e2]
    have := okN_len (h.ok.names c hc).2.1
    unfold maxLen; omega))
  have HW := hid hW.symm
  have B0 := hid b0
  have X0 := hid x0
  have H0 := hid h0
  have Htu := hid (And.intro ht hu)
  obtain ⟨m, hm⟩ : ∃ m, m = consN s t u := ⟨_, rfl⟩
  rw [← hm] at Hcl ⊢
  have Hm := hid hm
  have hmine : ∀ k, MineU g mc L k → k < W.heap.size := fun k hk => by
    rcases hk with rfl | rfl | ⟨p, hp, rfl | rfl⟩
    · exact h0.lt
    · obtain ⟨_, _, h9, _⟩ := h0.cm; exact map_new_ne h9
    · exact heap_lt (h0.regs p hp).2.2.1
    · obtain ⟨_, _, _, _, _, h9, _⟩ := h0.regs p hp; exact map_new_ne h9
  have Hmine := hid hmine
  have hnw : ¬ MineU g mc L w.heap.size := fun hk => by
    rcases hk with e | e | ⟨p, hp, e | e⟩
    · have := h.lt; omega
    · obtain ⟨_, _, h9, _⟩ := h.cm; have := map_new_ne h9; omega
    · have := heap_lt (h.regs p hp).2.2.1; omega
    · obtain ⟨_, _, _, _, _, h9, _⟩ := h.regs p hp; have := map_new_ne h9; omega
  have Hnw := hid hnw
  rw [hW] at o0 o1
  clear h h0 hW b0 x0 hm hmine hnw ht hu hl9
  go_enter Try.func18, Try.ntmps18
  go_wp2_with (go_at_call 17; rw [HW.out]; refine HC.out.mono ?_; rintro _ w2 ⟨v, S, c, rfl, p1, p2, p3, p4⟩; have hP := HCn.out S p1; have hlen : (consF L s t u S).length = m := hP.length_eq.trans Hm.out.symm; obtain ⟨C, hCC⟩ : ∃ C, C = consF L s t u S := ⟨_, rfl⟩; rw [← hCC] at hP hlen p3 ⊢; rw [hlen] at p3 ⊢; have HP := hid hP; have P3 := hid p3; have P4 := hid p4; have HLen := hid hlen; clear p1 p2 p3 p4 hP hlen hCC)
  clear o0 o1
  go_loopw [7, 13] (fun _ i wr => ∃ (k : Nat), i = .int .i64 (k : Int) ∧ k ≤ m ∧ OutJ (MineU g mc L) w2 wr ∧ SAt wr B g mc L (s.dropN t u (C.take k)) d) (fun _ i _ => m - (intOf i).toNat)
  case atStart => exact ⟨0, rfl, Nat.zero_le _, OutJ.of_below (Below.refl _ _), by rw [List.take_zero, dropN_nil]; exact H0.out.below P4.out⟩
  case round =>
    obtain ⟨k, rfl, hk, ho, hs⟩ := hrel
    have Ho := hid ho
    have Hs := hid hs
    clear ho hs
    by_cases hlt : k < m
    · have g1 : (k : Int) < (m : Int) := by omega
      have g2 : (0 : Int) ≤ (k : Int) := by omega
      have hkC : k < C.length := by rw [HLen.out]; exact hlt
      obtain ⟨gC, cC, eC⟩ := own_someU P3.out (by omega)
      injection eC with eC1 _ eC2
      subst eC1 eC2
      have hvS : wr.ownsRow W.heap.size 35 4 (.slice (some ⟨gC, 0, none⟩) m c) m (coCells C) := by
        exact own_outU P3.out Ho.out (fun k9 h8 h9 => by have := Hmine.out k9 h9; omega)
      have ca := fun j (hj : j < 4) => hvS.cellAt (k * 4 + j) (by omega)
      obtain ⟨e0, e1, e2, e3⟩ := coCells_get C k hkC
      have q0 : wr.cell? ⟨gC, k * 4, none⟩ = some (.string C[k].t) := (ca 0 (by omega)).trans e0
      have q1 : wr.cell? ⟨gC, k * 4 + 1, none⟩ = some (.string C[k].u) := (ca 1 (by omega)).trans e1
      have q2 : wr.cell? ⟨gC, k * 4 + 2, none⟩ = some (.string C[k].n) := (ca 2 (by omega)).trans e2
      have q3 : wr.cell? ⟨gC, k * 4 + 3, none⟩ = some (.int .u8 (C[k].sc : Int)) := (ca 3 (by omega)).trans e3
      have hmem : C[k] ∈ s.al := (List.mem_filter.1 (HP.out.mem_iff.1 (List.getElem_mem hkC))).1
      have hns := Hns.out _ hmem
      have htk : Hid (C.take (k + 1) = C.take k ++ [C[k]]) := List.take_succ_eq_append_getElem hkC
      obtain ⟨x, hx⟩ : ∃ x, x = C[k] := ⟨_, rfl⟩
      rw [← hx] at q0 q1 q2 q3 htk hns
      clear hx hmem ca e0 e1 e2 e3 hvS
      have gw : Hid (wrap64 ((k : Int) + 1) = (k : Int) + 1) := IntWalk.wrap64_in _ (by have := Hcl.out; omega)
      obtain ⟨X, hX⟩ : ∃ X, X = wr.alloc (.cells #[.string x.t, .string x.u, .string x.n, .int .u8 (x.sc : Int)] 35) := ⟨_, rfl⟩
      have bX : Below wr.heap.size wr X := by rw [hX]; exact (Below.refl _ wr).alloc (Nat.le_refl _) _
      have n1 : X.cell? ⟨wr.heap.size, 2, none⟩ = some (.string x.n) := by rw [hX]; exact (cell_of_rowU _ _ 2 _ _ _ (heap_allocN wr _)).trans rfl
      have xw : X.heap[w.heap.size]? = some (.cells #[.string t, .string u] 24 (0, 0)) := by
        have h2 : w2.heap[w.heap.size]? = some (.cells #[.string t, .string u] 24 (0, 0)) := (P4.out.block _ (heap_lt X0.out)).trans X0.out
        have h3 := (Ho.out.block _ (heap_lt h2) Hnw.out).trans h2
        exact (bX.block _ (heap_lt h3)).trans h3
      have k0 : X.cell? ⟨w.heap.size, 0, none⟩ = some (.string t) := (cell_of_rowU _ _ 0 _ _ _ xw).trans rfl
      have k1 : X.cell? ⟨w.heap.size, 1, none⟩ = some (.string u) := (cell_of_rowU _ _ 1 _ _ _ xw).trans rfl
      have HX := hid hX.symm
      have HWd := hid (withdraw_any (Hs.out.below bX) t u x.n Htu.out.1 Htu.out.2 hns)
      have hoX := hid (Ho.out.trans (OutJ.of_below (P := MineU g mc L) bX))
      have Hlt := hid hlt
      rw [hX] at k0 k1 n1
      clear hX bX xw hns hkC hlt
      go_wp2_with (first
        | (go_at_call 24; rw [HX.out]; refine HWd.out.mono ?_; rintro _ w5 ⟨rfl, o5, s5⟩; have O5 := hid (hoX.out.trans o5); have S5 := hid s5; clear o5 s5)
        | go_in)
      go_roundw
      case rel =>
        refine ⟨k + 1, by simp [gw.out], by have := Hlt.out; omega, O5.out, ?_⟩
        rw [htk.out, ← dropN_step]
        exact S5.out
      case measure => exact measU _ _ _ Hlt.out gw.out
    · have hkn : k = m := by omega
      subst hkn
      have hd0 : decide ((k : Int) < (k : Int)) = false := by simp
      have hC : C.take k = C := by rw [← HLen.out]; exact List.take_length
      have hs9 := hid (show SAt wr B g mc L (s.dropU t u) d from by
        have h9 := Hs.out
        rw [hC, dropN_all HP.out] at h9
        exact h9)
      clear hlt hk hC Hs
      go_wp2_with go_in
      go_ret
      exact ⟨rfl, ((OutJ.of_below B0.out).trans (OutJ.of_below P4.out)).trans Ho.out, hs9.out⟩
end
end Go.Proofs.Ytlkbojgemcjilaa
