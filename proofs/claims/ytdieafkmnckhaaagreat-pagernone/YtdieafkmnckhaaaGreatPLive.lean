/- live of law 4. -/
import Derived.Test.YtdieafkmnckhaaaGreatPCache
namespace Go.Proofs.YtdieafkmnckhaaaGreat
open Go.RowKit Go.Maps Go.Sort Go.Shelf
set_option linter.unusedVariables false
set_option maxRecDepth 20000
theorem read_counts {s : PS} {q : Nat} (hd : s.dl.lookup q = none) (hq : q ∉ s.ord) : (readS s q).mi = s.mi + 1 ∧ (readS s q).hi = s.hi := by
  unfold readS
  rw [hd, if_neg (by simp)]
  unfold useS
  rw [if_neg hq]
  split <;> exact ⟨rfl, rfl⟩
theorem not_bad {s : PS} {q : Nat} (h : q < s.P) : ¬ badP s (q : Int) := by unfold badP; omega
set_option maxHeartbeats 4000000 in
theorem pgLive_any (w : World) : Calls Tryz.prog 13 #[] w fun e w' => e = .returned (.bool true) ∧ Below w.heap.size w w' := by
  obtain ⟨F, hF⟩ : ∃ F : Nat → Prop, F = fun k => k < w.heap.size := ⟨_, rfl⟩
  have HO := hid (open_c w 5 1 (by omega) (by omega) (by omega) (by omega) F (fun k hk => by rw [hF] at hk; exact hk))
  have HF := hid hF
  clear hF
  obtain ⟨y, hy⟩ : ∃ y : List UInt8, y = List.replicate 256 3 := ⟨_, rfl⟩
  have HY := hid hy
  obtain ⟨s0, hs0⟩ : ∃ s, s = newS 5 11 0 0 [] [] 1 := ⟨_, rfl⟩
  obtain ⟨s1, hs1⟩ : ∃ s, s = readS s0 0 := ⟨_, rfl⟩
  obtain ⟨s2, hs2⟩ : ∃ s, s = readS s1 0 := ⟨_, rfl⟩
  obtain ⟨s3, hs3⟩ : ∃ s, s = readS s2 1 := ⟨_, rfl⟩
  obtain ⟨s4, hs4⟩ : ∃ s, s = writeS s3 2 y := ⟨_, rfl⟩
  obtain ⟨s5, hs5⟩ : ∃ s, s = commitS s4 := ⟨_, rfl⟩
  obtain ⟨s6, hs6⟩ : ∃ s, s = readS s5 2 := ⟨_, rfl⟩
  rw [← hs0] at HO
  have k0 : Hid (s0.t = 0 ∧ s0.P = 11) := by rw [hs0]; exact ⟨rfl, rfl⟩
  have k1 : Hid (s1.t = 1 ∧ s1.P = 11) := by rw [hs1, hs0]; exact ⟨rfl, rfl⟩
  have k2 : Hid (s2.t = 2 ∧ s2.P = 11) := by rw [hs2, hs1, hs0]; exact ⟨rfl, rfl⟩
  have k3 : Hid (s3.t = 3 ∧ s3.P = 11 ∧ s3.ord = [1] ∧ s3.dl = [] ∧ s3.mi = 2 ∧ s3.hi = 1 ∧ s3.S = 5) := by rw [hs3, hs2, hs1, hs0]; exact ⟨rfl, rfl, rfl, rfl, rfl, rfl, rfl⟩
  have k4 : Hid (s4.t = 4 ∧ s4.P = 11 ∧ s4.ord = [1] ∧ s4.dl = [(2, y)] ∧ s4.mi = 2 ∧ s4.hi = 1 ∧ comOk s4 ∧ s4.now 2 = y) := by
    obtain ⟨h1, h2, h3, h4, h5, h6, h7⟩ := k3.out
    rw [hs4]
    refine ⟨by show s3.t + 1 = 4; omega, h2, by show s3.ord.filter _ = _; rw [h3]; rfl, by show dIns 2 y s3.dl = _; rw [h4]; rfl, h5, h6, .inr ?_, ?_⟩
    · show (dIns 2 y s3.dl).length + 1 ≤ s3.S
      rw [h4, h7]; simp [dIns]
    · show ((dIns 2 y s3.dl).lookup 2).getD _ = y
      rw [h4]; rfl
  have k5 : Hid (s5.t = 7 ∧ s5.P = 11 ∧ s5.ord = [1] ∧ s5.dl = [] ∧ s5.mi = 2 ∧ s5.hi = 1) := by
    obtain ⟨h1, h2, h3, h4, h5, h6, h7⟩ := commitS_same (s := s4)
    obtain ⟨g1, g2, g3, g4, g5, g6, _⟩ := k4.out
    rw [hs5]
    exact ⟨by omega, by omega, by rw [h1, g3], commitS_dl, by omega, by omega⟩
  have k6 : Hid (s6.mi = 3 ∧ s6.hi = 1) := by
    obtain ⟨g1, g2, g3, g4, g5, g6⟩ := k5.out
    have := read_counts (s := s5) (q := 2) (by rw [g4]; rfl) (by rw [g3]; simp)
    rw [hs6]
    exact ⟨by omega, by omega⟩
  have S1 := hid hs1
  have S2 := hid hs2
  have S3 := hid hs3
  have S4 := hid hs4
  have S5 := hid hs5
  have S6 := hid hs6
  clear hs0 hs1 hs2 hs3 hs4 hs5 hs6 hy
  go_enter Tryz.func13, Tryz.ntmps13
  go_wp2_with fail
  refine HO.out.mono ?_
  rintro _ w0 ⟨p, q, rfl, C0, b0⟩
  have HC0 := hid (read_c C0 (by have := k0.out.1; omega) 0 (by omega))
  have B0 := hid b0
  clear C0 b0
  go_wp2_with fail
  refine HC0.out.mono ?_
  rintro _ w1 (⟨hx, _⟩ | ⟨_, b1, c1, rfl, r1, C1, o1, _⟩)
  · exact absurd hx (not_bad (q := 0) (by have := k0.out.2; omega))
  have C1' := C1.mono (F' := F) (fun k hk => .inl hk)
  rw [show readS s0 (0 : Int).toNat = s1 from S1.out.symm] at C1'
  have HC1 := hid (read_c C1' (by have := k1.out.1; omega) 0 (by omega))
  have O1 := hid o1
  clear C1 C1' r1 o1 HC0
  go_wp2_with fail
  refine HC1.out.mono ?_
  rintro _ w2 (⟨hx, _⟩ | ⟨_, b2, c2, rfl, r2, C2, o2, _⟩)
  · exact absurd hx (not_bad (q := 0) (by have := k1.out.2; omega))
  have C2' := C2.mono (F' := F) (fun k hk => .inl hk)
  rw [show readS s1 (0 : Int).toNat = s2 from S2.out.symm] at C2'
  have HC2 := hid (read_c C2' (by have := k2.out.1; omega) 1 (by omega))
  have O2 := hid (O1.out.to o2)
  clear C2 C2' r2 o2 HC1 O1
  go_wp2_with fail
  refine HC2.out.mono ?_
  rintro _ w3 (⟨hx, _⟩ | ⟨_, b3, c3, rfl, r3, C3, o3, _⟩)
  · exact absurd hx (not_bad (q := 1) (by have := k2.out.2; omega))
  have C3' := C3.mono (F' := F) (fun k hk => .inl hk)
  rw [show readS s2 (1 : Int).toNat = s3 from S3.out.symm] at C3'
  have HCa := hid (cached_c C3')
  rw [k3.out.2.2.1] at HCa
  have O3 := hid (O2.out.to o3)
  have HC3 := hid C3'
  clear C3 C3' r3 o3 HC2 O2
  go_wp2_with fail
  refine HCa.out.mono ?_
  rintro _ w4 ⟨v4, rfl, r4, b4⟩
  have HC4 := hid (HC3.out.add b4)
  have R4 := hid r4
  have O4 := hid (O3.out.to (Kept.of_below b4))
  obtain ⟨g4, c4, hv4⟩ : ∃ g c, v4 = .slice (some ⟨g, 0, none⟩) 1 c := by
    rcases r4.2 with ⟨_, h0⟩ | ⟨g, c, _, e, _⟩
    · simp at h0
    · exact ⟨g, c, e⟩
  subst hv4
  have hg4 := r4.lt g4 rfl
  clear r4 b4 HCa O3 HC3
  have HB : Hid (Calls Tryz.prog 36 #[.agg #[.int .i64 0, .slice none 0 0, .int .u8 3, .bool false]] w4 (BytPost w4 3 256)) := bytes4_any 0 (.slice none 0 0) 3 false w4 rfl
  go_wp2_with fail
  refine HB.out.mono ?_
  rintro _ w5 ⟨g5, c5, rfl, r5, hg5, b5⟩
  have C5 := HC4.out.below b5
  have HW := hid (write_c C5 (by have := k3.out.1; omega) 2 (by omega) y (some ⟨g5, 0, none⟩) c5 (by rw [HY.out]; exact bytes_of_row r5 (by simp)) 256 (by rw [HY.out]; simp))
  have O5 := hid (O4.out.to (Kept.of_below b5))
  have R5 : Hid (w5.ownsRow w3.heap.size 3 1 (.slice (some ⟨g4, 0, none⟩) 1 c4) 1 (natCells [1])) := own_keep R4.out (fun k e => b5.block k (by cases e; exact hg4.2))
  have hg5' := b5.size
  clear C5 r5 b5 HC4 HB R4 O4
  go_wp2_with fail
  refine HW.out.mono ?_
  rintro _ w6 (⟨hx, _⟩ | ⟨_, rfl, C6, o6⟩)
  · exfalso
    apply hx
    obtain ⟨h1, h2, h3, h4, h5, h6, h7⟩ := k3.out
    unfold writeE
    rw [h2, h4, HY.out]; rfl
  rw [show writeS s3 (2 : Int).toNat y = s4 from S4.out.symm] at C6
  have HCo := hid (com_c C6 (by have := k4.out.1; omega) (by have := k4.out.2.1; omega))
  have O6 := hid (O5.out.to (o6.mono (fun k hk => .inl hk)))
  have hk6 := o6.get (k := g4) (.inr ⟨by omega, by omega⟩) (by omega)
  have R6 : Hid (w6.ownsRow w3.heap.size 3 1 (.slice (some ⟨g4, 0, none⟩) 1 c4) 1 (natCells [1])) := own_keep R5.out (fun k e => by cases e; exact hk6)
  have hs6 := o6.size
  have HC6 := hid C6
  clear C6 o6 HW R5 O5 hk6
  go_wp2_with fail
  refine HCo.out.mono ?_
  rintro _ w7 (⟨_, rfl, C7, o7⟩ | ⟨hx, _⟩)
  rotate_left
  · exact absurd k4.out.2.2.2.2.2.2.1 hx
  rw [show commitS s4 = s5 from S5.out.symm] at C7
  have HR := hid (read_c C7 (by have := k5.out.1; omega) 2 (by omega))
  have O7 := hid (O6.out.to (o7.mono (fun k hk => .inl hk)))
  have hk7 := o7.get (k := g4) (.inr ⟨by omega, by omega⟩) (by omega)
  have R7 : Hid (w7.ownsRow w3.heap.size 3 1 (.slice (some ⟨g4, 0, none⟩) 1 c4) 1 (natCells [1])) := own_keep R6.out (fun k e => by cases e; exact hk7)
  have hs7 := o7.size
  clear C7 o7 HCo R6 O6 hk7
  go_wp2_with fail
  refine HR.out.mono ?_
  rintro _ w8 (⟨hx, _⟩ | ⟨_, b8, c8, rfl, r8, C8, o8, hb8⟩)
  · exact absurd hx (not_bad (q := 2) (by have := k5.out.2.1; omega))
  have hnow : s5.now (2 : Int).toNat = y := by
    obtain ⟨m6, hm6, _⟩ := HC6.out
    have h1 := commitS_now hm6 (by have h2 := hm6.log.gr; have h3 := k4.out.1; omega) k4.out.2.2.2.2.2.2.1 2 (by have := k4.out.2.1; omega)
    rw [← S5.out] at h1
    exact h1.trans k4.out.2.2.2.2.2.2.2
  rw [hnow, HY.out] at r8
  have hk8 := o8.get (k := g4) (.inr ⟨by omega, by omega⟩) (by omega)
  have R8 : w8.ownsRow w3.heap.size 3 1 (.slice (some ⟨g4, 0, none⟩) 1 c4) 1 (natCells [1]) := own_keep R7.out (fun k e => by cases e; exact hk8)
  have d1 : w8.cell? ⟨g4, 0, none⟩ = some (.int .i64 1) := R8.cellAt 0 (by omega)
  have d2 : w8.cell? ⟨b8, 9, none⟩ = some (.int .u8 3) := by
    have := r8.cellAt 9 (by omega)
    rw [cellsOf_get _ 9 (by simp)] at this
    exact this
  rw [show readS s5 (2 : Int).toNat = s6 from S6.out.symm] at C8
  have HM := hid (misses_c C8)
  have HH := hid (hits_c C8)
  rw [k6.out.1] at HM
  rw [k6.out.2] at HH
  have O8 := hid (O7.out.to (o8.mono (fun k hk => .inl hk)))
  clear C8 o8 HR R7 O7 hk8 r8 R8 hnow
  go_wp2_with (first | (go_at_call 22; refine HM.out.mono ?_; rintro _ w9 ⟨rfl, e9⟩; subst w9) | (go_at_call 20; refine HH.out.mono ?_; rintro _ w9 ⟨rfl, e9⟩; subst w9))
  go_ret
  exact ⟨ret_bool (by simp), B0.out.trans (O8.out.below B0.out.size (fun k hk => by rw [HF.out]; exact hk))⟩
end Go.Proofs.YtdieafkmnckhaaaGreat
