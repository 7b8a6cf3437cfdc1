/- (*Tree).Key, by a contract. -/
import Derived.Test.YtkgengiopjjhbaaDoorJ3
namespace Go.Proofs.YtkgengiopjjhbaaDoor
open Go.RowKit Go.Maps
set_option linter.unusedVariables false
set_option maxRecDepth 20000
set_option maxHeartbeats 2000000 in
theorem key_ok {w : World} {B g : Nat} {root : List UInt8} {mv mg nv ng : Nat} {VM GM : DataW Unit} {n : Nat} (h : TreeAt w B g root mv mg nv ng VM GM n) (t u : ByteArray) (ht : t.size ≤ 100 ∧ nameB t.data.toList = true) (hu : u.size ≤ 100 ∧ nameB u.data.toList = true) (kl : Lit) (hk : Go.keyOf Tryd.prog 54 (.agg #[.string t, .string u]) = some kl) (c : Int) (hc : VerIs VM kl c) (hb : Maps.has GM (.string t.data.toList) = false) (v : Nat) (h1 : 1 ≤ v) (h2 : (v : Int) ≤ c) (h3 : v ≤ 1000) (hT : TabAt w) (hKA : KAt w) :
    Calls Tryd.prog 13 #[.pointer (some ⟨g, 0, none⟩), .string t, .string u, .int .i64 (v : Int)] w (HashErr w (derRes root [t, u, txtJ v]) (keyErr [t, u, txtJ v] : Int)) := by
  obtain ⟨Z, hZ⟩ : ∃ Z, Z = bvs (List.replicate 32 0) := ⟨_, rfl⟩
  have zh := (zero_of_info zero_hash).1
  rw [← hZ] at zh
  have hz : Hid (HV Z (List.replicate 32 0)) := by
    show HV _ _
    rw [hZ]; exact hv_zero
  have zh := hid zh
  obtain ⟨W, hW⟩ : ∃ W, W = w.alloc (.cells Z 23) := ⟨_, rfl⟩
  have b0 : Below w.heap.size w W := by rw [hW]; exact (Below.refl _ w).alloc (Nat.le_refl _) _
  have x0 : W.heap[w.heap.size]? = some (.cells Z 23 (0, 0)) := by rw [hW]; exact heap_alloc_new w _
  have hsz : ∀ s ∈ [t, u, txtJ v], s.size ≤ 140737488351232 := fun s hs => by
    simp at hs
    rcases hs with rfl | rfl | rfl
    · have := ht.1; omega
    · have := hu.1; omega
    · have h9 : (txtJ v).size ≤ 100 := by
        show (numT v).toArray.size ≤ 100
        unfold numT
        split
        · decide
        · rw [List.size_toArray, List.length_cons, lo_length]
          have := (Nat.log2_lt (by omega)).2 (show v < 2 ^ 63 by omega)
          omega
      omega
  have HC := hid (current_any (h.below b0) t u ⟨by unfold maxLen; have := ht.1; omega, ht.2⟩ ⟨by unfold maxLen; have := hu.1; omega, hu.2⟩ kl hk c hc false hb)
  have H := hid (h.below b0)
  have B0 := hid b0
  have X0 := hid x0
  have HT := hid (TabAt.belowJ hT b0)
  have HKA := hid (hKA.below b0)
  have HW := hid hW
  have Hsz := hid hsz
  have g1 : decide ((v : Int) < 1) = false := by simp; omega
  have g2 : decide (c < (v : Int)) = false := by simp; omega
  clear h hc hb hk hZ hW b0 x0 hT hKA hsz
  go_enter Tryd.func13, Tryd.ntmps13
  go_wp2_with (first
    | (with_reducible show Go.wpList _ _ _ _ _ _; refine wpList_alloc_row rfl 23 rfl Z zh.out ?_; rw [← HW.out])
    | (go_at_call 11; refine HC.out.mono ?_; rintro _ w1 ⟨rfl, b1⟩; have B1 := hid b1; clear b1; unfold goneE; simp only [Bool.false_eq_true, if_false]))
  obtain ⟨V0, hV0⟩ : ∃ V0, V0 = w1.drew := ⟨_, rfl⟩
  have b10 : Below W.heap.size W V0 := by rw [hV0]; exact B1.out.drew
  have r0 := (b10.block _ (heap_lt X0.out)).trans X0.out
  refine wp_act _ fun A hA => ?_
  have sz : A.tmps.size = 43 := by rw [hA]; rfl
  have e0 : A.eval (.tmp 0) = .pointer (some ⟨g, 0, none⟩) := by rw [hA]; rfl
  have e1 : A.eval (.tmp 1) = .string t := by rw [hA]; rfl
  have e2 : A.eval (.tmp 2) = .string u := by rw [hA]; rfl
  have e3 : A.eval (.tmp 3) = .int .i64 (v : Int) := by rw [hA]; rfl
  have e8 : A.eval (.tmp 8) = .pointer (some ⟨w.heap.size, 0, none⟩) := by rw [hA]; rfl
  refine wp_split _ (key_region6 sz e0 e1 e2 e3 e8 (by omega) (TabAt.belowJ HT.out b10) (HKA.out.below b10) Hsz.out hz.out r0 hV0 (H.out.below b10)) ?_
  rintro _ _ ⟨V1, O, rfl, hO, V3, rfl, h4, b03, r3⟩
  rw [hA]
  simp only [Act.put, List.setIfInBounds_toArray, List.set_cons_succ, List.set_cons_zero]
  have R3 := hid r3
  have BF := hid (Below.on' B0.out (Below.on' b10 b03))
  have HO := hid hO
  clear sz e0 e1 e2 e3 e8 hA A hV0 r0 b10 b03 r3 h4 hO
  go_wp2
  refine bodyPost_ret (results_row_tmp rfl _ _ w.heap.size 23 O (0, 0) _ rfl (setRow_heap _ _ _ _ _ _ R3.out) Tryd.underlying23 rfl HO.out.info) rfl ?_
  exact ⟨O, rfl, HO.out, BF.out.setRow (Nat.le_refl _) _⟩
end Go.Proofs.YtkgengiopjjhbaaDoor
