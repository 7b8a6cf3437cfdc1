/- The reference's UnHex. -/
import Derived.Test.YtoipagoeabkccaaDoorHUnhex
namespace Go.Proofs.YtoipagoeabkccaaDoor
open Go.RowKit
set_option linter.unusedVariables false
set_option maxRecDepth 20000

/-- a byte while k digits are in -/
def rb (L : List UInt8) (k j : Nat) : Nat := if 2 * j + 1 < k then 16 * dv L (2 * j) + dv L (2 * j + 1) else if 2 * j < k then dv L (2 * j) else 0
def ruAt (L : List UInt8) (k : Nat) : List UInt8 := (List.range 32).map fun j => UInt8.ofNat (rb L k j)
theorem ruAt_length (L : List UInt8) (k : Nat) : (ruAt L k).length = 32 := by simp [ruAt]
theorem ruAt_zero (L : List UInt8) : ruAt L 0 = List.replicate 32 0 := by simp [ruAt, rb]; rfl
theorem ruAt_get (L : List UInt8) (k : Nat) (h : k < 64) : (ruAt L k)[k / 2]'(by rw [ruAt_length]; omega) = UInt8.ofNat (rb L k (k / 2)) := by simp [ruAt]
theorem dv_lt (L : List UInt8) (i : Nat) : dv L i < 16 := by
  unfold dv
  have := undig_lt (L.getD i 0)
  omega
theorem rb_now (L : List UInt8) (k : Nat) : rb L k (k / 2) < 16 := by
  unfold rb
  rw [if_neg (by omega)]
  split
  · exact dv_lt _ _
  · omega
theorem ruAt_step (L : List UInt8) (k : Nat) (h : k < 64) : (ruAt L k).set (k / 2) (UInt8.ofNat (16 * rb L k (k / 2) + dv L k)) = ruAt L (k + 1) := by
  apply List.ext_getElem
  · simp [ruAt]
  · intro i h1 h2
    have hi : i < 32 := by simpa [ruAt] using h2
    simp only [List.getElem_set, ruAt, List.getElem_map, List.getElem_range]
    by_cases hk : k / 2 = i
    · rw [if_pos hk]
      congr 1
      subst hk
      unfold rb
      rw [if_neg (by omega)]
      by_cases he : k % 2 = 0
      · rw [if_neg (by omega), if_neg (by omega), if_pos (by omega), show 2 * (k / 2) = k by omega]; omega
      · rw [if_pos (by omega), if_pos (by omega), show 2 * (k / 2) + 1 = k by omega]
    · rw [if_neg hk]
      congr 1
      unfold rb
      by_cases h3 : 2 * i + 1 < k
      · rw [if_pos h3, if_pos (by omega)]
      · rw [if_neg h3, if_neg (by omega), if_neg (by omega), if_neg (by omega)]
theorem ruAt_all (L : List UInt8) : ruAt L 64 = unAt L 32 := by
  unfold ruAt unAt
  apply List.map_congr_left
  intro j hj
  have : j < 32 := List.mem_range.1 hj
  rw [if_pos this, rb, if_pos (by omega)]
theorem shor8_at : ∀ x y : Fin 16, bits .or .u8 ((x.val : Int) * 16) (y.val : Int) = ((16 * x.val + y.val : Nat) : Int) := by decide +kernel
attribute [local go_sem ↓] indexS_fold

set_option maxHeartbeats 4000000 in
theorem refUnhex_any {w : World} (s : ByteArray) (hs : s.size ≤ 140737488355328) :
    Calls Tryd.prog 32 #[.string s] w (UnPost w s.data.toList) := by
  obtain ⟨Z, hZ⟩ : ∃ Z, Z = bvs (List.replicate 32 0) := ⟨_, rfl⟩
  have zh := (zero_of_info zero_hash).1
  have bh := built_hash
  rw [← hZ] at zh bh
  have hz : Hid (HV Z (List.replicate 32 0)) := by
    show HV _ _
    rw [hZ]; exact hv_zero
  have zh := hid zh
  have bh := hid bh
  have HZe := hid hZ
  clear hZ
  have Hls : Hid (s.data.toList.length = s.size) := Array.length_toList
  by_cases h64 : s.size = 64
  · have d1 : ((s.size : Int) != 64) = false := by rw [bne_eq_false_iff_eq]; omega
    have x0 := hid (heap_alloc2_old w (.cells Z 26) (.cells Z 26))
    have y0 : Hid (((w.alloc (.cells Z 26)).alloc (.cells Z 26)).heap[w.heap.size + 1]? = some (.cells (bvs (ruAt s.data.toList 0)) 26 (0, 0))) := by
      show _ = _
      rw [ruAt_zero, ← HZe.out]; exact heap_alloc2_new w _ _
    have b0 : Hid (Below w.heap.size w ((w.alloc (.cells Z 26)).alloc (.cells Z 26))) := ((Below.refl _ w).alloc (Nat.le_refl _) _).alloc (by simp) _
    have Hlen : Hid (s.data.toList.length = 64) := Hls.out.trans h64
    have Hfold : Hid (∀ (i : Nat) (hi : i < 64), s.data.toList[i]? = some (s.data.toList.getD i 0)) := fun i hi => by
      rw [List.getD_eq_getElem?_getD, List.getElem?_eq_getElem (by rw [Hlen.out]; exact hi)]; rfl
    have Hix : Hid (∀ (i : Nat) (hi : i < 64) (w : World), (indexS (.string s) (.int .i64 (i : Int))).run Tryd.prog w = .ok (.int .u8 ((s.data.toList.getD i 0).toNat : Int)) w) := fun i hi w => indexS_run s i _ (Hfold.out i hi) w
    generalize s.data.toList = L at *
    clear h64 Hls Hfold
    go_enter Tryd.func32, Tryd.ntmps32
    go_wp2_with (with_reducible show Go.wpList _ _ _ _ _ _; refine wpList_alloc_row rfl 26 rfl Z zh.out ?_)
    go_loopw [5] (fun i wr => ∃ k : Nat, k ≤ 64 ∧ i = .int .i64 k ∧ AllDig L k ∧ wr.heap[w.heap.size + 1]? = some (.cells (bvs (ruAt L k)) 26 (0, 0)) ∧ wr.heap[w.heap.size]? = some (.cells Z 26 (0, 0)) ∧ Below w.heap.size w wr) (fun i _ => 64 - (intOf i).toNat)
    case atStart => exact ⟨0, Nat.zero_le _, rfl, fun i hi => absurd hi (by omega), y0.out, x0.out, b0.out⟩
    case round =>
      clear x0 y0 b0 zh
      obtain ⟨k, hk, rfl, hD, hy, hx, hbel⟩ := hrel
      have HD := hid hD
      have Hy := hid hy
      have Hx := hid hx
      have Hb := hid hbel
      clear hD hy hx hbel
      by_cases hlt : k < 64
      · have i1 := Hix.out k hlt
        have Hst := hid (ruAt_step L k hlt)
        obtain ⟨j, hj⟩ : ∃ j, j = k / 2 := ⟨_, rfl⟩
        have q1 : (k : Int).tdiv 2 = (j : Int) := by rw [Int.tdiv_eq_ediv_of_nonneg (by omega)]; omega
        have j32 : j < 32 := by omega
        have c0 := (cell_of_row _ _ (k / 2) _ _ _ Hy.out).trans (bvs_get _ (k / 2) (by rw [ruAt_length]; omega))
        rw [ruAt_get L k hlt] at c0
        have f0 := frozen_of_row _ _ (k / 2) _ _ Hy.out
        have hX := rb_now L k
        obtain ⟨X, hXe⟩ : ∃ X, X = rb L k (k / 2) := ⟨_, rfl⟩
        rw [← hXe] at c0 hX Hst
        rw [← hj] at c0 f0 Hst
        have eX : ((UInt8.ofNat X).toNat : Int) = (X : Int) := by rw [UInt8.toNat_ofNat']; omega
        rw [eX] at c0
        have q2 : IntKind.u8.wrap ((X : Int) * 16) = (X : Int) * 16 := by rw [IntKind.wrap_u8]; omega
        have q2' : (X : Int) * 16 % 256 = (X : Int) * 16 := by omega
        have Hdv : Hid (dv L k = (undig (L.getD k 0)).toNat) := rfl
        obtain ⟨c, hc⟩ : ∃ c, c = L.getD k 0 := ⟨_, rfl⟩
        rw [← hc] at i1 Hdv
        have Hc := hid hc
        have c256 := c.toNat_lt
        clear hc hj hXe eX
        by_cases hA : 48 ≤ c.toNat ∧ c.toNat ≤ 57
        · have Hud : Hid (undig c = (c.toNat : Int) - 48) := by show _ = _; unfold undig; rw [if_pos hA]
          obtain ⟨D, hDe⟩ : ∃ D : Nat, D = c.toNat - 48 := ⟨_, rfl⟩
          have hD16 : D < 16 := by omega
          have e1 : dv L k = D := by rw [Hdv.out, Hud.out]; omega
          rw [e1] at Hst
          have g1 : (48 : Int) ≤ (c.toNat : Int) := by omega
          have g2 : (c.toNat : Int) ≤ 57 := by omega
          have g3 : IntKind.u8.wrap ((c.toNat : Int) - 48) = (D : Int) := by rw [IntKind.wrap_u8]; omega
          have g3' : ((c.toNat : Int) - 48) % 256 = (D : Int) := by omega
          have g3'' : (c.toNat : Int) - 48 = (D : Int) := by omega
          clear e1 hDe hA c256 Hdv
          have so := shor8_at ⟨X, hX⟩ ⟨D, hD16⟩
          simp only at so
          obtain ⟨b, hb⟩ : ∃ b, b = UInt8.ofNat (16 * X + D) := ⟨_, rfl⟩
          have so1 : bits .or .u8 ((X : Int) * 16) (D : Int) = (b.toNat : Int) := by
            rw [so, hb, UInt8.toNat_ofNat']
            omega
          rw [← hb] at Hst
          have HD1 : Hid (AllDig L (k + 1)) := fun i hi => by
            by_cases h1 : i < k
            · exact HD.out i h1
            · have : i = k := by omega
              rw [this, ← Hc.out, Hud.out]; omega
          clear so hb HD Hud
          go_wp2
          go_roundw
          case rel =>
            refine ⟨k + 1, by omega, by go_num, HD1.out, ?_, (heap_setCell_other _ _ _ _ (by simp)).trans Hx.out, Hb.out.setCell (by simp) _⟩
            rw [heap_setCell_same _ _ _ _ _ _ Hy.out, bvs_set, Hst.out]
          case measure => simp [intOf]; omega
        · by_cases hB : 97 ≤ c.toNat ∧ c.toNat ≤ 102
          · have Hud : Hid (undig c = (c.toNat : Int) - 87) := by show _ = _; unfold undig; rw [if_neg hA, if_pos hB]
            obtain ⟨D, hDe⟩ : ∃ D : Nat, D = c.toNat - 87 := ⟨_, rfl⟩
            have hD16 : D < 16 := by omega
            have e1 : dv L k = D := by rw [Hdv.out, Hud.out]; omega
            rw [e1] at Hst
            have g1 : (48 : Int) ≤ (c.toNat : Int) := by omega
            have g2 : ¬ (c.toNat : Int) ≤ 57 := by omega
            have g4 : (97 : Int) ≤ (c.toNat : Int) := by omega
            have g5 : (c.toNat : Int) ≤ 102 := by omega
            have g3 : IntKind.u8.wrap ((c.toNat : Int) - 97) = (c.toNat : Int) - 97 := by rw [IntKind.wrap_u8]; omega
            have g6 : IntKind.u8.wrap ((c.toNat : Int) - 97 + 10) = (D : Int) := by rw [IntKind.wrap_u8]; omega
            have g6' : ((c.toNat : Int) - 97 + 10) % 256 = (D : Int) := by omega
            clear e1 hDe hA hB c256 Hdv
            have so := shor8_at ⟨X, hX⟩ ⟨D, hD16⟩
            simp only at so
            obtain ⟨b, hb⟩ : ∃ b, b = UInt8.ofNat (16 * X + D) := ⟨_, rfl⟩
            have so1 : bits .or .u8 ((X : Int) * 16) (D : Int) = (b.toNat : Int) := by
              rw [so, hb, UInt8.toNat_ofNat']
              omega
            rw [← hb] at Hst
            have HD1 : Hid (AllDig L (k + 1)) := fun i hi => by
              by_cases h1 : i < k
              · exact HD.out i h1
              · have : i = k := by omega
                rw [this, ← Hc.out, Hud.out]; omega
            clear so hb HD Hud
            go_wp2
            go_roundw
            case rel =>
              refine ⟨k + 1, by omega, by go_num, HD1.out, ?_, (heap_setCell_other _ _ _ _ (by simp)).trans Hx.out, Hb.out.setCell (by simp) _⟩
              rw [heap_setCell_same _ _ _ _ _ _ Hy.out, bvs_set, Hst.out]
            case measure => simp [intOf]; omega
          · have Hud : Hid (undig c = -1) := by show _ = _; unfold undig; rw [if_neg hA, if_neg hB]
            clear Hst
            by_cases h1 : 48 ≤ c.toNat
            · have g1 : (48 : Int) ≤ (c.toNat : Int) := by omega
              have g2 : ¬ (c.toNat : Int) ≤ 57 := by omega
              by_cases h2 : 97 ≤ c.toNat
              · have g4 : (97 : Int) ≤ (c.toNat : Int) := by omega
                have g5 : ¬ (c.toNat : Int) ≤ 102 := by omega
                have Hbad : Hid (¬ unOk L) := fun h => by
                  have := h.2 k (by omega)
                  rw [← Hc.out, Hud.out] at this; omega
                go_wp2_with (with_reducible show Go.wpList _ _ _ _ _ _; first
                  | refine wpList_build_none rfl 26 rfl Z bh.out ?_
                  | refine wpList_store_row rfl 26 _ _ rfl w.heap.size Z rfl rfl 26 Z Hx.out hz.out.info rfl hz.out.one ?_)
                show bodyPost _ _ _ _ _ _
                refine bodyPost_ret (results_row_tmp rfl _ _ w.heap.size 26 Z (0, 0) _ rfl (setRow_heap _ _ _ _ _ _ Hx.out) Tryd.underlying26 rfl hz.out.info) rfl ?_
                exact ⟨Z, _, 3, rfl, hz.out, .inr ⟨Hbad.out, rfl, rfl⟩, Hb.out.setRow (by omega) _⟩
              · have g4 : ¬ (97 : Int) ≤ (c.toNat : Int) := by omega
                have Hbad : Hid (¬ unOk L) := fun h => by
                  have := h.2 k (by omega)
                  rw [← Hc.out, Hud.out] at this; omega
                go_wp2_with (with_reducible show Go.wpList _ _ _ _ _ _; first
                  | refine wpList_build_none rfl 26 rfl Z bh.out ?_
                  | refine wpList_store_row rfl 26 _ _ rfl w.heap.size Z rfl rfl 26 Z Hx.out hz.out.info rfl hz.out.one ?_)
                show bodyPost _ _ _ _ _ _
                refine bodyPost_ret (results_row_tmp rfl _ _ w.heap.size 26 Z (0, 0) _ rfl (setRow_heap _ _ _ _ _ _ Hx.out) Tryd.underlying26 rfl hz.out.info) rfl ?_
                exact ⟨Z, _, 3, rfl, hz.out, .inr ⟨Hbad.out, rfl, rfl⟩, Hb.out.setRow (by omega) _⟩
            · have g1 : ¬ (48 : Int) ≤ (c.toNat : Int) := by omega
              have g4 : ¬ (97 : Int) ≤ (c.toNat : Int) := by omega
              have Hbad : Hid (¬ unOk L) := fun h => by
                have := h.2 k (by omega)
                rw [← Hc.out, Hud.out] at this; omega
              go_wp2_with (with_reducible show Go.wpList _ _ _ _ _ _; first
                | refine wpList_build_none rfl 26 rfl Z bh.out ?_
                | refine wpList_store_row rfl 26 _ _ rfl w.heap.size Z rfl rfl 26 Z Hx.out hz.out.info rfl hz.out.one ?_)
              show bodyPost _ _ _ _ _ _
              refine bodyPost_ret (results_row_tmp rfl _ _ w.heap.size 26 Z (0, 0) _ rfl (setRow_heap _ _ _ _ _ _ Hx.out) Tryd.underlying26 rfl hz.out.info) rfl ?_
              exact ⟨Z, _, 3, rfl, hz.out, .inr ⟨Hbad.out, rfl, rfl⟩, Hb.out.setRow (by omega) _⟩
      · have hk64 : k = 64 := by omega
        have H8 : Hid (wr.heap[w.heap.size + 1]? = some (.cells (bvs (unAt L 32)) 26 (0, 0))) := by
          have h := Hy.out
          rw [hk64, ruAt_all] at h
          exact h
        have Hok : Hid (unOk L) := ⟨Hlen.out, by have h := HD.out; rw [hk64] at h; exact h⟩
        have hv8 : Hid (HV (bvs (unAt L 32)) (unAt L 32)) := ⟨rfl, unAt_length _ _⟩
        clear hk64 Hy hk HD Hlen
        generalize bvs (unAt L 32) = O at H8 hv8
        have hsz := hid hv8.out.info
        have hso : Hid (Z.size = O.size) := hz.out.size.trans hv8.out.size.symm
        have ho1 := hid hv8.out.one
        go_wp2_with (with_reducible show Go.wpList _ _ _ _ _ _; first
          | refine wpList_load_row rfl 26 _ rfl (w.heap.size + 1) rfl _ _ _ _ H8.out Tryd.underlying26 rfl hsz.out ?_
          | refine wpList_store_row rfl 26 _ _ rfl w.heap.size O rfl rfl 26 Z Hx.out hsz.out hso.out ho1.out ?_)
        show bodyPost _ _ _ _ _ _
        refine bodyPost_ret (results_row_tmp rfl _ _ w.heap.size 26 O (0, 0) _ rfl (setRow_heap _ _ _ _ _ _ Hx.out) Tryd.underlying26 rfl hsz.out) rfl ?_
        exact ⟨O, _, 0, rfl, hv8.out, .inl ⟨Hok.out, rfl, rfl⟩, Hb.out.setRow (by omega) _⟩
  · have d1 : ((s.size : Int) != 64) = true := by rw [bne_iff_ne]; omega
    have Hbad : Hid (¬ unOk s.data.toList) := fun h => h64 (Hls.out.symm.trans h.1)
    have x0 := hid (heap_alloc_new w (.cells Z 26))
    have b0 : Hid (Below w.heap.size w (w.alloc (.cells Z 26))) := (Below.refl _ w).alloc (Nat.le_refl _) _
    go_enter Tryd.func32, Tryd.ntmps32
    go_wp2_with (with_reducible show Go.wpList _ _ _ _ _ _; first
      | refine wpList_alloc_row rfl 26 rfl Z zh.out ?_
      | refine wpList_build_none rfl 26 rfl Z bh.out ?_
      | refine wpList_store_row rfl 26 _ _ rfl w.heap.size Z rfl rfl 26 Z x0.out hz.out.info rfl hz.out.one ?_)
    show bodyPost _ _ _ _ _ _
    refine bodyPost_ret (results_row_tmp rfl _ _ w.heap.size 26 Z (0, 0) _ rfl (setRow_heap _ _ _ _ _ _ x0.out) Tryd.underlying26 rfl hz.out.info) rfl ?_
    exact ⟨Z, _, 3, rfl, hz.out, .inr ⟨Hbad.out, rfl, rfl⟩, b0.out.setRow (by omega) _⟩
end Go.Proofs.YtoipagoeabkccaaDoor
