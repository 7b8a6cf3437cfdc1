/- A hash read from digits: hash.UnHex. -/
import Derived.Test.YtoipagoeabkccaaDoorHIter
import Derived.Laws.Externs
namespace Go.Proofs.YtoipagoeabkccaaDoor
open Go.RowKit
set_option linter.unusedVariables false
set_option maxRecDepth 20000

/-- what a digit says, or -1 -/
def undig (c : UInt8) : Int := if 48 ≤ c.toNat ∧ c.toNat ≤ 57 then (c.toNat : Int) - 48 else if 97 ≤ c.toNat ∧ c.toNat ≤ 102 then (c.toNat : Int) - 87 else -1
theorem undig_first : ∀ c : Fin 256, firstIdx ⟨#[48, 49, 50, 51, 52, 53, 54, 55, 56, 57, 97, 98, 99, 100, 101, 102]⟩ (UInt8.ofNat c.val) = undig (UInt8.ofNat c.val) := by decide +kernel
theorem undig_is (c : UInt8) : firstIdx ⟨#[48, 49, 50, 51, 52, 53, 54, 55, 56, 57, 97, 98, 99, 100, 101, 102]⟩ c = undig c := by
  have h := undig_first ⟨c.toNat, c.toNat_lt⟩
  simp only [UInt8.ofNat_toNat] at h
  exact h
theorem undig_lt (c : UInt8) : undig c < 16 := by
  unfold undig
  split
  · omega
  · split <;> omega
theorem undig_ge (c : UInt8) : -1 ≤ undig c := by
  unfold undig
  split
  · omega
  · split <;> omega
theorem undig_dig : ∀ x : Fin 16, undig (dig x.val) = x.val := by decide +kernel
theorem hf_ibs (args : Array Value) (w : World) : (callFunc 71 args).run Tryd.prog w = ((Extern.BytealgIndexByte.indexByte args).run Tryd.prog w).andThen fun v w' => .ok (.value v) w' :=
  run_callFunc_extern Tryd.func71 (by kernel_rfl) (by kernel_rfl) (by kernel_rfl) (by kernel_rfl) args w
attribute [local go_sem ↓] hf_ibs

theorem slite_any (c : UInt8) (s : ByteArray) (w : World) : Calls Tryd.prog 66 #[.string s, .int .u8 (c.toNat : Int)] w fun e w' => e = .returned (.int .i64 (firstIdx s c)) ∧ w' = w := by
  have h := run_indexByte_string (P := Tryd.prog) s (c.toNat : Int)
  simp only [Int.toNat_natCast, Nat.toUInt8_eq, UInt8.ofNat_toNat] at h
  go_enter Tryd.func66, Tryd.ntmps66
  go_wp2
  go_ret
  exact ⟨rfl, rfl⟩
theorem indexByte_any (c : UInt8) (w : World) : Calls Tryd.prog 55 #[.string ⟨#[48, 49, 50, 51, 52, 53, 54, 55, 56, 57, 97, 98, 99, 100, 101, 102]⟩, .int .u8 (c.toNat : Int)] w fun e w' => e = .returned (.int .i64 (undig c)) ∧ w' = w := by
  have Hu := hid (undig_is c)
  go_enter Tryd.func55, Tryd.ntmps55
  go_wp2_with fail
  refine (slite_any c _ _).mono ?_
  rintro _ _ ⟨rfl, rfl⟩
  go_wp2
  go_ret
  exact ⟨ret_int Hu.out, rfl⟩

/-- a digit's worth, as a number -/
def dv (L : List UInt8) (i : Nat) : Nat := (undig (L.getD i 0)).toNat
/-- the hash while the first k bytes are in -/
def unAt (L : List UInt8) (k : Nat) : List UInt8 := (List.range 32).map fun i => if i < k then UInt8.ofNat (16 * dv L (2 * i) + dv L (2 * i + 1)) else 0
theorem unAt_length (L : List UInt8) (k : Nat) : (unAt L k).length = 32 := by simp [unAt]
theorem unAt_zero (L : List UInt8) : unAt L 0 = List.replicate 32 0 := by simp [unAt]; rfl
theorem unAt_step (L : List UInt8) (k : Nat) (h : k < 32) : (unAt L k).set k (UInt8.ofNat (16 * dv L (2 * k) + dv L (2 * k + 1))) = unAt L (k + 1) := by
  apply List.ext_getElem
  · simp [unAt]
  · intro i h1 h2
    have hi : i < 32 := by simpa [unAt] using h2
    simp only [List.getElem_set, unAt, List.getElem_map, List.getElem_range]
    by_cases hk : k = i
    · subst hk; simp
    · rw [if_neg hk]
      by_cases hik : i < k
      · rw [if_pos hik, if_pos (by omega)]
      · rw [if_neg hik, if_neg (by omega)]
/-- so many digits are digits -/
def AllDig (L : List UInt8) (n : Nat) : Prop := ∀ i, i < n → 0 ≤ undig (L.getD i 0)
def unOk (L : List UInt8) : Prop := L.length = 64 ∧ AllDig L 64
open Classical in
theorem unOk_dec (L : List UInt8) : unOk L ∨ ¬ unOk L := Classical.em _
/-- what UnHex answers: of 64 digits the hash, of others the error -/
def UnPost (w : World) (L : List UInt8) (e : Ending) (w' : World) : Prop := ∃ O l er, e = .returned (.tuple #[.agg O, .int .i64 er]) ∧ HV O l ∧ ((unOk L ∧ er = 0 ∧ l = unAt L 32) ∨ (¬ unOk L ∧ er = 3 ∧ l = List.replicate 32 0)) ∧ Below w.heap.size w w'
theorem shor_at : ∀ x y : Fin 16, bits .or .i64 ((x.val : Int) * 16) (y.val : Int) = ((16 * x.val + y.val : Nat) : Int) := by decide +kernel
/-- indexing a text, kept whole in the walk -/
def indexS (x y : Value) : Sem Value := Instr.index 9 x y
theorem indexS_fold (x y : Value) : Instr.index 9 x y = indexS x y := rfl
theorem indexS_run (s : ByteArray) (i : Nat) (c : UInt8) (h : s.data.toList[i]? = some c) (w : World) : (indexS (.string s) (.int .i64 (i : Int))).run Tryd.prog w = .ok (.int .u8 (c.toNat : Int)) w := by
  obtain ⟨hi, hc⟩ := List.getElem?_eq_some_iff.1 h
  have hi' : i < s.data.size := by simpa using hi
  unfold indexS
  rw [run_index_string w 9 s _ _ Tryd.underlying9, dif_pos ⟨by omega, by show (i : Int) < (s.data.size : Int); omega⟩]
  simp only [Int.toNat_natCast]
  have e : s[i]'hi' = c := by rw [← hc]; simp; rfl
  rw [e]
attribute [local go_sem ↓] indexS_fold

set_option maxHeartbeats 4000000 in
theorem unhex_any {w : World} (s : ByteArray) (hs : s.size ≤ 140737488355328) :
    Calls Tryd.prog 31 #[.string s] w (UnPost w s.data.toList) := by
  obtain ⟨Z, hZ⟩ : ∃ Z, Z = bvs (List.replicate 32 0) := ⟨_, rfl⟩
  have zh := (zero_of_info zero_hash).1
  have bh := built_hash
  rw [← hZ] at zh bh
  have hz : Hid (HV Z (List.replicate 32 0)) := by
    show HV _ _
    rw [hZ]; exact hv_zero
  have zh := hid zh
  have bh := hid bh
  have HZe := hid hZ
  clear hZ
  have Hls : Hid (s.data.toList.length = s.size) := Array.length_toList
  have x0 := hid (heap_alloc2_old w (.cells Z 26) (.cells Z 26))
  have y0 : Hid (((w.alloc (.cells Z 26)).alloc (.cells Z 26)).heap[w.heap.size + 1]? = some (.cells (bvs (unAt s.data.toList 0)) 26 (0, 0))) := by
    show _ = _
    rw [unAt_zero, ← HZe.out]; exact heap_alloc2_new w _ _
  have b0 : Hid (Below w.heap.size w ((w.alloc (.cells Z 26)).alloc (.cells Z 26))) := ((Below.refl _ w).alloc (Nat.le_refl _) _).alloc (by simp) _
  by_cases h64 : s.size = 64
  · have d1 : ((s.size : Int) != 64) = false := by rw [bne_eq_false_iff_eq]; omega
    have Hlen : Hid (s.data.toList.length = 64) := Hls.out.trans h64
    have Hfold : Hid (∀ (i : Nat) (hi : i < 64), s.data.toList[i]? = some (s.data.toList.getD i 0)) := fun i hi => by
      rw [List.getD_eq_getElem?_getD, List.getElem?_eq_getElem (by rw [Hlen.out]; exact hi)]; rfl
    have Hix : Hid (∀ (i : Nat) (hi : i < 64) (w : World), (indexS (.string s) (.int .i64 (i : Int))).run Tryd.prog w = .ok (.int .u8 ((s.data.toList.getD i 0).toNat : Int)) w) := fun i hi w => indexS_run s i _ (Hfold.out i hi) w
    generalize s.data.toList = L at *
    clear h64 Hls Hfold
    go_enter Tryd.func31, Tryd.ntmps31
    go_wp2_with (with_reducible show Go.wpList _ _ _ _ _ _; refine wpList_alloc_row rfl 26 rfl Z zh.out ?_)
    go_loopw [12] (fun i wr => ∃ k : Nat, k ≤ 32 ∧ i = .int .i64 k ∧ AllDig L (2 * k) ∧ wr.heap[w.heap.size + 1]? = some (.cells (bvs (unAt L k)) 26 (0, 0)) ∧ wr.heap[w.heap.size]? = some (.cells Z 26 (0, 0)) ∧ Below w.heap.size w wr) (fun i _ => 32 - (intOf i).toNat)
    case atStart => exact ⟨0, Nat.zero_le _, rfl, fun i hi => absurd hi (by omega), y0.out, x0.out, b0.out⟩
    case round =>
      clear x0 y0 b0 zh
      obtain ⟨k, hk, rfl, hD, hy, hx, hbel⟩ := hrel
      have HD := hid hD
      have Hy := hid hy
      have Hx := hid hx
      have Hb := hid hbel
      clear hD hy hx hbel
      by_cases hlt : k < 32
      · obtain ⟨m, hm⟩ : ∃ m, m = 2 * k := ⟨_, rfl⟩
        obtain ⟨m1, hm1⟩ : ∃ m1, m1 = 2 * k + 1 := ⟨_, rfl⟩
        have i1 := Hix.out m (by omega)
        have i2 := Hix.out m1 (by omega)
        have q1 : 2 * (k : Int) = (m : Int) := by omega
        have q1' : IntKind.i64.wrap (2 * (k : Int)) = (m : Int) := by rw [IntKind.wrap_i64]; omega
        have q2 : (m : Int) + 1 = (m1 : Int) := by omega
        have q2' : IntKind.i64.wrap ((m : Int) + 1) = (m1 : Int) := by rw [IntKind.wrap_i64]; omega
        have Hst := hid (unAt_step L k hlt)
        have Hd1 : Hid (dv L (2 * k) = (undig (L.getD m 0)).toNat) := by show _ = _; rw [hm]; rfl
        have Hd2 : Hid (dv L (2 * k + 1) = (undig (L.getD m1 0)).toNat) := by show _ = _; rw [hm1]; rfl
        obtain ⟨c1, hc1⟩ : ∃ c1, c1 = L.getD m 0 := ⟨_, rfl⟩
        obtain ⟨c2, hc2⟩ : ∃ c2, c2 = L.getD m1 0 := ⟨_, rfl⟩
        rw [← hc1] at i1 Hd1
        rw [← hc2] at i2 Hd2
        have I1 := hid (indexByte_any c1)
        have I2 := hid (indexByte_any c2)
        have u1 := undig_lt c1
        have u2 := undig_lt c2
        have v1 := undig_ge c1
        have v2 := undig_ge c2
        obtain ⟨x, hx⟩ : ∃ x, x = undig c1 := ⟨_, rfl⟩
        obtain ⟨y, hy⟩ : ∃ y, y = undig c2 := ⟨_, rfl⟩
        rw [← hx] at I1 u1 v1 Hd1
        rw [← hy] at I2 u2 v2 Hd2
        have Hx1 : Hid (undig (L.getD m 0) = x) := by show _ = _; rw [← hc1, hx]
        have Hy1 : Hid (undig (L.getD m1 0) = y) := by show _ = _; rw [← hc2, hy]
        have Hm := hid hm
        have Hm1 := hid hm1
        clear hm hm1 hc1 hc2 hx hy
        by_cases hx0 : x < 0
        · have Hbad : Hid (¬ unOk L) := fun h => by
            have := h.2 m (by have := Hm.out; omega)
            rw [Hx1.out] at this; omega
          have t1 : decide (x < 0) = true := by simp [hx0]
          go_wp2_with (first
            | (go_at_call 55; first
              | (refine (I1.out _).mono ?_; rintro _ _ ⟨rfl, rfl⟩)
              | (refine (I2.out _).mono ?_; rintro _ _ ⟨rfl, rfl⟩))
            | (with_reducible show Go.wpList _ _ _ _ _ _; first
              | refine wpList_build_none rfl 26 rfl Z bh.out ?_
              | refine wpList_store_row rfl 26 _ _ rfl w.heap.size Z rfl rfl 26 Z Hx.out hz.out.info rfl hz.out.one ?_))
          show bodyPost _ _ _ _ _ _
          refine bodyPost_ret (results_row_tmp rfl _ _ w.heap.size 26 Z (0, 0) _ rfl (setRow_heap _ _ _ _ _ _ Hx.out) Tryd.underlying26 rfl hz.out.info) rfl ?_
          exact ⟨Z, _, 3, rfl, hz.out, .inr ⟨Hbad.out, rfl, rfl⟩, Hb.out.setRow (by omega) _⟩
        · by_cases hy0 : y < 0
          · have Hbad : Hid (¬ unOk L) := fun h => by
              have := h.2 m1 (by have := Hm1.out; omega)
              rw [Hy1.out] at this; omega
            have t1 : decide (x < 0) = false := by simp [hx0]
            have t2 : decide (y < 0) = true := by simp [hy0]
            go_wp2_with (first
              | (go_at_call 55; first
                | (refine (I1.out _).mono ?_; rintro _ _ ⟨rfl, rfl⟩)
                | (refine (I2.out _).mono ?_; rintro _ _ ⟨rfl, rfl⟩))
              | (with_reducible show Go.wpList _ _ _ _ _ _; first
                | refine wpList_build_none rfl 26 rfl Z bh.out ?_
                | refine wpList_store_row rfl 26 _ _ rfl w.heap.size Z rfl rfl 26 Z Hx.out hz.out.info rfl hz.out.one ?_))
            show bodyPost _ _ _ _ _ _
            refine bodyPost_ret (results_row_tmp rfl _ _ w.heap.size 26 Z (0, 0) _ rfl (setRow_heap _ _ _ _ _ _ Hx.out) Tryd.underlying26 rfl hz.out.info) rfl ?_
            exact ⟨Z, _, 3, rfl, hz.out, .inr ⟨Hbad.out, rfl, rfl⟩, Hb.out.setRow (by omega) _⟩
          · obtain ⟨X, rfl⟩ : ∃ X : Nat, x = (X : Int) := ⟨x.toNat, by omega⟩
            obtain ⟨Y, rfl⟩ : ∃ Y : Nat, y = (Y : Int) := ⟨y.toNat, by omega⟩
            have t1 : decide ((X : Int) < 0) = false := by simp
            have t2 : decide ((Y : Int) < 0) = false := by simp
            have so := shor_at ⟨X, by omega⟩ ⟨Y, by omega⟩
            simp only at so
            obtain ⟨b, hb⟩ : ∃ b, b = UInt8.ofNat (16 * X + Y) := ⟨_, rfl⟩
            have so1 : bits .or .i64 ((X : Int) * 16) (Y : Int) = (b.toNat : Int) := by
              rw [so, hb, UInt8.toNat_ofNat']
              omega
            have so2 : IntKind.i64.wrap ((X : Int) * 16) = (X : Int) * 16 := by rw [IntKind.wrap_i64]; omega
            have so3 : IntKind.u8.wrap (b.toNat : Int) = (b.toNat : Int) := b_back b
            have c0 := (cell_of_row _ _ k _ _ _ Hy.out).trans (bvs_get _ k (by rw [unAt_length]; exact hlt))
            have f0 := frozen_of_row _ _ k _ _ Hy.out
            have Hb8 : Hid (UInt8.ofNat (16 * dv L (2 * k) + dv L (2 * k + 1)) = b) := by
              show _ = _
              rw [hb, Hd1.out, Hd2.out]; rfl
            rw [Hb8.out] at Hst
            have HD1 : Hid (AllDig L (2 * (k + 1))) := fun i hi => by
              by_cases h1 : i < 2 * k
              · exact HD.out i h1
              · by_cases h2 : i = m
                · rw [h2, Hx1.out]; omega
                · have : i = m1 := by have := Hm.out; have := Hm1.out; omega
                  rw [this, Hy1.out]; omega
            clear so hb Hd1 Hd2 Hb8 HD
            go_wp2_with (go_at_call 55; first
              | (refine (I1.out _).mono ?_; rintro _ _ ⟨rfl, rfl⟩)
              | (refine (I2.out _).mono ?_; rintro _ _ ⟨rfl, rfl⟩))
            go_roundw
            case rel =>
              refine ⟨k + 1, by omega, by go_num, HD1.out, ?_, (heap_setCell_other _ _ _ _ (by simp)).trans Hx.out, Hb.out.setCell (by simp) _⟩
              rw [heap_setCell_same _ _ _ _ _ _ Hy.out, bvs_set, Hst.out]
            case measure => simp [intOf]; omega
      · have hk32 : k = 32 := by omega
        have H8 : Hid (wr.heap[w.heap.size + 1]? = some (.cells (bvs (unAt L 32)) 26 (0, 0))) := by
          have h := Hy.out
          rw [hk32] at h
          exact h
        have Hok : Hid (unOk L) := ⟨Hlen.out, by have h := HD.out; rw [hk32] at h; exact h⟩
        have hv8 : Hid (HV (bvs (unAt L 32)) (unAt L 32)) := ⟨rfl, unAt_length _ _⟩
        clear hk32 Hy hk HD Hlen
        generalize bvs (unAt L 32) = O at H8 hv8
        have hsz := hid hv8.out.info
        have hso : Hid (Z.size = O.size) := hz.out.size.trans hv8.out.size.symm
        have ho1 := hid hv8.out.one
        go_wp2_with (with_reducible show Go.wpList _ _ _ _ _ _; first
          | refine wpList_load_row rfl 26 _ rfl (w.heap.size + 1) rfl _ _ _ _ H8.out Tryd.underlying26 rfl hsz.out ?_
          | refine wpList_store_row rfl 26 _ _ rfl w.heap.size O rfl rfl 26 Z Hx.out hsz.out hso.out ho1.out ?_)
        show bodyPost _ _ _ _ _ _
        refine bodyPost_ret (results_row_tmp rfl _ _ w.heap.size 26 O (0, 0) _ rfl (setRow_heap _ _ _ _ _ _ Hx.out) Tryd.underlying26 rfl hsz.out) rfl ?_
        exact ⟨O, _, 0, rfl, hv8.out, .inl ⟨Hok.out, rfl, rfl⟩, Hb.out.setRow (by omega) _⟩
  · have d1 : ((s.size : Int) != 64) = true := by rw [bne_iff_ne]; omega
    have Hbad : Hid (¬ unOk s.data.toList) := fun h => h64 (Hls.out.symm.trans h.1)
    go_enter Tryd.func31, Tryd.ntmps31
    go_wp2_with (first
      | (with_reducible show Go.wpList _ _ _ _ _ _; first
        | refine wpList_alloc_row rfl 26 rfl Z zh.out ?_
        | refine wpList_build_none rfl 26 rfl Z bh.out ?_
        | refine wpList_store_row rfl 26 _ _ rfl w.heap.size Z rfl rfl 26 Z x0.out hz.out.info rfl hz.out.one ?_))
    show bodyPost _ _ _ _ _ _
    refine bodyPost_ret (results_row_tmp rfl _ _ w.heap.size 26 Z (0, 0) _ rfl (setRow_heap _ _ _ _ _ _ x0.out) Tryd.underlying26 rfl hz.out.info) rfl ?_
    exact ⟨Z, _, 3, rfl, hz.out, .inr ⟨Hbad.out, rfl, rfl⟩, b0.out.setRow (by omega) _⟩
end Go.Proofs.YtoipagoeabkccaaDoor
