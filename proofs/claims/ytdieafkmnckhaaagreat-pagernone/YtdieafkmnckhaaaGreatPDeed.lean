/- The bytes and the first page of a deed, by contracts. -/
import Derived.Test.YtdieafkmnckhaaaGreatPOpen
namespace Go.Proofs.YtdieafkmnckhaaaGreat
open Go.RowKit Go.Maps Go.Sort Go.Shelf
set_option linter.unusedVariables false
set_option maxRecDepth 20000
/-- the length of a deed's bytes -/
def dLen (sh : Bool) : Nat := if sh then 255 else 256
def BytPost (w : World) (b : UInt8) (n : Nat) (e : Ending) (w' : World) : Prop :=
  ∃ g c, e = .returned (.slice (some ⟨g, 0, none⟩) n c) ∧ w'.ownsRow w.heap.size 5 1 (.slice (some ⟨g, 0, none⟩) n c) n (cellsOf (List.replicate n b)) ∧ w.heap.size ≤ g ∧ Below w.heap.size w w'
set_option maxHeartbeats 800000 in
theorem bytes4_any (kd : Int) (pv : Value) (b : UInt8) (sh : Bool) (w : World) (hp1 : pv.cells = #[pv]) :
    Calls Tryz.prog 36 #[.agg #[.int .i64 kd, pv, .int .u8 (b.toNat : Int), .bool sh]] w (BytPost w b (dLen sh)) := by
  obtain ⟨i0, hi, hz0, hz1, hz2⟩ := info_parts Tryz.info5
  unfold BytPost
  cases sh
  all_goals simp only [dLen, if_true, if_false, Bool.false_eq_true]
  · have hw : Hid (∀ w1 : World, (w1.alloc (.cells #[.int .i64 kd, pv, .int .u8 (b.toNat : Int), .bool false] 31)).heap[w1.heap.size]? = some (.cells #[.int .i64 kd, pv, .int .u8 (b.toNat : Int), .bool false] 31 (0, 0))) := fun w1 => heap_alloc_new w1 _
    go_enter Tryz.func36, Tryz.ntmps36
    go_wp2_with (at_make; refine wpList_make_full _ rfl _ _ 49 rfl (w.heap.size + 1) 5 i0 (.int .u8 0) 1 Tryz.underlying49 hi hz0 hz1 .i64 .i64 _ _ 256 rfl rfl (by omega) (by omega) (by rw [hz2]; omega) (by unfold maxLen; omega) (by simp) ?_; intro w0 hown0 hgrow0)
    go_loopw [5] (fun i wr => ∃ k : Nat, k ≤ 256 ∧ i = .int .i64 k ∧ wr.ownsRow (w.heap.size + 1) 5 1 (.slice (some ⟨w.heap.size + 1, 0, none⟩) 256 256) 256 (cellsOf (laid 256 k b)) ∧ wr.heap[w.heap.size]? = some (.cells #[.int .i64 kd, pv, .int .u8 (b.toNat : Int), .bool false] 31 (0, 0)) ∧ Below w.heap.size w wr) (fun i _ => 256 - (intOf i).toNat)
    case atStart =>
      refine ⟨0, Nat.zero_le _, rfl, by rw [laid_zero, ← made_zeros]; simpa using hown0, (hgrow0.block w.heap.size (by simp) (by simp)).trans (hw.out w), ((Below.refl _ w).alloc (Nat.le_refl _) _).grown hgrow0 (by simp) (by simp)⟩
    case round =>
      obtain ⟨k, hk, rfl, hown, hobj, hbel⟩ := hrel
      have Hobj := hid hobj
      have Hbel := hid hbel
      have c1 := cell_of_row _ _ 2 _ _ _ hobj
      have Hown := hid hown
      clear hobj hbel hgrow0 hown0
      by_cases hlt : k < 256
      · have c2 := (hown.cellAt k (by omega)).trans (cellsOf_get _ k (by rw [laid_length _ _ _ hk]; exact hlt))
        have c3 := hown.frozenAt k
        have Hs := hid (hown.stored k (.int .u8 (b.toNat : Int)))
        clear hown
        generalize ((laid 256 k b)[k]'(by rw [laid_length _ _ _ hk]; exact hlt)).toNat = c0 at c2
        go_wp2
        go_roundw
        case rel => exact ⟨k + 1, by omega, by go_num, by rw [← laid_set _ _ _ hlt]; exact Hs.out.1, (heap_setCell_other _ _ _ _ (by simp)).trans Hobj.out, Hbel.out.setCell (by simp) _⟩
        case measure => simp [intOf]; omega
      · clear hown
        go_wp2
        go_ret
        have hk' : k = 256 := by omega
        have h := Hown.out
        rw [hk', laid_all] at h
        exact ⟨_, _, rfl, h.mono (by omega), by omega, Hbel.out⟩
  · have hw : Hid (∀ w1 : World, (w1.alloc (.cells #[.int .i64 kd, pv, .int .u8 (b.toNat : Int), .bool true] 31)).heap[w1.heap.size]? = some (.cells #[.int .i64 kd, pv, .int .u8 (b.toNat : Int), .bool true] 31 (0, 0))) := fun w1 => heap_alloc_new w1 _
    go_enter Tryz.func36, Tryz.ntmps36
    go_wp2_with (at_make; refine wpList_make_full _ rfl _ _ 49 rfl (w.heap.size + 1) 5 i0 (.int .u8 0) 1 Tryz.underlying49 hi hz0 hz1 .i64 .i64 _ _ 255 rfl rfl (by omega) (by omega) (by rw [hz2]; omega) (by unfold maxLen; omega) (by simp) ?_; intro w0 hown0 hgrow0)
    go_loopw [5] (fun i wr => ∃ k : Nat, k ≤ 255 ∧ i = .int .i64 k ∧ wr.ownsRow (w.heap.size + 1) 5 1 (.slice (some ⟨w.heap.size + 1, 0, none⟩) 255 255) 255 (cellsOf (laid 255 k b)) ∧ wr.heap[w.heap.size]? = some (.cells #[.int .i64 kd, pv, .int .u8 (b.toNat : Int), .bool true] 31 (0, 0)) ∧ Below w.heap.size w wr) (fun i _ => 255 - (intOf i).toNat)
    case atStart =>
      refine ⟨0, Nat.zero_le _, rfl, by rw [laid_zero, ← made_zeros]; simpa using hown0, (hgrow0.block w.heap.size (by simp) (by simp)).trans (hw.out w), ((Below.refl _ w).alloc (Nat.le_refl _) _).grown hgrow0 (by simp) (by simp)⟩
    case round =>
      obtain ⟨k, hk, rfl, hown, hobj, hbel⟩ := hrel
      have Hobj := hid hobj
      have Hbel := hid hbel
      have c1 := cell_of_row _ _ 2 _ _ _ hobj
      have Hown := hid hown
      clear hobj hbel hgrow0 hown0
      by_cases hlt : k < 255
      · have c2 := (hown.cellAt k (by omega)).trans (cellsOf_get _ k (by rw [laid_length _ _ _ hk]; exact hlt))
        have c3 := hown.frozenAt k
        have Hs := hid (hown.stored k (.int .u8 (b.toNat : Int)))
        clear hown
        generalize ((laid 255 k b)[k]'(by rw [laid_length _ _ _ hk]; exact hlt)).toNat = c0 at c2
        go_wp2
        go_roundw
        case rel => exact ⟨k + 1, by omega, by go_num, by rw [← laid_set _ _ _ hlt]; exact Hs.out.1, (heap_setCell_other _ _ _ _ (by simp)).trans Hobj.out, Hbel.out.setCell (by simp) _⟩
        case measure => simp [intOf]; omega
      · clear hown
        go_wp2
        go_ret
        have hk' : k = 255 := by omega
        have h := Hown.out
        rw [hk', laid_all] at h
        exact ⟨_, _, rfl, h.mono (by omega), by omega, Hbel.out⟩
/-- the first page of a deed -/
def firstOf (l : List Int) : Int := l.headD 0
theorem first4_any (kd : Int) (a : Option Addr) (l : List Int) (c : Nat) (b : UInt8) (sh : Bool) (w : World) (hl : IntsAt w a l) (hlen : l.length ≤ 9223372036854775807) :
    Calls Tryz.prog 33 #[.agg #[.int .i64 kd, .slice a l.length c, .int .u8 (b.toNat : Int), .bool sh]] w fun e w' => e = .returned (.int .i64 (firstOf l)) ∧ Below w.heap.size w w' := by
  have hn := heap_alloc_new w (.cells #[.int .i64 kd, .slice a l.length c, .int .u8 (b.toNat : Int), .bool sh] 31)
  have c1 := cell_of_row _ _ 1 _ _ _ hn
  have hb := (Below.refl _ w).alloc (Nat.le_refl _) (.cells #[.int .i64 kd, .slice a l.length c, .int .u8 (b.toNat : Int), .bool sh] 31)
  have HB := hid hb
  cases l with
  | nil =>
    clear hn hb
    go_enter Tryz.func33, Tryz.ntmps33
    go_wp2
    go_ret
    exact ⟨rfl, HB.out⟩
  | cons x t =>
    obtain ⟨b0, o, rfl, h0⟩ := hl 0 (by simp)
    have c2 := (hb.cell (World.block_lt_of_cell? _ _ h0)).trans h0
    simp only [Nat.add_zero, List.getElem_cons_zero] at c2
    have hne : ¬ (((x :: t).length : Nat) : Int) = 0 := by simp; omega
    have hlt : 0 < (x :: t).length := by simp
    have hfo : firstOf (x :: t) = x := rfl
    generalize (x :: t).length = n at *
    clear hn hb hl
    go_enter Tryz.func33, Tryz.ntmps33
    go_wp2
    go_ret
    rw [hfo]
    exact ⟨rfl, HB.out⟩
end Go.Proofs.YtdieafkmnckhaaaGreat
