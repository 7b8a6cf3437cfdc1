/- Writes of package block, by a contract. -/
import Derived.Test.YthdcjepkehifoaaGreatBRefCut
namespace Go.Proofs.YthdcjepkehifoaaGreat
open Go.RowKit
set_option linter.unusedVariables false
set_option maxRecDepth 20000

theorem Tryz.info3 : (Tryz.prog.info? 3).map (fun i => (i.zero, i.size, i.bytes)) = some (some (.int .i64 0), 1, 8) := by kernel_rfl
def nums (l : List Nat) : List Value := l.map fun (n : Nat) => .int .i64 (n : Int)
theorem nums_length (l : List Nat) : (nums l).length = l.length := by simp [nums]
theorem made_ints (n : Nat) : (madeCells (Value.int .i64 0).cells (n * 1)).toList = List.replicate n (.int .i64 0) := by
  have : (Value.int .i64 0).cells = #[.int .i64 0] := rfl
  rw [this, toList_madeCells_one, Nat.mul_one]

set_option maxHeartbeats 1600000 in
set_option maxRecDepth 20000 in
theorem writes_ok {w : World} {B d g cap : Nat} {v : Value} {ps : List (List UInt8)} {ch : List (Nat × List UInt8)} (h : DiskAt w B d g cap v ps ch) (hch : ch.length ≤ 1000000) :
    Calls Tryz.prog 32 #[.pointer (some ⟨d, 0, none⟩)] w fun e w' => ∃ b, e = .returned (.slice (some ⟨b, 0, none⟩) ch.length ch.length) ∧ w'.ownsRow w.heap.size 3 1 (.slice (some ⟨b, 0, none⟩) ch.length ch.length) ch.length (nums (ch.map (·.1))) ∧ Below w.heap.size w w' := by
  obtain ⟨i0, hi0, hz0, hz1, hz2⟩ := info_parts Tryz.info3
  have H := hid h
  obtain ⟨va, vc, rfl⟩ : ∃ va vc, v = .slice va ch.length vc := by
    rcases h.chs.2 with ⟨h, h0⟩ | ⟨g', cap', cur', hv, _⟩
    · exact ⟨none, 0, by rw [h, h0]⟩
    · exact ⟨_, _, hv⟩
  have c1 := h.c1
  clear h
  go_enter Tryz.func32, Tryz.ntmps32
  go_wp2_with (at_make; refine wpList_make_full _ rfl _ _ 30 rfl w.heap.size 3 i0 _ 1 Tryz.underlying30 hi0 hz0 hz1 .i64 .i64 _ _ ch.length rfl rfl (by omega) (by omega) (by rw [hz2]; omega) (by unfold maxLen; omega) (Nat.le_refl _) ?_; intro w0 hown0 hgrow0; have c1' := (hgrow0.cell_far ⟨d, 1, none⟩ H.out.lts.1 (by simp)).trans c1)
  have hown1 := hown0
  rw [made_ints] at hown1
  have Hown := hid hown1
  have Hgrow := hid hgrow0
  clear hown0 hown1 hgrow0
  go_loopw [18] (fun i wr => ∃ k : Nat, k ≤ ch.length ∧ i = .int .i64 (k : Int) ∧ wr.ownsRow w.heap.size 3 1 (.slice (some ⟨w.heap.size, 0, none⟩) ch.length ch.length) ch.length (nums ((ch.take k).map (·.1)) ++ List.replicate (ch.length - k) (.int .i64 0)) ∧ Below w.heap.size w wr) (fun i _ => ch.length - (intOf i).toNat)
  case atStart => exact ⟨0, by omega, rfl, by simpa [nums] using Hown.out, (Below.refl _ w).grown Hgrow.out (Nat.le_refl _) (by simp)⟩
  case round =>
    obtain ⟨k, hk, rfl, hrow, hB⟩ := hrel
    have Hrow := hid hrow
    have HB := hid hB
    clear hrow hB c1'
    by_cases hlt : k < ch.length
    · have hD := H.out.below HB.out
      have d1 := hD.c1
      obtain ⟨gv, cv, hv, hvb, hvl⟩ := hD.chs.form (by omega)
      cases hv
      have dn : wr.cell? ⟨gv, k * 257, none⟩ = some (.int .i64 (ch[k].1 : Int)) := by
        have := hD.chs.cellAt (k * 257 + 0) (by omega)
        rw [cut_get ch (fun c hc => (hD.chin c hc).2) k hlt 0 (by omega)] at this
        simpa using this
      have htl : (nums ((ch.take k).map (·.1))).length = k := by rw [nums_length, List.length_map, List.length_take]; omega
      have k1 := Hrow.out.cellAt k (by omega)
      rw [List.getElem?_append_right (by rw [htl]; omega), htl, Nat.sub_self, List.getElem?_replicate, if_pos (by omega)] at k1
      have k2 := Hrow.out.frozenAt k
      have Hs := hid (Hrow.out.stored k (.int .i64 (ch[k].1 : Int)))
      have he : (nums ((ch.take k).map (·.1)) ++ List.replicate (ch.length - k) (Value.int .i64 0)).set k (.int .i64 (ch[k].1 : Int)) = nums ((ch.take (k + 1)).map (·.1)) ++ List.replicate (ch.length - (k + 1)) (.int .i64 0) := by
        rw [List.set_append_right _ _ (by rw [htl]; omega), htl, Nat.sub_self, show ch.length - k = (ch.length - (k + 1)) + 1 by omega, List.replicate_succ, List.set_cons_zero, List.take_succ_eq_append_getElem hlt, List.map_append]
        unfold nums
        rw [List.map_append, List.append_assoc]
        rfl
      rw [he] at Hs
      generalize ch[k].1 = N at *
      have f0 : (0 : Int) ≤ (k : Int) := by omega
      have f1 : (k : Int) < (ch.length : Int) := by omega
      clear hD hvb hvl htl he
      go_wp2
      go_roundw
      case rel => exact ⟨k + 1, by omega, by go_num, Hs.out.1, HB.out.setCell (Nat.le_refl _) _⟩
      case measure => simp [intOf]; omega
    · have hkn : k = ch.length := by omega
      subst hkn
      have f1 : ¬ (ch.length : Int) < (ch.length : Int) := by omega
      have hr := Hrow.out
      rw [List.take_length, Nat.sub_self, List.replicate_zero, List.append_nil] at hr
      have Hr := hid hr
      clear hr
      go_wp2
      go_ret
      exact ⟨_, rfl, Hr.out, HB.out⟩
end Go.Proofs.YthdcjepkehifoaaGreat
