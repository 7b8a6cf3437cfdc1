/- Cut of package block, by a contract. -/
import Derived.Test.YtdieafkmnckhaaaGreatBCut
namespace Go.Proofs.YtdieafkmnckhaaaGreat
open Go.RowKit
set_option linter.unusedVariables false
set_option maxRecDepth 20000
attribute [local go_sem ↓] Go.wp_at_zero Go.wp_at_succ

set_option maxHeartbeats 800000 in
set_option maxRecDepth 20000 in
theorem cut_nil (k : Int) (w : World) :
    Calls Tryz.prog 40 #[.pointer none, .int .i64 k] w fun e w' => e = .returned (.tuple #[.pointer none, .int .i64 1]) ∧ w' = w := by
  go_enter Tryz.func40, Tryz.ntmps40
  go_wp2
  go_ret2
  exact ⟨rfl, rfl⟩

set_option maxHeartbeats 800000 in
set_option maxRecDepth 20000 in
theorem cut_far {w : World} {B d g cap : Nat} {v : Value} {ps : List (List UInt8)} {ch : List (Nat × List UInt8)} (h : DiskAt w B d g cap v ps ch) (k : Int) (hk : k < 0 ∨ (ch.length : Int) < k) :
    Calls Tryz.prog 40 #[.pointer (some ⟨d, 0, none⟩), .int .i64 k] w fun e w' => e = .returned (.tuple #[.pointer none, .int .i64 2]) ∧ w' = w := by
  have Hc := hid (count_any h)
  clear h
  rcases (show k < 0 ∨ (0 ≤ k ∧ (ch.length : Int) < k) by omega) with h | ⟨h0, h⟩
  · go_enter Tryz.func40, Tryz.ntmps40
    go_wp2
    go_ret2
    exact ⟨rfl, rfl⟩
  · go_enter Tryz.func40, Tryz.ntmps40
    go_wp2_with (go_at_call 30; refine Hc.out.mono ?_; rintro e w' ⟨rfl, rfl⟩)
    go_ret2
    exact ⟨rfl, rfl⟩

theorem cell_setCells_far (vs : List Value) (w : World) (b o b' j : Nat) (h : b' ≠ b) : (w.setCells b o vs).cell? ⟨b', j, none⟩ = w.cell? ⟨b', j, none⟩ := by
  induction vs generalizing w o with
  | nil => rfl
  | cons v r ih => exact (ih (w.setCell ⟨b, o, none⟩ v) (o + 1)).trans (World.cell?_setCell_far _ _ _ _ (Ne.symm h))

theorem undo_full (ps : List (List UInt8)) (ch : List (Nat × List UInt8)) (hf : ∀ p ∈ ps, p.length = 256) (hc : ∀ c ∈ ch, c.2.length = 256) (k : Nat) : ∀ p ∈ undo ps ch k, p.length = 256 := by
  unfold undo
  have hc' : ∀ c ∈ ch.drop k, c.2.length = 256 := fun c h => hc c (List.mem_of_mem_drop h)
  generalize ch.drop k = l at hc'
  induction l with
  | nil => exact hf
  | cons c r ih =>
    intro p hp
    rw [List.foldr_cons] at hp
    rcases List.mem_or_eq_of_mem_set hp with h | h
    · exact ih (fun c h => hc' c (List.mem_cons_of_mem _ h)) p h
    · rw [h]; exact hc' c List.mem_cons_self

set_option maxHeartbeats 1600000 in
set_option maxRecDepth 100000 in
theorem cut_ok {w : World} {B d g cap : Nat} {v : Value} {ps : List (List UInt8)} {ch : List (Nat × List UInt8)} (h : DiskAt w B d g cap v ps ch) (k : Nat) (hk : k ≤ ch.length) (hch : ch.length ≤ 1000000) (h1 : 1 ≤ ps.length) (h2 : ps.length ≤ 1024) :
    Calls Tryz.prog 40 #[.pointer (some ⟨d, 0, none⟩), .int .i64 (k : Int)] w fun e w' => ∃ d' g' cap', e = .returned (.tuple #[.pointer (some ⟨d', 0, none⟩), .int .i64 0]) ∧ DiskAt w' w.heap.size d' g' cap' (.slice none 0 0) (undo ps ch k) [] ∧ Below w.heap.size w w' := by
  have Hc := hid (count_any h)
  have Hcl := hid (clonePages h h1 h2)
  have H := hid h
  have c0 := h.c0
  have c1 := h.c1
  clear h
  have f0 : (0 : Int) ≤ (k : Int) := by omega
  have f1 : (k : Int) ≤ (ch.length : Int) := by omega
  have f3 : ¬ ch.length < k := by omega
  obtain ⟨va, vc, rfl⟩ : ∃ va vc, v = .slice va ch.length vc := by
    rcases H.out.chs.2 with ⟨h, h0⟩ | ⟨g', cap', cur', hv, _⟩
    · exact ⟨none, 0, by rw [h, h0]⟩
    · exact ⟨_, _, hv⟩
  have Hd := hid H.out.lts.1
  have Hfull := hid H.out.full
  have Hchin := hid H.out.chin
  go_enter Tryz.func40, Tryz.ntmps40
  go_wp2_with (first | (go_at_call 30; refine Hc.out.mono ?_; rintro e w' ⟨rfl, rfl⟩) | (go_at_call 77; refine Hcl.out.mono ?_; rintro e w1 ⟨g', cap', rfl, hown, hbel⟩; have k1 : ∀ ob, (w1.alloc ob).cell? ⟨d, 1, none⟩ = some (.slice va ch.length vc) := fun ob => (World.cell?_alloc_some _ _ _ (by rw [(hbel.cell Hd.out).trans c1]; rfl)).trans ((hbel.cell Hd.out).trans c1)))
  have hsz1 := hbel.size
  have hgl := (hown.lt g' rfl)
  go_loopw [7] (fun i wr => ∃ j : Nat, k ≤ j ∧ j ≤ ch.length ∧ i = .int .i64 ((j : Int) - 1) ∧ DiskAt wr w'.heap.size w1.heap.size g' cap' (.slice none 0 0) (undo ps ch j) [] ∧ Below w'.heap.size w' wr) (fun i _ => (intOf i + 1).toNat)
  case atStart =>
    refine ⟨ch.length, hk, Nat.le_refl _, rfl, ⟨?_, ?_, ?_, World.ownsRow_nil _ _ _ _, fun c hc => (by cases hc), hsz1, ?_, (fun h => by cases h), (fun h => by cases h), fun _ => rfl⟩, hbel.alloc hsz1 _⟩
    · rw [undo_all]; exact heap_alloc_new _ _
    · rw [undo_all]; exact hown.alloc _
    · rw [undo_all]; exact Hfull.out
    · omega
  case round =>
    obtain ⟨j, hkj, hj, rfl, hD, hB⟩ := hrel
    clear k1 hown hbel
    by_cases hlt : k < j
    · obtain ⟨m, rfl⟩ : ∃ m, j = m + 1 := ⟨j - 1, by omega⟩
      have em : ((m + 1 : Nat) : Int) - 1 = (m : Int) := by omega
      rw [em]
      have hO := H.out.below hB
      have hm : m < ch.length := by omega
      obtain ⟨gv, cv, hv, hvb, hvl⟩ := hO.chs.form (by omega)
      cases hv
      have hgv : gv < w'.heap.size := H.out.lts.2.2 gv rfl
      have hcin := Hchin.out _ (List.getElem_mem hm)
      have hfc : ∀ c ∈ ch, c.2.length = 256 := fun c hc => (Hchin.out c hc).2
      have d0 := hD.c0
      rw [undo_length] at d0
      have d1 := hO.c1
      have dn : wr.cell? ⟨gv, m * 257, none⟩ = some (.int .i64 (ch[m].1 : Int)) := by
        have := hO.chs.cellAt (m * 257 + 0) (by omega)
        rw [cut_get ch hfc m hm 0 (by omega)] at this
        simpa using this
      have dr : wr.rangeAt gv (m * 257 + 1) (cellsOf ch[m].2) := fun q u hq => by
        have hq' : q < (ch[m].2).length := by have := (List.getElem?_eq_some_iff.1 hq).1; simpa [cellsOf_length] using this
        have := hO.chs.cellAt (m * 257 + (q + 1)) (by omega)
        rw [cut_get ch hfc m hm (q + 1) (by omega)] at this
        rw [show m * 257 + 1 + q = m * 257 + (q + 1) by omega, this]
        simpa using hq
      have hul := undo_length ps ch (m + 1)
      have dt : wr.there g' (ch[m].1 * 256) 256 := fun q hq => by
        have := hD.pages.cellAt (ch[m].1 * 256 + q) (by omega)
        refine ⟨?_, hD.pages.frozenAt _⟩
        rw [this, List.getElem?_eq_getElem (by rw [pcells_length _ hD.full]; omega)]
        rfl
      have hE := hid (set_end hD ch[m].1 (by omega) ch[m].2 hcin.2 (fun q hq => by omega))
      rw [← undo_step ps ch m hm] at hE
      have hl : (cellsOf ch[m].2).length = 256 := by rw [cellsOf_length]; exact hcin.2
      have ho := cellsOf_one ch[m].2
      have n0 : (0 : Int) ≤ (ch[m].1 : Int) := by omega
      have n1 : (ch[m].1 : Int) < (ps.length : Int) := by omega
      have m0 : (0 : Int) ≤ (m : Int) := by omega
      have m1 : (m : Int) < (ch.length : Int) := by omega
      have mk : (k : Int) ≤ (m : Int) := by omega
      have hgg : g' ≠ gv := by omega
      have hgd : d ≠ g' := by have := Hd.out; omega
      have hgw : w1.heap.size ≠ g' := by omega
      have HB := hid hB
      generalize ch[m].1 = n at *
      generalize cellsOf ch[m].2 = cs at *
      clear hcin hfc hO hD hB hul H Hc Hcl c0 c1 h1 h2
      have hu := Tryz.underlying111
      have hi : (Tryz.prog.info? 111).map (·.size) = some cs.length := by rw [size_page, hl]
      go_wp2
      go_region_held3 (fun w9 => w9.cell? ⟨w1.heap.size, 0, none⟩ = some (.slice (some ⟨g', 0, none⟩) ps.length cap') ∧ w9.cell? ⟨d, 1, none⟩ = some (.slice (some ⟨gv, 0, none⟩) ch.length vc) ∧ w9.cell? ⟨gv, m * 257, none⟩ = some (.int .i64 (n : Int)) ∧ w9.rangeAt gv (m * 257 + 1) cs ∧ w9.there g' (n * 256) 256) ((go_split_ands; simp only [World.rangeAt_drew, World.there_drew, World.cell?_drew] at *; exact ⟨by first | assumption | exact (cell_setCells_far _ _ _ _ _ _ (by omega)).trans (by assumption), by first | assumption | exact (cell_setCells_far _ _ _ _ _ _ (by omega)).trans (by assumption), by first | assumption | exact (cell_setCells_far _ _ _ _ _ _ (by omega)).trans (by assumption), by first | assumption | exact World.rangeAt_setCells_apart (by assumption) _ _ _ (by omega), by first | assumption | (apply World.there_setCells; assumption)⟩)) (fail)
      clear d0 d1 dn dt dr
      go_wp2
      go_roundw
      case rel => exact ⟨m, by omega, by omega, by go_num, hE.out.1, HB.out.trans hE.out.2⟩
      case measure => simp [intOf] <;> omega
    · have hjk : j = k := by omega
      subst hjk
      have HD := hid hD
      clear hD
      go_wp2
      go_ret2
      exact ⟨_, _, _, rfl, HD.out, hB⟩
end Go.Proofs.YtdieafkmnckhaaaGreat
