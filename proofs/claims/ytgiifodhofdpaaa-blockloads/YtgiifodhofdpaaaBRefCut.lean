/- Image and Cut of the reference's disks, SameAll, and Writes of package block, by contracts. -/
import Derived.Test.YtgiifodhofdpaaaBRefImg
namespace Go.Proofs.Ytgiifodhofdpaaa
open Go.RowKit
set_option linter.unusedVariables false

set_option maxHeartbeats 800000 in
theorem refImage_nil (w : World) : Calls Try.prog 26 #[.pointer none] w fun e w' => e = .returned (.slice none 0 0) ∧ w' = w := by
  go_enter Try.func26, Try.ntmps26
  go_wp2
  go_ret
  exact ⟨rfl, rfl⟩

set_option maxHeartbeats 800000 in
set_option maxRecDepth 20000 in
theorem refImage_ok {w : World} {B r : Nat} {F L : Value} {vs us : List Value} {fs : List (List UInt8)} {ls : List (Nat × List UInt8)} (h : RefAt w B r F L vs us fs ls) (hok : ∀ c ∈ ls, c.1 < fs.length ∧ c.2.length = 256) (hf : ∀ p ∈ fs, p.length = 256) (h1 : 1 ≤ fs.length) (h2 : fs.length ≤ 1024) (hls : ls.length ≤ 1000000) :
    Calls Try.prog 26 #[.pointer (some ⟨r, 0, none⟩)] w fun e w' => ∃ b c vs', e = .returned (.slice (some ⟨b, 0, none⟩) fs.length c) ∧ ImgAt w' w.heap.size (.slice (some ⟨b, 0, none⟩) fs.length c) vs' (psOf fs ls) ∧ Below w.heap.size w w' := by
  have Ha := hid (at_ok h hok hf h1 h2 ls.length (Nat.le_refl _) hls)
  rw [List.take_length] at Ha
  have c1 := cell_of_row _ _ 1 _ _ _ h.obj
  simp only [List.getElem?_toArray, List.getElem?_cons_zero, List.getElem?_cons_succ] at c1
  obtain ⟨la, lc, rfl⟩ : ∃ la lc, L = .slice la ls.length lc := by
    rcases h.log.2 with ⟨hv, h0⟩ | ⟨g', cap', cur', hv, _⟩
    · exact ⟨none, 0, by rw [hv, h0]⟩
    · exact ⟨_, _, hv⟩
  clear h hok hf
  go_enter Try.func26, Try.ntmps26
  go_wp2_with (fail)
  refine Ha.out.mono ?_
  rintro e w1 ⟨b, c, vs', rfl, hI, hB⟩
  go_wp2
  go_ret
  first | exact ⟨_, _, _, rfl, hI, hB⟩ | exact ⟨_, _, rfl, ⟨_, hI⟩, hB⟩ | exact ⟨_, _, rfl, _, hI, hB⟩

set_option maxHeartbeats 800000 in
set_option maxRecDepth 20000 in
theorem refCut_far {w : World} {B r : Nat} {F L : Value} {vs us : List Value} {fs : List (List UInt8)} {ls : List (Nat × List UInt8)} (h : RefAt w B r F L vs us fs ls) (k : Int) (hk : k < 0 ∨ (ls.length : Int) < k) :
    Calls Try.prog 28 #[.pointer (some ⟨r, 0, none⟩), .int .i64 k] w fun e w' => e = .returned (.tuple #[.pointer none, .int .i64 2]) ∧ w' = w := by
  have c1 := cell_of_row _ _ 1 _ _ _ h.obj
  simp only [List.getElem?_toArray, List.getElem?_cons_zero, List.getElem?_cons_succ] at c1
  obtain ⟨la, lc, rfl⟩ : ∃ la lc, L = .slice la ls.length lc := by
    rcases h.log.2 with ⟨hv, h0⟩ | ⟨g', cap', cur', hv, _⟩
    · exact ⟨none, 0, by rw [hv, h0]⟩
    · exact ⟨_, _, hv⟩
  clear h
  rcases (show k < 0 ∨ (0 ≤ k ∧ (ls.length : Int) < k) by omega) with h | ⟨h0, h⟩
  · go_enter Try.func28, Try.ntmps28
    go_wp2
    go_ret2
    exact ⟨rfl, rfl⟩
  · go_enter Try.func28, Try.ntmps28
    go_wp2
    go_ret2
    exact ⟨rfl, rfl⟩

set_option maxHeartbeats 800000 in
set_option maxRecDepth 20000 in
theorem refCut_ok {w : World} {B r : Nat} {F L : Value} {vs us : List Value} {fs : List (List UInt8)} {ls : List (Nat × List UInt8)} (h : RefAt w B r F L vs us fs ls) (hok : ∀ c ∈ ls, c.1 < fs.length ∧ c.2.length = 256) (hf : ∀ p ∈ fs, p.length = 256) (h1 : 1 ≤ fs.length) (h2 : fs.length ≤ 1024) (k : Nat) (hk : k ≤ ls.length) (hls : ls.length ≤ 1000000) :
    Calls Try.prog 28 #[.pointer (some ⟨r, 0, none⟩), .int .i64 (k : Int)] w fun e w' => ∃ r' F' vs', e = .returned (.tuple #[.pointer (some ⟨r', 0, none⟩), .int .i64 0]) ∧ RefAt w' w.heap.size r' F' (.slice none 0 0) vs' [] (psOf fs (ls.take k)) [] ∧ Below w.heap.size w w' := by
  have Ha := hid (at_ok h hok hf h1 h2 k hk hls)
  have Hpl := hid (psOf_length fs (ls.take k))
  have c1 := cell_of_row _ _ 1 _ _ _ h.obj
  simp only [List.getElem?_toArray, List.getElem?_cons_zero, List.getElem?_cons_succ] at c1
  obtain ⟨la, lc, rfl⟩ : ∃ la lc, L = .slice la ls.length lc := by
    rcases h.log.2 with ⟨hv, h0⟩ | ⟨g', cap', cur', hv, _⟩
    · exact ⟨none, 0, by rw [hv, h0]⟩
    · exact ⟨_, _, hv⟩
  clear h hok hf
  have f0 : (0 : Int) ≤ (k : Int) := by omega
  have f1 : ¬ ls.length < k := by omega
  go_enter Try.func28, Try.ntmps28
  go_wp2_with (fail)
  refine Ha.out.mono ?_
  rintro e w1 ⟨b, c, vs', rfl, hI, hB⟩
  have HI := hid hI
  have HB := hid hB
  clear hI hB Ha
  go_wp2
  go_ret2
  have hR : RefAt (w1.alloc (.cells #[.slice (some ⟨b, 0, none⟩) fs.length c, .slice none 0 0] 60)) w.heap.size w1.heap.size (.slice (some ⟨b, 0, none⟩) fs.length c) (.slice none 0 0) vs' [] (psOf fs (ls.take k)) [] := by
    have hlt : ∀ q, refBlock (.slice (some ⟨b, 0, none⟩) fs.length c) (.slice none 0 0) vs' [] q → q < w1.heap.size := by
      rintro q (e | e | ⟨v, hv, e⟩ | ⟨u, hu, e⟩)
      · exact (HI.out.row.lt q e).2
      · cases e
      · obtain ⟨i, hi, rfl⟩ := List.getElem_of_mem hv
        exact ((HI.out.rows i (by rw [← HI.out.vlen]; exact hi) hi).lt q e).2
      · cases hu
    refine ⟨heap_alloc_new _ _, HI.out.row.alloc _, HI.out.vlen, fun i hi hi' => (HI.out.rows i hi hi').alloc _, World.ownsRow_nil _ _ _ _, rfl, (fun i hi => by simp at hi), fun _ => rfl, HB.out.size, fun q hq => by have := hlt q hq; omega⟩
  first | exact ⟨_, _, _, rfl, hR, HB.out.alloc HB.out.size _⟩ | exact ⟨_, rfl, _, _, hR, HB.out.alloc HB.out.size _⟩ | exact ⟨_, rfl, ⟨_, _, hR⟩, HB.out.alloc HB.out.size _⟩

set_option maxHeartbeats 800000 in
theorem sameAll_nil (w : World) : Calls Try.prog 24 #[.slice none 0 0, .slice none 0 0] w fun e w' => e = .returned (.bool true) ∧ w' = w := by
  go_enter Try.func24, Try.ntmps24
  go_wp2
  go_loopw [5] (fun i wr => i = .int .i64 0 ∧ wr = w) (fun _ _ => 0)
  case atStart => exact ⟨rfl, rfl⟩
  case round =>
    obtain ⟨rfl, rfl⟩ := hrel
    go_wp2
    go_ret
    exact ⟨rfl, rfl⟩

set_option maxHeartbeats 1600000 in
set_option maxRecDepth 20000 in
theorem sameAll_eq {w : World} {B1 b1 c1 B2 b2 c2 n : Nat} {vs1 vs2 : List Value} {ps : List (List UInt8)} (hn : n = ps.length) (h1 : ImgAt w B1 (.slice (some ⟨b1, 0, none⟩) n c1) vs1 ps) (h2 : ImgAt w B2 (.slice (some ⟨b2, 0, none⟩) n c2) vs2 ps) (hl : ps.length ≤ 1024) (hf : ∀ p ∈ ps, p.length ≤ 140737488351232) :
    Calls Try.prog 24 #[.slice (some ⟨b1, 0, none⟩) n c1, .slice (some ⟨b2, 0, none⟩) n c2] w fun e w' => e = .returned (.bool true) ∧ Below w.heap.size w w' := by
  subst hn
  have H1 := hid h1
  have H2 := hid h2
  have Hf := hid hf
  clear h1 h2 hf
  go_enter Try.func24, Try.ntmps24
  go_wp2
  go_loopw [5] (fun i wr => ∃ k : Nat, k ≤ ps.length ∧ i = .int .i64 (k : Int) ∧ Below w.heap.size w wr) (fun i _ => ps.length - (intOf i).toNat)
  case atStart => exact ⟨0, by omega, rfl, Below.refl _ _⟩
  case round =>
    obtain ⟨k, hk, rfl, hB⟩ := hrel
    have HB := hid hB
    clear hB
    by_cases hlt : k < ps.length
    · obtain ⟨a1, e1, k1, hb1, _⟩ := (H1.out.below HB.out).cell rfl k hlt
      obtain ⟨a2, e2, k2, hb2, _⟩ := (H2.out.below HB.out).cell rfl k hlt
      have hfk := Hf.out _ (List.getElem_mem hlt)
      have Hs : Hid (Calls Try.prog 16 #[.slice a1 (ps[k]).length e1, .slice a2 (ps[k]).length e2] wr.drew fun e w' => e = .returned (.bool true) ∧ Below wr.drew.heap.size wr.drew w') := by
        have h := sameBytes_any ps[k] ps[k] a1 a2 e1 e2 wr.drew hb1 hb2 hfk hfk
        simp only [decide_true] at h
        exact h
      have f0 : (0 : Int) ≤ (k : Int) := by omega
      have f1 : (k : Int) < (ps.length : Int) := by omega
      clear hb1 hb2 hfk
      generalize (ps[k]).length = lk at *
      go_wp2
      go_region_held3 (fun w9 => w9.cell? ⟨b1, k, none⟩ = some (.slice a1 lk e1) ∧ w9.cell? ⟨b2, k, none⟩ = some (.slice a2 lk e2)) (first | exact ⟨k1, k2⟩ | exact q.out)
        (first | ((go_at_call 16; refine Hs.out.mono ?_; rintro e w4 ⟨rfl, hb4'⟩; have hb4 := undrew hb4'; have q := hid (And.intro ((hb4.cell (World.block_lt_of_cell? _ _ k1)).trans k1) ((hb4.cell (World.block_lt_of_cell? _ _ k2)).trans k2)); have Hb4 := hid hb4; clear hb4 hb4')))
      have HB4 := hid (HB.out.trans (Hb4.out.mono HB.out.size))
      clear k1 k2 q Hb4 Hs
      go_wp2
      go_roundw
      case rel => exact ⟨k + 1, by omega, by go_num, HB4.out⟩
      case measure => simp [intOf]; omega
    · have f1 : ¬ (k : Int) < (ps.length : Int) := by omega
      go_wp2
      go_ret
      exact ⟨rfl, HB.out⟩
end Go.Proofs.Ytgiifodhofdpaaa
