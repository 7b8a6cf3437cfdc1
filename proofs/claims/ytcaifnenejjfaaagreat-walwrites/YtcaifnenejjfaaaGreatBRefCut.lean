/- Image and Cut of the reference's disks, SameAll, and Writes of package block, by contracts. -/
import Derived.Test.YtcaifnenejjfaaaGreatBRefImg
namespace Go.Proofs.YtcaifnenejjfaaaGreat
open Go.RowKit
set_option linter.unusedVariables false
set_option maxRecDepth 20000

set_option maxHeartbeats 800000 in
theorem refImage_nil (w : World) : Calls Tryz.prog 34 #[.pointer none] w fun e w' => e = .returned (.slice none 0 0) ∧ w' = w := by
  go_enter Tryz.func34, Tryz.ntmps34
  go_wp2
  go_ret
  exact ⟨rfl, rfl⟩

set_option maxHeartbeats 800000 in
set_option maxRecDepth 20000 in
theorem refImage_ok {w : World} {B r : Nat} {F L : Value} {vs us : List Value} {fs : List (List UInt8)} {ls : List (Nat × List UInt8)} (h : RefAt w B r F L vs us fs ls) (hok : ∀ c ∈ ls, c.1 < fs.length ∧ c.2.length = 256) (hf : ∀ p ∈ fs, p.length = 256) (h1 : 1 ≤ fs.length) (h2 : fs.length ≤ 1024) (hls : ls.length ≤ 1000000) :
    Calls Tryz.prog 34 #[.pointer (some ⟨r, 0, none⟩)] w fun e w' => ∃ b c vs', e = .returned (.slice (some ⟨b, 0, none⟩) fs.length c) ∧ ImgAt w' w.heap.size (.slice (some ⟨b, 0, none⟩) fs.length c) vs' (psOf fs ls) ∧ Below w.heap.size w w' := by
  have Ha := hid (at_ok h hok hf h1 h2 ls.length (Nat.le_refl _) hls)
  rw [List.take_length] at Ha
  have c1 := cell_of_row _ _ 1 _ _ _ h.obj
  simp only [List.getElem?_toArray, List.getElem?_cons_zero, List.getElem?_cons_succ] at c1
  obtain ⟨la, lc, rfl⟩ : ∃ la lc, L = .slice la ls.length lc := by
    rcases h.log.2 with ⟨hv, h0⟩ | ⟨g', cap', cur', hv, _⟩
    · exact ⟨none, 0, by rw [hv, h0]⟩
    · exact ⟨_, _, hv⟩
  clear h hok hf
  go_enter Tryz.func34, Tryz.ntmps34
  go_wp2_with (fail)
  refine Ha.out.mono ?_
  rintro e w1 ⟨b, c, vs', rfl, hI, hB⟩
  go_wp2
  go_ret
  first | exact ⟨_, _, _, rfl, hI, hB⟩ | exact ⟨_, _, rfl, ⟨_, hI⟩, hB⟩ | exact ⟨_, _, rfl, _, hI, hB⟩

set_option maxHeartbeats 800000 in
theorem sameAll_nil (w : World) : Calls Tryz.prog 32 #[.slice none 0 0, .slice none 0 0] w fun e w' => e = .returned (.bool true) ∧ w' = w := by
  go_enter Tryz.func32, Tryz.ntmps32
  go_wp2
  go_loopw [5] (fun i wr => i = .int .i64 0 ∧ wr = w) (fun _ _ => 0)
  case atStart => exact ⟨rfl, rfl⟩
  case round =>
    obtain ⟨rfl, rfl⟩ := hrel
    go_wp2
    go_ret
    exact ⟨rfl, rfl⟩

set_option maxHeartbeats 1600000 in
set_option maxRecDepth 20000 in
theorem sameAll_eq {w : World} {B1 b1 c1 B2 b2 c2 n : Nat} {vs1 vs2 : List Value} {ps : List (List UInt8)} (hn : n = ps.length) (h1 : ImgAt w B1 (.slice (some ⟨b1, 0, none⟩) n c1) vs1 ps) (h2 : ImgAt w B2 (.slice (some ⟨b2, 0, none⟩) n c2) vs2 ps) (hl : ps.length ≤ 1024) (hf : ∀ p ∈ ps, p.length ≤ 140737488351232) :
    Calls Tryz.prog 32 #[.slice (some ⟨b1, 0, none⟩) n c1, .slice (some ⟨b2, 0, none⟩) n c2] w fun e w' => e = .returned (.bool true) ∧ Below w.heap.size w w' := by
  subst hn
  have H1 := hid h1
  have H2 := hid h2
  have Hf := hid hf
  clear h1 h2 hf
  go_enter Tryz.func32, Tryz.ntmps32
  go_wp2
  go_loopw [5] (fun i wr => ∃ k : Nat, k ≤ ps.length ∧ i = .int .i64 (k : Int) ∧ Below w.heap.size w wr) (fun i _ => ps.length - (intOf i).toNat)
  case atStart => exact ⟨0, by omega, rfl, Below.refl _ _⟩
  case round =>
    obtain ⟨k, hk, rfl, hB⟩ := hrel
    have HB := hid hB
    clear hB
    by_cases hlt : k < ps.length
    · obtain ⟨a1, e1, k1, hb1, _⟩ := (H1.out.below HB.out).cell rfl k hlt
      obtain ⟨a2, e2, k2, hb2, _⟩ := (H2.out.below HB.out).cell rfl k hlt
      have hfk := Hf.out _ (List.getElem_mem hlt)
      have Hs : Hid (Calls Tryz.prog 27 #[.slice a1 (ps[k]).length e1, .slice a2 (ps[k]).length e2] wr.drew fun e w' => e = .returned (.bool true) ∧ Below wr.drew.heap.size wr.drew w') := by
        have h := sameBytes_any ps[k] ps[k] a1 a2 e1 e2 wr.drew hb1 hb2 hfk hfk
        simp only [decide_true] at h
        exact h
      have f0 : (0 : Int) ≤ (k : Int) := by omega
      have f1 : (k : Int) < (ps.length : Int) := by omega
      clear hb1 hb2 hfk
      generalize (ps[k]).length = lk at *
      go_wp2
      go_region_held3 (fun w9 => w9.cell? ⟨b1, k, none⟩ = some (.slice a1 lk e1) ∧ w9.cell? ⟨b2, k, none⟩ = some (.slice a2 lk e2)) (first | exact ⟨k1, k2⟩ | exact q.out)
        (first | ((go_at_call 27; refine Hs.out.mono ?_; rintro e w4 ⟨rfl, hb4'⟩; have hb4 := undrew hb4'; have q := hid (And.intro ((hb4.cell (World.block_lt_of_cell? _ _ k1)).trans k1) ((hb4.cell (World.block_lt_of_cell? _ _ k2)).trans k2)); have Hb4 := hid hb4; clear hb4 hb4')))
      have HB4 := hid (HB.out.trans (Hb4.out.mono HB.out.size))
      clear k1 k2 q Hb4 Hs
      go_wp2
      go_roundw
      case rel => exact ⟨k + 1, by omega, by go_num, HB4.out⟩
      case measure => simp [intOf]; omega
    · have f1 : ¬ (k : Int) < (ps.length : Int) := by omega
      go_wp2
      go_ret
      exact ⟨rfl, HB.out⟩
end Go.Proofs.YtcaifnenejjfaaaGreat
