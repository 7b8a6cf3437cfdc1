/- Image and Cut of the reference's disks, SameAll, and Writes of package block, by contracts. -/
import Derived.Test.YtcaifnenejjfaaaBRefImg
namespace Go.Proofs.Ytcaifnenejjfaaa
open Go.RowKit
set_option linter.unusedVariables false
set_option maxRecDepth 20000

set_option maxHeartbeats 800000 in
theorem refImage_nil (w : World) : Calls Try.prog 68 #[.pointer none] w fun e w' => e = .returned (.slice none 0 0) ∧ w' = w := by
  go_enter Try.func68, Try.ntmps68
  go_wp2
  go_ret
  exact ⟨rfl, rfl⟩

set_option maxHeartbeats 800000 in
set_option maxRecDepth 20000 in
theorem refImage_ok {w : World} {B r : Nat} {F L : Value} {vs us : List Value} {fs : List (List UInt8)} {ls : List (Nat × List UInt8)} (h : RefAt w B r F L vs us fs ls) (hok : ∀ c ∈ ls, c.1 < fs.length ∧ c.2.length = 256) (hf : ∀ p ∈ fs, p.length = 256) (h1 : 1 ≤ fs.length) (h2 : fs.length ≤ 1024) (hls : ls.length ≤ 1000000) :
    Calls Try.prog 68 #[.pointer (some ⟨r, 0, none⟩)] w fun e w' => ∃ b c vs', e = .returned (.slice (some ⟨b, 0, none⟩) fs.length c) ∧ ImgAt w' w.heap.size (.slice (some ⟨b, 0, none⟩) fs.length c) vs' (psOf fs ls) ∧ Below w.heap.size w w' := by
  have Ha := hid (at_ok h hok hf h1 h2 ls.length (Nat.le_refl _) hls)
  rw [List.take_length] at Ha
  have c1 := cell_of_row _ _ 1 _ _ _ h.obj
  simp only [List.getElem?_toArray, List.getElem?_cons_zero, List.getElem?_cons_succ] at c1
  obtain ⟨la, lc, rfl⟩ : ∃ la lc, L = .slice la ls.length lc := by
    rcases h.log.2 with ⟨hv, h0⟩ | ⟨g', cap', cur', hv, _⟩
    · exact ⟨none, 0, by rw [hv, h0]⟩
    · exact ⟨_, _, hv⟩
  clear h hok hf
  go_enter Try.func68, Try.ntmps68
  go_wp2_with (fail)
  refine Ha.out.mono ?_
  rintro e w1 ⟨b, c, vs', rfl, hI, hB⟩
  go_wp2
  go_ret
  first | exact ⟨_, _, _, rfl, hI, hB⟩ | exact ⟨_, _, rfl, ⟨_, hI⟩, hB⟩ | exact ⟨_, _, rfl, _, hI, hB⟩

end Go.Proofs.Ytcaifnenejjfaaa
