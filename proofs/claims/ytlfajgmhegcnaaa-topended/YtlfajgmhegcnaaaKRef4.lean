/- Refresh of package token: a refresh token that is taken; Refresh whole. (Printed by gen/kref4.py.) -/
import Derived.Test.YtlfajgmhegcnaaaKRef3
namespace Go.Proofs.Ytlfajgmhegcnaaa
open Go.RowKit Go.Maps Go.Sort Go.Shelf
set_option linter.unusedVariables false
set_option maxRecDepth 20000
set_option maxRecDepth 20000

theorem timeErr_ok {now noted : Int} (h : timeErr now noted = 0) : 0 ≤ now ∧ now ≤ 1099511627776 ∧ noted ≤ now := by
  unfold timeErr at h
  split at h
  · omega
  · split at h <;> omega
theorem putFam_mem {l : List Fam.Sess} {s s0 : Fam.Sess} (h0 : s0 ∈ l) (he : s0.id = s.id) (t : Fam.Sess) : t ∈ putFam l s ↔ t = s ∨ (t ∈ l ∧ t.id ≠ s.id) := by
  unfold putFam
  rw [List.mem_map]
  constructor
  · rintro ⟨u, hu, e⟩
    by_cases h1 : u.id = s.id
    · rw [if_pos h1] at e; exact .inl e.symm
    · rw [if_neg h1] at e; subst e; exact .inr ⟨hu, h1⟩
  · rintro (e | ⟨h1, h2⟩)
    · exact ⟨s0, h0, by rw [if_pos he, e]⟩
    · exact ⟨t, h1, by rw [if_neg h2]⟩

end Go.Proofs.Ytlfajgmhegcnaaa
