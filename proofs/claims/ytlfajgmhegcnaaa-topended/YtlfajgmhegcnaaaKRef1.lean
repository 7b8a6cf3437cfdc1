/- familyAt and spendError of package token, each by a contract; what Refresh does. -/
import Derived.Test.YtlfajgmhegcnaaaKEnd2
namespace Go.Proofs.Ytlfajgmhegcnaaa
open Go.RowKit Go.Maps Go.Sort Go.Shelf
set_option linter.unusedVariables false
set_option maxRecDepth 20000
set_option maxRecDepth 20000

/-- a family at a time -/
def fAt (T : Sto) (id now : Int) : Fam.Sess × Int := if timeErr now T.noted ≠ 0 then (Fam.sess0, timeErr now T.noted) else fFind T.nf T.fs id
theorem fAt_ok {T : Sto} {id now : Int} (h : (fAt T id now).2 = 0) : timeErr now T.noted = 0 ∧ fAt T id now = fFind T.nf T.fs id := by
  unfold fAt at h ⊢
  by_cases e : timeErr now T.noted ≠ 0
  · rw [if_pos e] at h; exact absurd h e
  · rw [if_neg e]; exact ⟨by simpa using e, rfl⟩

/-- the error of a refresh token -/
def spendErr (T : Sto) (s : Fam.Sess) (num : Int) : Int :=
  if num < 1 ∨ s.nxt < num then 10
  else if num < s.nxt then 13
  else if 1099511627777 ≤ T.nt ∨ 1099511627776 ≤ s.nxt then 7 else 0

end Go.Proofs.Ytlfajgmhegcnaaa
