/- Rows as bytes: what is read of them. Plain mathematics: no program. -/
import GoSem.Op.String
namespace Go.Proofs.YthfmpebgmojcaaaDoor
/-- a column's bytes: its length, and it -/
def col (c : List UInt8) : List UInt8 := UInt8.ofNat c.length :: c
def body : List (List UInt8) → List UInt8
  | [] => []
  | c :: r => col c ++ body r
/-- a row's bytes -/
def rowOf (cs : List (List UInt8)) : List UInt8 := UInt8.ofNat cs.length :: body cs
def small (cs : List (List UInt8)) : Prop := ∀ c ∈ cs, c.length < 256

theorem body_append (a b : List (List UInt8)) : body (a ++ b) = body a ++ body b := by
  induction a with
  | nil => rfl
  | cons x a ih => simp [body, ih]

theorem ofNat_inj {a b : Nat} (ha : a < 256) (hb : b < 256) (h : UInt8.ofNat a = UInt8.ofNat b) : a = b := by
  have := congrArg UInt8.toNat h
  simp only [UInt8.toNat_ofNat'] at this
  omega

theorem col_cancel (c d x y : List UInt8) (hc : c.length < 256) (hd : d.length < 256) : col c ++ x = col d ++ y ↔ c = d ∧ x = y := by
  constructor
  · intro h
    simp only [col, List.cons_append, List.cons.injEq] at h
    have hl := ofNat_inj hc hd h.1
    exact List.append_inj h.2 hl
  · rintro ⟨rfl, rfl⟩; rfl

theorem body_cancel (out cs : List (List UInt8)) (t : List UInt8) (ho : small out) (hs : small cs) (hl : out.length ≤ cs.length) (h : body cs = body out ++ t) : ∃ ds, cs = out ++ ds ∧ body ds = t := by
  induction out generalizing cs with
  | nil => exact ⟨cs, rfl, h⟩
  | cons x out ih =>
    cases cs with
    | nil => simp at hl
    | cons y cs =>
      simp only [body, List.append_assoc] at h
      rw [col_cancel _ _ _ _ (hs y (by simp)) (ho x (by simp))] at h
      obtain ⟨rfl, h⟩ := h
      obtain ⟨ds, rfl, hd⟩ := ih cs (fun c hc => ho c (by simp [hc])) (fun c hc => hs c (by simp [hc])) (by simpa using hl) h
      exact ⟨ds, rfl, hd⟩

/-- bytes with which no column begins -/
def short (t : List UInt8) : Prop := t = [] ∨ ∃ d r, t = d :: r ∧ r.length < d.toNat

theorem body_short (out cs : List (List UInt8)) (t : List UInt8) (ho : small out) (hs : small cs) (hl : out.length < cs.length) (ht : short t) : body cs ≠ body out ++ t := by
  intro h
  obtain ⟨ds, rfl, hd⟩ := body_cancel out cs t ho hs (by omega) h
  cases ds with
  | nil => simp at hl
  | cons d ds =>
    have hdl : d.length < 256 := hs d (by simp)
    rcases ht with rfl | ⟨e, r, rfl, hr⟩
    · simp [body, col] at hd
    · simp only [body, col, List.cons_append, List.cons.injEq] at hd
      have h1 := congrArg UInt8.toNat hd.1
      simp only [UInt8.toNat_ofNat'] at h1
      have h2 := congrArg List.length hd.2
      simp at h2
      omega

theorem body_done (out cs : List (List UInt8)) (t : List UInt8) (ho : small out) (hs : small cs) (hl : out.length = cs.length) (h : body cs = body out ++ t) : cs = out ∧ t = [] := by
  obtain ⟨ds, rfl, hd⟩ := body_cancel out cs t ho hs (by omega) h
  have : ds = [] := by
    have := congrArg List.length (rfl : out ++ ds = out ++ ds)
    simp at hl
    exact hl
  subst this
  exact ⟨by simp, hd.symm⟩
end Go.Proofs.YthfmpebgmojcaaaDoor
