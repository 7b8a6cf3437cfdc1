/- Keys as bytes: their order, what begins with what, and that no two rows of parts have one key. Plain mathematics: no program. -/
import GoSem.Op.String
namespace Go.Proofs.YtdglmoikgmlaaaaGreatDoor
open Go.Op (bytesLess)
/-- a part's bytes, each 0 followed by a 255 -/
def esc : List UInt8 → List UInt8
  | [] => []
  | c :: r => if c = 0 then 0 :: 255 :: esc r else c :: esc r
/-- a key's bytes -/
def keyOf : List (List UInt8) → List UInt8
  | [] => []
  | p :: r => esc p ++ 0 :: 1 :: keyOf r
/-- one row of texts ahead of another one -/
def ahead : List (List UInt8) → List (List UInt8) → Bool
  | _, [] => false
  | [], _ :: _ => true
  | x :: a, y :: b => if x = y then ahead a b else bytesLess x y

theorem less_nil (x : List UInt8) : bytesLess x [] = false := by cases x <;> rfl
theorem nil_less (c : UInt8) (x : List UInt8) : bytesLess [] (c :: x) = true := rfl
theorem cons_less (c d : UInt8) (x y : List UInt8) : bytesLess (c :: x) (d :: y) = (decide (c < d) || (c == d && bytesLess x y)) := rfl
theorem pos_of_ne {c : UInt8} (h : c ≠ 0) : 0 < c := by
  rw [UInt8.lt_iff_toNat_lt]
  have : c.toNat ≠ 0 := fun e => h (UInt8.toNat_inj.1 (by simpa using e))
  simp; omega
theorem not_lt_zero (c : UInt8) : ¬ c < 0 := by rw [UInt8.lt_iff_toNat_lt]; simp

theorem esc_less (x y r s : List UInt8) : bytesLess (esc x ++ 0 :: 1 :: r) (esc y ++ 0 :: 1 :: s) = if x = y then bytesLess r s else bytesLess x y := by
  induction x generalizing y with
  | nil =>
    cases y with
    | nil => simp [esc, cons_less]
    | cons d y =>
      by_cases hd : d = 0
      · subst hd; simp [esc, cons_less, nil_less]
      · have := pos_of_ne hd
        simp [esc, hd, cons_less, nil_less, this]
  | cons c x ih =>
    cases y with
    | nil =>
      by_cases hc : c = 0
      · subst hc; simp [esc, cons_less, less_nil]
      · have := not_lt_zero c
        simp [esc, hc, cons_less, less_nil, this]
    | cons d y =>
      by_cases hc : c = 0
      · subst hc
        by_cases hd : d = 0
        · subst hd
          have := ih y
          simp [esc, cons_less, this]
        · have := pos_of_ne hd
          have h2 : ¬ (0 : UInt8) = d := fun e => hd e.symm
          simp [esc, hd, cons_less, this, h2]
      · by_cases hd : d = 0
        · subst hd
          have := not_lt_zero c
          have h3 : (c == 0) = false := by simpa using hc
          simp [esc, hc, cons_less, this, h3]
        · have := ih y
          simp only [esc, hc, hd, if_false, List.cons_append, cons_less, this]
          by_cases h : c = d
          · subst h; simp
          · have h3 : (c == d) = false := by simpa using h
            simp [h, h3]

theorem key_less (a b : List (List UInt8)) : bytesLess (keyOf a) (keyOf b) = ahead a b := by
  induction a generalizing b with
  | nil =>
    cases b with
    | nil => rfl
    | cons y b =>
      cases y with
      | nil => rfl
      | cons d y => by_cases hd : d = 0 <;> simp [keyOf, ahead, esc, hd, nil_less]
  | cons x a ih =>
    cases b with
    | nil => simp [keyOf, ahead, less_nil]
    | cons y b => rw [keyOf, keyOf, esc_less, ahead, ih]

theorem esc_pre (x y r s : List UInt8) : (esc x ++ 0 :: 1 :: r) <+: (esc y ++ 0 :: 1 :: s) ↔ x = y ∧ r <+: s := by
  induction x generalizing y with
  | nil =>
    cases y with
    | nil => simp [esc]
    | cons d y =>
      by_cases hd : d = 0
      · subst hd; simp [esc]
      · have h2 : ¬ (0 : UInt8) = d := fun e => hd e.symm
        simp [esc, hd, h2]
  | cons c x ih =>
    cases y with
    | nil =>
      by_cases hc : c = 0
      · subst hc; simp [esc]
      · simp [esc, hc]
    | cons d y =>
      have := ih y
      by_cases hc : c = 0
      · subst hc
        by_cases hd : d = 0
        · subst hd; simp [esc, this]
        · have h2 : ¬ (0 : UInt8) = d := fun e => hd e.symm
          simp [esc, hd, h2]
      · by_cases hd : d = 0
        · subst hd; simp [esc, hc]
        · simp [esc, hc, hd, this, and_assoc]

theorem key_pre (a b : List (List UInt8)) : keyOf a <+: keyOf b ↔ a <+: b := by
  induction a generalizing b with
  | nil => simp [keyOf]
  | cons x a ih =>
    cases b with
    | nil => simp [keyOf]
    | cons y b => rw [keyOf, keyOf, esc_pre, ih, List.cons_prefix_cons]

theorem key_append (a b : List (List UInt8)) : keyOf (a ++ b) = keyOf a ++ keyOf b := by
  induction a with
  | nil => rfl
  | cons x a ih => simp [keyOf, ih]

theorem key_inj (a b : List (List UInt8)) : keyOf a = keyOf b ↔ a = b := by
  constructor
  · intro h
    have h1 : a <+: b := (key_pre a b).1 (h ▸ List.prefix_refl _)
    have h2 : b <+: a := (key_pre b a).1 (h ▸ List.prefix_refl _)
    exact h1.eq_of_length_le h2.length_le
  · intro h; rw [h]

/-- bytes from x = q ++ [c] on, below q ++ [d], d being the next byte: just those that begin with x -/
theorem between (q z : List UInt8) (c d : UInt8) (h : d.toNat = c.toNat + 1) :
    (bytesLess z (q ++ [c]) = false ∧ bytesLess z (q ++ [d]) = true) ↔ (q ++ [c]) <+: z := by
  induction q generalizing z with
  | nil =>
    cases z with
    | nil => simp [bytesLess]
    | cons e z =>
      simp only [List.nil_append, cons_less, less_nil, Bool.and_false, Bool.or_false, decide_eq_false_iff_not, decide_eq_true_eq, List.cons_prefix_cons, List.nil_prefix, and_true]
      rw [UInt8.lt_iff_toNat_lt, UInt8.lt_iff_toNat_lt, ← UInt8.toNat_inj]
      omega
  | cons b q ih =>
    cases z with
    | nil => simp [bytesLess]
    | cons e z =>
      have := ih z
      simp only [List.cons_append, cons_less, List.cons_prefix_cons, ← this]
      by_cases hb : e = b
      · subst hb
        have : ¬ e < e := by rw [UInt8.lt_iff_toNat_lt]; omega
        simp [this]
      · have h2 : ¬ b = e := fun x => hb x.symm
        simp [hb, h2]

theorem less_app (x z : List UInt8) : bytesLess (x ++ z) x = false := by
  induction x with
  | nil => exact less_nil _
  | cons c x ih => 
    have : ¬ c < c := by rw [UInt8.lt_iff_toNat_lt]; omega
    simp [cons_less, ih, this]
theorem esc_append (x y : List UInt8) : esc (x ++ y) = esc x ++ esc y := by
  induction x with
  | nil => rfl
  | cons c x ih => by_cases hc : c = 0 <;> simp [esc, hc, ih]

/-- what stands behind a part's bytes where no key goes on -/
def stuck (t : List UInt8) : Prop := t = [] ∨ t = [0] ∨ ∃ d s, t = 0 :: d :: s ∧ d ≠ 1 ∧ d ≠ 255

theorem esc_stuck (q r part t : List UInt8) (ht : stuck t) : esc q ++ 0 :: 1 :: r ≠ esc part ++ t := by
  induction q generalizing part with
  | nil =>
    cases part with
    | nil =>
      rcases ht with rfl | rfl | ⟨d, s, rfl, h1, _⟩
      · simp [esc]
      · simp [esc]
      · simp only [esc, List.nil_append]
        intro e
        simp only [List.cons.injEq] at e
        exact h1 e.2.1.symm
    | cons c part =>
      by_cases hc : c = 0
      · subst hc; simp [esc]
      · have h2 : ¬ (0 : UInt8) = c := fun e => hc e.symm
        simp [esc, hc, h2]
  | cons b q ih =>
    cases part with
    | nil =>
      by_cases hb : b = 0
      · subst hb
        rcases ht with rfl | rfl | ⟨d, s, rfl, _, h2⟩
        · simp [esc]
        · simp [esc]
        · simp only [esc, List.nil_append]
          intro e
          simp at e
          exact h2 e.1.symm
      · rcases ht with rfl | rfl | ⟨d, s, rfl, _, _⟩ <;> simp [esc, hb]
    | cons c part =>
      have := ih part
      by_cases hb : b = 0
      · subst hb
        by_cases hc : c = 0
        · subst hc; simpa [esc] using this
        · have h2 : ¬ (0 : UInt8) = c := fun e => hc e.symm
          simp [esc, hc, h2]
      · by_cases hc : c = 0
        · subst hc; simp [esc, hb]
        · simp only [esc, hb, hc, if_false, List.cons_append]
          intro e
          simp only [List.cons.injEq] at e
          exact this e.2

theorem esc_cancel (q p r s : List UInt8) : esc q ++ 0 :: 1 :: r = esc p ++ 0 :: 1 :: s ↔ q = p ∧ r = s := by
  induction q generalizing p with
  | nil =>
    cases p with
    | nil => simp [esc]
    | cons c p =>
      by_cases hc : c = 0
      · subst hc; simp [esc]
      · have h2 : ¬ (0 : UInt8) = c := fun e => hc e.symm
        simp [esc, hc, h2]
  | cons b q ih =>
    cases p with
    | nil =>
      by_cases hb : b = 0
      · subst hb; simp [esc]
      · simp [esc, hb]
    | cons c p =>
      have := ih p
      by_cases hb : b = 0
      · subst hb
        by_cases hc : c = 0
        · subst hc; simp [esc, this]
        · have h2 : ¬ (0 : UInt8) = c := fun e => hc e.symm
          simp [esc, hc, h2]
      · by_cases hc : c = 0
        · subst hc; simp [esc, hb]
        · simp [esc, hb, hc, this, and_assoc]

theorem key_cancel (out ps : List (List UInt8)) (t : List UInt8) (h : keyOf ps = keyOf out ++ t) : ∃ qs, ps = out ++ qs ∧ keyOf qs = t := by
  induction out generalizing ps with
  | nil => exact ⟨ps, rfl, h⟩
  | cons x out ih =>
    cases ps with
    | nil => simp [keyOf] at h
    | cons y ps =>
      simp only [keyOf, List.append_assoc, List.cons_append] at h
      rw [esc_cancel] at h
      obtain ⟨rfl, h⟩ := h
      obtain ⟨qs, rfl, hq⟩ := ih ps h
      exact ⟨qs, rfl, hq⟩

theorem key_stuck (out ps : List (List UInt8)) (part t : List UInt8) (h : keyOf ps = keyOf out ++ esc part ++ t) (ht : stuck t) : ps = out ∧ part = [] ∧ t = [] := by
  rw [List.append_assoc] at h
  obtain ⟨qs, rfl, hq⟩ := key_cancel out ps _ h
  cases qs with
  | nil =>
    simp only [keyOf] at hq
    have h2 := List.append_eq_nil_iff.1 hq.symm
    refine ⟨by simp, ?_, h2.2⟩
    cases part with
    | nil => rfl
    | cons c p => have := h2.1; by_cases hc : c = 0 <;> simp [esc, hc] at this
  | cons q qs => exact absurd hq (esc_stuck q _ part t ht)
end Go.Proofs.YtdglmoikgmlaaaaGreatDoor
