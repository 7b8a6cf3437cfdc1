/- A chain of events: plain mathematics over hashes and rows. -/
import Derived.Test.YthnciogaibhmcaaDoorARow
namespace Go.Proofs.YthnciogaibhmcaaDoor
open Go.RowKit
set_option linter.unusedVariables false
set_option maxRecDepth 20000
set_option maxRecDepth 20000

/-- an event -/
structure Ev where
  num : Nat
  tim : Nat
  what : ByteArray
  who : ByteArray
/-- a number's text -/
def txt (n : Nat) : ByteArray := ⟨(numT n).toArray⟩
/-- an event's bytes -/
def evL (e : Ev) : List ByteArray := [txt e.num, txt e.tim, e.what, e.who]
def evB (e : Ev) : List UInt8 := rowRes (evL e)
/-- a hash behind an event, and behind events -/
def nextH (h : List UInt8) (e : Ev) : List UInt8 := sha (h ++ evB e)
def endH (h : List UInt8) (l : List Ev) : List UInt8 := l.foldl nextH h
theorem nextH_length (h : List UInt8) (e : Ev) : (nextH h e).length = 32 := sha_length _
theorem endH_length (h : List UInt8) (l : List Ev) (hh : h.length = 32) : (endH h l).length = 32 := by
  induction l generalizing h with
  | nil => exact hh
  | cons e l ih => exact ih _ (nextH_length _ _)
theorem endH_snoc (h : List UInt8) (l : List Ev) (e : Ev) : endH h (l ++ [e]) = nextH (endH h l) e := by simp [endH]
theorem endH_append (h : List UInt8) (l m : List Ev) : endH h (l ++ m) = endH (endH h l) m := by simp [endH]
theorem endH_take (h : List UInt8) (l : List Ev) (k : Nat) (hk : k < l.length) : endH h (l.take (k + 1)) = nextH (endH h (l.take k)) l[k] := by
  rw [List.take_succ_eq_append_getElem hk, endH_snoc]

/-- a chain: its base, its anchor, its events, its head, its last time -/
structure Ch where
  bn : Nat
  bh : List UInt8
  an : Nat
  ah : List UInt8
  ev : List Ev
  hd : List UInt8
  la : Nat
def zero32 : List UInt8 := List.replicate 32 0
def ch0 : Ch := ⟨0, zero32, 0, zero32, [], zero32, 0⟩
/-- what is so of every chain -/
structure ChOk (c : Ch) : Prop where
  lb : c.bh.length = 32
  lan : c.ah.length = 32
  lh : c.hd.length = 32
  num : ∀ i (h : i < c.ev.length), c.ev[i].num = c.bn + i + 1
  few : c.ev.length ≤ 64
  anc : c.an ≤ c.bn + c.ev.length
  tim : ∀ e ∈ c.ev, e.tim ≤ c.la
  las : c.la ≤ 1099511627776
  siz : ∀ e ∈ c.ev, e.what.size ≤ 12 ∧ e.who.size ≤ 30
/-- its hashes are hashes -/
structure Lens (c : Ch) : Prop where
  lb : c.bh.length = 32
  lan : c.ah.length = 32
  lh : c.hd.length = 32
theorem ChOk.l {c : Ch} (h : ChOk c) : Lens c := ⟨h.lb, h.lan, h.lh⟩
theorem ch0_ok : ChOk ch0 := ⟨by decide, by decide, by decide, fun i h => by simp [ch0] at h, by decide, by decide, fun e h => by simp [ch0] at h, by decide, fun e h => by simp [ch0] at h⟩
def Ch.cnt (c : Ch) : Nat := c.bn + c.ev.length
/-- the hash behind the first k events -/
def Ch.at (c : Ch) (k : Nat) : List UInt8 := endH c.bh (c.ev.take k)
theorem Ch.at_length {c : Ch} (h : ChOk c) (k : Nat) : (c.at k).length = 32 := endH_length _ _ h.lb
theorem Ch.at_zero (c : Ch) : c.at 0 = c.bh := by simp [Ch.at, endH]
theorem Ch.at_all (c : Ch) : c.at c.ev.length = endH c.bh c.ev := by simp [Ch.at]

/-- Add's error -/
def addE (c : Ch) (t : Int) (what who : ByteArray) : Int :=
  if t < 0 ∨ 1099511627776 < t then 2 else if 12 < what.size ∨ 30 < who.size then 6 else if t < (c.la : Int) then 9 else if 64 ≤ c.ev.length then 26 else 0
def newE (c : Ch) (t : Int) (what who : ByteArray) : Ev := ⟨c.cnt + 1, t.toNat, what, who⟩
def addC (c : Ch) (t : Int) (what who : ByteArray) : Ch := { c with ev := c.ev ++ [newE c t what who], hd := nextH c.hd (newE c t what who), la := t.toNat }
theorem addE_zero {c : Ch} {t : Int} {what who : ByteArray} (h : addE c t what who = 0) : 0 ≤ t ∧ t ≤ 1099511627776 ∧ what.size ≤ 12 ∧ who.size ≤ 30 ∧ (c.la : Int) ≤ t ∧ c.ev.length < 64 := by
  unfold addE at h
  split at h
  · cases h
  · split at h
    · cases h
    · split at h
      · cases h
      · split at h
        · cases h
        · omega
theorem addC_ok {c : Ch} (ok : ChOk c) {t : Int} {what who : ByteArray} (h : addE c t what who = 0) : ChOk (addC c t what who) := by
  obtain ⟨h1, h2, h3, h4, h5, h6⟩ := addE_zero h
  refine ⟨ok.lb, ok.lan, nextH_length _ _, fun i hi => ?_, by simp [addC]; omega, by simp [addC]; have := ok.anc; omega, fun e he => ?_, by simp [addC]; omega, fun e he => ?_⟩
  · simp only [addC, List.length_append, List.length_cons, List.length_nil] at hi
    simp only [addC]
    by_cases hl : i < c.ev.length
    · rw [List.getElem_append_left hl]; exact ok.num i hl
    · have : i = c.ev.length := by omega
      subst this
      rw [List.getElem_append_right (Nat.le_refl _)]
      simp [newE, Ch.cnt]
  · simp only [addC, List.mem_append, List.mem_singleton] at he ⊢
    rcases he with he | rfl
    · have := ok.tim e he; omega
    · exact Nat.le_refl _
  · simp only [addC, List.mem_append, List.mem_singleton] at he
    rcases he with he | rfl
    · exact ok.siz e he
    · exact ⟨h3, h4⟩
/-- Anchor -/
def ancC (c : Ch) : Ch := { c with an := c.cnt, ah := c.hd }
theorem ancC_ok {c : Ch} (ok : ChOk c) : ChOk (ancC c) := ⟨ok.lb, ok.lh, ok.lh, ok.num, ok.few, Nat.le_refl _, ok.tim, ok.las, ok.siz⟩
/-- Prune: of n the error, and what it leaves -/
def pruE (c : Ch) (n : Int) : Int := if (c.an : Int) < n ∨ n < (c.bn : Int) then 2 else 0
def pruC (c : Ch) (k : Nat) : Ch := { c with bn := c.bn + k, bh := c.at k, ev := c.ev.drop k }
theorem pruE_zero {c : Ch} {n : Int} (h : pruE c n = 0) : ∃ k : Nat, n = ((c.bn + k : Nat) : Int) ∧ c.bn + k ≤ c.an := by
  unfold pruE at h
  split at h
  · cases h
  · exact ⟨n.toNat - c.bn, by omega, by omega⟩
theorem pruC_ok {c : Ch} (ok : ChOk c) {k : Nat} (h : c.bn + k ≤ c.an) : ChOk (pruC c k) := by
  have := ok.anc
  refine ⟨Ch.at_length ok k, ok.lan, ok.lh, fun i hi => ?_, by simp [pruC]; have := ok.few; omega, by simp [pruC]; omega, fun e he => ok.tim e (List.mem_of_mem_drop he), ok.las, fun e he => ok.siz e (List.mem_of_mem_drop he)⟩
  simp only [pruC, List.length_drop] at hi
  simp only [pruC, List.getElem_drop]
  rw [ok.num (k + i) (by omega)]
  omega
/-- Verify's error -/
def verE (c : Ch) : Int := if (c.bn ≤ c.an ∧ c.at (c.an - c.bn) ≠ c.ah) ∨ c.at c.ev.length ≠ c.hd then 15 else 0
/-- a chain whose hashes are right -/
structure Sound (c : Ch) : Prop where
  head : c.at c.ev.length = c.hd
  anch : c.bn ≤ c.an → c.at (c.an - c.bn) = c.ah
theorem sound0 : Sound ch0 := ⟨by decide, by decide⟩
theorem Sound.ver {c : Ch} (h : Sound c) : verE c = 0 := by
  unfold verE
  rw [if_neg]
  rintro (⟨h1, h2⟩ | h2)
  · exact h2 (h.anch h1)
  · exact h2 h.head
theorem Sound.add {c : Ch} (h : Sound c) (ok : ChOk c) (t : Int) (what who : ByteArray) : Sound (addC c t what who) := by
  have h0 := h.head
  rw [Ch.at_all] at h0
  refine ⟨?_, fun hb => ?_⟩
  · rw [Ch.at_all]
    simp only [addC]
    rw [endH_snoc, h0]
  · have h1 := h.anch hb
    have h2 := ok.anc
    simp only [addC, Ch.at] at h1 hb ⊢
    rw [List.take_append_of_le_length (by omega)]
    exact h1
theorem Sound.anc {c : Ch} (h : Sound c) : Sound (ancC c) := by
  refine ⟨h.head, fun _ => ?_⟩
  have := h.head
  simp only [ancC, Ch.at, Ch.cnt] at this ⊢
  rw [show c.bn + c.ev.length - c.bn = c.ev.length by omega]
  exact this
theorem Sound.pru {c : Ch} (h : Sound c) (ok : ChOk c) {k : Nat} (hk : c.bn + k ≤ c.an) : Sound (pruC c k) := by
  have ha := ok.anc
  have e : ∀ j, k ≤ j → j ≤ c.ev.length → endH (c.at k) ((c.ev.drop k).take (j - k)) = c.at j := fun j h1 h2 => by
    unfold Ch.at
    rw [← endH_append]
    congr 1
    rw [show j = k + (j - k) by omega, List.take_add, show k + (j - k) - k = j - k by omega]
  refine ⟨?_, fun hb => ?_⟩
  · have h1 := e c.ev.length (by omega) (Nat.le_refl _)
    simp only [pruC, Ch.at, List.length_drop] at h1 ⊢
    rw [h1]
    exact h.head
  · have h1 := e (c.an - c.bn) (by omega) (by omega)
    have h2 := h.anch (by omega)
    simp only [pruC, Ch.at] at h1 h2 ⊢
    rw [show c.an - (c.bn + k) = c.an - c.bn - k by omega, h1]
    exact h2
end Go.Proofs.YthnciogaibhmcaaDoor
