/- What is walked outside of a fence goes at the wide fence too, and in a round of a loop over a function: operations and lists of them. -/
import Derived.Test.YtgjahhfpfdgjhaaDoorPEach
namespace Go.Proofs.YtgjahhfpfdgjhaaDoor
open Go.RowKit Go.Shelf
set_option linter.unusedVariables false

/-- the wide fence, in a round or not -/
abbrev WideAt (ro : Option Nat) : Fence := { Fence.wide with round := ro }
theorem callsIn_at {ro : Option Nat} {n : Nat} {P : Program} {f : FuncId} {args : Array Value} {w : World} {R : Ending → World → Prop} (h : Calls P f args w R) : CallsIn (WideAt ro) n P f args w R := (callsIn_wide (n := n)).2 h
theorem rowsIn_at {ro : Option Nat} {n : Nat} {P : Program} {row : String} {args : Array Value} {w : World} {R : Value → World → Prop} (h : Rows P row args w R) : RowsIn (WideAt ro) n P row args w R :=
  fun c cs _ => let ⟨v, w', r, s⟩ := h c cs; ⟨v, w', r, stepsIn_wide.2 s⟩
theorem nodepth {ro : Option Nat} {n : Nat} : (WideAt ro).depth.isSome = true → 1 ≤ n := fun h => by simp [Fence.wide] at h
theorem opIn_of {ro : Option Nat} {n : Nat} {P : Program} {o : Oper} {a : Act} {w : World} {K : Act → World → Prop} {Q : Exit → Act → World → Prop} (hnd : ∀ c, o.op ≠ .defer c) (h : o.wp P a w K (fun e a w => e = .normal)) : o.wpIn (WideAt ro) n P a w K Q := by
  unfold Oper.wp at h
  unfold Oper.wpIn
  refine ⟨fun _ _ => trivial, ?_⟩
  rw [Oper.semAt_eq _ _ o hnd]
  generalize (execOp a.eval o).run P w = r at *
  cases r with
  | ok x w' =>
    cases x <;> simp only [Oper.upon, Oper.uponIn] at h ⊢
    case value => exact h
    case skip => exact h
    case defer => exact h
    case enter =>
      refine ⟨nodepth, (callsIn_at (ro := ro) h).mono fun e w'' he => ?_⟩
      cases e with
      | returned v => exact he
      | panicked c => cases he
      | outgrown => obtain ⟨_, _, he⟩ := he; cases he
    case row r s => exact ⟨nodepth, rowsIn_at h⟩
  | halt x w' => cases x <;> simp only [Oper.upon, Oper.uponIn] at h ⊢ <;> first | exact h.elim | cases h
theorem opNone {P : Program} {o : Oper} {a : Act} {w : World} {K : Act → World → Prop} {R : Act → World → Prop} (h : o.wp P a w K (fun e a w => e = .normal ∧ R a w)) : o.wp P a w K (fun e a w => e = .normal) := by
  unfold Oper.wp at *
  generalize (execOp a.eval o).run P w = r at *
  cases r with
  | ok x w' =>
    cases x <;> simp only [Oper.upon] at h ⊢
    case value => exact h
    case skip => exact h
    case defer => exact h
    case enter =>
      refine Calls.mono h fun e w'' he => ?_
      cases e with
      | returned v => exact he
      | panicked c => exact he.1
      | outgrown => obtain ⟨_, _, he⟩ := he; cases he.1
    case row r s => exact h
  | halt x w' => cases x <;> simp only [Oper.upon] at h ⊢ <;> first | exact h.elim | exact h.1 | cases h.1
/-- what comes behind a piece of code, named -/
theorem wpIn_split {F : Fence} {n : Nat} {P : Program} {c : Code} {Q : Exit → Act → World → Prop} {a : Act} {w : World} (R : Act → World → Prop) (h : c.wpIn F n P (fun e a w => e = .normal ∧ R a w) a w) (h2 : ∀ a w, R a w → Q .normal a w) : c.wpIn F n P Q a w :=
  wpIn_mono h fun e a w ⟨he, hr⟩ => by subst he; exact h2 a w hr
theorem noOut {R : Act → World → Prop} : ¬ LetsOut (fun e a w => e = Exit.normal ∧ R a w) := fun ⟨_, _, h⟩ => by cases h.1
/-- operations, one behind the other -/
theorem stepsIn_of {ro : Option Nat} {n : Nat} {P : Program} {ops : Array Oper} {Q : Exit → Act → World → Prop} {R : Act → World → Prop} : ∀ (l rest : List Oper) (a : Act) (w : World), (∀ o ∈ l, ∀ c, o.op ≠ .defer c) → wpList P ops (fun e a w => e = .normal ∧ R a w) l a w →
    (∀ a w, R a w → wpListIn (WideAt ro) n P ops Q rest a w) → wpListIn (WideAt ro) n P ops Q (l ++ rest) a w
  | [], rest, a, w, _, h, h2 => h2 a w h.2
  | o :: l, rest, a, w, hnd, h, h2 => by
    unfold wpList at h
    show wpListIn _ _ _ _ _ (o :: (l ++ rest)) _ _
    unfold wpListIn
    split at h
    · rename_i hw
      rw [if_pos hw]
      rcases h with h | ⟨_, h⟩
      · exact opIn_of (hnd o (by simp)) (Oper.wp_mono (fun a w h => stepsIn_of l rest a w (fun o ho => hnd o (by simp [ho])) h h2) (opNone h))
      · exact absurd h noOut
    · rename_i hw
      rw [if_neg hw]
      exact ⟨fun _ _ => trivial, stepsIn_of l rest _ w (fun o ho => hnd o (by simp [ho])) h h2⟩
/-- one operation by a law on lists -/
theorem stepIn_of {ro : Option Nat} {n : Nat} {P : Program} {ops : Array Oper} {Q : Exit → Act → World → Prop} {o : Oper} {rest : List Oper} {a : Act} {w : World} (R : Act → World → Prop) (hnd : ∀ c, o.op ≠ .defer c) (h : wpList P ops (fun e a w => e = .normal ∧ R a w) [o] a w) (h2 : ∀ a w, R a w → wpListIn (WideAt ro) n P ops Q rest a w) :
    wpListIn (WideAt ro) n P ops Q (o :: rest) a w := stepsIn_of [o] rest a w (fun o' ho => by simp at ho; subst ho; exact hnd) h h2
end Go.Proofs.YtgjahhfpfdgjhaaDoor
