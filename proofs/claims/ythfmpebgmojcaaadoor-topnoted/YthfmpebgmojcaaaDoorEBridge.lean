/- What is walked outside of a fence goes at the wide fence too, and in a round of a loop over a function: operations, lists of them, and regions that draw their order. -/
import Derived.Test.YthfmpebgmojcaaaDoorHReg
import Derived.RangeFuncNested
import Derived.RangeFuncBound
import Derived.RangeFuncCalls
import Derived.RangeFuncLeaves
import Derived.Shelf.Abstract
import Derived.Shelf.RegionOpen
import Derived.WalkKit
import Derived.OwnWalkIn
import Derived.TacticsInMore
import Derived.LoopNIn
import Derived.LoopIn
namespace Go.Proofs.YthfmpebgmojcaaaDoor
open Go.RowKit Go.Shelf
set_option linter.unusedVariables false

/-- the wide fence, in a round or not -/
abbrev WideAt (ro : Option Nat) : Fence := { Fence.wide with round := ro }
theorem callsIn_at {ro : Option Nat} {n : Nat} {P : Program} {f : FuncId} {args : Array Value} {w : World} {R : Ending → World → Prop} (h : Calls P f args w R) : CallsIn (WideAt ro) n P f args w R := (callsIn_wide (n := n)).2 h
theorem rowsIn_at {ro : Option Nat} {n : Nat} {P : Program} {row : String} {args : Array Value} {w : World} {R : Value → World → Prop} (h : Rows P row args w R) : RowsIn (WideAt ro) n P row args w R :=
  fun c cs _ => let ⟨v, w', r, s⟩ := h c cs; ⟨v, w', r, stepsIn_wide.2 s⟩
theorem nodepth {ro : Option Nat} {n : Nat} : (WideAt ro).depth.isSome = true → 1 ≤ n := fun h => by simp [Fence.wide] at h
theorem opIn_of {ro : Option Nat} {n : Nat} {P : Program} {o : Oper} {a : Act} {w : World} {K : Act → World → Prop} {Q : Exit → Act → World → Prop} (hnd : ∀ c, o.op ≠ .defer c) (h : o.wp P a w K (fun e a w => e = .normal)) : o.wpIn (WideAt ro) n P a w K Q := by
  unfold Oper.wp at h
  unfold Oper.wpIn
  refine ⟨fun _ _ => trivial, ?_⟩
  rw [Oper.semAt_eq _ _ o hnd]
  generalize (execOp a.eval o).run P w = r at *
  cases r with
  | ok x w' =>
    cases x <;> simp only [Oper.upon, Oper.uponIn] at h ⊢
    case value => exact h
    case skip => exact h
    case defer => exact h
    case enter =>
      refine ⟨nodepth, (callsIn_at (ro := ro) h).mono fun e w'' he => ?_⟩
      cases e with
      | returned v => exact he
      | panicked c => cases he
      | outgrown => obtain ⟨_, _, he⟩ := he; cases he
    case row r s => exact ⟨nodepth, rowsIn_at h⟩
  | halt x w' => cases x <;> simp only [Oper.upon, Oper.uponIn] at h ⊢ <;> first | exact h.elim | cases h
theorem opNone {P : Program} {o : Oper} {a : Act} {w : World} {K : Act → World → Prop} {R : Act → World → Prop} (h : o.wp P a w K (fun e a w => e = .normal ∧ R a w)) : o.wp P a w K (fun e a w => e = .normal) := by
  unfold Oper.wp at *
  generalize (execOp a.eval o).run P w = r at *
  cases r with
  | ok x w' =>
    cases x <;> simp only [Oper.upon] at h ⊢
    case value => exact h
    case skip => exact h
    case defer => exact h
    case enter =>
      refine Calls.mono h fun e w'' he => ?_
      cases e with
      | returned v => exact he
      | panicked c => exact he.1
      | outgrown => obtain ⟨_, _, he⟩ := he; cases he.1
    case row r s => exact h
  | halt x w' => cases x <;> simp only [Oper.upon] at h ⊢ <;> first | exact h.elim | exact h.1 | cases h.1
/-- what comes behind a piece of code, named -/
theorem wpIn_split {F : Fence} {n : Nat} {P : Program} {c : Code} {Q : Exit → Act → World → Prop} {a : Act} {w : World} (R : Act → World → Prop) (h : c.wpIn F n P (fun e a w => e = .normal ∧ R a w) a w) (h2 : ∀ a w, R a w → Q .normal a w) : c.wpIn F n P Q a w :=
  wpIn_mono h fun e a w ⟨he, hr⟩ => by subst he; exact h2 a w hr
theorem noOut {R : Act → World → Prop} : ¬ LetsOut (fun e a w => e = Exit.normal ∧ R a w) := fun ⟨_, _, h⟩ => by cases h.1
/-- operations, one behind the other -/
theorem stepsIn_of {ro : Option Nat} {n : Nat} {P : Program} {ops : Array Oper} {Q : Exit → Act → World → Prop} {R : Act → World → Prop} : ∀ (l rest : List Oper) (a : Act) (w : World), (∀ o ∈ l, ∀ c, o.op ≠ .defer c) → wpList P ops (fun e a w => e = .normal ∧ R a w) l a w →
    (∀ a w, R a w → wpListIn (WideAt ro) n P ops Q rest a w) → wpListIn (WideAt ro) n P ops Q (l ++ rest) a w
  | [], rest, a, w, _, h, h2 => h2 a w h.2
  | o :: l, rest, a, w, hnd, h, h2 => by
    unfold wpList at h
    show wpListIn _ _ _ _ _ (o :: (l ++ rest)) _ _
    unfold wpListIn
    split at h
    · rename_i hw
      rw [if_pos hw]
      rcases h with h | ⟨_, h⟩
      · exact opIn_of (hnd o (by simp)) (Oper.wp_mono (fun a w h => stepsIn_of l rest a w (fun o ho => hnd o (by simp [ho])) h h2) (opNone h))
      · exact absurd h noOut
    · rename_i hw
      rw [if_neg hw]
      exact ⟨fun _ _ => trivial, stepsIn_of l rest _ w (fun o ho => hnd o (by simp [ho])) h h2⟩
/-- one operation by a law on lists -/
theorem stepIn_of {ro : Option Nat} {n : Nat} {P : Program} {ops : Array Oper} {Q : Exit → Act → World → Prop} {o : Oper} {rest : List Oper} {a : Act} {w : World} (R : Act → World → Prop) (hnd : ∀ c, o.op ≠ .defer c) (h : wpList P ops (fun e a w => e = .normal ∧ R a w) [o] a w) (h2 : ∀ a w, R a w → wpListIn (WideAt ro) n P ops Q rest a w) :
    wpListIn (WideAt ro) n P ops Q (o :: rest) a w := stepsIn_of [o] rest a w (fun o' ho => by simp at ho; subst ho; exact hnd) h h2
theorem anyIn_of {ro : Option Nat} {n : Nat} {P : Program} {md : Region.Mode} {ops : Array Oper} {R : Act → World → Prop} (hnd : ∀ (i : Nat) o, ops[i]? = some o → ∀ c, o.op ≠ .defer c) : ∀ (fuel : Nat) (listed : Array Bool) (a : Act) (w : World), wpAny P md ops (fun e a w => e = .normal ∧ R a w) fuel listed a w → wpAnyIn (WideAt ro) n P md ops (fun e a w => e = .normal ∧ R a w) fuel listed a w
  | 0, _, _, _, h => h
  | fuel + 1, listed, a, w, h => ⟨h.1, fun i hi => by
    have h1 := h.2 i hi
    unfold wpOp at h1
    unfold wpOpIn
    split at h1
    · rename_i ho
      simp only [ho]
      exact anyIn_of hnd fuel _ _ _ h1
    · rename_i o ho
      simp only [ho]
      split at h1
      · rename_i hw
        simp only [hw, if_true]
        rcases h1 with h1 | ⟨_, h2⟩
        · exact opIn_of (hnd i o ho) (Oper.wp_mono (fun a w h => anyIn_of hnd fuel _ a w h) (opNone h1))
        · exact absurd h2 noOut
      · rename_i hw
        simp only [hw, Bool.false_eq_true, if_false]
        exact ⟨fun _ _ => trivial, anyIn_of hnd fuel _ _ _ h1⟩⟩
/-- no operation is a defer -/
def calm (ops : Array Oper) : Bool := ops.all fun o => match o.op with | .defer _ => false | _ => true
theorem calm_at {ops : Array Oper} (h : calm ops = true) (i : Nat) (o : Oper) (ho : ops[i]? = some o) : ∀ c, o.op ≠ .defer c := fun c e => by
  have h1 := Array.all_eq_true.1 h i (Array.getElem?_eq_some_iff.1 ho).1
  have h2 : ops[i]'(Array.getElem?_eq_some_iff.1 ho).1 = o := (Array.getElem?_eq_some_iff.1 ho).2
  rw [h2, e] at h1
  cases h1
/-- a region that draws its order -/
theorem wpIn_region_heldAt {ro : Option Nat} {n : Nat} {P : Program} {id : Nat} {ops : Array Oper} {S : World → Prop} {R : Act → World → Prop} {a : Act} {w : World} (hm : P.follows .mixedOrders = true) (hc : calm ops = true)
    (h : wpAnyH P .any ops (fun e a w => e = .normal ∧ R a w) S ops.size (Array.replicate ops.size false) a { w with drawn := w.drawn + 1 }) : (Code.region id ops true).wpIn (WideAt ro) n P (fun e a w => e = .normal ∧ R a w) a w :=
  wpIn_region_any hm (anyIn_of (calm_at hc) _ _ _ _ (wpAny_of_held _ _ _ _ h))
/-- a region in its own order, walked as a list -/
theorem wpIn_region_listAt {ro : Option Nat} {n : Nat} {P : Program} {id : Nat} {l : List Oper} {R : Act → World → Prop} {Q : Exit → Act → World → Prop} {a : Act} {w : World} (hc : calm l.toArray = true) (h : wpList P l.toArray (fun e a w => e = .normal ∧ R a w) l a w) (h2 : ∀ a w, R a w → Q .normal a w) : (Code.region id l.toArray false).wpIn (WideAt ro) n P Q a w := by
  refine wpIn_region_lit ?_
  have h3 := stepsIn_of (ro := ro) (n := n) (Q := Q) l [] a w (fun o ho => ?_) h h2
  · rwa [List.append_nil] at h3
  · obtain ⟨i, hi, rfl⟩ := List.mem_iff_getElem.1 ho
    exact calm_at hc i _ (by simp [hi])
end Go.Proofs.YthfmpebgmojcaaaDoor
