/- YthfmpebgmojcaaaDoorEBridge + YthfmpebgmojcaaaDoorAY + YthfmpebgmojcaaaDoorABytes -/
import Derived.Test.YthfmpebgmojcaaaDoorTkH
import Derived.Test.YthfmpebgmojcaaaDoorHSum
import Derived.RangeFuncNested
import Derived.RangeFuncBound
import Derived.RangeFuncCalls
import Derived.RangeFuncLeaves
import Derived.Shelf.Abstract
import Derived.Shelf.RegionOpen
import Derived.WalkKit
import Derived.OwnWalkIn
import Derived.TacticsInMore
import Derived.LoopNIn
import Derived.LoopIn
import Derived.Test.YthfmpebgmojcaaaDoorAFn
import Derived.Test.YthfmpebgmojcaaaDoorHRegAt
/- What is walked outside of a fence goes at the wide fence too, and in a round of a loop over a function: operations, lists of them, and regions that draw their order. -/
namespace Go.Proofs.YthfmpebgmojcaaaDoor
open Go.RowKit Go.Shelf
set_option linter.unusedVariables false
abbrev WideAt (ro : Option Nat) : Fence := { Fence.wide with round := ro }
theorem callsIn_at {ro : Option Nat} {n : Nat} {P : Program} {f : FuncId} {args : Array Value} {w : World} {R : Ending → World → Prop} (h : Calls P f args w R) : CallsIn (WideAt ro) n P f args w R := (callsIn_wide (n := n)).2 h
theorem rowsIn_at {ro : Option Nat} {n : Nat} {P : Program} {row : String} {args : Array Value} {w : World} {R : Value → World → Prop} (h : Rows P row args w R) : RowsIn (WideAt ro) n P row args w R :=
  fun c cs _ => let ⟨v, w', r, s⟩ := h c cs; ⟨v, w', r, stepsIn_wide.2 s⟩
theorem nodepth {ro : Option Nat} {n : Nat} : (WideAt ro).depth.isSome = true → 1 ≤ n := fun h => by simp [Fence.wide] at h
theorem opIn_of {ro : Option Nat} {n : Nat} {P : Program} {o : Oper} {a : Act} {w : World} {K : Act → World → Prop} {Q : Exit → Act → World → Prop} (hnd : ∀ c, o.op ≠ .defer c) (h : o.wp P a w K (fun e a w => e = .normal)) : o.wpIn (WideAt ro) n P a w K Q := by
  unfold Oper.wp at h
  unfold Oper.wpIn
  refine ⟨fun _ _ => trivial, ?_⟩
  rw [Oper.semAt_eq _ _ o hnd]
  generalize (execOp a.eval o).run P w = r at *
  cases r with
  | ok x w' =>
    cases x <;> simp only [Oper.upon, Oper.uponIn] at h ⊢
    case value => exact h
    case skip => exact h
    case defer => exact h
    case enter =>
      refine ⟨nodepth, (callsIn_at (ro := ro) h).mono fun e w'' he => ?_⟩
      cases e with
      | returned v => exact he
      | panicked c => cases he
      | outgrown => obtain ⟨_, _, he⟩ := he; cases he
    case row r s => exact ⟨nodepth, rowsIn_at h⟩
  | halt x w' => cases x <;> simp only [Oper.upon, Oper.uponIn] at h ⊢ <;> first | exact h.elim | cases h
theorem opNone {P : Program} {o : Oper} {a : Act} {w : World} {K : Act → World → Prop} {R : Act → World → Prop} (h : o.wp P a w K (fun e a w => e = .normal ∧ R a w)) : o.wp P a w K (fun e a w => e = .normal) := by
  unfold Oper.wp at *
  generalize (execOp a.eval o).run P w = r at *
  cases r with
  | ok x w' =>
    cases x <;> simp only [Oper.upon] at h ⊢
    case value => exact h
    case skip => exact h
    case defer => exact h
    case enter =>
      refine Calls.mono h fun e w'' he => ?_
      cases e with
      | returned v => exact he
      | panicked c => exact he.1
      | outgrown => obtain ⟨_, _, he⟩ := he; cases he.1
    case row r s => exact h
  | halt x w' => cases x <;> simp only [Oper.upon] at h ⊢ <;> first | exact h.elim | exact h.1 | cases h.1
theorem wpIn_split {F : Fence} {n : Nat} {P : Program} {c : Code} {Q : Exit → Act → World → Prop} {a : Act} {w : World} (R : Act → World → Prop) (h : c.wpIn F n P (fun e a w => e = .normal ∧ R a w) a w) (h2 : ∀ a w, R a w → Q .normal a w) : c.wpIn F n P Q a w :=
  wpIn_mono h fun e a w ⟨he, hr⟩ => by subst he; exact h2 a w hr
theorem noOut {R : Act → World → Prop} : ¬ LetsOut (fun e a w => e = Exit.normal ∧ R a w) := fun ⟨_, _, h⟩ => by cases h.1
theorem anyIn_of {ro : Option Nat} {n : Nat} {P : Program} {md : Region.Mode} {ops : Array Oper} {R : Act → World → Prop} (hnd : ∀ (i : Nat) o, ops[i]? = some o → ∀ c, o.op ≠ .defer c) : ∀ (fuel : Nat) (listed : Array Bool) (a : Act) (w : World), wpAny P md ops (fun e a w => e = .normal ∧ R a w) fuel listed a w → wpAnyIn (WideAt ro) n P md ops (fun e a w => e = .normal ∧ R a w) fuel listed a w
  | 0, _, _, _, h => h
  | fuel + 1, listed, a, w, h => ⟨h.1, fun i hi => by
    have h1 := h.2 i hi
    unfold wpOp at h1
    unfold wpOpIn
    split at h1
    · rename_i ho
      simp only [ho]
      exact anyIn_of hnd fuel _ _ _ h1
    · rename_i o ho
      simp only [ho]
      split at h1
      · rename_i hw
        simp only [hw, if_true]
        rcases h1 with h1 | ⟨_, h2⟩
        · exact opIn_of (hnd i o ho) (Oper.wp_mono (fun a w h => anyIn_of hnd fuel _ a w h) (opNone h1))
        · exact absurd h2 noOut
      · rename_i hw
        simp only [hw, Bool.false_eq_true, if_false]
        exact ⟨fun _ _ => trivial, anyIn_of hnd fuel _ _ _ h1⟩⟩
def calm (ops : Array Oper) : Bool := ops.all fun o => match o.op with | .defer _ => false | _ => true
theorem calm_at {ops : Array Oper} (h : calm ops = true) (i : Nat) (o : Oper) (ho : ops[i]? = some o) : ∀ c, o.op ≠ .defer c := fun c e => by
  have h1 := Array.all_eq_true.1 h i (Array.getElem?_eq_some_iff.1 ho).1
  have h2 : ops[i]'(Array.getElem?_eq_some_iff.1 ho).1 = o := (Array.getElem?_eq_some_iff.1 ho).2
  rw [h2, e] at h1
  cases h1
theorem wpIn_region_heldAt {ro : Option Nat} {n : Nat} {P : Program} {id : Nat} {ops : Array Oper} {S : World → Prop} {R : Act → World → Prop} {a : Act} {w : World} (hm : P.follows .mixedOrders = true) (hc : calm ops = true)
    (h : wpAnyH P .any ops (fun e a w => e = .normal ∧ R a w) S ops.size (Array.replicate ops.size false) a { w with drawn := w.drawn + 1 }) : (Code.region id ops true).wpIn (WideAt ro) n P (fun e a w => e = .normal ∧ R a w) a w :=
  wpIn_region_any hm (anyIn_of (calm_at hc) _ _ _ _ (wpAny_of_held _ _ _ _ h))
end Go.Proofs.YthfmpebgmojcaaaDoor
/- Operations of regions that draw their order, each by what it yields. -/
namespace Go.Proofs.YthfmpebgmojcaaaDoor
open Go.RowKit
set_option linter.unusedVariables false
set_option maxRecDepth 20000
section
variable {ops : Array Oper} {S : World → Prop} {op : Oper} {a : Act}
theorem y_nil (hw : Region.wanted op (yielded ops a.tmps) = true) (x : Operand) (ho : op.op = .nilCheck x) (p : Addr) (hx : a.eval x = .pointer (some p)) : YieldsIf Tryd.prog ops S op (.pointer (some p)) a := by
  refine .inl ⟨hw, fun w _ => ?_⟩
  unfold execOp
  simp only [ho, hx]
  simp [go_sem]
theorem y_assign (hw : Region.wanted op (yielded ops a.tmps) = true) (x : Operand) (ho : op.op = .assign x) (v : Value) (hx : a.eval x = v) : YieldsIf Tryd.prog ops S op v a := by
  refine .inl ⟨hw, fun w _ => ?_⟩
  unfold execOp
  simp only [ho, hx]
  simp [go_sem]
theorem y_ext0 (hw : Region.wanted op (yielded ops a.tmps) = true) (x : Operand) (ho : op.op = .extract x 0) (u v : Value) (hx : a.eval x = .tuple #[u, v]) : YieldsIf Tryd.prog ops S op u a := by
  refine .inl ⟨hw, fun w _ => ?_⟩
  unfold execOp
  simp only [ho, hx]
  simp [go_sem]
theorem y_ext1 (hw : Region.wanted op (yielded ops a.tmps) = true) (x : Operand) (ho : op.op = .extract x 1) (u v : Value) (hx : a.eval x = .tuple #[u, v]) : YieldsIf Tryd.prog ops S op v a := by
  refine .inl ⟨hw, fun w _ => ?_⟩
  unfold execOp
  simp only [ho, hx]
  simp [go_sem]
-- fields of a chain at the beginning of its block
theorem y_chain0 (hw : Region.wanted op (yielded ops a.tmps) = true) (x : Operand) (ho : op.op = .fieldAddr 87 x 0) (g : Nat) (hx : a.eval x = .pointer (some ⟨g, 0, none⟩)) : YieldsIf Tryd.prog ops S op (.pointer (some ⟨g, 0, none⟩)) a := by
  refine .inl ⟨hw, fun w _ => ?_⟩
  unfold execOp
  simp only [ho, hx]
  simp [go_sem]
theorem y_chain1 (hw : Region.wanted op (yielded ops a.tmps) = true) (x : Operand) (ho : op.op = .fieldAddr 87 x 1) (g : Nat) (hx : a.eval x = .pointer (some ⟨g, 0, none⟩)) : YieldsIf Tryd.prog ops S op (.pointer (some ⟨g, 33, none⟩)) a := by
  refine .inl ⟨hw, fun w _ => ?_⟩
  unfold execOp
  simp only [ho, hx]
  simp [go_sem]
theorem y_chain2 (hw : Region.wanted op (yielded ops a.tmps) = true) (x : Operand) (ho : op.op = .fieldAddr 87 x 2) (g : Nat) (hx : a.eval x = .pointer (some ⟨g, 0, none⟩)) : YieldsIf Tryd.prog ops S op (.pointer (some ⟨g, 66, none⟩)) a := by
  refine .inl ⟨hw, fun w _ => ?_⟩
  unfold execOp
  simp only [ho, hx]
  simp [go_sem]
theorem y_chain3 (hw : Region.wanted op (yielded ops a.tmps) = true) (x : Operand) (ho : op.op = .fieldAddr 87 x 3) (g : Nat) (hx : a.eval x = .pointer (some ⟨g, 0, none⟩)) : YieldsIf Tryd.prog ops S op (.pointer (some ⟨g, 67, none⟩)) a := by
  refine .inl ⟨hw, fun w _ => ?_⟩
  unfold execOp
  simp only [ho, hx]
  simp [go_sem]
theorem y_link0 (hw : Region.wanted op (yielded ops a.tmps) = true) (x : Operand) (ho : op.op = .fieldAddr 85 x 0) (g o : Nat) (hx : a.eval x = .pointer (some ⟨g, o, none⟩)) : YieldsIf Tryd.prog ops S op (.pointer (some ⟨g, o, none⟩)) a := by
  refine .inl ⟨hw, fun w _ => ?_⟩
  unfold execOp
  simp only [ho, hx]
  simp [go_sem]
theorem y_link1 (hw : Region.wanted op (yielded ops a.tmps) = true) (x : Operand) (ho : op.op = .fieldAddr 85 x 1) (g o : Nat) (hx : a.eval x = .pointer (some ⟨g, o, none⟩)) : YieldsIf Tryd.prog ops S op (.pointer (some ⟨g, o + 1, none⟩)) a := by
  refine .inl ⟨hw, fun w _ => ?_⟩
  unfold execOp
  simp only [ho, hx]
  simp [go_sem]
theorem y_ev (k : Nat) (hk : k < 4) (hw : Region.wanted op (yielded ops a.tmps) = true) (x : Operand) (ho : op.op = .fieldAddr 55 x k) (g : Nat) (hx : a.eval x = .pointer (some ⟨g, 0, none⟩)) : YieldsIf Tryd.prog ops S op (.pointer (some ⟨g, k, none⟩)) a := by
  refine .inl ⟨hw, fun w _ => ?_⟩
  unfold execOp
  simp only [ho, hx]
  match k, hk with
  | 0, _ => simp [go_sem]
  | 1, _ => simp [go_sem]
  | 2, _ => simp [go_sem]
  | 3, _ => simp [go_sem]
-- loads of one cell
theorem y_loadI (hw : Region.wanted op (yielded ops a.tmps) = true) (x : Operand) (ho : op.op = .load 3 x) (g k : Nat) (n : Int) (hx : a.eval x = .pointer (some ⟨g, k, none⟩)) (hS : ∀ w, S w → w.cell? ⟨g, k, none⟩ = some (.int .i64 n)) : YieldsIf Tryd.prog ops S op (.int .i64 n) a := by
  refine .inl ⟨hw, fun w hw' => ?_⟩
  have h1 := hS w hw'
  unfold execOp
  simp only [ho, hx]
  simp [go_sem, h1]
theorem y_loadS (hw : Region.wanted op (yielded ops a.tmps) = true) (x : Operand) (ho : op.op = .load 9 x) (g k : Nat) (n : ByteArray) (hx : a.eval x = .pointer (some ⟨g, k, none⟩)) (hS : ∀ w, S w → w.cell? ⟨g, k, none⟩ = some (.string n)) : YieldsIf Tryd.prog ops S op (.string n) a := by
  refine .inl ⟨hw, fun w hw' => ?_⟩
  have h1 := hS w hw'
  unfold execOp
  simp only [ho, hx]
  simp [go_sem, h1]
theorem y_loadV (hw : Region.wanted op (yielded ops a.tmps) = true) (x : Operand) (ho : op.op = .load 63 x) (g k : Nat) (ad : Option Addr) (n c : Nat) (hx : a.eval x = .pointer (some ⟨g, k, none⟩)) (hS : ∀ w, S w → w.cell? ⟨g, k, none⟩ = some (.slice ad n c)) : YieldsIf Tryd.prog ops S op (.slice ad n c) a := by
  refine .inl ⟨hw, fun w hw' => ?_⟩
  have h1 := hS w hw'
  unfold execOp
  simp only [ho, hx]
  simp [go_sem, h1]
theorem y_loadP (hw : Region.wanted op (yielded ops a.tmps) = true) (x : Operand) (ho : op.op = .load 24 x) (g k : Nat) (p : Option Addr) (hx : a.eval x = .pointer (some ⟨g, k, none⟩)) (hS : ∀ w, S w → w.cell? ⟨g, k, none⟩ = some (.pointer p)) : YieldsIf Tryd.prog ops S op (.pointer p) a := by
  refine .inl ⟨hw, fun w hw' => ?_⟩
  have h1 := hS w hw'
  unfold execOp
  simp only [ho, hx]
  simp [go_sem, h1]
-- loads of rows
theorem y_loadH (hw : Region.wanted op (yielded ops a.tmps) = true) (x : Operand) (ho : op.op = .load 69 x) (g o : Nat) (l : List UInt8) (hl : l.length = 32) (hx : a.eval x = .pointer (some ⟨g, o, none⟩)) (hS : ∀ w, S w → w.rangeAt g o (cellsOf l)) : YieldsIf Tryd.prog ops S op (.agg (bvs l)) a :=
  yieldsIf_load_mid hw 69 x ho g o hx (cellsOf l) _ hS Tryd.underlying69 rfl (by rw [cellsOf_length, hl]; exact size_hash)
theorem size_link : (Tryd.prog.info? 85).map (·.size) = some 33 := by kernel_rfl
theorem size_ev : (Tryd.prog.info? 55).map (·.size) = some 4 := by kernel_rfl
theorem y_loadE (hw : Region.wanted op (yielded ops a.tmps) = true) (x : Operand) (ho : op.op = .load 55 x) (g o : Nat) (e : Ev) (hx : a.eval x = .pointer (some ⟨g, o, none⟩)) (hS : ∀ w, S w → w.rangeAt g o (eVals e)) : YieldsIf Tryd.prog ops S op (.agg (eVals e).toArray) a :=
  yieldsIf_load_mid hw 55 x ho g o hx (eVals e) _ hS Tryd.underlying55 rfl size_ev
theorem y_neqH (hw : Region.wanted op (yielded ops a.tmps) = true) (x y : Operand) (ho : op.op = .binOp .neq 69 x y 69) (l m : List UInt8) (hl : l.length = 32) (hm : m.length = 32) (hx : a.eval x = .agg (bvs l)) (hy : a.eval y = .agg (bvs m)) : YieldsIf Tryd.prog ops S op (.bool (!(l == m))) a := by
  refine .inl ⟨hw, fun w _ => ?_⟩
  have h := hash_eq (A := bvs l) (B := bvs m) ⟨rfl, hl⟩ ⟨rfl, hm⟩ w
  unfold execOp
  simp only [ho, hx, hy]
  simp [go_sem, h]
theorem y_eqlI (hw : Region.wanted op (yielded ops a.tmps) = true) (x y : Operand) (ho : op.op = .binOp .eql 3 x y 3) (p q : Int) (hx : a.eval x = .int .i64 p) (hy : a.eval y = .int .i64 q) : YieldsIf Tryd.prog ops S op (.bool (p == q)) a := by
  refine .inl ⟨hw, fun w _ => ?_⟩
  unfold execOp
  simp only [ho, hx, hy]
  simp [go_sem]
theorem y_pick (hw : Region.wanted op (yielded ops a.tmps) = true) (x y z : Operand) (ho : op.op = .pick x y z) (b : Bool) (u v : Value) (hx : a.eval x = .bool b) (hy : a.eval y = u) (hz : a.eval z = v) : YieldsIf Tryd.prog ops S op (if b then u else v) a := by
  refine .inl ⟨hw, fun w _ => ?_⟩
  unfold execOp
  simp only [ho, hx, hy, hz]
  cases b <;> simp [go_sem]
end
end Go.Proofs.YthfmpebgmojcaaaDoor
/- An event's bytes: audit.bytesOf by a contract. -/
namespace Go.Proofs.YthfmpebgmojcaaaDoor
open Go.RowKit
set_option linter.unusedVariables false
set_option maxRecDepth 20000
theorem TabAt.below {w w' : World} (h : TabAt w) (hb : Below w.heap.size w w') : TabAt w' := by
  unfold TabAt at h ⊢
  exact (hb.cell (World.block_lt_of_cell? _ _ h)).trans h
theorem texts_new {w : World} (p q r s : ByteArray) : Texts (w.alloc (.cells #[.string p, .string q, .string r, .string s] 9)) (some ⟨w.heap.size, 0, none⟩) [p, q, r, s] := fun i hi => by
  refine ⟨w.heap.size, 0, rfl, ?_⟩
  rw [Nat.zero_add, World.cell?_alloc_at _ _ _ _ rfl]
  simp only [List.length_cons, List.length_nil] at hi
  match i, hi with
  | 0, _ => rfl
  | 1, _ => rfl
  | 2, _ => rfl
  | 3, _ => rfl
theorem evB_bound (e : Ev) : (evB e).length ≤ 72 := by
  unfold evB rowRes
  split
  · rename_i h
    unfold rowErr at h
    split at h
    · cases h
    · split at h
      · cases h
      · split at h
        · cases h
        · omega
  · simp
def BPost (w : World) (l : List UInt8) (x : Ending) (w' : World) : Prop := ∃ a cap, x = .returned (.slice a l.length cap) ∧ Bytes w' a l ∧ Below w.heap.size w w' ∧ l.length ≤ cap
theorem wp_build4 {o : Oper} {a : Act} {w : World} {K : Act → World → Prop} {Q : Exit → Act → World → Prop} (x y z u : Operand) (ho : o.op = .buildSlice 73 4 #[(0, x), (1, y), (2, z), (3, u)]) (p q r s : ByteArray) (h0 : a.eval x = .string p) (h1 : a.eval y = .string q) (h2 : a.eval z = .string r) (h3 : a.eval u = .string s)
    (h : K (a.put o.dst (.slice (some ⟨w.heap.size, 0, none⟩) 4 4)) (w.alloc (.cells #[.string p, .string q, .string r, .string s] 9))) : o.wp Tryd.prog a w K Q := by
  unfold Oper.wp execOp
  simp only [ho, List.map_toArray, List.map_cons, List.map_nil, h0, h1, h2, h3]
  simp [go_sem]
  exact h
theorem hf_text : ∀ (args : Array Value) (w : World), (callFunc 42 args).run Tryd.prog w = .ok (.enter 42 args) w := fun args w => by simp [go_sem]
theorem hf_row : ∀ (args : Array Value) (w : World), (callFunc 88 args).run Tryd.prog w = .ok (.enter 88 args) w := fun args w => by simp [go_sem]
set_option maxHeartbeats 2000000 in
theorem bytesOf_any (w : World) (e : Ev) (hn : e.num ≤ 4611686018427387904) (ht : e.tim ≤ 4611686018427387904) (h1 : e.what.size ≤ 12) (h2 : e.who.size ≤ 30) (hT : TabAt w) :
    Calls Tryd.prog 61 #[.agg (eVals e).toArray] w (BPost w (evB e)) := by
  have HR := hid (fun (p q : ByteArray) (hp : p.size ≤ 100) (hq : q.size ≤ 100) (W : World) (ad : Option Addr) (h : Texts W ad [p, q, e.what, e.who]) => row_any [p, q, e.what, e.who] ad 4 W h (fun s hs => by simp at hs; rcases hs with rfl | rfl | rfl | rfl <;> omega) (by simp))
  have N1 : ∀ n, n ≤ 4611686018427387904 → (txt n).size ≤ 100 := fun n h => by
    show (numT n).toArray.size ≤ 100
    unfold numT
    split
    · decide
    · rw [List.size_toArray, List.length_cons, lo_length]
      have := (Nat.log2_lt (by omega)).2 (show n < 2 ^ 63 by omega)
      omega
  obtain ⟨pt, hpt⟩ : ∃ pt, pt = txt e.num := ⟨_, rfl⟩
  obtain ⟨qt, hqt⟩ : ∃ qt, qt = txt e.tim := ⟨_, rfl⟩
  have hl : Hid (rowRes [pt, qt, e.what, e.who] = evB e) := by
    show _ = _
    rw [hpt, hqt]; rfl
  have C1 := hid (fun W (hW : TabAt W) => text_any e.num hn W hW)
  have C2 := hid (fun W (hW : TabAt W) => text_any e.tim ht W hW)
  have s1 := N1 e.num hn
  have s2 := N1 e.tim ht
  rw [← hpt] at C1 s1
  rw [← hqt] at C2 s2
  have HR := hid (HR.out pt qt s1 s2)
  rw [hl.out] at HR
  clear hl N1 hpt hqt
  generalize evB e = l at *
  generalize ((rowErr [pt, qt, e.what, e.who] : Nat) : Int) = er at *
  unfold eVals
  generalize e.num = p at *
  generalize e.tim = q at *
  generalize e.what = r at *
  generalize e.who = s at *
  clear hn ht s1 s2 h1 h2
  obtain ⟨W, hW⟩ : ∃ W, W = w.alloc (.cells #[.int .i64 (p : Int), .int .i64 (q : Int), .string r, .string s] 55) := ⟨_, rfl⟩
  have hb1 : Below w.heap.size w W := by rw [hW]; exact (Below.refl _ w).alloc (Nat.le_refl _) _
  have t0 : W.heap[w.heap.size]? = some (.cells #[.int .i64 (p : Int), .int .i64 (q : Int), .string r, .string s] 55 (0, 0)) := by rw [hW]; exact heap_alloc_new w _
  have d0 := (Array.getElem?_eq_some_iff.1 t0).1
  have q0 : W.cell? ⟨w.heap.size, 0, none⟩ = some (.int .i64 (p : Int)) := cell_of_row _ _ 0 _ _ _ t0
  have q1 : W.cell? ⟨w.heap.size, 1, none⟩ = some (.int .i64 (q : Int)) := cell_of_row _ _ 1 _ _ _ t0
  have q2 : W.cell? ⟨w.heap.size, 2, none⟩ = some (.string r) := cell_of_row _ _ 2 _ _ _ t0
  have q3 : W.cell? ⟨w.heap.size, 3, none⟩ = some (.string s) := cell_of_row _ _ 3 _ _ _ t0
  have HT : Hid (TabAt W) := hT.below hb1
  have HW := hid hW
  have HB := hid hb1
  clear hT hb1 hW t0
  go_enter Tryd.func61, Tryd.ntmps61
  go_wp2
  rw [← HW.out]
  have hm : Tryd.prog.follows .mixedOrders = true := by kernel_rfl
  refine wp_act _ fun A hA => ?_
  have sz : A.tmps.size = 21 := by rw [hA]; rfl
  have e1 : A.eval (.tmp 1) = .pointer (some ⟨w.heap.size, 0, none⟩) := by rw [hA]; rfl
  have hs0 : Below W.heap.size W W.drew := (Below.refl _ W).drew
  refine wp_split (fun a V => ∃ (w2 : World) (aC : Option Addr) (cC : Nat), a = ⟨#[.agg #[.int .i64 (p : Int), .int .i64 (q : Int), .string r, .string s], .pointer (some ⟨w.heap.size, 0, none⟩), .slice none 0 0, .slice aC l.length cC, .int .i64 er, .tuple #[.slice aC l.length cC, .int .i64 er], .pointer (some ⟨w.heap.size, 0, none⟩), .int .i64 (p : Int), .string pt, .pointer (some ⟨w.heap.size, 1, none⟩), .int .i64 (q : Int), .string qt, .pointer (some ⟨w.heap.size, 2, none⟩), .string r, .pointer (some ⟨w.heap.size, 3, none⟩), .string s, .slice (some ⟨w2.heap.size, 0, none⟩) 4 4, .tuple #[.slice aC l.length cC, .int .i64 er], .slice aC l.length cC, .int .i64 er, undef], []⟩ ∧ Bytes V aC l ∧ Below w.heap.size w V ∧ l.length ≤ cC) ?_ ?_
  · refine wp_region_held (S := fun V => Below W.heap.size W V) hm ?_
    show wpAnyH _ _ _ _ _ _ _ A W.drew
    refine tkH (i := 0) (d := 6) (v := .pointer (some ⟨w.heap.size, 0, none⟩)) rfl rfl (y_ev 0 (by decide) (by simp [Region.wanted]) (.tmp 1) rfl w.heap.size e1) hs0 ?_
    refine tkH (i := 1) (d := 7) (v := .int .i64 (p : Int)) rfl rfl (y_loadI (by simp [Region.wanted]) (.tmp 6) rfl w.heap.size 0 _ (ev_eq _ _ (by simp [sz])) (fun V hV => (hV.cell (p := ⟨w.heap.size, 0, none⟩) d0).trans q0)) hs0 ?_
    refine tkH (i := 3) (d := 9) (v := .pointer (some ⟨w.heap.size, 1, none⟩)) rfl rfl (y_ev 1 (by decide) (by simp [Region.wanted]) (.tmp 1) rfl w.heap.size (evn (evn e1))) hs0 ?_
    refine tkH (i := 4) (d := 10) (v := .int .i64 (q : Int)) rfl rfl (y_loadI (by simp [Region.wanted]) (.tmp 9) rfl w.heap.size 1 _ (ev_eq _ _ (by simp [put_sz, sz])) (fun V hV => (hV.cell (p := ⟨w.heap.size, 1, none⟩) d0).trans q1)) hs0 ?_
    refine tkH (i := 6) (d := 12) (v := .pointer (some ⟨w.heap.size, 2, none⟩)) rfl rfl (y_ev 2 (by decide) (by simp [Region.wanted]) (.tmp 1) rfl w.heap.size (evn (evn (evn (evn e1))))) hs0 ?_
    refine tkH (i := 7) (d := 13) (v := .string r) rfl rfl (y_loadS (by simp [Region.wanted]) (.tmp 12) rfl w.heap.size 2 _ (ev_eq _ _ (by simp [put_sz, sz])) (fun V hV => (hV.cell (p := ⟨w.heap.size, 2, none⟩) d0).trans q2)) hs0 ?_
    refine tkH (i := 8) (d := 14) (v := .pointer (some ⟨w.heap.size, 3, none⟩)) rfl rfl (y_ev 3 (by decide) (by simp [Region.wanted]) (.tmp 1) rfl w.heap.size (evn (evn (evn (evn (evn (evn e1))))))) hs0 ?_
    refine tkH (i := 9) (d := 15) (v := .string s) rfl rfl (y_loadS (by simp [Region.wanted]) (.tmp 14) rfl w.heap.size 3 _ (ev_eq _ _ (by simp [put_sz, sz])) (fun V hV => (hV.cell (p := ⟨w.heap.size, 3, none⟩) d0).trans q3)) hs0 ?_
    refine wpAnyH_all (rs := [2]) (by kernel_rfl) (by simp) fun i1 hm1 => ?_
    obtain rfl : i1 = 2 := by simpa using hm1
    refine wpOp_own rfl rfl fun K1 hK1 => ?_
    refine wp_calls1 42 hf_text (.tmp 7) _ rfl (.int .i64 (p : Int)) (evn (evn (evn (evn (evn (evn (ev_eq _ _ (by simp [put_sz, sz])))))))) ?_
    refine (C1.out _ (HT.out.below hs0)).mono ?_
    rintro _ w1 ⟨rfl, hb1⟩
    have hs1 := hs0.trans (hb1.mono hs0.size)
    refine ⟨_, rfl, hK1 _ _ ⟨(hs1), ?_⟩⟩
    clear hK1 K1 hm1
    show wpAnyH _ _ _ _ _ _ _ (((((((((A.put (some 6) (.pointer (some ⟨w.heap.size, 0, none⟩))).put (some 7) (.int .i64 (p : Int))).put (some 9) (.pointer (some ⟨w.heap.size, 1, none⟩))).put (some 10) (.int .i64 (q : Int))).put (some 12) (.pointer (some ⟨w.heap.size, 2, none⟩))).put (some 13) (.string r)).put (some 14) (.pointer (some ⟨w.heap.size, 3, none⟩))).put (some 15) (.string s)).put (some 8) (.string pt)) _
    refine wpAnyH_all (rs := [5]) (by kernel_rfl) (by simp) fun i2 hm2 => ?_
    obtain rfl : i2 = 5 := by simpa using hm2
    refine wpOp_own rfl rfl fun K2 hK2 => ?_
    refine wp_calls1 42 hf_text (.tmp 10) _ rfl (.int .i64 (q : Int)) (evn (evn (evn (evn (evn (ev_eq _ _ (by simp [put_sz, sz]))))))) ?_
    refine (C2.out _ (HT.out.below hs1)).mono ?_
    rintro _ w2 ⟨rfl, hb2⟩
    have hs2 := hs1.trans (hb2.mono hs1.size)
    refine ⟨_, rfl, hK2 _ _ ⟨(hs2), ?_⟩⟩
    clear hK2 K2 hm2
    show wpAnyH _ _ _ _ _ _ _ ((((((((((A.put (some 6) (.pointer (some ⟨w.heap.size, 0, none⟩))).put (some 7) (.int .i64 (p : Int))).put (some 9) (.pointer (some ⟨w.heap.size, 1, none⟩))).put (some 10) (.int .i64 (q : Int))).put (some 12) (.pointer (some ⟨w.heap.size, 2, none⟩))).put (some 13) (.string r)).put (some 14) (.pointer (some ⟨w.heap.size, 3, none⟩))).put (some 15) (.string s)).put (some 8) (.string pt)).put (some 11) (.string qt)) _
    refine wpAnyH_all (rs := [10]) (by kernel_rfl) (by simp) fun i3 hm3 => ?_
    obtain rfl : i3 = 10 := by simpa using hm3
    refine wpOp_own rfl rfl fun K3 hK3 => ?_
    refine wp_build4 (.tmp 8) (.tmp 11) (.tmp 13) (.tmp 15) rfl pt qt r s (evn (ev_eq _ _ (by simp [put_sz, sz]))) (ev_eq _ _ (by simp [put_sz, sz])) (evn (evn (evn (evn (ev_eq _ _ (by simp [put_sz, sz])))))) (evn (evn (ev_eq _ _ (by simp [put_sz, sz])))) ?_
    have hs3 := hs2.alloc hs2.size (.cells #[.string pt, .string qt, .string r, .string s] 9)
    refine hK3 _ _ ⟨(hs3), ?_⟩
    clear hK3 K3 hm3
    show wpAnyH _ _ _ _ _ _ _ (((((((((((A.put (some 6) (.pointer (some ⟨w.heap.size, 0, none⟩))).put (some 7) (.int .i64 (p : Int))).put (some 9) (.pointer (some ⟨w.heap.size, 1, none⟩))).put (some 10) (.int .i64 (q : Int))).put (some 12) (.pointer (some ⟨w.heap.size, 2, none⟩))).put (some 13) (.string r)).put (some 14) (.pointer (some ⟨w.heap.size, 3, none⟩))).put (some 15) (.string s)).put (some 8) (.string pt)).put (some 11) (.string qt)).put (some 16) (.slice (some ⟨w2.heap.size, 0, none⟩) 4 4)) _
    refine wpAnyH_all (rs := [11]) (by kernel_rfl) (by simp) fun i4 hm4 => ?_
    obtain rfl : i4 = 11 := by simpa using hm4
    refine wpOp_own rfl rfl fun K4 hK4 => ?_
    refine wp_calls1 88 hf_row (.tmp 16) _ rfl (.slice (some ⟨w2.heap.size, 0, none⟩) 4 4) (ev_eq _ _ (by simp [put_sz, sz])) ?_
    refine (HR.out _ _ (texts_new _ _ _ _)).mono ?_
    rintro _ w4 ⟨aC, cC, rfl, hbyC, hbC, hcC⟩
    have hs4 := hs3.trans (hbC.mono hs3.size)
    refine ⟨_, rfl, hK4 _ _ ⟨(hs4), ?_⟩⟩
    clear hK4 K4 hm4
    show wpAnyH _ _ _ _ _ _ _ ((((((((((((A.put (some 6) (.pointer (some ⟨w.heap.size, 0, none⟩))).put (some 7) (.int .i64 (p : Int))).put (some 9) (.pointer (some ⟨w.heap.size, 1, none⟩))).put (some 10) (.int .i64 (q : Int))).put (some 12) (.pointer (some ⟨w.heap.size, 2, none⟩))).put (some 13) (.string r)).put (some 14) (.pointer (some ⟨w.heap.size, 3, none⟩))).put (some 15) (.string s)).put (some 8) (.string pt)).put (some 11) (.string qt)).put (some 16) (.slice (some ⟨w2.heap.size, 0, none⟩) 4 4)).put (some 17) (.tuple #[.slice aC l.length cC, .int .i64 er])) _
    refine tkH (i := 12) (d := 5) (v := .tuple #[.slice aC l.length cC, .int .i64 er]) rfl rfl (yields_move (by simp [Region.wanted]) (.tmp 17) rfl _ (ev_eq _ _ (by simp [put_sz, sz]))) (hs4) ?_
    refine tkH (i := 13) (d := 18) (v := .slice aC l.length cC) rfl rfl (y_ext0 (by simp [Region.wanted]) (.tmp 5) rfl _ _ (ev_eq _ _ (by simp [put_sz, sz]))) (hs4) ?_
    refine tkH (i := 14) (d := 19) (v := .int .i64 er) rfl rfl (y_ext1 (by simp [Region.wanted]) (.tmp 5) rfl _ _ (evn (ev_eq _ _ (by simp [put_sz, sz])))) (hs4) ?_
    refine tkH (i := 15) (d := 3) (v := .slice aC l.length cC) rfl rfl (y_assign (by simp [Region.wanted]) (.tmp 18) rfl _ (evn (ev_eq _ _ (by simp [put_sz, sz])))) (hs4) ?_
    refine tkH (i := 16) (d := 4) (v := .int .i64 er) rfl rfl (y_assign (by simp [Region.wanted]) (.tmp 19) rfl _ (evn (ev_eq _ _ (by simp [put_sz, sz])))) (hs4) ?_
    refine wpAnyH_done (by kernel_rfl) ⟨rfl, w2, aC, cC, ?_, hbyC, HB.out.trans (hs4.mono HB.out.size), hcC⟩ _
    rw [hA]
    simp [Act.put]
  · rintro _ V ⟨w2, aC, cC, rfl, hby, hb, hcc⟩
    have HBy := hid hby
    have HBb := hid hb
    clear hby hb e1 sz hA
    go_wp2
    go_ret
    exact ⟨aC, cC, rfl, HBy.out, HBb.out, hcc⟩
end Go.Proofs.YthfmpebgmojcaaaDoor
