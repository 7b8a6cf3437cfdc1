/- YtomhcccjeadefaaGreatDoorEBridge + YtomhcccjeadefaaGreatDoorEStream + YtomhcccjeadefaaGreatDoorECell -/
import Derived.Test.YtomhcccjeadefaaGreatDoorHReg
import Derived.RangeFuncNested
import Derived.RangeFuncBound
import Derived.RangeFuncCalls
import Derived.RangeFuncLeaves
import Derived.Shelf.Abstract
import Derived.Shelf.RegionOpen
import Derived.WalkKit
import Derived.OwnWalkIn
import Derived.TacticsInMore
import Derived.LoopNIn
import Derived.LoopIn
import Derived.Test.YtomhcccjeadefaaGreatDoorHTag
import Derived.Test.YtomhcccjeadefaaGreatDoorENum
import Derived.Maps.AppendAt
import Derived.Laws.Rows
/- What is walked outside of a fence goes at the wide fence too, and in a round of a loop over a function: operations, lists of them, and regions that draw their order. -/
namespace Go.Proofs.YtomhcccjeadefaaGreatDoor
open Go.RowKit Go.Shelf
set_option linter.unusedVariables false
abbrev WideAt (ro : Option Nat) : Fence := { Fence.wide with round := ro }
theorem callsIn_at {ro : Option Nat} {n : Nat} {P : Program} {f : FuncId} {args : Array Value} {w : World} {R : Ending → World → Prop} (h : Calls P f args w R) : CallsIn (WideAt ro) n P f args w R := (callsIn_wide (n := n)).2 h
theorem rowsIn_at {ro : Option Nat} {n : Nat} {P : Program} {row : String} {args : Array Value} {w : World} {R : Value → World → Prop} (h : Rows P row args w R) : RowsIn (WideAt ro) n P row args w R :=
  fun c cs _ => let ⟨v, w', r, s⟩ := h c cs; ⟨v, w', r, stepsIn_wide.2 s⟩
theorem nodepth {ro : Option Nat} {n : Nat} : (WideAt ro).depth.isSome = true → 1 ≤ n := fun h => by simp [Fence.wide] at h
theorem opIn_of {ro : Option Nat} {n : Nat} {P : Program} {o : Oper} {a : Act} {w : World} {K : Act → World → Prop} {Q : Exit → Act → World → Prop} (hnd : ∀ c, o.op ≠ .defer c) (h : o.wp P a w K (fun e a w => e = .normal)) : o.wpIn (WideAt ro) n P a w K Q := by
  unfold Oper.wp at h
  unfold Oper.wpIn
  refine ⟨fun _ _ => trivial, ?_⟩
  rw [Oper.semAt_eq _ _ o hnd]
  generalize (execOp a.eval o).run P w = r at *
  cases r with
  | ok x w' =>
    cases x <;> simp only [Oper.upon, Oper.uponIn] at h ⊢
    case value => exact h
    case skip => exact h
    case defer => exact h
    case enter =>
      refine ⟨nodepth, (callsIn_at (ro := ro) h).mono fun e w'' he => ?_⟩
      cases e with
      | returned v => exact he
      | panicked c => cases he
      | outgrown => obtain ⟨_, _, he⟩ := he; cases he
    case row r s => exact ⟨nodepth, rowsIn_at h⟩
  | halt x w' => cases x <;> simp only [Oper.upon, Oper.uponIn] at h ⊢ <;> first | exact h.elim | cases h
theorem opNone {P : Program} {o : Oper} {a : Act} {w : World} {K : Act → World → Prop} {R : Act → World → Prop} (h : o.wp P a w K (fun e a w => e = .normal ∧ R a w)) : o.wp P a w K (fun e a w => e = .normal) := by
  unfold Oper.wp at *
  generalize (execOp a.eval o).run P w = r at *
  cases r with
  | ok x w' =>
    cases x <;> simp only [Oper.upon] at h ⊢
    case value => exact h
    case skip => exact h
    case defer => exact h
    case enter =>
      refine Calls.mono h fun e w'' he => ?_
      cases e with
      | returned v => exact he
      | panicked c => exact he.1
      | outgrown => obtain ⟨_, _, he⟩ := he; cases he.1
    case row r s => exact h
  | halt x w' => cases x <;> simp only [Oper.upon] at h ⊢ <;> first | exact h.elim | exact h.1 | cases h.1
theorem wpIn_split {F : Fence} {n : Nat} {P : Program} {c : Code} {Q : Exit → Act → World → Prop} {a : Act} {w : World} (R : Act → World → Prop) (h : c.wpIn F n P (fun e a w => e = .normal ∧ R a w) a w) (h2 : ∀ a w, R a w → Q .normal a w) : c.wpIn F n P Q a w :=
  wpIn_mono h fun e a w ⟨he, hr⟩ => by subst he; exact h2 a w hr
theorem noOut {R : Act → World → Prop} : ¬ LetsOut (fun e a w => e = Exit.normal ∧ R a w) := fun ⟨_, _, h⟩ => by cases h.1
theorem stepsIn_of {ro : Option Nat} {n : Nat} {P : Program} {ops : Array Oper} {Q : Exit → Act → World → Prop} {R : Act → World → Prop} : ∀ (l rest : List Oper) (a : Act) (w : World), (∀ o ∈ l, ∀ c, o.op ≠ .defer c) → wpList P ops (fun e a w => e = .normal ∧ R a w) l a w →
    (∀ a w, R a w → wpListIn (WideAt ro) n P ops Q rest a w) → wpListIn (WideAt ro) n P ops Q (l ++ rest) a w
  | [], rest, a, w, _, h, h2 => h2 a w h.2
  | o :: l, rest, a, w, hnd, h, h2 => by
    unfold wpList at h
    show wpListIn _ _ _ _ _ (o :: (l ++ rest)) _ _
    unfold wpListIn
    split at h
    · rename_i hw
      rw [if_pos hw]
      rcases h with h | ⟨_, h⟩
      · exact opIn_of (hnd o (by simp)) (Oper.wp_mono (fun a w h => stepsIn_of l rest a w (fun o ho => hnd o (by simp [ho])) h h2) (opNone h))
      · exact absurd h noOut
    · rename_i hw
      rw [if_neg hw]
      exact ⟨fun _ _ => trivial, stepsIn_of l rest _ w (fun o ho => hnd o (by simp [ho])) h h2⟩
theorem stepIn_of {ro : Option Nat} {n : Nat} {P : Program} {ops : Array Oper} {Q : Exit → Act → World → Prop} {o : Oper} {rest : List Oper} {a : Act} {w : World} (R : Act → World → Prop) (hnd : ∀ c, o.op ≠ .defer c) (h : wpList P ops (fun e a w => e = .normal ∧ R a w) [o] a w) (h2 : ∀ a w, R a w → wpListIn (WideAt ro) n P ops Q rest a w) :
    wpListIn (WideAt ro) n P ops Q (o :: rest) a w := stepsIn_of [o] rest a w (fun o' ho => by simp at ho; subst ho; exact hnd) h h2
theorem anyIn_of {ro : Option Nat} {n : Nat} {P : Program} {md : Region.Mode} {ops : Array Oper} {R : Act → World → Prop} (hnd : ∀ (i : Nat) o, ops[i]? = some o → ∀ c, o.op ≠ .defer c) : ∀ (fuel : Nat) (listed : Array Bool) (a : Act) (w : World), wpAny P md ops (fun e a w => e = .normal ∧ R a w) fuel listed a w → wpAnyIn (WideAt ro) n P md ops (fun e a w => e = .normal ∧ R a w) fuel listed a w
  | 0, _, _, _, h => h
  | fuel + 1, listed, a, w, h => ⟨h.1, fun i hi => by
    have h1 := h.2 i hi
    unfold wpOp at h1
    unfold wpOpIn
    split at h1
    · rename_i ho
      simp only [ho]
      exact anyIn_of hnd fuel _ _ _ h1
    · rename_i o ho
      simp only [ho]
      split at h1
      · rename_i hw
        simp only [hw, if_true]
        rcases h1 with h1 | ⟨_, h2⟩
        · exact opIn_of (hnd i o ho) (Oper.wp_mono (fun a w h => anyIn_of hnd fuel _ a w h) (opNone h1))
        · exact absurd h2 noOut
      · rename_i hw
        simp only [hw, Bool.false_eq_true, if_false]
        exact ⟨fun _ _ => trivial, anyIn_of hnd fuel _ _ _ h1⟩⟩
def calm (ops : Array Oper) : Bool := ops.all fun o => match o.op with | .defer _ => false | _ => true
theorem calm_at {ops : Array Oper} (h : calm ops = true) (i : Nat) (o : Oper) (ho : ops[i]? = some o) : ∀ c, o.op ≠ .defer c := fun c e => by
  have h1 := Array.all_eq_true.1 h i (Array.getElem?_eq_some_iff.1 ho).1
  have h2 : ops[i]'(Array.getElem?_eq_some_iff.1 ho).1 = o := (Array.getElem?_eq_some_iff.1 ho).2
  rw [h2, e] at h1
  cases h1
theorem wpIn_region_heldAt {ro : Option Nat} {n : Nat} {P : Program} {id : Nat} {ops : Array Oper} {S : World → Prop} {R : Act → World → Prop} {a : Act} {w : World} (hm : P.follows .mixedOrders = true) (hc : calm ops = true)
    (h : wpAnyH P .any ops (fun e a w => e = .normal ∧ R a w) S ops.size (Array.replicate ops.size false) a { w with drawn := w.drawn + 1 }) : (Code.region id ops true).wpIn (WideAt ro) n P (fun e a w => e = .normal ∧ R a w) a w :=
  wpIn_region_any hm (anyIn_of (calm_at hc) _ _ _ _ (wpAny_of_held _ _ _ _ h))
end Go.Proofs.YtomhcccjeadefaaGreatDoor
/- The stream's blocks, yielded one by one: seal.stream. -/
namespace Go.Proofs.YtomhcccjeadefaaGreatDoor
open Go.RowKit Go.Shelf
set_option linter.unusedVariables false
set_option maxRecDepth 20000
attribute [local go_sem] Oper.semAt_some
abbrev Blk := { l : List UInt8 // l.length = 32 }
def blkL (key : List UInt8) (once k : Nat) : List Blk := (List.range k).map fun i => ⟨sblock key once i, sblock_len key once i⟩
theorem blkL_succ (key : List UInt8) (once k : Nat) : blkL key once (k + 1) = blkL key once k ++ [⟨sblock key once k, sblock_len key once k⟩] := by simp [blkL, List.range_succ]
theorem blkL_length (key : List UInt8) (once k : Nat) : (blkL key once k).length = k := by simp [blkL]
structure Src (bn bo bk : Nat) (K : Array Value) (once N : Nat) (W : World) : Prop where
  num : Boxed W bn 3 (.int .i64 (N : Int))
  once : Boxed W bo 78 (.int .u64 (once : Int))
  key : W.heap[bk]? = some (.cells K 27 (0, 0))
  tab : KAt W
theorem Src.below {bn bo bk : Nat} {K : Array Value} {once N : Nat} {A B : World} (h : Src bn bo bk K once N A) (hb : Below A.heap.size A B) : Src bn bo bk K once N B :=
  ⟨(hb.block _ h.num.lt).trans h.num, (hb.block _ h.once.lt).trans h.once, (hb.block _ (heap_lt h.key)).trans h.key, h.tab.below hb⟩
theorem grown_of_below {A B : World} (hb : Below A.heap.size A B) : A.grownBy B none := ⟨hb.os, hb.tape, hb.output, hb.size, fun k hk _ => hb.block k hk⟩
theorem own_lits (w : World) (cs : List UInt8) (hl : cs.length ≤ 1000000) : (w.alloc (.cells (cellsOf cs).toArray 5)).ownsRow w.heap.size 5 1 (.slice (some ⟨w.heap.size, 0, none⟩) cs.length cs.length) cs.length (cellsOf cs) :=
  ⟨by rw [cellsOf_length, Nat.mul_one], .inr ⟨w.heap.size, cs.length, _, rfl, Nat.le_refl _, heap_alloc_new w _, by omega, by unfold maxLen; omega, by simp [cellsOf_length], by rw [List.toList_toArray, Nat.mul_one, ← cellsOf_length, List.take_length]⟩⟩
def StPost (J Jx : List Blk → World → Prop) (xs : List Blk) (e : Ending) (W' : World) : Prop := (∃ v, e = .returned v) ∧ ((∃ ys, ys = xs ∧ J ys W') ∨ (∃ pre, True ∧ Jx pre W'))
set_option maxHeartbeats 2000000 in
theorem stream1_in (n l bn bo bk : Nat) {K : Array Value} {key : List UInt8} (hK : HV K key) (once N : Nat) (hN : N ≤ 1000000) {Kp : World → World → Prop} (hsrc : ∀ A B, Kp A B → Src bn bo bk K once N A → Src bn bo bk K once N B)
    (J Jx : List Blk → World → Prop) (W : World) (hJ : AbidesFrom W.heap.size J)
    (hY : ∀ pre x W1, J pre W1 → pre.length < nblk N → YieldAt Fence.wide (n - 1) Tryz.prog l #[.agg (bvs x.1)] W1 fun e W' =>
      (e = .returned (.bool true) ∧ J (pre ++ [x]) W' ∧ Kp W1 W') ∨ (e = .returned (.bool false) ∧ Jx (pre ++ [x]) W'))
    (hS : Src bn bo bk K once N W) (h0 : J [] W) :
    CallsIn Fence.wide n Tryz.prog 97 #[.func (.yield l) #[] #[], .pointer (some ⟨bn, 0, none⟩), .pointer (some ⟨bo, 0, none⟩), .pointer (some ⟨bk, 0, none⟩)] W (StPost J Jx (blkL key once (nblk N))) := by
  have HK := hid hK
  have HY := hid hY
  have HJ := hid hJ
  have Hsrc := hid hsrc
  have HS := hid hS
  have H0 := hid h0
  clear hK hY hJ hsrc hS h0
  refine callsIn_of_wp Tryz.func97 rfl trivial ?_ rfl
  simp only [Tryz.ntmps97, List.size_toArray, List.length_cons, List.length_nil, Nat.reduceAdd, Nat.reduceSub, Array.replicate_succ, Array.replicate_zero, List.push_toArray, List.append_toArray, List.nil_append, List.cons_append]
  gi_wp2
  gi_loopw [5] (fun v5 wr => ∃ k : Nat, k ≤ nblk N ∧ v5 = .int .i64 (k : Int) ∧ J (blkL key once k) wr ∧ Src bn bo bk K once N wr) (fun v5 _ => nblk N - (intOf v5).toNat)
  case atStart => exact ⟨0, Nat.zero_le _, rfl, H0.out, HS.out⟩
  case round =>
    obtain ⟨k, hk, rfl, hJk, hSk⟩ := hrel
    have HJk := hid hJk
    have HSk := hid hSk
    have cn := hSk.num.cell
    have co := hSk.once.cell
    have hkk : k ≤ 31251 := by unfold nblk at hk; omega
    have q1 : IntKind.i64.wrap ((k : Int) * 32) = (k : Int) * 32 := by rw [IntKind.wrap_i64]; omega
    have q2 : IntKind.u64.wrap (k : Int) = (k : Int) := by rw [IntKind.wrap_u64]; omega
    clear hJk hSk H0 HS
    by_cases hlt : k < nblk N
    · have q3 : (k : Int) * 32 < (N : Int) := by unfold nblk at hlt; omega
      have co' : (wr.alloc (.cells #[.int .u8 115] 5)).cell? ⟨bo, 0, none⟩ = some (.int .u64 (once : Int)) := (World.cell?_of_block (Below.heap_alloc _ _ _ (HSk.out.once.lt))).trans co
      gi_wp2_with fail
      refine ⟨trivial, nodepth (ro := none), (callsIn_wide.2 (appendNumber_any wr.heap.size _ [115] once (own_lits wr [115] (by simp)) (by simp) (by simp))).mono ?_⟩
      rintro _ w1 ⟨v1, rfl, hown1, hb1⟩
      have Hown1 := hid hown1
      have b1 : Hid (Below wr.heap.size wr w1) := ((Below.refl _ wr).alloc (Nat.le_refl _) _).trans hb1
      clear hown1 hb1 co' co cn
      gi_wp2_with fail
      refine ⟨trivial, nodepth (ro := none), (callsIn_wide.2 (appendNumber_any wr.heap.size _ _ k Hown1.out b1.out.size (by simp [be8_length]))).mono ?_⟩
      rintro _ w2 ⟨v2, rfl, hown2, hb2⟩
      obtain ⟨a2, cap2, rfl, hB2, hc2⟩ := bytes_of_own hown2
      have HB2 := hid hB2
      have b2 : Hid (Below wr.heap.size wr w2) := b1.out.trans hb2
      have l2 : ([115] ++ be8 once ++ be8 k).length = 17 := by simp [be8_length]
      clear hown2 hb2 Hown1 b1 hB2
      obtain ⟨m2, hm2⟩ : ∃ m2, m2 = [115] ++ be8 once ++ be8 k := ⟨_, rfl⟩
      rw [← hm2] at HB2 hc2 l2 ⊢
      have Hm : Hid (hmac key m2 = sblock key once k) := by
        show _ = _
        rw [hm2]
        unfold sblock
        rw [List.append_assoc]
        rfl
      clear hm2
      gi_wp2_with fail
      refine ⟨trivial, nodepth (ro := none), (callsIn_wide.2 (tag_any key (some ⟨bk, 0, none⟩) 32 32 HK.out.len.symm (HK.out.bytes (HSk.out.below b2.out).key) (by rw [HK.out.len]; omega) (by rw [HK.out.len]; omega) m2 a2 17 cap2 l2.symm HB2.out (by omega) hc2 (HSk.out.tab.below b2.out))).mono ?_⟩
      rintro _ w3 ⟨O, rfl, hO, hb3⟩
      have b3 : Hid (Below wr.heap.size wr w3) := Below.on' b2.out hb3
      have HJ3 : Hid (J (blkL key once k) w3) := HJ.out _ _ _ none HJk.out (grown_of_below b3.out) (fun r e => by cases e)
      have HS3 : Hid (Src bn bo bk K once N w3) := HSk.out.below b3.out
      obtain ⟨fn, tmps, assign, body, hy, hR⟩ := HY.out _ ⟨sblock key once k, sblock_len key once k⟩ w3 HJ3.out (by rw [blkL_length]; exact hlt)
      rw [show bvs (⟨sblock key once k, sblock_len key once k⟩ : Blk).1 = O by rw [hO.eq, Hm.out]] at hy
      have HR := hid hR
      clear hb3 hO HB2 hR
      gi_wp2_with fail
      refine ⟨nodepth (ro := none), HR.out.mono ?_⟩
      rintro e W3 (⟨rfl, hJ3, hk3⟩ | ⟨rfl, hJx3⟩)
      · have HS4 : Hid (Src bn bo bk K once N W3) := Hsrc.out _ _ hk3 HS3.out
        have HJ4 : Hid (J (blkL key once (k + 1)) W3) := by
          show J _ _
          rw [blkL_succ]; exact hJ3
        clear hJ3 hk3 HS3 HJ3 HR hy
        gi_wp2
        go_roundw
        case rel => exact ⟨k + 1, by omega, by go_num, HJ4.out, HS4.out⟩
        case measure => simp [intOf]; omega
      · have HX := hid hJx3
        clear hJx3 HR hy HJ3 HS3
        gi_wp2
        refine bodyPost_ret (results_none rfl _ _ _) rfl ?_
        exact ⟨⟨_, rfl⟩, .inr ⟨_, trivial, HX.out⟩⟩
    · have q3 : ¬ (k : Int) * 32 < (N : Int) := by unfold nblk at hlt; omega
      gi_wp2
      go_end0
      exact ⟨⟨_, rfl⟩, .inl ⟨_, by rw [show k = nblk N by omega], HJk.out⟩⟩
theorem stream_stops (n B : Nat) {K : Array Value} {key : List UInt8} (hK : HV K key) (once N : Nat) (hN : N ≤ 1000000) {Kp : World → World → Prop} (hsrc : ∀ A C, Kp A C → Src (B + 2) (B + 1) B K once N A → Src (B + 2) (B + 1) B K once N C) (w : World) (hS : Src (B + 2) (B + 1) B K once N w) :
    SeqStopsK Fence.wide n Tryz.prog 97 #[.pointer (some ⟨B + 2, 0, none⟩), .pointer (some ⟨B + 1, 0, none⟩), .pointer (some ⟨B, 0, none⟩)] (fun x : Blk => #[.agg (bvs x.1)]) Kp (fun ys => ys = blkL key once (nblk N)) (fun _ => True) (nblk N) w :=
  fun l J Jx W hW hJ _ hY h0 => stream1_in n l (B + 2) (B + 1) B hK once N hN hsrc J Jx W hJ hY (hS.below hW) h0
set_option maxHeartbeats 400000 in
theorem stream_any {w : World} {K : Array Value} {key : List UInt8} (hK : HV K key) (once N : Nat) :
    Calls Tryz.prog 73 #[.agg K, .int .u64 (once : Int), .int .i64 (N : Int)] w fun e w' => e = .returned (.func (.func 97) #[] #[.pointer (some ⟨w.heap.size + 2, 0, none⟩), .pointer (some ⟨w.heap.size + 1, 0, none⟩), .pointer (some ⟨w.heap.size, 0, none⟩)]) ∧
      w' = ((w.alloc (.cells K 27)).alloc (.cells #[.int .u64 (once : Int)] 78)).alloc (.cells #[.int .i64 (N : Int)] 3) := by
  go_enter Tryz.func73, Tryz.ntmps73
  go_wp2
  go_ret
  exact ⟨rfl, rfl⟩
end Go.Proofs.YtomhcccjeadefaaGreatDoor
/- Operations on boxes of rows of bytes, for regions that are gone through by hand; the end of the region of 'out = append(out, b)'. -/
namespace Go.Proofs.YtomhcccjeadefaaGreatDoor
open Go.RowKit Go.Shelf
set_option linter.unusedVariables false
set_option maxRecDepth 20000
theorem wpIn_act {F : Fence} {n : Nat} {P : Program} {c : Code} {Q : Exit → Act → World → Prop} (a : Act) {w : World} (h : ∀ A, A = a → c.wpIn F n P Q A w) : c.wpIn F n P Q a w := h a rfl
section
variable {ops : Array Oper} {S : World → Prop} {op : Oper} {a : Act}
theorem y_loadB (hw : Region.wanted op (yielded ops a.tmps) = true) (x : Operand) (ho : op.op = .load 29 x) (g : Nat) (ad : Option Addr) (n c : Nat) (hx : a.eval x = .pointer (some ⟨g, 0, none⟩)) (hS : ∀ w, S w → w.cell? ⟨g, 0, none⟩ = some (.slice ad n c)) : YieldsIf Tryz.prog ops S op (.slice ad n c) a := by
  refine .inl ⟨hw, fun w hw' => ?_⟩
  have h1 := hS w hw'
  unfold execOp
  simp only [ho, hx]
  simp [go_sem, h1]
theorem y_load8 (hw : Region.wanted op (yielded ops a.tmps) = true) (x : Operand) (ho : op.op = .load 5 x) (g k : Nat) (c : UInt8) (hx : a.eval x = .pointer (some ⟨g, k, none⟩)) (hS : ∀ w, S w → w.cell? ⟨g, k, none⟩ = some (.int .u8 (c.toNat : Int))) : YieldsIf Tryz.prog ops S op (.int .u8 (c.toNat : Int)) a := by
  refine .inl ⟨hw, fun w hw' => ?_⟩
  have h1 := hS w hw'
  unfold execOp
  simp only [ho, hx]
  simp [go_sem, h1]
theorem y_len (hw : Region.wanted op (yielded ops a.tmps) = true) (t : Nat) (ho : op.op = .call { callee := .builtin .len, args := #[.tmp t], argTypes := #[29] }) (ht : op.type = 3) (ad : Option Addr) (n c : Nat) (hx : a.eval (.tmp t) = .slice ad n c) : YieldsIf Tryz.prog ops S op (.int .i64 (n : Int)) a := by
  refine .inl ⟨hw, fun w _ => ?_⟩
  have hx' : a.tmps[t]?.getD undef = .slice ad n c := by simpa [Act.eval] using hx
  unfold execOp
  simp only [ho, ht]
  simp [go_sem, hx']
theorem y_index8 (hw : Region.wanted op (yielded ops a.tmps) = true) (x y : Operand) (ho : op.op = .indexAddr 29 x y) (g o n c k : Nat) (hx : a.eval x = .slice (some ⟨g, o, none⟩) n c) (hy : a.eval y = .int .i64 (k : Int)) (hk : k < n) : YieldsIf Tryz.prog ops S op (.pointer (some ⟨g, o + k, none⟩)) a := by
  refine .inl ⟨hw, fun w _ => ?_⟩
  have h1 : (k : Int) < (n : Int) := by omega
  have h0 : (0 : Int) ≤ (k : Int) := by omega
  unfold execOp
  simp only [ho, hx, hy]
  simp [go_sem, h0, h1]
theorem y_xor8 (hw : Region.wanted op (yielded ops a.tmps) = true) (x y : Operand) (ho : op.op = .binOp .xor 5 x y 5) (p q : UInt8) (hx : a.eval x = .int .u8 (p.toNat : Int)) (hy : a.eval y = .int .u8 (q.toNat : Int)) : YieldsIf Tryz.prog ops S op (.int .u8 ((p ^^^ q).toNat : Int)) a := by
  refine .inl ⟨hw, fun w _ => ?_⟩
  have h1 : bits .xor .u8 (p.toNat : Int) (q.toNat : Int) = ((p ^^^ q).toNat : Int) := b_xor p q
  obtain ⟨r, hr⟩ : ∃ r, r = p ^^^ q := ⟨_, rfl⟩
  rw [← hr] at h1 ⊢
  clear hr
  unfold execOp
  simp only [ho, hx, hy]
  simp [go_sem, h1]
end
theorem run_min {op : Oper} {a : Act} (t : Nat) (ho : op.op = .call { callee := .builtin .min, args := #[.const (.int .i64 32), .tmp t], argTypes := #[3, 3] }) (ht : op.type = 3) (k : Int) (d : Nat) (hx : a.eval (.tmp t) = .int .i64 k) (hd : min (32 : Int) k = (d : Int)) (w : World) : (execOp a.eval op).run Tryz.prog w = .ok (.value (.int .i64 (d : Int))) w := by
  have hx' : a.tmps[t]?.getD undef = .int .i64 k := by simpa [Act.eval] using hx
  unfold execOp
  simp only [ho, ht]
  simp [go_sem, hx']
  split <;> omega
theorem wp_build1 {o : Oper} {a : Act} {w : World} {K : Act → World → Prop} {Q : Exit → Act → World → Prop} (t : Operand) (ho : o.op = .buildSlice 29 1 #[(0, t)]) (x : UInt8) (h0 : a.eval t = .int .u8 (x.toNat : Int))
    (h : K (a.put o.dst (.slice (some ⟨w.heap.size, 0, none⟩) 1 1)) (w.alloc (.cells (cellsOf [x]).toArray 5))) : o.wp Tryz.prog a w K Q := by
  unfold Oper.wp execOp
  simp only [ho, List.map_toArray, List.map_cons, List.map_nil, h0]
  simp [go_sem]
  exact h
theorem wp_storeB {o : Oper} {a : Act} {w : World} {K : Act → World → Prop} {Q : Exit → Act → World → Prop} (x y : Operand) (ho : o.op = .store 29 x y) (g : Nat) (v : Value) (ad : Option Addr) (n c : Nat) (hx : a.eval x = .pointer (some ⟨g, 0, none⟩)) (hy : a.eval y = .slice ad n c) (hv : Boxed w g 29 v)
    (h : K (a.put o.dst undef) (w.setCell ⟨g, 0, none⟩ (.slice ad n c))) : o.wp Tryz.prog a w K Q := by
  have h1 := hv.cell
  have h2 := hv.frozen
  unfold Oper.wp execOp
  simp only [ho, hx, hy]
  simp [go_sem, h1, h2]
  exact h
theorem tail7 {ops : Array Oper} {listed : Array Bool} {fuel : Nat} {S : World → Prop} {Q : Exit → Act → World → Prop} {A : Act} {w : World} (o9 o10 : Oper) (h9 : ops[9]? = some o9) (h10 : ops[10]? = some o10) (g9 : o9.guard = none) (g10 : o10.guard = none)
    (p9 : o9.op = .call { callee := .builtin .append, args := #[.tmp 32, .tmp 40], argTypes := #[29, 29] }) (p10 : o10.op = .store 29 (.tmp 7) (.tmp 41)) (d9 : o9.dst = some 41) (d10 : o10.dst = none)
    (r9 : Region.ready .any ops listed = [9]) (r10 : Region.ready .any ops (listed.setIfInBounds 9 true) = [10]) (r11 : Region.ready .any ops ((listed.setIfInBounds 9 true).setIfInBounds 10 true) = [])
    (B g : Nat) (v : Value) (xs : List UInt8) (x : UInt8) (sz : A.tmps.size = 44) (e32 : A.eval (.tmp 32) = v) (e40 : A.eval (.tmp 40) = .slice (some ⟨w.heap.size, 0, none⟩) 1 1) (e7 : A.eval (.tmp 7) = .pointer (some ⟨g, 0, none⟩))
    (hv : Boxed w g 29 v) (hown : w.ownsRow B 5 1 v xs.length (cellsOf xs)) (hB : B ≤ w.heap.size) (hg : B ≤ g) (hl : xs.length ≤ 1000000)
    (hS : ∀ w', Below B w w' → (∀ j, j < w.heap.size → some j ≠ v.ownBlock → j ≠ g → w'.heap[j]? = w.heap[j]?) → S w')
    (h : ∀ v' w', Boxed w' g 29 v' → w'.ownsRow B 5 1 v' (xs ++ [x]).length (cellsOf (xs ++ [x])) → KeepsOthers w w' → Below B w w' → (∀ j, j < w.heap.size → some j ≠ v.ownBlock → j ≠ g → w'.heap[j]? = w.heap[j]?) → (∀ j, v'.ownBlock = some j → v.ownBlock = some j ∨ w.heap.size ≤ j) → Q .normal ((A.put (some 41) v').put none undef) w') :
    wpAnyH Tryz.prog .any ops Q S (fuel + 2) listed A (w.alloc (.cells (cellsOf [x]).toArray 5)) := by
  obtain ⟨i0, hi, hz0, hz1, hz2⟩ := info_parts Tryz.info5
  refine wpAnyH_all (rs := [9]) r9 (by simp) fun i hmem => ?_
  obtain rfl : i = 9 := by simpa using hmem
  refine wpOp_own h9 g9 fun K' hK' => ?_
  refine wp_append_lies _ (.tmp 32) (.tmp 40) 29 p9 B 5 i0 _ 1 1 Tryz.underlying29 hi hz0 hz1 hz2 rfl (by omega) v xs.length (cellsOf xs) e32 (hown.alloc _) ⟨w.heap.size, 0, none⟩ 1 1 (cellsOf [x]) e40 (by simp [cellsOf]) (World.news_of_block (cs := (cellsOf [x]).toArray) (t := 5) (fr := (0, 0)) (heap_alloc_new w _)) (cellsOf_one [x]) (by omega) (by unfold maxLen; omega) (by omega) (by simp; omega) _ rfl ?_
  intro g' cap' w1 hown' hgrow hat hlt
  rw [← cellsOf_append] at hown'
  obtain ⟨hv1, hv2, hr2, hk2, hb2⟩ := hv.appended (by decide) hown hB hg hown' hgrow
  have hb1 : Below B w w1 := by
    refine ((Below.refl B w).alloc hB _).grown hgrow (by simp; omega) fun j ej => ?_
    exact (hown.lt j ej).1
  have ho1 : ∀ j, j < w.heap.size → some j ≠ v.ownBlock → j ≠ g → w1.heap[j]? = w.heap[j]? := fun j hj h1 h2 => by
    rw [hgrow.block j (by simp; omega) h1]
    exact Below.heap_alloc _ _ _ hj
  have ho2 : ∀ j, j < w.heap.size → some j ≠ v.ownBlock → j ≠ g → (w1.setCell ⟨g, 0, none⟩ (.slice (some ⟨g', 0, none⟩) (xs.length + 1) cap')).heap[j]? = w.heap[j]? := fun j hj h1 h2 =>
    ((grownBy_setCell' w1 g _).block j (by have := hgrow.size; simp at this; omega) (fun e => h2 (by cases e; rfl))).trans (ho1 j hj h1 h2)
  rw [d9]
  refine hK' _ _ ⟨hS _ hb1 ho1, ?_⟩
  clear hK' K' hmem
  refine wpAnyH_all (rs := [10]) r10 (by simp) fun i hmem => ?_
  obtain rfl : i = 10 := by simpa using hmem
  refine wpOp_own h10 g10 fun K' hK' => ?_
  refine wp_storeB (.tmp 7) (.tmp 41) p10 g v _ _ _ ((ev_ne _ _ (by decide)).trans e7) (ev_eq _ _ (by simp [sz])) hv1 ?_
  rw [d10]
  refine hK' _ _ ⟨hS _ hb2 ho2, ?_⟩
  refine wpAnyH_done r11 (h _ _ hv2 ?_ hk2 hb2 ?_ ?_) _
  · rw [List.length_append]; exact hr2
  · exact ho2
  · intro j hj
    have e2 : g' = j := by simpa [Value.ownBlock] using hj
    subst e2
    rcases hat with h1 | h1
    · exact .inl h1
    · refine .inr ?_
      rw [h1]
      simp
end Go.Proofs.YtomhcccjeadefaaGreatDoor
