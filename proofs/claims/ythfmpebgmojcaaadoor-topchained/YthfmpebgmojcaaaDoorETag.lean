/- YthfmpebgmojcaaaDoorEBridge + YthfmpebgmojcaaaDoorEStream + YthfmpebgmojcaaaDoorECell + YthfmpebgmojcaaaDoorECross + YthfmpebgmojcaaaDoorETag -/
import Derived.Test.YthfmpebgmojcaaaDoorHMask
import Derived.RangeFuncNested
import Derived.RangeFuncBound
import Derived.RangeFuncCalls
import Derived.RangeFuncLeaves
import Derived.Shelf.Abstract
import Derived.Shelf.RegionOpen
import Derived.WalkKit
import Derived.OwnWalkIn
import Derived.TacticsInMore
import Derived.LoopNIn
import Derived.LoopIn
import Derived.Test.YthfmpebgmojcaaaDoorHTag
import Derived.Test.YthfmpebgmojcaaaDoorENum
import Derived.Maps.AppendAt
import Derived.Laws.Rows
import Derived.Test.YthfmpebgmojcaaaDoorHDerive
/- What is walked outside of a fence goes at the wide fence too, and in a round of a loop over a function: operations, lists of them, and regions that draw their order. -/
namespace Go.Proofs.YthfmpebgmojcaaaDoor
open Go.RowKit Go.Shelf
set_option linter.unusedVariables false
abbrev WideAt (ro : Option Nat) : Fence := { Fence.wide with round := ro }
theorem callsIn_at {ro : Option Nat} {n : Nat} {P : Program} {f : FuncId} {args : Array Value} {w : World} {R : Ending → World → Prop} (h : Calls P f args w R) : CallsIn (WideAt ro) n P f args w R := (callsIn_wide (n := n)).2 h
theorem rowsIn_at {ro : Option Nat} {n : Nat} {P : Program} {row : String} {args : Array Value} {w : World} {R : Value → World → Prop} (h : Rows P row args w R) : RowsIn (WideAt ro) n P row args w R :=
  fun c cs _ => let ⟨v, w', r, s⟩ := h c cs; ⟨v, w', r, stepsIn_wide.2 s⟩
theorem nodepth {ro : Option Nat} {n : Nat} : (WideAt ro).depth.isSome = true → 1 ≤ n := fun h => by simp [Fence.wide] at h
theorem opIn_of {ro : Option Nat} {n : Nat} {P : Program} {o : Oper} {a : Act} {w : World} {K : Act → World → Prop} {Q : Exit → Act → World → Prop} (hnd : ∀ c, o.op ≠ .defer c) (h : o.wp P a w K (fun e a w => e = .normal)) : o.wpIn (WideAt ro) n P a w K Q := by
  unfold Oper.wp at h
  unfold Oper.wpIn
  refine ⟨fun _ _ => trivial, ?_⟩
  rw [Oper.semAt_eq _ _ o hnd]
  generalize (execOp a.eval o).run P w = r at *
  cases r with
  | ok x w' =>
    cases x <;> simp only [Oper.upon, Oper.uponIn] at h ⊢
    case value => exact h
    case skip => exact h
    case defer => exact h
    case enter =>
      refine ⟨nodepth, (callsIn_at (ro := ro) h).mono fun e w'' he => ?_⟩
      cases e with
      | returned v => exact he
      | panicked c => cases he
      | outgrown => obtain ⟨_, _, he⟩ := he; cases he
    case row r s => exact ⟨nodepth, rowsIn_at h⟩
  | halt x w' => cases x <;> simp only [Oper.upon, Oper.uponIn] at h ⊢ <;> first | exact h.elim | cases h
theorem opNone {P : Program} {o : Oper} {a : Act} {w : World} {K : Act → World → Prop} {R : Act → World → Prop} (h : o.wp P a w K (fun e a w => e = .normal ∧ R a w)) : o.wp P a w K (fun e a w => e = .normal) := by
  unfold Oper.wp at *
  generalize (execOp a.eval o).run P w = r at *
  cases r with
  | ok x w' =>
    cases x <;> simp only [Oper.upon] at h ⊢
    case value => exact h
    case skip => exact h
    case defer => exact h
    case enter =>
      refine Calls.mono h fun e w'' he => ?_
      cases e with
      | returned v => exact he
      | panicked c => exact he.1
      | outgrown => obtain ⟨_, _, he⟩ := he; cases he.1
    case row r s => exact h
  | halt x w' => cases x <;> simp only [Oper.upon] at h ⊢ <;> first | exact h.elim | exact h.1 | cases h.1
theorem wpIn_split {F : Fence} {n : Nat} {P : Program} {c : Code} {Q : Exit → Act → World → Prop} {a : Act} {w : World} (R : Act → World → Prop) (h : c.wpIn F n P (fun e a w => e = .normal ∧ R a w) a w) (h2 : ∀ a w, R a w → Q .normal a w) : c.wpIn F n P Q a w :=
  wpIn_mono h fun e a w ⟨he, hr⟩ => by subst he; exact h2 a w hr
theorem noOut {R : Act → World → Prop} : ¬ LetsOut (fun e a w => e = Exit.normal ∧ R a w) := fun ⟨_, _, h⟩ => by cases h.1
theorem stepsIn_of {ro : Option Nat} {n : Nat} {P : Program} {ops : Array Oper} {Q : Exit → Act → World → Prop} {R : Act → World → Prop} : ∀ (l rest : List Oper) (a : Act) (w : World), (∀ o ∈ l, ∀ c, o.op ≠ .defer c) → wpList P ops (fun e a w => e = .normal ∧ R a w) l a w →
    (∀ a w, R a w → wpListIn (WideAt ro) n P ops Q rest a w) → wpListIn (WideAt ro) n P ops Q (l ++ rest) a w
  | [], rest, a, w, _, h, h2 => h2 a w h.2
  | o :: l, rest, a, w, hnd, h, h2 => by
    unfold wpList at h
    show wpListIn _ _ _ _ _ (o :: (l ++ rest)) _ _
    unfold wpListIn
    split at h
    · rename_i hw
      rw [if_pos hw]
      rcases h with h | ⟨_, h⟩
      · exact opIn_of (hnd o (by simp)) (Oper.wp_mono (fun a w h => stepsIn_of l rest a w (fun o ho => hnd o (by simp [ho])) h h2) (opNone h))
      · exact absurd h noOut
    · rename_i hw
      rw [if_neg hw]
      exact ⟨fun _ _ => trivial, stepsIn_of l rest _ w (fun o ho => hnd o (by simp [ho])) h h2⟩
theorem stepIn_of {ro : Option Nat} {n : Nat} {P : Program} {ops : Array Oper} {Q : Exit → Act → World → Prop} {o : Oper} {rest : List Oper} {a : Act} {w : World} (R : Act → World → Prop) (hnd : ∀ c, o.op ≠ .defer c) (h : wpList P ops (fun e a w => e = .normal ∧ R a w) [o] a w) (h2 : ∀ a w, R a w → wpListIn (WideAt ro) n P ops Q rest a w) :
    wpListIn (WideAt ro) n P ops Q (o :: rest) a w := stepsIn_of [o] rest a w (fun o' ho => by simp at ho; subst ho; exact hnd) h h2
theorem anyIn_of {ro : Option Nat} {n : Nat} {P : Program} {md : Region.Mode} {ops : Array Oper} {R : Act → World → Prop} (hnd : ∀ (i : Nat) o, ops[i]? = some o → ∀ c, o.op ≠ .defer c) : ∀ (fuel : Nat) (listed : Array Bool) (a : Act) (w : World), wpAny P md ops (fun e a w => e = .normal ∧ R a w) fuel listed a w → wpAnyIn (WideAt ro) n P md ops (fun e a w => e = .normal ∧ R a w) fuel listed a w
  | 0, _, _, _, h => h
  | fuel + 1, listed, a, w, h => ⟨h.1, fun i hi => by
    have h1 := h.2 i hi
    unfold wpOp at h1
    unfold wpOpIn
    split at h1
    · rename_i ho
      simp only [ho]
      exact anyIn_of hnd fuel _ _ _ h1
    · rename_i o ho
      simp only [ho]
      split at h1
      · rename_i hw
        simp only [hw, if_true]
        rcases h1 with h1 | ⟨_, h2⟩
        · exact opIn_of (hnd i o ho) (Oper.wp_mono (fun a w h => anyIn_of hnd fuel _ a w h) (opNone h1))
        · exact absurd h2 noOut
      · rename_i hw
        simp only [hw, Bool.false_eq_true, if_false]
        exact ⟨fun _ _ => trivial, anyIn_of hnd fuel _ _ _ h1⟩⟩
def calm (ops : Array Oper) : Bool := ops.all fun o => match o.op with | .defer _ => false | _ => true
theorem calm_at {ops : Array Oper} (h : calm ops = true) (i : Nat) (o : Oper) (ho : ops[i]? = some o) : ∀ c, o.op ≠ .defer c := fun c e => by
  have h1 := Array.all_eq_true.1 h i (Array.getElem?_eq_some_iff.1 ho).1
  have h2 : ops[i]'(Array.getElem?_eq_some_iff.1 ho).1 = o := (Array.getElem?_eq_some_iff.1 ho).2
  rw [h2, e] at h1
  cases h1
theorem wpIn_region_heldAt {ro : Option Nat} {n : Nat} {P : Program} {id : Nat} {ops : Array Oper} {S : World → Prop} {R : Act → World → Prop} {a : Act} {w : World} (hm : P.follows .mixedOrders = true) (hc : calm ops = true)
    (h : wpAnyH P .any ops (fun e a w => e = .normal ∧ R a w) S ops.size (Array.replicate ops.size false) a { w with drawn := w.drawn + 1 }) : (Code.region id ops true).wpIn (WideAt ro) n P (fun e a w => e = .normal ∧ R a w) a w :=
  wpIn_region_any hm (anyIn_of (calm_at hc) _ _ _ _ (wpAny_of_held _ _ _ _ h))
end Go.Proofs.YthfmpebgmojcaaaDoor
/- The stream's blocks, yielded one by one: seal.stream. -/
namespace Go.Proofs.YthfmpebgmojcaaaDoor.Ky
open Go.RowKit Go.Shelf
set_option linter.unusedVariables false
set_option maxRecDepth 20000
attribute [local go_sem] Oper.semAt_some
abbrev Blk := { l : List UInt8 // l.length = 32 }
def blkL (key : List UInt8) (once k : Nat) : List Blk := (List.range k).map fun i => ⟨sblock key once i, sblock_len key once i⟩
theorem blkL_succ (key : List UInt8) (once k : Nat) : blkL key once (k + 1) = blkL key once k ++ [⟨sblock key once k, sblock_len key once k⟩] := by simp [blkL, List.range_succ]
theorem blkL_length (key : List UInt8) (once k : Nat) : (blkL key once k).length = k := by simp [blkL]
structure Src (bn bo bk : Nat) (K : Array Value) (once N : Nat) (W : World) : Prop where
  num : Boxed W bn 3 (.int .i64 (N : Int))
  once : Boxed W bo 141 (.int .u64 (once : Int))
  key : W.heap[bk]? = some (.cells K 69 (0, 0))
  tab : KAt W
theorem Src.below {bn bo bk : Nat} {K : Array Value} {once N : Nat} {A B : World} (h : Src bn bo bk K once N A) (hb : Below A.heap.size A B) : Src bn bo bk K once N B :=
  ⟨(hb.block _ h.num.lt).trans h.num, (hb.block _ h.once.lt).trans h.once, (hb.block _ (heap_lt h.key)).trans h.key, h.tab.below hb⟩
theorem grown_of_below {A B : World} (hb : Below A.heap.size A B) : A.grownBy B none := ⟨hb.os, hb.tape, hb.output, hb.size, fun k hk _ => hb.block k hk⟩
theorem own_lits (w : World) (cs : List UInt8) (hl : cs.length ≤ 1000000) : (w.alloc (.cells (cellsOf cs).toArray 5)).ownsRow w.heap.size 5 1 (.slice (some ⟨w.heap.size, 0, none⟩) cs.length cs.length) cs.length (cellsOf cs) :=
  ⟨by rw [cellsOf_length, Nat.mul_one], .inr ⟨w.heap.size, cs.length, _, rfl, Nat.le_refl _, heap_alloc_new w _, by omega, by unfold maxLen; omega, by simp [cellsOf_length], by rw [List.toList_toArray, Nat.mul_one, ← cellsOf_length, List.take_length]⟩⟩
def StPost (J Jx : List Blk → World → Prop) (xs : List Blk) (e : Ending) (W' : World) : Prop := (∃ v, e = .returned v) ∧ ((∃ ys, ys = xs ∧ J ys W') ∨ (∃ pre, True ∧ Jx pre W'))
set_option maxHeartbeats 2000000 in
theorem stream1_in (n l bn bo bk : Nat) {K : Array Value} {key : List UInt8} (hK : HV K key) (once N : Nat) (hN : N ≤ 1000000) {Kp : World → World → Prop} (hsrc : ∀ A B, Kp A B → Src bn bo bk K once N A → Src bn bo bk K once N B)
    (J Jx : List Blk → World → Prop) (W : World) (hJ : AbidesFrom W.heap.size J)
    (hY : ∀ pre x W1, J pre W1 → pre.length < nblk N → YieldAt Fence.wide (n - 1) Tryd.prog l #[.agg (bvs x.1)] W1 fun e W' =>
      (e = .returned (.bool true) ∧ J (pre ++ [x]) W' ∧ Kp W1 W') ∨ (e = .returned (.bool false) ∧ Jx (pre ++ [x]) W'))
    (hS : Src bn bo bk K once N W) (h0 : J [] W) :
    CallsIn Fence.wide n Tryd.prog 128 #[.func (.yield l) #[] #[], .pointer (some ⟨bn, 0, none⟩), .pointer (some ⟨bo, 0, none⟩), .pointer (some ⟨bk, 0, none⟩)] W (StPost J Jx (blkL key once (nblk N))) := by
  have HK := hid hK
  have HY := hid hY
  have HJ := hid hJ
  have Hsrc := hid hsrc
  have HS := hid hS
  have H0 := hid h0
  clear hK hY hJ hsrc hS h0
  refine callsIn_of_wp Tryd.func128 rfl trivial ?_ rfl
  simp only [Tryd.ntmps128, List.size_toArray, List.length_cons, List.length_nil, Nat.reduceAdd, Nat.reduceSub, Array.replicate_succ, Array.replicate_zero, List.push_toArray, List.append_toArray, List.nil_append, List.cons_append]
  gi_wp2
  gi_loopw [5] (fun v5 wr => ∃ k : Nat, k ≤ nblk N ∧ v5 = .int .i64 (k : Int) ∧ J (blkL key once k) wr ∧ Src bn bo bk K once N wr) (fun v5 _ => nblk N - (intOf v5).toNat)
  case atStart => exact ⟨0, Nat.zero_le _, rfl, H0.out, HS.out⟩
  case round =>
    obtain ⟨k, hk, rfl, hJk, hSk⟩ := hrel
    have HJk := hid hJk
    have HSk := hid hSk
    have cn := hSk.num.cell
    have co := hSk.once.cell
    have hkk : k ≤ 31251 := by unfold nblk at hk; omega
    have q1 : IntKind.i64.wrap ((k : Int) * 32) = (k : Int) * 32 := by rw [IntKind.wrap_i64]; omega
    have q2 : IntKind.u64.wrap (k : Int) = (k : Int) := by rw [IntKind.wrap_u64]; omega
    clear hJk hSk H0 HS
    by_cases hlt : k < nblk N
    · have q3 : (k : Int) * 32 < (N : Int) := by unfold nblk at hlt; omega
      have co' : (wr.alloc (.cells #[.int .u8 115] 5)).cell? ⟨bo, 0, none⟩ = some (.int .u64 (once : Int)) := (World.cell?_of_block (Below.heap_alloc _ _ _ (HSk.out.once.lt))).trans co
      gi_wp2_with fail
      refine ⟨trivial, nodepth (ro := none), (callsIn_wide.2 (appendNumber_any wr.heap.size _ [115] once (own_lits wr [115] (by simp)) (by simp) (by simp))).mono ?_⟩
      rintro _ w1 ⟨v1, rfl, hown1, hb1⟩
      have Hown1 := hid hown1
      have b1 : Hid (Below wr.heap.size wr w1) := ((Below.refl _ wr).alloc (Nat.le_refl _) _).trans hb1
      clear hown1 hb1 co' co cn
      gi_wp2_with fail
      refine ⟨trivial, nodepth (ro := none), (callsIn_wide.2 (appendNumber_any wr.heap.size _ _ k Hown1.out b1.out.size (by simp [be8_length]))).mono ?_⟩
      rintro _ w2 ⟨v2, rfl, hown2, hb2⟩
      obtain ⟨a2, cap2, rfl, hB2, hc2⟩ := bytes_of_own hown2
      have HB2 := hid hB2
      have b2 : Hid (Below wr.heap.size wr w2) := b1.out.trans hb2
      have l2 : ([115] ++ be8 once ++ be8 k).length = 17 := by simp [be8_length]
      clear hown2 hb2 Hown1 b1 hB2
      obtain ⟨m2, hm2⟩ : ∃ m2, m2 = [115] ++ be8 once ++ be8 k := ⟨_, rfl⟩
      rw [← hm2] at HB2 hc2 l2 ⊢
      have Hm : Hid (hmac key m2 = sblock key once k) := by
        show _ = _
        rw [hm2]
        unfold sblock
        rw [List.append_assoc]
        rfl
      clear hm2
      gi_wp2_with fail
      refine ⟨trivial, nodepth (ro := none), (callsIn_wide.2 (tag_any key (some ⟨bk, 0, none⟩) 32 32 HK.out.len.symm (HK.out.bytes (HSk.out.below b2.out).key) (by rw [HK.out.len]; omega) (by rw [HK.out.len]; omega) m2 a2 17 cap2 l2.symm HB2.out (by omega) hc2 (HSk.out.tab.below b2.out))).mono ?_⟩
      rintro _ w3 ⟨O, rfl, hO, hb3⟩
      have b3 : Hid (Below wr.heap.size wr w3) := Below.on' b2.out hb3
      have HJ3 : Hid (J (blkL key once k) w3) := HJ.out _ _ _ none HJk.out (grown_of_below b3.out) (fun r e => by cases e)
      have HS3 : Hid (Src bn bo bk K once N w3) := HSk.out.below b3.out
      obtain ⟨fn, tmps, assign, body, hy, hR⟩ := HY.out _ ⟨sblock key once k, sblock_len key once k⟩ w3 HJ3.out (by rw [blkL_length]; exact hlt)
      rw [show bvs (⟨sblock key once k, sblock_len key once k⟩ : Blk).1 = O by rw [hO.eq, Hm.out]] at hy
      have HR := hid hR
      clear hb3 hO HB2 hR
      gi_wp2_with fail
      refine ⟨nodepth (ro := none), HR.out.mono ?_⟩
      rintro e W3 (⟨rfl, hJ3, hk3⟩ | ⟨rfl, hJx3⟩)
      · have HS4 : Hid (Src bn bo bk K once N W3) := Hsrc.out _ _ hk3 HS3.out
        have HJ4 : Hid (J (blkL key once (k + 1)) W3) := by
          show J _ _
          rw [blkL_succ]; exact hJ3
        clear hJ3 hk3 HS3 HJ3 HR hy
        gi_wp2
        go_roundw
        case rel => exact ⟨k + 1, by omega, by go_num, HJ4.out, HS4.out⟩
        case measure => simp [intOf]; omega
      · have HX := hid hJx3
        clear hJx3 HR hy HJ3 HS3
        gi_wp2
        refine bodyPost_ret (results_none rfl _ _ _) rfl ?_
        exact ⟨⟨_, rfl⟩, .inr ⟨_, trivial, HX.out⟩⟩
    · have q3 : ¬ (k : Int) * 32 < (N : Int) := by unfold nblk at hlt; omega
      gi_wp2
      go_end0
      exact ⟨⟨_, rfl⟩, .inl ⟨_, by rw [show k = nblk N by omega], HJk.out⟩⟩
theorem stream_stops (n B : Nat) {K : Array Value} {key : List UInt8} (hK : HV K key) (once N : Nat) (hN : N ≤ 1000000) {Kp : World → World → Prop} (hsrc : ∀ A C, Kp A C → Src (B + 2) (B + 1) B K once N A → Src (B + 2) (B + 1) B K once N C) (w : World) (hS : Src (B + 2) (B + 1) B K once N w) :
    SeqStopsK Fence.wide n Tryd.prog 128 #[.pointer (some ⟨B + 2, 0, none⟩), .pointer (some ⟨B + 1, 0, none⟩), .pointer (some ⟨B, 0, none⟩)] (fun x : Blk => #[.agg (bvs x.1)]) Kp (fun ys => ys = blkL key once (nblk N)) (fun _ => True) (nblk N) w :=
  fun l J Jx W hW hJ _ hY h0 => stream1_in n l (B + 2) (B + 1) B hK once N hN hsrc J Jx W hJ hY (hS.below hW) h0
set_option maxHeartbeats 400000 in
theorem stream_any {w : World} {K : Array Value} {key : List UInt8} (hK : HV K key) (once N : Nat) :
    Calls Tryd.prog 115 #[.agg K, .int .u64 (once : Int), .int .i64 (N : Int)] w fun e w' => e = .returned (.func (.func 128) #[] #[.pointer (some ⟨w.heap.size + 2, 0, none⟩), .pointer (some ⟨w.heap.size + 1, 0, none⟩), .pointer (some ⟨w.heap.size, 0, none⟩)]) ∧
      w' = ((w.alloc (.cells K 69)).alloc (.cells #[.int .u64 (once : Int)] 141)).alloc (.cells #[.int .i64 (N : Int)] 3) := by
  go_enter Tryd.func115, Tryd.ntmps115
  go_wp2
  go_ret
  exact ⟨rfl, rfl⟩
end Go.Proofs.YthfmpebgmojcaaaDoor.Ky
/- Operations on boxes of rows of bytes, for regions that are gone through by hand; the end of the region of 'out = append(out, b)'. -/
namespace Go.Proofs.YthfmpebgmojcaaaDoor.Ky
open Go.RowKit Go.Shelf
set_option linter.unusedVariables false
set_option maxRecDepth 20000
theorem wpIn_act {F : Fence} {n : Nat} {P : Program} {c : Code} {Q : Exit → Act → World → Prop} (a : Act) {w : World} (h : ∀ A, A = a → c.wpIn F n P Q A w) : c.wpIn F n P Q a w := h a rfl
section
variable {ops : Array Oper} {S : World → Prop} {op : Oper} {a : Act}
theorem y_loadB (hw : Region.wanted op (yielded ops a.tmps) = true) (x : Operand) (ho : op.op = .load 40 x) (g : Nat) (ad : Option Addr) (n c : Nat) (hx : a.eval x = .pointer (some ⟨g, 0, none⟩)) (hS : ∀ w, S w → w.cell? ⟨g, 0, none⟩ = some (.slice ad n c)) : YieldsIf Tryd.prog ops S op (.slice ad n c) a := by
  refine .inl ⟨hw, fun w hw' => ?_⟩
  have h1 := hS w hw'
  unfold execOp
  simp only [ho, hx]
  simp [go_sem, h1]
theorem y_load8 (hw : Region.wanted op (yielded ops a.tmps) = true) (x : Operand) (ho : op.op = .load 5 x) (g k : Nat) (c : UInt8) (hx : a.eval x = .pointer (some ⟨g, k, none⟩)) (hS : ∀ w, S w → w.cell? ⟨g, k, none⟩ = some (.int .u8 (c.toNat : Int))) : YieldsIf Tryd.prog ops S op (.int .u8 (c.toNat : Int)) a := by
  refine .inl ⟨hw, fun w hw' => ?_⟩
  have h1 := hS w hw'
  unfold execOp
  simp only [ho, hx]
  simp [go_sem, h1]
theorem y_len (hw : Region.wanted op (yielded ops a.tmps) = true) (t : Nat) (ho : op.op = .call { callee := .builtin .len, args := #[.tmp t], argTypes := #[40] }) (ht : op.type = 3) (ad : Option Addr) (n c : Nat) (hx : a.eval (.tmp t) = .slice ad n c) : YieldsIf Tryd.prog ops S op (.int .i64 (n : Int)) a := by
  refine .inl ⟨hw, fun w _ => ?_⟩
  have hx' : a.tmps[t]?.getD undef = .slice ad n c := by simpa [Act.eval] using hx
  unfold execOp
  simp only [ho, ht]
  simp [go_sem, hx']
theorem y_index8 (hw : Region.wanted op (yielded ops a.tmps) = true) (x y : Operand) (ho : op.op = .indexAddr 40 x y) (g o n c k : Nat) (hx : a.eval x = .slice (some ⟨g, o, none⟩) n c) (hy : a.eval y = .int .i64 (k : Int)) (hk : k < n) : YieldsIf Tryd.prog ops S op (.pointer (some ⟨g, o + k, none⟩)) a := by
  refine .inl ⟨hw, fun w _ => ?_⟩
  have h1 : (k : Int) < (n : Int) := by omega
  have h0 : (0 : Int) ≤ (k : Int) := by omega
  unfold execOp
  simp only [ho, hx, hy]
  simp [go_sem, h0, h1]
theorem y_xor8 (hw : Region.wanted op (yielded ops a.tmps) = true) (x y : Operand) (ho : op.op = .binOp .xor 5 x y 5) (p q : UInt8) (hx : a.eval x = .int .u8 (p.toNat : Int)) (hy : a.eval y = .int .u8 (q.toNat : Int)) : YieldsIf Tryd.prog ops S op (.int .u8 ((p ^^^ q).toNat : Int)) a := by
  refine .inl ⟨hw, fun w _ => ?_⟩
  have h1 : bits .xor .u8 (p.toNat : Int) (q.toNat : Int) = ((p ^^^ q).toNat : Int) := b_xor p q
  obtain ⟨r, hr⟩ : ∃ r, r = p ^^^ q := ⟨_, rfl⟩
  rw [← hr] at h1 ⊢
  clear hr
  unfold execOp
  simp only [ho, hx, hy]
  simp [go_sem, h1]
end
theorem run_min {op : Oper} {a : Act} (t : Nat) (ho : op.op = .call { callee := .builtin .min, args := #[.const (.int .i64 32), .tmp t], argTypes := #[3, 3] }) (ht : op.type = 3) (k : Int) (d : Nat) (hx : a.eval (.tmp t) = .int .i64 k) (hd : min (32 : Int) k = (d : Int)) (w : World) : (execOp a.eval op).run Tryd.prog w = .ok (.value (.int .i64 (d : Int))) w := by
  have hx' : a.tmps[t]?.getD undef = .int .i64 k := by simpa [Act.eval] using hx
  unfold execOp
  simp only [ho, ht]
  simp [go_sem, hx']
  split <;> omega
theorem wp_build1 {o : Oper} {a : Act} {w : World} {K : Act → World → Prop} {Q : Exit → Act → World → Prop} (t : Operand) (ho : o.op = .buildSlice 40 1 #[(0, t)]) (x : UInt8) (h0 : a.eval t = .int .u8 (x.toNat : Int))
    (h : K (a.put o.dst (.slice (some ⟨w.heap.size, 0, none⟩) 1 1)) (w.alloc (.cells (cellsOf [x]).toArray 5))) : o.wp Tryd.prog a w K Q := by
  unfold Oper.wp execOp
  simp only [ho, List.map_toArray, List.map_cons, List.map_nil, h0]
  simp [go_sem]
  exact h
theorem wp_storeB {o : Oper} {a : Act} {w : World} {K : Act → World → Prop} {Q : Exit → Act → World → Prop} (x y : Operand) (ho : o.op = .store 40 x y) (g : Nat) (v : Value) (ad : Option Addr) (n c : Nat) (hx : a.eval x = .pointer (some ⟨g, 0, none⟩)) (hy : a.eval y = .slice ad n c) (hv : Boxed w g 40 v)
    (h : K (a.put o.dst undef) (w.setCell ⟨g, 0, none⟩ (.slice ad n c))) : o.wp Tryd.prog a w K Q := by
  have h1 := hv.cell
  have h2 := hv.frozen
  unfold Oper.wp execOp
  simp only [ho, hx, hy]
  simp [go_sem, h1, h2]
  exact h
theorem tail7 {ops : Array Oper} {listed : Array Bool} {fuel : Nat} {S : World → Prop} {Q : Exit → Act → World → Prop} {A : Act} {w : World} (o9 o10 : Oper) (h9 : ops[9]? = some o9) (h10 : ops[10]? = some o10) (g9 : o9.guard = none) (g10 : o10.guard = none)
    (p9 : o9.op = .call { callee := .builtin .append, args := #[.tmp 32, .tmp 40], argTypes := #[40, 40] }) (p10 : o10.op = .store 40 (.tmp 7) (.tmp 41)) (d9 : o9.dst = some 41) (d10 : o10.dst = none)
    (r9 : Region.ready .any ops listed = [9]) (r10 : Region.ready .any ops (listed.setIfInBounds 9 true) = [10]) (r11 : Region.ready .any ops ((listed.setIfInBounds 9 true).setIfInBounds 10 true) = [])
    (B g : Nat) (v : Value) (xs : List UInt8) (x : UInt8) (sz : A.tmps.size = 44) (e32 : A.eval (.tmp 32) = v) (e40 : A.eval (.tmp 40) = .slice (some ⟨w.heap.size, 0, none⟩) 1 1) (e7 : A.eval (.tmp 7) = .pointer (some ⟨g, 0, none⟩))
    (hv : Boxed w g 40 v) (hown : w.ownsRow B 5 1 v xs.length (cellsOf xs)) (hB : B ≤ w.heap.size) (hg : B ≤ g) (hl : xs.length ≤ 1000000)
    (hS : ∀ w', Below B w w' → (∀ j, j < w.heap.size → some j ≠ v.ownBlock → j ≠ g → w'.heap[j]? = w.heap[j]?) → S w')
    (h : ∀ v' w', Boxed w' g 40 v' → w'.ownsRow B 5 1 v' (xs ++ [x]).length (cellsOf (xs ++ [x])) → KeepsOthers w w' → Below B w w' → (∀ j, j < w.heap.size → some j ≠ v.ownBlock → j ≠ g → w'.heap[j]? = w.heap[j]?) → (∀ j, v'.ownBlock = some j → v.ownBlock = some j ∨ w.heap.size ≤ j) → Q .normal ((A.put (some 41) v').put none undef) w') :
    wpAnyH Tryd.prog .any ops Q S (fuel + 2) listed A (w.alloc (.cells (cellsOf [x]).toArray 5)) := by
  obtain ⟨i0, hi, hz0, hz1, hz2⟩ := info_parts Tryd.info5
  refine wpAnyH_all (rs := [9]) r9 (by simp) fun i hmem => ?_
  obtain rfl : i = 9 := by simpa using hmem
  refine wpOp_own h9 g9 fun K' hK' => ?_
  refine wp_append_lies _ (.tmp 32) (.tmp 40) 40 p9 B 5 i0 _ 1 1 Tryd.underlying40 hi hz0 hz1 hz2 rfl (by omega) v xs.length (cellsOf xs) e32 (hown.alloc _) ⟨w.heap.size, 0, none⟩ 1 1 (cellsOf [x]) e40 (by simp [cellsOf]) (World.news_of_block (cs := (cellsOf [x]).toArray) (t := 5) (fr := (0, 0)) (heap_alloc_new w _)) (cellsOf_one [x]) (by omega) (by unfold maxLen; omega) (by omega) (by simp; omega) _ rfl ?_
  intro g' cap' w1 hown' hgrow hat hlt
  rw [← cellsOf_append] at hown'
  obtain ⟨hv1, hv2, hr2, hk2, hb2⟩ := hv.appended (by decide) hown hB hg hown' hgrow
  have hb1 : Below B w w1 := by
    refine ((Below.refl B w).alloc hB _).grown hgrow (by simp; omega) fun j ej => ?_
    exact (hown.lt j ej).1
  have ho1 : ∀ j, j < w.heap.size → some j ≠ v.ownBlock → j ≠ g → w1.heap[j]? = w.heap[j]? := fun j hj h1 h2 => by
    rw [hgrow.block j (by simp; omega) h1]
    exact Below.heap_alloc _ _ _ hj
  have ho2 : ∀ j, j < w.heap.size → some j ≠ v.ownBlock → j ≠ g → (w1.setCell ⟨g, 0, none⟩ (.slice (some ⟨g', 0, none⟩) (xs.length + 1) cap')).heap[j]? = w.heap[j]? := fun j hj h1 h2 =>
    ((grownBy_setCell' w1 g _).block j (by have := hgrow.size; simp at this; omega) (fun e => h2 (by cases e; rfl))).trans (ho1 j hj h1 h2)
  rw [d9]
  refine hK' _ _ ⟨hS _ hb1 ho1, ?_⟩
  clear hK' K' hmem
  refine wpAnyH_all (rs := [10]) r10 (by simp) fun i hmem => ?_
  obtain rfl : i = 10 := by simpa using hmem
  refine wpOp_own h10 g10 fun K' hK' => ?_
  refine wp_storeB (.tmp 7) (.tmp 41) p10 g v _ _ _ (evn e7) (ev_eq _ _ (by simp [sz])) hv1 ?_
  rw [d10]
  refine hK' _ _ ⟨hS _ hb2 ho2, ?_⟩
  refine wpAnyH_done r11 (h _ _ hv2 ?_ hk2 hb2 ?_ ?_) _
  · rw [List.length_append]; exact hr2
  · exact ho2
  · intro j hj
    have e2 : g' = j := by simpa [Value.ownBlock] using hj
    subst e2
    rcases hat with h1 | h1
    · exact .inl h1
    · refine .inr ?_
      rw [h1]
      simp
end Go.Proofs.YthfmpebgmojcaaaDoor.Ky
/- A text crossed with the stream: seal.crossed. -/
namespace Go.Proofs.YthfmpebgmojcaaaDoor.Ky
open Go.RowKit Go.Shelf
set_option linter.unusedVariables false
set_option maxRecDepth 20000
attribute [local go_sem] Oper.semAt_some
theorem own_made (w : World) (n : Nat) (hn : n ≤ 1000000) : (w.alloc (.cells (madeCells (Value.int .u8 0).cells n) 5)).ownsRow w.heap.size 5 1 (.slice (some ⟨w.heap.size, 0, none⟩) 0 n) 0 (cellsOf []) :=
  ⟨rfl, .inr ⟨w.heap.size, n, _, rfl, Nat.le_refl _, heap_alloc_new w _, by omega, by unfold maxLen; omega, by simp [size_madeCells], by simp [cellsOf]⟩⟩
theorem loadIn_hash {ro : Option Nat} {n : Nat} {ops : Array Oper} {rest : List Oper} {o : Oper} {a : Act} {w : World} {Q : Exit → Act → World → Prop} (hgd : o.guard = none) (x : Operand) (ho : o.op = .load 69 x) (g : Nat) (hx : a.eval x = .pointer (some ⟨g, 0, none⟩)) {O : Array Value} {l : List UInt8} (hO : HV O l) (hg : w.heap[g]? = some (.cells O 69 (0, 0)))
    (h : wpListIn (WideAt ro) n Tryd.prog ops Q rest (a.put o.dst (.agg O)) w) : wpListIn (WideAt ro) n Tryd.prog ops Q (o :: rest) a w :=
  stepIn_of (fun a' w' => a' = a.put o.dst (.agg O) ∧ w' = w) (fun c e => by rw [ho] at e; cases e) (wpList_load_row hgd 69 x ho g hx 69 O (0, 0) _ hg Tryd.underlying69 rfl hO.info (wpList_nil ⟨rfl, rfl, rfl⟩)) (by rintro _ _ ⟨rfl, rfl⟩; exact h)
theorem allocIn_hash {ro : Option Nat} {n : Nat} {ops : Array Oper} {rest : List Oper} {o : Oper} {a : Act} {w : World} {Q : Exit → Act → World → Prop} (hgd : o.guard = none) (ho : o.op = .alloc 69) (Z : Array Value) (hz : ∀ w, (zeroValue 69).run Tryd.prog w = .ok (.agg Z) w)
    (h : wpListIn (WideAt ro) n Tryd.prog ops Q rest (a.put o.dst (.pointer (some ⟨w.heap.size, 0, none⟩))) (w.alloc (.cells Z 69))) : wpListIn (WideAt ro) n Tryd.prog ops Q (o :: rest) a w :=
  stepIn_of (fun a' w' => a' = a.put o.dst (.pointer (some ⟨w.heap.size, 0, none⟩)) ∧ w' = w.alloc (.cells Z 69)) (fun c e => by rw [ho] at e; cases e) (wpList_alloc_row hgd 69 ho Z hz (wpList_nil ⟨rfl, rfl, rfl⟩)) (by rintro _ _ ⟨rfl, rfl⟩; exact h)
theorem storeIn_hash {ro : Option Nat} {n : Nat} {ops : Array Oper} {rest : List Oper} {o : Oper} {a : Act} {w : World} {Q : Exit → Act → World → Prop} (hgd : o.guard = none) (x y : Operand) (ho : o.op = .store 69 x y) (g : Nat) {O Y : Array Value} {l m : List UInt8} (hO : HV O l) (hY : HV Y m) (hx : a.eval x = .pointer (some ⟨g, 0, none⟩)) (hy : a.eval y = .agg O)
    (hg : w.heap[g]? = some (.cells Y 69 (0, 0))) (h : wpListIn (WideAt ro) n Tryd.prog ops Q rest (a.put o.dst undef) (w.setRow g O)) : wpListIn (WideAt ro) n Tryd.prog ops Q (o :: rest) a w :=
  stepIn_of (fun a' w' => a' = a.put o.dst undef ∧ w' = w.setRow g O) (fun c e => by rw [ho] at e; cases e) (wpList_store_row hgd 69 x y ho g O hx hy 69 Y hg hO.info (hY.size.trans hO.size.symm) hO.one (wpList_nil ⟨rfl, rfl, rfl⟩)) (by rintro _ _ ⟨rfl, rfl⟩; exact h)
theorem xorL_snoc (b : UInt8) : ∀ (s t : List UInt8) (h : s.length < t.length), xorL (s ++ [b]) t = xorL s t ++ [b ^^^ t[s.length]]
  | [], x :: t, h => by simp [xorL]
  | y :: s, x :: t, h => by
    have ih := xorL_snoc b s t (by simpa using h)
    simp only [xorL, List.cons_append, List.zipWith_cons_cons, List.length_cons, List.getElem_cons_succ] at ih ⊢
    rw [ih]
  | [], [], h => by simp at h
  | _ :: _, [], h => by simp at h
theorem xorL_more (r : List UInt8) : ∀ (s t : List UInt8) (h : t.length ≤ s.length), xorL (s ++ r) t = xorL s t
  | s, [], h => by simp [xorL]
  | y :: s, x :: t, h => by
    have ih := xorL_more r s t (by simpa using h)
    simp only [xorL, List.cons_append, List.zipWith_cons_cons] at ih ⊢
    rw [ih]
  | [], _ :: _, h => by simp at h
def flat (pre : List Blk) : List UInt8 := (pre.map (·.1)).flatten
theorem flat_len (pre : List Blk) : (flat pre).length = 32 * pre.length := by
  induction pre with
  | nil => rfl
  | cons x pre ih => simp only [flat, List.map_cons, List.flatten_cons, List.length_append, List.length_cons] at ih ⊢; rw [ih, x.2]; omega
theorem flat_snoc (pre : List Blk) (x : Blk) : flat (pre ++ [x]) = flat pre ++ x.1 := by simp [flat]
theorem flat_blkL (key : List UInt8) (once k : Nat) : flat (blkL key once k) = strm key once k := by simp [flat, blkL, strm, Function.comp_def]
def outL (pre : List Blk) (text : List UInt8) : List UInt8 := xorL (flat pre) text
theorem outL_len (pre : List Blk) (text : List UInt8) : (outL pre text).length = min (32 * pre.length) text.length := by rw [outL, xorL_len, flat_len]
theorem outL_all (key : List UInt8) (once : Nat) (text : List UInt8) : outL (blkL key once (nblk text.length)) text = cross key once text := by rw [outL, flat_blkL]; rfl
def midL (pre : List Blk) (x : Blk) (text : List UInt8) (k : Nat) : List UInt8 := xorL (flat pre ++ x.1.take k) text
theorem midL_zero (pre : List Blk) (x : Blk) (text : List UInt8) : midL pre x text 0 = outL pre text := by simp [midL, outL]
theorem midL_len (pre : List Blk) (x : Blk) (text : List UInt8) (k : Nat) (h : k ≤ min 32 (text.length - (outL pre text).length)) : (midL pre x text k).length = (outL pre text).length + k := by
  rw [outL_len] at *
  rw [midL, xorL_len, List.length_append, flat_len, List.length_take, x.2]
  omega
theorem midL_step (pre : List Blk) (x : Blk) (text : List UInt8) (k j : Nat) (h : k < min 32 (text.length - (outL pre text).length)) (hj : j < text.length) (e : j = (outL pre text).length + k) : midL pre x text (k + 1) = midL pre x text k ++ [x.1[k]'(by rw [x.2]; omega) ^^^ text[j]] := by
  rw [outL_len] at h e
  have hk : k < x.1.length := by rw [x.2]; omega
  have hl : (flat pre ++ x.1.take k).length = j := by rw [List.length_append, flat_len, List.length_take, x.2]; omega
  unfold midL
  rw [List.take_succ_eq_append_getElem hk, ← List.append_assoc, xorL_snoc _ _ _ (by omega)]
  simp only [hl]
theorem midL_end (pre : List Blk) (x : Blk) (text : List UInt8) : midL pre x text (min 32 (text.length - (outL pre text).length)) = outL (pre ++ [x]) text := by
  unfold midL
  rw [show outL (pre ++ [x]) text = xorL (flat pre ++ x.1) text by rw [outL, flat_snoc]]
  by_cases hd : text.length - (outL pre text).length < 32
  · rw [Nat.min_eq_right (by omega)]
    have e : flat pre ++ x.1 = (flat pre ++ x.1.take (text.length - (outL pre text).length)) ++ x.1.drop (text.length - (outL pre text).length) := by rw [List.append_assoc, List.take_append_drop]
    rw [e]
    refine (xorL_more _ _ _ ?_).symm
    rw [List.length_append, flat_len, List.length_take, x.2]
    rw [outL_len] at hd ⊢
    omega
  · rw [Nat.min_eq_left (by omega), List.take_of_length_le (by rw [x.2]; omega)]
structure OutAt (h : Nat) (w : World) (xs : List UInt8) (a : Option Addr) (n cap : Nat) (W : World) : Prop where
  box : ∃ v, Boxed W (h + 3) 40 v ∧ W.ownsRow h 5 1 v xs.length (cellsOf xs) ∧ ∀ g, v.ownBlock = some g → g = h + 2 ∨ h + 7 ≤ g
  txt : Boxed W (h + 1) 40 (.slice a n cap)
  bel : Below h w W
  siz : h + 7 ≤ W.heap.size
theorem outAt_own (h : Nat) (w : World) (hw : h = w.heap.size) (f : List Blk → List UInt8) (a : Option Addr) (n cap B : Nat) (hB : h ≤ B) : OwnFrom B (fun pre W => OutAt h w (f pre) a n cap W) := fun s W W' row hs hg hr =>
  ⟨holdsRow_own h (h + 3) 40 5 1 (fun s => (f s).length) (fun s => cellsOf (f s)) (fun _ v => ∀ g, v.ownBlock = some g → g = h + 2 ∨ h + 7 ≤ g) s W W' row hs.box hg (fun r e => (hr r e).2),
   boxed_own (h + 1) 40 (fun (_ : Unit) => Value.slice a n cap) () W W' row hs.txt hg (fun r e => (hr r e).2),
   ownFrom_below (β := Unit) (n₀ := h) (B := B) (w₀ := w) (by omega) hB () W W' row hs.bel hg hr, Nat.le_trans hs.siz hg.size⟩
structure KeepX (h : Nat) (A B : World) : Prop where
  bel : Below h A B
  boxes : ∀ j, h + 4 ≤ j → j < h + 7 → B.heap[j]? = A.heap[j]?
theorem KeepX.trans {h : Nat} {A B C : World} (k : KeepX h A B) (m : KeepX h B C) : KeepX h A C := ⟨k.bel.trans m.bel, fun j h1 h2 => (m.boxes j h1 h2).trans (k.boxes j h1 h2)⟩
theorem KeepX.put {h : Nat} {w : World} (hw : h + 7 ≤ w.heap.size) (W : World) (l : Nat) (o o' : Obj) (hl : w.heap.size ≤ l) (hg : W.heap[l]? = some o) (h1 : o.isCells = false) (h2 : o.isWalk = false) : KeepX h W (W.putObj l o') :=
  ⟨belowK_b (w := w) (by omega) W l o o' hl hg h1 h2, fun j _ h4 => World.putObj_heap_other (by omega)⟩
theorem not_own {W : World} {j : Nat} {t e : TypeId} {c : Array Value} {fr : Nat × Nat} (h : W.heap[j]? = some (.cells c t fr)) (hte : t ≠ e) {base size k : Nat} {v : Value} {xs : List Value} (hr : W.ownsRow base e size v k xs) : some j ≠ v.ownBlock := by
  rcases hr.2 with ⟨rfl, _⟩ | ⟨g, cap, cur, rfl, _, hgb, _⟩
  · simp [Value.ownBlock]
  · intro e'
    obtain rfl : j = g := by simpa [Value.ownBlock] using e'
    have := h.symm.trans hgb
    simp at this
    exact hte this.2.1
theorem minIn {ro : Option Nat} {n : Nat} {ops : Array Oper} {rest : List Oper} {o : Oper} {a : Act} {w : World} {Q : Exit → Act → World → Prop} (hgd : o.guard = none) (t : Nat) (ho : o.op = .call { callee := .builtin .min, args := #[.const (.int .i64 32), .tmp t], argTypes := #[3, 3] }) (ht : o.type = 3) (k : Int) (d : Nat) (hx : a.eval (.tmp t) = .int .i64 k) (hd : min (32 : Int) k = (d : Int))
    (h : wpListIn (WideAt ro) n Tryd.prog ops Q rest (a.put o.dst (.int .i64 (d : Int))) w) : wpListIn (WideAt ro) n Tryd.prog ops Q (o :: rest) a w :=
  stepIn_of (fun a' w' => a' = a.put o.dst (.int .i64 (d : Int)) ∧ w' = w) (fun c e => by rw [ho] at e; cases e) (wpList_plain hgd fun K hK => by unfold Oper.wp; rw [run_min t ho ht k d hx hd w]; exact hK _ _ (wpList_nil ⟨rfl, rfl, rfl⟩)) (by rintro _ _ ⟨rfl, rfl⟩; exact h)
theorem stopL {F : Fence} {n : Nat} {P : Program} {ops : Array Oper} {Q : Exit → Act → World → Prop} {l : List Oper} {a : Act} {w : World} (h : Hid (wpListIn F n P ops Q l a w)) : wpListIn F n P ops Q l a w := h
set_option maxHeartbeats 2000000 in
theorem crossed_any {w : World} {K : Array Value} {key : List UInt8} (hK : HV K key) (once : Nat) (text : List UInt8) (a : Option Addr) (n cap : Nat) (hn : n = text.length) (hB : Bytes w a text) (hl : text.length ≤ 100000) (hT : KAt w) :
    Calls Tryd.prog 96 #[.agg K, .int .u64 (once : Int), .slice a n cap] w fun e w' => ∃ v, e = .returned v ∧ w'.ownsRow w.heap.size 5 1 v (cross key once text).length (cellsOf (cross key once text)) ∧ Below w.heap.size w w' := by
  obtain ⟨i0, hi, hz0, hz1, hz2⟩ := info_parts Tryd.info5
  have HK := hid hK
  have HB := hid hB
  have HT := hid hT
  have hln : n ≤ 100000 := by omega
  have Hn := hid hn
  have hinf : (Tryd.prog.info? 69).map (·.size) = some K.size := hK.info
  clear hK hB hT hl hn
  refine (callsIn_wide (n := 3)).1 ?_
  refine callsIn_of_wp_marks Tryd.func96 rfl trivial ?_ rfl
  simp only [Tryd.ntmps96, List.size_toArray, List.length_cons, List.length_nil, Nat.reduceAdd, Nat.reduceSub, Array.replicate_succ, Array.replicate_zero, List.push_toArray, List.append_toArray, List.nil_append, List.cons_append]
  gi_wp2_with fail
  rw [run_make (P := Tryd.prog) _ 40 5 i0 (.int .u8 0) Tryd.underlying40 hi hz0 .i64 .i64 0 (n : Int) (by omega) (by omega) (by rw [hz2]; omega) (by omega)]
  simp only [Result.andThen]
  rw [Oper.uponIn_value, show (0 : Int).toNat = 0 from rfl, show (n : Int).toNat = n by omega, hz1, Nat.mul_one]
  have e1 : ((w.alloc (.cells K 69)).alloc (.cells #[.slice a n cap] 40)).heap.size = w.heap.size + 1 + 1 := by simp
  rw [e1]
  clear hi hz0 hz1 hz2 e1
  obtain ⟨W1, hW1⟩ : ∃ W1, W1 = ((w.alloc (.cells K 69)).alloc (.cells #[.slice a n cap] 40)).alloc (.cells (madeCells (Value.int .u8 0).cells n) 5) := ⟨_, rfl⟩
  have s1 : W1.heap.size = w.heap.size + 3 := by rw [hW1]; simp only [World.size_alloc]
  have k1 : Hid (W1.heap[w.heap.size]? = some (.cells K 69 (0, 0))) := by
    show _ = _
    rw [hW1, Below.heap_alloc _ _ _ (by simp; omega)]; exact heap_alloc2_old w _ _
  have x1 : W1.cell? ⟨w.heap.size + 1, 0, none⟩ = some (.slice a n cap) := by
    rw [hW1, World.cell?_of_block (w := (w.alloc (.cells K 69)).alloc (.cells #[.slice a n cap] 40)) (Below.heap_alloc _ _ _ (by simp))]
    rw [cell_of_row _ _ _ _ _ _ (heap_alloc2_new w _ _)]
    rfl
  have t1 : Hid (Boxed W1 (w.heap.size + 1) 40 (.slice a n cap)) := by
    show Boxed _ _ _ _
    have h := (Boxed.new (w.alloc (.cells K 69)) 40 (.slice a n cap)).alloc (.cells (madeCells (Value.int .u8 0).cells n) 5)
    rw [World.size_alloc, ← hW1] at h
    exact h
  have b1 : Hid (Below w.heap.size w W1) := by
    show Below _ _ _
    rw [hW1]; exact (((Below.refl _ w).alloc (Nat.le_refl _) _).alloc (by simp) _).alloc (by simp; omega) _
  have o1 : Hid (W1.ownsRow w.heap.size 5 1 (.slice (some ⟨w.heap.size + 2, 0, none⟩) 0 n) 0 (cellsOf [])) := by
    show World.ownsRow _ _ _ _ _ _ _
    have h := own_made ((w.alloc (.cells K 69)).alloc (.cells #[.slice a n cap] 40)) n (by omega)
    rw [show ((w.alloc (.cells K 69)).alloc (.cells #[.slice a n cap] 40)).heap.size = w.heap.size + 2 by simp] at h
    rw [hW1]
    exact own_mono h (by omega)
  have x2 : (W1.alloc (.cells #[.slice (some ⟨w.heap.size + 1 + 1, 0, none⟩) 0 n] 40)).cell? ⟨w.heap.size + 1, 0, none⟩ = some (.slice a n cap) := (World.cell?_of_block (Below.heap_alloc _ _ _ (by show w.heap.size + 1 < _; omega))).trans x1
  rw [← hW1]
  clear hW1
  have k2 : Hid ((W1.alloc (.cells #[.slice (some ⟨w.heap.size + 1 + 1, 0, none⟩) 0 n] 40)).heap[w.heap.size]? = some (.cells K 69 (0, 0))) := (Below.heap_alloc _ _ _ (by omega)).trans k1.out
  gi_wp2_with (with_reducible show Go.wpListIn _ _ _ _ _ ({ dst := some 14, op := _, type := _, pos := _, after := _, guard := _ } :: _) _ _; refine stopL ?_)
  show wpListIn _ _ _ _ _ _ _ _
  refine loadIn_hash (ro := none) rfl (.tmp 3) rfl w.heap.size rfl HK.out k2.out ?_
  show wpListIn Fence.wide _ _ _ _ _ _ _
  gi_wp2_with fail
  refine ⟨trivial, (callsIn_wide.2 (stream_any HK.out once n)).mono ?_⟩
  rintro _ w' ⟨rfl, rfl⟩
  gi_wp2_with fail
  obtain ⟨W2, hW2⟩ : ∃ W2, W2 = W1.alloc (.cells #[.slice (some ⟨w.heap.size + 1 + 1, 0, none⟩) 0 n] 40) := ⟨_, rfl⟩
  have s2 : W2.heap.size = w.heap.size + 3 + 1 := by rw [hW2, World.size_alloc, s1]
  have out2 : Boxed W2 (w.heap.size + 3) 40 (.slice (some ⟨w.heap.size + 2, 0, none⟩) 0 n) := by
    have h := Boxed.new W1 40 (.slice (some ⟨w.heap.size + 1 + 1, 0, none⟩) 0 n)
    rw [s1, ← hW2] at h
    exact h
  have own2 : W2.ownsRow w.heap.size 5 1 (.slice (some ⟨w.heap.size + 2, 0, none⟩) 0 n) 0 (cellsOf []) := by rw [hW2]; exact o1.out.alloc _
  have b2 : Below w.heap.size w W2 := by rw [hW2]; exact b1.out.alloc (by omega) _
  have t2 : Boxed W2 (w.heap.size + 1) 40 (.slice a n cap) := by rw [hW2]; exact (t1.out.alloc _)
  obtain ⟨W0, hW0⟩ : ∃ W0, W0 = ((W2.alloc (.cells K 69)).alloc (.cells #[.int .u64 (once : Int)] 141)).alloc (.cells #[.int .i64 (n : Int)] 3) := ⟨_, rfl⟩
  have s0 : W0.heap.size = w.heap.size + 7 := by rw [hW0]; simp only [World.size_alloc]; omega
  have out0 : Hid (OutAt w.heap.size w [] a n cap W0) := by
    show OutAt _ _ _ _ _ _ _
    rw [hW0]
    exact ⟨⟨_, ((out2.alloc _).alloc _).alloc _, ((own2.alloc _).alloc _).alloc _, fun g hg => .inl (by simp [Value.ownBlock] at hg; omega)⟩, ((t2.alloc _).alloc _).alloc _, ((b2.alloc (by omega) _).alloc (by simp; omega) _).alloc (by simp; omega) _, by simp only [World.size_alloc]; omega⟩
  have src0 : Hid (Src (w.heap.size + 3 + 1 + 2) (w.heap.size + 3 + 1 + 1) (w.heap.size + 3 + 1) K once n W0) := by
    show Src _ _ _ _ _ _ _
    have e1 : (W2.alloc (.cells K 69)).heap.size = w.heap.size + 3 + 1 + 1 := by rw [World.size_alloc, s2]
    have e2 : ((W2.alloc (.cells K 69)).alloc (.cells #[.int .u64 (once : Int)] 141)).heap.size = w.heap.size + 3 + 1 + 2 := by rw [World.size_alloc, e1]
    have n0 := Boxed.new ((W2.alloc (.cells K 69)).alloc (.cells #[.int .u64 (once : Int)] 141)) 3 (.int .i64 (n : Int))
    have o0 := (Boxed.new (W2.alloc (.cells K 69)) 141 (.int .u64 (once : Int))).alloc (.cells #[.int .i64 (n : Int)] 3)
    have c0 : W0.heap[w.heap.size + 3 + 1]? = some (.cells K 69 (0, 0)) := by
      rw [hW0, Below.heap_alloc _ _ _ (by omega), Below.heap_alloc _ _ _ (by omega), ← s2]
      exact heap_alloc_new W2 _
    rw [e2, ← hW0] at n0
    rw [e1, ← hW0] at o0
    exact ⟨n0, o0, c0, HT.out.below out0.out.bel⟩
  have hG : 0 < w.heap.size := World.block_lt_of_cell? _ _ (HT.out 0 (by omega))
  have hm : Tryd.prog.follows .mixedOrders = true := by kernel_rfl
  obtain ⟨Z, hZ⟩ : ∃ Z, Z = bvs (List.replicate 32 0) := ⟨_, rfl⟩
  have zh := (zero_of_info zero_hash).1
  rw [← hZ] at zh
  have hz : Hid (HV Z (List.replicate 32 0)) := by
    show HV _ _
    rw [hZ]; exact hv_zero
  have zh := hid zh
  have hl7 : text.length ≤ 100000 := by rw [← Hn.out]; exact hln
  rw [← hW2, ← hW0]
  clear hZ hW0 hW2 out2 own2 b2 t2 o1 b1 k1 x1 x2 k2 t1
  refine wpIn_rangeFunc_ownH rfl (by omega) (gf := 128) (lb := #[.pointer (some ⟨w.heap.size + 3 + 1 + 2, 0, none⟩), .pointer (some ⟨w.heap.size + 3 + 1 + 1, 0, none⟩), .pointer (some ⟨w.heap.size + 3 + 1, 0, none⟩)]) rfl trivial (enters_of Tryd.func128 (by kernel_rfl) rfl)
    (stream_stops (3 - 1) (w.heap.size + 3 + 1) HK.out once n (by omega) (Kp := KeepX w.heap.size) (fun A C hk hs => ⟨(hk.boxes _ (by omega) (by omega)).trans hs.num, (hk.boxes _ (by omega) (by omega)).trans hs.once, (hk.boxes _ (by omega) (by omega)).trans hs.key, fun i hi => (hk.bel.cell (p := ⟨0, i, none⟩) hG).trans (hs.tab i hi)⟩) W0 src0.out)
    (fun h k => h.trans k) (fun W l o o' h1 h2 h3 h4 => KeepX.put (w := W0) (by omega) W l o o' h1 h2 h3 h4) (Below.refl _ _) (fun _ => rfl)
    (fun pre W => OutAt w.heap.size w (outL pre text) a n cap W) (fun _ _ _ => False)
    (outAt_own w.heap.size w rfl (fun pre => outL pre text) a n cap _ (by omega)) (fun _ _ _ _ _ hs _ _ => hs) out0.out
    (fun x a' W => ∃ Bx, w.heap.size + 7 ≤ Bx ∧ W.heap[Bx]? = some (.cells (bvs x.1) 69 (0, 0)) ∧ a' = { tmps := #[.agg K, .int .u64 (once : Int), .slice a n cap, .pointer (some ⟨w.heap.size, 0, none⟩), undef, .pointer (some ⟨w.heap.size + 1, 0, none⟩), .slice none 0 0, .pointer (some ⟨w.heap.size + 3, 0, none⟩), .pointer (some ⟨Bx, 0, none⟩), undef, undef, .slice a n cap, .int .i64 (n : Int), .slice (some ⟨w.heap.size + 1 + 1, 0, none⟩) 0 n, .agg K, .int .u64 (once : Int), .slice a n cap, .int .i64 (n : Int), .func (.func 128) #[] #[.pointer (some ⟨w.heap.size + 3 + 1 + 2, 0, none⟩), .pointer (some ⟨w.heap.size + 3 + 1 + 1, 0, none⟩), .pointer (some ⟨w.heap.size + 3 + 1, 0, none⟩)], .agg (bvs x.1), undef, undef, undef, undef, undef, undef, undef, undef, undef, undef, undef, undef, undef, undef, undef, undef, undef, undef, undef, undef, undef, undef, undef, undef], defers := [] })
    (fun x a' _ X Y row hs hg hr => by
      obtain ⟨Bx, h1, h2, h3⟩ := hs
      refine ⟨Bx, h1, (hg.block Bx (heap_lt h2) (fun e => ?_)).trans h2, h3⟩
      obtain ⟨_, o, ho, hc⟩ := hr Bx e.symm
      rw [h2] at ho; cases ho; cases hc)
    ?assign ?body ?done ?stop
  case stop =>
    rintro D c pre W hD _ h _
    exact h.elim
  case assign =>
    rintro l pre x W Kk hI hKk
    gi_wp2_with (with_reducible show Go.wpListIn _ _ _ _ _ ({ dst := some 8, op := _, type := _, pos := _, after := _, guard := _ } :: _) _ _; refine stopL ?_)
    show wpListIn _ _ _ _ _ _ _ _
    refine allocIn_hash (ro := some l) rfl rfl Z zh.out ?_
    refine storeIn_hash (ro := some l) rfl (.tmp 8) (.tmp 19) rfl W.heap.size ⟨rfl, x.2⟩ hz.out rfl rfl (heap_alloc_new W _) ?_
    rw [World.setRow_alloc_new]
    refine wpListIn_nil ?_
    have hsz : w.heap.size + 7 ≤ W.heap.size := hI.siz
    refine hKk _ _ ((KeepsOthers.alloc _ _).from _) ⟨(Below.refl _ W).alloc (by omega) _, fun j h1 h2 => Below.heap_alloc _ _ _ (by omega)⟩ ?_ ⟨W.heap.size, hsz, heap_alloc_new W _, ?_⟩
    · obtain ⟨v, h1, h2, h3⟩ := hI.box
      exact ⟨⟨v, h1.alloc _, h2.alloc _, h3⟩, hI.txt.alloc _, hI.bel.alloc (by omega) _, by simp; omega⟩
    · simp [Act.put]
  case body =>
    rintro l pre x a' W hl ⟨r, hr⟩ hI ⟨Bx, hBx, hblk, rfl⟩ hlt
    obtain ⟨v, hv, hown, hG1⟩ := hI.box
    obtain ⟨vd, vc, rfl, _, _⟩ := bytes_of_own hown
    have cT := hI.txt.cell
    have cV := hv.cell
    have Hlm := hid (outL_len pre text)
    obtain ⟨m, hm0⟩ : ∃ m, m = (outL pre text).length := ⟨_, rfl⟩
    have Hm := hid hm0
    have Hmn : m ≤ n := by rw [Hn.out, hm0, outL_len]; omega
    rw [← hm0] at cV
    obtain ⟨d, hd⟩ : ∃ d, d = min 32 (n - m) := ⟨_, rfl⟩
    have Hd := hid hd
    have q1 : IntKind.i64.wrap ((n : Int) - (m : Int)) = (n : Int) - (m : Int) := by rw [IntKind.wrap_i64]; omega
    have q2 : min (32 : Int) ((n : Int) - (m : Int)) = (d : Int) := by omega
    have q3 : (d : Int) ≤ 32 := by omega
    have q4 : d ≤ 32 := by omega
    have HI := hid hI
    have Hv := hid hv
    have Hown := hid hown
    have HG1 := hid hG1
    have Hblk := hid hblk
    clear hm0 hd hI hv hown hG1 hblk
    gi_wp2_with (with_reducible show Go.wpListIn _ _ _ _ _ ({ dst := some 25, op := _, type := _, pos := _, after := _, guard := _ } :: _) _ _; refine stopL ?_)
    show wpListIn _ _ _ _ _ _ _ _
    refine minIn (ro := some l) rfl 24 rfl rfl _ d rfl q2 ?_
    show wpListIn (Fence.wide.inRound l) _ _ _ _ _ _ _
    gi_wp2_with fail
    gi_loopw [28] (fun v28 wr => ∃ k : Nat, k ≤ d ∧ v28 = .int .i64 (k : Int) ∧ OutAt w.heap.size w (midL pre x text k) a n cap wr ∧ wr.heap[Bx]? = some (.cells (bvs x.1) 69 (0, 0)) ∧ KeepsOthers W wr ∧ KeepX w.heap.size W wr) (fun v28 _ => d - (intOf v28).toNat)
    case atStart => exact ⟨0, Nat.zero_le _, rfl, by rw [midL_zero]; exact HI.out, Hblk.out, KeepsOthers.refl _, ⟨Below.refl _ _, fun _ _ _ => rfl⟩⟩
    case round =>
      obtain ⟨k, hk, rfl, hO, hb, hko, hkx⟩ := hrel
      have HO := hid hO
      have Hb := hid hb
      have Hko := hid hko
      have Hkx := hid hkx
      clear hO hb hko hkx HI Hv Hown HG1 Hblk cT cV
      by_cases hkd : k < d
      · have hk32 : k < x.1.length := by rw [x.2]; omega
        have cB : wr.cell? ⟨Bx, k, none⟩ = some (.int .u8 (x.1[k].toNat : Int)) := by rw [cell_of_row _ _ _ _ _ _ Hb.out, bvs_get _ _ hk32]
        obtain ⟨bx, hbx⟩ : ∃ bx, bx = x.1[k] := ⟨_, rfl⟩
        rw [← hbx] at cB
        have Hbx := hid hbx
        clear hbx
        gi_wp2_with fail
        obtain ⟨v, hv, hown, hG1⟩ := HO.out.box
        obtain ⟨vd2, vc2, rfl, _, _⟩ := bytes_of_own hown
        have lx : (midL pre x text k).length = m + k := by rw [midL_len pre x text k (by rw [← Hm.out, ← Hn.out, ← Hd.out]; omega), ← Hm.out]
        have hmk : m + k < n := by have := Hd.out; omega
        have hmt : m + k < text.length := by rw [← Hn.out]; exact hmk
        obtain ⟨ab, ao, ha, hc⟩ := (HB.out.below HO.out.bel) (m + k) hmt
        have Hst := hid (midL_step pre x text k (m + k) (by rw [← Hm.out, ← Hn.out, ← Hd.out]; omega) hmt (by rw [Hm.out]))
        obtain ⟨tx, htx⟩ : ∃ tx, tx = text[m + k] := ⟨_, rfl⟩
        rw [← htx] at hc Hst
        rw [← Hbx.out] at Hst
        clear htx
        subst ha
        rw [lx] at hv hown hG1
        have hcV : wr.drew.cell? ⟨w.heap.size + 3, 0, none⟩ = some (.slice vd2 (m + k) vc2) := hv.cell
        have Hv2 : Hid (Boxed wr.drew (w.heap.size + 3) 40 (.slice vd2 (m + k) vc2)) := hv
        have Hown2 : Hid (wr.drew.ownsRow w.heap.size 5 1 (.slice vd2 (m + k) vc2) (midL pre x text k).length (cellsOf (midL pre x text k))) := by
          show World.ownsRow _ _ _ _ _ _ _
          rw [lx]
          exact hown
        have hS : (fun W9 : World => W9.cell? ⟨w.heap.size + 1, 0, none⟩ = some (.slice (some ⟨ab, ao, none⟩) n cap) ∧ W9.cell? ⟨ab, ao + (m + k), none⟩ = some (.int .u8 (tx.toNat : Int))) wr.drew := ⟨HO.out.txt.cell, hc⟩
        have hab : ab < w.heap.size := by
          obtain ⟨ab', ao', e, hc'⟩ := HB.out (m + k) hmt
          cases e
          exact World.block_lt_of_cell? _ _ hc'
        have hsz : w.heap.size + 7 ≤ wr.heap.size := HO.out.siz
        have hT : wr.drew.cell? ⟨w.heap.size + 1, 0, none⟩ = some (.slice (some ⟨ab, ao, none⟩) n cap) := HO.out.txt.cell
        have hSb : ∀ w' : World, Below w.heap.size wr.drew w' → (∀ j, j < wr.drew.heap.size → some j ≠ (Value.slice vd2 (m + k) vc2).ownBlock → j ≠ w.heap.size + 3 → w'.heap[j]? = wr.drew.heap[j]?) → (w'.cell? ⟨w.heap.size + 1, 0, none⟩ = some (.slice (some ⟨ab, ao, none⟩) n cap) ∧ w'.cell? ⟨ab, ao + (m + k), none⟩ = some (.int .u8 (tx.toNat : Int))) := fun w' h4 h5 =>
          ⟨(World.cell?_of_block (h5 (w.heap.size + 1) (by show _ < wr.heap.size; omega) (fun e => by have := hG1 _ e.symm; omega) (by omega))).trans hT, (h4.cell (p := ⟨ab, ao + (m + k), none⟩) hab).trans hc⟩
        have hcV2 : (wr.drew.alloc (.cells (cellsOf [bx ^^^ tx]).toArray 5)).cell? ⟨w.heap.size + 3, 0, none⟩ = some (.slice vd2 (m + k) vc2) := (World.cell?_of_block (Below.heap_alloc _ _ _ (by show w.heap.size + 3 < wr.heap.size; omega))).trans hcV
        have hS2 : (fun W9 : World => W9.cell? ⟨w.heap.size + 1, 0, none⟩ = some (.slice (some ⟨ab, ao, none⟩) n cap) ∧ W9.cell? ⟨ab, ao + (m + k), none⟩ = some (.int .u8 (tx.toNat : Int))) (wr.drew.alloc (.cells (cellsOf [bx ^^^ tx]).toArray 5)) :=
          hSb _ ((Below.refl _ _).alloc (by show w.heap.size ≤ wr.heap.size; omega) _) (fun j hj _ _ => Below.heap_alloc _ _ _ hj)
        have hfin : ∀ v' (w' : World), Boxed w' (w.heap.size + 3) 40 v' → w'.ownsRow w.heap.size 5 1 v' (midL pre x text k ++ [bx ^^^ tx]).length (cellsOf (midL pre x text k ++ [bx ^^^ tx])) → KeepsOthers wr.drew w' → Below w.heap.size wr.drew w' → (∀ j, j < wr.drew.heap.size → some j ≠ (Value.slice vd2 (m + k) vc2).ownBlock → j ≠ w.heap.size + 3 → w'.heap[j]? = wr.drew.heap[j]?) → (∀ j, v'.ownBlock = some j → (Value.slice vd2 (m + k) vc2).ownBlock = some j ∨ wr.drew.heap.size ≤ j) →
            OutAt w.heap.size w (midL pre x text (k + 1)) (some ⟨ab, ao, none⟩) n cap w' ∧ w'.heap[Bx]? = some (.cells (bvs x.1) 69 (0, 0)) ∧ KeepsOthers W w' ∧ KeepX w.heap.size W w' := by
          intro v' w' h1 h2 h3 h4 h5 h6
          refine ⟨⟨⟨v', h1, by rw [Hst.out]; exact h2, fun g hg => (h6 g hg).elim (hG1 g) (fun hle => .inr (Nat.le_trans hsz hle))⟩, ?_, HO.out.bel.trans (undrew1 h4), Nat.le_trans hsz h4.size⟩, ?_, Hko.out.trans ((KeepsOthers.drew wr).trans h3), Hkx.out.trans ⟨undrew1 h4, fun j hj1 hj2 => h5 j (by show _ < wr.heap.size; omega) (fun e => by have := hG1 _ e.symm; omega) (by omega)⟩⟩
          · exact (h5 (w.heap.size + 1) (by show _ < wr.heap.size; omega) (fun e => by have := hG1 _ e.symm; omega) (by omega)).trans HO.out.txt
          · exact (h5 Bx (heap_lt Hb.out) (not_own Hb.out (by decide) hown) (by omega)).trans Hb.out
        clear hv Hst hc hT
        refine wpIn_act _ fun A hA => ?_
        refine wpIn_split (fun A' W' => ∃ t32 t33 t34 t35 t36 t37 t38 t39 t40 t41 : Value, A' = (((((((((A.put (some 32) t32).put (some 33) t33).put (some 34) t34).put (some 35) t35).put (some 36) t36).put (some 37) t37).put (some 38) t38).put (some 39) t39).put (some 40) t40).put (some 41) t41 ∧ OutAt w.heap.size w (midL pre x text (k + 1)) (some ⟨ab, ao, none⟩) n cap W' ∧ W'.heap[Bx]? = some (.cells (bvs x.1) 69 (0, 0)) ∧ KeepsOthers W W' ∧ KeepX w.heap.size W W') ?_ ?_
        · have sz : A.tmps.size = 44 := by rw [hA]; rfl
          have e5 : A.eval (.tmp 5) = .pointer (some ⟨w.heap.size + 1, 0, none⟩) := by rw [hA]; rfl
          have e7 : A.eval (.tmp 7) = .pointer (some ⟨w.heap.size + 3, 0, none⟩) := by rw [hA]; rfl
          have e10 : A.eval (.tmp 10) = .int .u8 (bx.toNat : Int) := by rw [hA]; rfl
          refine wpIn_region_heldAt (ro := some l) (S := fun W9 => W9.cell? ⟨w.heap.size + 1, 0, none⟩ = some (.slice (some ⟨ab, ao, none⟩) n cap) ∧ W9.cell? ⟨ab, ao + (m + k), none⟩ = some (.int .u8 (tx.toNat : Int))) hm (by kernel_rfl) ?_
          show wpAnyH _ _ _ _ _ _ _ _ wr.drew
          refine wpAnyH_take (i := 1) (v := .int .u8 (bx.toNat : Int)) rfl (by kernel_rfl) (by kernel_rfl) (by kernel_rfl) (fun _ _ _ h => nomatch h.1) (yields_move (by simp [Region.wanted]) (.tmp 10) rfl _ e10) hS ?_
          refine wpAnyH_take (i := 2) (v := .slice (some ⟨ab, ao, none⟩) n cap) rfl (by kernel_rfl) (by kernel_rfl) (by kernel_rfl) (fun _ _ _ h => nomatch h.1) (y_loadB (by simp [Region.wanted]) (.tmp 5) rfl (w.heap.size + 1) _ _ _ (evn e5) (fun _ h => h.1)) hS ?_
          refine wpAnyH_all (rs := [0, 3]) (by kernel_rfl) (by simp) fun i9 hm9 => ?_
          rcases List.mem_cons.1 hm9 with rfl | hm8
          · refine YieldsIf.wpOp (S := fun W9 => W9.cell? ⟨w.heap.size + 3, 0, none⟩ = some (.slice vd2 (m + k) vc2)) rfl (y_loadB (by simp [Region.wanted]) (.tmp 7) rfl (w.heap.size + 3) _ _ _ (evn (evn e7)) (fun _ h => h)) hcV ⟨hS, ?_⟩
            show wpAnyH _ _ _ _ _ _ _ (((A.put (some 33) (.int .u8 (bx.toNat : Int))).put (some 34) (.slice (some ⟨ab, ao, none⟩) n cap)).put (some 32) (.slice vd2 (m + k) vc2)) _
            refine wpAnyH_all (rs := [3]) (by kernel_rfl) (by simp) fun i9 hm9 => ?_
            obtain rfl : i9 = 3 := by simpa using hm9
            refine YieldsIf.wpOp (S := fun W9 => W9.cell? ⟨w.heap.size + 3, 0, none⟩ = some (.slice vd2 (m + k) vc2)) rfl (y_loadB (by simp [Region.wanted]) (.tmp 7) rfl (w.heap.size + 3) _ _ _ (evn (evn (evn e7))) (fun _ h => h)) hcV ⟨hS, ?_⟩
            show wpAnyH _ _ _ _ _ _ _ ((((A.put (some 33) (.int .u8 (bx.toNat : Int))).put (some 34) (.slice (some ⟨ab, ao, none⟩) n cap)).put (some 32) (.slice vd2 (m + k) vc2)).put (some 35) (.slice vd2 (m + k) vc2)) _
            refine wpAnyH_take (i := 4) (v := .int .i64 ((m + k : Nat) : Int)) rfl (by kernel_rfl) (by kernel_rfl) (by kernel_rfl) (fun _ _ _ h => nomatch h.1) (y_len (by simp [Region.wanted]) 35 rfl rfl _ _ _ (ev_eq _ _ (by simp [put_sz, sz]))) hS ?_
            refine wpAnyH_take (i := 5) (v := .pointer (some ⟨ab, ao + (m + k), none⟩)) rfl (by kernel_rfl) (by kernel_rfl) (by kernel_rfl) (fun _ _ _ h => nomatch h.1) (y_index8 (by simp [Region.wanted]) (.tmp 34) (.tmp 36) rfl ab ao n cap (m + k) (evn (evn (evn (ev_eq _ _ (by simp [put_sz, sz]))))) (ev_eq _ _ (by simp [put_sz, sz])) hmk) hS ?_
            refine wpAnyH_take (i := 6) (v := .int .u8 (tx.toNat : Int)) rfl (by kernel_rfl) (by kernel_rfl) (by kernel_rfl) (fun _ _ _ h => nomatch h.1) (y_load8 (by simp [Region.wanted]) (.tmp 37) rfl ab (ao + (m + k)) tx (ev_eq _ _ (by simp [put_sz, sz])) (fun _ h => h.2)) hS ?_
            refine wpAnyH_take (i := 7) (v := .int .u8 ((bx ^^^ tx).toNat : Int)) rfl (by kernel_rfl) (by kernel_rfl) (by kernel_rfl) (fun _ _ _ h => nomatch h.1) (y_xor8 (by simp [Region.wanted]) (.tmp 33) (.tmp 38) rfl bx tx (evn (evn (evn (evn (evn (evn (ev_eq _ _ (by simp [sz])))))))) (ev_eq _ _ (by simp [put_sz, sz]))) hS ?_
            refine wpAnyH_all (rs := [8]) (by kernel_rfl) (by simp) fun i9 hm9 => ?_
            obtain rfl : i9 = 8 := by simpa using hm9
            refine wpOp_own rfl rfl fun K9 hK9 => ?_
            refine wp_build1 (.tmp 39) rfl (bx ^^^ tx) (ev_eq _ _ (by simp [put_sz, sz])) ?_
            refine hK9 _ _ ⟨hS2, ?_⟩
            show wpAnyH _ _ _ _ _ _ _ (((((((((A.put (some 33) (.int .u8 (bx.toNat : Int))).put (some 34) (.slice (some ⟨ab, ao, none⟩) n cap)).put (some 32) (.slice vd2 (m + k) vc2)).put (some 35) (.slice vd2 (m + k) vc2)).put (some 36) (.int .i64 ((m + k : Nat) : Int))).put (some 37) (.pointer (some ⟨ab, ao + (m + k), none⟩))).put (some 38) (.int .u8 (tx.toNat : Int))).put (some 39) (.int .u8 ((bx ^^^ tx).toNat : Int))).put (some 40) (.slice (some ⟨wr.drew.heap.size, 0, none⟩) 1 1)) _
            refine tail7 _ _ rfl rfl rfl rfl rfl rfl rfl rfl (by kernel_rfl) (by kernel_rfl) (by kernel_rfl) w.heap.size (w.heap.size + 3) _ (midL pre x text k) (bx ^^^ tx) (by simp [put_sz, sz]) (evn (evn (evn (evn (evn (evn (ev_eq _ _ (by simp [put_sz, sz])))))))) (ev_eq _ _ (by simp [put_sz, sz])) (evn (evn (evn (evn (evn (evn (evn (evn (evn e7))))))))) Hv2.out Hown2.out (by have := HO.out.siz; show w.heap.size ≤ wr.heap.size; omega) (by omega) (by omega) hSb ?_
            intro v' w' h1 h2 h3 h4 h5 h6
            refine ⟨rfl, (.slice vd2 (m + k) vc2 : Value), (.int .u8 (bx.toNat : Int) : Value), (.slice (some ⟨ab, ao, none⟩) n cap : Value), (.slice vd2 (m + k) vc2 : Value), (.int .i64 ((m + k : Nat) : Int) : Value), (.pointer (some ⟨ab, ao + (m + k), none⟩) : Value), (.int .u8 (tx.toNat : Int) : Value), (.int .u8 ((bx ^^^ tx).toNat : Int) : Value), (.slice (some ⟨wr.drew.heap.size, 0, none⟩) 1 1 : Value), v', ?_, hfin v' w' h1 h2 h3 h4 h5 h6⟩
            rw [hA]; simp [Act.put]
          · obtain rfl : i9 = 3 := by simpa using hm8
            refine YieldsIf.wpOp (S := fun W9 => W9.cell? ⟨w.heap.size + 3, 0, none⟩ = some (.slice vd2 (m + k) vc2)) rfl (y_loadB (by simp [Region.wanted]) (.tmp 7) rfl (w.heap.size + 3) _ _ _ (evn (evn e7)) (fun _ h => h)) hcV ⟨hS, ?_⟩
            show wpAnyH _ _ _ _ _ _ _ (((A.put (some 33) (.int .u8 (bx.toNat : Int))).put (some 34) (.slice (some ⟨ab, ao, none⟩) n cap)).put (some 35) (.slice vd2 (m + k) vc2)) _
            refine wpAnyH_take (i := 4) (v := .int .i64 ((m + k : Nat) : Int)) rfl (by kernel_rfl) (by kernel_rfl) (by kernel_rfl) (fun _ _ _ h => nomatch h.1) (y_len (by simp [Region.wanted]) 35 rfl rfl _ _ _ (ev_eq _ _ (by simp [put_sz, sz]))) hS ?_
            refine wpAnyH_take (i := 5) (v := .pointer (some ⟨ab, ao + (m + k), none⟩)) rfl (by kernel_rfl) (by kernel_rfl) (by kernel_rfl) (fun _ _ _ h => nomatch h.1) (y_index8 (by simp [Region.wanted]) (.tmp 34) (.tmp 36) rfl ab ao n cap (m + k) (evn (evn (ev_eq _ _ (by simp [put_sz, sz])))) (ev_eq _ _ (by simp [put_sz, sz])) hmk) hS ?_
            refine wpAnyH_take (i := 6) (v := .int .u8 (tx.toNat : Int)) rfl (by kernel_rfl) (by kernel_rfl) (by kernel_rfl) (fun _ _ _ h => nomatch h.1) (y_load8 (by simp [Region.wanted]) (.tmp 37) rfl ab (ao + (m + k)) tx (ev_eq _ _ (by simp [put_sz, sz])) (fun _ h => h.2)) hS ?_
            refine wpAnyH_take (i := 7) (v := .int .u8 ((bx ^^^ tx).toNat : Int)) rfl (by kernel_rfl) (by kernel_rfl) (by kernel_rfl) (fun _ _ _ h => nomatch h.1) (y_xor8 (by simp [Region.wanted]) (.tmp 33) (.tmp 38) rfl bx tx (evn (evn (evn (evn (evn (ev_eq _ _ (by simp [sz]))))))) (ev_eq _ _ (by simp [put_sz, sz]))) hS ?_
            refine wpAnyH_all (rs := [0, 8]) (by kernel_rfl) (by simp) fun i7 hm7 => ?_
            rcases List.mem_cons.1 hm7 with rfl | hm6
            · refine YieldsIf.wpOp (S := fun W9 => W9.cell? ⟨w.heap.size + 3, 0, none⟩ = some (.slice vd2 (m + k) vc2)) rfl (y_loadB (by simp [Region.wanted]) (.tmp 7) rfl (w.heap.size + 3) _ _ _ (evn (evn (evn (evn (evn (evn (evn e7))))))) (fun _ h => h)) hcV ⟨hS, ?_⟩
              show wpAnyH _ _ _ _ _ _ _ ((((((((A.put (some 33) (.int .u8 (bx.toNat : Int))).put (some 34) (.slice (some ⟨ab, ao, none⟩) n cap)).put (some 35) (.slice vd2 (m + k) vc2)).put (some 36) (.int .i64 ((m + k : Nat) : Int))).put (some 37) (.pointer (some ⟨ab, ao + (m + k), none⟩))).put (some 38) (.int .u8 (tx.toNat : Int))).put (some 39) (.int .u8 ((bx ^^^ tx).toNat : Int))).put (some 32) (.slice vd2 (m + k) vc2)) _
              refine wpAnyH_all (rs := [8]) (by kernel_rfl) (by simp) fun i9 hm9 => ?_
              obtain rfl : i9 = 8 := by simpa using hm9
              refine wpOp_own rfl rfl fun K9 hK9 => ?_
              refine wp_build1 (.tmp 39) rfl (bx ^^^ tx) (evn (ev_eq _ _ (by simp [put_sz, sz]))) ?_
              refine hK9 _ _ ⟨hS2, ?_⟩
              show wpAnyH _ _ _ _ _ _ _ (((((((((A.put (some 33) (.int .u8 (bx.toNat : Int))).put (some 34) (.slice (some ⟨ab, ao, none⟩) n cap)).put (some 35) (.slice vd2 (m + k) vc2)).put (some 36) (.int .i64 ((m + k : Nat) : Int))).put (some 37) (.pointer (some ⟨ab, ao + (m + k), none⟩))).put (some 38) (.int .u8 (tx.toNat : Int))).put (some 39) (.int .u8 ((bx ^^^ tx).toNat : Int))).put (some 32) (.slice vd2 (m + k) vc2)).put (some 40) (.slice (some ⟨wr.drew.heap.size, 0, none⟩) 1 1)) _
              refine tail7 _ _ rfl rfl rfl rfl rfl rfl rfl rfl (by kernel_rfl) (by kernel_rfl) (by kernel_rfl) w.heap.size (w.heap.size + 3) _ (midL pre x text k) (bx ^^^ tx) (by simp [put_sz, sz]) (evn (ev_eq _ _ (by simp [put_sz, sz]))) (ev_eq _ _ (by simp [put_sz, sz])) (evn (evn (evn (evn (evn (evn (evn (evn (evn e7))))))))) Hv2.out Hown2.out (by have := HO.out.siz; show w.heap.size ≤ wr.heap.size; omega) (by omega) (by omega) hSb ?_
              intro v' w' h1 h2 h3 h4 h5 h6
              refine ⟨rfl, (.slice vd2 (m + k) vc2 : Value), (.int .u8 (bx.toNat : Int) : Value), (.slice (some ⟨ab, ao, none⟩) n cap : Value), (.slice vd2 (m + k) vc2 : Value), (.int .i64 ((m + k : Nat) : Int) : Value), (.pointer (some ⟨ab, ao + (m + k), none⟩) : Value), (.int .u8 (tx.toNat : Int) : Value), (.int .u8 ((bx ^^^ tx).toNat : Int) : Value), (.slice (some ⟨wr.drew.heap.size, 0, none⟩) 1 1 : Value), v', ?_, hfin v' w' h1 h2 h3 h4 h5 h6⟩
              rw [hA]; simp [Act.put]
            · obtain rfl : i7 = 8 := by simpa using hm6
              refine wpOp_own rfl rfl fun K9 hK9 => ?_
              refine wp_build1 (.tmp 39) rfl (bx ^^^ tx) (ev_eq _ _ (by simp [put_sz, sz])) ?_
              refine hK9 _ _ ⟨hS2, ?_⟩
              show wpAnyH _ _ _ _ _ _ _ ((((((((A.put (some 33) (.int .u8 (bx.toNat : Int))).put (some 34) (.slice (some ⟨ab, ao, none⟩) n cap)).put (some 35) (.slice vd2 (m + k) vc2)).put (some 36) (.int .i64 ((m + k : Nat) : Int))).put (some 37) (.pointer (some ⟨ab, ao + (m + k), none⟩))).put (some 38) (.int .u8 (tx.toNat : Int))).put (some 39) (.int .u8 ((bx ^^^ tx).toNat : Int))).put (some 40) (.slice (some ⟨wr.drew.heap.size, 0, none⟩) 1 1)) _
              refine wpAnyH_all (rs := [0]) (by kernel_rfl) (by simp) fun i9 hm9 => ?_
              obtain rfl : i9 = 0 := by simpa using hm9
              refine YieldsIf.wpOp (S := fun W9 => W9.cell? ⟨w.heap.size + 3, 0, none⟩ = some (.slice vd2 (m + k) vc2)) rfl (y_loadB (by simp [Region.wanted]) (.tmp 7) rfl (w.heap.size + 3) _ _ _ (evn (evn (evn (evn (evn (evn (evn (evn e7)))))))) (fun _ h => h)) hcV2 ⟨hS2, ?_⟩
              show wpAnyH _ _ _ _ _ _ _ (((((((((A.put (some 33) (.int .u8 (bx.toNat : Int))).put (some 34) (.slice (some ⟨ab, ao, none⟩) n cap)).put (some 35) (.slice vd2 (m + k) vc2)).put (some 36) (.int .i64 ((m + k : Nat) : Int))).put (some 37) (.pointer (some ⟨ab, ao + (m + k), none⟩))).put (some 38) (.int .u8 (tx.toNat : Int))).put (some 39) (.int .u8 ((bx ^^^ tx).toNat : Int))).put (some 40) (.slice (some ⟨wr.drew.heap.size, 0, none⟩) 1 1)).put (some 32) (.slice vd2 (m + k) vc2)) _
              refine tail7 _ _ rfl rfl rfl rfl rfl rfl rfl rfl (by kernel_rfl) (by kernel_rfl) (by kernel_rfl) w.heap.size (w.heap.size + 3) _ (midL pre x text k) (bx ^^^ tx) (by simp [put_sz, sz]) (ev_eq _ _ (by simp [put_sz, sz])) (evn (ev_eq _ _ (by simp [put_sz, sz]))) (evn (evn (evn (evn (evn (evn (evn (evn (evn e7))))))))) Hv2.out Hown2.out (by have := HO.out.siz; show w.heap.size ≤ wr.heap.size; omega) (by omega) (by omega) hSb ?_
              intro v' w' h1 h2 h3 h4 h5 h6
              refine ⟨rfl, (.slice vd2 (m + k) vc2 : Value), (.int .u8 (bx.toNat : Int) : Value), (.slice (some ⟨ab, ao, none⟩) n cap : Value), (.slice vd2 (m + k) vc2 : Value), (.int .i64 ((m + k : Nat) : Int) : Value), (.pointer (some ⟨ab, ao + (m + k), none⟩) : Value), (.int .u8 (tx.toNat : Int) : Value), (.int .u8 ((bx ^^^ tx).toNat : Int) : Value), (.slice (some ⟨wr.drew.heap.size, 0, none⟩) 1 1 : Value), v', ?_, hfin v' w' h1 h2 h3 h4 h5 h6⟩
              rw [hA]; simp [Act.put]
        · rintro _ W' ⟨t32, t33, t34, t35, t36, t37, t38, t39, t40, t41, rfl, hO', hb', hko', hkx'⟩
          rw [hA]
          simp only [Act.put, List.setIfInBounds_toArray, List.set_cons_zero, List.set_cons_succ]
          have HO' := hid hO'
          have Hb' := hid hb'
          have Hko' := hid hko'
          have Hkx' := hid hkx'
          clear hO' hb' hko' hkx' hA hfin hSb hcV hcV2 hS hS2 Hv2 Hown2 hown hG1 HO Hb Hko Hkx
          gi_wp2
          go_roundw
          case rel => exact ⟨k + 1, by omega, by go_num, HO'.out, Hb'.out, Hko'.out, Hkx'.out⟩
          case measure => simp [intOf]; omega
      · have Hkd : k = d := by omega
        have HE : Hid (OutAt w.heap.size w (outL (pre ++ [x]) text) a n cap wr) := by
          show OutAt _ _ _ _ _ _ _
          rw [← midL_end, ← Hm.out, ← Hn.out, ← Hd.out, ← Hkd]
          exact HO.out
        gi_wp2
        exact ⟨Hko.out.from _, Hkx.out, HE.out⟩
  case done =>
    rintro D xs W hD rfl hI hK
    obtain ⟨v, hv, hown, _⟩ := hI.box
    obtain ⟨vd, vc, rfl, _, _⟩ := bytes_of_own hown
    have cV := hv.cell
    have Hown : Hid (W.ownsRow w.heap.size 5 1 (.slice vd (outL (blkL key once (nblk n)) text).length vc) (cross key once text).length (cellsOf (cross key once text))) := by
      show World.ownsRow _ _ _ _ _ _ _
      have h := hown
      rw [Hn.out, outL_all] at h
      rw [Hn.out, outL_all]
      exact h
    have Hb := hid hI.bel
    have HK2 := hid hK
    clear hown hv hI hK
    gi_wp2
    refine ⟨by simp, .inl ⟨_, _, rfl, run_takeDeferred HK2.out, ?_⟩⟩
    refine ⟨_, results_tmp rfl _ _ _, ⟨_, rfl, ownsRow_putObj Hown.out _ HK2.out rfl, ?_⟩⟩
    exact Hb.out.trans (belowK_b (w := w) (Nat.le_refl _) W D _ _ (by omega) HK2.out rfl rfl)
end Go.Proofs.YthfmpebgmojcaaaDoor.Ky
/- The tag of what stands ahead of it: seal.tagOf. -/
namespace Go.Proofs.YthfmpebgmojcaaaDoor.Ky
open Go.RowKit Go.Shelf
set_option linter.unusedVariables false
set_option maxRecDepth 20000
theorem opAny {P : Program} {o : Oper} {a : Act} {w : World} {K : Act → World → Prop} {Q : Exit → Act → World → Prop} (h : o.wp P a w K (fun e a w => e = .normal)) : o.wp P a w K Q := by
  unfold Oper.wp at *
  generalize (execOp a.eval o).run P w = r at *
  cases r with
  | ok x w' =>
    cases x <;> simp only [Oper.upon] at h ⊢
    case value => exact h
    case skip => exact h
    case defer => exact h
    case enter =>
      refine Calls.mono h fun e w'' he => ?_
      cases e with
      | returned v => exact he
      | panicked c => cases he
      | outgrown => obtain ⟨_, _, he⟩ := he; cases he
    case row r s => exact h
  | halt x w' => cases x <;> simp only [Oper.upon] at h ⊢ <;> first | exact h.elim | cases h
theorem wp_of_list {P : Program} {ops : Array Oper} {o : Oper} {a : Act} {w : World} {K : Act → World → Prop} {Q : Exit → Act → World → Prop} (hg : o.guard = none) (R : Act → World → Prop) (h : wpList P ops (fun e a w => e = .normal ∧ R a w) [o] a w) (h2 : ∀ a w, R a w → K a w) : o.wp P a w K Q := by
  unfold wpList at h
  rw [if_pos (by simp [Region.wanted, hg])] at h
  rcases h with h | ⟨_, h⟩
  · exact opAny (Oper.wp_mono (fun a w h => h2 a w h.2) (opNone h))
  · exact absurd h noOut
theorem zero_tag : (Tryd.prog.info? 172).map (fun i => (i.zero, i.size)) = some (some (.agg (bvs (List.replicate 16 0))), 16) := by kernel_rfl
theorem size_tag : (Tryd.prog.info? 172).map (·.size) = some 16 := by kernel_rfl
structure TV (O : Array Value) (l : List UInt8) : Prop where
  eq : O = bvs l
  len : l.length = 16
theorem TV.size {O : Array Value} {l : List UInt8} (h : TV O l) : O.size = 16 := by rw [h.eq, bvs_size, h.len]
theorem TV.info {O : Array Value} {l : List UInt8} (h : TV O l) : (Tryd.prog.info? 172).map (·.size) = some O.size := by rw [h.size]; exact size_tag
theorem TV.one {O : Array Value} {l : List UInt8} (h : TV O l) : O.all (·.oneCell') = true := by rw [h.eq]; exact bvs_one _
theorem TV.bytes {O : Array Value} {l : List UInt8} (h : TV O l) {w : World} {g : Nat} (hg : w.heap[g]? = some (.cells O 172 (0, 0))) : Bytes w (some ⟨g, 0, none⟩) l := fun i hi =>
  ⟨g, 0, rfl, by rw [Nat.zero_add, cell_of_row _ _ _ _ _ _ hg, h.eq, bvs_get l i hi]⟩
theorem run_load_tag {w : World} {g o : Nat} {l : List UInt8} (hl : l.length = 16) (hB : Bytes w (some ⟨g, o, none⟩) l) : (Instr.loadAt 172 (.pointer (some ⟨g, o, none⟩))).run Tryd.prog w = .ok (.agg (bvs l)) w := by
  have h := run_loadAt_mid (P := Tryd.prog) w g o 172 (cellsOf l) _ (fun j v hj => by
    have hj' : j < l.length := by have := (List.getElem?_eq_some_iff.1 hj).1; simpa [cellsOf_length] using this
    obtain ⟨b', o', e', hcl⟩ := hB j hj'
    cases e'
    rw [cellsOf_get l j hj'] at hj
    rw [hcl, ← hj]) Tryd.underlying172 rfl (by rw [cellsOf_length, hl]; exact size_tag)
  exact h
theorem wpList_load_tag {ops : Array Oper} {rest : List Oper} {o : Oper} {a : Act} {w : World} {Q : Exit → Act → World → Prop} (hgd : o.guard = none) (x : Operand) (ho : o.op = .load 172 x) (g off : Nat) (hx : a.eval x = .pointer (some ⟨g, off, none⟩)) (l : List UInt8) (hl : l.length = 16) (hB : Bytes w (some ⟨g, off, none⟩) l)
    (h : wpList Tryd.prog ops Q rest (a.put o.dst (.agg (bvs l))) w) : wpList Tryd.prog ops Q (o :: rest) a w :=
  wpList_plain hgd fun K hK => by
    unfold Oper.wp execOp
    simp only [ho, hx, Sem.run_bind, run_load_tag hl hB, Result.andThen_ok, Sem.run_pure]
    exact hK _ _ h
theorem _root_.Go.Proofs.YthfmpebgmojcaaaDoor.Bytes.take {w : World} {a : Option Addr} {l : List UInt8} (h : Bytes w a l) (k : Nat) : Bytes w a (l.take k) := fun i hi => by
  have hi' : i < l.length := by simp at hi; omega
  obtain ⟨b, o, e, hc⟩ := h i hi'
  refine ⟨b, o, e, ?_⟩
  rw [hc, List.getElem_take]
end Go.Proofs.YthfmpebgmojcaaaDoor.Ky
