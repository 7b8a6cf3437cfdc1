/- The stream's blocks, yielded one by one: seal.stream. -/
import Derived.Test.YtkgengiopjjhbaaDoorHTag
import Derived.Test.YtkgengiopjjhbaaDoorENum
import Derived.Test.YtkgengiopjjhbaaDoorEBridge
namespace Go.Proofs.YtkgengiopjjhbaaDoor
open Go.RowKit Go.Shelf
set_option linter.unusedVariables false
set_option maxRecDepth 20000
attribute [local go_sem] Oper.semAt_some

/-- 32 bytes -/
abbrev Blk := { l : List UInt8 // l.length = 32 }
def blkL (key : List UInt8) (once k : Nat) : List Blk := (List.range k).map fun i => ⟨sblock key once i, sblock_len key once i⟩
theorem blkL_succ (key : List UInt8) (once k : Nat) : blkL key once (k + 1) = blkL key once k ++ [⟨sblock key once k, sblock_len key once k⟩] := by simp [blkL, List.range_succ]
theorem blkL_length (key : List UInt8) (once k : Nat) : (blkL key once k).length = k := by simp [blkL]

/-- what the stream's function has captured -/
structure Src (bn bo bk : Nat) (K : Array Value) (once N : Nat) (W : World) : Prop where
  num : Boxed W bn 3 (.int .i64 (N : Int))
  once : Boxed W bo 50 (.int .u64 (once : Int))
  key : W.heap[bk]? = some (.cells K 23 (0, 0))
  tab : KAt W
theorem Src.below {bn bo bk : Nat} {K : Array Value} {once N : Nat} {A B : World} (h : Src bn bo bk K once N A) (hb : Below A.heap.size A B) : Src bn bo bk K once N B :=
  ⟨(hb.block _ h.num.lt).trans h.num, (hb.block _ h.once.lt).trans h.once, (hb.block _ (heap_lt h.key)).trans h.key, h.tab.below hb⟩
theorem grown_of_below {A B : World} (hb : Below A.heap.size A B) : A.grownBy B none := ⟨hb.os, hb.tape, hb.output, hb.size, fun k hk _ => hb.block k hk⟩
theorem own_lits (w : World) (cs : List UInt8) (hl : cs.length ≤ 1000000) : (w.alloc (.cells (cellsOf cs).toArray 5)).ownsRow w.heap.size 5 1 (.slice (some ⟨w.heap.size, 0, none⟩) cs.length cs.length) cs.length (cellsOf cs) :=
  ⟨by rw [cellsOf_length, Nat.mul_one], .inr ⟨w.heap.size, cs.length, _, rfl, Nat.le_refl _, heap_alloc_new w _, by omega, by unfold maxLen; omega, by simp [cellsOf_length], by rw [List.toList_toArray, Nat.mul_one, ← cellsOf_length, List.take_length]⟩⟩

/-- how the stream's function ends -/
def StPost (J Jx : List Blk → World → Prop) (xs : List Blk) (e : Ending) (W' : World) : Prop := (∃ v, e = .returned v) ∧ ((∃ ys, ys = xs ∧ J ys W') ∨ (∃ pre, True ∧ Jx pre W'))

set_option maxHeartbeats 2000000 in
theorem stream1_in (n l bn bo bk : Nat) {K : Array Value} {key : List UInt8} (hK : HV K key) (once N : Nat) (hN : N ≤ 1000000) {Kp : World → World → Prop} (hsrc : ∀ A B, Kp A B → Src bn bo bk K once N A → Src bn bo bk K once N B)
    (J Jx : List Blk → World → Prop) (W : World) (hJ : AbidesFrom W.heap.size J)
    (hY : ∀ pre x W1, J pre W1 → pre.length < nblk N → YieldAt Fence.wide (n - 1) Tryd.prog l #[.agg (bvs x.1)] W1 fun e W' =>
      (e = .returned (.bool true) ∧ J (pre ++ [x]) W' ∧ Kp W1 W') ∨ (e = .returned (.bool false) ∧ Jx (pre ++ [x]) W'))
    (hS : Src bn bo bk K once N W) (h0 : J [] W) :
    CallsIn Fence.wide n Tryd.prog 49 #[.func (.yield l) #[] #[], .pointer (some ⟨bn, 0, none⟩), .pointer (some ⟨bo, 0, none⟩), .pointer (some ⟨bk, 0, none⟩)] W (StPost J Jx (blkL key once (nblk N))) := by
  have HK := hid hK
  have HY := hid hY
  have HJ := hid hJ
  have Hsrc := hid hsrc
  have HS := hid hS
  have H0 := hid h0
  clear hK hY hJ hsrc hS h0
  refine callsIn_of_wp Tryd.func49 rfl trivial ?_ rfl
  simp only [Tryd.ntmps49, List.size_toArray, List.length_cons, List.length_nil, Nat.reduceAdd, Nat.reduceSub, Array.replicate_succ, Array.replicate_zero, List.push_toArray, List.append_toArray, List.nil_append, List.cons_append]
  gi_wp2
  gi_loopw [5] (fun v5 wr => ∃ k : Nat, k ≤ nblk N ∧ v5 = .int .i64 (k : Int) ∧ J (blkL key once k) wr ∧ Src bn bo bk K once N wr) (fun v5 _ => nblk N - (intOf v5).toNat)
  case atStart => exact ⟨0, Nat.zero_le _, rfl, H0.out, HS.out⟩
  case round =>
    obtain ⟨k, hk, rfl, hJk, hSk⟩ := hrel
    have HJk := hid hJk
    have HSk := hid hSk
    have cn := hSk.num.cell
    have co := hSk.once.cell
    have hkk : k ≤ 31251 := by unfold nblk at hk; omega
    have q1 : IntKind.i64.wrap ((k : Int) * 32) = (k : Int) * 32 := by rw [IntKind.wrap_i64]; omega
    have q2 : IntKind.u64.wrap (k : Int) = (k : Int) := by rw [IntKind.wrap_u64]; omega
    clear hJk hSk H0 HS
    by_cases hlt : k < nblk N
    · have q3 : (k : Int) * 32 < (N : Int) := by unfold nblk at hlt; omega
      have co' : (wr.alloc (.cells #[.int .u8 115] 5)).cell? ⟨bo, 0, none⟩ = some (.int .u64 (once : Int)) := (World.cell?_of_block (Below.heap_alloc _ _ _ (HSk.out.once.lt))).trans co
      gi_wp2_with fail
      refine ⟨trivial, nodepth (ro := none), (callsIn_wide.2 (appendNumber_any wr.heap.size _ [115] once (own_lits wr [115] (by simp)) (by simp) (by simp))).mono ?_⟩
      rintro _ w1 ⟨v1, rfl, hown1, hb1⟩
      have Hown1 := hid hown1
      have b1 : Hid (Below wr.heap.size wr w1) := ((Below.refl _ wr).alloc (Nat.le_refl _) _).trans hb1
      clear hown1 hb1 co' co cn
      gi_wp2_with fail
      refine ⟨trivial, nodepth (ro := none), (callsIn_wide.2 (appendNumber_any wr.heap.size _ _ k Hown1.out b1.out.size (by simp [be8_length]))).mono ?_⟩
      rintro _ w2 ⟨v2, rfl, hown2, hb2⟩
      obtain ⟨a2, cap2, rfl, hB2, hc2⟩ := bytes_of_own hown2
      have HB2 := hid hB2
      have b2 : Hid (Below wr.heap.size wr w2) := b1.out.trans hb2
      have l2 : ([115] ++ be8 once ++ be8 k).length = 17 := by simp [be8_length]
      clear hown2 hb2 Hown1 b1 hB2
      obtain ⟨m2, hm2⟩ : ∃ m2, m2 = [115] ++ be8 once ++ be8 k := ⟨_, rfl⟩
      rw [← hm2] at HB2 hc2 l2 ⊢
      have Hm : Hid (hmac key m2 = sblock key once k) := by
        show _ = _
        rw [hm2]
        unfold sblock
        rw [List.append_assoc]
        rfl
      clear hm2
      gi_wp2_with fail
      refine ⟨trivial, nodepth (ro := none), (callsIn_wide.2 (tag_any key (some ⟨bk, 0, none⟩) 32 32 HK.out.len.symm (HK.out.bytes (HSk.out.below b2.out).key) (by rw [HK.out.len]; omega) (by rw [HK.out.len]; omega) m2 a2 17 cap2 l2.symm HB2.out (by omega) hc2 (HSk.out.tab.below b2.out))).mono ?_⟩
      rintro _ w3 ⟨O, rfl, hO, hb3⟩
      have b3 : Hid (Below wr.heap.size wr w3) := Below.on' b2.out hb3
      have HJ3 : Hid (J (blkL key once k) w3) := HJ.out _ _ _ none HJk.out (grown_of_below b3.out) (fun r e => by cases e)
      have HS3 : Hid (Src bn bo bk K once N w3) := HSk.out.below b3.out
      obtain ⟨fn, tmps, assign, body, hy, hR⟩ := HY.out _ ⟨sblock key once k, sblock_len key once k⟩ w3 HJ3.out (by rw [blkL_length]; exact hlt)
      rw [show bvs (⟨sblock key once k, sblock_len key once k⟩ : Blk).1 = O by rw [hO.eq, Hm.out]] at hy
      have HR := hid hR
      clear hb3 hO HB2 hR
      gi_wp2_with fail
      refine ⟨nodepth (ro := none), HR.out.mono ?_⟩
      rintro e W3 (⟨rfl, hJ3, hk3⟩ | ⟨rfl, hJx3⟩)
      · have HS4 : Hid (Src bn bo bk K once N W3) := Hsrc.out _ _ hk3 HS3.out
        have HJ4 : Hid (J (blkL key once (k + 1)) W3) := by
          show J _ _
          rw [blkL_succ]; exact hJ3
        clear hJ3 hk3 HS3 HJ3 HR hy
        gi_wp2
        go_roundw
        case rel => exact ⟨k + 1, by omega, by go_num, HJ4.out, HS4.out⟩
        case measure => simp [intOf]; omega
      · have HX := hid hJx3
        clear hJx3 HR hy HJ3 HS3
        gi_wp2
        refine bodyPost_ret (results_none rfl _ _ _) rfl ?_
        exact ⟨⟨_, rfl⟩, .inr ⟨_, trivial, HX.out⟩⟩
    · have q3 : ¬ (k : Int) * 32 < (N : Int) := by unfold nblk at hlt; omega
      gi_wp2
      go_end0
      exact ⟨⟨_, rfl⟩, .inl ⟨_, by rw [show k = nblk N by omega], HJk.out⟩⟩

/-- the stream's function value, as a loop over it asks: the boxes lie from bn on, in the order key, once, n -/
theorem stream_stops (n B : Nat) {K : Array Value} {key : List UInt8} (hK : HV K key) (once N : Nat) (hN : N ≤ 1000000) {Kp : World → World → Prop} (hsrc : ∀ A C, Kp A C → Src (B + 2) (B + 1) B K once N A → Src (B + 2) (B + 1) B K once N C) (w : World) (hS : Src (B + 2) (B + 1) B K once N w) :
    SeqStopsK Fence.wide n Tryd.prog 49 #[.pointer (some ⟨B + 2, 0, none⟩), .pointer (some ⟨B + 1, 0, none⟩), .pointer (some ⟨B, 0, none⟩)] (fun x : Blk => #[.agg (bvs x.1)]) Kp (fun ys => ys = blkL key once (nblk N)) (fun _ => True) (nblk N) w :=
  fun l J Jx W hW hJ _ hY h0 => stream1_in n l (B + 2) (B + 1) B hK once N hN hsrc J Jx W hJ hY (hS.below hW) h0

set_option maxHeartbeats 400000 in
theorem stream_any {w : World} {K : Array Value} {key : List UInt8} (hK : HV K key) (once N : Nat) :
    Calls Tryd.prog 37 #[.agg K, .int .u64 (once : Int), .int .i64 (N : Int)] w fun e w' => e = .returned (.func (.func 49) #[] #[.pointer (some ⟨w.heap.size + 2, 0, none⟩), .pointer (some ⟨w.heap.size + 1, 0, none⟩), .pointer (some ⟨w.heap.size, 0, none⟩)]) ∧
      w' = ((w.alloc (.cells K 23)).alloc (.cells #[.int .u64 (once : Int)] 50)).alloc (.cells #[.int .i64 (N : Int)] 3) := by
  go_enter Tryd.func37, Tryd.ntmps37
  go_wp2
  go_ret
  exact ⟨rfl, rfl⟩
end Go.Proofs.YtkgengiopjjhbaaDoor
