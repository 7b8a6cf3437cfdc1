/- The parts of a key, yielded one by one: codec.eachPart. -/
import Derived.Test.YtgjahhfpfdgjhaaDoorPRef
import Derived.RangeFuncNested
import Derived.RangeFuncFrom
import Derived.RangeFuncBox
import Derived.RangeFuncLeaves
import Derived.Shelf.Abstract
import Derived.WalkKit
import Derived.OwnWalkIn
import Derived.TacticsInMore
import Derived.LoopNIn
import Derived.LoopIn
namespace Go.Proofs.YtgjahhfpfdgjhaaDoor
open Go.RowKit Go.Shelf
set_option linter.unusedVariables false
set_option maxRecDepth 20000
attribute [local go_sem] Oper.semAt_some

abbrev Prt := List UInt8 × Bool
/-- what is yielded -/
def seqF : Nat → List UInt8 → List Prt
  | 0, _ => []
  | _ + 1, [] => []
  | f + 1, c :: r => match fp (c :: r) with
    | none => [([], false)]
    | some q => (q.1, true) :: seqF f ((c :: r).drop q.2)
theorem seqF_nil (f : Nat) : seqF f [] = [] := by cases f <;> rfl
theorem seqF_none (f : Nat) (r : List UInt8) (h0 : r ≠ []) (h : fp r = none) : seqF (f + 1) r = [([], false)] := by
  cases r with
  | nil => exact absurd rfl h0
  | cons c r => rw [seqF, h]
theorem seqF_some (f : Nat) (r : List UInt8) (h0 : r ≠ []) (t : List UInt8) (k : Nat) (h : fp r = some (t, k)) : seqF (f + 1) r = (t, true) :: seqF f (r.drop k) := by
  cases r with
  | nil => exact absurd rfl h0
  | cons c r => rw [seqF, h]
theorem seqF_length (f : Nat) (r : List UInt8) : (seqF f r).length ≤ f := by
  induction f generalizing r with
  | zero => exact Nat.le_refl _
  | succ f ih =>
    cases r with
    | nil => simp [seqF]
    | cons c r =>
      rw [seqF]
      split
      · simp
      · have := ih ((c :: r).drop (‹List UInt8 × Nat›).2)
        simp only [List.length_cons]
        omega
/-- bytes that lie below -/
def BytesB (n₀ : Nat) (w : World) (a : Option Addr) (l : List UInt8) : Prop := Bytes w a l ∧ (l ≠ [] → ∃ b o, a = some ⟨b, o, none⟩ ∧ b < n₀)
theorem BytesB.of {w : World} {a : Option Addr} {l : List UInt8} (h : Bytes w a l) : BytesB w.heap.size w a l := ⟨h, fun h0 => by
  cases l with
  | nil => exact absurd rfl h0
  | cons c l =>
    obtain ⟨b, o, e, hc⟩ := h 0 (by simp)
    exact ⟨b, o, e, World.block_lt_of_cell? _ _ hc⟩⟩
theorem BytesB.keep {n₀ : Nat} {A B : World} {a : Option Addr} {l : List UInt8} (h : BytesB n₀ A a l) (hb : Below n₀ A B) : BytesB n₀ B a l :=
  ⟨fun i hi => by
    obtain ⟨b, o, e, hlt⟩ := h.2 (fun e => by rw [e] at hi; simp at hi)
    obtain ⟨b', o', e', hc⟩ := h.1 i hi
    rw [e] at e'
    cases e'
    exact ⟨b, o, e, (hb.cell (p := ⟨b, o + i, none⟩) hlt).trans hc⟩, h.2⟩
theorem BytesB.cut {n₀ : Nat} {w : World} {a : Option Addr} {l : List UInt8} (h : BytesB n₀ w a l) {cap : Nat} (hc : l.length ≤ cap) (k : Nat) : BytesB n₀ w (cutAt a cap k) (l.drop k) :=
  ⟨h.1.cut hc k, fun h0 => by
    obtain ⟨b, o, e, hlt⟩ := h.2 (fun e => h0 (by rw [e]; simp))
    unfold cutAt
    split
    · exact ⟨b, o, e, hlt⟩
    · rw [e]
      exact ⟨b, o + k, by simp [addr_add], hlt⟩⟩
theorem grown_of_belowP {A B : World} (hb : Below A.heap.size A B) : A.grownBy B none := ⟨hb.os, hb.tape, hb.output, hb.size, fun k hk _ => hb.block k hk⟩
theorem nodepthP {n : Nat} : Fence.wide.depth.isSome = true → 1 ≤ n := fun h => by simp [Fence.wide] at h
/-- how the function ends -/
def EPost (J Jx : List Prt → World → Prop) (xs : List Prt) (e : Ending) (W' : World) : Prop := (∃ v, e = .returned v) ∧ ((∃ ys, ys = xs ∧ J ys W') ∨ (∃ pre, pre <+: xs ∧ Jx pre W'))

set_option maxHeartbeats 2000000 in
theorem each1_in (n l Bk n₀ : Nat) (x : List UInt8) (a : Option Addr) (cap : Nat) (hx : x.length ≤ 64) (hcap : x.length ≤ cap)
    (J Jx : List Prt → World → Prop) (W : World) (hn0 : n₀ ≤ W.heap.size) (hJ : AbidesFrom W.heap.size J)
    (hY : ∀ pre y W1, J pre W1 → pre.length < 65 → YieldAt Fence.wide (n - 1) Tryd.prog l #[.string ⟨y.1.toArray⟩, .bool y.2] W1 fun e W' =>
      (e = .returned (.bool true) ∧ J (pre ++ [y]) W' ∧ Below n₀ W1 W') ∨ (e = .returned (.bool false) ∧ Jx (pre ++ [y]) W'))
    (hBk : W.cell? ⟨Bk, 0, none⟩ = some (.slice a x.length cap)) (hB : BytesB n₀ W a x) (h0 : J [] W) :
    CallsIn Fence.wide n Tryd.prog 45 #[.func (.yield l) #[] #[], .pointer (some ⟨Bk, 0, none⟩)] W (EPost J Jx (seqF x.length x)) := by
  have HY := hid hY
  have HJ := hid hJ
  have H0 := hid h0
  have HB := hid hB
  obtain ⟨N, hN⟩ : ∃ N, N = x.length := ⟨_, rfl⟩
  have HN := hid hN
  rw [← hN] at hx hcap hBk ⊢
  have Hq := hid (seqF_length N x)
  clear hY hJ h0 hB hN
  refine callsIn_of_wp Tryd.func45 rfl trivial ?_ rfl
  simp only [Tryd.ntmps45, List.size_toArray, List.length_cons, List.length_nil, Nat.reduceAdd, Nat.reduceSub, Array.replicate_succ, Array.replicate_zero, List.push_toArray, List.append_toArray, List.nil_append, List.cons_append]
  gi_wp2
  clear hBk
  gi_loopw [3] (fun v3 wr => ∃ (r : List UInt8) (a' : Option Addr) (m c' : Nat) (f : Nat) (pre : List Prt), m = r.length ∧ m ≤ 64 ∧ v3 = .slice a' m c' ∧ m ≤ c' ∧ BytesB n₀ wr a' r ∧ J pre wr ∧ m ≤ f ∧ seqF N x = pre ++ seqF f r ∧ n₀ ≤ wr.heap.size) (fun v3 _ => match v3 with | .slice _ m _ => m | _ => 0)
  case atStart => exact ⟨x, a, N, cap, N, [], HN.out, hx, rfl, hcap, HB.out, H0.out, Nat.le_refl _, rfl, hn0⟩
  case round =>
    obtain ⟨r, a', m, c', f, pre, hm, hm64, rfl, hmc, hB', hJp, hf, hseq, hn1⟩ := hrel
    have Hm := hid hm
    have HB' := hid hB'
    have HJp := hid hJp
    have Hseq := hid hseq
    clear hm hB' hJp hseq H0 HB
    by_cases hm0 : 0 < m
    · have d1 : (0 : Int) < (m : Int) := by omega
      have hr0 : r ≠ [] := fun e => by have := Hm.out; rw [e] at this; simp at this; omega
      obtain ⟨f', rfl⟩ : ∃ f', f = f' + 1 := ⟨f - 1, by omega⟩
      have hpl : pre.length < 65 := by
        have h1 := congrArg List.length Hseq.out
        rw [List.length_append] at h1
        have := Hq.out
        omega
      have Hfp := firstPart_any r a' c' wr HB'.out.1 (by have := Hm.out; omega)
      rw [← Hm.out] at Hfp
      have HF := hid Hfp
      clear Hfp
      cases hq : fp r with
      | none =>
        rw [hq] at HF
        have Hs := hid (seqF_none f' r hr0 hq)
        clear hq
        gi_wp2_with fail
        refine ⟨trivial, nodepthP, (callsIn_wide.2 HF.out).mono ?_⟩
        rintro _ w3 ⟨rfl, hb3⟩
        have HJ3 : Hid (J pre w3) := HJ.out _ _ _ none HJp.out (grown_of_belowP hb3) (fun r e => by cases e)
        obtain ⟨fn, tmps, assign, body, hy, hR⟩ := HY.out _ (([], false) : Prt) w3 HJ3.out hpl
        have HR := hid hR
        clear hb3 hR
        simp only [fpVal]
        gi_wp2_with fail
        refine ⟨nodepthP, HR.out.mono ?_⟩
        rintro e W3 (⟨rfl, hJ3, hk3⟩ | ⟨rfl, hJx3⟩)
        · have HJ4 : Hid (J (seqF N x) W3) := by
            show J _ _
            rw [Hseq.out, Hs.out]; exact hJ3
          clear hJ3 hk3 HJ3 HR hy
          gi_wp2
          refine bodyPost_ret (results_none rfl _ _ _) rfl ?_
          exact ⟨⟨_, rfl⟩, .inl ⟨_, rfl, HJ4.out⟩⟩
        · have HX := hid hJx3
          clear hJx3 HR hy HJ3
          gi_wp2
          refine bodyPost_ret (results_none rfl _ _ _) rfl ?_
          exact ⟨⟨_, rfl⟩, .inr ⟨_, by rw [Hseq.out, Hs.out]; exact List.prefix_rfl, HX.out⟩⟩
      | some q =>
        obtain ⟨t, k⟩ := q
        rw [hq] at HF
        have Hs := hid (seqF_some f' r hr0 t k hq)
        obtain ⟨_, hk1, hk2⟩ := fp_some r t k hq
        have hkm : k ≤ m := by have := Hm.out; omega
        have hsl := slice_l a' m c' (k : Int) k (m - k) (c' - k) rfl rfl rfl hkm
        clear hq
        gi_wp2_with fail
        refine ⟨trivial, nodepthP, (callsIn_wide.2 HF.out).mono ?_⟩
        rintro _ w3 ⟨rfl, hb3⟩
        have HJ3 : Hid (J pre w3) := HJ.out _ _ _ none HJp.out (grown_of_belowP hb3) (fun r e => by cases e)
        have HB3 : Hid (BytesB n₀ w3 a' r) := HB'.out.keep (hb3.mono hn1)
        have hn3 : n₀ ≤ w3.heap.size := Nat.le_trans hn1 hb3.size
        obtain ⟨fn, tmps, assign, body, hy, hR⟩ := HY.out _ ((t, true) : Prt) w3 HJ3.out hpl
        have HR := hid hR
        clear hb3 hR
        simp only [fpVal]
        gi_wp2_with fail
        refine ⟨nodepthP, HR.out.mono ?_⟩
        rintro e W3 (⟨rfl, hJ3, hk3⟩ | ⟨rfl, hJx3⟩)
        · have HJ4 := hid hJ3
          have HB4 : Hid (BytesB n₀ W3 (cutAt a' c' k) (r.drop k)) := (HB3.out.keep hk3).cut (by have := Hm.out; omega) k
          have hn4 : n₀ ≤ W3.heap.size := Nat.le_trans hn3 hk3.size
          have hsl3 := hsl W3
          generalize cutAt a' c' k = a2 at HB4 hsl3
          clear hJ3 hk3 HJ3 HR hy hsl
          gi_wp2
          go_roundw
          case rel =>
            refine ⟨r.drop k, a2, m - k, c' - k, f', pre ++ [(t, true)], by rw [List.length_drop, ← Hm.out], by omega, rfl, by omega, HB4.out, HJ4.out, by omega, ?_, hn4⟩
            rw [Hseq.out, Hs.out, List.append_assoc]
            rfl
          case measure => simp; omega
        · have HX := hid hJx3
          clear hJx3 HR hy HJ3
          gi_wp2
          refine bodyPost_ret (results_none rfl _ _ _) rfl ?_
          exact ⟨⟨_, rfl⟩, .inr ⟨_, by rw [Hseq.out, Hs.out]; exact ⟨_, by rw [List.append_assoc]; rfl⟩, HX.out⟩⟩
    · have d1 : ¬ (0 : Int) < (m : Int) := by omega
      have hr0 : r = [] := by
        have := Hm.out
        exact List.length_eq_zero_iff.1 (by omega)
      gi_wp2
      go_end0
      exact ⟨⟨_, rfl⟩, .inl ⟨_, by rw [Hseq.out, hr0, seqF_nil, List.append_nil], HJp.out⟩⟩
theorem each_stops (n Bk : Nat) (x : List UInt8) (a : Option Addr) (cap : Nat) (hx : x.length ≤ 64) (hcap : x.length ≤ cap) (n₀ : Nat) (w : World) (hn0 : n₀ ≤ w.heap.size) (hlt : Bk < w.heap.size) (hBk : w.cell? ⟨Bk, 0, none⟩ = some (.slice a x.length cap)) (hB : BytesB n₀ w a x) :
    SeqStopsK Fence.wide n Tryd.prog 45 #[.pointer (some ⟨Bk, 0, none⟩)] (fun y : Prt => #[.string ⟨y.1.toArray⟩, .bool y.2]) (Below n₀) (fun ys => ys = seqF x.length x) (fun pre => pre <+: seqF x.length x) 65 w :=
  fun l J Jx W hW hJ _ hY h0 => each1_in n l Bk n₀ x a cap hx hcap J Jx W (Nat.le_trans hn0 hW.size) hJ hY ((hW.cell (p := ⟨Bk, 0, none⟩) hlt).trans hBk) (hB.keep (hW.mono hn0)) h0
set_option maxHeartbeats 400000 in
theorem eachPart_any (w : World) (a : Option Addr) (n cap : Nat) : Calls Tryd.prog 36 #[.slice a n cap] w fun e w' => e = .returned (.func (.func 45) #[] #[.pointer (some ⟨w.heap.size, 0, none⟩)]) ∧ w' = w.alloc (.cells #[.slice a n cap] 23) := by
  go_enter Tryd.func36, Tryd.ntmps36
  go_wp2
  go_ret
  exact ⟨rfl, rfl⟩
end Go.Proofs.YtgjahhfpfdgjhaaDoor
