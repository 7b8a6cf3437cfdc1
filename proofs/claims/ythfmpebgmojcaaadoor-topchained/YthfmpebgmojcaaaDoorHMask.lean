/- YthfmpebgmojcaaaDoorHEnd + YthfmpebgmojcaaaDoorHReg + YthfmpebgmojcaaaDoorHSum + YthfmpebgmojcaaaDoorHTop + YthfmpebgmojcaaaDoorHMask -/
import Derived.Test.YthfmpebgmojcaaaDoorTkH
import Derived.Test.YthfmpebgmojcaaaDoorHWith
import Derived.OrdersHeld
/- The bytes by which those so far come to whole blocks: (running).end. -/
namespace Go.Proofs.YthfmpebgmojcaaaDoor
open Go.RowKit
set_option linter.unusedVariables false
set_option maxRecDepth 20000
set_option maxRecDepth 20000
theorem addr_add (b o j : Nat) : (⟨b, o, none⟩ : Addr).add j = ⟨b, o + j, none⟩ := by unfold Addr.add; split <;> simp_all
theorem Tryd.info5 : (Tryd.prog.info? 5).map (fun i => (i.zero, i.size, i.bytes)) = some (some (.int .u8 0), 1, 1) := by kernel_rfl
theorem app_bytes (w : World) {ops : Array Oper} {rest : List Oper} {o : Oper} {a : Act} {Q : Exit → Act → World → Prop} (hgd : o.guard = none) (s x : Operand)
    (ho : o.op = .call { callee := .builtin .append, args := #[s, x], argTypes := #[40, 40] }) (base : Nat) (v : Value) (xs : List UInt8) (hs : a.eval s = v)
    (hown : w.ownsRow base 5 1 v xs.length (cellsOf xs)) (ad : Addr) (m c : Nat) (news : List UInt8) (hm : news.length = m) (hx : a.eval x = .slice (some ad) m c)
    (hnews : ∀ j (h : j < news.length), w.cell? (ad.add j) = some (.int .u8 (news[j].toNat : Int))) (hb : xs.length + m ≤ 140737488355328) (hbase : base ≤ w.heap.size)
    (h : ∀ v' w', w'.ownsRow base 5 1 v' (xs ++ news).length (cellsOf (xs ++ news)) → Below base w w' → (0 < (xs ++ news).length → ∃ g cap, v' = .slice (some ⟨g, 0, none⟩) (xs ++ news).length cap) → wpList Tryd.prog ops Q rest (a.put o.dst v') w') :
    wpList Tryd.prog ops Q (o :: rest) a w := by
  obtain ⟨i0, hi, hz0, hz1, hz2⟩ := info_parts Tryd.info5
  subst hm
  refine wpList_append_own w hgd s x 40 ho base 5 i0 (.int .u8 0) 1 1 Tryd.underlying40 hi hz0 hz1 hz2 rfl (by decide) v xs.length (cellsOf xs) hs hown ad news.length c (cellsOf news) hx (by simp [cellsOf_length]) (fun j u hj => ?_) (cellsOf_one _) (by unfold maxLen; omega) (by omega) hbase ?_
  · have hj' : j < news.length := by
      have := (List.getElem?_eq_some_iff.1 hj).1
      simpa [cellsOf_length] using this
    rw [hnews j hj']
    have := (List.getElem?_eq_some_iff.1 hj).2
    simp [cellsOf] at this
    rw [this]
  · intro v' w' h1 h2 h3
    rw [← cellsOf_append, ← List.length_append] at h1
    refine h v' w' h1 ((Below.refl _ _).grown h2 hbase (fun k hk => (hown.lt k hk).1)) (fun hpos => ?_)
    rcases h1.2 with ⟨_, h0⟩ | ⟨g, cap, _, rfl, _⟩
    · omega
    · exact ⟨g, cap, rfl⟩
theorem app_lits (w : World) {ops : Array Oper} {rest : List Oper} {o : Oper} {a : Act} {Q : Exit → Act → World → Prop} (hgd : o.guard = none) (s x : Operand)
    (ho : o.op = .call { callee := .builtin .append, args := #[s, x], argTypes := #[40, 40] }) (base : Nat) (v : Value) (xs : List UInt8) (hs : a.eval s = v)
    (hown : w.ownsRow base 5 1 v xs.length (cellsOf xs)) (cs : List UInt8) (m : Nat) (hm : cs.length = m) (hx : a.eval x = .slice (some ⟨w.heap.size, 0, none⟩) m m) (hb : xs.length + m ≤ 140737488355328) (hbase : base ≤ w.heap.size)
    (h : ∀ v' w', w'.ownsRow base 5 1 v' (xs ++ cs).length (cellsOf (xs ++ cs)) → Below base w w' → (0 < (xs ++ cs).length → ∃ g cap, v' = .slice (some ⟨g, 0, none⟩) (xs ++ cs).length cap) → wpList Tryd.prog ops Q rest (a.put o.dst v') w') :
    wpList Tryd.prog ops Q (o :: rest) a (w.alloc (.cells (cellsOf cs).toArray 5)) := by
  refine app_bytes _ hgd s x ho base v xs hs (hown.alloc _) ⟨w.heap.size, 0, none⟩ m m cs hm hx (fun j hj => ?_) hb (by simp; omega) (fun v' w' h1 h2 h3 => h v' w' h1 (((Below.refl _ _).alloc hbase _).trans h2) h3)
  rw [addr_add, Nat.zero_add, World.cell?_alloc_new]
  simp [cellsOf, hj]
def endAt (N k : Nat) : List UInt8 := (128 :: List.replicate (noughts N) 0) ++ (be8 (N * 8)).take k
theorem endAt_all (N : Nat) : endAt N 8 = pad N := by
  unfold endAt pad
  rw [List.take_of_length_le (by rw [be8_length]; omega)]
theorem be8_get (n k : Nat) (h : k < 8) : (be8 n)[k]'(by rw [be8_length]; exact h) = UInt8.ofNat (n / 2 ^ (56 - 8 * k)) := by simp [be8]
theorem endAt_step (N k : Nat) (h : k < 8) : endAt N k ++ [UInt8.ofNat (N * 8 / 2 ^ (56 - 8 * k))] = endAt N (k + 1) := by
  unfold endAt
  rw [List.take_succ_eq_append_getElem (by rw [be8_length]; exact h), be8_get _ _ h, List.append_assoc]
theorem endAt_length (N k : Nat) : (endAt N k).length ≤ 73 := by
  have h1 : ((be8 (N * 8)).take k).length ≤ 8 := by rw [List.length_take, be8_length]; omega
  have h2 : noughts N < 64 := by unfold noughts; omega
  unfold endAt
  rw [List.length_append, List.length_cons, List.length_replicate]
  omega
theorem endAt_zero (N : Nat) : endAt N 0 = 128 :: List.replicate (noughts N) 0 := by simp [endAt]
theorem byte_of (x : Nat) : IntKind.u8.wrap (x : Int) = ((UInt8.ofNat x).toNat : Int) := by
  rw [IntKind.wrap_u8]
  simp
theorem made_zeros (n : Nat) : (madeCells (Value.int .u8 0).cells n).toList = cellsOf (List.replicate n 0) := by
  have : (Value.int .u8 0).cells = #[.int .u8 0] := rfl
  rw [this, toList_madeCells_one]
  simp [cellsOf]
theorem own_mono {w : World} {B B' : Nat} {e : TypeId} {size : Nat} {v : Value} {n : Nat} {xs : List Value} (h : w.ownsRow B e size v n xs) (hB : B' ≤ B) : w.ownsRow B' e size v n xs := by
  refine ⟨h.1, ?_⟩
  rcases h.2 with h | ⟨g, cap, cur, hv, hg, r⟩
  · exact .inl h
  · exact .inr ⟨g, cap, cur, hv, by omega, r⟩
set_option maxHeartbeats 1000000 in
theorem end_any {w : World} (s : S8) (bk : List UInt8) (N : Nat) (hb : bk.length = 64) (hN : N < 1152921504606846976) :
    Calls Tryd.prog 90 #[.agg (rvals s bk N)] w fun e w' => ∃ v, e = .returned v ∧ w'.ownsRow w.heap.size 5 1 v (pad N).length (cellsOf (pad N)) ∧ Below w.heap.size w w' := by
  obtain ⟨i0, hi, hz0, hz1, hz2⟩ := info_parts Tryd.info5
  obtain ⟨R, hR⟩ : ∃ R, R = rvals s bk N := ⟨_, rfl⟩
  have c72 : (w.alloc (.cells R 134)).cell? ⟨w.heap.size, 72, none⟩ = some (.int .i64 (N : Int)) := by
    rw [cell_of_row _ _ 72 _ _ _ (heap_alloc_new w _), hR, rvals, List.getElem?_toArray]
    exact rcells_size _ _ _ hb
  have q0 : IntKind.i64.wrap ((N : Int) + 1) = (N : Int) + 1 := by rw [IntKind.wrap_i64]; omega
  have q1 : IntKind.i64.wrap ((N : Int) + 1 + 8) = (N : Int) + 1 + 8 := by rw [IntKind.wrap_i64]; omega
  obtain ⟨o, ho⟩ : ∃ o, o = (N + 1 + 8) % 64 := ⟨_, rfl⟩
  have q2 : ((N : Int) + 1 + 8).tmod 64 = (o : Int) := by rw [Int.tmod_eq_emod_of_nonneg (by omega)]; omega
  obtain ⟨z, hz⟩ : ∃ z, z = noughts N := ⟨_, rfl⟩
  have hz' : z = (64 - o) % 64 := by rw [hz, ho]; rfl
  have q3 : ((64 : Int) - (o : Int)).tmod 64 = (z : Int) := by rw [Int.tmod_eq_emod_of_nonneg (by omega)]; omega
  have Hz := hid hz
  have lz : z < 64 := by omega
  have lo : o < 64 := by omega
  rw [← hR]
  clear hR hz hz' ho
  go_enter Tryd.func90, Tryd.ntmps90
  go_wp2_with fail
  rw [run_make (P := Tryd.prog) _ 40 5 i0 (.int .u8 0) Tryd.underlying40 hi hz0 .i64 .i64 (1 + (z : Int)) (1 + (z : Int) + 8) (by omega) (by omega) (by rw [hz2]; omega) (by omega)]
  simp only [Result.andThen]
  rw [Oper.upon_value, show (1 + (z : Int)).toNat = 1 + z by omega, show (1 + (z : Int) + 8).toNat = 1 + z + 8 by omega, hz1, Nat.mul_one, show (w.alloc (.cells R 134)).heap.size = w.heap.size + 1 by simp]
  obtain ⟨W1, hW1⟩ : ∃ W1, W1 = (w.alloc (.cells R 134)).alloc (.cells (madeCells (Value.int .u8 0).cells (1 + z + 8)) 5) := ⟨_, rfl⟩
  have g1 : W1.heap[w.heap.size + 1]? = some (.cells (madeCells (Value.int .u8 0).cells (1 + z + 8)) 5 (0, 0)) := by rw [hW1]; exact heap_alloc2_new w _ _
  have hbel : Below w.heap.size w W1 := by rw [hW1]; exact ((Below.refl _ w).alloc (Nat.le_refl _) _).alloc (by simp) _
  have k72 : W1.cell? ⟨w.heap.size, 72, none⟩ = some (.int .i64 (N : Int)) := by
    rw [hW1, World.cell?_of_block (w := w.alloc (.cells R 134)) (Below.heap_alloc _ _ _ (by simp))]; exact c72
  have f0 := frozen_of_row _ _ 0 _ _ g1
  have c0 : W1.cell? ⟨w.heap.size + 1, 0, none⟩ = some (.int .u8 0) := by
    rw [cell_of_row _ _ 0 _ _ _ g1, ← Array.getElem?_toList, made_zeros, show 1 + z + 8 = (z + 8) + 1 by omega, List.replicate_succ]
    rfl
  have own0 : (W1.setCell ⟨w.heap.size + 1, 0, none⟩ (.int .u8 128)).ownsRow (w.heap.size + 1) 5 1 (.slice (some ⟨w.heap.size + 1, 0, none⟩) (1 + z) (1 + z + 8)) (endAt N 0).length (cellsOf (endAt N 0)) := by
    have hl : (endAt N 0).length = 1 + z := by rw [endAt_zero, ← Hz.out]; simp; omega
    refine ⟨by rw [cellsOf_length, Nat.mul_one], .inr ⟨w.heap.size + 1, 1 + z + 8, _, by rw [hl], Nat.le_refl _, heap_setCell_same _ _ _ _ _ _ g1, by omega, by unfold maxLen; omega, by simp [size_madeCells], ?_⟩⟩
    rw [Array.toList_setIfInBounds, made_zeros, hl, Nat.mul_one, endAt_zero, ← Hz.out, show 1 + z + 8 = (z + 8) + 1 by omega, List.replicate_succ, show 1 + z = z + 1 by omega]
    simp [cellsOf, List.take_replicate]
  rw [← hW1]
  have Hown0 := hid own0
  have Hbel0 := hid (hbel.setCell (p := ⟨w.heap.size + 1, 0, none⟩) (by simp) (.int .u8 128))
  have Hk := hid ((World.cell?_setCell_other W1 ⟨w.heap.size + 1, 0, none⟩ ⟨w.heap.size, 72, none⟩ (.int .u8 128) (by intro h; simp only [Addr.mk.injEq] at h; omega)).trans k72)
  clear hW1 own0 hbel k72 g1 c72 q0 q1 q2 q3 hi hz0 hz1 hz2
  go_wp2_with fail
  go_loopw [5, 6] (fun v5 v6 wr => ∃ k : Nat, k ≤ 8 ∧ v6 = .int .i64 (56 - 8 * (k : Int)) ∧ wr.ownsRow (w.heap.size + 1) 5 1 v5 (endAt N k).length (cellsOf (endAt N k)) ∧ wr.cell? ⟨w.heap.size, 72, none⟩ = some (.int .i64 (N : Int)) ∧ Below w.heap.size w wr) (fun _ v6 _ => (intOf v6 + 8).toNat)
  case atStart => exact ⟨0, by omega, rfl, Hown0.out, Hk.out, Hbel0.out⟩
  case round =>
    obtain ⟨k, hk, rfl, hown, h72, hbel⟩ := hrel
    have Hown := hid hown
    have Hbel := hid hbel
    have H72 := hid h72
    clear hown hbel Hown0 Hbel0 Hk
    by_cases hlt : k < 8
    · have q0 : (0 : Int) ≤ 56 - 8 * (k : Int) := by omega
      have q1 : (56 : Int) - 8 * (k : Int) ≤ 64 := by omega
      have q2 : IntKind.u64.wrap (N : Int) = (N : Int) := by rw [IntKind.wrap_u64]; omega
      have q3 : IntKind.u64.wrap ((N : Int) * 8) = (N : Int) * 8 := by rw [IntKind.wrap_u64]; omega
      have q4 : IntKind.i64.wrap (56 - 8 * (k : Int) - 8) = 56 - 8 * ((k + 1 : Nat) : Int) := by rw [IntKind.wrap_i64]; omega
      have Hst := hid (endAt_step N k hlt)
      obtain ⟨b, hb8⟩ : ∃ b, b = UInt8.ofNat (N * 8 / 2 ^ (56 - 8 * k)) := ⟨_, rfl⟩
      have q5 : (N : Int) * 8 / 2 ^ (56 - 8 * k) % 256 = (b.toNat : Int) := by
        have h := byte_of (N * 8 / 2 ^ (56 - 8 * k))
        rw [← hb8, IntKind.wrap_u8] at h
        rw [← h]
        simp
      rw [← hb8] at Hst
      have Hlen := hid (endAt_length N k)
      have Hlt : Hid (w.heap.size + 1 ≤ wr.heap.size) := World.block_lt_of_cell? _ _ h72
      clear hb8
      go_wp2_with (at_builtin; refine app_lits _ rfl (.tmp 27) (.tmp 35) rfl (w.heap.size + 1) _ (endAt N k) rfl Hown.out [b] 1 rfl rfl (by have := Hlen.out; omega) Hlt.out ?_; intro v' w' hown' hb' hv'; have Hown' := hid hown'; have Hb' := hid hb'; clear hown' hb' hv')
      go_roundw
      case rel =>
        refine ⟨k + 1, by omega, by go_num, ?_, ?_, ?_⟩
        · rw [← Hst.out]; exact Hown'.out
        · exact (Hb'.out.cell (by simp)).trans H72.out
        · exact Hbel.out.trans (Hb'.out.mono (by omega))
      case measure => simp [intOf]; omega
    · have hk8 : k = 8 := by omega
      have q0 : ¬ (0 : Int) ≤ 56 - 8 * (k : Int) := by omega
      have Hend : Hid (endAt N k = pad N) := by
        show _ = _
        rw [hk8, endAt_all]
      clear hk8
      go_wp2
      go_ret
      refine ⟨_, rfl, ?_, Hbel.out⟩
      have h := Hown.out
      rw [Hend.out] at h
      exact own_mono h (by omega)
end Go.Proofs.YthfmpebgmojcaaaDoor
/- Regions that draw their order, by states that several orders come to; one operation by its own law. No program. -/
namespace Go.Proofs.YthfmpebgmojcaaaDoor
open Go.RowKit
set_option linter.unusedVariables false
set_option maxRecDepth 20000
set_option maxRecDepth 20000
theorem wp_act {P : Program} {c : Code} {Q : Exit → Act → World → Prop} {w : World} (a : Act) (h : ∀ A, A = a → c.wp P Q A w) : c.wp P Q a w := h a rfl
theorem put_sz (a : Act) (d : Option Tmp) (v : Value) : (a.put d v).tmps.size = a.tmps.size := by cases d <;> simp [Act.put]
theorem ev_eq (a : Act) (v : Value) {d : Tmp} (h : d < a.tmps.size) : (a.put (some d) v).eval (.tmp d) = v := by
  simp [Act.eval, Act.put, h]
theorem ev_ne (a : Act) (v : Value) {d e : Tmp} (h : d ≠ e) : (a.put (some d) v).eval (.tmp e) = a.eval (.tmp e) :=
  Act.eval_put fun d' hd => by cases hd; intro hh; cases hh; exact h rfl
theorem evn {a : Act} {v u : Value} {d e : Tmp} (h : a.eval (.tmp e) = u) (hd : d ≠ e := by decide) : (a.put (some d) v).eval (.tmp e) = u := (ev_ne a v hd).trans h
theorem put_swap (a : Act) {d e : Tmp} {v u : Value} (h : d ≠ e) : (a.put (some d) v).put (some e) u = (a.put (some e) u).put (some d) v :=
  Act.put_comm a v u (fun d' hd he => by cases hd; cases he; exact h rfl)
theorem heap_lt {w : World} {g : Nat} {o : Obj} (h : w.heap[g]? = some o) : g < w.heap.size := (Array.getElem?_eq_some_iff.1 h).1
section
variable {P : Program} {ops : Array Oper} {Q : Exit → Act → World → Prop}
theorem wp_split {c : Code} {a : Act} {w : World} (G : Act → World → Prop) (h1 : c.wp P (fun e a w => e = .normal ∧ G a w) a w) (h2 : ∀ a w, G a w → Q .normal a w) : c.wp P Q a w :=
  Code.wp_mono (fun e a w h => by obtain ⟨rfl, h⟩ := h; exact h2 a w h) h1
theorem wpOp_own {i : Nat} {o : Oper} {K : Act → World → Prop} {a : Act} {w : World} (hi : ops[i]? = some o) (hg : o.guard = none) (h : ∀ K' : Act → World → Prop, (∀ a w, K a w → K' a w) → o.wp P a w K' Q) : wpOp P ops Q i K a w :=
  wpOp_step hi fun K' hK' => by
    have hw : Region.wanted o (yielded ops a.tmps) = true := by simp [Region.wanted, hg]
    rw [if_pos hw]
    exact h K' hK'
theorem wp_calls {o : Oper} {a : Act} {w : World} {K : Act → World → Prop} (f : FuncId) (args : Array Value) (he : (execOp a.eval o).run P w = .ok (.enter f args) w) (h : Calls P f args w fun e w'' => ∃ v, e = .returned v ∧ K (a.put o.dst v) w'') : o.wp P a w K Q := by
  unfold Oper.wp
  rw [he, Oper.upon_enter]
  refine h.mono fun e w'' hh => ?_
  obtain ⟨v, rfl, hk⟩ := hh
  exact hk
theorem wp_calls0 {o : Oper} {a : Act} {w : World} {K : Act → World → Prop} (f : FuncId) (hf : ∀ (args : Array Value) (w : World), (callFunc f args).run P w = .ok (.enter f args) w) (ts : Array TypeId) (ho : o.op = .call { callee := .value (.func f), args := #[], argTypes := ts }) (h : Calls P f #[] w fun e w'' => ∃ v, e = .returned v ∧ K (a.put o.dst v) w'') : o.wp P a w K Q :=
  wp_calls f #[] (by simp [execOp, ho, resolve, invoke, go_sem, hf]) h
theorem wp_calls1 {o : Oper} {a : Act} {w : World} {K : Act → World → Prop} (f : FuncId) (hf : ∀ (args : Array Value) (w : World), (callFunc f args).run P w = .ok (.enter f args) w) (x : Operand) (ts : Array TypeId) (ho : o.op = .call { callee := .value (.func f), args := #[x], argTypes := ts }) (v : Value) (hx : a.eval x = v) (h : Calls P f #[v] w fun e w'' => ∃ v, e = .returned v ∧ K (a.put o.dst v) w'') : o.wp P a w K Q :=
  wp_calls f #[v] (by subst hx; simp [execOp, ho, resolve, invoke, go_sem, hf]) h
theorem wp_calls2 {o : Oper} {a : Act} {w : World} {K : Act → World → Prop} (f : FuncId) (hf : ∀ (args : Array Value) (w : World), (callFunc f args).run P w = .ok (.enter f args) w) (x y : Operand) (ts : Array TypeId) (ho : o.op = .call { callee := .value (.func f), args := #[x, y], argTypes := ts }) (v u : Value) (hx : a.eval x = v) (hy : a.eval y = u) (h : Calls P f #[v, u] w fun e w'' => ∃ v, e = .returned v ∧ K (a.put o.dst v) w'') : o.wp P a w K Q :=
  wp_calls f #[v, u] (by subst hx; subst hy; simp [execOp, ho, resolve, invoke, go_sem, hf]) h
end
end Go.Proofs.YthfmpebgmojcaaaDoor
/- A running hash's sum: (running).sum. -/
namespace Go.Proofs.YthfmpebgmojcaaaDoor
open Go.RowKit
set_option linter.unusedVariables false
set_option maxRecDepth 20000
set_option maxRecDepth 20000
theorem size_hash : (Tryd.prog.info? 69).map (·.size) = some 32 := by kernel_rfl
theorem zero_hash : (Tryd.prog.info? 69).map (fun i => (i.zero, i.size)) = some (some (.agg (bvs (List.replicate 32 0))), 32) := by kernel_rfl
def RP (T : S8) (R : List Value) : Prop := ∃ bk n, R = rcells T bk n ∧ bk.length = 64
theorem rp_size {T : S8} {R : List Value} (h : RP T R) : (Tryd.prog.info? 134).map (·.size) = some R.toArray.size := by
  obtain ⟨bk, n, rfl, hb⟩ := h
  rw [List.size_toArray, rcells_length _ _ _ hb]
  exact size_running
theorem rp_old {T : S8} {R : List Value} {Y : Array Value} (hY : Y.size = 73) (h : RP T R) : Y.size = R.toArray.size := by
  obtain ⟨bk, n, rfl, hb⟩ := h
  exact hY.trans (by simp only [List.size_toArray]; rw [rcells_length _ _ _ hb])
theorem rp_one {T : S8} {R : List Value} (h : RP T R) : R.toArray.all (·.oneCell') = true := by
  obtain ⟨bk, n, rfl, hb⟩ := h
  exact rvals_one T bk n
theorem rp_cell {T : S8} {R : List Value} (h : RP T R) (k : Nat) (hk : k < 8) : R.toArray[k]? = some (vw (T.toL[k]'hk)) := by
  obtain ⟨bk, n, rfl, hb⟩ := h
  rw [List.getElem?_toArray, rcells, List.getElem?_append_left (by simp [S8.toL_length]; exact hk)]
  rw [List.getElem?_map, List.getElem?_eq_getElem (by exact hk)]
  rfl
theorem rng_below {w w' : World} {g : Nat} {R : List Value} (h : w.rangeAt g 0 R) (hb : Below w.heap.size w w') : w'.rangeAt g 0 R := fun j v hj =>
  (hb.cell (World.block_lt_of_cell? _ _ (h j v hj))).trans (h j v hj)
theorem rng_setRow {w : World} {g k : Nat} {R : List Value} (h : w.rangeAt g 0 R) (hk : g ≠ k) (cs : Array Value) : (w.setRow k cs).rangeAt g 0 R := fun j v hj =>
  (cell_setRow_other _ _ _ _ hk).trans (h j v hj)
theorem bytes_of_own {w : World} {B e : Nat} {v : Value} {n : Nat} {l : List UInt8} (h : w.ownsRow B e 1 v n (cellsOf l)) : ∃ a cap, v = .slice a l.length cap ∧ Bytes w a l ∧ l.length ≤ cap := by
  have hn : l.length = n := by have := h.1; simpa [cellsOf_length] using this
  subst hn
  rcases h.2 with ⟨rfl, h0⟩ | ⟨g, cap, cur, rfl, hb, hg, hc, hm, hs, ht⟩
  · refine ⟨none, 0, by rw [h0], fun i hi => ?_, by omega⟩
    omega
  · refine ⟨some ⟨g, 0, none⟩, cap, rfl, fun i hi => ⟨g, 0, rfl, ?_⟩, hc⟩
    have := World.ownsRow.cellAt h i (by omega)
    rw [Nat.zero_add, this, cellsOf_get l i hi]
theorem wp_alloc_row {o : Oper} {a : Act} {w : World} {K : Act → World → Prop} {Q : Exit → Act → World → Prop} (ty : TypeId) (ho : o.op = .alloc ty) (c : Array Value)
    (hz : ∀ w, (zeroValue ty).run Tryd.prog w = .ok (.agg c) w) (h : K (a.put o.dst (.pointer (some ⟨w.heap.size, 0, none⟩))) (w.alloc (.cells c ty))) : o.wp Tryd.prog a w K Q := by
  unfold Oper.wp execOp
  simp only [ho, Instr.alloc, Sem.run_bind, hz, Result.andThen_ok, Sem.run_pure, newVar, go_sem]
  exact h
theorem wp_store_run {o : Oper} {a : Act} {w : World} {K : Act → World → Prop} {Q : Exit → Act → World → Prop} (g : Nat) (R : List Value) (Y : Array Value) (ho : o.op = .store 134 (.tmp 3) (.tmp 11)) (ha : a.eval (.tmp 3) = .pointer (some ⟨g, 0, none⟩)) (hb : a.eval (.tmp 11) = .agg R.toArray)
    (hg : w.heap[g]? = some (.cells Y 134 (0, 0))) (hi : (Tryd.prog.info? 134).map (·.size) = some R.toArray.size) (hold : Y.size = R.toArray.size) (h1 : R.toArray.all (·.oneCell') = true) (h : K (a.put o.dst undef) (w.setRow g R.toArray)) : o.wp Tryd.prog a w K Q :=
  wp_store_row 134 (.tmp 3) (.tmp 11) ho g R.toArray ha hb 134 Y hg hi hold h1 h
structure SI (w : World) (N : Nat) (R : List Value) (Z : Array Value) (W : World) : Prop where
  rng : W.rangeAt N 0 R
  res : W.heap[N + 1]? = some (.cells Z 69 (0, 0))
  bel : Below N w W
  big : N + 2 ≤ W.heap.size
theorem SI.below {w W W' : World} {N : Nat} {R : List Value} {Z : Array Value} (h : SI w N R Z W) (hb : Below W.heap.size W W') : SI w N R Z W' :=
  ⟨rng_below h.rng hb, (hb.block _ (by have := h.big; omega)).trans h.res, h.bel.trans (hb.mono (by have := h.big; omega)), by have := hb.size; have := h.big; omega⟩
theorem SI.alloc {w W : World} {N : Nat} {R : List Value} {Z : Array Value} (h : SI w N R Z W) (o : Obj) : SI w N R Z (W.alloc o) :=
  h.below ((Below.refl _ W).alloc (Nat.le_refl _) o)
theorem SI.setRow {w W : World} {N : Nat} {R : List Value} {Z : Array Value} (h : SI w N R Z W) {g : Nat} (hg : N + 2 ≤ g) (cs : Array Value) : SI w N R Z (W.setRow g cs) :=
  ⟨rng_setRow h.rng (by omega) _, (setRow_other _ _ _ _ (by omega)).trans h.res, h.bel.setRow (by omega) _, by rw [size_setRow]; exact h.big⟩
theorem bvs_set (l : List UInt8) (i : Nat) (b : UInt8) : (bvs l).setIfInBounds i (.int .u8 (b.toNat : Int)) = bvs (l.set i b) := by
  simp [bvs, cellsOf, List.map_set]
def outAt (s : S8) (n : Nat) : List UInt8 := (outB s).take n ++ List.replicate (32 - n) 0
theorem outAt_length (s : S8) (n : Nat) (h : n ≤ 32) : (outAt s n).length = 32 := by simp [outAt, outB_length]; omega
theorem outAt_zero (s : S8) : outAt s 0 = List.replicate 32 0 := rfl
theorem outAt_all (s : S8) : outAt s 32 = outB s := by simp [outAt, List.take_of_length_le (Nat.le_of_eq (outB_length s))]
theorem outAt_set (s : S8) (k j : Nat) (hk : k < 8) (hj : j < 4) : (outAt s (4 * k + j)).set (4 * k + j) (UInt8.ofNat ((s.toL[k]'hk).toNat / 2 ^ (24 - 8 * j))) = outAt s (4 * k + j + 1) := by
  have hl : 4 * k + j < 32 := by omega
  have hb : (outB s)[4 * k + j]'(by rw [outB_length]; exact hl) = UInt8.ofNat ((s.toL[k]'hk).toNat / 2 ^ (24 - 8 * j)) := by
    simp only [outB, List.getElem_map, List.getElem_range]
    rw [show (4 * k + j) / 4 = k by omega, show (4 * k + j) % 4 = j by omega]
    rw [List.getD_eq_getElem?_getD, List.getElem?_eq_getElem (show k < s.toL.length from hk)]
    rfl
  unfold outAt
  rw [List.set_append_right _ _ (by simp [outB_length]; omega), List.take_succ_eq_append_getElem (by rw [outB_length]; exact hl), hb]
  have e : 4 * k + j - ((outB s).take (4 * k + j)).length = 0 := by simp [outB_length]; omega
  rw [e, show 32 - (4 * k + j) = (32 - (4 * k + j + 1)) + 1 by omega, List.replicate_succ]
  simp
set_option maxHeartbeats 6000000 in
theorem sum_any {w : World} {D : List UInt8} {s : S8} {bk : List UInt8} {f : Nat} (hP : Part D s bk f) (hl : D.length < 1152921504606846976) (hK : KAt w) :
    Calls Tryd.prog 66 #[.agg (rvals s bk D.length)] w fun e w' => e = .returned (.agg (bvs (sha D))) ∧ Below w.heap.size w w' := by
  obtain ⟨R, hR⟩ : ∃ R, R = rcells s bk D.length := ⟨_, rfl⟩
  obtain ⟨Z, hZ⟩ : ∃ Z, Z = bvs (List.replicate 32 0) := ⟨_, rfl⟩
  obtain ⟨Y, hY⟩ : ∃ Y, Y = rvals ⟨0, 0, 0, 0, 0, 0, 0, 0⟩ (List.replicate 64 0) 0 := ⟨_, rfl⟩
  obtain ⟨T, hT⟩ : ∃ T, T = blks init (D ++ pad D.length) := ⟨_, rfl⟩
  have zh := (zero_of_info zero_hash).1
  have zr := (zero_of_info zero_running).1
  rw [← hZ] at zh
  rw [← hY] at zr
  have HYs : Hid (Y.size = 73) := by
    show _ = _
    rw [hY]; exact rvals_size _ _ _ (by simp)
  have eR : rvals s bk D.length = R.toArray := by rw [hR]; rfl
  have lR : R.length = 73 := by rw [hR]; exact rcells_length _ _ _ hP.len
  have hu := Tryd.underlying134
  have hi : (Tryd.prog.info? 134).map (·.size) = some R.length := by rw [lR]; exact size_running
  have HS : Hid (bvs (sha D) = bvs (outB T)) := by
    show _ = _
    rw [hT]; rfl
  have HE : Hid (∀ W : World, Calls Tryd.prog 90 #[.agg R.toArray] W fun e w' => ∃ v, e = .returned v ∧ w'.ownsRow W.heap.size 5 1 v (pad D.length).length (cellsOf (pad D.length)) ∧ Below W.heap.size W w') := fun W => by
    have h := @end_any W s bk D.length hP.len hl
    rwa [eR] at h
  have HW : Hid (∀ (W : World) (v : Value) (B : Nat), KAt W → W.ownsRow B 5 1 v (pad D.length).length (cellsOf (pad D.length)) → Calls Tryd.prog 65 #[.agg R.toArray, v] W fun e w' => ∃ R' : List Value, e = .returned (.agg R'.toArray) ∧ RP T R' ∧ Below W.heap.size W w') := fun W v B hKW hv => by
    obtain ⟨a, cap, rfl, hB, hc⟩ := bytes_of_own hv
    have h := with_any hP (pad D.length) a cap hB (by have := pad_length D.length; unfold noughts at this; omega) hc hKW
    rw [eR] at h
    refine h.mono ?_
    rintro _ w' ⟨s', bk', f', rfl, hP', hb'⟩
    exact ⟨_, rfl, ⟨bk', _, by rw [hT, ← hP'.st], hP'.len⟩, hb'⟩
  have HZe := hid hZ
  rw [eR]
  clear hR hZ hY hT
  obtain ⟨N, hN⟩ : ∃ N, N = w.heap.size := ⟨_, rfl⟩
  go_enter Tryd.func66, Tryd.ntmps66
  go_wp2_with (with_reducible show Go.wpList _ _ _ _ _ _; refine wpList_alloc_row rfl 69 rfl Z zh.out ?_)
  clear eR
  have HK := hid hK
  have HY : Hid (Y.size = 73) := HYs.out
  have zr := hid zr
  obtain ⟨W0, hW0⟩ : ∃ W0, W0 = ((w.alloc (.cells R.toArray 134)).alloc (.cells Z 69)).drew := ⟨_, rfl⟩
  have s0 : SI w N R Z W0 := by
    rw [hW0, hN]
    refine ⟨(World.rangeAt_drew _ _ _ _).2 (fun j v hj => ?_), heap_alloc2_new w _ _, (((Below.refl _ w).alloc (Nat.le_refl _) _).alloc (by simp) _).drew, by simp⟩
    rw [Nat.zero_add, cell_of_row _ _ _ _ _ _ (heap_alloc2_old w _ _), List.getElem?_toArray, hj]
  have hf1 : ∀ (args : Array Value) (w : World), (callFunc 90 args).run Tryd.prog w = .ok (.enter 90 args) w := fun args w => by simp [go_sem]
  have hf2 : ∀ (args : Array Value) (w : World), (callFunc 65 args).run Tryd.prog w = .ok (.enter 65 args) w := fun args w => by simp [go_sem]
  have hm : Tryd.prog.follows .mixedOrders = true := by kernel_rfl
  refine wp_act _ fun A hA => ?_
  have sz : A.tmps.size = 35 := by rw [hA]; rfl
  have e1 : A.eval (.tmp 1) = .pointer (some ⟨N, 0, none⟩) := by rw [hA, hN]; rfl
  have r0 : ((w.alloc (.cells R.toArray 134)).alloc (.cells Z 69)).drew.rangeAt N 0 R := by rw [← hW0]; exact s0.rng
  refine wp_split (fun a W => ∃ (v : Value) (R' : List Value) (g : Nat), a = ((((A.put (some 8) (.agg R.toArray)).put (some 9) (.agg R.toArray)).put (some 10) v).put (some 11) (.agg R'.toArray)).put (some 3) (.pointer (some ⟨g, 0, none⟩)) ∧ RP T R' ∧ N + 2 ≤ g ∧ W.heap[g]? = some (.cells R'.toArray 134 (0, 0)) ∧ SI w N R Z W) ?_ ?_
  · refine wp_region_held (S := fun w9 => w9.rangeAt N 0 R) hm ?_
    refine tkH (i := 0) (d := 8) (v := .agg R.toArray) rfl rfl (yieldsIf_load_mid (by simp [Region.wanted]) 134 (.tmp 1) rfl N 0 e1 R _ (fun _ h => h) hu rfl hi) r0 ?_
    refine tkH (i := 1) (d := 9) (v := .agg R.toArray) rfl rfl (yieldsIf_load_mid (by simp [Region.wanted]) 134 (.tmp 1) rfl N 0 (evn e1) R _ (fun _ h => h) hu rfl hi) r0 ?_
    have z8 : ((A.put (some 8) (.agg R.toArray)).put (some 9) (.agg R.toArray)).tmps.size = 35 := by simp [put_sz, sz]
    have z9 : ((A.put (some 8) (.agg R.toArray)).put (some 9) (.agg R.toArray)).eval (.tmp 9) = .agg R.toArray := ev_eq _ _ (by simp [put_sz, sz])
    have z7 : ((A.put (some 8) (.agg R.toArray)).put (some 9) (.agg R.toArray)).eval (.tmp 8) = .agg R.toArray := evn (ev_eq _ _ (by simp [sz]))
    generalize (A.put (some 8) (.agg R.toArray)).put (some 9) (.agg R.toArray) = A2 at z8 z9 z7 ⊢
    rw [show ({ ((w.alloc (.cells R.toArray 134)).alloc (.cells Z 69)) with drawn := ((w.alloc (.cells R.toArray 134)).alloc (.cells Z 69)).drawn + 1 } : World) = W0 from hW0.symm]
    clear hA e1 r0 hW0 sz
    refine wpAnyH_all (rs := [2, 4]) (by kernel_rfl) (by simp) fun i hmem => ?_
    rcases (show i = 2 ∨ i = 4 by simpa using hmem) with rfl | rfl
    · refine wpOp_own rfl rfl fun K' hK' => ?_
      refine wp_calls1 90 hf1 (.tmp 9) _ rfl (.agg R.toArray) z9 ?_
      refine (HE.out _).mono ?_
      rintro _ w2 ⟨v, rfl, hv, hb2⟩
      have s2 := s0.below hb2
      refine ⟨v, rfl, hK' _ _ ⟨s2.rng, ?_⟩⟩
      clear hK' K'
      show wpAnyH _ _ _ _ _ _ _ (A2.put (some 10) v) _
      refine wpAnyH_all (rs := [3, 4]) (by kernel_rfl) (by simp) fun i hmem => ?_
      rcases (show i = 3 ∨ i = 4 by simpa using hmem) with rfl | rfl
      · refine wpOp_own rfl rfl fun K' hK' => ?_
        refine wp_calls2 65 hf2 (.tmp 8) (.tmp 10) _ rfl (.agg R.toArray) v (evn z7) (ev_eq _ _ (by simp [z8])) ?_
        refine (HW.out _ v _ (HK.out.below (hN ▸ s2.bel)) hv).mono ?_
        rintro _ w3 ⟨R', rfl, hR', hb3⟩
        have s3 := s2.below hb3
        refine ⟨_, rfl, hK' _ _ ⟨s3.rng, ?_⟩⟩
        clear hK' K'
        show wpAnyH _ _ _ _ _ _ _ ((A2.put (some 10) v).put (some 11) (.agg R'.toArray)) _
        refine wpAnyH_all (rs := [4]) (by kernel_rfl) (by simp) fun i hmem => ?_
        obtain rfl : i = 4 := by simpa using hmem
        refine wpOp_own rfl rfl fun K' hK' => ?_
        refine wp_alloc_row 134 rfl Y zr.out (hK' _ _ ⟨(s3.alloc _).rng, ?_⟩)
        clear hK' K'
        have s4 := s3.alloc (.cells Y 134)
        have y4 : (w3.alloc (.cells Y 134)).heap[w3.heap.size]? = some (.cells Y 134 (0, 0)) := heap_alloc_new w3 _
        have n4 := s3.big
        generalize w3.alloc (.cells Y 134) = W4 at s4 y4 ⊢
        generalize w3.heap.size = g at y4 n4 ⊢
        show wpAnyH _ _ _ _ _ _ _ (((A2.put (some 10) v).put (some 11) (.agg R'.toArray)).put (some 3) (.pointer (some ⟨g, 0, none⟩))) _
        obtain ⟨A5, hA5⟩ : ∃ A5, A5 = ((A2.put (some 10) v).put (some 11) (.agg R'.toArray)).put (some 3) (.pointer (some ⟨g, 0, none⟩)) := ⟨_, rfl⟩
        have x3 : A5.eval (.tmp 3) = .pointer (some ⟨g, 0, none⟩) := by rw [hA5]; exact ev_eq _ _ (by simp [put_sz, z8])
        have x11 : A5.eval (.tmp 11) = .agg R'.toArray := by rw [hA5]; exact evn (ev_eq _ _ (by simp [put_sz, z8]))
        have ho : A5 = ((A2.put (some 10) v).put (some 11) (.agg R'.toArray)).put (some 3) (.pointer (some ⟨g, 0, none⟩)) := hA5
        rw [← hA5]
        refine wpAnyH_all (rs := [5]) (by kernel_rfl) (by simp) fun i hmem => ?_
        obtain rfl : i = 5 := by simpa using hmem
        refine wpOp_own rfl rfl fun K' hK' => ?_
        refine wp_store_run g R' Y rfl x3 x11 y4 (rp_size hR') (rp_old HY.out hR') (rp_one hR') ?_
        have s5 := s4.setRow n4 R'.toArray
        refine hK' _ _ ⟨s5.rng, wpAnyH_done (by kernel_rfl) ⟨rfl, v, R', g, ho, hR', n4, setRow_heap _ _ _ _ _ _ y4, s5⟩ _⟩
      · refine wpOp_own rfl rfl fun K' hK' => ?_
        refine wp_alloc_row 134 rfl Y zr.out (hK' _ _ ⟨(s2.alloc _).rng, ?_⟩)
        clear hK' K'
        have s3 := s2.alloc (.cells Y 134)
        have y3 : (w2.alloc (.cells Y 134)).heap[w2.heap.size]? = some (.cells Y 134 (0, 0)) := heap_alloc_new w2 _
        have n4 := s2.big
        have hv := hv.alloc (.cells Y 134)
        generalize w2.alloc (.cells Y 134) = W3 at s3 y3 hv ⊢
        generalize w2.heap.size = g at y3 n4 ⊢
        show wpAnyH _ _ _ _ _ _ _ ((A2.put (some 10) v).put (some 3) (.pointer (some ⟨g, 0, none⟩))) _
        refine wpAnyH_all (rs := [3]) (by kernel_rfl) (by simp) fun i hmem => ?_
        obtain rfl : i = 3 := by simpa using hmem
        refine wpOp_own rfl rfl fun K' hK' => ?_
        refine wp_calls2 65 hf2 (.tmp 8) (.tmp 10) _ rfl (.agg R.toArray) v (evn (evn z7)) (evn (ev_eq _ _ (by simp [z8]))) ?_
        refine (HW.out _ v _ (HK.out.below (hN ▸ s3.bel)) hv).mono ?_
        rintro _ W4 ⟨R', rfl, hR', hb4⟩
        have s4 := s3.below hb4
        have y4 := (hb4.block _ (heap_lt y3)).trans y3
        refine ⟨_, rfl, hK' _ _ ⟨s4.rng, ?_⟩⟩
        clear hK' K'
        show wpAnyH _ _ _ _ _ _ _ (((A2.put (some 10) v).put (some 3) (.pointer (some ⟨g, 0, none⟩))).put (some 11) (.agg R'.toArray)) _
        obtain ⟨A5, hA5⟩ : ∃ A5, A5 = ((A2.put (some 10) v).put (some 3) (.pointer (some ⟨g, 0, none⟩))).put (some 11) (.agg R'.toArray) := ⟨_, rfl⟩
        have x3 : A5.eval (.tmp 3) = .pointer (some ⟨g, 0, none⟩) := by rw [hA5]; exact evn (ev_eq _ _ (by simp [put_sz, z8]))
        have x11 : A5.eval (.tmp 11) = .agg R'.toArray := by rw [hA5]; exact ev_eq _ _ (by simp [put_sz, z8])
        have ho : A5 = ((A2.put (some 10) v).put (some 11) (.agg R'.toArray)).put (some 3) (.pointer (some ⟨g, 0, none⟩)) := by rw [hA5]; exact put_swap _ (by decide)
        rw [← hA5]
        refine wpAnyH_all (rs := [5]) (by kernel_rfl) (by simp) fun i hmem => ?_
        obtain rfl : i = 5 := by simpa using hmem
        refine wpOp_own rfl rfl fun K' hK' => ?_
        refine wp_store_run g R' Y rfl x3 x11 y4 (rp_size hR') (rp_old HY.out hR') (rp_one hR') ?_
        have s5 := s4.setRow n4 R'.toArray
        refine hK' _ _ ⟨s5.rng, wpAnyH_done (by kernel_rfl) ⟨rfl, v, R', g, ho, hR', n4, setRow_heap _ _ _ _ _ _ y4, s5⟩ _⟩
    · refine wpOp_own rfl rfl fun K' hK' => ?_
      refine wp_alloc_row 134 rfl Y zr.out (hK' _ _ ⟨(s0.alloc _).rng, ?_⟩)
      clear hK' K'
      have s2 := s0.alloc (.cells Y 134)
      have y2 : (W0.alloc (.cells Y 134)).heap[W0.heap.size]? = some (.cells Y 134 (0, 0)) := heap_alloc_new W0 _
      have n4 := s0.big
      generalize W0.alloc (.cells Y 134) = W2 at s2 y2 ⊢
      generalize W0.heap.size = g at y2 n4 ⊢
      show wpAnyH _ _ _ _ _ _ _ (A2.put (some 3) (.pointer (some ⟨g, 0, none⟩))) _
      refine wpAnyH_all (rs := [2]) (by kernel_rfl) (by simp) fun i hmem => ?_
      obtain rfl : i = 2 := by simpa using hmem
      refine wpOp_own rfl rfl fun K' hK' => ?_
      refine wp_calls1 90 hf1 (.tmp 9) _ rfl (.agg R.toArray) (evn z9) ?_
      refine (HE.out _).mono ?_
      rintro _ w3 ⟨v, rfl, hv, hb3⟩
      have s3 := s2.below hb3
      have y3 := (hb3.block _ (heap_lt y2)).trans y2
      refine ⟨v, rfl, hK' _ _ ⟨s3.rng, ?_⟩⟩
      clear hK' K'
      show wpAnyH _ _ _ _ _ _ _ ((A2.put (some 3) (.pointer (some ⟨g, 0, none⟩))).put (some 10) v) _
      refine wpAnyH_all (rs := [3]) (by kernel_rfl) (by simp) fun i hmem => ?_
      obtain rfl : i = 3 := by simpa using hmem
      refine wpOp_own rfl rfl fun K' hK' => ?_
      refine wp_calls2 65 hf2 (.tmp 8) (.tmp 10) _ rfl (.agg R.toArray) v (evn (evn z7)) (ev_eq _ _ (by simp [put_sz, z8])) ?_
      refine (HW.out _ v _ (HK.out.below (hN ▸ s3.bel)) hv).mono ?_
      rintro _ W4 ⟨R', rfl, hR', hb4⟩
      have s4 := s3.below hb4
      have y4 := (hb4.block _ (heap_lt y3)).trans y3
      refine ⟨_, rfl, hK' _ _ ⟨s4.rng, ?_⟩⟩
      clear hK' K'
      show wpAnyH _ _ _ _ _ _ _ (((A2.put (some 3) (.pointer (some ⟨g, 0, none⟩))).put (some 10) v).put (some 11) (.agg R'.toArray)) _
      obtain ⟨A5, hA5⟩ : ∃ A5, A5 = ((A2.put (some 3) (.pointer (some ⟨g, 0, none⟩))).put (some 10) v).put (some 11) (.agg R'.toArray) := ⟨_, rfl⟩
      have x3 : A5.eval (.tmp 3) = .pointer (some ⟨g, 0, none⟩) := by rw [hA5]; exact evn (evn (ev_eq _ _ (by simp [z8])))
      have x11 : A5.eval (.tmp 11) = .agg R'.toArray := by rw [hA5]; exact ev_eq _ _ (by simp [put_sz, z8])
      have ho : A5 = ((A2.put (some 10) v).put (some 11) (.agg R'.toArray)).put (some 3) (.pointer (some ⟨g, 0, none⟩)) := by rw [hA5, put_swap (d := 3) (e := 10) _ (by decide)]; exact put_swap _ (by decide)
      rw [← hA5]
      refine wpAnyH_all (rs := [5]) (by kernel_rfl) (by simp) fun i hmem => ?_
      obtain rfl : i = 5 := by simpa using hmem
      refine wpOp_own rfl rfl fun K' hK' => ?_
      refine wp_store_run g R' Y rfl x3 x11 y4 (rp_size hR') (rp_old HY.out hR') (rp_one hR') ?_
      have s5 := s4.setRow n4 R'.toArray
      refine hK' _ _ ⟨s5.rng, wpAnyH_done (by kernel_rfl) ⟨rfl, v, R', g, ho, hR', n4, setRow_heap _ _ _ _ _ _ y4, s5⟩ _⟩
  · rintro a W ⟨v, R', g, rfl, hR', hg, hrow, hsi⟩
    subst hA
    subst hN
    have hgM : g < W.heap.size := heap_lt hrow
    have Hst : Hid ((W.alloc (.cells Z 69)).rangeAt g 0 T.vals.toList) := fun j u hj => by
      have hj8 : j < 8 := (List.getElem?_eq_some_iff.1 hj).1
      rw [Nat.zero_add, World.cell?_of_block (w := W) (Below.heap_alloc _ _ _ hgM), cell_of_row _ _ _ _ _ _ hrow, rp_cell hR' j hj8, ← hj, Array.getElem?_toList, vals_get T j hj8]
    have sv : Hid ((Tryd.prog.info? 131).map (·.size) = some T.vals.toList.length) := size_state
    have y1 : Hid ((W.alloc (.cells Z 69)).heap[W.heap.size]? = some (.cells (bvs (outAt T 0)) 69 (0, 0))) := by
      show _ = _
      rw [outAt_zero, ← HZe.out]; exact heap_alloc_new W _
    have x1 : Hid ((W.alloc (.cells Z 69)).heap[w.heap.size + 1]? = some (.cells Z 69 (0, 0))) := (hsi.alloc (.cells Z 69)).res
    have b1 : Hid (Below w.heap.size w (W.alloc (.cells Z 69))) := (hsi.alloc (.cells Z 69)).bel
    have Hlt : Hid (w.heap.size + 2 ≤ W.heap.size) := hsi.big
    have zz := hid zh
    have Zs : Hid (Z.size = 32) := by
      show _ = _
      rw [HZe.out, bvs_size]; simp
    clear HE HW HK hrow hR' hf1 hf2 HY zr s0 hW0 hsi hgM hm HYs hK hi hu lR r0 e1 sz zh
    go_wp2_with (with_reducible show Go.wpList _ _ _ _ _ _; first
      | refine wpList_alloc_row rfl 69 rfl Z zz.out ?_
      | refine wpList_load_mid rfl 131 _ rfl g 0 rfl T.vals.toList _ Hst.out Tryd.underlying131 rfl sv.out ?_)
    clear Hst sv zz
    go_loopw [14] (fun i wr => ∃ k : Nat, k ≤ 8 ∧ i = .int .i64 k ∧ wr.heap[W.heap.size]? = some (.cells (bvs (outAt T (4 * k))) 69 (0, 0)) ∧ wr.heap[w.heap.size + 1]? = some (.cells Z 69 (0, 0)) ∧ Below w.heap.size w wr) (fun i _ => 8 - (intOf i).toNat)
    case atStart => exact ⟨0, Nat.zero_le _, rfl, y1.out, x1.out, b1.out⟩
    case round =>
      clear y1 x1 b1
      obtain ⟨k, hk, rfl, hy, hx, hbel⟩ := hrel
      have Hy := hid hy
      have Hx := hid hx
      have Hb := hid hbel
      clear hy hx hbel
      by_cases hlt : k < 8
      · have i1 := index_state T.vals k _ hlt (vals_get T k hlt)
        obtain ⟨x, hxx⟩ : ∃ x : W32, x = T.toL[k]'hlt := ⟨_, rfl⟩
        rw [← hxx] at i1
        have Hxx := hid hxx
        clear hxx
        obtain ⟨V, hV⟩ : ∃ V, V = wr := ⟨_, rfl⟩
        rw [← hV] at Hy Hx Hb ⊢
        clear hV
        go_wp2_with fail
        go_loopw [18] (fun i wr => ∃ j : Nat, j ≤ 4 ∧ i = .int .i64 j ∧ wr.heap[W.heap.size]? = some (.cells (bvs (outAt T (4 * k + j))) 69 (0, 0)) ∧ wr.heap[w.heap.size + 1]? = some (.cells Z 69 (0, 0)) ∧ Below w.heap.size w wr) (fun i _ => 4 - (intOf i).toNat)
        case atStart => exact ⟨0, Nat.zero_le _, rfl, Hy.out, Hx.out, Hb.out⟩
        case round =>
          clear Hy Hx Hb
          obtain ⟨j, hj, rfl, hy, hx, hbel⟩ := hrel
          have Hy := hid hy
          have Hx := hid hx
          have Hb := hid hbel
          clear hx hbel
          by_cases hlj : j < 4
          · obtain ⟨m, hm⟩ : ∃ m, m = 4 * k + j := ⟨_, rfl⟩
            have q1 : IntKind.i64.wrap (4 * (k : Int)) = 4 * (k : Int) := by rw [IntKind.wrap_i64]; omega
            have q2 : IntKind.i64.wrap (4 * (k : Int) + (j : Int)) = (m : Int) := by rw [IntKind.wrap_i64]; omega
            have q2' : 4 * (k : Int) + (j : Int) = (m : Int) := by omega
            have q3 : IntKind.i64.wrap (24 - 8 * (j : Int)) = 24 - 8 * (j : Int) := by rw [IntKind.wrap_i64]; omega
            have q4 : (0 : Int) ≤ 24 - 8 * (j : Int) := by omega
            have q5 : (24 : Int) - 8 * (j : Int) ≤ 32 := by omega
            have q6 : m < 32 := by omega
            rw [← hm] at hy Hy
            have c1 := (cell_of_row _ _ m _ _ _ hy).trans (bvs_get _ m (by rw [outAt_length _ _ (by omega)]; exact q6))
            have f1 := frozen_of_row _ _ m _ _ hy
            obtain ⟨b, hb8⟩ : ∃ b, b = UInt8.ofNat (x.toNat / 2 ^ (24 - 8 * j)) := ⟨_, rfl⟩
            have q7 : (x.toNat : Int) / 2 ^ (24 - 8 * j) % 256 = (b.toNat : Int) := by
              have h := byte_of (x.toNat / 2 ^ (24 - 8 * j))
              rw [← hb8, IntKind.wrap_u8] at h
              rw [← h]
              simp
            have Hst := hid (outAt_set T k j hlt hlj)
            rw [← Hxx.out, ← hb8, ← hm] at Hst
            have Hm := hid hm
            clear hy hm hb8
            go_wp2
            go_roundw
            case rel =>
              refine ⟨j + 1, by omega, by go_num, ?_, (heap_setCell_other _ _ _ _ (by have := Hlt.out; simp; omega)).trans Hx.out, Hb.out.setCell (by have := Hlt.out; simp; omega) _⟩
              rw [heap_setCell_same _ _ _ _ _ _ Hy.out, bvs_set, Hst.out, Hm.out]
              rfl
            case measure => simp [intOf]; omega
          · have hj4 : j = 4 := by omega
            have H4 : Hid (wr.heap[W.heap.size]? = some (.cells (bvs (outAt T (4 * (k + 1)))) 69 (0, 0))) := by
              have h := Hy.out
              rw [hj4] at h
              exact h
            clear hy Hy hj4 hj
            go_wp2_with fail
            go_roundw
            case rel => exact ⟨k + 1, by omega, by go_num, H4.out, Hx.out, Hb.out⟩
            case measure => simp [intOf]; omega
      · have hk8 : k = 8 := by omega
        have H8 : Hid (wr.heap[W.heap.size]? = some (.cells (bvs (outB T)) 69 (0, 0))) := by
          have h := Hy.out
          rw [hk8, show 4 * 8 = 32 from rfl, outAt_all] at h
          exact h
        have hs8 : Hid ((bvs (outB T)).size = 32) := by
          show _ = _
          rw [bvs_size, outB_length]
        have hi8 : Hid ((Tryd.prog.info? 69).map (·.size) = some (bvs (outB T)).size) := by
          show _ = _
          rw [hs8.out]; exact size_hash
        have ho8 : Hid (Z.size = (bvs (outB T)).size) := Zs.out.trans hs8.out.symm
        have h18 : Hid ((bvs (outB T)).all (·.oneCell') = true) := bvs_one _
        clear hk8 Hy hk
        have HO : Hid (bvs (sha D) = bvs (outB T)) := HS.out
        generalize bvs (outB T) = O at H8 hs8 hi8 ho8 h18 HO
        clear hs8 HS
        go_wp2_with (with_reducible show Go.wpList _ _ _ _ _ _; first
          | refine wpList_load_row rfl 69 _ rfl W.heap.size rfl _ _ _ _ H8.out Tryd.underlying69 rfl hi8.out ?_
          | refine wpList_store_row rfl 69 _ _ rfl (w.heap.size + 1) O rfl rfl 69 Z Hx.out hi8.out ho8.out h18.out ?_)
        show bodyPost _ _ _ _ _ _
        refine bodyPost_ret (results_cell_row rfl _ _ (w.heap.size + 1) 69 O (0, 0) _ rfl (setRow_heap _ _ _ _ _ _ Hx.out) Tryd.underlying69 rfl hi8.out) rfl ⟨by rw [HO.out], ?_⟩
        exact Hb.out.setRow (by omega) _
end Go.Proofs.YthfmpebgmojcaaaDoor
/- The hash of bytes: hash.Sum. -/
namespace Go.Proofs.YthfmpebgmojcaaaDoor
open Go.RowKit
set_option linter.unusedVariables false
set_option maxRecDepth 20000
set_option maxRecDepth 20000
def RV (D : List UInt8) (v : Value) : Prop := ∃ s bk f, v = .agg (rvals s bk D.length) ∧ Part D s bk f
theorem start_rv (w : World) : Calls Tryd.prog 64 #[] w fun e w' => ∃ v, e = .returned v ∧ Hid (RV [] v) ∧ Below w.heap.size w w' :=
  (start_any w).mono fun e w' h => by
    obtain ⟨rfl, hb⟩ := h
    exact ⟨_, rfl, ⟨_, _, _, rfl, part_nil⟩, hb⟩
theorem with_rv {w : World} {D : List UInt8} {v : Value} (hv : RV D v) (l : List UInt8) (a : Option Addr) (n cap : Nat) (hn : n = l.length) (hB : Bytes w a l) (hl : D.length + l.length < 4611686018427387904) (hcap : l.length ≤ cap) (hK : KAt w) :
    Calls Tryd.prog 65 #[v, .slice a n cap] w fun e w' => ∃ v', e = .returned v' ∧ Hid (RV (D ++ l) v') ∧ Below w.heap.size w w' := by
  subst hn
  obtain ⟨s, bk, f, rfl, hP⟩ := hv
  refine (with_any hP l a cap hB hl hcap hK).mono fun e w' h => ?_
  obtain ⟨s', bk', f', rfl, hP', hb⟩ := h
  exact ⟨_, rfl, ⟨_, _, _, rfl, hP'⟩, hb⟩
structure HV (O : Array Value) (l : List UInt8) : Prop where
  eq : O = bvs l
  len : l.length = 32
theorem HV.size {O : Array Value} {l : List UInt8} (h : HV O l) : O.size = 32 := by rw [h.eq, bvs_size, h.len]
theorem HV.info {O : Array Value} {l : List UInt8} (h : HV O l) : (Tryd.prog.info? 69).map (·.size) = some O.size := by rw [h.size]; exact size_hash
theorem HV.one {O : Array Value} {l : List UInt8} (h : HV O l) : O.all (·.oneCell') = true := by rw [h.eq]; exact bvs_one _
theorem HV.bytes {O : Array Value} {l : List UInt8} (h : HV O l) {w : World} {g : Nat} (hg : w.heap[g]? = some (.cells O 69 (0, 0))) : Bytes w (some ⟨g, 0, none⟩) l := fun i hi =>
  ⟨g, 0, rfl, by rw [Nat.zero_add, cell_of_row _ _ _ _ _ _ hg, h.eq, bvs_get l i hi]⟩
theorem sum_rv {w : World} {D : List UInt8} {v : Value} (hv : RV D v) (hl : D.length < 1152921504606846976) (hK : KAt w) :
    Calls Tryd.prog 66 #[v] w fun e w' => ∃ O, e = .returned (.agg O) ∧ Hid (HV O (sha D)) ∧ Below w.heap.size w w' := by
  obtain ⟨s, bk, f, rfl, hP⟩ := hv
  refine (sum_any hP hl hK).mono fun e w' h => ?_
  obtain ⟨rfl, hb⟩ := h
  exact ⟨_, rfl, ⟨rfl, sha_length _⟩, hb⟩
theorem hv_zero : HV (bvs (List.replicate 32 0)) (List.replicate 32 0) := ⟨rfl, by simp⟩
set_option maxHeartbeats 1000000 in
theorem hsum_any {w : World} (l : List UInt8) (a : Option Addr) (n cap : Nat) (hn : n = l.length) (hB : Bytes w a l) (hl : l.length < 1152921504606846976) (hcap : l.length ≤ cap) (hK : KAt w) :
    Calls Tryd.prog 26 #[.slice a n cap] w fun e w' => ∃ O, e = .returned (.agg O) ∧ Hid (HV O (sha l)) ∧ Below w.heap.size w w' := by
  obtain ⟨Z, hZ⟩ : ∃ Z, Z = bvs (List.replicate 32 0) := ⟨_, rfl⟩
  have zh := (zero_of_info zero_hash).1
  rw [← hZ] at zh
  have hz : Hid (HV Z (List.replicate 32 0)) := by
    show HV _ _
    rw [hZ]; exact hv_zero
  have zh := hid zh
  have HB := hid hB
  have HK := hid hK
  have Hn := hid hn
  clear hZ hB hK hn
  go_enter Tryd.func26, Tryd.ntmps26
  go_wp2_with (with_reducible show Go.wpList _ _ _ _ _ _; refine wpList_alloc_row rfl 69 rfl Z zh.out ?_)
  refine (start_rv _).mono ?_
  rintro _ w1 ⟨v1, rfl, hv1, hb1⟩
  have b1 : Hid (Below w.heap.size w w1) := ((Below.refl _ w).alloc (Nat.le_refl _) _).trans (hb1.mono (by simp))
  have x1 : Hid (w1.heap[w.heap.size]? = some (.cells Z 69 (0, 0))) := (hb1.block _ (by simp)).trans (heap_alloc_new w _)
  clear hb1
  go_wp2_with fail
  refine (with_rv hv1.out l a n cap Hn.out (HB.out.below b1.out) (by simp; omega) hcap (HK.out.below b1.out)).mono ?_
  rintro _ w2 ⟨v2, rfl, hv2, hb2⟩
  have b2 : Hid (Below w.heap.size w w2) := Below.on' b1.out hb2
  have x2 : Hid (w2.heap[w.heap.size]? = some (.cells Z 69 (0, 0))) := (hb2.block _ (heap_lt x1.out)).trans x1.out
  clear hb2 x1 b1 hv1
  go_wp2_with fail
  refine (sum_rv hv2.out (by simp; omega) (HK.out.below b2.out)).mono ?_
  rintro _ w3 ⟨O, rfl, hO, hb3⟩
  have b3 : Hid (Below w.heap.size w w3) := Below.on' b2.out hb3
  have x3 : Hid (w3.heap[w.heap.size]? = some (.cells Z 69 (0, 0))) := (hb3.block _ (heap_lt x2.out)).trans x2.out
  clear hb3 x2 b2 hv2 HB HK
  go_wp2_with (with_reducible show Go.wpList _ _ _ _ _ _; refine wpList_store_row rfl 69 _ _ rfl w.heap.size O rfl rfl 69 Z x3.out hO.out.info (hz.out.size.trans hO.out.size.symm) hO.out.one ?_)
  refine bodyPost_ret (results_cell_row rfl _ _ w.heap.size 69 O (0, 0) _ rfl (setRow_heap _ _ _ _ _ _ x3.out) Tryd.underlying69 rfl hO.out.info) rfl ⟨O, rfl, hO, ?_⟩
  exact b3.out.setRow (by omega) _
end Go.Proofs.YthfmpebgmojcaaaDoor
/- A key as a block, masked: hash.masked. -/
namespace Go.Proofs.YthfmpebgmojcaaaDoor
open Go.RowKit
set_option linter.unusedVariables false
set_option maxRecDepth 20000
set_option maxRecDepth 20000
theorem b_of (a : UInt8) : BitVec.ofInt 8 (a.toNat : Int) = a.toBitVec := by
  apply BitVec.eq_of_toNat_eq
  simp
theorem b_back (a : UInt8) : IntKind.u8.wrap (a.toNat : Int) = (a.toNat : Int) := by
  rw [IntKind.wrap_u8]
  have := a.toNat_lt
  omega
theorem b_xor (a b : UInt8) : bits .xor .u8 (a.toNat : Int) (b.toNat : Int) = ((a ^^^ b).toNat : Int) := by
  have h : bits .xor .u8 (a.toNat : Int) (b.toNat : Int) = IntKind.u8.wrap ((BitVec.ofInt 8 (a.toNat : Int) ^^^ BitVec.ofInt 8 (b.toNat : Int)).toNat : Int) := rfl
  rw [h, b_of, b_of]
  exact b_back (a ^^^ b)
def maskAt (m : UInt8) (B : List UInt8) (n : Nat) : List UInt8 := maskB m (B.take n) ++ B.drop n
theorem maskAt_zero (m : UInt8) (B : List UInt8) : maskAt m B 0 = B := by simp [maskAt, maskB]
theorem maskAt_length (m : UInt8) (B : List UInt8) (n : Nat) : (maskAt m B n).length = B.length := by simp [maskAt, maskB]; omega
theorem maskAt_all (m : UInt8) (B : List UInt8) (n : Nat) (h : B.length = n) : maskAt m B n = maskB m B := by
  unfold maskAt
  rw [List.take_of_length_le (by omega), List.drop_eq_nil_of_le (by omega), List.append_nil]
theorem maskAt_get (m : UInt8) (B : List UInt8) (n : Nat) (h : n < B.length) : (maskAt m B n)[n]'(by rw [maskAt_length]; exact h) = B[n] := by
  simp only [maskAt]
  rw [List.getElem_append_right (by simp [maskB]; omega)]
  simp [maskB, Nat.min_eq_left (Nat.le_of_lt h)]
theorem maskAt_set (m : UInt8) (B : List UInt8) (n : Nat) (h : n < B.length) : (maskAt m B n).set n (B[n] ^^^ m) = maskAt m B (n + 1) := by
  unfold maskAt
  rw [List.set_append_right _ _ (by simp [maskB]; omega), List.take_succ_eq_append_getElem h]
  rw [show n - (maskB m (B.take n)).length = 0 by simp [maskB]; omega, List.drop_eq_getElem_cons h, List.set_cons_zero]
  unfold maskB
  rw [List.map_append, List.append_assoc]
  rfl
def fillB (k : List UInt8) : List UInt8 := k ++ List.replicate (64 - k.length) 0
theorem fillB_length (k : List UInt8) (h : k.length ≤ 64) : (fillB k).length = 64 := by simp [fillB]; omega
theorem blockOf_short (k : List UInt8) (h : ¬ 64 < k.length) : blockOf k = fillB k := by simp [blockOf, fillB, h]
theorem blockOf_long (k : List UInt8) (h : 64 < k.length) : blockOf k = fillB (sha k) := by simp [blockOf, fillB, h]
theorem cells_row (l : List UInt8) (t : TypeId) {w : World} {g : Nat} (hg : w.heap[g]? = some (.cells (cellsOf l).toArray t (0, 0))) (i : Nat) (hi : i < l.length) : w.cell? ⟨g, i, none⟩ = some (.int .u8 (l[i].toNat : Int)) := by
  rw [cell_of_row _ _ _ _ _ _ hg, List.getElem?_toArray, cellsOf_get l i hi]
theorem row_bytes (l : List UInt8) (t : TypeId) {w : World} {g : Nat} (hg : w.heap[g]? = some (.cells (cellsOf l).toArray t (0, 0))) : Bytes w (some ⟨g, 0, none⟩) l := fun i hi =>
  ⟨g, 0, rfl, by rw [Nat.zero_add, cells_row l t hg i hi]⟩
theorem cells_set (l : List UInt8) (i : Nat) (b : UInt8) : (cellsOf l).toArray.setIfInBounds i (.int .u8 (b.toNat : Int)) = (cellsOf (l.set i b)).toArray := by
  simp [cellsOf, List.map_set]
theorem made_row (n : Nat) : madeCells (Value.int .u8 0).cells n = (cellsOf (List.replicate n 0)).toArray := by
  rw [← made_zeros n]
theorem copy_fill {W : World} {g : Nat} {k : List UInt8} {a : Option Addr} {cap : Nat} (hk : k.length ≤ 64) (hB : Bytes W a k) (hcap : k.length ≤ cap) (hg : W.heap[g]? = some (.cells (cellsOf (List.replicate 64 0)).toArray 5 (0, 0))) :
    ∃ v W2, Hid ((Builtin.copy_ #[40, 40] 3 #[.slice (some ⟨g, 0, none⟩) 64 64, .slice a k.length cap]).run Tryd.prog W = .ok v W2) ∧ Hid (W2.heap[g]? = some (.cells (cellsOf (fillB k)).toArray 5 (0, 0))) ∧ Hid (∀ B w0, B ≤ g → Below B w0 W → Below B w0 W2) := by
  by_cases h0 : k.length = 0
  · have hr := run_copy_none (P := Tryd.prog) W 40 40 3 5 (some ⟨g, 0, none⟩) a 64 64 k.length cap Tryd.underlying40 size_byte (by rw [h0]; exact Nat.min_eq_left (by omega))
    refine ⟨_, _, hr, ?_, fun B w0 _ h => h⟩
    obtain rfl : k = [] := List.length_eq_zero_iff.1 h0
    exact hg
  · obtain ⟨b0, o0, ha0, _⟩ := hB 0 (by omega)
    obtain rfl : a = some ⟨b0, o0, none⟩ := ha0
    have hr := run_copy_row (P := Tryd.prog) W 40 40 3 5 g 0 64 64 ⟨b0, o0, none⟩ k.length cap _ 5 (cellsOf k) Tryd.underlying40 size_byte hg
      (by rw [cellsOf_length]; exact (Nat.min_eq_left hk).symm)
      (fun j v hj => by
        have hj' : j < k.length := by have := (List.getElem?_eq_some_iff.1 hj).1; simpa [cellsOf_length] using this
        obtain ⟨b', o', e', hcl⟩ := hB j hj'
        cases e'
        rw [cellsOf_get k j hj'] at hj
        rw [Addr.add_mid, hcl, ← hj])
      (by rw [cellsOf_length]; simp [cellsOf]; omega) (cellsOf_one k)
    refine ⟨_, _, hr, ?_, fun B w0 hB h => h.setRow hB _⟩
    show (W.setRow _ _).heap[g]? = _
    rw [setRow_heap _ _ _ _ _ _ hg]
    have e : List.take 0 (cellsOf (List.replicate 64 0)).toArray.toList ++ (cellsOf k ++ List.drop (0 + (cellsOf k).length) (cellsOf (List.replicate 64 0)).toArray.toList) = cellsOf (fillB k) := by
      rw [cellsOf_length, Nat.zero_add, List.take_zero, List.nil_append, fillB, cellsOf_append]
      simp only [cellsOf, ← List.map_drop, List.drop_replicate]
    rw [List.append_assoc, e]
def MaskPost (w : World) (l : List UInt8) (e : Ending) (w' : World) : Prop := ∃ g, e = .returned (.slice (some ⟨g, 0, none⟩) 64 64) ∧ Bytes w' (some ⟨g, 0, none⟩) l ∧ Below w.heap.size w w'
set_option maxHeartbeats 2000000 in
theorem masked_any {w : World} (key : List UInt8) (a : Option Addr) (n cap : Nat) (m : UInt8) (hn : n = key.length) (hB : Bytes w a key) (hl : key.length < 1152921504606846976) (hcap : key.length ≤ cap) (hK : KAt w) :
    Calls Tryd.prog 127 #[.slice a n cap, .int .u8 (m.toNat : Int)] w (MaskPost w (maskB m (blockOf key))) := by
  obtain ⟨i0, hi, hz0, hz1, hz2⟩ := info_parts Tryd.info5
  obtain ⟨Z, hZ⟩ : ∃ Z, Z = bvs (List.replicate 32 0) := ⟨_, rfl⟩
  have zh := (zero_of_info zero_hash).1
  rw [← hZ] at zh
  have hz : Hid (HV Z (List.replicate 32 0)) := by
    show HV _ _
    rw [hZ]; exact hv_zero
  have zh := hid zh
  have HB := hid hB
  have HK := hid hK
  subst hn
  clear hZ hB hK
  by_cases hlong : 64 < key.length
  · have d1 : (64 : Int) < (key.length : Int) := by omega
    go_enter Tryd.func127, Tryd.ntmps127
    go_wp2_with fail
    refine (hsum_any key a _ cap rfl HB.out hl hcap HK.out).mono ?_
    rintro _ w1 ⟨O, rfl, hO, hb1⟩
    have hb1 := hid hb1
    go_wp2_with (with_reducible show Go.wpList _ _ _ _ _ _; first
      | refine wpList_alloc_row rfl 69 rfl Z zh.out ?_
      | (refine wpList_store_row rfl 69 _ _ rfl w1.heap.size O rfl rfl 69 Z (heap_alloc_new w1 _) hO.out.info (hz.out.size.trans hO.out.size.symm) hO.out.one ?_; rw [World.setRow_alloc_new]))
    obtain ⟨W, hW⟩ : ∃ W, W = w1.alloc (.cells O 69) := ⟨_, rfl⟩
    have Hbw : Hid (Below w.heap.size w W) := by
      show Below _ _ _
      rw [hW]; exact hb1.out.alloc hb1.out.size _
    have lk : (sha key).length = 32 := sha_length key
    have HBk : Hid (Bytes W (some ⟨w1.heap.size, 0, none⟩) (sha key)) := by
      show Bytes _ _ _
      rw [hW]; exact hO.out.bytes (heap_alloc_new w1 _)
    have Hblk : Hid (blockOf key = fillB (sha key)) := blockOf_long key hlong
    have HWe := hid hW
    clear hW
    have Hk : Hid (sha key = sha key) := rfl
    obtain ⟨kk, hkk⟩ : ∃ kk, kk = sha key := ⟨_, rfl⟩
    rw [← hkk] at lk HBk Hblk
    have lk64 : kk.length ≤ 64 := by omega
    have lkc : kk.length ≤ 32 := by omega
    rw [← HWe.out]
    clear hkk Hk hO hb1 hz zh HB HK hlong d1
    obtain ⟨ad, had⟩ : ∃ ad, ad = some (⟨w1.heap.size, 0, none⟩ : Addr) := ⟨_, rfl⟩
    rw [← had] at HBk ⊢
    clear had HWe
    rw [run_make (P := Tryd.prog) _ 40 5 i0 (.int .u8 0) Tryd.underlying40 hi hz0 .i64 .i64 64 64 (by omega) (by omega) (by rw [hz2]; omega) (by omega)]
    simp only [Result.andThen]
    rw [Oper.upon_value, show (64 : Int).toNat = 64 from rfl, hz1, Nat.mul_one, made_row]
    obtain ⟨W1, hW1⟩ : ∃ W1, W1 = W.alloc (.cells (cellsOf (List.replicate 64 0)).toArray 5) := ⟨_, rfl⟩
    have g1 : W1.heap[W.heap.size]? = some (.cells (cellsOf (List.replicate 64 0)).toArray 5 (0, 0)) := by rw [hW1]; exact heap_alloc_new W _
    have HB1 : Hid (Bytes W1 ad kk) := by
      show Bytes _ _ _
      rw [hW1]; exact HBk.out.below ((Below.refl _ W).alloc (Nat.le_refl _) _)
    have Hb1 : Hid (Below w.heap.size w W1) := by
      show Below _ _ _
      rw [hW1]; exact Hbw.out.alloc Hbw.out.size _
    obtain ⟨vc, W2, hrun, hrow, hbel⟩ := copy_fill lk64 HB1.out lkc g1
    rw [lk] at hrun
    have Hfl : Hid ((fillB kk).length = 64) := fillB_length kk lk64
    have Hle : Hid (w.heap.size ≤ W.heap.size) := Hbw.out.size
    have Hbel2 : Hid (Below w.heap.size w W2) := hbel.out _ _ Hle.out Hb1.out
    rw [← hW1]
    clear hW1 g1 HB1 Hb1 hbel HBk Hbw hi hz0 hz1 hz2 lk64 lkc
    go_wp2_with fail
    rw [hrun.out]
    simp only [Result.andThen]
    rw [Oper.upon_value]
    clear hrun
    generalize fillB kk = B at hrow Hblk Hfl
    obtain ⟨M, hM⟩ : ∃ M, M = W.heap.size := ⟨_, rfl⟩
    have HleM : Hid (w.heap.size ≤ M) := by
      show _ ≤ _
      rw [hM]; exact Hle.out
    rw [← hM] at hrow ⊢
    have Hrow0 : Hid (W2.heap[M]? = some (.cells (cellsOf (maskAt m B 0)).toArray 5 (0, 0))) := by
      show _ = _
      rw [maskAt_zero]; exact hrow.out
    clear hM hrow
    go_wp2_with fail
    go_loopw [20] (fun i wr => ∃ k : Nat, k ≤ 64 ∧ i = .int .i64 k ∧ wr.heap[M]? = some (.cells (cellsOf (maskAt m B k)).toArray 5 (0, 0)) ∧ Below w.heap.size w wr) (fun i _ => 64 - (intOf i).toNat)
    case atStart => exact ⟨0, Nat.zero_le _, rfl, Hrow0.out, Hbel2.out⟩
    case round =>
      clear Hrow0 Hbel2
      obtain ⟨k, hk, rfl, hrow, hbel⟩ := hrel
      have Hrow := hid hrow
      have Hbel := hid hbel
      clear hbel
      by_cases hlt : k < 64
      · have hkB : k < B.length := by rw [Hfl.out]; exact hlt
        have c1 := cells_row _ _ hrow k (by rw [maskAt_length]; exact hkB)
        rw [maskAt_get m B k hkB] at c1
        have f1 := frozen_of_row _ _ k _ _ hrow
        have Hst := hid (maskAt_set m B k hkB)
        obtain ⟨x, hx⟩ : ∃ x, x = B[k] := ⟨_, rfl⟩
        rw [← hx] at c1 Hst
        obtain ⟨y, hy⟩ : ∃ y, y = x ^^^ m := ⟨_, rfl⟩
        rw [← hy] at Hst
        have q1 : bits .xor .u8 (x.toNat : Int) (m.toNat : Int) = (y.toNat : Int) := by rw [hy]; exact b_xor x m
        clear hrow hx hkB hy
        go_wp2
        go_roundw
        case rel =>
          refine ⟨k + 1, by omega, by go_num, ?_, Hbel.out.setCell (by have := HleM.out; simp; omega) _⟩
          rw [heap_setCell_same _ _ _ _ _ _ Hrow.out, cells_set, Hst.out]
        case measure => simp [intOf]; omega
      · have hk64 : k = 64 := by omega
        have Hend : Hid (wr.heap[M]? = some (.cells (cellsOf (maskB m (blockOf key))).toArray 5 (0, 0))) := by
          have h := Hrow.out
          rw [hk64, maskAt_all m B 64 Hfl.out, ← Hblk.out] at h
          exact h
        clear hrow Hrow hk64 hk
        go_wp2
        go_ret
        exact ⟨M, rfl, row_bytes _ _ Hend.out, Hbel.out⟩
  · have d1 : ¬ (64 : Int) < (key.length : Int) := by omega
    have Hbw : Hid (Below w.heap.size w w) := Below.refl _ w
    have HBk : Hid (Bytes w a key) := HB.out
    have lk64 : key.length ≤ 64 := by omega
    have lkc : key.length ≤ cap := hcap
    have Hblk : Hid (blockOf key = fillB key) := blockOf_short key hlong
    clear hz zh HB HK hlong
    go_enter Tryd.func127, Tryd.ntmps127
    go_wp2_with fail
    rw [run_make (P := Tryd.prog) _ 40 5 i0 (.int .u8 0) Tryd.underlying40 hi hz0 .i64 .i64 64 64 (by omega) (by omega) (by rw [hz2]; omega) (by omega)]
    simp only [Result.andThen]
    rw [Oper.upon_value, show (64 : Int).toNat = 64 from rfl, hz1, Nat.mul_one, made_row]
    obtain ⟨W1, hW1⟩ : ∃ W1, W1 = w.alloc (.cells (cellsOf (List.replicate 64 0)).toArray 5) := ⟨_, rfl⟩
    have g1 : W1.heap[w.heap.size]? = some (.cells (cellsOf (List.replicate 64 0)).toArray 5 (0, 0)) := by rw [hW1]; exact heap_alloc_new w _
    have HB1 : Hid (Bytes W1 a key) := by
      show Bytes _ _ _
      rw [hW1]; exact HBk.out.below ((Below.refl _ w).alloc (Nat.le_refl _) _)
    have Hb1 : Hid (Below w.heap.size w W1) := by
      show Below _ _ _
      rw [hW1]; exact Hbw.out.alloc Hbw.out.size _
    obtain ⟨vc, W2, hrun, hrow, hbel⟩ := copy_fill lk64 HB1.out lkc g1
    have Hfl : Hid ((fillB key).length = 64) := fillB_length key lk64
    have Hle : Hid (w.heap.size ≤ w.heap.size) := Hbw.out.size
    have Hbel2 : Hid (Below w.heap.size w W2) := hbel.out _ _ Hle.out Hb1.out
    rw [← hW1]
    clear hW1 g1 HB1 Hb1 hbel HBk Hbw hi hz0 hz1 hz2 lk64 lkc
    go_wp2_with fail
    rw [hrun.out]
    simp only [Result.andThen]
    rw [Oper.upon_value]
    clear hrun
    generalize fillB key = B at hrow Hblk Hfl
    obtain ⟨M, hM⟩ : ∃ M, M = w.heap.size := ⟨_, rfl⟩
    have HleM : Hid (w.heap.size ≤ M) := by
      show _ ≤ _
      rw [hM]; exact Hle.out
    rw [← hM] at hrow ⊢
    have Hrow0 : Hid (W2.heap[M]? = some (.cells (cellsOf (maskAt m B 0)).toArray 5 (0, 0))) := by
      show _ = _
      rw [maskAt_zero]; exact hrow.out
    clear hM hrow
    go_wp2_with fail
    go_loopw [20] (fun i wr => ∃ k : Nat, k ≤ 64 ∧ i = .int .i64 k ∧ wr.heap[M]? = some (.cells (cellsOf (maskAt m B k)).toArray 5 (0, 0)) ∧ Below w.heap.size w wr) (fun i _ => 64 - (intOf i).toNat)
    case atStart => exact ⟨0, Nat.zero_le _, rfl, Hrow0.out, Hbel2.out⟩
    case round =>
      clear Hrow0 Hbel2
      obtain ⟨k, hk, rfl, hrow, hbel⟩ := hrel
      have Hrow := hid hrow
      have Hbel := hid hbel
      clear hbel
      by_cases hlt : k < 64
      · have hkB : k < B.length := by rw [Hfl.out]; exact hlt
        have c1 := cells_row _ _ hrow k (by rw [maskAt_length]; exact hkB)
        rw [maskAt_get m B k hkB] at c1
        have f1 := frozen_of_row _ _ k _ _ hrow
        have Hst := hid (maskAt_set m B k hkB)
        obtain ⟨x, hx⟩ : ∃ x, x = B[k] := ⟨_, rfl⟩
        rw [← hx] at c1 Hst
        obtain ⟨y, hy⟩ : ∃ y, y = x ^^^ m := ⟨_, rfl⟩
        rw [← hy] at Hst
        have q1 : bits .xor .u8 (x.toNat : Int) (m.toNat : Int) = (y.toNat : Int) := by rw [hy]; exact b_xor x m
        clear hrow hx hkB hy
        go_wp2
        go_roundw
        case rel =>
          refine ⟨k + 1, by omega, by go_num, ?_, Hbel.out.setCell (by have := HleM.out; simp; omega) _⟩
          rw [heap_setCell_same _ _ _ _ _ _ Hrow.out, cells_set, Hst.out]
        case measure => simp [intOf]; omega
      · have hk64 : k = 64 := by omega
        have Hend : Hid (wr.heap[M]? = some (.cells (cellsOf (maskB m (blockOf key))).toArray 5 (0, 0))) := by
          have h := Hrow.out
          rw [hk64, maskAt_all m B 64 Hfl.out, ← Hblk.out] at h
          exact h
        clear hrow Hrow hk64 hk
        go_wp2
        go_ret
        exact ⟨M, rfl, row_bytes _ _ Hend.out, Hbel.out⟩
end Go.Proofs.YthfmpebgmojcaaaDoor
