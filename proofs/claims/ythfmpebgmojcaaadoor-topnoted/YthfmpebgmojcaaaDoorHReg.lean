/- YthfmpebgmojcaaaDoorHEnd + YthfmpebgmojcaaaDoorHReg -/
import Derived.Test.YthfmpebgmojcaaaDoorHWith
import Derived.OrdersHeld
/- The bytes by which those so far come to whole blocks: (running).end. -/
namespace Go.Proofs.YthfmpebgmojcaaaDoor
open Go.RowKit
set_option linter.unusedVariables false
set_option maxRecDepth 20000
set_option maxRecDepth 20000

theorem addr_add (b o j : Nat) : (⟨b, o, none⟩ : Addr).add j = ⟨b, o + j, none⟩ := by unfold Addr.add; split <;> simp_all
theorem Tryd.info5 : (Tryd.prog.info? 5).map (fun i => (i.zero, i.size, i.bytes)) = some (some (.int .u8 0), 1, 1) := by kernel_rfl
/-- append(v, bytes...) where v is the call's own -/
theorem app_bytes (w : World) {ops : Array Oper} {rest : List Oper} {o : Oper} {a : Act} {Q : Exit → Act → World → Prop} (hgd : o.guard = none) (s x : Operand)
    (ho : o.op = .call { callee := .builtin .append, args := #[s, x], argTypes := #[40, 40] }) (base : Nat) (v : Value) (xs : List UInt8) (hs : a.eval s = v)
    (hown : w.ownsRow base 5 1 v xs.length (cellsOf xs)) (ad : Addr) (m c : Nat) (news : List UInt8) (hm : news.length = m) (hx : a.eval x = .slice (some ad) m c)
    (hnews : ∀ j (h : j < news.length), w.cell? (ad.add j) = some (.int .u8 (news[j].toNat : Int))) (hb : xs.length + m ≤ 140737488355328) (hbase : base ≤ w.heap.size)
    (h : ∀ v' w', w'.ownsRow base 5 1 v' (xs ++ news).length (cellsOf (xs ++ news)) → Below base w w' → (0 < (xs ++ news).length → ∃ g cap, v' = .slice (some ⟨g, 0, none⟩) (xs ++ news).length cap) → wpList Tryd.prog ops Q rest (a.put o.dst v') w') :
    wpList Tryd.prog ops Q (o :: rest) a w := by
  obtain ⟨i0, hi, hz0, hz1, hz2⟩ := info_parts Tryd.info5
  subst hm
  refine wpList_append_own w hgd s x 40 ho base 5 i0 (.int .u8 0) 1 1 Tryd.underlying40 hi hz0 hz1 hz2 rfl (by decide) v xs.length (cellsOf xs) hs hown ad news.length c (cellsOf news) hx (by simp [cellsOf_length]) (fun j u hj => ?_) (cellsOf_one _) (by unfold maxLen; omega) (by omega) hbase ?_
  · have hj' : j < news.length := by
      have := (List.getElem?_eq_some_iff.1 hj).1
      simpa [cellsOf_length] using this
    rw [hnews j hj']
    have := (List.getElem?_eq_some_iff.1 hj).2
    simp [cellsOf] at this
    rw [this]
  · intro v' w' h1 h2 h3
    rw [← cellsOf_append, ← List.length_append] at h1
    refine h v' w' h1 ((Below.refl _ _).grown h2 hbase (fun k hk => (hown.lt k hk).1)) (fun hpos => ?_)
    rcases h1.2 with ⟨_, h0⟩ | ⟨g, cap, _, rfl, _⟩
    · omega
    · exact ⟨g, cap, rfl⟩

/-- append(v, x, y ..) of bytes that are named one by one -/
theorem app_lits (w : World) {ops : Array Oper} {rest : List Oper} {o : Oper} {a : Act} {Q : Exit → Act → World → Prop} (hgd : o.guard = none) (s x : Operand)
    (ho : o.op = .call { callee := .builtin .append, args := #[s, x], argTypes := #[40, 40] }) (base : Nat) (v : Value) (xs : List UInt8) (hs : a.eval s = v)
    (hown : w.ownsRow base 5 1 v xs.length (cellsOf xs)) (cs : List UInt8) (m : Nat) (hm : cs.length = m) (hx : a.eval x = .slice (some ⟨w.heap.size, 0, none⟩) m m) (hb : xs.length + m ≤ 140737488355328) (hbase : base ≤ w.heap.size)
    (h : ∀ v' w', w'.ownsRow base 5 1 v' (xs ++ cs).length (cellsOf (xs ++ cs)) → Below base w w' → (0 < (xs ++ cs).length → ∃ g cap, v' = .slice (some ⟨g, 0, none⟩) (xs ++ cs).length cap) → wpList Tryd.prog ops Q rest (a.put o.dst v') w') :
    wpList Tryd.prog ops Q (o :: rest) a (w.alloc (.cells (cellsOf cs).toArray 5)) := by
  refine app_bytes _ hgd s x ho base v xs hs (hown.alloc _) ⟨w.heap.size, 0, none⟩ m m cs hm hx (fun j hj => ?_) hb (by simp; omega) (fun v' w' h1 h2 h3 => h v' w' h1 (((Below.refl _ _).alloc hbase _).trans h2) h3)
  rw [addr_add, Nat.zero_add, World.cell?_alloc_new]
  simp [cellsOf, hj]

/-- the end while k bytes of the size are in -/
def endAt (N k : Nat) : List UInt8 := (128 :: List.replicate (noughts N) 0) ++ (be8 (N * 8)).take k
theorem endAt_all (N : Nat) : endAt N 8 = pad N := by
  unfold endAt pad
  rw [List.take_of_length_le (by rw [be8_length]; omega)]
theorem be8_get (n k : Nat) (h : k < 8) : (be8 n)[k]'(by rw [be8_length]; exact h) = UInt8.ofNat (n / 2 ^ (56 - 8 * k)) := by simp [be8]
theorem endAt_step (N k : Nat) (h : k < 8) : endAt N k ++ [UInt8.ofNat (N * 8 / 2 ^ (56 - 8 * k))] = endAt N (k + 1) := by
  unfold endAt
  rw [List.take_succ_eq_append_getElem (by rw [be8_length]; exact h), be8_get _ _ h, List.append_assoc]
theorem endAt_length (N k : Nat) : (endAt N k).length ≤ 73 := by
  have h1 : ((be8 (N * 8)).take k).length ≤ 8 := by rw [List.length_take, be8_length]; omega
  have h2 : noughts N < 64 := by unfold noughts; omega
  unfold endAt
  rw [List.length_append, List.length_cons, List.length_replicate]
  omega
theorem endAt_zero (N : Nat) : endAt N 0 = 128 :: List.replicate (noughts N) 0 := by simp [endAt]
theorem byte_of (x : Nat) : IntKind.u8.wrap (x : Int) = ((UInt8.ofNat x).toNat : Int) := by
  rw [IntKind.wrap_u8]
  simp
theorem made_zeros (n : Nat) : (madeCells (Value.int .u8 0).cells n).toList = cellsOf (List.replicate n 0) := by
  have : (Value.int .u8 0).cells = #[.int .u8 0] := rfl
  rw [this, toList_madeCells_one]
  simp [cellsOf]

theorem own_mono {w : World} {B B' : Nat} {e : TypeId} {size : Nat} {v : Value} {n : Nat} {xs : List Value} (h : w.ownsRow B e size v n xs) (hB : B' ≤ B) : w.ownsRow B' e size v n xs := by
  refine ⟨h.1, ?_⟩
  rcases h.2 with h | ⟨g, cap, cur, hv, hg, r⟩
  · exact .inl h
  · exact .inr ⟨g, cap, cur, hv, by omega, r⟩

set_option maxHeartbeats 1000000 in
theorem end_any {w : World} (s : S8) (bk : List UInt8) (N : Nat) (hb : bk.length = 64) (hN : N < 1152921504606846976) :
    Calls Tryd.prog 90 #[.agg (rvals s bk N)] w fun e w' => ∃ v, e = .returned v ∧ w'.ownsRow w.heap.size 5 1 v (pad N).length (cellsOf (pad N)) ∧ Below w.heap.size w w' := by
  obtain ⟨i0, hi, hz0, hz1, hz2⟩ := info_parts Tryd.info5
  obtain ⟨R, hR⟩ : ∃ R, R = rvals s bk N := ⟨_, rfl⟩
  have c72 : (w.alloc (.cells R 134)).cell? ⟨w.heap.size, 72, none⟩ = some (.int .i64 (N : Int)) := by
    rw [cell_of_row _ _ 72 _ _ _ (heap_alloc_new w _), hR, rvals, List.getElem?_toArray]
    exact rcells_size _ _ _ hb
  have q0 : IntKind.i64.wrap ((N : Int) + 1) = (N : Int) + 1 := by rw [IntKind.wrap_i64]; omega
  have q1 : IntKind.i64.wrap ((N : Int) + 1 + 8) = (N : Int) + 1 + 8 := by rw [IntKind.wrap_i64]; omega
  obtain ⟨o, ho⟩ : ∃ o, o = (N + 1 + 8) % 64 := ⟨_, rfl⟩
  have q2 : ((N : Int) + 1 + 8).tmod 64 = (o : Int) := by rw [Int.tmod_eq_emod_of_nonneg (by omega)]; omega
  obtain ⟨z, hz⟩ : ∃ z, z = noughts N := ⟨_, rfl⟩
  have hz' : z = (64 - o) % 64 := by rw [hz, ho]; rfl
  have q3 : ((64 : Int) - (o : Int)).tmod 64 = (z : Int) := by rw [Int.tmod_eq_emod_of_nonneg (by omega)]; omega
  have Hz := hid hz
  have lz : z < 64 := by omega
  have lo : o < 64 := by omega
  rw [← hR]
  clear hR hz hz' ho
  go_enter Tryd.func90, Tryd.ntmps90
  go_wp2_with fail
  rw [run_make (P := Tryd.prog) _ 40 5 i0 (.int .u8 0) Tryd.underlying40 hi hz0 .i64 .i64 (1 + (z : Int)) (1 + (z : Int) + 8) (by omega) (by omega) (by rw [hz2]; omega) (by omega)]
  simp only [Result.andThen]
  rw [Oper.upon_value, show (1 + (z : Int)).toNat = 1 + z by omega, show (1 + (z : Int) + 8).toNat = 1 + z + 8 by omega, hz1, Nat.mul_one, show (w.alloc (.cells R 134)).heap.size = w.heap.size + 1 by simp]
  obtain ⟨W1, hW1⟩ : ∃ W1, W1 = (w.alloc (.cells R 134)).alloc (.cells (madeCells (Value.int .u8 0).cells (1 + z + 8)) 5) := ⟨_, rfl⟩
  have g1 : W1.heap[w.heap.size + 1]? = some (.cells (madeCells (Value.int .u8 0).cells (1 + z + 8)) 5 (0, 0)) := by rw [hW1]; exact heap_alloc2_new w _ _
  have hbel : Below w.heap.size w W1 := by rw [hW1]; exact ((Below.refl _ w).alloc (Nat.le_refl _) _).alloc (by simp) _
  have k72 : W1.cell? ⟨w.heap.size, 72, none⟩ = some (.int .i64 (N : Int)) := by
    rw [hW1, World.cell?_of_block (w := w.alloc (.cells R 134)) (Below.heap_alloc _ _ _ (by simp))]; exact c72
  have f0 := frozen_of_row _ _ 0 _ _ g1
  have c0 : W1.cell? ⟨w.heap.size + 1, 0, none⟩ = some (.int .u8 0) := by
    rw [cell_of_row _ _ 0 _ _ _ g1, ← Array.getElem?_toList, made_zeros, show 1 + z + 8 = (z + 8) + 1 by omega, List.replicate_succ]
    rfl
  have own0 : (W1.setCell ⟨w.heap.size + 1, 0, none⟩ (.int .u8 128)).ownsRow (w.heap.size + 1) 5 1 (.slice (some ⟨w.heap.size + 1, 0, none⟩) (1 + z) (1 + z + 8)) (endAt N 0).length (cellsOf (endAt N 0)) := by
    have hl : (endAt N 0).length = 1 + z := by rw [endAt_zero, ← Hz.out]; simp; omega
    refine ⟨by rw [cellsOf_length, Nat.mul_one], .inr ⟨w.heap.size + 1, 1 + z + 8, _, by rw [hl], Nat.le_refl _, heap_setCell_same _ _ _ _ _ _ g1, by omega, by unfold maxLen; omega, by simp [size_madeCells], ?_⟩⟩
    rw [Array.toList_setIfInBounds, made_zeros, hl, Nat.mul_one, endAt_zero, ← Hz.out, show 1 + z + 8 = (z + 8) + 1 by omega, List.replicate_succ, show 1 + z = z + 1 by omega]
    simp [cellsOf, List.take_replicate]
  rw [← hW1]
  have Hown0 := hid own0
  have Hbel0 := hid (hbel.setCell (p := ⟨w.heap.size + 1, 0, none⟩) (by simp) (.int .u8 128))
  have Hk := hid ((World.cell?_setCell_other W1 ⟨w.heap.size + 1, 0, none⟩ ⟨w.heap.size, 72, none⟩ (.int .u8 128) (by intro h; simp only [Addr.mk.injEq] at h; omega)).trans k72)
  clear hW1 own0 hbel k72 g1 c72 q0 q1 q2 q3 hi hz0 hz1 hz2
  go_wp2_with fail
  go_loopw [5, 6] (fun v5 v6 wr => ∃ k : Nat, k ≤ 8 ∧ v6 = .int .i64 (56 - 8 * (k : Int)) ∧ wr.ownsRow (w.heap.size + 1) 5 1 v5 (endAt N k).length (cellsOf (endAt N k)) ∧ wr.cell? ⟨w.heap.size, 72, none⟩ = some (.int .i64 (N : Int)) ∧ Below w.heap.size w wr) (fun _ v6 _ => (intOf v6 + 8).toNat)
  case atStart => exact ⟨0, by omega, rfl, Hown0.out, Hk.out, Hbel0.out⟩
  case round =>
    obtain ⟨k, hk, rfl, hown, h72, hbel⟩ := hrel
    have Hown := hid hown
    have Hbel := hid hbel
    have H72 := hid h72
    clear hown hbel Hown0 Hbel0 Hk
    by_cases hlt : k < 8
    · have q0 : (0 : Int) ≤ 56 - 8 * (k : Int) := by omega
      have q1 : (56 : Int) - 8 * (k : Int) ≤ 64 := by omega
      have q2 : IntKind.u64.wrap (N : Int) = (N : Int) := by rw [IntKind.wrap_u64]; omega
      have q3 : IntKind.u64.wrap ((N : Int) * 8) = (N : Int) * 8 := by rw [IntKind.wrap_u64]; omega
      have q4 : IntKind.i64.wrap (56 - 8 * (k : Int) - 8) = 56 - 8 * ((k + 1 : Nat) : Int) := by rw [IntKind.wrap_i64]; omega
      have Hst := hid (endAt_step N k hlt)
      obtain ⟨b, hb8⟩ : ∃ b, b = UInt8.ofNat (N * 8 / 2 ^ (56 - 8 * k)) := ⟨_, rfl⟩
      have q5 : (N : Int) * 8 / 2 ^ (56 - 8 * k) % 256 = (b.toNat : Int) := by
        have h := byte_of (N * 8 / 2 ^ (56 - 8 * k))
        rw [← hb8, IntKind.wrap_u8] at h
        rw [← h]
        simp
      rw [← hb8] at Hst
      have Hlen := hid (endAt_length N k)
      have Hlt : Hid (w.heap.size + 1 ≤ wr.heap.size) := World.block_lt_of_cell? _ _ h72
      clear hb8
      go_wp2_with (at_builtin; refine app_lits _ rfl (.tmp 27) (.tmp 35) rfl (w.heap.size + 1) _ (endAt N k) rfl Hown.out [b] 1 rfl rfl (by have := Hlen.out; omega) Hlt.out ?_; intro v' w' hown' hb' hv'; have Hown' := hid hown'; have Hb' := hid hb'; clear hown' hb' hv')
      go_roundw
      case rel =>
        refine ⟨k + 1, by omega, by go_num, ?_, ?_, ?_⟩
        · rw [← Hst.out]; exact Hown'.out
        · exact (Hb'.out.cell (by simp)).trans H72.out
        · exact Hbel.out.trans (Hb'.out.mono (by omega))
      case measure => simp [intOf]; omega
    · have hk8 : k = 8 := by omega
      have q0 : ¬ (0 : Int) ≤ 56 - 8 * (k : Int) := by omega
      have Hend : Hid (endAt N k = pad N) := by
        show _ = _
        rw [hk8, endAt_all]
      clear hk8
      go_wp2
      go_ret
      refine ⟨_, rfl, ?_, Hbel.out⟩
      have h := Hown.out
      rw [Hend.out] at h
      exact own_mono h (by omega)
end Go.Proofs.YthfmpebgmojcaaaDoor

/- Regions that draw their order, by states that several orders come to; one operation by its own law. No program. -/
namespace Go.Proofs.YthfmpebgmojcaaaDoor
open Go.RowKit
set_option linter.unusedVariables false
set_option maxRecDepth 20000
set_option maxRecDepth 20000

theorem wp_act {P : Program} {c : Code} {Q : Exit → Act → World → Prop} {w : World} (a : Act) (h : ∀ A, A = a → c.wp P Q A w) : c.wp P Q a w := h a rfl
theorem put_sz (a : Act) (d : Option Tmp) (v : Value) : (a.put d v).tmps.size = a.tmps.size := by cases d <;> simp [Act.put]
theorem ev_eq (a : Act) (v : Value) {d : Tmp} (h : d < a.tmps.size) : (a.put (some d) v).eval (.tmp d) = v := by
  simp [Act.eval, Act.put, h]
theorem ev_ne (a : Act) (v : Value) {d e : Tmp} (h : d ≠ e) : (a.put (some d) v).eval (.tmp e) = a.eval (.tmp e) :=
  Act.eval_put fun d' hd => by cases hd; intro hh; cases hh; exact h rfl
theorem put_swap (a : Act) {d e : Tmp} {v u : Value} (h : d ≠ e) : (a.put (some d) v).put (some e) u = (a.put (some e) u).put (some d) v :=
  Act.put_comm a v u (fun d' hd he => by cases hd; cases he; exact h rfl)
theorem heap_lt {w : World} {g : Nat} {o : Obj} (h : w.heap[g]? = some o) : g < w.heap.size := (Array.getElem?_eq_some_iff.1 h).1
section
variable {P : Program} {ops : Array Oper} {Q : Exit → Act → World → Prop}
/-- what a piece of code comes to, named; then what follows from there -/
theorem wp_split {c : Code} {a : Act} {w : World} (G : Act → World → Prop) (h1 : c.wp P (fun e a w => e = .normal ∧ G a w) a w) (h2 : ∀ a w, G a w → Q .normal a w) : c.wp P Q a w :=
  Code.wp_mono (fun e a w h => by obtain ⟨rfl, h⟩ := h; exact h2 a w h) h1
/-- one operation of a region that draws its order, by its own law -/
theorem wpOp_own {i : Nat} {o : Oper} {K : Act → World → Prop} {a : Act} {w : World} (hi : ops[i]? = some o) (hg : o.guard = none) (h : ∀ K' : Act → World → Prop, (∀ a w, K a w → K' a w) → o.wp P a w K' Q) : wpOp P ops Q i K a w :=
  wpOp_step hi fun K' hK' => by
    have hw : Region.wanted o (yielded ops a.tmps) = true := by simp [Region.wanted, hg]
    rw [if_pos hw]
    exact h K' hK'
theorem wp_calls {o : Oper} {a : Act} {w : World} {K : Act → World → Prop} (f : FuncId) (args : Array Value) (he : (execOp a.eval o).run P w = .ok (.enter f args) w) (h : Calls P f args w fun e w'' => ∃ v, e = .returned v ∧ K (a.put o.dst v) w'') : o.wp P a w K Q := by
  unfold Oper.wp
  rw [he, Oper.upon_enter]
  refine h.mono fun e w'' hh => ?_
  obtain ⟨v, rfl, hk⟩ := hh
  exact hk
theorem wp_calls0 {o : Oper} {a : Act} {w : World} {K : Act → World → Prop} (f : FuncId) (hf : ∀ (args : Array Value) (w : World), (callFunc f args).run P w = .ok (.enter f args) w) (ts : Array TypeId) (ho : o.op = .call { callee := .value (.func f), args := #[], argTypes := ts }) (h : Calls P f #[] w fun e w'' => ∃ v, e = .returned v ∧ K (a.put o.dst v) w'') : o.wp P a w K Q :=
  wp_calls f #[] (by simp [execOp, ho, resolve, invoke, go_sem, hf]) h
theorem wp_calls1 {o : Oper} {a : Act} {w : World} {K : Act → World → Prop} (f : FuncId) (hf : ∀ (args : Array Value) (w : World), (callFunc f args).run P w = .ok (.enter f args) w) (x : Operand) (ts : Array TypeId) (ho : o.op = .call { callee := .value (.func f), args := #[x], argTypes := ts }) (v : Value) (hx : a.eval x = v) (h : Calls P f #[v] w fun e w'' => ∃ v, e = .returned v ∧ K (a.put o.dst v) w'') : o.wp P a w K Q :=
  wp_calls f #[v] (by subst hx; simp [execOp, ho, resolve, invoke, go_sem, hf]) h
theorem wp_calls2 {o : Oper} {a : Act} {w : World} {K : Act → World → Prop} (f : FuncId) (hf : ∀ (args : Array Value) (w : World), (callFunc f args).run P w = .ok (.enter f args) w) (x y : Operand) (ts : Array TypeId) (ho : o.op = .call { callee := .value (.func f), args := #[x, y], argTypes := ts }) (v u : Value) (hx : a.eval x = v) (hy : a.eval y = u) (h : Calls P f #[v, u] w fun e w'' => ∃ v, e = .returned v ∧ K (a.put o.dst v) w'') : o.wp P a w K Q :=
  wp_calls f #[v, u] (by subst hx; subst hy; simp [execOp, ho, resolve, invoke, go_sem, hf]) h

/-- a region by its states: each has the operations that have come up, and what holds there -/
theorem wpAny_states {md : Region.Mode} {σ : Type} (L : σ → Array Bool) (I : σ → Act → World → Prop)
    (hdone : ∀ s a w, I s a w → Region.ready md ops (L s) = [] → Q .normal a w)
    (hstep : ∀ s a w, I s a w → ∀ i ∈ Region.ready md ops (L s), wpOp P ops Q i (fun a' w' => ∃ s', L s' = (L s).setIfInBounds i true ∧ I s' a' w') a w) :
    ∀ (fuel : Nat) (s : σ) (a : Act) (w : World), I s a w → (L s).toList.count false ≤ fuel → (L s).size = ops.size → wpAny P md ops Q fuel (L s) a w
  | 0, s, a, w, hI, hc, hs => by
    have hr : Region.ready md ops (L s) = [] := by
      apply List.eq_nil_iff_forall_not_mem.2
      intro i hi
      have h0 := (mem_ready.1 hi).1
      have hmem : false ∈ (L s).toList := by
        rcases Nat.lt_or_ge i (L s).size with h' | h'
        · simp [h'] at h0
          rw [← h0]
          exact Array.getElem_mem_toList h'
        · simp [h'] at h0
      have := List.count_pos_iff.2 hmem
      omega
    exact ⟨hr, hdone s a w hI hr⟩
  | fuel + 1, s, a, w, hI, hc, hs => by
    refine ⟨hdone s a w hI, fun i hi => wpOp_mono (fun a' w' h => ?_) (hstep s a w hI i hi)⟩
    obtain ⟨s', hL, hI'⟩ := h
    rw [← hL]
    refine wpAny_states L I hdone hstep fuel s' a' w' hI' ?_ (by rw [hL]; simpa using hs)
    have h0 := (mem_ready.1 hi).1
    rcases Nat.lt_or_ge i (L s).size with h' | h'
    · simp [h'] at h0
      rw [hL, Array.toList_setIfInBounds, List.count_set (by simpa using h')]
      simp [h0]
      simp at hc
      omega
    · simp [h'] at h0
/-- a region that draws, by its states -/
theorem wp_region_states {id : Nat} {a : Act} {w : World} (hm : P.follows .mixedOrders = true) {σ : Type} (L : σ → Array Bool) (I : σ → Act → World → Prop) (s0 : σ) (h0 : L s0 = Array.replicate ops.size false) (hI : I s0 a { w with drawn := w.drawn + 1 })
    (hdone : ∀ s a w, I s a w → Region.ready .any ops (L s) = [] → Q .normal a w)
    (hstep : ∀ s a w, I s a w → ∀ i ∈ Region.ready .any ops (L s), wpOp P ops Q i (fun a' w' => ∃ s', L s' = (L s).setIfInBounds i true ∧ I s' a' w') a w) : (Code.region id ops true).wp P Q a w := by
  refine wp_region_any hm ?_
  have h := wpAny_states (P := P) (Q := Q) L I hdone hstep ops.size s0 a { w with drawn := w.drawn + 1 } hI (by rw [h0]; simp) (by rw [h0]; simp)
  rwa [h0] at h
end
end Go.Proofs.YthfmpebgmojcaaaDoor
