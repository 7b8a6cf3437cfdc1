/- The bytes by which those so far come to whole blocks: (running).end. -/
import Derived.Test.YtkgengiopjjhbaaDoorHWith
namespace Go.Proofs.YtkgengiopjjhbaaDoor
open Go.RowKit
set_option linter.unusedVariables false
set_option maxRecDepth 20000

theorem addr_add (b o j : Nat) : (⟨b, o, none⟩ : Addr).add j = ⟨b, o + j, none⟩ := by unfold Addr.add; split <;> simp_all
theorem Tryd.info5 : (Tryd.prog.info? 5).map (fun i => (i.zero, i.size, i.bytes)) = some (some (.int .u8 0), 1, 1) := by kernel_rfl
/-- append(v, bytes...) where v is the call's own -/
theorem app_bytes (w : World) {ops : Array Oper} {rest : List Oper} {o : Oper} {a : Act} {Q : Exit → Act → World → Prop} (hgd : o.guard = none) (s x : Operand)
    (ho : o.op = .call { callee := .builtin .append, args := #[s, x], argTypes := #[24, 24] }) (base : Nat) (v : Value) (xs : List UInt8) (hs : a.eval s = v)
    (hown : w.ownsRow base 5 1 v xs.length (cellsOf xs)) (ad : Addr) (m c : Nat) (news : List UInt8) (hm : news.length = m) (hx : a.eval x = .slice (some ad) m c)
    (hnews : ∀ j (h : j < news.length), w.cell? (ad.add j) = some (.int .u8 (news[j].toNat : Int))) (hb : xs.length + m ≤ 140737488355328) (hbase : base ≤ w.heap.size)
    (h : ∀ v' w', w'.ownsRow base 5 1 v' (xs ++ news).length (cellsOf (xs ++ news)) → Below base w w' → (0 < (xs ++ news).length → ∃ g cap, v' = .slice (some ⟨g, 0, none⟩) (xs ++ news).length cap) → wpList Tryd.prog ops Q rest (a.put o.dst v') w') :
    wpList Tryd.prog ops Q (o :: rest) a w := by
  obtain ⟨i0, hi, hz0, hz1, hz2⟩ := info_parts Tryd.info5
  subst hm
  refine wpList_append_own w hgd s x 24 ho base 5 i0 (.int .u8 0) 1 1 Tryd.underlying24 hi hz0 hz1 hz2 rfl (by decide) v xs.length (cellsOf xs) hs hown ad news.length c (cellsOf news) hx (by simp [cellsOf_length]) (fun j u hj => ?_) (cellsOf_one _) (by unfold maxLen; omega) (by omega) hbase ?_
  · have hj' : j < news.length := by
      have := (List.getElem?_eq_some_iff.1 hj).1
      simpa [cellsOf_length] using this
    rw [hnews j hj']
    have := (List.getElem?_eq_some_iff.1 hj).2
    simp [cellsOf] at this
    rw [this]
  · intro v' w' h1 h2 h3
    rw [← cellsOf_append, ← List.length_append] at h1
    refine h v' w' h1 ((Below.refl _ _).grown h2 hbase (fun k hk => (hown.lt k hk).1)) (fun hpos => ?_)
    rcases h1.2 with ⟨_, h0⟩ | ⟨g, cap, _, rfl, _⟩
    · omega
    · exact ⟨g, cap, rfl⟩

/-- append(v, x, y ..) of bytes that are named one by one -/
theorem app_lits (w : World) {ops : Array Oper} {rest : List Oper} {o : Oper} {a : Act} {Q : Exit → Act → World → Prop} (hgd : o.guard = none) (s x : Operand)
    (ho : o.op = .call { callee := .builtin .append, args := #[s, x], argTypes := #[24, 24] }) (base : Nat) (v : Value) (xs : List UInt8) (hs : a.eval s = v)
    (hown : w.ownsRow base 5 1 v xs.length (cellsOf xs)) (cs : List UInt8) (m : Nat) (hm : cs.length = m) (hx : a.eval x = .slice (some ⟨w.heap.size, 0, none⟩) m m) (hb : xs.length + m ≤ 140737488355328) (hbase : base ≤ w.heap.size)
    (h : ∀ v' w', w'.ownsRow base 5 1 v' (xs ++ cs).length (cellsOf (xs ++ cs)) → Below base w w' → (0 < (xs ++ cs).length → ∃ g cap, v' = .slice (some ⟨g, 0, none⟩) (xs ++ cs).length cap) → wpList Tryd.prog ops Q rest (a.put o.dst v') w') :
    wpList Tryd.prog ops Q (o :: rest) a (w.alloc (.cells (cellsOf cs).toArray 5)) := by
  refine app_bytes _ hgd s x ho base v xs hs (hown.alloc _) ⟨w.heap.size, 0, none⟩ m m cs hm hx (fun j hj => ?_) hb (by simp; omega) (fun v' w' h1 h2 h3 => h v' w' h1 (((Below.refl _ _).alloc hbase _).trans h2) h3)
  rw [addr_add, Nat.zero_add, World.cell?_alloc_new]
  simp [cellsOf, hj]

/-- the end while k bytes of the size are in -/
def endAt (N k : Nat) : List UInt8 := (128 :: List.replicate (noughts N) 0) ++ (be8 (N * 8)).take k
theorem endAt_all (N : Nat) : endAt N 8 = pad N := by
  unfold endAt pad
  rw [List.take_of_length_le (by rw [be8_length]; omega)]
theorem be8_get (n k : Nat) (h : k < 8) : (be8 n)[k]'(by rw [be8_length]; exact h) = UInt8.ofNat (n / 2 ^ (56 - 8 * k)) := by simp [be8]
theorem endAt_step (N k : Nat) (h : k < 8) : endAt N k ++ [UInt8.ofNat (N * 8 / 2 ^ (56 - 8 * k))] = endAt N (k + 1) := by
  unfold endAt
  rw [List.take_succ_eq_append_getElem (by rw [be8_length]; exact h), be8_get _ _ h, List.append_assoc]
theorem endAt_length (N k : Nat) : (endAt N k).length ≤ 73 := by
  have h1 : ((be8 (N * 8)).take k).length ≤ 8 := by rw [List.length_take, be8_length]; omega
  have h2 : noughts N < 64 := by unfold noughts; omega
  unfold endAt
  rw [List.length_append, List.length_cons, List.length_replicate]
  omega
theorem endAt_zero (N : Nat) : endAt N 0 = 128 :: List.replicate (noughts N) 0 := by simp [endAt]
theorem byte_of (x : Nat) : IntKind.u8.wrap (x : Int) = ((UInt8.ofNat x).toNat : Int) := by
  rw [IntKind.wrap_u8]
  simp
theorem made_zeros (n : Nat) : (madeCells (Value.int .u8 0).cells n).toList = cellsOf (List.replicate n 0) := by
  have : (Value.int .u8 0).cells = #[.int .u8 0] := rfl
  rw [this, toList_madeCells_one]
  simp [cellsOf]

theorem own_mono {w : World} {B B' : Nat} {e : TypeId} {size : Nat} {v : Value} {n : Nat} {xs : List Value} (h : w.ownsRow B e size v n xs) (hB : B' ≤ B) : w.ownsRow B' e size v n xs := by
  refine ⟨h.1, ?_⟩
  rcases h.2 with h | ⟨g, cap, cur, hv, hg, r⟩
  · exact .inl h
  · exact .inr ⟨g, cap, cur, hv, by omega, r⟩

set_option maxHeartbeats 1000000 in
theorem end_any {w : World} (s : S8) (bk : List UInt8) (N : Nat) (hb : bk.length = 64) (hN : N < 1152921504606846976) :
    Calls Tryd.prog 53 #[.agg (rvals s bk N)] w fun e w' => ∃ v, e = .returned v ∧ w'.ownsRow w.heap.size 5 1 v (pad N).length (cellsOf (pad N)) ∧ Below w.heap.size w w' := by
  obtain ⟨i0, hi, hz0, hz1, hz2⟩ := info_parts Tryd.info5
  obtain ⟨R, hR⟩ : ∃ R, R = rvals s bk N := ⟨_, rfl⟩
  have c72 : (w.alloc (.cells R 95)).cell? ⟨w.heap.size, 72, none⟩ = some (.int .i64 (N : Int)) := by
    rw [cell_of_row _ _ 72 _ _ _ (heap_alloc_new w _), hR, rvals, List.getElem?_toArray]
    exact rcells_size _ _ _ hb
  have q0 : IntKind.i64.wrap ((N : Int) + 1) = (N : Int) + 1 := by rw [IntKind.wrap_i64]; omega
  have q1 : IntKind.i64.wrap ((N : Int) + 1 + 8) = (N : Int) + 1 + 8 := by rw [IntKind.wrap_i64]; omega
  obtain ⟨o, ho⟩ : ∃ o, o = (N + 1 + 8) % 64 := ⟨_, rfl⟩
  have q2 : ((N : Int) + 1 + 8).tmod 64 = (o : Int) := by rw [Int.tmod_eq_emod_of_nonneg (by omega)]; omega
  obtain ⟨z, hz⟩ : ∃ z, z = noughts N := ⟨_, rfl⟩
  have hz' : z = (64 - o) % 64 := by rw [hz, ho]; rfl
  have q3 : ((64 : Int) - (o : Int)).tmod 64 = (z : Int) := by rw [Int.tmod_eq_emod_of_nonneg (by omega)]; omega
  have Hz := hid hz
  have lz : z < 64 := by omega
  have lo : o < 64 := by omega
  rw [← hR]
  clear hR hz hz' ho
  go_enter Tryd.func53, Tryd.ntmps53
  go_wp2_with fail
  rw [run_make (P := Tryd.prog) _ 24 5 i0 (.int .u8 0) Tryd.underlying24 hi hz0 .i64 .i64 (1 + (z : Int)) (1 + (z : Int) + 8) (by omega) (by omega) (by rw [hz2]; omega) (by omega)]
  simp only [Result.andThen]
  rw [Oper.upon_value, show (1 + (z : Int)).toNat = 1 + z by omega, show (1 + (z : Int) + 8).toNat = 1 + z + 8 by omega, hz1, Nat.mul_one, show (w.alloc (.cells R 95)).heap.size = w.heap.size + 1 by simp]
  obtain ⟨W1, hW1⟩ : ∃ W1, W1 = (w.alloc (.cells R 95)).alloc (.cells (madeCells (Value.int .u8 0).cells (1 + z + 8)) 5) := ⟨_, rfl⟩
  have g1 : W1.heap[w.heap.size + 1]? = some (.cells (madeCells (Value.int .u8 0).cells (1 + z + 8)) 5 (0, 0)) := by rw [hW1]; exact heap_alloc2_new w _ _
  have hbel : Below w.heap.size w W1 := by rw [hW1]; exact ((Below.refl _ w).alloc (Nat.le_refl _) _).alloc (by simp) _
  have k72 : W1.cell? ⟨w.heap.size, 72, none⟩ = some (.int .i64 (N : Int)) := by
    rw [hW1, World.cell?_of_block (w := w.alloc (.cells R 95)) (Below.heap_alloc _ _ _ (by simp))]; exact c72
  have f0 := frozen_of_row _ _ 0 _ _ g1
  have c0 : W1.cell? ⟨w.heap.size + 1, 0, none⟩ = some (.int .u8 0) := by
    rw [cell_of_row _ _ 0 _ _ _ g1, ← Array.getElem?_toList, made_zeros, show 1 + z + 8 = (z + 8) + 1 by omega, List.replicate_succ]
    rfl
  have own0 : (W1.setCell ⟨w.heap.size + 1, 0, none⟩ (.int .u8 128)).ownsRow (w.heap.size + 1) 5 1 (.slice (some ⟨w.heap.size + 1, 0, none⟩) (1 + z) (1 + z + 8)) (endAt N 0).length (cellsOf (endAt N 0)) := by
    have hl : (endAt N 0).length = 1 + z := by rw [endAt_zero, ← Hz.out]; simp; omega
    refine ⟨by rw [cellsOf_length, Nat.mul_one], .inr ⟨w.heap.size + 1, 1 + z + 8, _, by rw [hl], Nat.le_refl _, heap_setCell_same _ _ _ _ _ _ g1, by omega, by unfold maxLen; omega, by simp [size_madeCells], ?_⟩⟩
    rw [Array.toList_setIfInBounds, made_zeros, hl, Nat.mul_one, endAt_zero, ← Hz.out, show 1 + z + 8 = (z + 8) + 1 by omega, List.replicate_succ, show 1 + z = z + 1 by omega]
    simp [cellsOf, List.take_replicate]
  rw [← hW1]
  have Hown0 := hid own0
  have Hbel0 := hid (hbel.setCell (p := ⟨w.heap.size + 1, 0, none⟩) (by simp) (.int .u8 128))
  have Hk := hid ((World.cell?_setCell_other W1 ⟨w.heap.size + 1, 0, none⟩ ⟨w.heap.size, 72, none⟩ (.int .u8 128) (by intro h; simp only [Addr.mk.injEq] at h; omega)).trans k72)
  clear hW1 own0 hbel k72 g1 c72 q0 q1 q2 q3 hi hz0 hz1 hz2
  go_wp2_with fail
  go_loopw [5, 6] (fun v5 v6 wr => ∃ k : Nat, k ≤ 8 ∧ v6 = .int .i64 (56 - 8 * (k : Int)) ∧ wr.ownsRow (w.heap.size + 1) 5 1 v5 (endAt N k).length (cellsOf (endAt N k)) ∧ wr.cell? ⟨w.heap.size, 72, none⟩ = some (.int .i64 (N : Int)) ∧ Below w.heap.size w wr) (fun _ v6 _ => (intOf v6 + 8).toNat)
  case atStart => exact ⟨0, by omega, rfl, Hown0.out, Hk.out, Hbel0.out⟩
  case round =>
    obtain ⟨k, hk, rfl, hown, h72, hbel⟩ := hrel
    have Hown := hid hown
    have Hbel := hid hbel
    have H72 := hid h72
    clear hown hbel Hown0 Hbel0 Hk
    by_cases hlt : k < 8
    · have q0 : (0 : Int) ≤ 56 - 8 * (k : Int) := by omega
      have q1 : (56 : Int) - 8 * (k : Int) ≤ 64 := by omega
      have q2 : IntKind.u64.wrap (N : Int) = (N : Int) := by rw [IntKind.wrap_u64]; omega
      have q3 : IntKind.u64.wrap ((N : Int) * 8) = (N : Int) * 8 := by rw [IntKind.wrap_u64]; omega
      have q4 : IntKind.i64.wrap (56 - 8 * (k : Int) - 8) = 56 - 8 * ((k + 1 : Nat) : Int) := by rw [IntKind.wrap_i64]; omega
      have Hst := hid (endAt_step N k hlt)
      obtain ⟨b, hb8⟩ : ∃ b, b = UInt8.ofNat (N * 8 / 2 ^ (56 - 8 * k)) := ⟨_, rfl⟩
      have q5 : (N : Int) * 8 / 2 ^ (56 - 8 * k) % 256 = (b.toNat : Int) := by
        have h := byte_of (N * 8 / 2 ^ (56 - 8 * k))
        rw [← hb8, IntKind.wrap_u8] at h
        rw [← h]
        simp
      rw [← hb8] at Hst
      have Hlen := hid (endAt_length N k)
      have Hlt : Hid (w.heap.size + 1 ≤ wr.heap.size) := World.block_lt_of_cell? _ _ h72
      clear hb8
      go_wp2_with (at_builtin; refine app_lits _ rfl (.tmp 27) (.tmp 35) rfl (w.heap.size + 1) _ (endAt N k) rfl Hown.out [b] 1 rfl rfl (by have := Hlen.out; omega) Hlt.out ?_; intro v' w' hown' hb' hv'; have Hown' := hid hown'; have Hb' := hid hb'; clear hown' hb' hv')
      go_roundw
      case rel =>
        refine ⟨k + 1, by omega, by go_num, ?_, ?_, ?_⟩
        · rw [← Hst.out]; exact Hown'.out
        · exact (Hb'.out.cell (by simp)).trans H72.out
        · exact Hbel.out.trans (Hb'.out.mono (by omega))
      case measure => simp [intOf]; omega
    · have hk8 : k = 8 := by omega
      have q0 : ¬ (0 : Int) ≤ 56 - 8 * (k : Int) := by omega
      have Hend : Hid (endAt N k = pad N) := by
        show _ = _
        rw [hk8, endAt_all]
      clear hk8
      go_wp2
      go_ret
      refine ⟨_, rfl, ?_, Hbel.out⟩
      have h := Hown.out
      rw [Hend.out] at h
      exact own_mono h (by omega)
end Go.Proofs.YtkgengiopjjhbaaDoor
