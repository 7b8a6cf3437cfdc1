/- A hash in digits: hash.Hex. -/
import Derived.Test.YtfiaefagnkmpoaaDoorHTag
import Derived.Test.YtfiaefagnkmpoaaDoorHEval
import Derived.Deep.RegionLaw
namespace Go.Proofs.YtfiaefagnkmpoaaDoor
open Go.RowKit
set_option linter.unusedVariables false
set_option maxRecDepth 20000

/-- a digit in base 16 as a byte -/
def dig (d : Nat) : UInt8 := ([48, 49, 50, 51, 52, 53, 54, 55, 56, 57, 97, 98, 99, 100, 101, 102] : List UInt8).getD d 0
def hexOf (h : List UInt8) : List UInt8 := h.flatMap fun b => [dig (b.toNat / 16), dig (b.toNat % 16)]
theorem hexOf_length (h : List UInt8) : (hexOf h).length = 2 * h.length := by
  induction h with
  | nil => rfl
  | cons b h ih => simp [hexOf] at *; omega
theorem hexOf_take (h : List UInt8) (k : Nat) (hk : k < h.length) : hexOf (h.take (k + 1)) = hexOf (h.take k) ++ [dig (h[k].toNat / 16), dig (h[k].toNat % 16)] := by
  rw [List.take_succ_eq_append_getElem hk]
  unfold hexOf
  rw [List.flatMap_append]
  rfl
theorem index_hash (cs : Array Value) (k : Nat) (v : Value) (hk : k < 32) (hc : cs[k]? = some v) (w : World) : (Instr.index 26 (.agg cs) (.int .i64 (k : Int))).run Tryd.prog w = .ok v w := by
  have h1 : ¬ 32 ≤ k := by omega
  simp [Instr.index, Go.part, asIntOf, go_sem, hc, h1]
theorem dig_at : ∀ x : Fin 16, (#[48, 49, 50, 51, 52, 53, 54, 55, 56, 57, 97, 98, 99, 100, 101, 102] : Array UInt8)[x.val]'x.isLt = dig x.val := by decide +kernel
theorem index_dig (x : Nat) (hx : x < 16) (w : World) : (Instr.index 9 (.string ⟨#[48, 49, 50, 51, 52, 53, 54, 55, 56, 57, 97, 98, 99, 100, 101, 102]⟩) (.int .u8 (x : Int))).run Tryd.prog w = .ok (.int .u8 ((dig x).toNat : Int)) w := by
  have h2 := dig_at ⟨x, hx⟩
  rw [run_index_string w 9 _ _ _ Tryd.underlying9, dif_pos ⟨by omega, by show (x : Int) < 16; omega⟩, ← h2]
  rfl
attribute [local go_sem ↓] index_dig
/-- append(v, x, y ..) of bytes that are named one by one, at a step of a region that draws -/
theorem step_app_lits (w : World) {ops : Array Oper} {o : Oper} {a : Act} {K : Act → World → Prop} {Q : Exit → Act → World → Prop} {E : Prop} (hgd : o.guard = none) (s x : Operand)
    (ho : o.op = .call { callee := .builtin .append, args := #[s, x], argTypes := #[22, 22] }) (base : Nat) (v : Value) (xs : List UInt8) (hs : a.eval s = v)
    (hown : w.ownsRow base 5 1 v xs.length (cellsOf xs)) (cs : List UInt8) (m : Nat) (hm : cs.length = m) (h0 : 0 < m) (hx : a.eval x = .slice (some ⟨w.heap.size, 0, none⟩) m m) (hb : xs.length + m ≤ 140737488355328) (hbase : base ≤ w.heap.size)
    (h : ∀ g cap w', w'.ownsRow base 5 1 (.slice (some ⟨g, 0, none⟩) (xs ++ cs).length cap) (xs ++ cs).length (cellsOf (xs ++ cs)) → Below base w w' → K (a.put o.dst (.slice (some ⟨g, 0, none⟩) (xs ++ cs).length cap)) w') :
    if Region.wanted o (yielded ops a.tmps) = true then Oper.wp Tryd.prog o a (w.alloc (.cells (cellsOf cs).toArray 5)) K Q else E := by
  obtain ⟨i0, hi, hz0, hz1, hz2⟩ := info_parts Tryd.info5
  subst hm
  have hb1 : Below base w (w.alloc (.cells (cellsOf cs).toArray 5)) := (Below.refl _ w).alloc hbase _
  refine step_append_lies _ hgd s x 22 ho base 5 i0 _ 1 1 Tryd.underlying22 hi hz0 hz1 hz2 rfl (by omega) v xs.length (cellsOf xs) hs (hown.alloc _) ⟨w.heap.size, 0, none⟩ cs.length cs.length (cellsOf cs) hx (by rw [cellsOf_length, Nat.mul_one]) (World.news_of_block (cs := (cellsOf cs).toArray) (t := 5) (fr := (0, 0)) (heap_alloc_new w _)) (cellsOf_one cs) h0 (by unfold maxLen; omega) (by omega) (by simp; omega) _ rfl ?_
  intro g cap w' hown' hgrow hat hlt
  rw [← cellsOf_append, ← List.length_append] at hown'
  rw [← List.length_append]
  refine h g cap w' hown' (hb1.grown hgrow (Nat.le_trans hbase (by simp)) (fun k hk => ?_))
  exact (hown.lt k hk).1
/-- what Hex answers -/
def TextPost (w : World) (l : List UInt8) (e : Ending) (w' : World) : Prop := e = .returned (.string ⟨l.toArray⟩) ∧ Below w.heap.size w w'
theorem conv_own {w : World} {B : Nat} {v : Value} {n : Nat} {l : List UInt8} (h : w.ownsRow B 5 1 v n (cellsOf l)) (h0 : 0 < l.length) : (convert 22 9 v).run Tryd.prog w = .ok (.string ⟨l.toArray⟩) w := by
  obtain ⟨a, cap, rfl, hB, hc⟩ := bytes_of_own h
  obtain ⟨b, o, rfl, _⟩ := hB 0 h0
  exact run_convert_bytes_back (P := Tryd.prog) w 22 9 5 ⟨b, o, none⟩ cap l Tryd.underlying22 Tryd.underlying5 Tryd.underlying9 (fun j hj => by
    obtain ⟨b', o', e', hcl⟩ := hB j hj
    cases e'
    rw [Addr.add_mid, hcl])

set_option maxHeartbeats 2000000 in
theorem hex_any {w : World} {h : List UInt8} {H : Array Value} (hH : HV H h) :
    Calls Tryd.prog 31 #[.agg H] w (TextPost w (hexOf h)) := by
  obtain ⟨i0, hi, hz0, hz1, hz2⟩ := info_parts Tryd.info5
  have HH := hid hH
  have lh : h.length = 32 := hH.len
  have hsz := hid hH.info
  clear hH
  go_enter Tryd.func31, Tryd.ntmps31
  go_wp2_with fail
  rw [run_make (P := Tryd.prog) _ 22 5 i0 (.int .u8 0) Tryd.underlying22 hi hz0 .i64 .i64 0 64 (by omega) (by omega) (by rw [hz2]; omega) (by omega)]
  simp only [Result.andThen]
  rw [Oper.upon_value, show (64 : Int).toNat = 64 from rfl, show (0 : Int).toNat = 0 from rfl, hz1, Nat.mul_one, made_row, show (w.alloc (.cells H 26)).heap.size = w.heap.size + 1 by simp]
  obtain ⟨W, hW⟩ : ∃ W, W = (w.alloc (.cells H 26)).alloc (.cells (cellsOf (List.replicate 64 0)).toArray 5) := ⟨_, rfl⟩
  have x0 : Hid (W.heap[w.heap.size]? = some (.cells H 26 (0, 0))) := by
    show _ = _
    rw [hW]; exact heap_alloc2_old w _ _
  have own0 : Hid (W.ownsRow (w.heap.size + 1) 5 1 (.slice (some ⟨w.heap.size + 1, 0, none⟩) 0 64) (hexOf (h.take 0)).length (cellsOf (hexOf (h.take 0)))) := by
    show World.ownsRow _ _ _ _ _ _ _
    rw [hW]
    refine ⟨by rw [cellsOf_length, Nat.mul_one], .inr ⟨w.heap.size + 1, 64, _, rfl, Nat.le_refl _, heap_alloc2_new w _ _, by simp [hexOf], by unfold maxLen; omega, by simp [cellsOf], ?_⟩⟩
    simp [hexOf, cellsOf]
  have b0 : Hid (Below w.heap.size w W) := by
    show Below _ _ _
    rw [hW]; exact ((Below.refl _ w).alloc (Nat.le_refl _) _).alloc (by simp) _
  rw [← hW]
  clear hW hi hz0 hz1 hz2
  go_wp2_with (with_reducible show Go.wpList _ _ _ _ _ _; refine wpList_load_row rfl 26 _ rfl w.heap.size rfl _ _ _ _ x0.out Tryd.underlying26 rfl hsz.out ?_)
  go_loopw [3, 8] (fun v3 v8 wr => ∃ k : Nat, k ≤ 32 ∧ v8 = .int .i64 k ∧ wr.ownsRow (w.heap.size + 1) 5 1 v3 (hexOf (h.take k)).length (cellsOf (hexOf (h.take k))) ∧ Below w.heap.size w wr ∧ w.heap.size + 1 ≤ wr.heap.size) (fun _ v8 _ => 32 - (intOf v8).toNat)
  case atStart => exact ⟨0, Nat.zero_le _, rfl, own0.out, b0.out, heap_lt x0.out⟩
  case round =>
    clear own0 b0 x0 hsz
    obtain ⟨k, hk, rfl, hown, hbel, hbig⟩ := hrel
    have Hown := hid hown
    have Hbel := hid hbel
    have Hbig := hid hbig
    clear hown hbel hbig
    by_cases hlt : k < 32
    · have hkh : k < h.length := by omega
      have c1 : H[k]? = some (.int .u8 (h[k].toNat : Int)) := by rw [HH.out.eq]; exact bvs_get h k hkh
      have i1 := index_hash H k _ hlt c1
      have Hst := hid (hexOf_take h k hkh)
      obtain ⟨b, hb⟩ : ∃ b, b = h[k] := ⟨_, rfl⟩
      rw [← hb] at i1 Hst
      obtain ⟨x, hx⟩ : ∃ x, x = b.toNat / 16 := ⟨_, rfl⟩
      obtain ⟨y, hy⟩ : ∃ y, y = b.toNat % 16 := ⟨_, rfl⟩
      have b256 := b.toNat_lt
      have x16 : x < 16 := by omega
      have y16 : y < 16 := by omega
      have q1 : (b.toNat : Int) / 16 = (x : Int) := by omega
      have q2 : bits .and .u8 (b.toNat : Int) 15 = (y : Int) := by
        have h : bits .and .u8 (b.toNat : Int) 15 = IntKind.u8.wrap ((BitVec.ofInt 8 (b.toNat : Int) &&& BitVec.ofInt 8 15).toNat : Int) := rfl
        rw [h, b_of, hy]
        have e : (b.toBitVec &&& BitVec.ofInt 8 15).toNat = b.toNat % 16 := by
          rw [BitVec.toNat_and, show (BitVec.ofInt 8 15).toNat = 2 ^ 4 - 1 from rfl, Nat.and_two_pow_sub_one_eq_mod]
          rfl
        rw [e, IntKind.wrap_u8]
        omega
      rw [← hx, ← hy] at Hst
      have Hlen : Hid ((hexOf (h.take k)).length ≤ 64) := by
        show _ ≤ _
        rw [hexOf_length]; simp; omega
      clear c1 hb hx hy hkh b256
      go_wp2_with fail
      go_region_law (refine step_app_lits wr.drew rfl (.tmp 11) (.tmp 18) rfl (w.heap.size + 1) u3 (hexOf (h.take k)) rfl Hown.out.drew [dig x, dig y] 2 rfl (by omega) rfl (by have := Hlen.out; omega) Hbig.out ?_; intro g' cap' w' hown' hb'; have Hown' := hid hown'; have Hb' := hid hb'; clear hown' hb')
      all_goals
        go_wp2_with fail
        go_roundw
        case rel =>
          refine ⟨k + 1, by omega, by go_num, ?_, Hbel.out.drew.trans (Hb'.out.mono (Nat.le_succ _)), ?_⟩
          · have h9 := Hown'.out
            have e9 : (hexOf (h.take k) ++ [dig x, dig y]).length = (hexOf (h.take k)).length + 2 := by simp
            rw [Hst.out]
            rw [e9] at h9 ⊢
            exact h9
          · have := Hb'.out.size; have := Hbig.out; simp at *; omega
        case measure => simp [intOf]; omega
    · have hk32 : k = 32 := by omega
      have Hend : Hid (wr.ownsRow (w.heap.size + 1) 5 1 u3 (hexOf h).length (cellsOf (hexOf h))) := by
        have h1 := Hown.out
        rw [hk32, List.take_of_length_le (by omega)] at h1
        exact h1
      have hcv := conv_own Hend.out (by rw [hexOf_length]; omega)
      clear Hown hk32 hk Hend
      go_wp2
      go_ret
      exact ⟨rfl, Hbel.out⟩

end Go.Proofs.YtfiaefagnkmpoaaDoor
