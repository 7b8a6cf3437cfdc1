/- YtomhcccjeadefaaGreatDoorHBase + YtomhcccjeadefaaGreatDoorHRound + YtomhcccjeadefaaGreatDoorHSpread -/
import Derived.Test.YtomhcccjeadefaaGreatDoorRows
import Derived.Test.YtomhcccjeadefaaGreatDoorHMath
import Derived.WalkKit
import Derived.WalkSpells
import Derived.WalkLawsBesides
import Derived.RegionTactic
import Derived.BigQuiet
import Derived.Deep.QuietTactic
import Derived.Deep.RegionHeld3
import Derived.Deep.AppendLies
import Derived.Deep.DrawnRows
import Derived.Deep.WholeRow
import Derived.Laws.CopyOwn
import Derived.Laws.LoneSync
/- What the texts on hashes share; words as values; turned. -/
namespace Go.Proofs.YtomhcccjeadefaaGreatDoor
open Go.RowKit
set_option linter.unusedVariables false
set_option maxRecDepth 20000
theorem hid {p : Prop} (h : p) : Hid p := h
theorem ret_bool {a b : Bool} (h : a = b) : Ending.returned (.bool a) = .returned (.bool b) := by rw [h]
theorem ret_int {k : IntKind} {a b : Int} (h : a = b) : Ending.returned (.int k a) = .returned (.int k b) := by rw [h]
theorem ret_two {a b c d : Value} (h1 : a = c) (h2 : b = d) : Ending.returned (.tuple #[a, b]) = .returned (.tuple #[c, d]) := by rw [h1, h2]
theorem Below.on' {w w1 w2 : World} (h : Below w.heap.size w w1) (k : Below w1.heap.size w1 w2) : Below w.heap.size w w2 := h.trans (k.mono h.size)
theorem undrew1 {B : Nat} {w w' : World} (h : Below B w.drew w') : Below B w w' := ⟨h.os, h.tape, h.output, h.size, h.block⟩
theorem undrewN {B n : Nat} {w w' : World} (h : Below B (w.drewN n) w') : Below B w w' := ⟨h.os, h.tape, h.output, h.size, h.block⟩
theorem _root_.Go.RowKit.Below.drewN {B : Nat} {a w : World} (h : Below B a w) (n : Nat) : Below B a (w.drewN n) := ⟨h.os, h.tape, h.output, h.size, h.block⟩
theorem _root_.Go.RowKit.Below.setRow {B : Nat} {a w : World} (h : Below B a w) {g : Nat} (hg : B ≤ g) (cs : Array Value) : Below B a (w.setRow g cs) :=
  ⟨h.os, h.tape, h.output, by rw [size_setRow]; exact h.size, fun k hk => (setRow_other _ _ _ _ (by omega)).trans (h.block k hk)⟩
theorem wpList_alloc_row {ops : Array Oper} {rest : List Oper} {o : Oper} {a : Act} {w : World} {Q : Exit → Act → World → Prop} (hg : o.guard = none) (ty : TypeId) (ho : o.op = .alloc ty) (c : Array Value)
    (hz : ∀ w, (zeroValue ty).run Tryz.prog w = .ok (.agg c) w) (h : wpList Tryz.prog ops Q rest (a.put o.dst (.pointer (some ⟨w.heap.size, 0, none⟩))) (w.alloc (.cells c ty))) : wpList Tryz.prog ops Q (o :: rest) a w := by
  refine wpList_plain hg fun K hK => ?_
  unfold Oper.wp execOp
  simp only [ho, Instr.alloc, Sem.run_bind, hz, Result.andThen_ok, Sem.run_pure, newVar, go_sem]
  exact hK _ _ h
abbrev vw (x : W32) : Value := .int .u32 (x.toNat : Int)
theorem wrap_nat32 (n : Nat) : IntKind.u32.wrap (n : Int) = ((n % 2 ^ 32 : Nat) : Int) := by rw [IntKind.wrap_u32]; omega
theorem w_add (a b : W32) : IntKind.u32.wrap ((a.toNat : Int) + (b.toNat : Int)) = ((a + b).toNat : Int) := by
  rw [← Int.natCast_add, wrap_nat32, BitVec.toNat_add]
theorem w_of (a : W32) : BitVec.ofInt 32 (a.toNat : Int) = a := by
  apply BitVec.eq_of_toNat_eq
  simp
theorem w_back (a : W32) : IntKind.u32.wrap (a.toNat : Int) = (a.toNat : Int) := by
  rw [wrap_nat32, Nat.mod_eq_of_lt a.isLt]
theorem w_bits (op : BinOp) (a b : W32) (f : W32 → W32 → W32) (h : bits op .u32 (a.toNat : Int) (b.toNat : Int) = IntKind.u32.wrap ((f (BitVec.ofInt 32 (a.toNat : Int)) (BitVec.ofInt 32 (b.toNat : Int))).toNat : Int)) : bits op .u32 (a.toNat : Int) (b.toNat : Int) = ((f a b).toNat : Int) := by
  rw [h, w_of, w_of, w_back]
theorem w_and (a b : W32) : bits .and .u32 (a.toNat : Int) (b.toNat : Int) = ((a &&& b).toNat : Int) := w_bits .and a b (· &&& ·) rfl
theorem w_or (a b : W32) : bits .or .u32 (a.toNat : Int) (b.toNat : Int) = ((a ||| b).toNat : Int) := w_bits .or a b (· ||| ·) rfl
theorem w_xor (a b : W32) : bits .xor .u32 (a.toNat : Int) (b.toNat : Int) = ((a ^^^ b).toNat : Int) := w_bits .xor a b (· ^^^ ·) rfl
theorem w_not (a : W32) : bits .xor .u32 IntKind.u32.max (a.toNat : Int) = ((~~~a).toNat : Int) := by
  have := w_xor (BitVec.allOnes 32) a
  rw [BitVec.allOnes_xor] at this
  exact this
theorem w_shl (a : W32) (n : Nat) : IntKind.u32.wrap ((a.toNat : Int) * 2 ^ n) = ((a <<< n).toNat : Int) := by
  rw [show ((a.toNat : Int) * 2 ^ n) = ((a.toNat * 2 ^ n : Nat) : Int) by simp, wrap_nat32, BitVec.toNat_shiftLeft, Nat.shiftLeft_eq]
theorem w_shr (a : W32) (n : Nat) : (a.toNat : Int) / 2 ^ n = ((a >>> n).toNat : Int) := by
  rw [BitVec.toNat_ushiftRight, Nat.shiftRight_eq_div_pow]
  simp
theorem w_addm (a b : W32) : ((a.toNat : Int) + (b.toNat : Int)) % 4294967296 = ((a + b).toNat : Int) := by
  rw [← w_add, IntKind.wrap_u32]
theorem w_shlm (a : W32) (n : Nat) : ((a.toNat : Int) * 2 ^ n) % 4294967296 = ((a <<< n).toNat : Int) := by
  rw [← w_shl, IntKind.wrap_u32]
theorem rot_by : ∀ n : Fin 32, 0 < n.val → bits .and .u64 (IntKind.u64.wrap (-(n.val : Int))) 31 = 32 - (n.val : Int) := by decide +kernel
set_option maxHeartbeats 400000 in
theorem rot_any (x : W32) (n : Nat) (h0 : 0 < n) (h1 : n < 32) (w : World) :
    Calls Tryz.prog 102 #[vw x, .int .i64 (-(n : Int))] w fun e w' => e = .returned (vw (rotr x n)) ∧ w' = w := by
  have hs := rot_by ⟨n, h1⟩ h0
  simp only at hs
  have f1 : (0 : Int) ≤ 32 - (n : Int) := by omega
  have f2 : (32 : Int) - (n : Int) ≤ 32 := by omega
  have f3 : IntKind.u64.wrap (32 - (32 - (n : Int))) = (n : Int) := by rw [IntKind.wrap_u64]; omega
  have f4 : (0 : Int) ≤ (n : Int) := by omega
  have f5 : (n : Int) ≤ 32 := by omega
  go_enter Tryz.func102, Tryz.ntmps102
  go_wp2
  go_ret
  refine ⟨ret_int ?_, rfl⟩
  rw [w_shlm, w_shr, w_or]
  rfl
set_option maxHeartbeats 400000 in
theorem turned_any (x : W32) (n : Nat) (h0 : 0 < n) (h1 : n < 32) (w : World) :
    Calls Tryz.prog 78 #[vw x, .int .i64 (n : Int)] w fun e w' => e = .returned (vw (rotr x n)) ∧ w' = w := by
  have f1 : IntKind.i64.wrap (-(n : Int)) = -(n : Int) := by rw [IntKind.wrap_i64]; omega
  have f2 : IntKind.i64.wrap (0 - (n : Int)) = -(n : Int) := by rw [IntKind.wrap_i64]; omega
  go_enter Tryz.func78, Tryz.ntmps78
  go_wp2_with fail
  refine (rot_any x n h0 h1 _).mono ?_
  rintro e w1 ⟨rfl, rfl⟩
  go_wp2
  go_ret
  exact ⟨rfl, rfl⟩
end Go.Proofs.YtomhcccjeadefaaGreatDoor
/- A round. -/
namespace Go.Proofs.YtomhcccjeadefaaGreatDoor
open Go.RowKit
set_option linter.unusedVariables false
set_option maxRecDepth 20000
def S8.vals (s : S8) : Array Value := #[vw s.a, vw s.b, vw s.c, vw s.d, vw s.e, vw s.f, vw s.g, vw s.h]
theorem size_state : (Tryz.prog.info? 61).map (·.size) = some 8 := by kernel_rfl
theorem sum6 (h s c x p q : W32) : ((h.toNat : Int) + (s.toNat : Int) + (c.toNat : Int) + (x.toNat : Int) + ((p.toNat : Int) + (q.toNat : Int))) % 4294967296 = ((h + s + c + x + (p + q)).toNat : Int) := by
  simp only [BitVec.toNat_add]
  omega
theorem sum5 (d h s c x : W32) : ((d.toNat : Int) + ((h.toNat : Int) + (s.toNat : Int) + (c.toNat : Int) + (x.toNat : Int))) % 4294967296 = ((d + (h + s + c + x)).toNat : Int) := by
  simp only [BitVec.toNat_add]
  omega
theorem row8 (w : World) (g : Nat) (t : TypeId) (u0 u1 u2 u3 u4 u5 u6 u7 v0 v1 v2 v3 v4 v5 v6 v7 : Value) (hg : w.heap[g]? = some (.cells #[u0, u1, u2, u3, u4, u5, u6, u7] t (0, 0))) :
    ((((((((w.setCell ⟨g, 0, none⟩ v0).setCell ⟨g, 1, none⟩ v1).setCell ⟨g, 2, none⟩ v2).setCell ⟨g, 3, none⟩ v3).setCell ⟨g, 4, none⟩ v4).setCell ⟨g, 5, none⟩ v5).setCell ⟨g, 6, none⟩ v6).setCell ⟨g, 7, none⟩ v7).heap[g]? = some (.cells #[v0, v1, v2, v3, v4, v5, v6, v7] t (0, 0)) := by
  have h := heap_setCell_same _ _ 7 _ _ v7 (heap_setCell_same _ _ 6 _ _ v6 (heap_setCell_same _ _ 5 _ _ v5 (heap_setCell_same _ _ 4 _ _ v4 (heap_setCell_same _ _ 3 _ _ v3 (heap_setCell_same _ _ 2 _ _ v2 (heap_setCell_same _ _ 1 _ _ v1 (heap_setCell_same _ _ 0 _ _ v0 hg)))))))
  simpa using h
set_option maxHeartbeats 2000000 in
theorem round_any (s : S8) (x : W32) (w : World) :
    Calls Tryz.prog 61 #[.agg s.vals, vw x] w fun e w' => e = .returned (.agg (rd s x).vals) ∧ Below w.heap.size w w' := by
  obtain ⟨a, b, c, d, e, f, g, h⟩ := s
  have HR : Hid ((rd ⟨a, b, c, d, e, f, g, h⟩ x).vals = #[vw (t1 ⟨a, b, c, d, e, f, g, h⟩ x + t2 ⟨a, b, c, d, e, f, g, h⟩), vw a, vw b, vw c, vw (d + t1 ⟨a, b, c, d, e, f, g, h⟩ x), vw e, vw f, vw g]) := rfl
  generalize (rd ⟨a, b, c, d, e, f, g, h⟩ x).vals = R at HR
  unfold S8.vals
  have sg : IntKind.u32.signed = false := rfl
  go_enter Tryz.func61, Tryz.ntmps61
  go_wp2_with fail
  go_quiet (fail)
  go_wp2_with fail
  refine (turned_any e 6 (by omega) (by omega) _).mono ?_
  rintro _ _ ⟨rfl, rfl⟩
  go_wp2_with fail
  refine (turned_any e 11 (by omega) (by omega) _).mono ?_
  rintro _ _ ⟨rfl, rfl⟩
  go_wp2_with fail
  refine (turned_any e 25 (by omega) (by omega) _).mono ?_
  rintro _ _ ⟨rfl, rfl⟩
  go_wp2_with fail
  refine (turned_any a 2 (by omega) (by omega) _).mono ?_
  rintro _ _ ⟨rfl, rfl⟩
  go_wp2_with fail
  refine (turned_any a 13 (by omega) (by omega) _).mono ?_
  rintro _ _ ⟨rfl, rfl⟩
  go_wp2_with fail
  refine (turned_any a 22 (by omega) (by omega) _).mono ?_
  rintro _ _ ⟨rfl, rfl⟩
  go_wp2
  have z := heap_alloc2_new w (.cells #[vw a, vw b, vw c, vw d, vw e, vw f, vw g, vw h] 61) (.cells #[.int .u32 0, .int .u32 0, .int .u32 0, .int .u32 0, .int .u32 0, .int .u32 0, .int .u32 0, .int .u32 0] 61)
  have q : ∀ X Y : Value, vw (t1 ⟨a, b, c, d, e, f, g, h⟩ x + t2 ⟨a, b, c, d, e, f, g, h⟩) = X → vw (d + t1 ⟨a, b, c, d, e, f, g, h⟩ x) = Y → R = #[X, vw a, vw b, vw c, Y, vw e, vw f, vw g] := fun X Y hX hY => by rw [HR.out, hX, hY]
  refine bodyPost_ret (results_cell_row rfl _ _ (w.heap.size + 1) 61 R (0, 0) _ rfl ?_ Tryz.underlying61 rfl ?_) rfl ⟨rfl, ?_⟩
  · rw [q _ _ ?_ ?_]
    · exact row8 _ _ _ _ _ _ _ _ _ _ _ _ _ _ _ _ _ _ _ z
    · simp only [w_and, w_xor, w_not, t1, t2]
      exact congrArg _ (sum6 _ _ _ _ _ _).symm
    · simp only [w_and, w_xor, w_not, t1]
      exact congrArg _ (sum5 _ _ _ _ _).symm
  · rw [HR.out]; exact size_state
  · exact (((((((((((Below.refl _ w).alloc (Nat.le_refl _) _).alloc (by simp) _).drewN _).setCell (by simp) _).setCell (by simp) _).setCell (by simp) _).setCell (by simp) _).setCell (by simp) _).setCell (by simp) _).setCell (by simp) _).setCell (by simp) _
end Go.Proofs.YtomhcccjeadefaaGreatDoor
/- The words of a block. -/
namespace Go.Proofs.YtomhcccjeadefaaGreatDoor
open Go.RowKit
set_option linter.unusedVariables false
set_option maxRecDepth 20000
def cellsOf (l : List UInt8) : List Value := l.map fun c => .int .u8 (c.toNat : Int)
def bvs (l : List UInt8) : Array Value := (cellsOf l).toArray
def wvs (l : List W32) : Array Value := (l.map vw).toArray
theorem bvs_size (l : List UInt8) : (bvs l).size = l.length := by simp [bvs, cellsOf]
theorem wvs_size (l : List W32) : (wvs l).size = l.length := by simp [wvs]
theorem bvs_get (l : List UInt8) (i : Nat) (h : i < l.length) : (bvs l)[i]? = some (.int .u8 (l[i].toNat : Int)) := by simp [bvs, cellsOf, h]
theorem wvs_get (l : List W32) (i : Nat) (h : i < l.length) : (wvs l)[i]? = some (vw l[i]) := by simp [wvs, h]
theorem bvs_one (l : List UInt8) : (bvs l).all (·.oneCell') = true := by
  rw [Array.all_eq_true_iff_forall_mem]
  intro v hv
  simp only [bvs, cellsOf, List.mem_toArray, List.mem_map] at hv
  obtain ⟨c, _, rfl⟩ := hv
  rfl
theorem wvs_one (l : List W32) : (wvs l).all (·.oneCell') = true := by
  rw [Array.all_eq_true_iff_forall_mem]
  intro v hv
  simp only [wvs, List.mem_toArray, List.mem_map] at hv
  obtain ⟨c, _, rfl⟩ := hv
  rfl
theorem size_block : (Tryz.prog.info? 62).map (·.size) = some 64 := by kernel_rfl
theorem size_words : (Tryz.prog.info? 124).map (·.size) = some 64 := by kernel_rfl
theorem zero_words : (Tryz.prog.info? 124).map (fun i => (i.zero, i.size)) = some (some (.agg (wvs (List.replicate 64 0))), 64) := by kernel_rfl
theorem alloc3_2 (w : World) (A B C : Obj) : (((w.alloc A).alloc B).alloc C).heap[w.heap.size + 1 + 1]? = some C := by
  have h := heap_alloc2_new (w.alloc A) B C
  rwa [show (w.alloc A).heap.size = w.heap.size + 1 by simp] at h
theorem alloc3_1 (w : World) (A B C : Obj) : (((w.alloc A).alloc B).alloc C).heap[w.heap.size + 1]? = some B := by
  have h := heap_alloc2_old (w.alloc A) B C
  rwa [show (w.alloc A).heap.size = w.heap.size + 1 by simp] at h
theorem alloc3_0 (w : World) (A B C : Obj) : (((w.alloc A).alloc B).alloc C).heap[w.heap.size]? = some A :=
  ((Below.heap_alloc _ C _ (by simp; omega)).trans (heap_alloc2_old w A B))
theorem index_block (cs : Array Value) (k : Nat) (v : Value) (hk : k < 64) (hc : cs[k]? = some v) (w : World) : (Instr.index 62 (.agg cs) (.int .i64 (k : Int))).run Tryz.prog w = .ok v w := by
  have h1 : ¬ 64 ≤ k := by omega
  simp [Instr.index, Go.part, asIntOf, go_sem, hc, h1]
def wordsZ (bs : List UInt8) (k : Nat) : List W32 := wordsAt bs k ++ List.replicate 48 0
theorem wordsZ_length (bs : List UInt8) (k : Nat) : (wordsZ bs k).length = 64 := by simp [wordsZ, wordsAt_length]
theorem wordsZ_zero (bs : List UInt8) : wordsZ bs 0 = List.replicate 64 0 := by
  simp [wordsZ, wordsAt]
  rfl
theorem wordsZ_get (bs : List UInt8) (k j : Nat) (h : j < 16) : (wordsZ bs k)[j]? = some (wordAt bs k j) := by
  rw [wordsZ, List.getElem?_append_left (by rw [wordsAt_length]; exact h)]
  simp [wordsAt, h]
theorem packW_snoc (l : List UInt8) (c : UInt8) : packW (l ++ [c]) = packW l <<< 8 ||| BitVec.ofNat 32 c.toNat := by simp [packW]
theorem wordAt_same (bs : List UInt8) (k : Nat) (h : k < bs.length) : wordAt bs (k + 1) (k / 4) = wordAt bs k (k / 4) <<< 8 ||| BitVec.ofNat 32 bs[k].toNat := by
  unfold wordAt
  rw [← packW_snoc]
  congr 1
  rw [List.take_succ_eq_append_getElem h, List.drop_append_of_le_length (by simp; omega)]
  have e1 : (List.drop (4 * (k / 4)) (List.take k bs)).length ≤ 3 := by simp; omega
  generalize List.drop (4 * (k / 4)) (List.take k bs) = L at e1
  rw [List.take_of_length_le (l := L ++ [bs[k]]) (by simp only [List.length_append, List.length_singleton]; omega), List.take_of_length_le (l := L) (by omega)]
theorem wordAt_other (bs : List UInt8) (k j : Nat) (h : k < bs.length) (hj : j ≠ k / 4) : wordAt bs (k + 1) j = wordAt bs k j := by
  unfold wordAt
  congr 1
  rw [List.take_succ_eq_append_getElem h]
  by_cases hjk : j < k / 4
  · rw [List.drop_append_of_le_length (by simp; omega), List.take_append_of_le_length (by simp; omega)]
  · rw [List.drop_eq_nil_of_le (by simp; omega), List.drop_eq_nil_of_le (by simp; omega)]
theorem wordsZ_step (bs : List UInt8) (k : Nat) (h : k < bs.length) (h64 : k < 64) : (wordsZ bs k).set (k / 4) (wordAt bs k (k / 4) <<< 8 ||| BitVec.ofNat 32 bs[k].toNat) = wordsZ bs (k + 1) := by
  rw [← wordAt_same bs k h]
  apply List.ext_getElem?
  intro j
  by_cases h16 : j < 16
  · rw [wordsZ_get _ _ _ h16, List.getElem?_set, wordsZ_get _ _ _ h16]
    by_cases hj : k / 4 = j
    · subst hj
      simp [wordsZ_length]
      omega
    · rw [if_neg hj, wordAt_other bs k j h (fun e => hj e.symm)]
  · rw [List.getElem?_set, if_neg (by omega)]
    rw [wordsZ, wordsZ, List.getElem?_append_right (by rw [wordsAt_length]; omega), List.getElem?_append_right (by rw [wordsAt_length]; omega), wordsAt_length, wordsAt_length]
theorem wvs_set (l : List W32) (i : Nat) (x : W32) : (wvs l).setIfInBounds i (vw x) = wvs (l.set i x) := by
  simp [wvs]
theorem w_shor (a : W32) (c : UInt8) : bits .or .u32 (((a.toNat : Int) * 256) % 4294967296) ((c.toNat : Int) % 4294967296) = ((a <<< 8 ||| BitVec.ofNat 32 c.toNat).toNat : Int) := by
  have e : (c.toNat : Int) % 4294967296 = ((BitVec.ofNat 32 c.toNat).toNat : Int) := by
    rw [BitVec.toNat_ofNat]
    omega
  rw [show (256 : Int) = 2 ^ 8 by rfl, w_shlm, e, w_or]
theorem w_shr10 (x : W32) : (x.toNat : Int) / (1024 : Int) = ((x >>> 10).toNat : Int) := w_shr x 10
theorem w_shr3 (x : W32) : (x.toNat : Int) / (8 : Int) = ((x >>> 3).toNat : Int) := w_shr x 3
def extZ (bs : List UInt8) (k : Nat) : List W32 := ext (k - 16) (wordsAt bs 64) ++ List.replicate (64 - k) 0
theorem extZ_length (bs : List UInt8) (k : Nat) (h0 : 16 ≤ k) (h1 : k ≤ 64) : (extZ bs k).length = 64 := by simp [extZ, ext_length, wordsAt_length]; omega
theorem extZ_get (bs : List UInt8) (k j : Nat) (h0 : 16 ≤ k) (h : j < k) : (extZ bs k)[j]? = some ((ext (k - 16) (wordsAt bs 64)).getD j 0) := by
  have hl : (ext (k - 16) (wordsAt bs 64)).length = k := by rw [ext_length, wordsAt_length]; omega
  rw [extZ, List.getElem?_append_left (by omega), List.getElem?_eq_getElem (by omega)]
  simp [List.getD, hl, h]
theorem extZ_cell {bs : List UInt8} {w : World} {g k : Nat} (h0 : 16 ≤ k) (h1 : k < 64) (d : Nat) (hd : 0 < d) (hd2 : d ≤ 16) (hW : w.heap[g]? = some (.cells (wvs (extZ bs k)) 124 (0, 0))) :
    w.cell? ⟨g, k - d, none⟩ = some (vw ((ext (k - 16) (wordsAt bs 64)).getD (k - d) 0)) := by
  rw [cell_of_row _ _ _ _ _ _ hW, wvs, List.getElem?_toArray, List.getElem?_map, extZ_get bs k (k - d) h0 (by omega)]
  rfl
theorem extZ_step (bs : List UInt8) (k : Nat) (h0 : 16 ≤ k) (h1 : k < 64) : (extZ bs k).set k (nextW (ext (k - 16) (wordsAt bs 64))) = extZ bs (k + 1) := by
  have hl : (ext (k - 16) (wordsAt bs 64)).length = k := by rw [ext_length, wordsAt_length]; omega
  unfold extZ
  rw [show k + 1 - 16 = (k - 16) + 1 by omega, ext, show 64 - k = (64 - (k + 1)) + 1 by omega, List.replicate_succ, List.set_append_right _ _ (by omega), hl, Nat.sub_self, List.set_cons_zero, List.append_assoc]
  rfl
theorem extZ_zero (bs : List UInt8) (k : Nat) (h0 : 16 ≤ k) (h1 : k < 64) : (extZ bs k)[k]? = some 0 := by
  have hl : (ext (k - 16) (wordsAt bs 64)).length = k := by rw [ext_length, wordsAt_length]; omega
  rw [extZ, List.getElem?_append_right (by omega), hl, Nat.sub_self, show 64 - k = (64 - (k + 1)) + 1 by omega]
  rfl
theorem extZ_all (bs : List UInt8) : extZ bs 64 = sched bs := by simp [extZ, sched]
set_option maxHeartbeats 2000000 in
theorem spread_any (bs : List UInt8) (hb : bs.length = 64) (w : World) :
    Calls Tryz.prog 60 #[.agg (bvs bs)] w fun e w' => e = .returned (.agg (wvs (sched bs))) ∧ Below w.heap.size w w' := by
  have hsz := bvs_size bs
  rw [hb] at hsz
  have Hsz := hid hsz
  clear hsz
  have sb : (Tryz.prog.info? 62).map (·.size) = some (bvs bs).size := by rw [Hsz.out]; exact size_block
  have Sb := hid sb
  clear sb
  go_enter Tryz.func60, Tryz.ntmps60
  go_wp2_with (refine wpList_load_row rfl 62 _ rfl w.heap.size rfl _ _ _ _ (alloc3_0 _ _ _ _) Tryz.underlying62 rfl Sb.out ?_)
  have A1 : wvs (List.replicate 64 0) = wvs (wordsZ bs 0) := by rw [wordsZ_zero]
  go_loopw [12] (fun i wr => ∃ k : Nat, k ≤ 64 ∧ i = .int .i64 k ∧ wr.heap[w.heap.size + 1 + 1]? = some (.cells (wvs (wordsZ bs k)) 124 (0, 0)) ∧ wr.heap[w.heap.size + 1]? = some (.cells (wvs (List.replicate 64 0)) 124 (0, 0)) ∧ Below w.heap.size w wr) (fun i _ => 64 - (intOf i).toNat)
  case atStart =>
    refine ⟨0, Nat.zero_le _, rfl, ?_, alloc3_1 _ _ _ _, (((Below.refl _ w).alloc (Nat.le_refl _) _).alloc (by simp) _).alloc (by simp; omega) _⟩
    rw [← A1]
    exact alloc3_2 _ _ _ _
  case round =>
    obtain ⟨k, hk, rfl, hW, hZ, hbel⟩ := hrel
    have HZ := hid hZ
    have HW := hid hW
    have Hbel := hid hbel
    clear hZ hbel
    by_cases hlt : k < 64
    · have b1 := bvs_get bs k (by omega)
      have c1 := (cell_of_row _ _ (k / 4) _ _ _ hW).trans (wvs_get _ (k / 4) (by rw [wordsZ_length]; omega))
      have e1 : (wordsZ bs k)[k / 4]'(by rw [wordsZ_length]; omega) = wordAt bs k (k / 4) := Option.some.inj ((List.getElem?_eq_getElem _).symm.trans (wordsZ_get bs k (k / 4) (by omega)))
      rw [e1] at c1
      have f1 := frozen_of_row _ _ (k / 4) _ _ hW
      have i1 := index_block (bvs bs) k _ hlt b1
      have q1 : ((k : Int).tdiv 4) = ((k / 4 : Nat) : Int) := by rw [Int.tdiv_eq_ediv_of_nonneg (by omega)]; omega
      have q2 : (k / 4) < 64 := by omega
      clear hW e1
      go_wp2
      go_roundw
      case rel =>
        rw [w_shor]
        refine ⟨k + 1, by omega, by go_num, ?_, (heap_setCell_other _ _ _ _ (by simp)).trans HZ.out, Hbel.out.setCell (by simp; omega) _⟩
        rw [heap_setCell_same _ _ _ _ _ _ HW.out, wvs_set, wordsZ_step bs k (by omega) hlt]
      case measure => simp [intOf]; omega
    · have hk64 : k = 64 := by omega
      have H64 : Hid (wr.heap[w.heap.size + 1 + 1]? = some (.cells (wvs (wordsZ bs 64)) 124 (0, 0))) := by
        have h := HW.out
        rw [hk64] at h
        exact h
      clear hW HW hk hk64
      go_wp2_with fail
      go_loopw [6] (fun i wr => ∃ k : Nat, 16 ≤ k ∧ k ≤ 64 ∧ i = .int .i64 k ∧ wr.heap[w.heap.size + 1 + 1]? = some (.cells (wvs (extZ bs k)) 124 (0, 0)) ∧ wr.heap[w.heap.size + 1]? = some (.cells (wvs (List.replicate 64 0)) 124 (0, 0)) ∧ Below w.heap.size w wr) (fun i _ => 64 - (intOf i).toNat)
      case atStart =>
        refine ⟨16, Nat.le_refl _, by omega, rfl, H64.out, HZ.out, Hbel.out⟩
      case round =>
        clear H64 HZ Hbel hlt
        obtain ⟨k, hk0, hk, rfl, hW, hZ, hbel⟩ := hrel
        have HZ := hid hZ
        have HW := hid hW
        have Hbel := hid hbel
        clear hZ hbel
        by_cases hlt : k < 64
        · have c1 := extZ_cell hk0 hlt 2 (by omega) (by omega) hW
          have c2 := extZ_cell hk0 hlt 15 (by omega) (by omega) hW
          have q1 : (k : Int) - 2 = ((k - 2 : Nat) : Int) := by omega
          have q2 : (k : Int) - 15 = ((k - 15 : Nat) : Int) := by omega
          have q3 : k - 2 < 64 := by omega
          have q4 : k - 15 < 64 := by omega
          generalize hx : (ext (k - 16) (wordsAt bs 64)).getD (k - 2) 0 = x at c1
          generalize hy : (ext (k - 16) (wordsAt bs 64)).getD (k - 15) 0 = y at c2
          clear hW
          go_wp2_with fail
          go_quiet (fail)
          go_wp2_with fail
          refine (turned_any x 17 (by omega) (by omega) _).mono ?_
          rintro _ _ ⟨rfl, rfl⟩
          go_wp2_with fail
          refine (turned_any x 19 (by omega) (by omega) _).mono ?_
          rintro _ _ ⟨rfl, rfl⟩
          go_wp2_with fail
          refine (turned_any y 7 (by omega) (by omega) _).mono ?_
          rintro _ _ ⟨rfl, rfl⟩
          go_wp2_with fail
          refine (turned_any y 18 (by omega) (by omega) _).mono ?_
          rintro _ _ ⟨rfl, rfl⟩
          have c3 := extZ_cell hk0 hlt 7 (by omega) (by omega) HW.out
          have c4 := extZ_cell hk0 hlt 16 (by omega) (by omega) HW.out
          have c5 : wr.cell? ⟨w.heap.size + 1 + 1, k, none⟩ = some (vw 0) := by
            rw [cell_of_row _ _ _ _ _ _ HW.out, wvs, List.getElem?_toArray, List.getElem?_map, extZ_zero bs k hk0 hlt]
            rfl
          have f5 := frozen_of_row _ _ k _ _ HW.out
          have q7 : k - 7 < 64 := by omega
          have q8 : k - 16 < 64 := by omega
          have r7a : IntKind.i64.wrap ((k : Int) - 7) = ((k - 7 : Nat) : Int) := by rw [IntKind.wrap_i64]; omega
          have r7b : (0 : Int) ≤ ((k - 7 : Nat) : Int) := by omega
          have r7c : ((k - 7 : Nat) : Int) < 64 := by omega
          have r16a : IntKind.i64.wrap ((k : Int) - 16) = ((k - 16 : Nat) : Int) := by rw [IntKind.wrap_i64]; omega
          have r16b : (0 : Int) ≤ ((k - 16 : Nat) : Int) := by omega
          have r16c : ((k - 16 : Nat) : Int) < 64 := by omega
          have r0b : (0 : Int) ≤ (k : Int) := by omega
          have r0c : (k : Int) < 64 := by omega
          generalize hz : (ext (k - 16) (wordsAt bs 64)).getD (k - 7) 0 = z at c3
          generalize hu : (ext (k - 16) (wordsAt bs 64)).getD (k - 16) 0 = u at c4
          clear c1 c2 q1 q2 q3 q4
          go_wp2_with fail
          go_region_held3 (fun w9 => w9.cell? ⟨w.heap.size + 1 + 1, k - 7, none⟩ = some (vw z) ∧ w9.cell? ⟨w.heap.size + 1 + 1, k - 16, none⟩ = some (vw u)) (first | exact ⟨c3, c4⟩ | exact ⟨(World.cell?_setCell_other _ _ _ _ (by intro h; simp only [Addr.mk.injEq] at h; omega)).trans c3, (World.cell?_setCell_other _ _ _ _ (by intro h; simp only [Addr.mk.injEq] at h; omega)).trans c4⟩) (fail)
          go_wp2
          go_roundw
          case rel =>
            refine ⟨k + 1, by omega, by omega, by go_num, ?_, (heap_setCell_other _ _ _ _ (by simp)).trans HZ.out, (Hbel.out.drewN _).setCell (by simp; omega) _⟩
            have e : nextW (ext (k - 16) (wordsAt bs 64)) = nearMix x + z + farMix y + u := by
              have hl : (ext (k - 16) (wordsAt bs 64)).length = k := by rw [ext_length, wordsAt_length]; omega
              rw [nextW, hl, hx, hy, hz, hu]
            rw [heap_setCell_same _ _ _ _ _ _ (show (wr.drewN _).heap[w.heap.size + 1 + 1]? = _ from HW.out), ← extZ_step bs k hk0 hlt, ← wvs_set, e]
            congr 4
            simp only [w_shr10, w_shr3, w_xor, w_addm, nearMix, farMix]
          case measure => simp [intOf]; omega
        · obtain rfl : k = 64 := by omega
          have s64 : (Tryz.prog.info? 124).map (·.size) = some (wvs (extZ bs 64)).size := by rw [wvs_size, extZ_length bs 64 (by omega) (by omega)]; exact size_words
          have S64 := hid s64
          have o64 : Hid ((wvs (List.replicate 64 0)).size = (wvs (extZ bs 64)).size) := by
            show _ = _
            rw [wvs_size, wvs_size, extZ_length bs 64 (by omega) (by omega)]; simp
          clear s64
          go_wp2_with (first | refine wpList_load_row rfl 124 _ rfl (w.heap.size + 1 + 1) rfl _ _ _ _ HW.out Tryz.underlying124 rfl S64.out ?_ | refine wpList_store_row rfl 124 _ _ rfl (w.heap.size + 1) _ rfl rfl _ _ HZ.out S64.out o64.out (wvs_one _) ?_)
          refine bodyPost_ret (results_cell_row rfl _ _ (w.heap.size + 1) 124 (wvs (extZ bs 64)) (0, 0) _ rfl (setRow_heap _ _ _ _ _ _ HZ.out) Tryz.underlying124 rfl S64.out) rfl ⟨by rw [extZ_all], ?_⟩
          exact Hbel.out.setRow (by omega) _
end Go.Proofs.YtomhcccjeadefaaGreatDoor
