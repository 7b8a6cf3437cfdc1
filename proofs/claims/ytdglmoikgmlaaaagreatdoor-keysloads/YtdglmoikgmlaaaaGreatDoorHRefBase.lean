/- YtdglmoikgmlaaaaGreatDoorHRef + YtdglmoikgmlaaaaGreatDoorHYields + YtdglmoikgmlaaaaGreatDoorHRefBase -/
import Derived.Test.YtdglmoikgmlaaaaGreatDoorHDerive
import Derived.Deep.QuietTactic
import Derived.BigQuiet
import Derived.BigRegion
/- The reference's words: turn, constants. -/
namespace Go.Proofs.YtdglmoikgmlaaaaGreatDoor
open Go.RowKit
set_option linter.unusedVariables false
set_option maxRecDepth 100000
set_option maxHeartbeats 1000000 in
theorem turn_any (x : W32) (n : Nat) (h0 : 0 < n) (h1 : n < 32) (w : World) :
    Calls Tryz.prog 110 #[vw x, .int .i64 (n : Int)] w fun e w' => e = .returned (vw (rotr x n)) ∧ w' = w.drew := by
  have f1 : (0 : Int) ≤ (n : Int) := by omega
  have f2 : (n : Int) ≤ 32 := by omega
  have f3 : IntKind.i64.wrap (32 - (n : Int)) = ((32 - n : Nat) : Int) := by rw [IntKind.wrap_i64]; omega
  have f3' : (32 : Int) - (n : Int) = ((32 - n : Nat) : Int) := by omega
  have f4 : (0 : Int) ≤ ((32 - n : Nat) : Int) := by omega
  have f5 : ((32 - n : Nat) : Int) ≤ 32 := by omega
  go_enter Tryz.func110, Tryz.ntmps110
  go_wp2_with fail
  go_region
  go_wp2
  go_ret
  refine ⟨ret_int ?_, rfl⟩
  rw [w_shlm, w_shr, w_or, BitVec.or_comm]
  rfl
theorem hf_turn : ∀ (args : Array Value) (w : World), (callFunc 110 args).run Tryz.prog w = .ok (.enter 110 args) w := fun args w => by simp [go_sem]
theorem wp_store_word {o : Oper} {a : Act} {w : World} {K : Act → World → Prop} {Q : Exit → Act → World → Prop} (x y : Operand) (ho : o.op = .store 127 x y) (g i : Nat) (v : W32) (u : Value) (hx : a.eval x = .pointer (some ⟨g, i, none⟩)) (hy : a.eval y = vw v)
    (hc : w.cell? ⟨g, i, none⟩ = some u) (hf : w.frozen? ⟨g, i, none⟩ = false) (h : K (a.put o.dst undef) (w.setCell ⟨g, i, none⟩ (vw v))) : o.wp Tryz.prog a w K Q := by
  unfold Oper.wp execOp
  simp only [ho, hx, hy]
  simp [go_sem, hc, hf]
  exact h
theorem Tryz.info127 : (Tryz.prog.info? 127).map (fun i => (i.zero, i.size, i.bytes)) = some (some (.int .u32 0), 1, 4) := by kernel_rfl
theorem app_words (w : World) {ops : Array Oper} {rest : List Oper} {o : Oper} {a : Act} {Q : Exit → Act → World → Prop} (hgd : o.guard = none) (s x : Operand)
    (ho : o.op = .call { callee := .builtin .append, args := #[s, x], argTypes := #[152, 152] }) (base : Nat) (v : Value) (xs : List W32) (hs : a.eval s = v)
    (hown : w.ownsRow base 127 1 v xs.length (xs.map vw)) (ad : Addr) (m c : Nat) (news : List W32) (hm : news.length = m) (hx : a.eval x = .slice (some ad) m c)
    (hnews : ∀ j (h : j < news.length), w.cell? (ad.add j) = some (vw news[j])) (hb : xs.length + m ≤ 17592186044416) (hbase : base ≤ w.heap.size)
    (h : ∀ v' w', w'.ownsRow base 127 1 v' (xs ++ news).length ((xs ++ news).map vw) → Below base w w' → wpList Tryz.prog ops Q rest (a.put o.dst v') w') :
    wpList Tryz.prog ops Q (o :: rest) a w := by
  obtain ⟨i0, hi, hz0, hz1, hz2⟩ := info_parts Tryz.info127
  subst hm
  refine wpList_append_own w hgd s x 152 ho base 127 i0 (.int .u32 0) 1 4 Tryz.underlying152 hi hz0 hz1 hz2 rfl (by decide) v xs.length (xs.map vw) hs hown ad news.length c (news.map vw) hx (by simp) (fun j u hj => ?_) (fun u hu => ?_) (by unfold maxLen; omega) (by omega) hbase ?_
  · have hj' : j < news.length := by
      have := (List.getElem?_eq_some_iff.1 hj).1
      simpa using this
    rw [hnews j hj', ← hj]
    simp [hj']
  · obtain ⟨y, _, rfl⟩ := List.mem_map.1 hu
    rfl
  · intro v' w' h1 h2 h3
    rw [← List.map_append, ← List.length_append] at h1
    exact h v' w' h1 ((Below.refl _ _).grown h2 hbase (fun k hk => (hown.lt k hk).1))
def kcells : Array Value := #[.int .u32 1116352408, .int .u32 1899447441, .int .u32 3049323471, .int .u32 3921009573, .int .u32 961987163, .int .u32 1508970993, .int .u32 2453635748, .int .u32 2870763221, .int .u32 3624381080, .int .u32 310598401, .int .u32 607225278, .int .u32 1426881987, .int .u32 1925078388, .int .u32 2162078206, .int .u32 2614888103, .int .u32 3248222580, .int .u32 3835390401, .int .u32 4022224774, .int .u32 264347078, .int .u32 604807628, .int .u32 770255983, .int .u32 1249150122, .int .u32 1555081692, .int .u32 1996064986, .int .u32 2554220882, .int .u32 2821834349, .int .u32 2952996808, .int .u32 3210313671, .int .u32 3336571891, .int .u32 3584528711, .int .u32 113926993, .int .u32 338241895, .int .u32 666307205, .int .u32 773529912, .int .u32 1294757372, .int .u32 1396182291, .int .u32 1695183700, .int .u32 1986661051, .int .u32 2177026350, .int .u32 2456956037, .int .u32 2730485921, .int .u32 2820302411, .int .u32 3259730800, .int .u32 3345764771, .int .u32 3516065817, .int .u32 3600352804, .int .u32 4094571909, .int .u32 275423344, .int .u32 430227734, .int .u32 506948616, .int .u32 659060556, .int .u32 883997877, .int .u32 958139571, .int .u32 1322822218, .int .u32 1537002063, .int .u32 1747873779, .int .u32 1955562222, .int .u32 2024104815, .int .u32 2227730452, .int .u32 2361852424, .int .u32 2428436474, .int .u32 2756734187, .int .u32 3204031479, .int .u32 3329325298]
theorem kcells_eq : kcells = (KL.map vw).toArray := by kernel_rfl
set_option maxHeartbeats 1000000 in
theorem constants_any (w : World) :
    Calls Tryz.prog 109 #[] w fun e w' => e = .returned (.slice (some ⟨w.heap.size, 0, none⟩) 64 64) ∧ w' = w.alloc (.cells kcells 127) := by
  go_enter Tryz.func109, Tryz.ntmps109
  go_wp2
  go_ret
  exact ⟨rfl, rfl⟩
end Go.Proofs.YtdglmoikgmlaaaaGreatDoor
/- Operations on words that yield without a walk: for regions that are gone through by hand. -/
namespace Go.Proofs.YtdglmoikgmlaaaaGreatDoor
open Go.RowKit
set_option linter.unusedVariables false
set_option maxRecDepth 20000
section
variable {ops : Array Oper} {S : World → Prop} {op : Oper} {a : Act}
theorem yh_assign (hw : Region.wanted op (yielded ops a.tmps) = true) (x : Operand) (ho : op.op = .assign x) (v : Value) (hx : a.eval x = v) : YieldsIf Tryz.prog ops S op v a := by
  refine .inl ⟨hw, fun w _ => ?_⟩
  unfold execOp
  simp only [ho, hx]
  simp [go_sem]
theorem y_index (hw : Region.wanted op (yielded ops a.tmps) = true) (x y : Operand) (ho : op.op = .indexAddr 152 x y) (g n c k : Nat) (hx : a.eval x = .slice (some ⟨g, 0, none⟩) n c) (hy : a.eval y = .int .i64 (k : Int)) (hk : k < n) : YieldsIf Tryz.prog ops S op (.pointer (some ⟨g, k, none⟩)) a := by
  refine .inl ⟨hw, fun w _ => ?_⟩
  have h1 : (k : Int) < (n : Int) := by omega
  have h0 : (0 : Int) ≤ (k : Int) := by omega
  unfold execOp
  simp only [ho, hx, hy]
  simp [go_sem, h0, h1]
theorem y_load (hw : Region.wanted op (yielded ops a.tmps) = true) (x : Operand) (ho : op.op = .load 127 x) (g k : Nat) (v : W32) (hx : a.eval x = .pointer (some ⟨g, k, none⟩)) (hS : ∀ w, S w → w.cell? ⟨g, k, none⟩ = some (vw v)) : YieldsIf Tryz.prog ops S op (vw v) a := by
  refine .inl ⟨hw, fun w hw' => ?_⟩
  have h1 := hS w hw'
  unfold execOp
  simp only [ho, hx]
  simp [go_sem, h1]
theorem y_xor (hw : Region.wanted op (yielded ops a.tmps) = true) (x y : Operand) (ho : op.op = .binOp .xor 127 x y 127) (p q : W32) (hx : a.eval x = vw p) (hy : a.eval y = vw q) : YieldsIf Tryz.prog ops S op (vw (p ^^^ q)) a := by
  refine .inl ⟨hw, fun w _ => ?_⟩
  have h1 := w_xor p q
  unfold execOp
  simp only [ho, hx, hy]
  simp [go_sem, h1]
theorem y_and (hw : Region.wanted op (yielded ops a.tmps) = true) (x y : Operand) (ho : op.op = .binOp .and 127 x y 127) (p q : W32) (hx : a.eval x = vw p) (hy : a.eval y = vw q) : YieldsIf Tryz.prog ops S op (vw (p &&& q)) a := by
  refine .inl ⟨hw, fun w _ => ?_⟩
  have h1 := w_and p q
  unfold execOp
  simp only [ho, hx, hy]
  simp [go_sem, h1]
theorem y_not (hw : Region.wanted op (yielded ops a.tmps) = true) (x : Operand) (ho : op.op = .unOp .xor 127 x) (p : W32) (hx : a.eval x = vw p) : YieldsIf Tryz.prog ops S op (vw (~~~p)) a := by
  refine .inl ⟨hw, fun w _ => ?_⟩
  have h1 := w_not p
  have sg : IntKind.u32.signed = false := rfl
  obtain ⟨r, hr⟩ : ∃ r, r = ~~~p := ⟨_, rfl⟩
  rw [← hr] at h1 ⊢
  unfold execOp
  simp only [ho, hx]
  simp [go_sem, sg, h1]
theorem y_add (hw : Region.wanted op (yielded ops a.tmps) = true) (x y : Operand) (ho : op.op = .binOp .add 127 x y 127) (p q : W32) (hx : a.eval x = vw p) (hy : a.eval y = vw q) : YieldsIf Tryz.prog ops S op (vw (p + q)) a := by
  refine .inl ⟨hw, fun w _ => ?_⟩
  have h1 := w_add p q
  obtain ⟨r, hr⟩ : ∃ r, r = p + q := ⟨_, rfl⟩
  rw [← hr] at h1 ⊢
  clear hr
  unfold execOp
  simp only [ho, hx, hy]
  simp [go_sem, h1]
end
theorem wp_build8 {o : Oper} {a : Act} {w : World} {K : Act → World → Prop} {Q : Exit → Act → World → Prop} (t0 t1 t2 t3 t4 t5 t6 t7 : Operand) (ho : o.op = .buildSlice 152 8 #[(0, t0), (1, t1), (2, t2), (3, t3), (4, t4), (5, t5), (6, t6), (7, t7)]) (v0 v1 v2 v3 v4 v5 v6 v7 : W32) (h0 : a.eval t0 = vw v0) (h1 : a.eval t1 = vw v1) (h2 : a.eval t2 = vw v2) (h3 : a.eval t3 = vw v3) (h4 : a.eval t4 = vw v4) (h5 : a.eval t5 = vw v5) (h6 : a.eval t6 = vw v6) (h7 : a.eval t7 = vw v7)
    (h : K (a.put o.dst (.slice (some ⟨w.heap.size, 0, none⟩) 8 8)) (w.alloc (.cells #[vw v0, vw v1, vw v2, vw v3, vw v4, vw v5, vw v6, vw v7] 127))) : o.wp Tryz.prog a w K Q := by
  unfold Oper.wp execOp
  simp only [ho, List.map_toArray, List.map_cons, List.map_nil, h0, h1, h2, h3, h4, h5, h6, h7]
  simp [go_sem]
  exact h
end Go.Proofs.YtdglmoikgmlaaaaGreatDoor
/- What the walk of the reference's Sum leans on. -/
namespace Go.Proofs.YtdglmoikgmlaaaaGreatDoor
open Go.RowKit
set_option linter.unusedVariables false
set_option maxRecDepth 100000
def zpad (l : List UInt8) (k : Nat) : List UInt8 := l ++ 128 :: List.replicate k 0
theorem zpad_length (l : List UInt8) (k : Nat) : (zpad l k).length = l.length + 1 + k := by simp [zpad]; omega
theorem zpad_step (l : List UInt8) (k : Nat) : zpad l k ++ [0] = zpad l (k + 1) := by
  simp [zpad, List.replicate_succ', List.append_assoc]
def mAt (l : List UInt8) (k : Nat) : List UInt8 := zpad l (noughts l.length) ++ (be8 (l.length * 8)).take k
theorem mAt_all (l : List UInt8) : mAt l 8 = l ++ pad l.length := by
  unfold mAt zpad pad
  rw [List.take_of_length_le (by rw [be8_length]; omega), List.append_assoc, List.cons_append]
theorem mAt_step (l : List UInt8) (k : Nat) (h : k < 8) : mAt l k ++ [UInt8.ofNat (l.length * 8 / 2 ^ (56 - 8 * k))] = mAt l (k + 1) := by
  unfold mAt
  rw [List.take_succ_eq_append_getElem (by rw [be8_length]; exact h), be8_get _ _ h, List.append_assoc]
theorem mAt_length (l : List UInt8) (k : Nat) : (mAt l k).length ≤ l.length + 73 := by
  have h1 : ((be8 (l.length * 8)).take k).length ≤ 8 := by rw [List.length_take, be8_length]; omega
  have h2 : noughts l.length < 64 := by unfold noughts; omega
  unfold mAt
  rw [List.length_append, zpad_length]
  omega
structure BL (N gm : Nat) (cur : Array Value) (V wr : World) (s : S8) : Prop where
  h : wr.heap[N + 1]? = some (.cells s.vals 127 (0, 0))
  k : wr.heap[N + 1 + 1]? = some (.cells kcells 127 (0, 0))
  m : wr.heap[gm]? = some (.cells cur 5 (0, 0))
  bel : Below (N + 1) V wr
theorem BL.below {N gm : Nat} {cur : Array Value} {V wr wr' : World} {s : S8} (h : BL N gm cur V wr s) (hb : Below wr.heap.size wr wr') : BL N gm cur V wr' s :=
  ⟨(hb.block _ (heap_lt h.h)).trans h.h, (hb.block _ (heap_lt h.k)).trans h.k, (hb.block _ (heap_lt h.m)).trans h.m, h.bel.trans (hb.mono (Nat.le_of_lt (heap_lt h.h)))⟩
theorem BL.alloc {N gm : Nat} {cur : Array Value} {V wr : World} {s : S8} (h : BL N gm cur V wr s) (o : Obj) : BL N gm cur V (wr.alloc o) s := h.below ((Below.refl _ _).alloc (Nat.le_refl _) _)
theorem BL.other {N gm : Nat} {cur : Array Value} {V wr wr' : World} {s : S8} (h : BL N gm cur V wr s) (g : Nat) (h1 : g ≠ N + 1) (h2 : g ≠ N + 1 + 1) (h3 : g ≠ gm) (h4 : N + 1 ≤ g) (hb : ∀ k, k ≠ g → wr'.heap[k]? = wr.heap[k]?) (hbel : Below (N + 1) wr wr') : BL N gm cur V wr' s :=
  ⟨(hb _ (Ne.symm h1)).trans h.h, (hb _ (Ne.symm h2)).trans h.k, (hb _ (Ne.symm h3)).trans h.m, h.bel.trans hbel⟩
theorem made_words (n : Nat) : madeCells (Value.int .u32 0).cells n = wvs (List.replicate n 0) := by
  have h : (madeCells (Value.int .u32 0).cells n).toList = (wvs (List.replicate n 0)).toList := by
    have : (Value.int .u32 0).cells = #[.int .u32 0] := rfl
    rw [this, toList_madeCells_one]
    simp [wvs]
  exact Array.toList_inj.1 h
theorem extZ_cell' {bs : List UInt8} {w : World} {g k : Nat} {t : TypeId} (h0 : 16 ≤ k) (h1 : k < 64) (d : Nat) (hd : 0 < d) (hd2 : d ≤ 16) (hW : w.heap[g]? = some (.cells (wvs (extZ bs k)) t (0, 0))) :
    w.cell? ⟨g, k - d, none⟩ = some (vw ((ext (k - 16) (wordsAt bs 64)).getD (k - d) 0)) := by
  rw [cell_of_row _ _ _ _ _ _ hW, wvs, List.getElem?_toArray, List.getElem?_map, extZ_get bs k (k - d) h0 (by omega)]
  rfl
theorem nextW_at (bs : List UInt8) (k : Nat) (h0 : 16 ≤ k) (h1 : k < 64) : nextW (ext (k - 16) (wordsAt bs 64)) = nearMix ((ext (k - 16) (wordsAt bs 64)).getD (k - 2) 0) + (ext (k - 16) (wordsAt bs 64)).getD (k - 7) 0 + farMix ((ext (k - 16) (wordsAt bs 64)).getD (k - 15) 0) + (ext (k - 16) (wordsAt bs 64)).getD (k - 16) 0 := by
  have hl : (ext (k - 16) (wordsAt bs 64)).length = k := by rw [ext_length, wordsAt_length]; omega
  unfold nextW
  rw [hl]
def VW (w : World) (g : Nat) (s : S8) : Prop := ∀ q (h : q < 8), w.cell? ⟨g, q, none⟩ = some (vw (s.toL[q]'h))
theorem VW.below {w w' : World} {g : Nat} {s : S8} (h : VW w g s) (hb : Below w.heap.size w w') : VW w' g s := fun q hq => (hb.cell (World.block_lt_of_cell? _ _ (h q hq))).trans (h q hq)
theorem vrow_of {w : World} {B : Nat} {v : Value} {s : S8} (h : w.ownsRow B 127 1 v ([] ++ s.toL).length (([] ++ s.toL).map vw)) : ∃ g cap, v = .slice (some ⟨g, 0, none⟩) 8 cap ∧ B ≤ g ∧ VW w g s := by
  rcases h.2 with ⟨_, h0⟩ | ⟨g, cap, cur, hv, hb, hg, hc, hm, hs, ht⟩
  · have : (8 : Nat) = 0 := h0
    omega
  · refine ⟨g, cap, hv, hb, fun q hq => ?_⟩
    rw [cell_of_row _ _ _ _ _ _ hg]
    have h3 := congrArg (fun l : List Value => l[q]?) ht
    have hq' : q < ([] ++ s.toL).length * 1 := hq
    simp only [List.getElem?_take_of_lt hq'] at h3
    rw [← Array.getElem?_toList, h3, List.nil_append, List.getElem?_map, List.getElem?_eq_getElem (by exact hq)]
    rfl
theorem rd_at (a b c d e f g h kk ww : W32) : rd ⟨a, b, c, d, e, f, g, h⟩ (ww + kk) = ⟨h + (rotr e 6 ^^^ rotr e 11 ^^^ rotr e 25) + (e &&& f ^^^ ~~~e &&& g) + kk + ww + (rotr a 2 ^^^ rotr a 13 ^^^ rotr a 22) + (a &&& b ^^^ a &&& c ^^^ b &&& c), a, b, c, d + (h + (rotr e 6 ^^^ rotr e 11 ^^^ rotr e 25) + (e &&& f ^^^ ~~~e &&& g) + kk + ww), e, f, g⟩ := by
  unfold rd t1 t2
  simp only
  generalize rotr e 6 ^^^ rotr e 11 ^^^ rotr e 25 = s1
  generalize e &&& f ^^^ ~~~e &&& g = ch
  generalize rotr a 2 ^^^ rotr a 13 ^^^ rotr a 22 = s0
  generalize a &&& b ^^^ a &&& c ^^^ b &&& c = mj
  have e1 : h + s1 + ch + (ww + kk) = h + s1 + ch + kk + ww := by ac_rfl
  rw [e1]
  have e2 : h + s1 + ch + kk + ww + (s0 + mj) = h + s1 + ch + kk + ww + s0 + mj := by ac_rfl
  rw [e2]
theorem eq_yields {ops : Array Oper} {S : World → Prop} {op : Oper} {a : Act} {p q : W32} (h : p = q) (hy : YieldsIf Tryz.prog ops S op (vw p) a) : YieldsIf Tryz.prog ops S op (vw q) a := h ▸ hy
theorem vw_alloc {wr : World} {gv gk gw r : Nat} {s : S8} {kk ww : W32} (h : VW wr gv s ∧ wr.cell? ⟨gk, r, none⟩ = some (vw kk) ∧ wr.cell? ⟨gw, r, none⟩ = some (vw ww)) (o : Obj) : VW (wr.alloc o) gv s ∧ (wr.alloc o).cell? ⟨gk, r, none⟩ = some (vw kk) ∧ (wr.alloc o).cell? ⟨gw, r, none⟩ = some (vw ww) := by
  have hb : Below wr.heap.size wr (wr.alloc o) := (Below.refl _ _).alloc (Nat.le_refl _) o
  exact ⟨h.1.below hb, (hb.cell (World.block_lt_of_cell? _ _ h.2.1)).trans h.2.1, (hb.cell (World.block_lt_of_cell? _ _ h.2.2)).trans h.2.2⟩
end Go.Proofs.YtdglmoikgmlaaaaGreatDoor
