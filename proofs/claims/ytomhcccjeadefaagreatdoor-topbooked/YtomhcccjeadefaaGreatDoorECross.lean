/- A text crossed with the stream: seal.crossed. -/
import Derived.Test.YtomhcccjeadefaaGreatDoorECell
namespace Go.Proofs.YtomhcccjeadefaaGreatDoor
open Go.RowKit Go.Shelf
set_option linter.unusedVariables false
set_option maxRecDepth 20000
attribute [local go_sem] Oper.semAt_some
theorem own_made (w : World) (n : Nat) (hn : n ≤ 1000000) : (w.alloc (.cells (madeCells (Value.int .u8 0).cells n) 5)).ownsRow w.heap.size 5 1 (.slice (some ⟨w.heap.size, 0, none⟩) 0 n) 0 (cellsOf []) :=
  ⟨rfl, .inr ⟨w.heap.size, n, _, rfl, Nat.le_refl _, heap_alloc_new w _, by omega, by unfold maxLen; omega, by simp [size_madeCells], by simp [cellsOf]⟩⟩
theorem loadIn_hash {ro : Option Nat} {n : Nat} {ops : Array Oper} {rest : List Oper} {o : Oper} {a : Act} {w : World} {Q : Exit → Act → World → Prop} (hgd : o.guard = none) (x : Operand) (ho : o.op = .load 27 x) (g : Nat) (hx : a.eval x = .pointer (some ⟨g, 0, none⟩)) {O : Array Value} {l : List UInt8} (hO : HV O l) (hg : w.heap[g]? = some (.cells O 27 (0, 0)))
    (h : wpListIn (WideAt ro) n Tryz.prog ops Q rest (a.put o.dst (.agg O)) w) : wpListIn (WideAt ro) n Tryz.prog ops Q (o :: rest) a w :=
  stepIn_of (fun a' w' => a' = a.put o.dst (.agg O) ∧ w' = w) (fun c e => by rw [ho] at e; cases e) (wpList_load_row hgd 27 x ho g hx 27 O (0, 0) _ hg Tryz.underlying27 rfl hO.info (wpList_nil ⟨rfl, rfl, rfl⟩)) (by rintro _ _ ⟨rfl, rfl⟩; exact h)
theorem allocIn_hash {ro : Option Nat} {n : Nat} {ops : Array Oper} {rest : List Oper} {o : Oper} {a : Act} {w : World} {Q : Exit → Act → World → Prop} (hgd : o.guard = none) (ho : o.op = .alloc 27) (Z : Array Value) (hz : ∀ w, (zeroValue 27).run Tryz.prog w = .ok (.agg Z) w)
    (h : wpListIn (WideAt ro) n Tryz.prog ops Q rest (a.put o.dst (.pointer (some ⟨w.heap.size, 0, none⟩))) (w.alloc (.cells Z 27))) : wpListIn (WideAt ro) n Tryz.prog ops Q (o :: rest) a w :=
  stepIn_of (fun a' w' => a' = a.put o.dst (.pointer (some ⟨w.heap.size, 0, none⟩)) ∧ w' = w.alloc (.cells Z 27)) (fun c e => by rw [ho] at e; cases e) (wpList_alloc_row hgd 27 ho Z hz (wpList_nil ⟨rfl, rfl, rfl⟩)) (by rintro _ _ ⟨rfl, rfl⟩; exact h)
theorem storeIn_hash {ro : Option Nat} {n : Nat} {ops : Array Oper} {rest : List Oper} {o : Oper} {a : Act} {w : World} {Q : Exit → Act → World → Prop} (hgd : o.guard = none) (x y : Operand) (ho : o.op = .store 27 x y) (g : Nat) {O Y : Array Value} {l m : List UInt8} (hO : HV O l) (hY : HV Y m) (hx : a.eval x = .pointer (some ⟨g, 0, none⟩)) (hy : a.eval y = .agg O)
    (hg : w.heap[g]? = some (.cells Y 27 (0, 0))) (h : wpListIn (WideAt ro) n Tryz.prog ops Q rest (a.put o.dst undef) (w.setRow g O)) : wpListIn (WideAt ro) n Tryz.prog ops Q (o :: rest) a w :=
  stepIn_of (fun a' w' => a' = a.put o.dst undef ∧ w' = w.setRow g O) (fun c e => by rw [ho] at e; cases e) (wpList_store_row hgd 27 x y ho g O hx hy 27 Y hg hO.info (hY.size.trans hO.size.symm) hO.one (wpList_nil ⟨rfl, rfl, rfl⟩)) (by rintro _ _ ⟨rfl, rfl⟩; exact h)
theorem xorL_snoc (b : UInt8) : ∀ (s t : List UInt8) (h : s.length < t.length), xorL (s ++ [b]) t = xorL s t ++ [b ^^^ t[s.length]]
  | [], x :: t, h => by simp [xorL]
  | y :: s, x :: t, h => by
    have ih := xorL_snoc b s t (by simpa using h)
    simp only [xorL, List.cons_append, List.zipWith_cons_cons, List.length_cons, List.getElem_cons_succ] at ih ⊢
    rw [ih]
  | [], [], h => by simp at h
  | _ :: _, [], h => by simp at h
theorem xorL_more (r : List UInt8) : ∀ (s t : List UInt8) (h : t.length ≤ s.length), xorL (s ++ r) t = xorL s t
  | s, [], h => by simp [xorL]
  | y :: s, x :: t, h => by
    have ih := xorL_more r s t (by simpa using h)
    simp only [xorL, List.cons_append, List.zipWith_cons_cons] at ih ⊢
    rw [ih]
  | [], _ :: _, h => by simp at h
def flat (pre : List Blk) : List UInt8 := (pre.map (·.1)).flatten
theorem flat_len (pre : List Blk) : (flat pre).length = 32 * pre.length := by
  induction pre with
  | nil => rfl
  | cons x pre ih => simp only [flat, List.map_cons, List.flatten_cons, List.length_append, List.length_cons] at ih ⊢; rw [ih, x.2]; omega
theorem flat_snoc (pre : List Blk) (x : Blk) : flat (pre ++ [x]) = flat pre ++ x.1 := by simp [flat]
theorem flat_blkL (key : List UInt8) (once k : Nat) : flat (blkL key once k) = strm key once k := by simp [flat, blkL, strm, Function.comp_def]
def outL (pre : List Blk) (text : List UInt8) : List UInt8 := xorL (flat pre) text
theorem outL_len (pre : List Blk) (text : List UInt8) : (outL pre text).length = min (32 * pre.length) text.length := by rw [outL, xorL_len, flat_len]
theorem outL_all (key : List UInt8) (once : Nat) (text : List UInt8) : outL (blkL key once (nblk text.length)) text = cross key once text := by rw [outL, flat_blkL]; rfl
def midL (pre : List Blk) (x : Blk) (text : List UInt8) (k : Nat) : List UInt8 := xorL (flat pre ++ x.1.take k) text
theorem midL_zero (pre : List Blk) (x : Blk) (text : List UInt8) : midL pre x text 0 = outL pre text := by simp [midL, outL]
theorem midL_len (pre : List Blk) (x : Blk) (text : List UInt8) (k : Nat) (h : k ≤ min 32 (text.length - (outL pre text).length)) : (midL pre x text k).length = (outL pre text).length + k := by
  rw [outL_len] at *
  rw [midL, xorL_len, List.length_append, flat_len, List.length_take, x.2]
  omega
theorem midL_step (pre : List Blk) (x : Blk) (text : List UInt8) (k j : Nat) (h : k < min 32 (text.length - (outL pre text).length)) (hj : j < text.length) (e : j = (outL pre text).length + k) : midL pre x text (k + 1) = midL pre x text k ++ [x.1[k]'(by rw [x.2]; omega) ^^^ text[j]] := by
  rw [outL_len] at h e
  have hk : k < x.1.length := by rw [x.2]; omega
  have hl : (flat pre ++ x.1.take k).length = j := by rw [List.length_append, flat_len, List.length_take, x.2]; omega
  unfold midL
  rw [List.take_succ_eq_append_getElem hk, ← List.append_assoc, xorL_snoc _ _ _ (by omega)]
  simp only [hl]
theorem midL_end (pre : List Blk) (x : Blk) (text : List UInt8) : midL pre x text (min 32 (text.length - (outL pre text).length)) = outL (pre ++ [x]) text := by
  unfold midL
  rw [show outL (pre ++ [x]) text = xorL (flat pre ++ x.1) text by rw [outL, flat_snoc]]
  by_cases hd : text.length - (outL pre text).length < 32
  · rw [Nat.min_eq_right (by omega)]
    have e : flat pre ++ x.1 = (flat pre ++ x.1.take (text.length - (outL pre text).length)) ++ x.1.drop (text.length - (outL pre text).length) := by rw [List.append_assoc, List.take_append_drop]
    rw [e]
    refine (xorL_more _ _ _ ?_).symm
    rw [List.length_append, flat_len, List.length_take, x.2]
    rw [outL_len] at hd ⊢
    omega
  · rw [Nat.min_eq_left (by omega), List.take_of_length_le (by rw [x.2]; omega)]
structure OutAt (h : Nat) (w : World) (xs : List UInt8) (a : Option Addr) (n cap : Nat) (W : World) : Prop where
  box : ∃ v, Boxed W (h + 3) 29 v ∧ W.ownsRow h 5 1 v xs.length (cellsOf xs) ∧ ∀ g, v.ownBlock = some g → g = h + 2 ∨ h + 7 ≤ g
  txt : Boxed W (h + 1) 29 (.slice a n cap)
  bel : Below h w W
  siz : h + 7 ≤ W.heap.size
theorem outAt_own (h : Nat) (w : World) (hw : h = w.heap.size) (f : List Blk → List UInt8) (a : Option Addr) (n cap B : Nat) (hB : h ≤ B) : OwnFrom B (fun pre W => OutAt h w (f pre) a n cap W) := fun s W W' row hs hg hr =>
  ⟨holdsRow_own h (h + 3) 29 5 1 (fun s => (f s).length) (fun s => cellsOf (f s)) (fun _ v => ∀ g, v.ownBlock = some g → g = h + 2 ∨ h + 7 ≤ g) s W W' row hs.box hg (fun r e => (hr r e).2),
   boxed_own (h + 1) 29 (fun (_ : Unit) => Value.slice a n cap) () W W' row hs.txt hg (fun r e => (hr r e).2),
   ownFrom_below (β := Unit) (n₀ := h) (B := B) (w₀ := w) (by omega) hB () W W' row hs.bel hg hr, Nat.le_trans hs.siz hg.size⟩
structure KeepX (h : Nat) (A B : World) : Prop where
  bel : Below h A B
  boxes : ∀ j, h + 4 ≤ j → j < h + 7 → B.heap[j]? = A.heap[j]?
theorem KeepX.trans {h : Nat} {A B C : World} (k : KeepX h A B) (m : KeepX h B C) : KeepX h A C := ⟨k.bel.trans m.bel, fun j h1 h2 => (m.boxes j h1 h2).trans (k.boxes j h1 h2)⟩
theorem KeepX.put {h : Nat} {w : World} (hw : h + 7 ≤ w.heap.size) (W : World) (l : Nat) (o o' : Obj) (hl : w.heap.size ≤ l) (hg : W.heap[l]? = some o) (h1 : o.isCells = false) (h2 : o.isWalk = false) : KeepX h W (W.putObj l o') :=
  ⟨belowK_b (w := w) (by omega) W l o o' hl hg h1 h2, fun j _ h4 => World.putObj_heap_other (by omega)⟩
theorem not_own {W : World} {j : Nat} {t e : TypeId} {c : Array Value} {fr : Nat × Nat} (h : W.heap[j]? = some (.cells c t fr)) (hte : t ≠ e) {base size k : Nat} {v : Value} {xs : List Value} (hr : W.ownsRow base e size v k xs) : some j ≠ v.ownBlock := by
  rcases hr.2 with ⟨rfl, _⟩ | ⟨g, cap, cur, rfl, _, hgb, _⟩
  · simp [Value.ownBlock]
  · intro e'
    obtain rfl : j = g := by simpa [Value.ownBlock] using e'
    have := h.symm.trans hgb
    simp at this
    exact hte this.2.1
theorem minIn {ro : Option Nat} {n : Nat} {ops : Array Oper} {rest : List Oper} {o : Oper} {a : Act} {w : World} {Q : Exit → Act → World → Prop} (hgd : o.guard = none) (t : Nat) (ho : o.op = .call { callee := .builtin .min, args := #[.const (.int .i64 32), .tmp t], argTypes := #[3, 3] }) (ht : o.type = 3) (k : Int) (d : Nat) (hx : a.eval (.tmp t) = .int .i64 k) (hd : min (32 : Int) k = (d : Int))
    (h : wpListIn (WideAt ro) n Tryz.prog ops Q rest (a.put o.dst (.int .i64 (d : Int))) w) : wpListIn (WideAt ro) n Tryz.prog ops Q (o :: rest) a w :=
  stepIn_of (fun a' w' => a' = a.put o.dst (.int .i64 (d : Int)) ∧ w' = w) (fun c e => by rw [ho] at e; cases e) (wpList_plain hgd fun K hK => by unfold Oper.wp; rw [run_min t ho ht k d hx hd w]; exact hK _ _ (wpList_nil ⟨rfl, rfl, rfl⟩)) (by rintro _ _ ⟨rfl, rfl⟩; exact h)
theorem stopL {F : Fence} {n : Nat} {P : Program} {ops : Array Oper} {Q : Exit → Act → World → Prop} {l : List Oper} {a : Act} {w : World} (h : Hid (wpListIn F n P ops Q l a w)) : wpListIn F n P ops Q l a w := h
set_option maxHeartbeats 2000000 in
theorem crossed_any {w : World} {K : Array Value} {key : List UInt8} (hK : HV K key) (once : Nat) (text : List UInt8) (a : Option Addr) (n cap : Nat) (hn : n = text.length) (hB : Bytes w a text) (hl : text.length ≤ 100000) (hT : KAt w) :
    Calls Tryz.prog 50 #[.agg K, .int .u64 (once : Int), .slice a n cap] w fun e w' => ∃ v, e = .returned v ∧ w'.ownsRow w.heap.size 5 1 v (cross key once text).length (cellsOf (cross key once text)) ∧ Below w.heap.size w w' := by
  obtain ⟨i0, hi, hz0, hz1, hz2⟩ := info_parts Tryz.info5
  have HK := hid hK
  have HB := hid hB
  have HT := hid hT
  have hln : n ≤ 100000 := by omega
  have Hn := hid hn
  have hinf : (Tryz.prog.info? 27).map (·.size) = some K.size := hK.info
  clear hK hB hT hl hn
  refine (callsIn_wide (n := 3)).1 ?_
  refine callsIn_of_wp_marks Tryz.func50 rfl trivial ?_ rfl
  simp only [Tryz.ntmps50, List.size_toArray, List.length_cons, List.length_nil, Nat.reduceAdd, Nat.reduceSub, Array.replicate_succ, Array.replicate_zero, List.push_toArray, List.append_toArray, List.nil_append, List.cons_append]
  gi_wp2_with fail
  rw [run_make (P := Tryz.prog) _ 29 5 i0 (.int .u8 0) Tryz.underlying29 hi hz0 .i64 .i64 0 (n : Int) (by omega) (by omega) (by rw [hz2]; omega) (by omega)]
  simp only [Result.andThen]
  rw [Oper.uponIn_value, show (0 : Int).toNat = 0 from rfl, show (n : Int).toNat = n by omega, hz1, Nat.mul_one]
  have e1 : ((w.alloc (.cells K 27)).alloc (.cells #[.slice a n cap] 29)).heap.size = w.heap.size + 1 + 1 := by simp
  rw [e1]
  clear hi hz0 hz1 hz2 e1
  obtain ⟨W1, hW1⟩ : ∃ W1, W1 = ((w.alloc (.cells K 27)).alloc (.cells #[.slice a n cap] 29)).alloc (.cells (madeCells (Value.int .u8 0).cells n) 5) := ⟨_, rfl⟩
  have s1 : W1.heap.size = w.heap.size + 3 := by rw [hW1]; simp only [World.size_alloc]
  have k1 : Hid (W1.heap[w.heap.size]? = some (.cells K 27 (0, 0))) := by
    show _ = _
    rw [hW1, Below.heap_alloc _ _ _ (by simp; omega)]; exact heap_alloc2_old w _ _
  have x1 : W1.cell? ⟨w.heap.size + 1, 0, none⟩ = some (.slice a n cap) := by
    rw [hW1, World.cell?_of_block (w := (w.alloc (.cells K 27)).alloc (.cells #[.slice a n cap] 29)) (Below.heap_alloc _ _ _ (by simp))]
    rw [cell_of_row _ _ _ _ _ _ (heap_alloc2_new w _ _)]
    rfl
  have t1 : Hid (Boxed W1 (w.heap.size + 1) 29 (.slice a n cap)) := by
    show Boxed _ _ _ _
    have h := (Boxed.new (w.alloc (.cells K 27)) 29 (.slice a n cap)).alloc (.cells (madeCells (Value.int .u8 0).cells n) 5)
    rw [World.size_alloc, ← hW1] at h
    exact h
  have b1 : Hid (Below w.heap.size w W1) := by
    show Below _ _ _
    rw [hW1]; exact (((Below.refl _ w).alloc (Nat.le_refl _) _).alloc (by simp) _).alloc (by simp; omega) _
  have o1 : Hid (W1.ownsRow w.heap.size 5 1 (.slice (some ⟨w.heap.size + 2, 0, none⟩) 0 n) 0 (cellsOf [])) := by
    show World.ownsRow _ _ _ _ _ _ _
    have h := own_made ((w.alloc (.cells K 27)).alloc (.cells #[.slice a n cap] 29)) n (by omega)
    rw [show ((w.alloc (.cells K 27)).alloc (.cells #[.slice a n cap] 29)).heap.size = w.heap.size + 2 by simp] at h
    rw [hW1]
    exact own_mono h (by omega)
  have x2 : (W1.alloc (.cells #[.slice (some ⟨w.heap.size + 1 + 1, 0, none⟩) 0 n] 29)).cell? ⟨w.heap.size + 1, 0, none⟩ = some (.slice a n cap) := (World.cell?_of_block (Below.heap_alloc _ _ _ (by show w.heap.size + 1 < _; omega))).trans x1
  rw [← hW1]
  clear hW1
  have k2 : Hid ((W1.alloc (.cells #[.slice (some ⟨w.heap.size + 1 + 1, 0, none⟩) 0 n] 29)).heap[w.heap.size]? = some (.cells K 27 (0, 0))) := (Below.heap_alloc _ _ _ (by omega)).trans k1.out
  gi_wp2_with (with_reducible show Go.wpListIn _ _ _ _ _ ({ dst := some 14, op := _, type := _, pos := _, after := _, guard := _ } :: _) _ _; refine stopL ?_)
  show wpListIn _ _ _ _ _ _ _ _
  refine loadIn_hash (ro := none) rfl (.tmp 3) rfl w.heap.size rfl HK.out k2.out ?_
  show wpListIn Fence.wide _ _ _ _ _ _ _
  gi_wp2_with fail
  refine ⟨trivial, (callsIn_wide.2 (stream_any HK.out once n)).mono ?_⟩
  rintro _ w' ⟨rfl, rfl⟩
  gi_wp2_with fail
  obtain ⟨W2, hW2⟩ : ∃ W2, W2 = W1.alloc (.cells #[.slice (some ⟨w.heap.size + 1 + 1, 0, none⟩) 0 n] 29) := ⟨_, rfl⟩
  have s2 : W2.heap.size = w.heap.size + 3 + 1 := by rw [hW2, World.size_alloc, s1]
  have out2 : Boxed W2 (w.heap.size + 3) 29 (.slice (some ⟨w.heap.size + 2, 0, none⟩) 0 n) := by
    have h := Boxed.new W1 29 (.slice (some ⟨w.heap.size + 1 + 1, 0, none⟩) 0 n)
    rw [s1, ← hW2] at h
    exact h
  have own2 : W2.ownsRow w.heap.size 5 1 (.slice (some ⟨w.heap.size + 2, 0, none⟩) 0 n) 0 (cellsOf []) := by rw [hW2]; exact o1.out.alloc _
  have b2 : Below w.heap.size w W2 := by rw [hW2]; exact b1.out.alloc (by omega) _
  have t2 : Boxed W2 (w.heap.size + 1) 29 (.slice a n cap) := by rw [hW2]; exact (t1.out.alloc _)
  obtain ⟨W0, hW0⟩ : ∃ W0, W0 = ((W2.alloc (.cells K 27)).alloc (.cells #[.int .u64 (once : Int)] 78)).alloc (.cells #[.int .i64 (n : Int)] 3) := ⟨_, rfl⟩
  have s0 : W0.heap.size = w.heap.size + 7 := by rw [hW0]; simp only [World.size_alloc]; omega
  have out0 : Hid (OutAt w.heap.size w [] a n cap W0) := by
    show OutAt _ _ _ _ _ _ _
    rw [hW0]
    exact ⟨⟨_, ((out2.alloc _).alloc _).alloc _, ((own2.alloc _).alloc _).alloc _, fun g hg => .inl (by simp [Value.ownBlock] at hg; omega)⟩, ((t2.alloc _).alloc _).alloc _, ((b2.alloc (by omega) _).alloc (by simp; omega) _).alloc (by simp; omega) _, by simp only [World.size_alloc]; omega⟩
  have src0 : Hid (Src (w.heap.size + 3 + 1 + 2) (w.heap.size + 3 + 1 + 1) (w.heap.size + 3 + 1) K once n W0) := by
    show Src _ _ _ _ _ _ _
    have e1 : (W2.alloc (.cells K 27)).heap.size = w.heap.size + 3 + 1 + 1 := by rw [World.size_alloc, s2]
    have e2 : ((W2.alloc (.cells K 27)).alloc (.cells #[.int .u64 (once : Int)] 78)).heap.size = w.heap.size + 3 + 1 + 2 := by rw [World.size_alloc, e1]
    have n0 := Boxed.new ((W2.alloc (.cells K 27)).alloc (.cells #[.int .u64 (once : Int)] 78)) 3 (.int .i64 (n : Int))
    have o0 := (Boxed.new (W2.alloc (.cells K 27)) 78 (.int .u64 (once : Int))).alloc (.cells #[.int .i64 (n : Int)] 3)
    have c0 : W0.heap[w.heap.size + 3 + 1]? = some (.cells K 27 (0, 0)) := by
      rw [hW0, Below.heap_alloc _ _ _ (by omega), Below.heap_alloc _ _ _ (by omega), ← s2]
      exact heap_alloc_new W2 _
    rw [e2, ← hW0] at n0
    rw [e1, ← hW0] at o0
    exact ⟨n0, o0, c0, HT.out.below out0.out.bel⟩
  have hG : 0 < w.heap.size := World.block_lt_of_cell? _ _ (HT.out 0 (by omega))
  have hm : Tryz.prog.follows .mixedOrders = true := by kernel_rfl
  obtain ⟨Z, hZ⟩ : ∃ Z, Z = bvs (List.replicate 32 0) := ⟨_, rfl⟩
  have zh := (zero_of_info zero_hash).1
  rw [← hZ] at zh
  have hz : Hid (HV Z (List.replicate 32 0)) := by
    show HV _ _
    rw [hZ]; exact hv_zero
  have zh := hid zh
  have hl7 : text.length ≤ 100000 := by rw [← Hn.out]; exact hln
  rw [← hW2, ← hW0]
  clear hZ hW0 hW2 out2 own2 b2 t2 o1 b1 k1 x1 x2 k2 t1
  refine wpIn_rangeFunc_ownH rfl (by omega) (gf := 97) (lb := #[.pointer (some ⟨w.heap.size + 3 + 1 + 2, 0, none⟩), .pointer (some ⟨w.heap.size + 3 + 1 + 1, 0, none⟩), .pointer (some ⟨w.heap.size + 3 + 1, 0, none⟩)]) rfl trivial (enters_of Tryz.func97 (by kernel_rfl) rfl)
    (stream_stops (3 - 1) (w.heap.size + 3 + 1) HK.out once n (by omega) (Kp := KeepX w.heap.size) (fun A C hk hs => ⟨(hk.boxes _ (by omega) (by omega)).trans hs.num, (hk.boxes _ (by omega) (by omega)).trans hs.once, (hk.boxes _ (by omega) (by omega)).trans hs.key, fun i hi => (hk.bel.cell (p := ⟨0, i, none⟩) hG).trans (hs.tab i hi)⟩) W0 src0.out)
    (fun h k => h.trans k) (fun W l o o' h1 h2 h3 h4 => KeepX.put (w := W0) (by omega) W l o o' h1 h2 h3 h4) (Below.refl _ _) (fun _ => rfl)
    (fun pre W => OutAt w.heap.size w (outL pre text) a n cap W) (fun _ _ _ => False)
    (outAt_own w.heap.size w rfl (fun pre => outL pre text) a n cap _ (by omega)) (fun _ _ _ _ _ hs _ _ => hs) out0.out
    (fun x a' W => ∃ Bx, w.heap.size + 7 ≤ Bx ∧ W.heap[Bx]? = some (.cells (bvs x.1) 27 (0, 0)) ∧ a' = { tmps := #[.agg K, .int .u64 (once : Int), .slice a n cap, .pointer (some ⟨w.heap.size, 0, none⟩), undef, .pointer (some ⟨w.heap.size + 1, 0, none⟩), .slice none 0 0, .pointer (some ⟨w.heap.size + 3, 0, none⟩), .pointer (some ⟨Bx, 0, none⟩), undef, undef, .slice a n cap, .int .i64 (n : Int), .slice (some ⟨w.heap.size + 1 + 1, 0, none⟩) 0 n, .agg K, .int .u64 (once : Int), .slice a n cap, .int .i64 (n : Int), .func (.func 97) #[] #[.pointer (some ⟨w.heap.size + 3 + 1 + 2, 0, none⟩), .pointer (some ⟨w.heap.size + 3 + 1 + 1, 0, none⟩), .pointer (some ⟨w.heap.size + 3 + 1, 0, none⟩)], .agg (bvs x.1), undef, undef, undef, undef, undef, undef, undef, undef, undef, undef, undef, undef, undef, undef, undef, undef, undef, undef, undef, undef, undef, undef, undef, undef], defers := [] })
    (fun x a' _ X Y row hs hg hr => by
      obtain ⟨Bx, h1, h2, h3⟩ := hs
      refine ⟨Bx, h1, (hg.block Bx (heap_lt h2) (fun e => ?_)).trans h2, h3⟩
      obtain ⟨_, o, ho, hc⟩ := hr Bx e.symm
      rw [h2] at ho; cases ho; cases hc)
    ?assign ?body ?done ?stop
  case stop =>
    rintro D c pre W hD _ h _
    exact h.elim
  case assign =>
    rintro l pre x W Kk hI hKk
    gi_wp2_with (with_reducible show Go.wpListIn _ _ _ _ _ ({ dst := some 8, op := _, type := _, pos := _, after := _, guard := _ } :: _) _ _; refine stopL ?_)
    show wpListIn _ _ _ _ _ _ _ _
    refine allocIn_hash (ro := some l) rfl rfl Z zh.out ?_
    refine storeIn_hash (ro := some l) rfl (.tmp 8) (.tmp 19) rfl W.heap.size ⟨rfl, x.2⟩ hz.out rfl rfl (heap_alloc_new W _) ?_
    rw [World.setRow_alloc_new]
    refine wpListIn_nil ?_
    have hsz : w.heap.size + 7 ≤ W.heap.size := hI.siz
    refine hKk _ _ ((KeepsOthers.alloc _ _).from _) ⟨(Below.refl _ W).alloc (by omega) _, fun j h1 h2 => Below.heap_alloc _ _ _ (by omega)⟩ ?_ ⟨W.heap.size, hsz, heap_alloc_new W _, ?_⟩
    · obtain ⟨v, h1, h2, h3⟩ := hI.box
      exact ⟨⟨v, h1.alloc _, h2.alloc _, h3⟩, hI.txt.alloc _, hI.bel.alloc (by omega) _, by simp; omega⟩
    · simp [Act.put]
  case body =>
    rintro l pre x a' W hl ⟨r, hr⟩ hI ⟨Bx, hBx, hblk, rfl⟩ hlt
    obtain ⟨v, hv, hown, hG1⟩ := hI.box
    obtain ⟨vd, vc, rfl, _, _⟩ := bytes_of_own hown
    have cT := hI.txt.cell
    have cV := hv.cell
    have Hlm := hid (outL_len pre text)
    obtain ⟨m, hm0⟩ : ∃ m, m = (outL pre text).length := ⟨_, rfl⟩
    have Hm := hid hm0
    have Hmn : m ≤ n := by rw [Hn.out, hm0, outL_len]; omega
    rw [← hm0] at cV
    obtain ⟨d, hd⟩ : ∃ d, d = min 32 (n - m) := ⟨_, rfl⟩
    have Hd := hid hd
    have q1 : IntKind.i64.wrap ((n : Int) - (m : Int)) = (n : Int) - (m : Int) := by rw [IntKind.wrap_i64]; omega
    have q2 : min (32 : Int) ((n : Int) - (m : Int)) = (d : Int) := by omega
    have q3 : (d : Int) ≤ 32 := by omega
    have q4 : d ≤ 32 := by omega
    have HI := hid hI
    have Hv := hid hv
    have Hown := hid hown
    have HG1 := hid hG1
    have Hblk := hid hblk
    clear hm0 hd hI hv hown hG1 hblk
    gi_wp2_with (with_reducible show Go.wpListIn _ _ _ _ _ ({ dst := some 25, op := _, type := _, pos := _, after := _, guard := _ } :: _) _ _; refine stopL ?_)
    show wpListIn _ _ _ _ _ _ _ _
    refine minIn (ro := some l) rfl 24 rfl rfl _ d rfl q2 ?_
    show wpListIn (Fence.wide.inRound l) _ _ _ _ _ _ _
    gi_wp2_with fail
    gi_loopw [28] (fun v28 wr => ∃ k : Nat, k ≤ d ∧ v28 = .int .i64 (k : Int) ∧ OutAt w.heap.size w (midL pre x text k) a n cap wr ∧ wr.heap[Bx]? = some (.cells (bvs x.1) 27 (0, 0)) ∧ KeepsOthers W wr ∧ KeepX w.heap.size W wr) (fun v28 _ => d - (intOf v28).toNat)
    case atStart => exact ⟨0, Nat.zero_le _, rfl, by rw [midL_zero]; exact HI.out, Hblk.out, KeepsOthers.refl _, ⟨Below.refl _ _, fun _ _ _ => rfl⟩⟩
    case round =>
      obtain ⟨k, hk, rfl, hO, hb, hko, hkx⟩ := hrel
      have HO := hid hO
      have Hb := hid hb
      have Hko := hid hko
      have Hkx := hid hkx
      clear hO hb hko hkx HI Hv Hown HG1 Hblk cT cV
      by_cases hkd : k < d
      · have hk32 : k < x.1.length := by rw [x.2]; omega
        have cB : wr.cell? ⟨Bx, k, none⟩ = some (.int .u8 (x.1[k].toNat : Int)) := by rw [cell_of_row _ _ _ _ _ _ Hb.out, bvs_get _ _ hk32]
        obtain ⟨bx, hbx⟩ : ∃ bx, bx = x.1[k] := ⟨_, rfl⟩
        rw [← hbx] at cB
        have Hbx := hid hbx
        clear hbx
        gi_wp2_with fail
        obtain ⟨v, hv, hown, hG1⟩ := HO.out.box
        obtain ⟨vd2, vc2, rfl, _, _⟩ := bytes_of_own hown
        have lx : (midL pre x text k).length = m + k := by rw [midL_len pre x text k (by rw [← Hm.out, ← Hn.out, ← Hd.out]; omega), ← Hm.out]
        have hmk : m + k < n := by have := Hd.out; omega
        have hmt : m + k < text.length := by rw [← Hn.out]; exact hmk
        obtain ⟨ab, ao, ha, hc⟩ := (HB.out.below HO.out.bel) (m + k) hmt
        have Hst := hid (midL_step pre x text k (m + k) (by rw [← Hm.out, ← Hn.out, ← Hd.out]; omega) hmt (by rw [Hm.out]))
        obtain ⟨tx, htx⟩ : ∃ tx, tx = text[m + k] := ⟨_, rfl⟩
        rw [← htx] at hc Hst
        rw [← Hbx.out] at Hst
        clear htx
        subst ha
        rw [lx] at hv hown hG1
        have hcV : wr.drew.cell? ⟨w.heap.size + 3, 0, none⟩ = some (.slice vd2 (m + k) vc2) := hv.cell
        have Hv2 : Hid (Boxed wr.drew (w.heap.size + 3) 29 (.slice vd2 (m + k) vc2)) := hv
        have Hown2 : Hid (wr.drew.ownsRow w.heap.size 5 1 (.slice vd2 (m + k) vc2) (midL pre x text k).length (cellsOf (midL pre x text k))) := by
          show World.ownsRow _ _ _ _ _ _ _
          rw [lx]
          exact hown
        have hS : (fun W9 : World => W9.cell? ⟨w.heap.size + 1, 0, none⟩ = some (.slice (some ⟨ab, ao, none⟩) n cap) ∧ W9.cell? ⟨ab, ao + (m + k), none⟩ = some (.int .u8 (tx.toNat : Int))) wr.drew := ⟨HO.out.txt.cell, hc⟩
        have hab : ab < w.heap.size := by
          obtain ⟨ab', ao', e, hc'⟩ := HB.out (m + k) hmt
          cases e
          exact World.block_lt_of_cell? _ _ hc'
        have hsz : w.heap.size + 7 ≤ wr.heap.size := HO.out.siz
        have hT : wr.drew.cell? ⟨w.heap.size + 1, 0, none⟩ = some (.slice (some ⟨ab, ao, none⟩) n cap) := HO.out.txt.cell
        have hSb : ∀ w' : World, Below w.heap.size wr.drew w' → (∀ j, j < wr.drew.heap.size → some j ≠ (Value.slice vd2 (m + k) vc2).ownBlock → j ≠ w.heap.size + 3 → w'.heap[j]? = wr.drew.heap[j]?) → (w'.cell? ⟨w.heap.size + 1, 0, none⟩ = some (.slice (some ⟨ab, ao, none⟩) n cap) ∧ w'.cell? ⟨ab, ao + (m + k), none⟩ = some (.int .u8 (tx.toNat : Int))) := fun w' h4 h5 =>
          ⟨(World.cell?_of_block (h5 (w.heap.size + 1) (by show _ < wr.heap.size; omega) (fun e => by have := hG1 _ e.symm; omega) (by omega))).trans hT, (h4.cell (p := ⟨ab, ao + (m + k), none⟩) hab).trans hc⟩
        have hcV2 : (wr.drew.alloc (.cells (cellsOf [bx ^^^ tx]).toArray 5)).cell? ⟨w.heap.size + 3, 0, none⟩ = some (.slice vd2 (m + k) vc2) := (World.cell?_of_block (Below.heap_alloc _ _ _ (by show w.heap.size + 3 < wr.heap.size; omega))).trans hcV
        have hS2 : (fun W9 : World => W9.cell? ⟨w.heap.size + 1, 0, none⟩ = some (.slice (some ⟨ab, ao, none⟩) n cap) ∧ W9.cell? ⟨ab, ao + (m + k), none⟩ = some (.int .u8 (tx.toNat : Int))) (wr.drew.alloc (.cells (cellsOf [bx ^^^ tx]).toArray 5)) :=
          hSb _ ((Below.refl _ _).alloc (by show w.heap.size ≤ wr.heap.size; omega) _) (fun j hj _ _ => Below.heap_alloc _ _ _ hj)
        have hfin : ∀ v' (w' : World), Boxed w' (w.heap.size + 3) 29 v' → w'.ownsRow w.heap.size 5 1 v' (midL pre x text k ++ [bx ^^^ tx]).length (cellsOf (midL pre x text k ++ [bx ^^^ tx])) → KeepsOthers wr.drew w' → Below w.heap.size wr.drew w' → (∀ j, j < wr.drew.heap.size → some j ≠ (Value.slice vd2 (m + k) vc2).ownBlock → j ≠ w.heap.size + 3 → w'.heap[j]? = wr.drew.heap[j]?) → (∀ j, v'.ownBlock = some j → (Value.slice vd2 (m + k) vc2).ownBlock = some j ∨ wr.drew.heap.size ≤ j) →
            OutAt w.heap.size w (midL pre x text (k + 1)) (some ⟨ab, ao, none⟩) n cap w' ∧ w'.heap[Bx]? = some (.cells (bvs x.1) 27 (0, 0)) ∧ KeepsOthers W w' ∧ KeepX w.heap.size W w' := by
          intro v' w' h1 h2 h3 h4 h5 h6
          refine ⟨⟨⟨v', h1, by rw [Hst.out]; exact h2, fun g hg => (h6 g hg).elim (hG1 g) (fun hle => .inr (Nat.le_trans hsz hle))⟩, ?_, HO.out.bel.trans (undrew1 h4), Nat.le_trans hsz h4.size⟩, ?_, Hko.out.trans ((KeepsOthers.drew wr).trans h3), Hkx.out.trans ⟨undrew1 h4, fun j hj1 hj2 => h5 j (by show _ < wr.heap.size; omega) (fun e => by have := hG1 _ e.symm; omega) (by omega)⟩⟩
          · exact (h5 (w.heap.size + 1) (by show _ < wr.heap.size; omega) (fun e => by have := hG1 _ e.symm; omega) (by omega)).trans HO.out.txt
          · exact (h5 Bx (heap_lt Hb.out) (not_own Hb.out (by decide) hown) (by omega)).trans Hb.out
        clear hv Hst hc hT
        refine wpIn_act _ fun A hA => ?_
        refine wpIn_split (fun A' W' => ∃ t32 t33 t34 t35 t36 t37 t38 t39 t40 t41 : Value, A' = (((((((((A.put (some 32) t32).put (some 33) t33).put (some 34) t34).put (some 35) t35).put (some 36) t36).put (some 37) t37).put (some 38) t38).put (some 39) t39).put (some 40) t40).put (some 41) t41 ∧ OutAt w.heap.size w (midL pre x text (k + 1)) (some ⟨ab, ao, none⟩) n cap W' ∧ W'.heap[Bx]? = some (.cells (bvs x.1) 27 (0, 0)) ∧ KeepsOthers W W' ∧ KeepX w.heap.size W W') ?_ ?_
        · have sz : A.tmps.size = 44 := by rw [hA]; rfl
          have e5 : A.eval (.tmp 5) = .pointer (some ⟨w.heap.size + 1, 0, none⟩) := by rw [hA]; rfl
          have e7 : A.eval (.tmp 7) = .pointer (some ⟨w.heap.size + 3, 0, none⟩) := by rw [hA]; rfl
          have e10 : A.eval (.tmp 10) = .int .u8 (bx.toNat : Int) := by rw [hA]; rfl
          refine wpIn_region_heldAt (ro := some l) (S := fun W9 => W9.cell? ⟨w.heap.size + 1, 0, none⟩ = some (.slice (some ⟨ab, ao, none⟩) n cap) ∧ W9.cell? ⟨ab, ao + (m + k), none⟩ = some (.int .u8 (tx.toNat : Int))) hm (by kernel_rfl) ?_
          show wpAnyH _ _ _ _ _ _ _ _ wr.drew
          refine wpAnyH_take (i := 1) (v := .int .u8 (bx.toNat : Int)) rfl (by kernel_rfl) (by kernel_rfl) (by kernel_rfl) (fun _ _ _ h => nomatch h.1) (yields_move (by simp [Region.wanted]) (.tmp 10) rfl _ e10) hS ?_
          refine wpAnyH_take (i := 2) (v := .slice (some ⟨ab, ao, none⟩) n cap) rfl (by kernel_rfl) (by kernel_rfl) (by kernel_rfl) (fun _ _ _ h => nomatch h.1) (y_loadB (by simp [Region.wanted]) (.tmp 5) rfl (w.heap.size + 1) _ _ _ ((ev_ne _ _ (by decide)).trans e5) (fun _ h => h.1)) hS ?_
          refine wpAnyH_all (rs := [0, 3]) (by kernel_rfl) (by simp) fun i9 hm9 => ?_
          rcases List.mem_cons.1 hm9 with rfl | hm8
          · refine YieldsIf.wpOp (S := fun W9 => W9.cell? ⟨w.heap.size + 3, 0, none⟩ = some (.slice vd2 (m + k) vc2)) rfl (y_loadB (by simp [Region.wanted]) (.tmp 7) rfl (w.heap.size + 3) _ _ _ ((ev_ne _ _ (by decide)).trans ((ev_ne _ _ (by decide)).trans e7)) (fun _ h => h)) hcV ⟨hS, ?_⟩
            show wpAnyH _ _ _ _ _ _ _ (((A.put (some 33) (.int .u8 (bx.toNat : Int))).put (some 34) (.slice (some ⟨ab, ao, none⟩) n cap)).put (some 32) (.slice vd2 (m + k) vc2)) _
            refine wpAnyH_all (rs := [3]) (by kernel_rfl) (by simp) fun i9 hm9 => ?_
            obtain rfl : i9 = 3 := by simpa using hm9
            refine YieldsIf.wpOp (S := fun W9 => W9.cell? ⟨w.heap.size + 3, 0, none⟩ = some (.slice vd2 (m + k) vc2)) rfl (y_loadB (by simp [Region.wanted]) (.tmp 7) rfl (w.heap.size + 3) _ _ _ ((ev_ne _ _ (by decide)).trans ((ev_ne _ _ (by decide)).trans ((ev_ne _ _ (by decide)).trans e7))) (fun _ h => h)) hcV ⟨hS, ?_⟩
            show wpAnyH _ _ _ _ _ _ _ ((((A.put (some 33) (.int .u8 (bx.toNat : Int))).put (some 34) (.slice (some ⟨ab, ao, none⟩) n cap)).put (some 32) (.slice vd2 (m + k) vc2)).put (some 35) (.slice vd2 (m + k) vc2)) _
            refine wpAnyH_take (i := 4) (v := .int .i64 ((m + k : Nat) : Int)) rfl (by kernel_rfl) (by kernel_rfl) (by kernel_rfl) (fun _ _ _ h => nomatch h.1) (y_len (by simp [Region.wanted]) 35 rfl rfl _ _ _ (ev_eq _ _ (by simp [put_sz, sz]))) hS ?_
            refine wpAnyH_take (i := 5) (v := .pointer (some ⟨ab, ao + (m + k), none⟩)) rfl (by kernel_rfl) (by kernel_rfl) (by kernel_rfl) (fun _ _ _ h => nomatch h.1) (y_index8 (by simp [Region.wanted]) (.tmp 34) (.tmp 36) rfl ab ao n cap (m + k) ((ev_ne _ _ (by decide)).trans ((ev_ne _ _ (by decide)).trans ((ev_ne _ _ (by decide)).trans (ev_eq _ _ (by simp [put_sz, sz]))))) (ev_eq _ _ (by simp [put_sz, sz])) hmk) hS ?_
            refine wpAnyH_take (i := 6) (v := .int .u8 (tx.toNat : Int)) rfl (by kernel_rfl) (by kernel_rfl) (by kernel_rfl) (fun _ _ _ h => nomatch h.1) (y_load8 (by simp [Region.wanted]) (.tmp 37) rfl ab (ao + (m + k)) tx (ev_eq _ _ (by simp [put_sz, sz])) (fun _ h => h.2)) hS ?_
            refine wpAnyH_take (i := 7) (v := .int .u8 ((bx ^^^ tx).toNat : Int)) rfl (by kernel_rfl) (by kernel_rfl) (by kernel_rfl) (fun _ _ _ h => nomatch h.1) (y_xor8 (by simp [Region.wanted]) (.tmp 33) (.tmp 38) rfl bx tx ((ev_ne _ _ (by decide)).trans ((ev_ne _ _ (by decide)).trans ((ev_ne _ _ (by decide)).trans ((ev_ne _ _ (by decide)).trans ((ev_ne _ _ (by decide)).trans ((ev_ne _ _ (by decide)).trans (ev_eq _ _ (by simp [sz])))))))) (ev_eq _ _ (by simp [put_sz, sz]))) hS ?_
            refine wpAnyH_all (rs := [8]) (by kernel_rfl) (by simp) fun i9 hm9 => ?_
            obtain rfl : i9 = 8 := by simpa using hm9
            refine wpOp_own rfl rfl fun K9 hK9 => ?_
            refine wp_build1 (.tmp 39) rfl (bx ^^^ tx) (ev_eq _ _ (by simp [put_sz, sz])) ?_
            refine hK9 _ _ ⟨hS2, ?_⟩
            show wpAnyH _ _ _ _ _ _ _ (((((((((A.put (some 33) (.int .u8 (bx.toNat : Int))).put (some 34) (.slice (some ⟨ab, ao, none⟩) n cap)).put (some 32) (.slice vd2 (m + k) vc2)).put (some 35) (.slice vd2 (m + k) vc2)).put (some 36) (.int .i64 ((m + k : Nat) : Int))).put (some 37) (.pointer (some ⟨ab, ao + (m + k), none⟩))).put (some 38) (.int .u8 (tx.toNat : Int))).put (some 39) (.int .u8 ((bx ^^^ tx).toNat : Int))).put (some 40) (.slice (some ⟨wr.drew.heap.size, 0, none⟩) 1 1)) _
            refine tail7 _ _ rfl rfl rfl rfl rfl rfl rfl rfl (by kernel_rfl) (by kernel_rfl) (by kernel_rfl) w.heap.size (w.heap.size + 3) _ (midL pre x text k) (bx ^^^ tx) (by simp [put_sz, sz]) ((ev_ne _ _ (by decide)).trans ((ev_ne _ _ (by decide)).trans ((ev_ne _ _ (by decide)).trans ((ev_ne _ _ (by decide)).trans ((ev_ne _ _ (by decide)).trans ((ev_ne _ _ (by decide)).trans (ev_eq _ _ (by simp [put_sz, sz])))))))) (ev_eq _ _ (by simp [put_sz, sz])) ((ev_ne _ _ (by decide)).trans ((ev_ne _ _ (by decide)).trans ((ev_ne _ _ (by decide)).trans ((ev_ne _ _ (by decide)).trans ((ev_ne _ _ (by decide)).trans ((ev_ne _ _ (by decide)).trans ((ev_ne _ _ (by decide)).trans ((ev_ne _ _ (by decide)).trans ((ev_ne _ _ (by decide)).trans e7))))))))) Hv2.out Hown2.out (by have := HO.out.siz; show w.heap.size ≤ wr.heap.size; omega) (by omega) (by omega) hSb ?_
            intro v' w' h1 h2 h3 h4 h5 h6
            refine ⟨rfl, (.slice vd2 (m + k) vc2 : Value), (.int .u8 (bx.toNat : Int) : Value), (.slice (some ⟨ab, ao, none⟩) n cap : Value), (.slice vd2 (m + k) vc2 : Value), (.int .i64 ((m + k : Nat) : Int) : Value), (.pointer (some ⟨ab, ao + (m + k), none⟩) : Value), (.int .u8 (tx.toNat : Int) : Value), (.int .u8 ((bx ^^^ tx).toNat : Int) : Value), (.slice (some ⟨wr.drew.heap.size, 0, none⟩) 1 1 : Value), v', ?_, hfin v' w' h1 h2 h3 h4 h5 h6⟩
            rw [hA]; simp [Act.put]
          · obtain rfl : i9 = 3 := by simpa using hm8
            refine YieldsIf.wpOp (S := fun W9 => W9.cell? ⟨w.heap.size + 3, 0, none⟩ = some (.slice vd2 (m + k) vc2)) rfl (y_loadB (by simp [Region.wanted]) (.tmp 7) rfl (w.heap.size + 3) _ _ _ ((ev_ne _ _ (by decide)).trans ((ev_ne _ _ (by decide)).trans e7)) (fun _ h => h)) hcV ⟨hS, ?_⟩
            show wpAnyH _ _ _ _ _ _ _ (((A.put (some 33) (.int .u8 (bx.toNat : Int))).put (some 34) (.slice (some ⟨ab, ao, none⟩) n cap)).put (some 35) (.slice vd2 (m + k) vc2)) _
            refine wpAnyH_take (i := 4) (v := .int .i64 ((m + k : Nat) : Int)) rfl (by kernel_rfl) (by kernel_rfl) (by kernel_rfl) (fun _ _ _ h => nomatch h.1) (y_len (by simp [Region.wanted]) 35 rfl rfl _ _ _ (ev_eq _ _ (by simp [put_sz, sz]))) hS ?_
            refine wpAnyH_take (i := 5) (v := .pointer (some ⟨ab, ao + (m + k), none⟩)) rfl (by kernel_rfl) (by kernel_rfl) (by kernel_rfl) (fun _ _ _ h => nomatch h.1) (y_index8 (by simp [Region.wanted]) (.tmp 34) (.tmp 36) rfl ab ao n cap (m + k) ((ev_ne _ _ (by decide)).trans ((ev_ne _ _ (by decide)).trans (ev_eq _ _ (by simp [put_sz, sz])))) (ev_eq _ _ (by simp [put_sz, sz])) hmk) hS ?_
            refine wpAnyH_take (i := 6) (v := .int .u8 (tx.toNat : Int)) rfl (by kernel_rfl) (by kernel_rfl) (by kernel_rfl) (fun _ _ _ h => nomatch h.1) (y_load8 (by simp [Region.wanted]) (.tmp 37) rfl ab (ao + (m + k)) tx (ev_eq _ _ (by simp [put_sz, sz])) (fun _ h => h.2)) hS ?_
            refine wpAnyH_take (i := 7) (v := .int .u8 ((bx ^^^ tx).toNat : Int)) rfl (by kernel_rfl) (by kernel_rfl) (by kernel_rfl) (fun _ _ _ h => nomatch h.1) (y_xor8 (by simp [Region.wanted]) (.tmp 33) (.tmp 38) rfl bx tx ((ev_ne _ _ (by decide)).trans ((ev_ne _ _ (by decide)).trans ((ev_ne _ _ (by decide)).trans ((ev_ne _ _ (by decide)).trans ((ev_ne _ _ (by decide)).trans (ev_eq _ _ (by simp [sz]))))))) (ev_eq _ _ (by simp [put_sz, sz]))) hS ?_
            refine wpAnyH_all (rs := [0, 8]) (by kernel_rfl) (by simp) fun i7 hm7 => ?_
            rcases List.mem_cons.1 hm7 with rfl | hm6
            · refine YieldsIf.wpOp (S := fun W9 => W9.cell? ⟨w.heap.size + 3, 0, none⟩ = some (.slice vd2 (m + k) vc2)) rfl (y_loadB (by simp [Region.wanted]) (.tmp 7) rfl (w.heap.size + 3) _ _ _ ((ev_ne _ _ (by decide)).trans ((ev_ne _ _ (by decide)).trans ((ev_ne _ _ (by decide)).trans ((ev_ne _ _ (by decide)).trans ((ev_ne _ _ (by decide)).trans ((ev_ne _ _ (by decide)).trans ((ev_ne _ _ (by decide)).trans e7))))))) (fun _ h => h)) hcV ⟨hS, ?_⟩
              show wpAnyH _ _ _ _ _ _ _ ((((((((A.put (some 33) (.int .u8 (bx.toNat : Int))).put (some 34) (.slice (some ⟨ab, ao, none⟩) n cap)).put (some 35) (.slice vd2 (m + k) vc2)).put (some 36) (.int .i64 ((m + k : Nat) : Int))).put (some 37) (.pointer (some ⟨ab, ao + (m + k), none⟩))).put (some 38) (.int .u8 (tx.toNat : Int))).put (some 39) (.int .u8 ((bx ^^^ tx).toNat : Int))).put (some 32) (.slice vd2 (m + k) vc2)) _
              refine wpAnyH_all (rs := [8]) (by kernel_rfl) (by simp) fun i9 hm9 => ?_
              obtain rfl : i9 = 8 := by simpa using hm9
              refine wpOp_own rfl rfl fun K9 hK9 => ?_
              refine wp_build1 (.tmp 39) rfl (bx ^^^ tx) ((ev_ne _ _ (by decide)).trans (ev_eq _ _ (by simp [put_sz, sz]))) ?_
              refine hK9 _ _ ⟨hS2, ?_⟩
              show wpAnyH _ _ _ _ _ _ _ (((((((((A.put (some 33) (.int .u8 (bx.toNat : Int))).put (some 34) (.slice (some ⟨ab, ao, none⟩) n cap)).put (some 35) (.slice vd2 (m + k) vc2)).put (some 36) (.int .i64 ((m + k : Nat) : Int))).put (some 37) (.pointer (some ⟨ab, ao + (m + k), none⟩))).put (some 38) (.int .u8 (tx.toNat : Int))).put (some 39) (.int .u8 ((bx ^^^ tx).toNat : Int))).put (some 32) (.slice vd2 (m + k) vc2)).put (some 40) (.slice (some ⟨wr.drew.heap.size, 0, none⟩) 1 1)) _
              refine tail7 _ _ rfl rfl rfl rfl rfl rfl rfl rfl (by kernel_rfl) (by kernel_rfl) (by kernel_rfl) w.heap.size (w.heap.size + 3) _ (midL pre x text k) (bx ^^^ tx) (by simp [put_sz, sz]) ((ev_ne _ _ (by decide)).trans (ev_eq _ _ (by simp [put_sz, sz]))) (ev_eq _ _ (by simp [put_sz, sz])) ((ev_ne _ _ (by decide)).trans ((ev_ne _ _ (by decide)).trans ((ev_ne _ _ (by decide)).trans ((ev_ne _ _ (by decide)).trans ((ev_ne _ _ (by decide)).trans ((ev_ne _ _ (by decide)).trans ((ev_ne _ _ (by decide)).trans ((ev_ne _ _ (by decide)).trans ((ev_ne _ _ (by decide)).trans e7))))))))) Hv2.out Hown2.out (by have := HO.out.siz; show w.heap.size ≤ wr.heap.size; omega) (by omega) (by omega) hSb ?_
              intro v' w' h1 h2 h3 h4 h5 h6
              refine ⟨rfl, (.slice vd2 (m + k) vc2 : Value), (.int .u8 (bx.toNat : Int) : Value), (.slice (some ⟨ab, ao, none⟩) n cap : Value), (.slice vd2 (m + k) vc2 : Value), (.int .i64 ((m + k : Nat) : Int) : Value), (.pointer (some ⟨ab, ao + (m + k), none⟩) : Value), (.int .u8 (tx.toNat : Int) : Value), (.int .u8 ((bx ^^^ tx).toNat : Int) : Value), (.slice (some ⟨wr.drew.heap.size, 0, none⟩) 1 1 : Value), v', ?_, hfin v' w' h1 h2 h3 h4 h5 h6⟩
              rw [hA]; simp [Act.put]
            · obtain rfl : i7 = 8 := by simpa using hm6
              refine wpOp_own rfl rfl fun K9 hK9 => ?_
              refine wp_build1 (.tmp 39) rfl (bx ^^^ tx) (ev_eq _ _ (by simp [put_sz, sz])) ?_
              refine hK9 _ _ ⟨hS2, ?_⟩
              show wpAnyH _ _ _ _ _ _ _ ((((((((A.put (some 33) (.int .u8 (bx.toNat : Int))).put (some 34) (.slice (some ⟨ab, ao, none⟩) n cap)).put (some 35) (.slice vd2 (m + k) vc2)).put (some 36) (.int .i64 ((m + k : Nat) : Int))).put (some 37) (.pointer (some ⟨ab, ao + (m + k), none⟩))).put (some 38) (.int .u8 (tx.toNat : Int))).put (some 39) (.int .u8 ((bx ^^^ tx).toNat : Int))).put (some 40) (.slice (some ⟨wr.drew.heap.size, 0, none⟩) 1 1)) _
              refine wpAnyH_all (rs := [0]) (by kernel_rfl) (by simp) fun i9 hm9 => ?_
              obtain rfl : i9 = 0 := by simpa using hm9
              refine YieldsIf.wpOp (S := fun W9 => W9.cell? ⟨w.heap.size + 3, 0, none⟩ = some (.slice vd2 (m + k) vc2)) rfl (y_loadB (by simp [Region.wanted]) (.tmp 7) rfl (w.heap.size + 3) _ _ _ ((ev_ne _ _ (by decide)).trans ((ev_ne _ _ (by decide)).trans ((ev_ne _ _ (by decide)).trans ((ev_ne _ _ (by decide)).trans ((ev_ne _ _ (by decide)).trans ((ev_ne _ _ (by decide)).trans ((ev_ne _ _ (by decide)).trans ((ev_ne _ _ (by decide)).trans e7)))))))) (fun _ h => h)) hcV2 ⟨hS2, ?_⟩
              show wpAnyH _ _ _ _ _ _ _ (((((((((A.put (some 33) (.int .u8 (bx.toNat : Int))).put (some 34) (.slice (some ⟨ab, ao, none⟩) n cap)).put (some 35) (.slice vd2 (m + k) vc2)).put (some 36) (.int .i64 ((m + k : Nat) : Int))).put (some 37) (.pointer (some ⟨ab, ao + (m + k), none⟩))).put (some 38) (.int .u8 (tx.toNat : Int))).put (some 39) (.int .u8 ((bx ^^^ tx).toNat : Int))).put (some 40) (.slice (some ⟨wr.drew.heap.size, 0, none⟩) 1 1)).put (some 32) (.slice vd2 (m + k) vc2)) _
              refine tail7 _ _ rfl rfl rfl rfl rfl rfl rfl rfl (by kernel_rfl) (by kernel_rfl) (by kernel_rfl) w.heap.size (w.heap.size + 3) _ (midL pre x text k) (bx ^^^ tx) (by simp [put_sz, sz]) (ev_eq _ _ (by simp [put_sz, sz])) ((ev_ne _ _ (by decide)).trans (ev_eq _ _ (by simp [put_sz, sz]))) ((ev_ne _ _ (by decide)).trans ((ev_ne _ _ (by decide)).trans ((ev_ne _ _ (by decide)).trans ((ev_ne _ _ (by decide)).trans ((ev_ne _ _ (by decide)).trans ((ev_ne _ _ (by decide)).trans ((ev_ne _ _ (by decide)).trans ((ev_ne _ _ (by decide)).trans ((ev_ne _ _ (by decide)).trans e7))))))))) Hv2.out Hown2.out (by have := HO.out.siz; show w.heap.size ≤ wr.heap.size; omega) (by omega) (by omega) hSb ?_
              intro v' w' h1 h2 h3 h4 h5 h6
              refine ⟨rfl, (.slice vd2 (m + k) vc2 : Value), (.int .u8 (bx.toNat : Int) : Value), (.slice (some ⟨ab, ao, none⟩) n cap : Value), (.slice vd2 (m + k) vc2 : Value), (.int .i64 ((m + k : Nat) : Int) : Value), (.pointer (some ⟨ab, ao + (m + k), none⟩) : Value), (.int .u8 (tx.toNat : Int) : Value), (.int .u8 ((bx ^^^ tx).toNat : Int) : Value), (.slice (some ⟨wr.drew.heap.size, 0, none⟩) 1 1 : Value), v', ?_, hfin v' w' h1 h2 h3 h4 h5 h6⟩
              rw [hA]; simp [Act.put]
        · rintro _ W' ⟨t32, t33, t34, t35, t36, t37, t38, t39, t40, t41, rfl, hO', hb', hko', hkx'⟩
          rw [hA]
          simp only [Act.put, List.setIfInBounds_toArray, List.set_cons_zero, List.set_cons_succ]
          have HO' := hid hO'
          have Hb' := hid hb'
          have Hko' := hid hko'
          have Hkx' := hid hkx'
          clear hO' hb' hko' hkx' hA hfin hSb hcV hcV2 hS hS2 Hv2 Hown2 hown hG1 HO Hb Hko Hkx
          gi_wp2
          go_roundw
          case rel => exact ⟨k + 1, by omega, by go_num, HO'.out, Hb'.out, Hko'.out, Hkx'.out⟩
          case measure => simp [intOf]; omega
      · have Hkd : k = d := by omega
        have HE : Hid (OutAt w.heap.size w (outL (pre ++ [x]) text) a n cap wr) := by
          show OutAt _ _ _ _ _ _ _
          rw [← midL_end, ← Hm.out, ← Hn.out, ← Hd.out, ← Hkd]
          exact HO.out
        gi_wp2
        exact ⟨Hko.out.from _, Hkx.out, HE.out⟩
  case done =>
    rintro D xs W hD rfl hI hK
    obtain ⟨v, hv, hown, _⟩ := hI.box
    obtain ⟨vd, vc, rfl, _, _⟩ := bytes_of_own hown
    have cV := hv.cell
    have Hown : Hid (W.ownsRow w.heap.size 5 1 (.slice vd (outL (blkL key once (nblk n)) text).length vc) (cross key once text).length (cellsOf (cross key once text))) := by
      show World.ownsRow _ _ _ _ _ _ _
      have h := hown
      rw [Hn.out, outL_all] at h
      rw [Hn.out, outL_all]
      exact h
    have Hb := hid hI.bel
    have HK2 := hid hK
    clear hown hv hI hK
    gi_wp2
    refine ⟨by simp, .inl ⟨_, _, rfl, run_takeDeferred HK2.out, ?_⟩⟩
    refine ⟨_, results_tmp rfl _ _ _, ⟨_, rfl, ownsRow_putObj Hown.out _ HK2.out rfl, ?_⟩⟩
    exact Hb.out.trans (belowK_b (w := w) (Nat.le_refl _) W D _ _ (by omega) HK2.out rfl rfl)
end Go.Proofs.YtomhcccjeadefaaGreatDoor
