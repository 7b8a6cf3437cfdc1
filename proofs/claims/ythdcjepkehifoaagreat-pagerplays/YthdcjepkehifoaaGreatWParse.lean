/- parseHead and parseIndex of package wal, each by a contract. -/
import Derived.Test.YthdcjepkehifoaaGreatWLay
import Derived.Laws.ResultCell
import Derived.Laws.Rows
namespace Go.Proofs.YthdcjepkehifoaaGreat
open Go.RowKit
set_option linter.unusedVariables false
set_option maxRecDepth 20000

theorem results_row_tmp {P : Program} {fn : Func} {p u : Tmp} {ty : TypeId} (h : fn.results = #[.cell p ty, .tmp u]) (tmps : Array Value) (w : World) (g : Nat) (t : TypeId) (cs : Array Value) (fr : Nat × Nat) (d : TypeDesc)
    (hp : tmps.getD p undef = .pointer (some ⟨g, 0, none⟩)) (hg : w.heap[g]? = some (.cells cs t fr))
    (hu : P.underlying ty = some d) (hd : (match d with | .struct _ | .array _ _ => true | _ => false) = true) (hi : (P.info? ty).map (·.size) = some cs.size) :
    (results fn tmps).run P w = .ok (.tuple #[.agg cs, tmps.getD u undef]) w := by
  rw [results_cell_tmp h, hp]
  simp [asAddr, run_loadVar_row w g t ty cs fr d hg hu hd hi, Result.andThen]
theorem size_head : (Tryz.prog.info? 96).map (·.size) = some 2 := by kernel_rfl
theorem Bytes.part {w : World} {b o : Nat} {x : List UInt8} (h : Bytes w (some ⟨b, o, none⟩) x) (i m : Nat) : Bytes w (some ⟨b, o + i, none⟩) ((x.drop i).take m) := fun j hj => by
  have hj' : i + j < x.length := by rw [List.length_take, List.length_drop] at hj; omega
  obtain ⟨b', o', e, hc⟩ := h (i + j) hj'
  cases e
  refine ⟨b, o + i, rfl, ?_⟩
  rw [Nat.add_assoc, hc, List.getElem_take, List.getElem_drop]
theorem part_length {x : List UInt8} (i m : Nat) (h : i + m ≤ x.length) : ((x.drop i).take m).length = m := by rw [List.length_take, List.length_drop]; omega

theorem bytes_of_row {w : World} {B g c n : Nat} {l : List UInt8} (h : w.ownsRow B 5 1 (.slice (some ⟨g, 0, none⟩) n c) n (cellsOf l)) (hl : l.length = n) : Bytes w (some ⟨g, 0, none⟩) l := fun i hi => by
  refine ⟨g, 0, rfl, ?_⟩
  have := World.ownsRow.cellAt h i (by omega)
  rw [Nat.zero_add, this, cellsOf_get l i hi]
theorem head_parse (x : List UInt8) (hl : x.length = 256) (h0 : x ≠ List.replicate 256 0) :
    (num ((x.drop 2).take 8) < 9223372036854775808 ∧ headB (num ((x.drop 2).take 8)) (numAt x 10) = x → HeadIn x (num ((x.drop 2).take 8)) (numAt x 10)) ∧
    (¬ (num ((x.drop 2).take 8) < 9223372036854775808 ∧ headB (num ((x.drop 2).take 8)) (numAt x 10) = x) → ∀ G U, ¬ HeadIn x G U) := by
  have hU : numAt x 10 < 65536 := by
    have := num_lt ((x.drop 10).take 2)
    rw [part_length 10 2 (by omega)] at this
    exact this
  refine ⟨fun h => .inr ⟨h.2.symm, h.1, hU⟩, fun h G U hh => h ?_⟩
  rcases hh with ⟨e, _⟩ | ⟨e, h1, h2⟩
  · exact absurd e h0
  · have e1 := headB_groups G U (by omega)
    have e2 := headB_used G U h2
    rw [← e] at e1 e2
    rw [e1, e2]
    exact ⟨h1, e.symm⟩

theorem number_part {w : World} {b o : Nat} {x : List UInt8} (h : Bytes w (some ⟨b, o, none⟩) x) (i m c : Nat) (hm : m ≤ 8) (hi : i + m ≤ x.length) :
    Calls Tryz.prog 165 #[.slice (some ⟨b, o + i, none⟩) m c] w fun e w' => e = .returned (.int .u64 (num ((x.drop i).take m) : Int)) ∧ w' = w := by
  have := number_any ((x.drop i).take m) b (o + i) c w (h.part i m) (by rw [part_length i m hi]; exact hm)
  rw [part_length i m hi] at this
  exact this

set_option maxHeartbeats 800000 in
theorem parseHead_zero (x : List UInt8) (hl : x.length = 256) (b o cap : Nat) (w : World) (hB : Bytes w (some ⟨b, o, none⟩) x) (h0 : x = List.replicate 256 0) :
    Calls Tryz.prog 137 #[.slice (some ⟨b, o, none⟩) 256 cap] w fun e w' => e = .returned (.tuple #[.agg #[.int .i64 0, .int .i64 0], .bool true]) ∧ Below w.heap.size w w' := by
  have Hz : Hid (∀ ob, Calls Tryz.prog 164 #[.slice (some ⟨b, o, none⟩) 256 cap] (w.alloc ob) fun e w' => e = .returned (.bool true) ∧ w' = w.alloc ob) := fun ob => by
    have := isZero_any x b o cap (w.alloc ob) (hB.below ((Below.refl _ w).alloc (Nat.le_refl _) _)) (by omega)
    rw [hl] at this
    rw [show decide (x = List.replicate 256 0) = true from decide_eq_true h0] at this
    exact this
  clear hB h0
  go_enter Tryz.func137, Tryz.ntmps137
  go_wp2_with (go_at_call 164; refine (Hz.out _).mono ?_; rintro e w1 ⟨rfl, rfl⟩)
  refine bodyPost_ret (results_row_tmp rfl _ _ w.heap.size _ _ (0, 0) _ rfl (heap_alloc_new _ _) Tryz.underlying96 rfl size_head) rfl ?_
  exact ⟨rfl, (Below.refl _ w).alloc (Nat.le_refl _) _⟩

set_option maxHeartbeats 800000 in
theorem parseHead_some (x : List UInt8) (hl : x.length = 256) (b o cap : Nat) (w : World) (hB : Bytes w (some ⟨b, o, none⟩) x) (h0 : x ≠ List.replicate 256 0) (hcap : 256 ≤ cap) :
    Calls Tryz.prog 137 #[.slice (some ⟨b, o, none⟩) 256 cap] w fun e w' => ∃ (G U : Nat) (ok : Bool), e = .returned (.tuple #[.agg #[.int .i64 (G : Int), .int .i64 (U : Int)], .bool ok]) ∧ ((ok = true ∧ HeadIn x G U) ∨ (ok = false ∧ ∀ G U, ¬ HeadIn x G U)) ∧ Below w.heap.size w w' := by
  have Hz : Hid (∀ ob, Calls Tryz.prog 164 #[.slice (some ⟨b, o, none⟩) 256 cap] (w.alloc ob) fun e w' => e = .returned (.bool false) ∧ w' = w.alloc ob) := fun ob => by
    have := isZero_any x b o cap (w.alloc ob) (hB.below ((Below.refl _ w).alloc (Nat.le_refl _) _)) (by omega)
    rw [hl] at this
    rw [show decide (x = List.replicate 256 0) = false from decide_eq_false h0] at this
    exact this
  have HB := hid hB
  have Hn1 : Hid (∀ u c, Below w.heap.size w u → Calls Tryz.prog 165 #[.slice (some ⟨b, o + 2, none⟩) 8 c] u fun e w' => e = .returned (.int .u64 (num ((x.drop 2).take 8) : Int)) ∧ w' = u) := fun u c hu => number_part (hB.below hu) 2 8 c (by omega) (by omega)
  have Hn2 : Hid (∀ u c, Below w.heap.size w u → Calls Tryz.prog 165 #[.slice (some ⟨b, o + 10, none⟩) 2 c] u fun e w' => e = .returned (.int .u64 (numAt x 10 : Int)) ∧ w' = u) := fun u c hu => number_part (hB.below hu) 10 2 c (by omega) (by omega)
  have hG : num ((x.drop 2).take 8) < 18446744073709551616 := by
    have := num_lt ((x.drop 2).take 8)
    rw [part_length 2 8 (by omega)] at this
    exact this
  have hU : numAt x 10 < 65536 := by
    have := num_lt ((x.drop 10).take 2)
    rw [part_length 10 2 (by omega)] at this
    exact this
  have Hp := hid (head_parse x hl h0)
  generalize num ((x.drop 2).take 8) = G at *
  generalize numAt x 10 = U at *
  clear hB h0
  have n2 : ¬ cap = 2 := by omega
  have n10 : ¬ cap = 10 := by omega
  have f1 : (10 : Int) ≤ (cap : Int) := by omega
  have f2 : (12 : Int) ≤ (cap : Int) := by omega
  have eU : IntKind.i64.wrap (U : Int) = (U : Int) := by rw [IntKind.wrap_i64]; omega
  go_enter Tryz.func137, Tryz.ntmps137
  go_wp2_with (go_at_call 164; refine (Hz.out _).mono ?_; rintro e w1 ⟨rfl, rfl⟩)
  have Hb1 := hid ((Below.refl _ w).alloc (Nat.le_refl _) (.cells #[.int .i64 0, .int .i64 0] 96))
  have Hh1 := hid (heap_alloc_new w (.cells #[.int .i64 0, .int .i64 0] 96))
  have hs1 : (w.alloc (.cells #[.int .i64 0, .int .i64 0] 96)).heap.size = w.heap.size + 1 := World.size_alloc _ _
  generalize w.alloc (.cells #[.int .i64 0, .int .i64 0] 96) = W at *
  by_cases hGs : G < 9223372036854775808
  · have eG : IntKind.i64.wrap (G : Int) = (G : Int) := by rw [IntKind.wrap_i64]; omega
    go_region_held3 (fun w9 => True) (trivial)
      (first
        | ((go_at_call 165; refine (Hn1.out _ _ ?_).mono ?_; (first | (exact Hb1.out.drew) | (exact Hb1.out.drew.alloc (Nat.le_trans Hb1.out.size (Nat.le_refl _)) _)); rintro e u ⟨rfl, rfl⟩; clear Hn1))
        | ((go_at_call 165; refine (Hn2.out _ _ ?_).mono ?_; (first | (exact Hb1.out.drew) | (exact Hb1.out.drew.alloc (Nat.le_trans Hb1.out.size (Nat.le_refl _)) _)); rintro e u ⟨rfl, rfl⟩)))
    all_goals
      have Hb2 := hid ((Hb1.out.alloc Hb1.out.size (.cells #[.int .i64 (G : Int), .int .i64 (U : Int)] 96)).drew)
      have Hx2 := hid ((Below.heap_alloc W (.cells #[.int .i64 (G : Int), .int .i64 (U : Int)] 96) w.heap.size (by omega)).trans Hh1.out)
      have Hy2 := hid (heap_alloc_new W (.cells #[.int .i64 (G : Int), .int .i64 (U : Int)] 96))
      rw [hs1] at Hy2
      have hs2 : (W.alloc (.cells #[.int .i64 (G : Int), .int .i64 (U : Int)] 96)).drew.heap.size = w.heap.size + 2 := by show (W.alloc _).heap.size = _; rw [World.size_alloc, hs1]
      have hhd : ∀ k : Nat, (W.alloc (.cells #[.int .i64 (G : Int), .int .i64 (U : Int)] 96)).drew.heap[k]? = (W.alloc (.cells #[.int .i64 (G : Int), .int .i64 (U : Int)] 96)).heap[k]? := fun _ => rfl
      rw [← hhd] at Hx2 Hy2
      clear hhd Hb1 Hh1
      generalize (W.alloc (.cells #[.int .i64 (G : Int), .int .i64 (U : Int)] 96)).drew = V at *
      have g0 := cell_of_row _ _ 0 _ _ _ Hy2.out
      have g1 := cell_of_row _ _ 1 _ _ _ Hy2.out
      by_cases heq : headB G U = x
      · have Hd : Hid (decide (headB G U = x) = true) := decide_eq_true heq
        have Hin := hid (Hp.out.1 ⟨hGs, heq⟩)
        clear heq
        go_wp2_with (first | (go_at_call 149; refine (headBytes_any G U _ hGs hU).mono ?_; rintro e w3 ⟨gg, cc, rfl, ho3, hb3⟩; have Hb3 := hid (Hb2.out.trans (hb3.mono (by omega))); have He := hid (equal_any (headB G U) x _ _ cc cap w3 (bytes_of_row ho3 (headB_length G U)) (HB.out.below Hb3.out)); rw [headB_length, hl, Hd.out] at He; have Hx3 := hid ((hb3.block _ (by omega)).trans Hx2.out); have Hy3 := hid ((hb3.block _ (by omega)).trans Hy2.out); have j0 := cell_of_row _ _ 0 _ _ _ Hy3.out; have j1 := cell_of_row _ _ 1 _ _ _ Hy3.out; have x0 := cell_of_row _ _ 0 _ _ _ Hx3.out; have x1 := cell_of_row _ _ 1 _ _ _ Hx3.out; have z0 := frozen_of_row _ _ 0 _ _ Hx3.out; have z1 := frozen_of_row _ _ 1 _ _ Hx3.out; clear ho3 hb3 g0 g1) | (go_at_call 166; refine He.out.mono ?_; rintro e w4 ⟨rfl, rfl⟩))
        have r1 := heap_setCell_same _ w.heap.size 0 _ _ (.int .i64 (G : Int)) Hx3.out
        have r2 := heap_setCell_same _ w.heap.size 1 _ _ (.int .i64 (U : Int)) r1
        refine bodyPost_ret (results_row_tmp rfl _ _ w.heap.size _ _ (0, 0) _ rfl r2 Tryz.underlying96 rfl size_head) rfl ?_
        exact ⟨G, U, true, rfl, .inl ⟨rfl, Hin.out⟩, (Hb3.out.setCell (p := ⟨w.heap.size, 0, none⟩) (Nat.le_refl _) _).setCell (p := ⟨w.heap.size, 1, none⟩) (Nat.le_refl _) _⟩
      · have Hd : Hid (decide (headB G U = x) = false) := decide_eq_false heq
        have Hin := hid (Hp.out.2 fun h => heq h.2)
        clear heq
        go_wp2_with (first | (go_at_call 149; refine (headBytes_any G U _ hGs hU).mono ?_; rintro e w3 ⟨gg, cc, rfl, ho3, hb3⟩; have Hb3 := hid (Hb2.out.trans (hb3.mono (by omega))); have He := hid (equal_any (headB G U) x _ _ cc cap w3 (bytes_of_row ho3 (headB_length G U)) (HB.out.below Hb3.out)); rw [headB_length, hl, Hd.out] at He; have Hx3 := hid ((hb3.block _ (by omega)).trans Hx2.out); have Hy3 := hid ((hb3.block _ (by omega)).trans Hy2.out); have j0 := cell_of_row _ _ 0 _ _ _ Hy3.out; have j1 := cell_of_row _ _ 1 _ _ _ Hy3.out; have x0 := cell_of_row _ _ 0 _ _ _ Hx3.out; have x1 := cell_of_row _ _ 1 _ _ _ Hx3.out; have z0 := frozen_of_row _ _ 0 _ _ Hx3.out; have z1 := frozen_of_row _ _ 1 _ _ Hx3.out; clear ho3 hb3 g0 g1) | (go_at_call 166; refine He.out.mono ?_; rintro e w4 ⟨rfl, rfl⟩))
        have r1 := heap_setCell_same _ w.heap.size 0 _ _ (.int .i64 0) Hx3.out
        have r2 := heap_setCell_same _ w.heap.size 1 _ _ (.int .i64 0) r1
        refine bodyPost_ret (results_row_tmp rfl _ _ w.heap.size _ _ (0, 0) _ rfl r2 Tryz.underlying96 rfl size_head) rfl ?_
        exact ⟨0, 0, false, rfl, .inr ⟨rfl, Hin.out⟩, (Hb3.out.setCell (p := ⟨w.heap.size, 0, none⟩) (Nat.le_refl _) _).setCell (p := ⟨w.heap.size, 1, none⟩) (Nat.le_refl _) _⟩
  · obtain ⟨M, hM⟩ : ∃ M : Int, M = (G : Int) - 18446744073709551616 := ⟨_, rfl⟩
    have eG : IntKind.i64.wrap (G : Int) = M := by rw [IntKind.wrap_i64, hM]; omega
    have hMn : M < 0 := by omega
    have Hin := hid (Hp.out.2 fun h => hGs h.1)
    clear hM
    go_region_held3 (fun w9 => True) (trivial)
      (first
        | ((go_at_call 165; refine (Hn1.out _ _ ?_).mono ?_; (first | (exact Hb1.out.drew) | (exact Hb1.out.drew.alloc (Nat.le_trans Hb1.out.size (Nat.le_refl _)) _)); rintro e u ⟨rfl, rfl⟩; clear Hn1))
        | ((go_at_call 165; refine (Hn2.out _ _ ?_).mono ?_; (first | (exact Hb1.out.drew) | (exact Hb1.out.drew.alloc (Nat.le_trans Hb1.out.size (Nat.le_refl _)) _)); rintro e u ⟨rfl, rfl⟩)))
    all_goals
      have Hb2 := hid ((Hb1.out.alloc Hb1.out.size (.cells #[.int .i64 M, .int .i64 (U : Int)] 96)).drew)
      have Hx2 := hid ((Below.heap_alloc W (.cells #[.int .i64 M, .int .i64 (U : Int)] 96) w.heap.size (by omega)).trans Hh1.out)
      have Hy2 := hid (heap_alloc_new W (.cells #[.int .i64 M, .int .i64 (U : Int)] 96))
      rw [hs1] at Hy2
      have hhd : ∀ k : Nat, (W.alloc (.cells #[.int .i64 M, .int .i64 (U : Int)] 96)).drew.heap[k]? = (W.alloc (.cells #[.int .i64 M, .int .i64 (U : Int)] 96)).heap[k]? := fun _ => rfl
      rw [← hhd] at Hx2 Hy2
      clear hhd Hb1 Hh1
      generalize (W.alloc (.cells #[.int .i64 M, .int .i64 (U : Int)] 96)).drew = V at *
      have g0 := cell_of_row _ _ 0 _ _ _ Hy2.out
      have x0 := cell_of_row _ _ 0 _ _ _ Hx2.out
      have x1 := cell_of_row _ _ 1 _ _ _ Hx2.out
      have z0 := frozen_of_row _ _ 0 _ _ Hx2.out
      have z1 := frozen_of_row _ _ 1 _ _ Hx2.out
      go_wp2
      have r1 := heap_setCell_same _ w.heap.size 0 _ _ (.int .i64 0) Hx2.out
      have r2 := heap_setCell_same _ w.heap.size 1 _ _ (.int .i64 0) r1
      refine bodyPost_ret (results_row_tmp rfl _ _ w.heap.size _ _ (0, 0) _ rfl r2 Tryz.underlying96 rfl size_head) rfl ?_
      exact ⟨0, 0, false, rfl, .inr ⟨rfl, Hin.out⟩, (Hb2.out.setCell (p := ⟨w.heap.size, 0, none⟩) (Nat.le_refl _) _).setCell (p := ⟨w.heap.size, 1, none⟩) (Nat.le_refl _) _⟩

theorem parseHead_any (x : List UInt8) (hl : x.length = 256) (b o cap : Nat) (w : World) (hB : Bytes w (some ⟨b, o, none⟩) x) (hcap : 256 ≤ cap) :
    Calls Tryz.prog 137 #[.slice (some ⟨b, o, none⟩) 256 cap] w fun e w' => ∃ (G U : Nat) (ok : Bool), e = .returned (.tuple #[.agg #[.int .i64 (G : Int), .int .i64 (U : Int)], .bool ok]) ∧ ((ok = true ∧ HeadIn x G U) ∨ (ok = false ∧ ∀ G U, ¬ HeadIn x G U)) ∧ Below w.heap.size w w' := by
  by_cases h0 : x = List.replicate 256 0
  · refine (parseHead_zero x hl b o cap w hB h0).mono ?_
    rintro e w' ⟨rfl, hb⟩
    exact ⟨0, 0, true, rfl, .inl ⟨rfl, .inl ⟨h0, rfl, rfl⟩⟩, hb⟩
  · exact parseHead_some x hl b o cap w hB h0 hcap
end Go.Proofs.YthdcjepkehifoaaGreat
