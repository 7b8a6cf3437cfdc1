/- A hash that may go on: how it lies in memory; its start. -/
import Derived.Test.YtkgengiopjjhbaaDoorHComp
namespace Go.Proofs.YtkgengiopjjhbaaDoor
open Go.RowKit
set_option linter.unusedVariables false
set_option maxRecDepth 20000

/-- the cells of a running hash: its state, its block, how many bytes there were -/
def rcells (s : S8) (bk : List UInt8) (n : Nat) : List Value := s.toL.map vw ++ (cellsOf bk ++ [.int .i64 (n : Int)])
def rvals (s : S8) (bk : List UInt8) (n : Nat) : Array Value := (rcells s bk n).toArray
theorem rvals_size (s : S8) (bk : List UInt8) (n : Nat) (h : bk.length = 64) : (rvals s bk n).size = 73 := by simp [rvals, rcells, S8.toL, cellsOf, h]
theorem rvals_one (s : S8) (bk : List UInt8) (n : Nat) : (rvals s bk n).all (·.oneCell') = true := by
  rw [Array.all_eq_true_iff_forall_mem]
  intro v hv
  simp only [rvals, rcells, cellsOf, List.mem_toArray, List.mem_append, List.mem_map, List.mem_singleton] at hv
  rcases hv with ⟨c, _, rfl⟩ | ⟨c, _, rfl⟩ | rfl <;> rfl
theorem size_running : (Tryd.prog.info? 95).map (·.size) = some 73 := by kernel_rfl
theorem zero_running : (Tryd.prog.info? 95).map (fun i => (i.zero, i.size)) = some (some (.agg (rvals ⟨0, 0, 0, 0, 0, 0, 0, 0⟩ (List.replicate 64 0) 0)), 73) := by kernel_rfl
theorem built_running : Tryd.prog.built 95 [(0, .agg #[.int .u32 1779033703, .int .u32 3144134277, .int .u32 1013904242, .int .u32 2773480762, .int .u32 1359893119, .int .u32 2600822924, .int .u32 528734635, .int .u32 1541459225])] = some (rvals init (List.replicate 64 0) 0) := by kernel_rfl

theorem wpList_build_one {ops : Array Oper} {rest : List Oper} {o : Oper} {a : Act} {w : World} {Q : Exit → Act → World → Prop} (hg : o.guard = none) (t : TypeId) (i : Nat) (x : Operand) (ho : o.op = .build t #[(i, x)]) (v : Value) (cells : Array Value)
    (hx : a.eval x = v) (hb : Tryd.prog.built t [(i, v)] = some cells) (h : wpList Tryd.prog ops Q rest (a.put o.dst (.agg cells)) w) : wpList Tryd.prog ops Q (o :: rest) a w := by
  refine wpList_build hg t #[(i, x)] ho ?_ ?_
  · simp [hx, hb]
  · simpa [hx, hb] using h

set_option maxHeartbeats 1000000 in
theorem start_any (w : World) :
    Calls Tryd.prog 41 #[] w fun e w' => e = .returned (.agg (rvals init (List.replicate 64 0) 0)) ∧ Below w.heap.size w w' := by
  have zr := hid (zero_of_info zero_running).1
  have sz : Hid ((Tryd.prog.info? 95).map (·.size) = some (rvals init (List.replicate 64 0) 0).size) := by
    show _ = _
    rw [rvals_size _ _ _ (by simp)]
    exact size_running
  have so : Hid ((rvals ⟨0, 0, 0, 0, 0, 0, 0, 0⟩ (List.replicate 64 0) 0).size = (rvals init (List.replicate 64 0) 0).size) := by
    show _ = _
    rw [rvals_size _ _ _ (by simp), rvals_size _ _ _ (by simp)]
  have on := hid (rvals_one init (List.replicate 64 0) 0)
  have bl := hid built_running
  generalize rvals init (List.replicate 64 0) 0 = R at sz so on bl ⊢
  generalize rvals ⟨0, 0, 0, 0, 0, 0, 0, 0⟩ (List.replicate 64 0) 0 = Z at zr so
  go_enter Tryd.func41, Tryd.ntmps41
  go_wp2_with (with_reducible show Go.wpList _ _ _ _ _ _; first
    | refine wpList_alloc_row rfl 95 rfl Z zr.out ?_
    | refine wpList_build_one rfl 95 0 _ rfl (.agg #[.int .u32 1779033703, .int .u32 3144134277, .int .u32 1013904242, .int .u32 2773480762, .int .u32 1359893119, .int .u32 2600822924, .int .u32 528734635, .int .u32 1541459225]) R rfl bl.out ?_
    | (refine wpList_store_row rfl 95 _ _ rfl w.heap.size R rfl rfl _ _ (heap_alloc_new w _) sz.out so.out on.out ?_; rw [World.setRow_alloc_new]))
  refine bodyPost_ret (results_cell_row rfl _ _ w.heap.size 95 R (0, 0) _ rfl (heap_alloc_new w _) Tryd.underlying95 rfl sz.out) rfl ⟨rfl, ?_⟩
  exact (Below.refl _ w).alloc (Nat.le_refl _) _
end Go.Proofs.YtkgengiopjjhbaaDoor
