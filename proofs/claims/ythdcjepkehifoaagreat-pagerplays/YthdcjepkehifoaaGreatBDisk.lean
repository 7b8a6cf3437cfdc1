/- Disks in memory, and New, reach, Blocks, Count, Read of package block, each by a contract. -/
import Derived.Test.YthdcjepkehifoaaGreatBBase
namespace Go.Proofs.YthdcjepkehifoaaGreat
open Go.RowKit
set_option linter.unusedVariables false
set_option maxRecDepth 20000

/-- pages as cells; changes as cells -/
def pcells (ps : List (List UInt8)) : List Value := cellsOf ps.flatten
def ccells (ch : List (Nat × List UInt8)) : List Value := ch.flatMap fun c => .int .i64 (c.1 : Int) :: cellsOf c.2

/-- A disk in memory: its own block d, its pages' row in block g, its changes v. -/
structure DiskAt (w : World) (B d g cap : Nat) (v : Value) (ps : List (List UInt8)) (ch : List (Nat × List UInt8)) : Prop where
  obj : w.heap[d]? = some (.cells #[.slice (some ⟨g, 0, none⟩) ps.length cap, v, .int .i64 (ch.length : Int)] 118 (0, 0))
  pages : w.ownsRow B 120 256 (.slice (some ⟨g, 0, none⟩) ps.length cap) ps.length (pcells ps)
  full : ∀ p ∈ ps, p.length = 256
  chs : w.ownsRow B 122 257 v ch.length (ccells ch)
  chin : ∀ c ∈ ch, c.1 < ps.length ∧ c.2.length = 256
  bd : B ≤ d
  dg : d ≠ g
  vd : v.ownBlock ≠ some d
  vg : v.ownBlock ≠ some g
  vnil : ch = [] → v = .slice none 0 0

/-- a page of zeros -/
def zpage : List UInt8 := List.replicate 256 0

theorem Tryz.info120 : (Tryz.prog.info? 120).map (fun i => (i.zero, i.size, i.bytes)) = some (some (.agg (Array.replicate 256 (.int .u8 0))), 256, 256) := by kernel_rfl

theorem made_pages (n : Nat) : (madeCells (Value.agg (Array.replicate 256 (.int .u8 0))).cells (n * 256)).toList = pcells (List.replicate n zpage) := by
  have e1 : (Value.agg (Array.replicate 256 (.int .u8 0))).cells = Array.replicate 256 (.int .u8 0) := rfl
  have e2 : (List.replicate n zpage).flatten = List.replicate (n * 256) 0 := by unfold zpage; rw [List.flatten_replicate_replicate]
  rw [e1, pcells, e2, cellsOf, List.map_replicate]
  apply List.ext_getElem
  · simp [madeCells]
  · intro i h1 h2
    simp [madeCells, Nat.mod_lt]

set_option maxHeartbeats 800000 in
set_option maxRecDepth 20000 in
theorem new_bad (n : Int) (w : World) (h : n < 1 ∨ 1024 < n) :
    Calls Tryz.prog 71 #[.int .i64 n] w fun e w' => e = .returned (.tuple #[.pointer none, .int .i64 2]) ∧ w' = w := by
  go_enter Tryz.func71, Tryz.ntmps71
  rcases h with h | h
  · go_wp2
    go_ret2
    exact ⟨rfl, rfl⟩
  · by_cases h1 : n < 1
    · omega
    · go_wp2
      go_ret2
      exact ⟨rfl, rfl⟩

set_option maxHeartbeats 800000 in
set_option maxRecDepth 20000 in
theorem new_ok (n : Nat) (w : World) (h1 : 1 ≤ n) (h2 : n ≤ 1024) :
    Calls Tryz.prog 71 #[.int .i64 n] w fun e w' => ∃ d g cap, e = .returned (.tuple #[.pointer (some ⟨d, 0, none⟩), .int .i64 0]) ∧ DiskAt w' w.heap.size d g cap (.slice none 0 0) (List.replicate n zpage) [] ∧ Below w.heap.size w w' := by
  obtain ⟨i0, hi, hz0, hz1, hz2⟩ := info_parts Tryz.info120
  have f1 : (1 : Int) ≤ (n : Int) := by omega
  have f2 : (n : Int) ≤ 1024 := by omega
  go_enter Tryz.func71, Tryz.ntmps71
  go_wp2_with (at_make; refine wpList_make_full _ rfl _ _ 110 rfl w.heap.size 120 i0 _ 256 Tryz.underlying110 hi hz0 hz1 .i64 .i64 _ _ n rfl rfl (by omega) (by omega) (by rw [hz2]; omega) (by unfold maxLen; omega) (Nat.le_refl _) ?_; intro w0 hown0 hgrow0)
  go_ret2
  have hlt := (hown0.lt w.heap.size rfl).2
  refine ⟨w0.heap.size, w.heap.size, n, rfl, ⟨?_, ?_, fun p hp => ?_, World.ownsRow_nil _ _ _ _, fun c hc => (by cases hc), by omega, by omega, (fun h => by cases h), (fun h => by cases h), fun _ => rfl⟩, ((Below.refl _ w).grown hgrow0 (Nat.le_refl _) (by simp)).alloc hgrow0.size _⟩
  · rw [List.length_replicate]; exact heap_alloc_new _ _
  · rw [List.length_replicate, ← made_pages]; exact hown0.alloc _
  · rw [(List.mem_replicate.1 hp).2]; simp [zpage]

/-- the cells of a disk's own block -/
theorem DiskAt.c0 {w : World} {B d g cap : Nat} {v : Value} {ps : List (List UInt8)} {ch : List (Nat × List UInt8)} (h : DiskAt w B d g cap v ps ch) : w.cell? ⟨d, 0, none⟩ = some (.slice (some ⟨g, 0, none⟩) ps.length cap) := cell_of_row _ _ 0 _ _ _ h.obj
theorem DiskAt.c1 {w : World} {B d g cap : Nat} {v : Value} {ps : List (List UInt8)} {ch : List (Nat × List UInt8)} (h : DiskAt w B d g cap v ps ch) : w.cell? ⟨d, 1, none⟩ = some v := cell_of_row _ _ 1 _ _ _ h.obj
theorem DiskAt.c2 {w : World} {B d g cap : Nat} {v : Value} {ps : List (List UInt8)} {ch : List (Nat × List UInt8)} (h : DiskAt w B d g cap v ps ch) : w.cell? ⟨d, 2, none⟩ = some (.int .i64 (ch.length : Int)) := cell_of_row _ _ 2 _ _ _ h.obj
theorem DiskAt.z {w : World} {B d g cap : Nat} {v : Value} {ps : List (List UInt8)} {ch : List (Nat × List UInt8)} (h : DiskAt w B d g cap v ps ch) (j : Nat) : w.frozen? ⟨d, j, none⟩ = false := frozen_of_row _ _ j _ _ h.obj
theorem DiskAt.plen {w : World} {B d g cap : Nat} {v : Value} {ps : List (List UInt8)} {ch : List (Nat × List UInt8)} (h : DiskAt w B d g cap v ps ch) : ps.length ≤ maxLen := by
  rcases h.pages.2 with ⟨h, _⟩ | ⟨_, _, _, hv, _, _, h1, h2, _⟩
  · cases h
  · omega
/-- what a disk asks of the world is that its blocks are as they were -/
theorem DiskAt.keep {w w' : World} {B d g cap : Nat} {v : Value} {ps : List (List UInt8)} {ch : List (Nat × List UInt8)} (h : DiskAt w B d g cap v ps ch) (hd : w'.heap[d]? = w.heap[d]?) (hg : w'.heap[g]? = w.heap[g]?) (hv : ∀ k, v.ownBlock = some k → w'.heap[k]? = w.heap[k]?) : DiskAt w' B d g cap v ps ch := by
  refine ⟨hd.trans h.obj, ⟨h.pages.1, ?_⟩, h.full, ⟨h.chs.1, ?_⟩, h.chin, h.bd, h.dg, h.vd, h.vg, h.vnil⟩
  · rcases h.pages.2 with h | ⟨g', cap', cur, hv, hb, hh, r⟩
    · exact .inl h
    · have : g' = g := by cases hv; rfl
      exact .inr ⟨g', cap', cur, hv, hb, by rw [this] at hh ⊢; exact hg.trans hh, r⟩
  · rcases h.chs.2 with h | ⟨g', cap', cur, hv', hb, hh, r⟩
    · exact .inl h
    · exact .inr ⟨g', cap', cur, hv', hb, (hv g' (by rw [hv']; rfl)).trans hh, r⟩
theorem DiskAt.lts {w : World} {B d g cap : Nat} {v : Value} {ps : List (List UInt8)} {ch : List (Nat × List UInt8)} (h : DiskAt w B d g cap v ps ch) : d < w.heap.size ∧ g < w.heap.size ∧ ∀ k, v.ownBlock = some k → k < w.heap.size :=
  ⟨(Array.getElem?_eq_some_iff.1 h.obj).1, (h.pages.lt g rfl).2, fun k hk => (h.chs.lt k hk).2⟩
theorem DiskAt.below {w w' : World} {B d g cap : Nat} {v : Value} {ps : List (List UInt8)} {ch : List (Nat × List UInt8)} (h : DiskAt w B d g cap v ps ch) (hb : Below w.heap.size w w') : DiskAt w' B d g cap v ps ch :=
  h.keep (hb.block _ h.lts.1) (hb.block _ h.lts.2.1) (fun k hk => hb.block _ (h.lts.2.2 k hk))

/-- the error of asking for a block -/
def reachErr (n : Int) (m : Nat) : Nat := if n < 0 ∨ (m : Int) ≤ n then 2 else 0

set_option maxHeartbeats 800000 in
set_option maxRecDepth 20000 in
theorem reach_nil (n : Int) (w : World) : Calls Tryz.prog 147 #[.pointer none, .int .i64 n] w fun e w' => e = .returned (.int .i64 1) ∧ w' = w := by
  go_enter Tryz.func147, Tryz.ntmps147
  go_wp2
  go_ret
  exact ⟨rfl, rfl⟩

set_option maxHeartbeats 800000 in
set_option maxRecDepth 20000 in
theorem reach_any {w : World} {B d g cap : Nat} {v : Value} {ps : List (List UInt8)} {ch : List (Nat × List UInt8)} (h : DiskAt w B d g cap v ps ch) (n : Int) :
    Calls Tryz.prog 147 #[.pointer (some ⟨d, 0, none⟩), .int .i64 n] w fun e w' => e = .returned (.int .i64 (reachErr n ps.length : Int)) ∧ w' = w := by
  have c0 := h.c0
  clear h
  go_enter Tryz.func147, Tryz.ntmps147
  by_cases h1 : n < 0
  · go_wp2
    go_ret
    exact ⟨ret_int (by unfold reachErr; rw [if_pos (.inl h1)]; rfl), rfl⟩
  · by_cases h2 : (ps.length : Int) ≤ n
    · go_wp2
      go_ret
      exact ⟨ret_int (by unfold reachErr; rw [if_pos (.inr h2)]; rfl), rfl⟩
    · go_wp2
      go_ret
      exact ⟨ret_int (by unfold reachErr; rw [if_neg (by omega)]; rfl), rfl⟩

set_option maxHeartbeats 800000 in
theorem blocks_any {w : World} {B d g cap : Nat} {v : Value} {ps : List (List UInt8)} {ch : List (Nat × List UInt8)} (h : DiskAt w B d g cap v ps ch) :
    Calls Tryz.prog 129 #[.pointer (some ⟨d, 0, none⟩)] w fun e w' => e = .returned (.int .i64 (ps.length : Int)) ∧ w' = w := by
  have c0 := h.c0
  clear h
  go_enter Tryz.func129, Tryz.ntmps129
  go_wp2
  go_ret
  exact ⟨rfl, rfl⟩

set_option maxHeartbeats 800000 in
theorem blocks_nil (w : World) : Calls Tryz.prog 129 #[.pointer none] w fun e w' => e = .returned (.int .i64 0) ∧ w' = w := by
  go_enter Tryz.func129, Tryz.ntmps129
  go_wp2
  go_ret
  exact ⟨rfl, rfl⟩

set_option maxHeartbeats 800000 in
theorem load_any (d o : Nat) (x : Int) (w : World) (hc : w.cell? ⟨d, o, none⟩ = some (.int .i64 x)) :
    Calls Tryz.prog 87 #[.pointer (some ⟨d, o, none⟩)] w fun e w' => e = .returned (.int .i64 x) ∧ w' = w := by
  go_enter Tryz.func87, Tryz.ntmps87
  go_wp2
  rw [run_call_load Tryz.func136 (by kernel_rfl) (by kernel_rfl) (by kernel_rfl) .i64 (by kernel_rfl) hc]
  rw [Oper.upon_value]
  go_wp2
  go_ret
  exact ⟨rfl, rfl⟩

set_option maxHeartbeats 800000 in
theorem count_any {w : World} {B d g cap : Nat} {v : Value} {ps : List (List UInt8)} {ch : List (Nat × List UInt8)} (h : DiskAt w B d g cap v ps ch) :
    Calls Tryz.prog 39 #[.pointer (some ⟨d, 0, none⟩)] w fun e w' => e = .returned (.int .i64 (ch.length : Int)) ∧ w' = w := by
  have c2 := h.c2
  clear h
  go_enter Tryz.func39, Tryz.ntmps39
  go_wp2_with (go_at_call 87; refine (load_any _ _ _ _ c2).mono ?_; rintro e w' ⟨rfl, rfl⟩)
  go_ret
  exact ⟨rfl, rfl⟩

set_option maxHeartbeats 800000 in
theorem count_nil (w : World) : Calls Tryz.prog 39 #[.pointer none] w fun e w' => e = .returned (.int .i64 0) ∧ w' = w := by
  go_enter Tryz.func39, Tryz.ntmps39
  go_wp2
  go_ret
  exact ⟨rfl, rfl⟩
end Go.Proofs.YthdcjepkehifoaaGreat
