/- The reference's disks in memory, and New of them. -/
import Derived.Test.YthdcjepkehifoaaGreatBSwap
namespace Go.Proofs.YthdcjepkehifoaaGreat
open Go.RowKit
set_option linter.unusedVariables false
set_option maxRecDepth 20000
attribute [local go_sem ↓] Go.wp_at_zero Go.wp_at_succ

/-- the log of a reference's disk as cells -/
def lcells : List (Nat × List UInt8) → List Value → List Value
  | c :: ls, u :: us => .int .i64 (c.1 : Int) :: u :: lcells ls us
  | _, _ => []
/-- a block that a reference's disk leans on, but its own -/
def refBlock (F L : Value) (vs us : List Value) (k : Nat) : Prop := F.ownBlock = some k ∨ L.ownBlock = some k ∨ (∃ v ∈ vs, v.ownBlock = some k) ∨ ∃ u ∈ us, u.ownBlock = some k
/-- A reference's disk in memory: its own block r, its first image F, its log L, their rows of bytes. -/
structure RefAt (w : World) (B r : Nat) (F L : Value) (vs us : List Value) (fs : List (List UInt8)) (ls : List (Nat × List UInt8)) : Prop where
  obj : w.heap[r]? = some (.cells #[F, L] 125 (0, 0))
  first : w.ownsRow B 36 1 F fs.length vs
  vlen : vs.length = fs.length
  rows : ∀ i (h : i < fs.length) (h' : i < vs.length), w.ownsRow B 5 1 vs[i] (fs[i]).length (cellsOf fs[i])
  log : w.ownsRow B 127 2 L ls.length (lcells ls us)
  ulen : us.length = ls.length
  lrows : ∀ i (h : i < ls.length) (h' : i < us.length), w.ownsRow B 5 1 us[i] (ls[i].2).length (cellsOf ls[i].2)
  lnil : ls = [] → L = .slice none 0 0
  br : B ≤ r
  far : ∀ k, refBlock F L vs us k → k ≠ r

theorem RefAt.keep {w w' : World} {B r : Nat} {F L : Value} {vs us : List Value} {fs : List (List UInt8)} {ls : List (Nat × List UInt8)} (h : RefAt w B r F L vs us fs ls) (hr : w'.heap[r]? = w.heap[r]?) (hk : ∀ k, refBlock F L vs us k → w'.heap[k]? = w.heap[k]?) : RefAt w' B r F L vs us fs ls :=
  ⟨hr.trans h.obj, own_keep h.first fun k e => hk k (.inl e), h.vlen, fun i hi hi' => own_keep (h.rows i hi hi') fun k e => hk k (.inr (.inr (.inl ⟨_, List.getElem_mem hi', e⟩))),
    own_keep h.log fun k e => hk k (.inr (.inl e)), h.ulen, fun i hi hi' => own_keep (h.lrows i hi hi') fun k e => hk k (.inr (.inr (.inr ⟨_, List.getElem_mem hi', e⟩))), h.lnil, h.br, h.far⟩
theorem RefAt.lts {w : World} {B r : Nat} {F L : Value} {vs us : List Value} {fs : List (List UInt8)} {ls : List (Nat × List UInt8)} (h : RefAt w B r F L vs us fs ls) : r < w.heap.size ∧ ∀ k, refBlock F L vs us k → B ≤ k ∧ k < w.heap.size := by
  refine ⟨(Array.getElem?_eq_some_iff.1 h.obj).1, fun k hk => ?_⟩
  rcases hk with e | e | ⟨v, hv, e⟩ | ⟨u, hu, e⟩
  · exact h.first.lt k e
  · exact h.log.lt k e
  · obtain ⟨i, hi, rfl⟩ := List.getElem_of_mem hv
    exact (h.rows i (by rw [← h.vlen]; exact hi) hi).lt k e
  · obtain ⟨i, hi, rfl⟩ := List.getElem_of_mem hu
    exact (h.lrows i (by rw [← h.ulen]; exact hi) hi).lt k e
theorem RefAt.below {w w' : World} {B r : Nat} {F L : Value} {vs us : List Value} {fs : List (List UInt8)} {ls : List (Nat × List UInt8)} (h : RefAt w B r F L vs us fs ls) (hb : Below w.heap.size w w') : RefAt w' B r F L vs us fs ls :=
  h.keep (hb.block _ h.lts.1) fun k hk => hb.block _ (h.lts.2 k hk).2
theorem RefAt.mono {w : World} {B B' r : Nat} {F L : Value} {vs us : List Value} {fs : List (List UInt8)} {ls : List (Nat × List UInt8)} (h : RefAt w B r F L vs us fs ls) (hB : B' ≤ B) : RefAt w B' r F L vs us fs ls :=
  ⟨h.obj, h.first.mono hB, h.vlen, fun i hi hi' => (h.rows i hi hi').mono hB, h.log.mono hB, h.ulen, fun i hi hi' => (h.lrows i hi hi').mono hB, h.lnil, by have := h.br; omega, h.far⟩

/-- making a page of zeros, kept whole in the walk -/
def makePg : Sem Value := Instr.makeSlice 36 (.int .i64 256) (.int .i64 256)
theorem makePg_fold : Instr.makeSlice 36 (.int .i64 256) (.int .i64 256) = makePg := rfl
def zcells : Array Value := (cellsOf zpage).toArray
theorem makePg_eq (w : World) : makePg.run Tryz.prog w = .ok (.slice (some ⟨w.heap.size, 0, none⟩) 256 256) (w.alloc (.cells zcells 5)) := by
  obtain ⟨i0, hi, hz0, hz1, hz2⟩ := info_parts Tryz.info5
  have h := run_make (P := Tryz.prog) w 36 5 i0 (.int .u8 0) Tryz.underlying36 hi hz0 .i64 .i64 256 256 (by omega) (by omega) (by rw [hz2]; omega) (by omega)
  unfold makePg
  rw [h, hz1]
  have e : madeCells (Value.int .u8 0).cells ((256 : Int).toNat * 1) = zcells := by
    apply Array.toList_inj.1
    exact made_zeros 256
  rw [e]
  rfl
theorem zcells_own (w : World) : (w.alloc (.cells zcells 5)).ownsRow w.heap.size 5 1 (.slice (some ⟨w.heap.size, 0, none⟩) 256 256) 256 (cellsOf zpage) := by
  refine ⟨by rw [cellsOf_length, zpage_length], .inr ⟨w.heap.size, 256, zcells, rfl, Nat.le_refl _, heap_alloc_new w _, Nat.le_refl _, by unfold maxLen; omega, ?_, ?_⟩⟩
  · simp [zcells, cellsOf_length, zpage_length]
  · rw [List.take_of_length_le (by simp [zcells, cellsOf_length, zpage_length])]
    rfl
end Go.Proofs.YthdcjepkehifoaaGreat
