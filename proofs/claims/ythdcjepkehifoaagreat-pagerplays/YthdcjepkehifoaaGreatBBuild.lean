/- What a change is as cells when it is built, and when a slice of one change is. -/
import Derived.Test.YthdcjepkehifoaaGreatBRead
import Derived.Great.BuildSlice
import Derived.Deep.RegionLaw
namespace Go.Proofs.YthdcjepkehifoaaGreat
open Go.RowKit
set_option linter.unusedVariables false
set_option maxRecDepth 20000

theorem Tryz.info122 : (Tryz.prog.info? 122).map (fun i => (i.zero, i.size, i.bytes)) = some (some (.agg (#[.int .i64 0] ++ Array.replicate 256 (.int .u8 0))), 257, 264) := by kernel_rfl
theorem places_change : (match Tryz.prog.underlying 122 with | some (.struct fields) => fields.toList.mapM (fun f => (Tryz.prog.info? f.type).map fun i => (f.offset, i.size)) | _ => none) = some [(0, 1), (1, 256)] := by kernel_rfl

theorem fill_change (n : Int) (cs : List Value) (hl : cs.length = 256) (z : Array Value) (hz : z.size = 257) :
    Instr.fill ([(0, 1), (1, 256)].toArray[·]?) z [(0, .int .i64 n), (1, .agg cs.toArray)] = some (.int .i64 n :: cs).toArray := by
  have e1 : (Value.int .i64 n).cells = #[.int .i64 n] := rfl
  have e2 : (Value.agg cs.toArray).cells = cs.toArray := rfl
  have h2 := Great.foldl_set 1 cs 0 (z.setIfInBounds 0 (.int .i64 n))
  have hstep1 : (#[Value.int .i64 n].zipIdx.foldl (fun cs (x : Value × Nat) => cs.setIfInBounds (0 + x.2) x.1) z) = z.setIfInBounds 0 (.int .i64 n) := by simp
  unfold Instr.fill
  rw [show ([(0, 1), (1, 256)].toArray[0]? : Option (Nat × Nat)) = some (0, 1) from rfl]
  simp only [e1]
  rw [if_neg (by simp [hz]), hstep1]
  unfold Instr.fill
  rw [show ([(0, 1), (1, 256)].toArray[1]? : Option (Nat × Nat)) = some (1, 256) from rfl]
  simp only [e2]
  rw [if_neg (by simp [hz, hl])]
  unfold Instr.fill
  congr 1
  rw [← Array.foldl_toList, Array.toList_zipIdx]
  apply Array.ext_getElem?
  intro k
  rw [h2.2 k]
  by_cases hk : 1 ≤ k ∧ k < 257
  · rw [if_pos (by simp [hz, hl]; omega)]
    obtain ⟨j, rfl⟩ : ∃ j, k = j + 1 := ⟨k - 1, by omega⟩
    simp
  · rw [if_neg (by omega)]
    by_cases h0 : k = 0
    · subst h0
      simp [hz]
    · have : 257 ≤ k := by omega
      simp [hz, this, hl]

theorem built_change (n : Int) (cs : List Value) (hl : cs.length = 256) : Tryz.prog.built 122 [(0, .int .i64 n), (1, .agg cs.toArray)] = some (.int .i64 n :: cs).toArray := by
  obtain ⟨i0, hi, hz0, hz1, hz2⟩ := info_parts Tryz.info122
  have hp := places_change
  unfold Program.built
  rw [hi]
  cases hu : Tryz.prog.underlying 122 with
  | none => rw [hu] at hp; cases hp
  | some t =>
    rw [hu] at hp
    cases t <;> first | (cases hp; done) | skip
    simp only [hz0]
    simp only at hp
    rw [hp]
    exact fill_change n cs hl _ (by simp [Value.cells])

theorem run_build_change (n : Int) (cs : List Value) (hl : cs.length = 256) (w : World) : (Instr.build 122 #[(0, .int .i64 n), (1, .agg cs.toArray)]).run Tryz.prog w = .ok (.agg (.int .i64 n :: cs).toArray) w :=
  run_build w _ _ _ (built_change n cs hl)

theorem run_slice_change (c : List Value) (hl : c.length = 257) (w : World) : (Instr.buildSlice 111 1 #[(0, .agg c.toArray)]).run Tryz.prog w = .ok (.slice (some ⟨w.heap.size, 0, none⟩) 1 1) (w.alloc (.cells c.toArray 122)) := by
  obtain ⟨i0, hi, hz0, hz1, hz2⟩ := info_parts Tryz.info122
  refine run_buildSlice w _ _ 1 _ c.toArray i0 _ Tryz.underlying111 hi hz0 (by rw [hz1]; decide) (by rw [hz1]; decide) ?_
  rw [hz1]
  have h := Great.fill_whole (s := 257) (by decide) [.agg c.toArray] ((Array.range (1 * 257)).map ((Value.agg (#[.int .i64 0] ++ Array.replicate 256 (.int .u8 0))).cells[· % (Value.agg (#[.int .i64 0] ++ Array.replicate 256 (.int .u8 0))).cells.size]!)) (fun v hv => by
    rw [List.mem_singleton.1 hv]; simp [Value.cells, hl]) (by simp)
  simpa [Value.cells] using h

/-- building a change, kept whole in the walk -/
def buildCh (parts : Array (Nat × Value)) : Sem Value := Instr.build 122 parts
def sliceCh (parts : Array (Nat × Value)) : Sem Value := Instr.buildSlice 111 1 parts
theorem buildCh_fold (parts : Array (Nat × Value)) : Instr.build 122 parts = buildCh parts := rfl
theorem sliceCh_fold (parts : Array (Nat × Value)) : Instr.buildSlice 111 1 parts = sliceCh parts := rfl
theorem buildCh_eq (n : Int) (cs : List Value) (hl : cs.length = 256) (w : World) : (buildCh #[(0, .int .i64 n), (1, .agg cs.toArray)]).run Tryz.prog w = .ok (.agg (.int .i64 n :: cs).toArray) w := run_build_change n cs hl w
theorem sliceCh_eq (n : Int) (cs : List Value) (hl : cs.length = 256) (w : World) : (sliceCh #[(0, .agg (.int .i64 n :: cs).toArray)]).run Tryz.prog w = .ok (.slice (some ⟨w.heap.size, 0, none⟩) 1 1) (w.alloc (.cells (.int .i64 n :: cs).toArray 122)) := run_slice_change _ (by simp [hl]) w

/-- loading a page, kept whole in the walk -/
def loadPg (x : Value) : Sem Value := Instr.loadAt 120 x
theorem loadPg_fold (x : Value) : Instr.loadAt 120 x = loadPg x := rfl
theorem size_page : (Tryz.prog.info? 120).map (·.size) = some 256 := by kernel_rfl
theorem loadPg_eq (g o : Nat) (cs : List Value) (hl : cs.length = 256) (w : World) (h : w.rangeAt g o cs) : (loadPg (.pointer (some ⟨g, o, none⟩))).run Tryz.prog w = .ok (.agg cs.toArray) w :=
  run_loadAt_mid w g o 120 cs _ h Tryz.underlying120 rfl (by rw [hl]; exact size_page)
end Go.Proofs.YthdcjepkehifoaaGreat
