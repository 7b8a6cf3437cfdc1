/- What arguments that are sessions, owners or rows of deeds give to a walk. -/
import Derived.Test.YtkgkngjopehfcaaSLift
import Derived.Lib.SmallJoins
import Derived.Deep.Slices
namespace Go.Proofs.Ytkgkngjopehfcaa
open Go.ChangeShapes Go.WideShapes Go.ChangeAt Go.RowKit Go.Deep
set_option maxRecDepth 20000

theorem cellsInt : Try.prog.cellsOf 3 = 1 := by kernel_rfl
theorem cellsStr : Try.prog.cellsOf 9 = 1 := by kernel_rfl
theorem cellsOwner : Try.prog.cellsOf 23 = 2 := by kernel_rfl
theorem cellsSess : Try.prog.cellsOf 25 = 5 := by kernel_rfl
theorem list5 {α : Type} {l : List α} (h : l.length = 5) : ∃ a b c d e, l = [a, b, c, d, e] := by
  match l, h with
  | [a, b, c, d, e], _ => exact ⟨a, b, c, d, e, rfl⟩
theorem list2 {α : Type} {l : List α} (h : l.length = 2) : ∃ a b, l = [a, b] := by
  match l, h with
  | [a, b], _ => exact ⟨a, b, rfl⟩

/-- a struct by value, opened -/
theorem open_struct {H : Type} {enc : TypeId × Value → H} {P : Program} {w : World} {base : Nat} {spare : Nat → Bool} {held : Bool} {r : Reach} {b0 : Nat} {t : TypeId} {fs : Array Field} {v : Value} {d : DataW H} {p : List MemPlace} (hs : P.underlying t = some (.struct fs))
    (hv : Value.okWide P w r b0 t v) (h : DataW.Trod enc P w base spare held t v d p) : ∃ (cs : List Value) (fuel : Nat), v = .agg cs.toArray ∧ DataW.trod enc P w base spare held fuel t cs = some (d, p) := by
  obtain ⟨cs, rfl, _⟩ := okWide_struct hs hv
  obtain ⟨fuel, hf⟩ := h
  exact ⟨cs.toList, fuel, by simp, by simpa [Value.cells] using hf⟩

section
variable {H : Type} {enc : TypeId × Value → H} {w : World} {base : Nat} {spare : Nat → Bool} {held : Bool} {fuel : Nat} {x : DataW H × List MemPlace}
theorem owner_cells {cs : List Value} (h : DataW.trod enc Try.prog w base spare held fuel 23 cs = some x) : ∃ t u : ByteArray, cs = [.string t, .string u] ∧ t.size ≤ maxLen ∧ u.size ≤ maxLen := by
  obtain ⟨y0, y1, n, rfl, hl, h0, h1⟩ := trod_struct2 Try.underlying23 h
  rw [cellsOwner] at hl
  obtain ⟨a, b, rfl⟩ := list2 hl
  simp only [cellsStr, List.drop_zero, List.drop_succ_cons, List.take_succ_cons, List.take_zero] at h0 h1
  obtain ⟨t, e0, _, k0⟩ := DataW.trod_string Try.underlying9 h0
  obtain ⟨u, e1, _, k1⟩ := DataW.trod_string Try.underlying9 h1
  simp only [List.cons.injEq, and_true] at e0 e1
  exact ⟨t, u, by rw [e0, e1], k0, k1⟩
theorem sess_cells {cs : List Value} (h : DataW.trod enc Try.prog w base spare held fuel 25 cs = some x) : ∃ s : Sess, cs = [.int .i64 s.id, .string s.ten, .string s.usr, .int .i64 s.since, .int .i64 s.used] := by
  obtain ⟨y0, y1, y2, y3, n, rfl, hl, h0, h1, h2, h3⟩ := Joins.trod_struct4 Try.underlying25 h
  rw [cellsSess] at hl
  obtain ⟨a, b, c, d, e, rfl⟩ := list5 hl
  simp only [cellsInt, cellsOwner, List.drop_zero, List.drop_succ_cons, List.take_succ_cons, List.take_zero] at h0 h1 h2 h3
  obtain ⟨i, e0, _, _⟩ := DataW.trod_int Try.underlying3 h0
  obtain ⟨t, u, e1, _, _⟩ := owner_cells h1
  obtain ⟨j, e2, _, _⟩ := DataW.trod_int Try.underlying3 h2
  obtain ⟨k, e3, _, _⟩ := DataW.trod_int Try.underlying3 h3
  simp only [List.cons.injEq, and_true] at e0 e1 e2 e3
  exact ⟨⟨i, t, u, j, k⟩, by rw [e0, e1.1, e1.2, e2, e3]⟩
end

theorem open_sess {H : Type} {enc : TypeId × Value → H} {W : World} {b0 : Nat} {r : Reach} {v : Value} {d : DataW H} {p : List MemPlace}
    (hv : Value.okWide Try.prog W r b0 25 v) (h : DataW.Trod enc Try.prog W 0 (fun _ => true) true 25 v d p) : ∃ s : Sess, v = .agg #[.int .i64 s.id, .string s.ten, .string s.usr, .int .i64 s.since, .int .i64 s.used] := by
  obtain ⟨cs, fuel, rfl, hf⟩ := open_struct Try.underlying25 hv h
  obtain ⟨s, rfl⟩ := sess_cells hf
  exact ⟨s, rfl⟩
theorem open_owner {H : Type} {enc : TypeId × Value → H} {W : World} {b0 : Nat} {r : Reach} {v : Value} {d : DataW H} {p : List MemPlace}
    (hv : Value.okWide Try.prog W r b0 23 v) (h : DataW.Trod enc Try.prog W 0 (fun _ => true) true 23 v d p) : ∃ t u : ByteArray, v = .agg #[.string t, .string u] ∧ t.size ≤ maxLen ∧ u.size ≤ maxLen := by
  obtain ⟨cs, fuel, rfl, hf⟩ := open_struct Try.underlying23 hv h
  obtain ⟨t, u, rfl, k0, k1⟩ := owner_cells hf
  exact ⟨t, u, rfl, k0, k1⟩
end Go.Proofs.Ytkgkngjopehfcaa
