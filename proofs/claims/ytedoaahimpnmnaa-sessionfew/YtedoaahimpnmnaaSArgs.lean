/- What arguments that are sessions, owners or rows of deeds give to a walk. -/
import Derived.Test.YtedoaahimpnmnaaSLift
import Derived.Lib.SmallJoins
import Derived.Deep.Slices
import Derived.Deep.Grids
import Derived.Test.YtedoaahimpnmnaaSRows
namespace Go.Proofs.Ytedoaahimpnmnaa
open Go.ChangeShapes Go.WideShapes Go.ChangeAt Go.RowKit Go.Deep
set_option maxRecDepth 20000

theorem cellsInt : Try.prog.cellsOf 3 = 1 := by kernel_rfl
theorem cellsStr : Try.prog.cellsOf 9 = 1 := by kernel_rfl
theorem cellsOwner : Try.prog.cellsOf 23 = 2 := by kernel_rfl
theorem cellsSess : Try.prog.cellsOf 25 = 5 := by kernel_rfl
theorem list5 {α : Type} {l : List α} (h : l.length = 5) : ∃ a b c d e, l = [a, b, c, d, e] := by
  match l, h with
  | [a, b, c, d, e], _ => exact ⟨a, b, c, d, e, rfl⟩
theorem list2 {α : Type} {l : List α} (h : l.length = 2) : ∃ a b, l = [a, b] := by
  match l, h with
  | [a, b], _ => exact ⟨a, b, rfl⟩

/-- a struct by value, opened -/
theorem open_struct {H : Type} {enc : TypeId × Value → H} {P : Program} {w : World} {base : Nat} {spare : Nat → Bool} {held : Bool} {r : Reach} {b0 : Nat} {t : TypeId} {fs : Array Field} {v : Value} {d : DataW H} {p : List MemPlace} (hs : P.underlying t = some (.struct fs))
    (hv : Value.okWide P w r b0 t v) (h : DataW.Trod enc P w base spare held t v d p) : ∃ (cs : List Value) (fuel : Nat), v = .agg cs.toArray ∧ DataW.trod enc P w base spare held fuel t cs = some (d, p) := by
  obtain ⟨cs, rfl, _⟩ := okWide_struct hs hv
  obtain ⟨fuel, hf⟩ := h
  exact ⟨cs.toList, fuel, by simp, by simpa [Value.cells] using hf⟩

section
variable {H : Type} {enc : TypeId × Value → H} {w : World} {base : Nat} {spare : Nat → Bool} {held : Bool} {fuel : Nat} {x : DataW H × List MemPlace}
theorem owner_cells {cs : List Value} (h : DataW.trod enc Try.prog w base spare held fuel 23 cs = some x) : ∃ t u : ByteArray, cs = [.string t, .string u] ∧ t.size ≤ maxLen ∧ u.size ≤ maxLen := by
  obtain ⟨y0, y1, n, rfl, hl, h0, h1⟩ := trod_struct2 Try.underlying23 h
  rw [cellsOwner] at hl
  obtain ⟨a, b, rfl⟩ := list2 hl
  simp only [cellsStr, List.drop_zero, List.drop_succ_cons, List.take_succ_cons, List.take_zero] at h0 h1
  obtain ⟨t, e0, _, k0⟩ := DataW.trod_string Try.underlying9 h0
  obtain ⟨u, e1, _, k1⟩ := DataW.trod_string Try.underlying9 h1
  simp only [List.cons.injEq, and_true] at e0 e1
  exact ⟨t, u, by rw [e0, e1], k0, k1⟩
theorem sess_cells {cs : List Value} (h : DataW.trod enc Try.prog w base spare held fuel 25 cs = some x) : ∃ s : Sess, cs = [.int .i64 s.id, .string s.ten, .string s.usr, .int .i64 s.since, .int .i64 s.used] := by
  obtain ⟨y0, y1, y2, y3, n, rfl, hl, h0, h1, h2, h3⟩ := Joins.trod_struct4 Try.underlying25 h
  rw [cellsSess] at hl
  obtain ⟨a, b, c, d, e, rfl⟩ := list5 hl
  simp only [cellsInt, cellsOwner, List.drop_zero, List.drop_succ_cons, List.take_succ_cons, List.take_zero] at h0 h1 h2 h3
  obtain ⟨i, e0, _, _⟩ := DataW.trod_int Try.underlying3 h0
  obtain ⟨t, u, e1, _, _⟩ := owner_cells h1
  obtain ⟨j, e2, _, _⟩ := DataW.trod_int Try.underlying3 h2
  obtain ⟨k, e3, _, _⟩ := DataW.trod_int Try.underlying3 h3
  simp only [List.cons.injEq, and_true] at e0 e1 e2 e3
  exact ⟨⟨i, t, u, j, k⟩, by rw [e0, e1.1, e1.2, e2, e3]⟩
end

theorem open_sess {H : Type} {enc : TypeId × Value → H} {W : World} {b0 : Nat} {r : Reach} {v : Value} {d : DataW H} {p : List MemPlace}
    (hv : Value.okWide Try.prog W r b0 25 v) (h : DataW.Trod enc Try.prog W 0 (fun _ => true) true 25 v d p) : ∃ s : Sess, v = .agg #[.int .i64 s.id, .string s.ten, .string s.usr, .int .i64 s.since, .int .i64 s.used] := by
  obtain ⟨cs, fuel, rfl, hf⟩ := open_struct Try.underlying25 hv h
  obtain ⟨s, rfl⟩ := sess_cells hf
  exact ⟨s, rfl⟩
theorem open_owner {H : Type} {enc : TypeId × Value → H} {W : World} {b0 : Nat} {r : Reach} {v : Value} {d : DataW H} {p : List MemPlace}
    (hv : Value.okWide Try.prog W r b0 23 v) (h : DataW.Trod enc Try.prog W 0 (fun _ => true) true 23 v d p) : ∃ t u : ByteArray, v = .agg #[.string t, .string u] ∧ t.size ≤ maxLen ∧ u.size ≤ maxLen := by
  obtain ⟨cs, fuel, rfl, hf⟩ := open_struct Try.underlying23 hv h
  obtain ⟨t, u, rfl, k0, k1⟩ := owner_cells hf
  exact ⟨t, u, rfl, k0, k1⟩

theorem open_ks {k : IntKind} {S E : TypeId} (hS : Try.prog.underlying S = some (.slice E)) (hE : Try.prog.underlying E = some (.int k)) (hC : Try.prog.cellsOf E = 1) {H : Type} {enc : TypeId × Value → H} {W : World} {a : Option Addr} {len cap : Nat} {d : DataW H} {p : List MemPlace}
    (h : DataW.Trod enc Try.prog W 0 (fun _ => true) true S (.slice a len cap) d p) : ∃ l : List Int, l.length = len ∧ KIn k W a l := by
  obtain ⟨fuel, hf⟩ := h
  rcases open_ints hS hE hC hf with ⟨hcs, _⟩ | ⟨x, l', c', zs, hcs, _, hl, hm, hz, hx, hcell, hwz⟩
  · simp [Value.cells] at hcs
    obtain ⟨rfl, rfl, rfl⟩ := hcs
    exact ⟨[], rfl, fun i hi => by simp at hi, fun i hi => by simp at hi, by simp⟩
  · simp [Value.cells] at hcs
    obtain ⟨rfl, rfl, rfl⟩ := hcs
    simp only [Prod.mk.injEq] at hx
    obtain ⟨rfl, _⟩ := hx
    simp only [if_true] at hz
    have hlen : (zs.take len).length = len := by rw [List.length_take]; omega
    refine ⟨zs.take len, hlen, fun i hi => ?_, fun i hi => ?_, by rw [hlen]; omega⟩
    · obtain ⟨b, o, spot⟩ := x
      have hc := hcell i (by omega)
      have hspot : spot = none := by simpa [Addr.add] using World.cell?_spot (hcell 0 (by omega))
      subst hspot
      refine ⟨b, o, rfl, ?_⟩
      rw [addr_add'] at hc
      rw [hc]
      have hi' : i < zs.length := by omega
      simp only [List.getD, List.getElem?_eq_getElem hi', Option.getD_some, List.getElem_take]
    · rw [List.getElem_take]
      exact hwz _ (List.getElem_mem _)
theorem open_bools {H : Type} {enc : TypeId × Value → H} {W : World} {a : Option Addr} {len cap : Nat} {d : DataW H} {p : List MemPlace}
    (h : DataW.Trod enc Try.prog W 0 (fun _ => true) true 47 (.slice a len cap) d p) : ∃ l : List Bool, l.length = len ∧ BIn W a l := by
  obtain ⟨fuel, hf⟩ := h
  rcases Deep.open_bools Try.underlying47 Try.underlying4 (by kernel_rfl) hf with ⟨hcs, _⟩ | ⟨x, l', c', B, hcs, _, hl, hm, hx, hcell⟩
  · simp [Value.cells] at hcs
    obtain ⟨rfl, rfl, rfl⟩ := hcs
    exact ⟨[], rfl, fun i hi => by simp at hi, by simp⟩
  · simp [Value.cells] at hcs
    obtain ⟨rfl, rfl, rfl⟩ := hcs
    refine ⟨(List.range len).map B, by simp, fun i hi => ?_, by simp; omega⟩
    have hi' : i < len := by simpa using hi
    obtain ⟨b, o, spot⟩ := x
    have hc := hcell i (by omega)
    have hspot : spot = none := by simpa [Addr.add] using World.cell?_spot (hcell 0 (by omega))
    subst hspot
    refine ⟨b, o, rfl, ?_⟩
    rw [addr_add'] at hc
    rw [hc]
    simp
theorem open_u8s {H : Type} {enc : TypeId × Value → H} {W : World} {a : Option Addr} {len cap : Nat} {d : DataW H} {p : List MemPlace}
    (h : DataW.Trod enc Try.prog W 0 (fun _ => true) true 51 (.slice a len cap) d p) : ∃ l : List Int, l.length = len ∧ KIn .u8 W a l := open_ks Try.underlying51 Try.underlying5 (by kernel_rfl) h
theorem open_u16s {H : Type} {enc : TypeId × Value → H} {W : World} {a : Option Addr} {len cap : Nat} {d : DataW H} {p : List MemPlace}
    (h : DataW.Trod enc Try.prog W 0 (fun _ => true) true 46 (.slice a len cap) d p) : ∃ l : List Int, l.length = len ∧ KIn .u16 W a l := open_ks Try.underlying46 Try.underlying48 (by kernel_rfl) h
end Go.Proofs.Ytedoaahimpnmnaa
