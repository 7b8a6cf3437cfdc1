/- What an argument that is a row of deeds gives to a walk, on a seat whose rows list tables. -/
import Derived.Test.YtcchlcbonfdhpaaDoorXLift
import Derived.Test.YtcchlcbonfdhpaaDoorXDeeds
import Derived.Deep.Grids
namespace Go.Proofs.YtcchlcbonfdhpaaDoor
open Go.ChangeShapes Go.WideShapes Go.ChangeAt Go.RowKit Go.Deep
set_option maxRecDepth 20000

theorem cellsStr : Tryd.prog.cellsOf 9 = 1 := by kernel_rfl
theorem cellsOwner : Tryd.prog.cellsOf 30 = 2 := by kernel_rfl
theorem list2 {α : Type} {l : List α} (h : l.length = 2) : ∃ a b, l = [a, b] := by
  match l, h with
  | [a, b], _ => exact ⟨a, b, rfl⟩

theorem cellsInt : Tryd.prog.cellsOf 3 = 1 := by kernel_rfl
theorem list5 {α : Type} {l : List α} (h : l.length = 5) : ∃ a b c d e, l = [a, b, c, d, e] := by
  match l, h with
  | [a, b, c, d, e], _ => exact ⟨a, b, c, d, e, rfl⟩
section
variable {H : Type} {enc : TypeId × Value → H} {w : World} {base : Nat} {spare : Nat → Bool} {held : Bool} {fuel : Nat} {x : DataW H × List MemPlace}
theorem owner_cells {cs : List Value} (h : DataW.trod enc Tryd.prog w base spare held fuel 30 cs = some x) : ∃ t u : ByteArray, cs = [.string t, .string u] ∧ t.size ≤ maxLen ∧ u.size ≤ maxLen := by
  obtain ⟨y0, y1, n, rfl, hl, h0, h1⟩ := trod_struct2 Tryd.underlying30 h
  rw [cellsOwner] at hl
  obtain ⟨a, b, rfl⟩ := list2 hl
  simp only [cellsStr, List.drop_zero, List.drop_succ_cons, List.take_succ_cons, List.take_zero] at h0 h1
  obtain ⟨t, e0, _, k0⟩ := DataW.trod_string Tryd.underlying9 h0
  obtain ⟨u, e1, _, k1⟩ := DataW.trod_string Tryd.underlying9 h1
  simp only [List.cons.injEq, and_true] at e0 e1
  exact ⟨t, u, by rw [e0, e1], k0, k1⟩
end
theorem cellsDeed11 : Tryd.prog.cellsOf 32 = 5 := by kernel_rfl
theorem deed_cells {H : Type} {enc : TypeId × Value → H} {w : World} {base : Nat} {spare : Nat → Bool} {held : Bool} {fuel : Nat} {x : DataW H × List MemPlace} {cs : List Value} (h : DataW.trod enc Tryd.prog w base spare held fuel 32 cs = some x) : ∃ q : SDeed, cs = [.int .i64 q.kind, .string q.ten, .string q.usr, .int .i64 q.id, .int .i64 q.now] ∧ q.ten.size ≤ maxLen ∧ q.usr.size ≤ maxLen := by
  obtain ⟨y0, y1, y2, y3, n, rfl, hl, h0, h1, h2, h3⟩ := Joins.trod_struct4 Tryd.underlying32 h
  rw [cellsDeed11] at hl
  obtain ⟨a, b, c, d, e, rfl⟩ := list5 hl
  simp only [cellsInt, cellsOwner, List.drop_zero, List.drop_succ_cons, List.take_succ_cons, List.take_zero] at h0 h1 h2 h3
  obtain ⟨i, e0, _, _⟩ := DataW.trod_int Tryd.underlying3 h0
  obtain ⟨t, u, e1, k1, k2⟩ := owner_cells h1
  obtain ⟨j, e2, _, _⟩ := DataW.trod_int Tryd.underlying3 h2
  obtain ⟨k, e3, _, _⟩ := DataW.trod_int Tryd.underlying3 h3
  simp only [List.cons.injEq, and_true] at e0 e1 e2 e3
  exact ⟨⟨i, t, u, j, k⟩, by rw [e0, e1.1, e1.2, e2, e3], k1, k2⟩
theorem open_sdeeds {H : Type} {enc : TypeId × Value → H} {W : World} {a : Option Addr} {len cap : Nat} {d : DataW H} {p : List MemPlace}
    (h : DataW.Trod enc Tryd.prog W 0 (fun _ => true) true 22 (.slice a len cap) d p) : ∃ l : List SDeed, l.length = len ∧ DIn W a l := by
  obtain ⟨fuel, hf⟩ := h
  rcases open_slice Tryd.underlying22 hf with ⟨hcs, _⟩ | ⟨x, l', c', m, n, D, Pl, hcs, hb, hl, hm, hmm, _, hx⟩
  · simp [Value.cells] at hcs
    obtain ⟨rfl, rfl, rfl⟩ := hcs
    exact ⟨[], rfl, fun i hi => by simp at hi, fun x hx => by simp at hx, by simp⟩
  · simp [Value.cells] at hcs
    obtain ⟨rfl, rfl, rfl⟩ := hcs
    simp only [if_true] at hmm
    rw [cellsDeed11] at hx
    have each : ∀ i, i < len → ∃ q : SDeed, (∃ b o, x = ⟨b, o, none⟩ ∧ W.cell? ⟨b, o + i * 5, none⟩ = some (.int .i64 q.kind) ∧ W.cell? ⟨b, o + i * 5 + 1, none⟩ = some (.string q.ten) ∧ W.cell? ⟨b, o + i * 5 + 2, none⟩ = some (.string q.usr) ∧ W.cell? ⟨b, o + i * 5 + 3, none⟩ = some (.int .i64 q.id) ∧ W.cell? ⟨b, o + i * 5 + 4, none⟩ = some (.int .i64 q.now)) ∧ q.ten.size ≤ maxLen ∧ q.usr.size ≤ maxLen := by
      intro i hi
      obtain ⟨cs', h1, h2⟩ := hx i (by omega)
      obtain ⟨_, hlen, hcell⟩ := World.cells?_some h1
      obtain ⟨q, rfl, k1, k2⟩ := deed_cells h2
      refine ⟨q, ?_, k1, k2⟩
      have c0 := hcell 0 (by decide)
      have c1 := hcell 1 (by decide)
      have c2 := hcell 2 (by decide)
      have c3 := hcell 3 (by decide)
      have c4 := hcell 4 (by decide)
      rw [Deep.add_add] at c0 c1 c2 c3 c4
      obtain ⟨bb, o, spot⟩ := x
      have hspot : spot = none := by
        obtain ⟨cs0, z1, _⟩ := hx 0 (by omega)
        obtain ⟨_, zl, zc⟩ := World.cells?_some z1
        have := (zc 0 (by omega)).trans (List.getElem?_eq_getElem (by omega))
        simpa [Addr.add] using World.cell?_spot this
      subst hspot
      rw [addr_add'] at c0 c1 c2 c3 c4
      exact ⟨bb, o, rfl, by simpa using c0, by simpa [Nat.add_assoc] using c1, by simpa [Nat.add_assoc] using c2, by simpa [Nat.add_assoc] using c3, by simpa [Nat.add_assoc] using c4⟩
    have hinh : Inhabited SDeed := ⟨⟨0, ⟨#[]⟩, ⟨#[]⟩, 0, 0⟩⟩
    obtain ⟨q, hq⟩ := choose_lt each
    refine ⟨(List.range len).map q, by simp, fun i hi => ?_, fun y hy => ?_, by simp; omega⟩
    · have hi' : i < len := by simpa using hi
      obtain ⟨⟨b, o, e, h0, h1, h2, h3, h4⟩, _⟩ := hq i hi'
      refine ⟨b, o, by rw [e], ?_, ?_, ?_, ?_, ?_⟩
      · simpa using h0
      · simpa using h1
      · simpa using h2
      · simpa using h3
      · simpa using h4
    · obtain ⟨i, hi, rfl⟩ := List.mem_map.1 hy
      exact (hq i (List.mem_range.1 hi)).2
end Go.Proofs.YtcchlcbonfdhpaaDoor
