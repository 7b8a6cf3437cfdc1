/- What an argument that is a row of deeds, or of numbers, gives to a walk. -/
import Derived.Test.YtmnhhomkglffcaaGreatDoorKN
import Derived.Test.YtmnhhomkglffcaaGreatDoorKLiftE
import Derived.Lib.SmallJoins
import Derived.Deep.Slices
import Derived.SliceStrings
import Derived.ChangeSlices
namespace Go.Proofs.YtmnhhomkglffcaaGreatDoor
open Go.RowKit Go.Maps
open Go.ChangeShapes Go.WideShapes Go.ChangeAt Go.Deep
set_option linter.unusedVariables false
set_option maxRecDepth 20000

theorem list7 {α : Type} {l : List α} (h : l.length = 7) : ∃ a b c d e f g, l = [a, b, c, d, e, f, g] := by
  match l, h with
  | [a, b, c, d, e, f, g], _ => exact ⟨a, b, c, d, e, f, g, rfl⟩
theorem cellsInt : Tryz.prog.cellsOf 3 = 1 := by kernel_rfl
theorem cellsKD : Tryz.prog.cellsOf 32 = 7 := by kernel_rfl
/-- a row of numbers -/
theorem open_ints7 {H : Type} {enc : TypeId × Value → H} {W : World} {v : Value} {fuel : Nat} {x : DataW H × List MemPlace}
    (hf : DataW.trod enc Tryz.prog W 0 (fun _ => true) true fuel 23 [v] = some x) : ∃ (a : Option Addr) (l : List Int) (c : Nat), v = .slice a l.length c ∧ Ints W a l ∧ l.length ≤ maxLen := by
  rcases open_ints Tryz.underlying23 Tryz.underlying3 cellsInt hf with ⟨hcs, _⟩ | ⟨x, l', c', zs, hcs, _, hl, hm, hz, hx, hcell, hwz⟩
  · simp only [List.cons.injEq, and_true] at hcs
    subst hcs
    exact ⟨none, [], 0, rfl, fun i hi => by simp at hi, by simp⟩
  · simp only [List.cons.injEq, and_true] at hcs
    subst hcs
    simp only [if_true] at hz
    have hlen : (zs.take l').length = l' := by rw [List.length_take]; omega
    refine ⟨some x, zs.take l', c', by rw [hlen], fun i hi => ?_, by omega⟩
    obtain ⟨b, o, spot⟩ := x
    have hc := hcell i (by omega)
    have hspot : spot = none := by simpa [Addr.add] using World.cell?_spot (hcell 0 (by omega))
    subst hspot
    refine ⟨b, o, rfl, ?_⟩
    rw [addr_add'] at hc
    rw [hc]
    have hi' : i < zs.length := by omega
    simp only [List.getD, List.getElem?_eq_getElem hi', Option.getD_some, List.getElem_take]
theorem ints_lt {W : World} {a : Option Addr} {zs : List Int} (h : Ints W a zs) : ∀ ad, a = some ad → zs ≠ [] → ad.block < W.heap.size := fun ad e hne => by
  have hl : 0 < zs.length := by cases zs with | nil => exact absurd rfl hne | cons _ _ => simp
  obtain ⟨b, o, e', hc⟩ := h 0 hl
  rw [e] at e'
  cases e'
  exact World.block_lt_of_cell? _ _ hc
theorem scopes_wf {n : Int} (h : (Lit.int .u8 n).wf = true) : 0 ≤ n ∧ n ≤ 255 := by simpa [Lit.wf, IntKind.min, IntKind.max, IntKind.signed, IntKind.bits] using h

theorem open_kdeeds {H : Type} {enc : TypeId × Value → H} {W : World} {a : Option Addr} {len cap : Nat} {d : DataW H} {p : List MemPlace}
    (h : DataW.Trod enc Tryz.prog W 0 (fun _ => true) true 22 (.slice a len cap) d p) : ∃ l : List KDeed, l.length = len ∧ KDs W a l := by
  obtain ⟨fuel, hf⟩ := h
  rcases open_slice Tryz.underlying22 hf with ⟨hcs, _⟩ | ⟨x, l', c', m, n, D, Pl, hcs, hb, hl, hm, hmm, _, hx⟩
  · simp [Value.cells] at hcs
    obtain ⟨rfl, rfl, rfl⟩ := hcs
    exact ⟨[], rfl, fun i hi => by simp at hi, fun x hx => by simp at hx, by simp⟩
  · simp [Value.cells] at hcs
    obtain ⟨rfl, rfl, rfl⟩ := hcs
    simp only [if_true] at hmm
    rw [cellsKD] at hx
    have each : ∀ i, i < len → ∃ q : KDeed, (∃ b o, x = ⟨b, o, none⟩ ∧ W.cell? ⟨b, o + i * 7, none⟩ = some (.int .i64 q.kind) ∧ W.cell? ⟨b, o + i * 7 + 1, none⟩ = some (.int .i64 q.id) ∧ W.cell? ⟨b, o + i * 7 + 2, none⟩ = some (.int .i64 q.num) ∧ W.cell? ⟨b, o + i * 7 + 3, none⟩ = some (.int .i64 q.now) ∧ W.cell? ⟨b, o + i * 7 + 4, none⟩ = some (.string q.cli) ∧ W.cell? ⟨b, o + i * 7 + 5, none⟩ = some (.int .u8 q.sco) ∧ W.cell? ⟨b, o + i * 7 + 6, none⟩ = some (.slice q.sa q.zs.length q.sc)) ∧ DeedOk W W.heap.size q := by
      intro i hi
      obtain ⟨cs', h1, h2⟩ := hx i (by omega)
      obtain ⟨_, hlen, hcell⟩ := World.cells?_some h1
      obtain ⟨xs, k, hk, hxy, _, hxl, hf⟩ := DataW.trod_struct Tryz.underlying32 h2
      obtain ⟨v0, v1, v2, v3, v4, v5, v6, rfl⟩ := list7 hlen
      have g0 := hf 0 _ rfl
      have g1 := hf 1 _ rfl
      have g2 := hf 2 _ rfl
      have g3 := hf 3 _ rfl
      have g4 := hf 4 _ rfl
      have g5 := hf 5 _ rfl
      have g6 := hf 6 _ rfl
      have s0 : Tryz.prog.cellsOf 3 = 1 := by kernel_rfl
      have s1 : Tryz.prog.cellsOf 9 = 1 := by kernel_rfl
      have s2 : Tryz.prog.cellsOf 30 = 1 := by kernel_rfl
      have s3 : Tryz.prog.cellsOf 23 = 1 := by kernel_rfl
      simp [s0, s1, s2, s3] at g0 g1 g2 g3 g4 g5 g6
      obtain ⟨y0, q0⟩ : ∃ y, DataW.trod enc Tryz.prog W 0 (fun _ => true) true k 3 [v0] = some y := ⟨_, g0.trans (List.getElem?_eq_getElem (by rw [hxl]; decide))⟩
      obtain ⟨y1, q1⟩ : ∃ y, DataW.trod enc Tryz.prog W 0 (fun _ => true) true k 3 [v1] = some y := ⟨_, g1.trans (List.getElem?_eq_getElem (by rw [hxl]; decide))⟩
      obtain ⟨y2, q2⟩ : ∃ y, DataW.trod enc Tryz.prog W 0 (fun _ => true) true k 3 [v2] = some y := ⟨_, g2.trans (List.getElem?_eq_getElem (by rw [hxl]; decide))⟩
      obtain ⟨y3, q3⟩ : ∃ y, DataW.trod enc Tryz.prog W 0 (fun _ => true) true k 3 [v3] = some y := ⟨_, g3.trans (List.getElem?_eq_getElem (by rw [hxl]; decide))⟩
      obtain ⟨y4, q4⟩ : ∃ y, DataW.trod enc Tryz.prog W 0 (fun _ => true) true k 9 [v4] = some y := ⟨_, g4.trans (List.getElem?_eq_getElem (by rw [hxl]; decide))⟩
      obtain ⟨y5, q5⟩ : ∃ y, DataW.trod enc Tryz.prog W 0 (fun _ => true) true k 30 [v5] = some y := ⟨_, g5.trans (List.getElem?_eq_getElem (by rw [hxl]; decide))⟩
      obtain ⟨y6, q6⟩ : ∃ y, DataW.trod enc Tryz.prog W 0 (fun _ => true) true k 23 [v6] = some y := ⟨_, g6.trans (List.getElem?_eq_getElem (by rw [hxl]; decide))⟩
      obtain ⟨n0, e0, _, _⟩ := DataW.trod_int Tryz.underlying3 q0
      obtain ⟨n1, e1, _, _⟩ := DataW.trod_int Tryz.underlying3 q1
      obtain ⟨n2, e2, _, _⟩ := DataW.trod_int Tryz.underlying3 q2
      obtain ⟨n3, e3, _, _⟩ := DataW.trod_int Tryz.underlying3 q3
      obtain ⟨n4, e4, _, k4⟩ := DataW.trod_string Tryz.underlying9 q4
      obtain ⟨n5, e5, _, k5⟩ := DataW.trod_int Tryz.underlying30 q5
      obtain ⟨qa, qq, qc, e6, hq, hql⟩ := open_ints7 q6
      simp only [List.cons.injEq, and_true] at e0 e1 e2 e3 e4 e5
      subst e0 e1 e2 e3 e4 e5 e6
      have c0 := hcell 0 (by omega)
      have c1 := hcell 1 (by omega)
      have c2 := hcell 2 (by omega)
      have c3 := hcell 3 (by omega)
      have c4 := hcell 4 (by omega)
      have c5 := hcell 5 (by omega)
      have c6 := hcell 6 (by omega)
      rw [Deep.add_add] at c0 c1 c2 c3 c4 c5 c6
      obtain ⟨bb, o, spot⟩ := x
      have hspot : spot = none := by
        obtain ⟨cs0, z1, _⟩ := hx 0 (by omega)
        obtain ⟨_, zl, zc⟩ := World.cells?_some z1
        have := (zc 0 (by omega)).trans (List.getElem?_eq_getElem (by omega))
        simpa [Addr.add] using World.cell?_spot this
      subst hspot
      rw [addr_add'] at c0 c1 c2 c3 c4 c5 c6
      exact ⟨⟨n0, n1, n2, n3, n4, n5, qa, qq, qc⟩, ⟨bb, o, rfl, by simpa using c0, by simpa [Nat.add_assoc] using c1, by simpa [Nat.add_assoc] using c2, by simpa [Nat.add_assoc] using c3, by simpa [Nat.add_assoc] using c4, by simpa [Nat.add_assoc] using c5, by simpa [Nat.add_assoc] using c6⟩, k4, scopes_wf k5, hq, ints_lt hq, hql⟩
    have hinh : Inhabited KDeed := ⟨⟨0, 0, 0, 0, ⟨#[]⟩, 0, none, [], 0⟩⟩
    obtain ⟨q, hq⟩ := choose_lt each
    refine ⟨(List.range len).map q, by simp, fun i hi => ?_, fun y hy => ?_, by simp; omega⟩
    · have hi' : i < len := by simpa using hi
      obtain ⟨⟨b, o, e, h0, h1, h2, h3, h4, h5, h6⟩, _⟩ := hq i hi'
      refine ⟨b, o, by rw [e], ?_, ?_, ?_, ?_, ?_, ?_, ?_⟩
      · simpa using h0
      · simpa using h1
      · simpa using h2
      · simpa using h3
      · simpa using h4
      · simpa using h5
      · simpa using h6
    · obtain ⟨i, hi, rfl⟩ := List.mem_map.1 hy
      exact (hq i (List.mem_range.1 hi)).2
theorem open_kints {H : Type} {enc : TypeId × Value → H} {W : World} {a : Option Addr} {len cap : Nat} {d : DataW H} {p : List MemPlace}
    (h : DataW.Trod enc Tryz.prog W 0 (fun _ => true) true 23 (.slice a len cap) d p) : ∃ l : List Int, l.length = len ∧ (Ints W a l ∧ l.length ≤ maxLen) := by
  obtain ⟨fuel, hf⟩ := h
  have hf' : DataW.trod enc Tryz.prog W 0 (fun _ => true) true fuel 23 [.slice a len cap] = some (d, p) := by simpa [Value.cells] using hf
  obtain ⟨a', l, c, e, hi, hl⟩ := open_ints7 hf'
  injection e with e1 e2 e3
  subst e1 e2 e3
  exact ⟨l, rfl, hi, hl⟩
end Go.Proofs.YtmnhhomkglffcaaGreatDoor
