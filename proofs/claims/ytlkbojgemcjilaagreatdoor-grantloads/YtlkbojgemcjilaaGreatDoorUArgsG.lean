/- What an argument that is a row of deeds, or one deed, gives to a walk. -/
import Derived.Test.YtlkbojgemcjilaaGreatDoorUL1
import Derived.Test.YtlkbojgemcjilaaGreatDoorULiftG
import Derived.Lib.SmallJoins
import Derived.Deep.Slices
import Derived.SliceStrings
import Derived.ChangeSlices
namespace Go.Proofs.YtlkbojgemcjilaaGreatDoor
open Go.RowKit Go.Maps
open Go.ChangeShapes Go.WideShapes Go.ChangeAt Go.Deep
set_option linter.unusedVariables false
set_option maxRecDepth 20000

theorem list6g {α : Type} {l : List α} (h : l.length = 6) : ∃ a b c d e f, l = [a, b, c, d, e, f] := by
  match l, h with
  | [a, b, c, d, e, f], _ => exact ⟨a, b, c, d, e, f, rfl⟩
theorem addr_addG (b o j : Nat) : (⟨b, o, none⟩ : Addr).add j = ⟨b, o + j, none⟩ := by unfold Addr.add; split <;> simp_all
theorem list2g {α : Type} {l : List α} (h : l.length = 2) : ∃ a b, l = [a, b] := by
  match l, h with
  | [a, b], _ => exact ⟨a, b, rfl⟩
theorem cellsGD : Tryz.prog.cellsOf 33 = 6 := by kernel_rfl
theorem scopes_wfG {n : Int} (h : (Lit.int .u8 n).wf = true) : 0 ≤ n ∧ n ≤ 255 := by simpa [Lit.wf, IntKind.min, IntKind.max, IntKind.signed, IntKind.bits] using h
/-- a deed's cells -/
theorem open_gcells {H : Type} {enc : TypeId × Value → H} {W : World} {vs : List Value} {fuel : Nat} {y : DataW H × List MemPlace} (hlen : vs.length = 6)
    (h2 : DataW.trod enc Tryz.prog W 0 (fun _ => true) true fuel 33 vs = some y) : ∃ q : GDeed, q.Ok ∧ vs = (gdC q).toList := by
  obtain ⟨xs, k, hk, hxy, _, hxl, hf⟩ := DataW.trod_struct Tryz.underlying33 h2
  obtain ⟨v0, v1, v2, v3, v4, v5, rfl⟩ := list6g hlen
  have g0 := hf 0 _ rfl
  have g1 := hf 1 _ rfl
  have g2 := hf 2 _ rfl
  have g3 := hf 3 _ rfl
  have g4 := hf 4 _ rfl
  have s0 : Tryz.prog.cellsOf 3 = 1 := by kernel_rfl
  have s1 : Tryz.prog.cellsOf 9 = 1 := by kernel_rfl
  have s2 : Tryz.prog.cellsOf 31 = 1 := by kernel_rfl
  have s3 : Tryz.prog.cellsOf 30 = 2 := by kernel_rfl
  simp [s0, s1, s2, s3] at g0 g1 g2 g3 g4
  obtain ⟨y0, q0⟩ : ∃ y, DataW.trod enc Tryz.prog W 0 (fun _ => true) true k 3 [v0] = some y := ⟨_, g0.trans (List.getElem?_eq_getElem (by rw [hxl]; decide))⟩
  obtain ⟨y1, q1⟩ : ∃ y, DataW.trod enc Tryz.prog W 0 (fun _ => true) true k 30 [v1, v2] = some y := ⟨_, g1.trans (List.getElem?_eq_getElem (by rw [hxl]; decide))⟩
  obtain ⟨y3, q3⟩ : ∃ y, DataW.trod enc Tryz.prog W 0 (fun _ => true) true k 9 [v3] = some y := ⟨_, g2.trans (List.getElem?_eq_getElem (by rw [hxl]; decide))⟩
  obtain ⟨y4, q4⟩ : ∃ y, DataW.trod enc Tryz.prog W 0 (fun _ => true) true k 9 [v4] = some y := ⟨_, g3.trans (List.getElem?_eq_getElem (by rw [hxl]; decide))⟩
  obtain ⟨y5, q5⟩ : ∃ y, DataW.trod enc Tryz.prog W 0 (fun _ => true) true k 31 [v5] = some y := ⟨_, g4.trans (List.getElem?_eq_getElem (by rw [hxl]; decide))⟩
  obtain ⟨xo, ko, hko, hxo, _, hxlo, hfo⟩ := DataW.trod_struct Tryz.underlying30 q1
  have o0 := hfo 0 _ rfl
  have o1 := hfo 1 _ rfl
  simp [s1] at o0 o1
  obtain ⟨z1, r1⟩ : ∃ y, DataW.trod enc Tryz.prog W 0 (fun _ => true) true ko 9 [v1] = some y := ⟨_, o0.trans (List.getElem?_eq_getElem (by rw [hxlo]; decide))⟩
  obtain ⟨z2, r2⟩ : ∃ y, DataW.trod enc Tryz.prog W 0 (fun _ => true) true ko 9 [v2] = some y := ⟨_, o1.trans (List.getElem?_eq_getElem (by rw [hxlo]; decide))⟩
  obtain ⟨n0, e0, _, _⟩ := DataW.trod_int Tryz.underlying3 q0
  obtain ⟨n1, e1, _, k1⟩ := DataW.trod_string Tryz.underlying9 r1
  obtain ⟨n2, e2, _, k2⟩ := DataW.trod_string Tryz.underlying9 r2
  obtain ⟨n3, e3, _, k3⟩ := DataW.trod_string Tryz.underlying9 q3
  obtain ⟨n4, e4, _, k4⟩ := DataW.trod_string Tryz.underlying9 q4
  obtain ⟨n5, e5, _, k5⟩ := DataW.trod_int Tryz.underlying31 q5
  simp only [List.cons.injEq, and_true] at e0 e1 e2 e3 e4 e5
  subst e0 e1 e2 e3 e4 e5
  have k6 := scopes_wfG k5
  refine ⟨⟨n0, n1, n2, n3, n4, n5.toNat⟩, ⟨by simpa [maxLen] using k1, by simpa [maxLen] using k2, by simpa [maxLen] using k3, by simpa [maxLen] using k4, by show n5.toNat ≤ 255; omega⟩, ?_⟩
  unfold gdC
  rw [show ((n5.toNat : Nat) : Int) = n5 by omega]
theorem open_gdeed {H : Type} {enc : TypeId × Value → H} {W : World} {b0 : Nat} {r : Reach} {v : Value} {d : DataW H} {p : List MemPlace}
    (hv : Value.okWide Tryz.prog W r b0 33 v) (h : DataW.Trod enc Tryz.prog W 0 (fun _ => true) true 33 v d p) : ∃ x : GDeed, v = .agg (gdC x) ∧ x.Ok := by
  obtain ⟨cs, rfl, hsz⟩ := okWide_struct Tryz.underlying33 hv
  obtain ⟨fuel, hf⟩ := h
  obtain ⟨x, h1, h2⟩ := open_gcells (vs := cs.toList) (by rw [Array.length_toList, hsz, cellsGD]) (by simpa [Value.cells] using hf)
  refine ⟨x, ?_, h1⟩
  rw [show cs = gdC x from by rw [← Array.toList_inj]; exact h2]
theorem open_gdeeds {H : Type} {enc : TypeId × Value → H} {W : World} {a : Option Addr} {len cap : Nat} {d : DataW H} {p : List MemPlace}
    (h : DataW.Trod enc Tryz.prog W 0 (fun _ => true) true 22 (.slice a len cap) d p) : ∃ l : List GDeed, l.length = len ∧ GDs W a l := by
  obtain ⟨fuel, hf⟩ := h
  rcases open_slice Tryz.underlying22 hf with ⟨hcs, _⟩ | ⟨x, l', c', m, n, D, Pl, hcs, hb, hl, hm, hmm, _, hx⟩
  · simp [Value.cells] at hcs
    obtain ⟨rfl, rfl, rfl⟩ := hcs
    exact ⟨[], rfl, fun i hi => by simp at hi, fun x hx => by simp at hx, by simp⟩
  · simp [Value.cells] at hcs
    obtain ⟨rfl, rfl, rfl⟩ := hcs
    simp only [if_true] at hmm
    rw [cellsGD] at hx
    have each : ∀ i, i < len → ∃ q : GDeed, (∃ b o, x = ⟨b, o, none⟩ ∧ W.cell? ⟨b, o + i * 6, none⟩ = some (.int .i64 q.kind) ∧ W.cell? ⟨b, o + i * 6 + 1, none⟩ = some (.string q.t) ∧ W.cell? ⟨b, o + i * 6 + 2, none⟩ = some (.string q.u) ∧ W.cell? ⟨b, o + i * 6 + 3, none⟩ = some (.string q.n) ∧ W.cell? ⟨b, o + i * 6 + 4, none⟩ = some (.string q.r) ∧ W.cell? ⟨b, o + i * 6 + 5, none⟩ = some (.int .u8 (q.sc : Int))) ∧ q.Ok := by
      intro i hi
      obtain ⟨cs', h1, h2⟩ := hx i (by omega)
      obtain ⟨_, hlen, hcell⟩ := World.cells?_some h1
      obtain ⟨q, hq, rfl⟩ := open_gcells hlen h2
      have c0 := hcell 0 (by omega)
      have c1 := hcell 1 (by omega)
      have c2 := hcell 2 (by omega)
      have c3 := hcell 3 (by omega)
      have c4 := hcell 4 (by omega)
      have c5 := hcell 5 (by omega)
      rw [Deep.add_add] at c0 c1 c2 c3 c4 c5
      obtain ⟨bb, o, spot⟩ := x
      have hspot : spot = none := by
        obtain ⟨cs0, z1, _⟩ := hx 0 (by omega)
        obtain ⟨_, zl, zc⟩ := World.cells?_some z1
        have := (zc 0 (by omega)).trans (List.getElem?_eq_getElem (by omega))
        simpa [Addr.add] using World.cell?_spot this
      subst hspot
      rw [addr_addG] at c0 c1 c2 c3 c4 c5
      exact ⟨q, ⟨bb, o, rfl, by simpa [gdC] using c0, by simpa [gdC, Nat.add_assoc] using c1, by simpa [gdC, Nat.add_assoc] using c2, by simpa [gdC, Nat.add_assoc] using c3, by simpa [gdC, Nat.add_assoc] using c4, by simpa [gdC, Nat.add_assoc] using c5⟩, hq⟩
    have hinh : Inhabited GDeed := ⟨⟨0, ⟨#[]⟩, ⟨#[]⟩, ⟨#[]⟩, ⟨#[]⟩, 0⟩⟩
    obtain ⟨q, hq⟩ := choose_lt each
    refine ⟨(List.range len).map q, by simp, fun i hi => ?_, fun y hy => ?_, by simp; omega⟩
    · have hi' : i < len := by simpa using hi
      obtain ⟨⟨b, o, e, h0, h1, h2, h3, h4, h5⟩, _⟩ := hq i hi'
      refine ⟨b, o, by rw [e], ?_, ?_, ?_, ?_, ?_, ?_⟩
      · simpa using h0
      · simpa using h1
      · simpa using h2
      · simpa using h3
      · simpa using h4
      · simpa using h5
    · obtain ⟨i, hi, rfl⟩ := List.mem_map.1 hy
      exact (hq i (List.mem_range.1 hi)).2
end Go.Proofs.YtlkbojgemcjilaaGreatDoor
