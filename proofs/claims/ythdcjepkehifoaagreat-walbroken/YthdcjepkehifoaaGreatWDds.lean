/- Deeds of layer 3 that lie in the world; what an argument that is a row of them gives to a walk. -/
import Derived.Test.YthdcjepkehifoaaGreatWLive
import Derived.Test.YthdcjepkehifoaaGreatBLift
import Derived.Deep.Slices
import Derived.SliceStrings
import Derived.ChangeSlices
namespace Go.Proofs.YthdcjepkehifoaaGreat
open Go.RowKit Go.Maps
set_option linter.unusedVariables false

/-- a deed as it was handed in -/
structure Dd where
  ck : Bool
  sh : Bool
  a : Option Addr
  q : List Int
  c : Nat
  y : UInt8
deriving Inhabited
/-- deeds that lie in a row of the world -/
def DdsAt (w : World) (a : Option Addr) (l : List Dd) : Prop := ∀ i (h : i < l.length), ∃ b o, a = some ⟨b, o, none⟩ ∧ w.cell? ⟨b, o + i * 4, none⟩ = some (.bool l[i].ck) ∧ w.cell? ⟨b, o + i * 4 + 1, none⟩ = some (.bool l[i].sh) ∧ w.cell? ⟨b, o + i * 4 + 2, none⟩ = some (.slice l[i].a l[i].q.length l[i].c) ∧ w.cell? ⟨b, o + i * 4 + 3, none⟩ = some (.int .u8 (l[i].y.toNat : Int)) ∧ IntsAt w l[i].a l[i].q
theorem DdsAt.keep {w w' : World} {a : Option Addr} {l : List Dd} (h : DdsAt w a l) (hk : ∀ k, k < w.heap.size → w'.heap[k]? = w.heap[k]?) : DdsAt w' a l := fun i hi => by
  obtain ⟨b, o, e, h0, h1, h2, h3, h4⟩ := h i hi
  have hb := hk b (World.block_lt_of_cell? _ _ h0)
  refine ⟨b, o, e, (World.cell?_of_block (a := ⟨b, _, none⟩) hb).trans h0, (World.cell?_of_block (a := ⟨b, _, none⟩) hb).trans h1, (World.cell?_of_block (a := ⟨b, _, none⟩) hb).trans h2, (World.cell?_of_block (a := ⟨b, _, none⟩) hb).trans h3, fun j hj => ?_⟩
  obtain ⟨b', o', e', hc⟩ := h4 j hj
  exact ⟨b', o', e', (World.cell?_of_block (a := ⟨b', _, none⟩) (hk b' (World.block_lt_of_cell? _ _ hc))).trans hc⟩

theorem byte_of' {n : Int} (h : (Lit.int .u8 n).wf = true) : ∃ b : UInt8, n = (b.toNat : Int) := by
  have hr : 0 ≤ n ∧ n ≤ 255 := by simpa [Lit.wf, IntKind.min, IntKind.max, IntKind.signed, IntKind.bits] using h
  refine ⟨UInt8.ofNat n.toNat, ?_⟩
  rw [UInt8.toNat_ofNat']
  omega
theorem list4 {α : Type} {l : List α} (h : l.length = 4) : ∃ a b c d, l = [a, b, c, d] := by
  match l, h with
  | [a, b, c, d], _ => exact ⟨a, b, c, d, rfl⟩
theorem cellsInt3 : Tryz.prog.cellsOf 3 = 1 := by kernel_rfl
theorem cellsDd : Tryz.prog.cellsOf 32 = 4 := by kernel_rfl
open Go.ChangeShapes Go.WideShapes Go.ChangeAt Go.Deep
/-- a row of numbers that a deed bears -/
theorem open_ints3 {H : Type} {enc : TypeId × Value → H} {W : World} {v : Value} {fuel : Nat} {x : DataW H × List MemPlace}
    (hf : DataW.trod enc Tryz.prog W 0 (fun _ => true) true fuel 30 [v] = some x) : ∃ (a : Option Addr) (l : List Int) (c : Nat), v = .slice a l.length c ∧ IntsAt W a l := by
  rcases open_ints Tryz.underlying30 Tryz.underlying3 cellsInt3 hf with ⟨hcs, _⟩ | ⟨x, l', c', zs, hcs, _, hl, hm, hz, hx, hcell, hwz⟩
  · simp only [List.cons.injEq, and_true] at hcs
    subst hcs
    exact ⟨none, [], 0, rfl, fun i hi => by simp at hi⟩
  · simp only [List.cons.injEq, and_true] at hcs
    subst hcs
    simp only [if_true] at hz
    have hlen : (zs.take l').length = l' := by rw [List.length_take]; omega
    refine ⟨some x, zs.take l', c', by rw [hlen], fun i hi => ?_⟩
    obtain ⟨b, o, spot⟩ := x
    have hc := hcell i (by omega)
    have hspot : spot = none := by simpa [Addr.add] using World.cell?_spot (hcell 0 (by omega))
    subst hspot
    refine ⟨b, o, rfl, ?_⟩
    rw [addr_add] at hc
    rw [hc]
    have hi' : i < zs.length := by omega
    simp only [List.getD, List.getElem?_eq_getElem hi', Option.getD_some, List.getElem_take]

theorem open_dds {H : Type} {enc : TypeId × Value → H} {W : World} {a : Option Addr} {len cap : Nat} {d : DataW H} {p : List MemPlace}
    (h : DataW.Trod enc Tryz.prog W 0 (fun _ => true) true 22 (.slice a len cap) d p) : ∃ l : List Dd, l.length = len ∧ DdsAt W a l := by
  obtain ⟨fuel, hf⟩ := h
  rcases open_slice Tryz.underlying22 hf with ⟨hcs, _⟩ | ⟨x, l', c', m, n, D, Pl, hcs, hb, hl, hm, hmm, _, hx⟩
  · simp [Value.cells] at hcs
    obtain ⟨rfl, rfl, rfl⟩ := hcs
    exact ⟨[], rfl, fun i hi => by simp at hi⟩
  · simp [Value.cells] at hcs
    obtain ⟨rfl, rfl, rfl⟩ := hcs
    simp only [if_true] at hmm
    rw [cellsDd] at hx
    have each : ∀ i, i < len → ∃ q : Dd, ∃ b o, x = ⟨b, o, none⟩ ∧ W.cell? ⟨b, o + i * 4, none⟩ = some (.bool q.ck) ∧ W.cell? ⟨b, o + i * 4 + 1, none⟩ = some (.bool q.sh) ∧ W.cell? ⟨b, o + i * 4 + 2, none⟩ = some (.slice q.a q.q.length q.c) ∧ W.cell? ⟨b, o + i * 4 + 3, none⟩ = some (.int .u8 (q.y.toNat : Int)) ∧ IntsAt W q.a q.q := by
      intro i hi
      obtain ⟨cs', h1, h2⟩ := hx i (by omega)
      obtain ⟨_, hlen, hcell⟩ := World.cells?_some h1
      obtain ⟨xs, k, hk, hxy, _, hxl, hf⟩ := DataW.trod_struct Tryz.underlying32 h2
      obtain ⟨v0, v1, v2, v3, rfl⟩ := list4 hlen
      have g0 := hf 0 _ rfl
      have g1 := hf 1 _ rfl
      have g2 := hf 2 _ rfl
      have g3 := hf 3 _ rfl
      have s0 : Tryz.prog.cellsOf 4 = 1 := by kernel_rfl
      have s1 : Tryz.prog.cellsOf 30 = 1 := by kernel_rfl
      have s2 : Tryz.prog.cellsOf 5 = 1 := by kernel_rfl
      simp [s0, s1, s2] at g0 g1 g2 g3
      have q0 : ∃ y, DataW.trod enc Tryz.prog W 0 (fun _ => true) true k 4 [v0] = some y := ⟨_, g0.trans (List.getElem?_eq_getElem (by rw [hxl]; decide))⟩
      have q1 : ∃ y, DataW.trod enc Tryz.prog W 0 (fun _ => true) true k 4 [v1] = some y := ⟨_, g1.trans (List.getElem?_eq_getElem (by rw [hxl]; decide))⟩
      have q2 : ∃ y, DataW.trod enc Tryz.prog W 0 (fun _ => true) true k 30 [v2] = some y := ⟨_, g2.trans (List.getElem?_eq_getElem (by rw [hxl]; decide))⟩
      have q3 : ∃ y, DataW.trod enc Tryz.prog W 0 (fun _ => true) true k 5 [v3] = some y := ⟨_, g3.trans (List.getElem?_eq_getElem (by rw [hxl]; decide))⟩
      obtain ⟨y0, q0⟩ := q0
      obtain ⟨y1, q1⟩ := q1
      obtain ⟨y2, q2⟩ := q2
      obtain ⟨y3, q3⟩ := q3
      obtain ⟨ck, e0, _⟩ := DataW.trod_bool Tryz.underlying4 q0
      obtain ⟨sh, e1, _⟩ := DataW.trod_bool Tryz.underlying4 q1
      obtain ⟨qa, qq, qc, e2, hq⟩ := open_ints3 q2
      obtain ⟨b, e3, _, hb⟩ := DataW.trod_int Tryz.underlying5 q3
      obtain ⟨b', rfl⟩ := byte_of' hb
      simp only [List.cons.injEq, and_true] at e0 e1 e3
      subst e0 e1 e2 e3
      have c0 := hcell 0 (by omega)
      have c1 := hcell 1 (by omega)
      have c2 := hcell 2 (by omega)
      have c3 := hcell 3 (by omega)
      rw [Deep.add_add] at c0 c1 c2 c3
      obtain ⟨bb, o, spot⟩ := x
      have hspot : spot = none := by
        obtain ⟨cs0, z1, _⟩ := hx 0 (by omega)
        obtain ⟨_, zl, zc⟩ := World.cells?_some z1
        have := (zc 0 (by omega)).trans (List.getElem?_eq_getElem (by omega))
        simpa [Addr.add] using World.cell?_spot this
      subst hspot
      rw [addr_add] at c0 c1 c2 c3
      exact ⟨⟨ck, sh, qa, qq, qc, b'⟩, bb, o, rfl, by simpa using c0, by simpa [Nat.add_assoc] using c1, by simpa [Nat.add_assoc] using c2, by simpa [Nat.add_assoc] using c3, hq⟩
    obtain ⟨q, hq⟩ := choose_lt each
    refine ⟨(List.range len).map q, by simp, fun i hi => ?_⟩
    have hi' : i < len := by simpa using hi
    obtain ⟨b, o, e, h0, h1, h2, h3, h4⟩ := hq i hi'
    refine ⟨b, o, by rw [e], ?_, ?_, ?_, ?_, ?_⟩
    · simpa using h0
    · simpa using h1
    · simpa using h2
    · simpa using h3
    · simpa using h4
end Go.Proofs.YthdcjepkehifoaaGreat
