/- Deeds of layer 4 that lie in the world; what an argument that is one, or a row of them, gives to a walk. -/
import Derived.Test.YthdcjepkehifoaaGreatVLive
import Derived.Test.YthdcjepkehifoaaGreatBLift
import Derived.Lib.SmallJoins
import Derived.Deep.Slices
import Derived.SliceStrings
import Derived.ChangeSlices
namespace Go.Proofs.YthdcjepkehifoaaGreat
open Go.RowKit Go.Maps
set_option linter.unusedVariables false
set_option maxRecDepth 20000
/-- a deed as it was handed in -/
structure Dd where
  kd : Int
  a : Option Addr
  q : List Int
  c : Nat
  y : UInt8
  sh : Bool
deriving Inhabited
def Dd.val (d : Dd) : Value := .agg #[.int .i64 d.kd, .slice d.a d.q.length d.c, .int .u8 (d.y.toNat : Int), .bool d.sh]
/-- whole numbers of a deed -/
structure DdOk (w : World) (d : Dd) : Prop where
  ints : IntsAt w d.a d.q
  wf : ∀ x ∈ d.q, -9223372036854775808 ≤ x ∧ x ≤ 9223372036854775807
  len : d.q.length ≤ 9223372036854775807
theorem DdOk.below {w w' : World} {d : Dd} (h : DdOk w d) (hb : Below w.heap.size w w') : DdOk w' d := ⟨h.ints.below hb, h.wf, h.len⟩
theorem IntsAt.keep {w w' : World} {a : Option Addr} {l : List Int} (h : IntsAt w a l) {B : Nat} (hB : ∀ i (h : i < l.length), ∃ b o, a = some ⟨b, o, none⟩ ∧ b < B) (hk : ∀ k, k < B → w'.heap[k]? = w.heap[k]?) : IntsAt w' a l := fun i hi => by
  obtain ⟨b, o, e, hc⟩ := h i hi
  obtain ⟨b', o', e', hl⟩ := hB i hi
  rw [e] at e'
  cases e'
  exact ⟨b, o, e, (World.cell?_of_block (a := ⟨b, _, none⟩) (hk b hl)).trans hc⟩
theorem first_wf {w : World} {d : Dd} (h : DdOk w d) : -9223372036854775808 ≤ firstOf d.q ∧ firstOf d.q ≤ 9223372036854775807 := by
  unfold firstOf
  cases hq : d.q with
  | nil => simp
  | cons x t => exact h.wf x (by rw [hq]; simp)
/-- deeds that lie in a row of the world -/
def DdsAt (w : World) (a : Option Addr) (l : List Dd) : Prop := ∀ i (h : i < l.length), ∃ b o, a = some ⟨b, o, none⟩ ∧ w.cell? ⟨b, o + i * 4, none⟩ = some (.int .i64 l[i].kd) ∧ w.cell? ⟨b, o + i * 4 + 1, none⟩ = some (.slice l[i].a l[i].q.length l[i].c) ∧ w.cell? ⟨b, o + i * 4 + 2, none⟩ = some (.int .u8 (l[i].y.toNat : Int)) ∧ w.cell? ⟨b, o + i * 4 + 3, none⟩ = some (.bool l[i].sh) ∧ DdOk w l[i]
theorem DdsAt.keep {w w' : World} {a : Option Addr} {l : List Dd} (h : DdsAt w a l) (hb : Below w.heap.size w w') : DdsAt w' a l := fun i hi => by
  obtain ⟨b, o, e, h0, h1, h2, h3, h4⟩ := h i hi
  have hbk := hb.block b (World.block_lt_of_cell? _ _ h0)
  exact ⟨b, o, e, (World.cell?_of_block (a := ⟨b, _, none⟩) hbk).trans h0, (World.cell?_of_block (a := ⟨b, _, none⟩) hbk).trans h1, (World.cell?_of_block (a := ⟨b, _, none⟩) hbk).trans h2, (World.cell?_of_block (a := ⟨b, _, none⟩) hbk).trans h3, h4.below hb⟩
theorem byte_of' {n : Int} (h : (Lit.int .u8 n).wf = true) : ∃ b : UInt8, n = (b.toNat : Int) := by
  have hr : 0 ≤ n ∧ n ≤ 255 := by simpa [Lit.wf, IntKind.min, IntKind.max, IntKind.signed, IntKind.bits] using h
  refine ⟨UInt8.ofNat n.toNat, ?_⟩
  rw [UInt8.toNat_ofNat']
  omega
theorem list4 {α : Type} {l : List α} (h : l.length = 4) : ∃ a b c d, l = [a, b, c, d] := by
  match l, h with
  | [a, b, c, d], _ => exact ⟨a, b, c, d, rfl⟩
theorem cellsInt4 : Tryz.prog.cellsOf 3 = 1 := by kernel_rfl
theorem cellsDd : Tryz.prog.cellsOf 79 = 4 := by kernel_rfl
open Go.ChangeShapes Go.WideShapes Go.ChangeAt Go.Deep
/-- a row of numbers that a deed bears -/
theorem open_ints4 {H : Type} {enc : TypeId × Value → H} {W : World} {v : Value} {fuel : Nat} {x : DataW H × List MemPlace}
    (hf : DataW.trod enc Tryz.prog W 0 (fun _ => true) true fuel 30 [v] = some x) : ∃ (a : Option Addr) (l : List Int) (c : Nat), v = .slice a l.length c ∧ IntsAt W a l ∧ (∀ x ∈ l, -9223372036854775808 ≤ x ∧ x ≤ 9223372036854775807) ∧ l.length ≤ 9223372036854775807 := by
  rcases open_ints Tryz.underlying30 Tryz.underlying3 cellsInt4 hf with ⟨hcs, _⟩ | ⟨x, l', c', zs, hcs, _, hl, hm, hz, hx, hcell, hwz⟩
  · simp only [List.cons.injEq, and_true] at hcs
    subst hcs
    exact ⟨none, [], 0, rfl, fun i hi => by simp at hi, fun x hx => by simp at hx, by simp⟩
  · simp only [List.cons.injEq, and_true] at hcs
    subst hcs
    simp only [if_true] at hz
    have hlen : (zs.take l').length = l' := by rw [List.length_take]; omega
    refine ⟨some x, zs.take l', c', by rw [hlen], fun i hi => ?_, fun z hz' => ?_, by rw [hlen]; unfold maxLen at hm; omega⟩
    · obtain ⟨b, o, spot⟩ := x
      have hc := hcell i (by omega)
      have hspot : spot = none := by simpa [Addr.add] using World.cell?_spot (hcell 0 (by omega))
      subst hspot
      refine ⟨b, o, rfl, ?_⟩
      rw [addr_add] at hc
      rw [hc]
      have hi' : i < zs.length := by omega
      simp only [List.getD, List.getElem?_eq_getElem hi', Option.getD_some, List.getElem_take]
    · have := hwz z (List.mem_of_mem_take hz')
      simpa [Lit.wf, IntKind.min, IntKind.max, IntKind.signed, IntKind.bits] using this
theorem open_deed4 {H : Type} {enc : TypeId × Value → H} {W : World} {b0 : Nat} {r : Reach} {v : Value} {d : DataW H} {p : List MemPlace}
    (hv : Value.okWide Tryz.prog W r b0 79 v) (h : DataW.Trod enc Tryz.prog W 0 (fun _ => true) true 79 v d p) :
    ∃ x : Dd, v = x.val ∧ DdOk W x := by
  obtain ⟨v0, v1, v2, v3, y0, y1, y2, y3, n, rfl, _, _, h0, h1, h2, h3⟩ := Joins.open_agg4 Tryz.underlying79 (by kernel_rfl) cellsDd hv h
  obtain ⟨N, e0, _, _⟩ := DataW.trod_int Tryz.underlying3 h0
  obtain ⟨a, l, c, rfl, g1, g2, g3⟩ := open_ints4 h1
  obtain ⟨b, e2, _, hb⟩ := DataW.trod_int Tryz.underlying5 h2
  obtain ⟨sh, e3, _⟩ := DataW.trod_bool Tryz.underlying4 h3
  obtain ⟨b', rfl⟩ := byte_of' hb
  simp only [List.cons.injEq, and_true] at e0 e2 e3
  exact ⟨⟨N, a, l, c, b', sh⟩, by rw [e0, e2, e3]; rfl, ⟨g1, g2, g3⟩⟩
theorem open_dds {H : Type} {enc : TypeId × Value → H} {W : World} {a : Option Addr} {len cap : Nat} {d : DataW H} {p : List MemPlace}
    (h : DataW.Trod enc Tryz.prog W 0 (fun _ => true) true 72 (.slice a len cap) d p) : ∃ l : List Dd, l.length = len ∧ DdsAt W a l ∧ l.length ≤ 9223372036854775807 := by
  obtain ⟨fuel, hf⟩ := h
  rcases open_slice Tryz.underlying72 hf with ⟨hcs, _⟩ | ⟨x, l', c', m, n, D, Pl, hcs, hb, hl, hm, hmm, _, hx⟩
  · simp [Value.cells] at hcs
    obtain ⟨rfl, rfl, rfl⟩ := hcs
    exact ⟨[], rfl, fun i hi => by simp at hi, by simp⟩
  · simp [Value.cells] at hcs
    obtain ⟨rfl, rfl, rfl⟩ := hcs
    simp only [if_true] at hmm
    rw [cellsDd] at hx
    have each : ∀ i, i < len → ∃ q : Dd, ∃ b o, x = ⟨b, o, none⟩ ∧ W.cell? ⟨b, o + i * 4, none⟩ = some (.int .i64 q.kd) ∧ W.cell? ⟨b, o + i * 4 + 1, none⟩ = some (.slice q.a q.q.length q.c) ∧ W.cell? ⟨b, o + i * 4 + 2, none⟩ = some (.int .u8 (q.y.toNat : Int)) ∧ W.cell? ⟨b, o + i * 4 + 3, none⟩ = some (.bool q.sh) ∧ DdOk W q := by
      intro i hi
      obtain ⟨cs', h1, h2⟩ := hx i (by omega)
      obtain ⟨_, hlen, hcell⟩ := World.cells?_some h1
      obtain ⟨xs, k, hk, hxy, _, hxl, hf⟩ := DataW.trod_struct Tryz.underlying79 h2
      obtain ⟨v0, v1, v2, v3, rfl⟩ := list4 hlen
      have g0 := hf 0 _ rfl
      have g1 := hf 1 _ rfl
      have g2 := hf 2 _ rfl
      have g3 := hf 3 _ rfl
      have s0 : Tryz.prog.cellsOf 3 = 1 := by kernel_rfl
      have s1 : Tryz.prog.cellsOf 30 = 1 := by kernel_rfl
      have s2 : Tryz.prog.cellsOf 5 = 1 := by kernel_rfl
      have s3 : Tryz.prog.cellsOf 4 = 1 := by kernel_rfl
      simp [s0, s1, s2, s3] at g0 g1 g2 g3
      have q0 : ∃ y, DataW.trod enc Tryz.prog W 0 (fun _ => true) true k 3 [v0] = some y := ⟨_, g0.trans (List.getElem?_eq_getElem (by rw [hxl]; decide))⟩
      have q1 : ∃ y, DataW.trod enc Tryz.prog W 0 (fun _ => true) true k 30 [v1] = some y := ⟨_, g1.trans (List.getElem?_eq_getElem (by rw [hxl]; decide))⟩
      have q2 : ∃ y, DataW.trod enc Tryz.prog W 0 (fun _ => true) true k 5 [v2] = some y := ⟨_, g2.trans (List.getElem?_eq_getElem (by rw [hxl]; decide))⟩
      have q3 : ∃ y, DataW.trod enc Tryz.prog W 0 (fun _ => true) true k 4 [v3] = some y := ⟨_, g3.trans (List.getElem?_eq_getElem (by rw [hxl]; decide))⟩
      obtain ⟨y0, q0⟩ := q0
      obtain ⟨y1, q1⟩ := q1
      obtain ⟨y2, q2⟩ := q2
      obtain ⟨y3, q3⟩ := q3
      obtain ⟨kd, e0, _, _⟩ := DataW.trod_int Tryz.underlying3 q0
      obtain ⟨qa, qq, qc, e1, hq, hq2, hq3⟩ := open_ints4 q1
      obtain ⟨b, e2, _, hb⟩ := DataW.trod_int Tryz.underlying5 q2
      obtain ⟨sh, e3, _⟩ := DataW.trod_bool Tryz.underlying4 q3
      obtain ⟨b', rfl⟩ := byte_of' hb
      simp only [List.cons.injEq, and_true] at e0 e2 e3
      subst e0 e1 e2 e3
      have c0 := hcell 0 (by omega)
      have c1 := hcell 1 (by omega)
      have c2 := hcell 2 (by omega)
      have c3 := hcell 3 (by omega)
      rw [Deep.add_add] at c0 c1 c2 c3
      obtain ⟨bb, o, spot⟩ := x
      have hspot : spot = none := by
        obtain ⟨cs0, z1, _⟩ := hx 0 (by omega)
        obtain ⟨_, zl, zc⟩ := World.cells?_some z1
        have := (zc 0 (by omega)).trans (List.getElem?_eq_getElem (by omega))
        simpa [Addr.add] using World.cell?_spot this
      subst hspot
      rw [addr_add] at c0 c1 c2 c3
      exact ⟨⟨kd, qa, qq, qc, b', sh⟩, bb, o, rfl, by simpa using c0, by simpa [Nat.add_assoc] using c1, by simpa [Nat.add_assoc] using c2, by simpa [Nat.add_assoc] using c3, ⟨hq, hq2, hq3⟩⟩
    obtain ⟨q, hq⟩ := choose_lt each
    refine ⟨(List.range len).map q, by simp, fun i hi => ?_, by simp; unfold maxLen at hm; omega⟩
    have hi' : i < len := by simpa using hi
    obtain ⟨b, o, e, h0, h1, h2, h3, h4⟩ := hq i hi'
    refine ⟨b, o, by rw [e], ?_, ?_, ?_, ?_, ?_⟩
    · simpa using h0
    · simpa using h1
    · simpa using h2
    · simpa using h3
    · simpa using h4
end Go.Proofs.YthdcjepkehifoaaGreat
