/- YtdieafkmnckhaaaGreatPDds + YtdieafkmnckhaaaGreatPOwn -/
import Derived.Test.YtdieafkmnckhaaaGreatPLive
import Derived.Test.YtdieafkmnckhaaaGreatBLift
import Derived.Lib.SmallJoins
import Derived.Deep.Slices
import Derived.SliceStrings
import Derived.ChangeSlices
/- Deeds of layer 4 that lie in the world; what an argument that is one, or a row of them, gives to a walk. -/
namespace Go.Proofs.YtdieafkmnckhaaaGreat
open Go.RowKit Go.Maps
set_option linter.unusedVariables false
set_option maxRecDepth 20000
/-- a deed as it was handed in -/
structure Dd where
  kd : Int
  a : Option Addr
  q : List Int
  c : Nat
  y : UInt8
  sh : Bool
deriving Inhabited
def Dd.val (d : Dd) : Value := .agg #[.int .i64 d.kd, .slice d.a d.q.length d.c, .int .u8 (d.y.toNat : Int), .bool d.sh]
/-- whole numbers of a deed -/
structure DdOk (w : World) (d : Dd) : Prop where
  ints : IntsAt w d.a d.q
  wf : ∀ x ∈ d.q, -9223372036854775808 ≤ x ∧ x ≤ 9223372036854775807
  len : d.q.length ≤ 9223372036854775807
theorem DdOk.below {w w' : World} {d : Dd} (h : DdOk w d) (hb : Below w.heap.size w w') : DdOk w' d := ⟨h.ints.below hb, h.wf, h.len⟩
theorem IntsAt.keep {w w' : World} {a : Option Addr} {l : List Int} (h : IntsAt w a l) {B : Nat} (hB : ∀ i (h : i < l.length), ∃ b o, a = some ⟨b, o, none⟩ ∧ b < B) (hk : ∀ k, k < B → w'.heap[k]? = w.heap[k]?) : IntsAt w' a l := fun i hi => by
  obtain ⟨b, o, e, hc⟩ := h i hi
  obtain ⟨b', o', e', hl⟩ := hB i hi
  rw [e] at e'
  cases e'
  exact ⟨b, o, e, (World.cell?_of_block (a := ⟨b, _, none⟩) (hk b hl)).trans hc⟩
theorem first_wf {w : World} {d : Dd} (h : DdOk w d) : -9223372036854775808 ≤ firstOf d.q ∧ firstOf d.q ≤ 9223372036854775807 := by
  unfold firstOf
  cases hq : d.q with
  | nil => simp
  | cons x t => exact h.wf x (by rw [hq]; simp)
/-- deeds that lie in a row of the world -/
def DdsAt (w : World) (a : Option Addr) (l : List Dd) : Prop := ∀ i (h : i < l.length), ∃ b o, a = some ⟨b, o, none⟩ ∧ w.cell? ⟨b, o + i * 4, none⟩ = some (.int .i64 l[i].kd) ∧ w.cell? ⟨b, o + i * 4 + 1, none⟩ = some (.slice l[i].a l[i].q.length l[i].c) ∧ w.cell? ⟨b, o + i * 4 + 2, none⟩ = some (.int .u8 (l[i].y.toNat : Int)) ∧ w.cell? ⟨b, o + i * 4 + 3, none⟩ = some (.bool l[i].sh) ∧ DdOk w l[i]
theorem DdsAt.keep {w w' : World} {a : Option Addr} {l : List Dd} (h : DdsAt w a l) (hb : Below w.heap.size w w') : DdsAt w' a l := fun i hi => by
  obtain ⟨b, o, e, h0, h1, h2, h3, h4⟩ := h i hi
  have hbk := hb.block b (World.block_lt_of_cell? _ _ h0)
  exact ⟨b, o, e, (World.cell?_of_block (a := ⟨b, _, none⟩) hbk).trans h0, (World.cell?_of_block (a := ⟨b, _, none⟩) hbk).trans h1, (World.cell?_of_block (a := ⟨b, _, none⟩) hbk).trans h2, (World.cell?_of_block (a := ⟨b, _, none⟩) hbk).trans h3, h4.below hb⟩
theorem byte_of' {n : Int} (h : (Lit.int .u8 n).wf = true) : ∃ b : UInt8, n = (b.toNat : Int) := by
  have hr : 0 ≤ n ∧ n ≤ 255 := by simpa [Lit.wf, IntKind.min, IntKind.max, IntKind.signed, IntKind.bits] using h
  refine ⟨UInt8.ofNat n.toNat, ?_⟩
  rw [UInt8.toNat_ofNat']
  omega
theorem list4 {α : Type} {l : List α} (h : l.length = 4) : ∃ a b c d, l = [a, b, c, d] := by
  match l, h with
  | [a, b, c, d], _ => exact ⟨a, b, c, d, rfl⟩
theorem cellsInt4 : Tryz.prog.cellsOf 3 = 1 := by kernel_rfl
theorem cellsDd : Tryz.prog.cellsOf 31 = 4 := by kernel_rfl
open Go.ChangeShapes Go.WideShapes Go.ChangeAt Go.Deep
/-- a row of numbers that a deed bears -/
theorem open_ints4 {H : Type} {enc : TypeId × Value → H} {W : World} {v : Value} {fuel : Nat} {x : DataW H × List MemPlace}
    (hf : DataW.trod enc Tryz.prog W 0 (fun _ => true) true fuel 29 [v] = some x) : ∃ (a : Option Addr) (l : List Int) (c : Nat), v = .slice a l.length c ∧ IntsAt W a l ∧ (∀ x ∈ l, -9223372036854775808 ≤ x ∧ x ≤ 9223372036854775807) ∧ l.length ≤ 9223372036854775807 := by
  rcases open_ints Tryz.underlying29 Tryz.underlying3 cellsInt4 hf with ⟨hcs, _⟩ | ⟨x, l', c', zs, hcs, _, hl, hm, hz, hx, hcell, hwz⟩
  · simp only [List.cons.injEq, and_true] at hcs
    subst hcs
    exact ⟨none, [], 0, rfl, fun i hi => by simp at hi, fun x hx => by simp at hx, by simp⟩
  · simp only [List.cons.injEq, and_true] at hcs
    subst hcs
    simp only [if_true] at hz
    have hlen : (zs.take l').length = l' := by rw [List.length_take]; omega
    refine ⟨some x, zs.take l', c', by rw [hlen], fun i hi => ?_, fun z hz' => ?_, by rw [hlen]; unfold maxLen at hm; omega⟩
    · obtain ⟨b, o, spot⟩ := x
      have hc := hcell i (by omega)
      have hspot : spot = none := by simpa [Addr.add] using World.cell?_spot (hcell 0 (by omega))
      subst hspot
      refine ⟨b, o, rfl, ?_⟩
      rw [addr_add] at hc
      rw [hc]
      have hi' : i < zs.length := by omega
      simp only [List.getD, List.getElem?_eq_getElem hi', Option.getD_some, List.getElem_take]
    · have := hwz z (List.mem_of_mem_take hz')
      simpa [Lit.wf, IntKind.min, IntKind.max, IntKind.signed, IntKind.bits] using this
theorem open_deed4 {H : Type} {enc : TypeId × Value → H} {W : World} {b0 : Nat} {r : Reach} {v : Value} {d : DataW H} {p : List MemPlace}
    (hv : Value.okWide Tryz.prog W r b0 31 v) (h : DataW.Trod enc Tryz.prog W 0 (fun _ => true) true 31 v d p) :
    ∃ x : Dd, v = x.val ∧ DdOk W x := by
  obtain ⟨v0, v1, v2, v3, y0, y1, y2, y3, n, rfl, _, _, h0, h1, h2, h3⟩ := Joins.open_agg4 Tryz.underlying31 (by kernel_rfl) cellsDd hv h
  obtain ⟨N, e0, _, _⟩ := DataW.trod_int Tryz.underlying3 h0
  obtain ⟨a, l, c, rfl, g1, g2, g3⟩ := open_ints4 h1
  obtain ⟨b, e2, _, hb⟩ := DataW.trod_int Tryz.underlying5 h2
  obtain ⟨sh, e3, _⟩ := DataW.trod_bool Tryz.underlying4 h3
  obtain ⟨b', rfl⟩ := byte_of' hb
  simp only [List.cons.injEq, and_true] at e0 e2 e3
  exact ⟨⟨N, a, l, c, b', sh⟩, by rw [e0, e2, e3]; rfl, ⟨g1, g2, g3⟩⟩
theorem open_dds {H : Type} {enc : TypeId × Value → H} {W : World} {a : Option Addr} {len cap : Nat} {d : DataW H} {p : List MemPlace}
    (h : DataW.Trod enc Tryz.prog W 0 (fun _ => true) true 22 (.slice a len cap) d p) : ∃ l : List Dd, l.length = len ∧ DdsAt W a l ∧ l.length ≤ 9223372036854775807 := by
  obtain ⟨fuel, hf⟩ := h
  rcases open_slice Tryz.underlying22 hf with ⟨hcs, _⟩ | ⟨x, l', c', m, n, D, Pl, hcs, hb, hl, hm, hmm, _, hx⟩
  · simp [Value.cells] at hcs
    obtain ⟨rfl, rfl, rfl⟩ := hcs
    exact ⟨[], rfl, fun i hi => by simp at hi, by simp⟩
  · simp [Value.cells] at hcs
    obtain ⟨rfl, rfl, rfl⟩ := hcs
    simp only [if_true] at hmm
    rw [cellsDd] at hx
    have each : ∀ i, i < len → ∃ q : Dd, ∃ b o, x = ⟨b, o, none⟩ ∧ W.cell? ⟨b, o + i * 4, none⟩ = some (.int .i64 q.kd) ∧ W.cell? ⟨b, o + i * 4 + 1, none⟩ = some (.slice q.a q.q.length q.c) ∧ W.cell? ⟨b, o + i * 4 + 2, none⟩ = some (.int .u8 (q.y.toNat : Int)) ∧ W.cell? ⟨b, o + i * 4 + 3, none⟩ = some (.bool q.sh) ∧ DdOk W q := by
      intro i hi
      obtain ⟨cs', h1, h2⟩ := hx i (by omega)
      obtain ⟨_, hlen, hcell⟩ := World.cells?_some h1
      obtain ⟨xs, k, hk, hxy, _, hxl, hf⟩ := DataW.trod_struct Tryz.underlying31 h2
      obtain ⟨v0, v1, v2, v3, rfl⟩ := list4 hlen
      have g0 := hf 0 _ rfl
      have g1 := hf 1 _ rfl
      have g2 := hf 2 _ rfl
      have g3 := hf 3 _ rfl
      have s0 : Tryz.prog.cellsOf 3 = 1 := by kernel_rfl
      have s1 : Tryz.prog.cellsOf 29 = 1 := by kernel_rfl
      have s2 : Tryz.prog.cellsOf 5 = 1 := by kernel_rfl
      have s3 : Tryz.prog.cellsOf 4 = 1 := by kernel_rfl
      simp [s0, s1, s2, s3] at g0 g1 g2 g3
      have q0 : ∃ y, DataW.trod enc Tryz.prog W 0 (fun _ => true) true k 3 [v0] = some y := ⟨_, g0.trans (List.getElem?_eq_getElem (by rw [hxl]; decide))⟩
      have q1 : ∃ y, DataW.trod enc Tryz.prog W 0 (fun _ => true) true k 29 [v1] = some y := ⟨_, g1.trans (List.getElem?_eq_getElem (by rw [hxl]; decide))⟩
      have q2 : ∃ y, DataW.trod enc Tryz.prog W 0 (fun _ => true) true k 5 [v2] = some y := ⟨_, g2.trans (List.getElem?_eq_getElem (by rw [hxl]; decide))⟩
      have q3 : ∃ y, DataW.trod enc Tryz.prog W 0 (fun _ => true) true k 4 [v3] = some y := ⟨_, g3.trans (List.getElem?_eq_getElem (by rw [hxl]; decide))⟩
      obtain ⟨y0, q0⟩ := q0
      obtain ⟨y1, q1⟩ := q1
      obtain ⟨y2, q2⟩ := q2
      obtain ⟨y3, q3⟩ := q3
      obtain ⟨kd, e0, _, _⟩ := DataW.trod_int Tryz.underlying3 q0
      obtain ⟨qa, qq, qc, e1, hq, hq2, hq3⟩ := open_ints4 q1
      obtain ⟨b, e2, _, hb⟩ := DataW.trod_int Tryz.underlying5 q2
      obtain ⟨sh, e3, _⟩ := DataW.trod_bool Tryz.underlying4 q3
      obtain ⟨b', rfl⟩ := byte_of' hb
      simp only [List.cons.injEq, and_true] at e0 e2 e3
      subst e0 e1 e2 e3
      have c0 := hcell 0 (by omega)
      have c1 := hcell 1 (by omega)
      have c2 := hcell 2 (by omega)
      have c3 := hcell 3 (by omega)
      rw [Deep.add_add] at c0 c1 c2 c3
      obtain ⟨bb, o, spot⟩ := x
      have hspot : spot = none := by
        obtain ⟨cs0, z1, _⟩ := hx 0 (by omega)
        obtain ⟨_, zl, zc⟩ := World.cells?_some z1
        have := (zc 0 (by omega)).trans (List.getElem?_eq_getElem (by omega))
        simpa [Addr.add] using World.cell?_spot this
      subst hspot
      rw [addr_add] at c0 c1 c2 c3
      exact ⟨⟨kd, qa, qq, qc, b', sh⟩, bb, o, rfl, by simpa using c0, by simpa [Nat.add_assoc] using c1, by simpa [Nat.add_assoc] using c2, by simpa [Nat.add_assoc] using c3, ⟨hq, hq2, hq3⟩⟩
    obtain ⟨q, hq⟩ := choose_lt each
    refine ⟨(List.range len).map q, by simp, fun i hi => ?_, by simp; unfold maxLen at hm; omega⟩
    have hi' : i < len := by simpa using hi
    obtain ⟨b, o, e, h0, h1, h2, h3, h4⟩ := hq i hi'
    refine ⟨b, o, by rw [e], ?_, ?_, ?_, ?_, ?_⟩
    · simpa using h0
    · simpa using h1
    · simpa using h2
    · simpa using h3
    · simpa using h4
end Go.Proofs.YtdieafkmnckhaaaGreat

/- PagerOwn's walk. -/
namespace Go.Proofs.YtdieafkmnckhaaaGreat
open Go.RowKit Go.Maps Go.Sort Go.Shelf
set_option linter.unusedVariables false
set_option maxRecDepth 20000
theorem Cache.set {w w' : World} {p : Nat} {s : PS} {F : Nat → Prop} (h : Cache w p s F) {g : Nat} (hg : F g) (hs : w'.heap.size = w.heap.size) (hk : ∀ k, k ≠ g → w'.heap[k]? = w.heap[k]?) : Cache w' p s F := by
  obtain ⟨m, h1, h2, h3⟩ := h
  exact ⟨m, h1.keep (fun k hk' => hk k (fun e => (h3 g hg).2 (e ▸ hk'))), h2, fun k hk' => ⟨by rw [hs]; exact (h3 k hk').1, (h3 k hk').2⟩⟩
theorem new_now {S G mo x : Nat} (hx : x < 11) : (newS S 11 0 G [] [] mo).now x = List.replicate 256 0 := by
  show (fresh S 11).getD (S + 1 + x) [] = _
  unfold fresh
  rw [List.getD_eq_getElem?_getD, List.getElem?_replicate, if_pos (by omega)]
  rfl
theorem same_eq {w : World} {a b : Option Addr} {x : List UInt8} {n : Nat} (ca cb : Nat) (ha : Bytes w a x) (hb : Bytes w b x) (hn : x.length = n) (hl : n ≤ 1000) :
    Calls Tryz.prog 34 #[.slice a n ca, .slice b n cb] w fun e w' => e = .returned (.bool true) ∧ Below w.heap.size w w' := by
  subst hn
  refine (sameBytes_any x x a b ca cb w ha hb (by omega) (by omega)).mono ?_
  rintro _ w' ⟨rfl, hbl⟩
  exact ⟨by rw [decide_eq_true (rfl : x = x)], hbl⟩
/-- a deed in its block -/
def Dd.obj (d : Dd) : Array Value := #[.int .i64 d.kd, .slice d.a d.q.length d.c, .int .u8 (d.y.toNat : Int), .bool d.sh]
set_option maxHeartbeats 4000000 in
theorem pagerOwn_walk (x : Dd) (w : World) (hx : DdOk w x) : Calls Tryz.prog 8 #[x.val] w fun e w' => e = .returned (.bool true) ∧ Below w.heap.size w w' := by
  obtain ⟨kd, qa, qq, qc, y, sh⟩ := x
  obtain ⟨w0, hw0⟩ : ∃ w0, w0 = w.alloc (.cells #[.int .i64 kd, .slice qa qq.length qc, .int .u8 (y.toNat : Int), .bool sh] 31) := ⟨_, rfl⟩
  have hb0 : Below w.heap.size w w0 := by rw [hw0]; exact (Below.refl _ w).alloc (Nat.le_refl _) _
  have hx0 : w0.heap[w.heap.size]? = some (.cells #[.int .i64 kd, .slice qa qq.length qc, .int .u8 (y.toNat : Int), .bool sh] 31 (0, 0)) := by rw [hw0]; exact heap_alloc_new _ _
  have HDw := hid hx
  have HD := hid (hx.below hb0)
  have hq := first_wf hx
  have hs0 : w0.heap.size = w.heap.size + 1 := by rw [hw0]; simp
  obtain ⟨F, hF⟩ : ∃ F : Nat → Prop, F = fun k => k < w0.heap.size := ⟨_, rfl⟩
  have HO := hid (open_c w0 10 4 (by omega) (by omega) (by omega) (by omega) F (fun k hk => by rw [hF] at hk; exact hk))
  have HF := hid hF
  have HW0 := hid hw0
  have HX0 := hid hx0
  have HB0 := hid hb0
  clear hF hw0 hx0 hb0 hx
  unfold Dd.val
  go_enter Tryz.func8, Tryz.ntmps8
  go_wp2_with fail
  rw [show w.alloc (.cells #[.int .i64 kd, .slice qa qq.length qc, .int .u8 (y.toNat : Int), .bool sh] 31) = w0 from HW0.out.symm]
  refine HO.out.mono ?_
  rintro _ w1 ⟨p, q, rfl, C1, b1⟩
  have HC1 := hid C1
  have HB1 := hid (Below.on' HB0.out (b1.mono (Nat.le_refl _)))
  have HX1 := hid ((b1.block w.heap.size (by omega)).trans HX0.out)
  have HD1 := hid (HD.out.below b1)
  have s1 := b1.size
  clear C1 b1 HO
  go_wp2_with fail
  refine (pgLive_any _).mono ?_
  rintro _ w2 ⟨rfl, b2⟩
  have HC2 := hid (HC1.out.below b2)
  have HX2 := (b2.block w.heap.size (by omega)).trans HX1.out
  have HD2 := hid (HD1.out.below b2)
  have HB2 := hid (Below.on' HB1.out b2)
  have x20 := cell_of_row _ _ 0 _ _ _ HX2
  have x21 := cell_of_row _ _ 1 _ _ _ HX2
  have x22 := cell_of_row _ _ 2 _ _ _ HX2
  have x23 := cell_of_row _ _ 3 _ _ _ HX2
  have s2 := b2.size
  have HX2 := hid HX2
  clear b2 HC1 HX1 HD1 HB1
  obtain ⟨n, hn⟩ : ∃ n, n = dLen sh := ⟨_, rfl⟩
  have hn2 : n ≤ 256 := by rw [hn]; unfold dLen; split <;> omega
  have HB := hid (bytes4_any kd (.slice qa qq.length qc) y sh w2 rfl)
  rw [← hn] at HB
  obtain ⟨z, hz⟩ : ∃ z, z = firstOf qq := ⟨_, rfl⟩
  rw [← hz] at hq
  have HN := hid hn
  have HZ := hid hz
  clear hn hz
  go_wp2_with fail
  refine HB.out.mono ?_
  rintro _ w3 ⟨g, gc, rfl, r3, hg3, b3⟩
  have x30 := (b3.cell (World.block_lt_of_cell? _ _ x20)).trans x20
  have x31 := (b3.cell (World.block_lt_of_cell? _ _ x21)).trans x21
  have x32 := (b3.cell (World.block_lt_of_cell? _ _ x22)).trans x22
  have x33 := (b3.cell (World.block_lt_of_cell? _ _ x23)).trans x23
  have C3 := HC2.out.add b3
  have hg3' := (r3.lt g rfl).2
  have HD3 := hid (HD2.out.below b3)
  have Hfi := hid (first4_any kd qa qq qc y sh w3 HD3.out.ints HD3.out.len)
  rw [← HZ.out] at Hfi
  have HX3 := hid ((b3.block w.heap.size (by omega)).trans HX2.out)
  have HB3 := hid (Below.on' HB2.out b3)
  have HC3 := hid C3
  have HR3 := hid r3
  have s3 := b3.size
  clear x20 x21 x22 x23 HB HC2 HD2 HX2 HB2 b3 C3 r3
  go_wp2_with fail
  refine Hfi.out.mono ?_
  rintro _ w4 ⟨rfl, b4⟩
  have C4 := HC3.out.below b4
  have R4 := hid (own_keep HR3.out (w' := w4) (fun k e => b4.block k (by cases e; exact hg3')))
  have HX4 := hid ((b4.block w.heap.size (by omega)).trans HX3.out)
  have HB4 := hid (Below.on' HB3.out b4)
  have HD4 := hid (HD3.out.below b4)
  have HWr := hid (write_c C4 (by simp [newS]) z hq (List.replicate n y) (some ⟨g, 0, none⟩) gc (bytes_of_row R4.out (by simp)) n (by simp))
  have s4 := b4.size
  clear x30 x31 x32 x33 Hfi HC3 HX3 HB3 HD3 HR3 b4 C4
  go_wp2_with fail
  refine HWr.out.mono ?_
  intro e5 w5 hpost
  obtain ⟨s0, hs0'⟩ : ∃ s0, s0 = newS 10 11 0 0 [] [] 4 := ⟨_, rfl⟩
  have k0 : Hid (s0.P = 11 ∧ s0.t = 0 ∧ s0.dl = [] ∧ CaOk s0 ∧ ∀ x, x < 11 → s0.now x = List.replicate 256 0) := by
    rw [hs0']
    exact ⟨rfl, rfl, rfl, newS_ok _ _ _ _ _ _ _ (by omega) (by omega), fun x hx => new_now hx⟩
  rw [← hs0'] at hpost
  obtain ⟨F2, hF2⟩ : ∃ F2 : Nat → Prop, F2 = fun k => F k ∨ (w2.heap.size ≤ k ∧ k < w3.heap.size) := ⟨_, rfl⟩
  rw [← hF2] at hpost
  have hF2g : Hid (F2 g) := by rw [hF2]; exact .inr ⟨hg3, hg3'⟩
  have hF2w : Hid (∀ k, k < w0.heap.size → F2 k) := by rw [hF2, HF.out]; exact fun k hk => .inl hk
  obtain ⟨e, s5, rfl, hor, C5, o5⟩ : ∃ (e : Int) (s5 : PS), e5 = .returned (.int .i64 e) ∧ ((¬ e = 0 ∧ s5 = s0 ∧ (sh = true ∨ badP s0 z)) ∨ (e = 0 ∧ s5 = writeS s0 z.toNat (List.replicate n y) ∧ sh = false ∧ ¬ badP s0 z)) ∧ Cache w5 p s5 F2 ∧ Kept F2 w4 w5 := by
    rcases hpost with ⟨h1, h2, h3, h4⟩ | ⟨h1, h2, h3, h4⟩
    · refine ⟨_, _, h2, .inl ⟨h1, rfl, ?_⟩, h3, h4⟩
      unfold writeE at h1
      by_cases hb : badP s0 z
      · exact .inr hb
      · left
        rw [if_neg (show ¬ (z < 0 ∨ (s0.P : Int) ≤ z) from hb)] at h1
        cases sh
        · exfalso
          rw [List.length_replicate, HN.out] at h1
          simp [dLen, k0.out.2.2.1] at h1
        · rfl
    · refine ⟨_, _, h2, .inr ⟨rfl, rfl, ?_⟩, h3, h4⟩
      unfold writeE at h1
      by_cases hb : badP s0 z
      · rw [if_pos (show (z < 0 ∨ (s0.P : Int) ≤ z) from hb)] at h1; omega
      · rw [if_neg (show ¬ (z < 0 ∨ (s0.P : Int) ≤ z) from hb), List.length_replicate, HN.out] at h1
        cases sh
        · exact ⟨rfl, hb⟩
        · simp [dLen] at h1
  have HC5 := hid C5
  have HR5 := hid (own_keep R4.out (w' := w5) (fun k e => by cases e; exact o5.get hF2g.out (by show g < _; omega)))
  have HX5 := hid ((o5.get (k := w.heap.size) (hF2w.out _ (by omega)) (by omega)).trans HX4.out)
  have HB5 := hid (HB4.out.trans (o5.below (B := w.heap.size) (by omega) (fun k hk => hF2w.out k (by omega))))
  have s5s := o5.size
  have HOr := hid hor
  clear hpost C5 o5 HWr R4 HX4 HB4 hF2 hs0' hor
  have HD5 : Hid (DdOk w5 ⟨kd, qa, qq, qc, y, sh⟩) := HDw.out.below HB5.out
  go_wp2_with fail
  go_loopw [8] (fun i wr => ∃ k : Nat, k ≤ n ∧ i = .int .i64 k ∧ (∃ xs : List UInt8, xs.length = n ∧ wr.ownsRow w2.heap.size 5 1 (.slice (some ⟨g, 0, none⟩) n gc) n (cellsOf xs)) ∧ Cache wr p s5 F2 ∧ wr.heap[w.heap.size]? = some (.cells #[.int .i64 kd, .slice qa qq.length qc, .int .u8 (y.toNat : Int), .bool sh] 31 (0, 0)) ∧ Below w.heap.size w wr ∧ w5.heap.size ≤ wr.heap.size) (fun i _ => n - (intOf i).toNat)
  case atStart => exact ⟨0, Nat.zero_le _, rfl, ⟨_, by simp, HR5.out⟩, HC5.out, HX5.out, HB5.out, Nat.le_refl _⟩
  case round =>
    obtain ⟨k, hk, rfl, ⟨xs, hxs, hown⟩, C6, X6, B6, s6⟩ := hrel
    have HC6 := hid C6
    have HX6 := hid X6
    have HB6 := hid B6
    have HXs := hid hxs
    have Hown := hid hown
    clear C6 X6 B6 hxs
    by_cases hlt : k < n
    · have c2 := (hown.cellAt k (by omega)).trans (cellsOf_get _ k (by rw [HXs.out]; exact hlt))
      have c3 := hown.frozenAt k
      have Hs := hid (hown.stored k (.int .u8 77))
      clear hown
      generalize (xs[k]'(by rw [HXs.out]; exact hlt)).toNat = c0 at c2
      go_wp2
      go_roundw
      case rel => exact ⟨k + 1, by omega, by go_num, ⟨xs.set k 77, by rw [List.length_set]; exact HXs.out, by
          have h1 := Hs.out.1
          have e : (cellsOf xs).set k (.int .u8 77) = cellsOf (xs.set k 77) := by simp [cellsOf, List.map_set]
          rw [e] at h1
          exact h1⟩, HC6.out.set hF2g.out (by simp [World.setCell]) (fun j hj => heap_setCell_other _ _ _ _ hj), (heap_setCell_other _ _ _ _ (show w.heap.size ≠ g by omega)).trans HX6.out, HB6.out.setCell (by show _ ≤ g; omega) _, by simp [World.setCell]; exact s6⟩
      case measure => simp [intOf]; omega
    · clear hown
      have x60 := cell_of_row _ _ 0 _ _ _ HX6.out
      have x61 := cell_of_row _ _ 1 _ _ _ HX6.out
      have x62 := cell_of_row _ _ 2 _ _ _ HX6.out
      have x63 := cell_of_row _ _ 3 _ _ _ HX6.out
      have HD6 : Hid (DdOk wr ⟨kd, qa, qq, qc, y, sh⟩) := HDw.out.below HB6.out
      have Hfi := hid (first4_any kd qa qq qc y sh wr HD6.out.ints HD6.out.len)
      rw [← HZ.out] at Hfi
      go_wp2_with fail
      refine Hfi.out.mono ?_
      rintro _ w7 ⟨rfl, b7⟩
      have s7 := b7.size
      have HX7 := hid ((b7.block w.heap.size (by omega)).trans HX6.out)
      have HB7 := hid (HB6.out.trans (b7.mono (by omega)))
      have ht5 : s5.t ≤ 1 := by
        rcases HOr.out with ⟨_, rfl, _⟩ | ⟨_, rfl, _⟩
        · have := k0.out.2.1; omega
        · have h1 := k0.out.2.1
          show s0.t + 1 ≤ 1
          omega
      have hP5 : s5.P = 11 := by
        rcases HOr.out with ⟨_, rfl, _⟩ | ⟨_, rfl, _⟩
        · exact k0.out.1
        · exact k0.out.1
      have HRd := hid (read_c (HC6.out.below b7) (by omega) z hq)
      clear x60 x61 x62 x63 Hfi HC6 HX6 HB6 HD6 b7 Hown HXs
      go_wp2_with fail
      refine HRd.out.mono ?_
      rintro _ w8 (⟨hbad, rfl, C8, b8⟩ | ⟨hgood, a8, c8, rfl, r8, C8, o8, ha8⟩)
      · have hbad0 : badP s0 z := by unfold badP at hbad ⊢; rw [hP5] at hbad; rw [k0.out.1]; exact hbad
        have he : ¬ e = 0 := by
          rcases HOr.out with ⟨h1, _⟩ | ⟨_, _, _, h1⟩
          · exact h1
          · exact absurd hbad0 h1
        have HB8 := hid (HB7.out.trans (b8.mono (by omega)))
        clear C8 b8 HRd
        go_wp2_with fail
        go_ret
        exact ⟨rfl, HB8.out⟩
      · have hgood0 : ¬ badP s0 z := by unfold badP at hgood ⊢; rw [hP5] at hgood; rw [k0.out.1]; exact hgood
        have hz0 : z.toNat < 11 ∧ 0 ≤ z := by unfold badP at hgood0; have := k0.out.1; omega
        have HB8 := hid (HB7.out.trans (o8.below (B := w.heap.size) (by omega) (fun k hk => hF2w.out k (by omega))))
        have s8 := o8.size
        have HX8 := hid ((o8.get (k := w.heap.size) (hF2w.out _ (by omega)) (by omega)).trans HX7.out)
        have ha8' := (r8.lt a8 rfl).2
        rcases HOr.out with ⟨he, hs5, hsh⟩ | ⟨he, hs5, hsh, _⟩
        · have hnow : s5.now z.toNat = List.replicate 256 0 := by rw [hs5]; exact k0.out.2.2.2.2 _ hz0.1
          rw [hnow] at r8
          have HR8 := hid r8
          clear C8 o8 HRd hnow r8 hs5 hsh hP5
          obtain ⟨i0, hi, hz0', hz1, hz2⟩ := info_parts Tryz.info5
          obtain ⟨w9, hrun, r9, g9⟩ := run_make_full (P := Tryz.prog) w8 w8.heap.size 49 5 i0 (.int .u8 0) 1 Tryz.underlying49 hi hz0' hz1 .i64 .i64 256 (by rw [hz2]; omega) (by unfold maxLen; omega) (Nat.le_refl _)
          have hrun2 : (Instr.makeSlice 49 (.int .i64 256) (.int .i64 256)).run Tryz.prog w8 = .ok (.slice (some ⟨w8.heap.size, 0, none⟩) 256 256) w9 := hrun
          clear hrun
          rw [made_zeros] at r9
          have b9 : Below w8.heap.size w8 w9 := (Below.refl _ w8).grown g9 (Nat.le_refl _) (by simp)
          have r89 := own_keep HR8.out (w' := w9) (fun k e => b9.block k (by cases e; exact ha8'))
          have HSb := hid (same_eq c8 256 (bytes_of_row r89 (by simp)) (bytes_of_row r9 (by simp)) (List.length_replicate) (by omega))
          have HB9 := hid (HB8.out.trans (b9.mono (by omega)))
          have s9 := b9.size
          clear r89 r9 g9 b9 HR8
          go_wp2_with (go_at_call 34; refine HSb.out.mono ?_; rintro _ w10 ⟨rfl, b10⟩; have B10 := hid b10; clear b10)
          go_ret
          exact ⟨ret_bool (by simp), HB9.out.trans (B10.out.mono (by omega))⟩
        · have hn' : n = 256 := by rw [HN.out, hsh]; rfl
          subst hn'
          have hnow : s5.now z.toNat = List.replicate 256 y := by rw [hs5, writeS_now k0.out.2.2.2.1, if_pos rfl]
          rw [hnow] at r8
          have HR8 := hid r8
          have HC8 := hid C8
          have x80 := cell_of_row _ _ 0 _ _ _ HX8.out
          have x81 := cell_of_row _ _ 1 _ _ _ HX8.out
          have x82 := cell_of_row _ _ 2 _ _ _ HX8.out
          have x83 := cell_of_row _ _ 3 _ _ _ HX8.out
          have HBy := hid (bytes4_any kd (.slice qa qq.length qc) y sh w8 rfl)
          rw [← HN.out] at HBy
          have HNow := hid hnow
          have HSh := hid hsh
          have HP5 := hid hP5
          clear C8 o8 HRd r8 hs5 hnow hsh hP5
          subst he
          go_wp2_with fail
          refine HBy.out.mono ?_
          rintro _ w9 ⟨g9, gc9, rfl, r9, hg9, b9⟩
          have r89 := own_keep HR8.out (w' := w9) (fun k e => b9.block k (by cases e; exact ha8'))
          have HSb := hid (same_eq c8 gc9 (bytes_of_row r89 (by simp)) (bytes_of_row r9 (by simp)) (List.length_replicate) (by omega))
          have HB9 := hid (HB8.out.trans (b9.mono (by omega)))
          have HC9 := hid (HC8.out.below b9)
          have HR9 := hid r89
          have HX9 := hid ((b9.block w.heap.size (by omega)).trans HX8.out)
          have s9 := b9.size
          clear r89 r9 b9 HR8 HBy HC8 HB8 HX8 x80 x81 x82 x83
          go_wp2_with fail
          refine HSb.out.mono ?_
          rintro _ w10 ⟨rfl, b10⟩
          have HB10 := hid (HB9.out.trans (b10.mono (by omega)))
          have HC10 := hid (HC9.out.below b10)
          have HR10 := hid (own_keep HR9.out (w' := w10) (fun k e => b10.block k (by cases e; show a8 < _; omega)))
          have HX10 := hid ((b10.block w.heap.size (by omega)).trans HX9.out)
          have s10 := b10.size
          clear b10 HB9 HC9 HR9 HX9 HSb
          go_wp2_with fail
          go_loopw [11] (fun i wr2 => ∃ k : Nat, k ≤ 256 ∧ i = .int .i64 k ∧ (∃ xs : List UInt8, xs.length = 256 ∧ wr2.ownsRow w7.heap.size 5 1 (.slice (some ⟨a8, 0, none⟩) 256 c8) 256 (cellsOf xs)) ∧ Cache wr2 p (readS s5 z.toNat) (fun k => F2 k ∨ k = a8) ∧ wr2.heap[w.heap.size]? = some (.cells #[.int .i64 kd, .slice qa qq.length qc, .int .u8 (y.toNat : Int), .bool sh] 31 (0, 0)) ∧ Below w.heap.size w wr2 ∧ w10.heap.size ≤ wr2.heap.size) (fun i _ => 256 - (intOf i).toNat)
          case atStart => exact ⟨0, Nat.zero_le _, rfl, ⟨_, List.length_replicate, HR10.out⟩, HC10.out, HX10.out, HB10.out, Nat.le_refl _⟩
          case round =>
            obtain ⟨k2, hk2, rfl, ⟨xs, hxs, hown⟩, C11, X11, B11, s11⟩ := hrel
            have HC11 := hid C11
            have HX11 := hid X11
            have HB11 := hid B11
            have HXs := hid hxs
            have Hown := hid hown
            clear C11 X11 B11 hxs
            by_cases hlt : k2 < 256
            · have c2 := (hown.cellAt k2 (by omega)).trans (cellsOf_get _ k2 (by rw [HXs.out]; exact hlt))
              have c3 := hown.frozenAt k2
              have Hs := hid (hown.stored k2 (.int .u8 78))
              clear hown
              generalize (xs[k2]'(by rw [HXs.out]; exact hlt)).toNat = c0 at c2
              go_wp2
              go_roundw
              case rel => exact ⟨k2 + 1, by omega, by go_num, ⟨xs.set k2 78, by rw [List.length_set]; exact HXs.out, by
                  have h1 := Hs.out.1
                  have e : (cellsOf xs).set k2 (.int .u8 78) = cellsOf (xs.set k2 78) := by simp [cellsOf, List.map_set]
                  rw [e] at h1
                  exact h1⟩, HC11.out.set (g := a8) (.inr rfl) (by simp [World.setCell]) (fun j hj => heap_setCell_other _ _ _ _ hj), (heap_setCell_other _ _ _ _ (show w.heap.size ≠ a8 by omega)).trans HX11.out, HB11.out.setCell (by show _ ≤ a8; omega) _, by simp [World.setCell]; exact s11⟩
              case measure => simp [intOf]; omega
            · clear hown
              have x60 := cell_of_row _ _ 0 _ _ _ HX11.out
              have x61 := cell_of_row _ _ 1 _ _ _ HX11.out
              have x62 := cell_of_row _ _ 2 _ _ _ HX11.out
              have x63 := cell_of_row _ _ 3 _ _ _ HX11.out
              have HD12 : Hid (DdOk wr ⟨kd, qa, qq, qc, y, sh⟩) := HDw.out.below HB11.out
              have Hfi := hid (first4_any kd qa qq qc y sh wr HD12.out.ints HD12.out.len)
              rw [← HZ.out] at Hfi
              go_wp2_with fail
              refine Hfi.out.mono ?_
              rintro _ w12 ⟨rfl, b12⟩
              have s12 := b12.size
              have HX12 := hid ((b12.block w.heap.size (by omega)).trans HX11.out)
              have HB12 := hid (HB11.out.trans (b12.mono (by omega)))
              have ht6 : (readS s5 z.toNat).t ≤ 2 := by have := (readS_same (s := s5) z.toNat).2.2.2.1; omega
              have HRd := hid (read_c (HC11.out.below b12) (by omega) z hq)
              clear x60 x61 x62 x63 Hfi HC11 HX11 HB11 HD12 b12 Hown HXs
              go_wp2_with fail
              refine HRd.out.mono ?_
              rintro _ w13 (⟨hbad, _⟩ | ⟨_, a13, c13, rfl, r13, C13, o13, ha13⟩)
              · exfalso
                unfold badP at hbad
                rw [(readS_same (s := s5) z.toNat).2.1, HP5.out] at hbad
                omega
              have hnow2 : (readS s5 z.toNat).now z.toNat = List.replicate 256 y := (readS_now _ _).trans HNow.out
              rw [hnow2] at r13
              have HR13 := hid r13
              have ha13' := (r13.lt a13 rfl).2
              have HB13 := hid (HB12.out.trans (o13.below (B := w.heap.size) (by omega) (fun k hk => .inl (hF2w.out k (by omega)))))
              have s13 := o13.size
              have X13 := (o13.get (k := w.heap.size) (.inl (hF2w.out _ (by omega))) (by omega)).trans HX12.out
              have x70 := cell_of_row _ _ 0 _ _ _ X13
              have x71 := cell_of_row _ _ 1 _ _ _ X13
              have x72 := cell_of_row _ _ 2 _ _ _ X13
              have x73 := cell_of_row _ _ 3 _ _ _ X13
              have HBy2 := hid (bytes4_any kd (.slice qa qq.length qc) y sh w13 rfl)
              rw [← HN.out] at HBy2
              clear C13 o13 HRd r13 hnow2 X13
              go_wp2_with fail
              refine HBy2.out.mono ?_
              rintro _ w14 ⟨g14, gc14, rfl, r14, hg14, b14⟩
              have r134 := own_keep HR13.out (w' := w14) (fun k e => b14.block k (by cases e; exact ha13'))
              have HSb2 := hid (same_eq c13 gc14 (bytes_of_row r134 (by simp)) (bytes_of_row r14 (by simp)) (List.length_replicate) (by omega))
              have HB14 := hid (HB13.out.trans (b14.mono (by omega)))
              have s14 := b14.size
              clear r134 r14 b14 HR13 HBy2 x70 x71 x72 x73
              go_wp2_with fail
              refine HSb2.out.mono ?_
              rintro _ w15 ⟨rfl, b15⟩
              have HB15 := hid (HB14.out.trans (b15.mono (by omega)))
              clear b15
              go_wp2
              go_ret
              exact ⟨ret_bool (by simp), HB15.out⟩
end Go.Proofs.YtdieafkmnckhaaaGreat
