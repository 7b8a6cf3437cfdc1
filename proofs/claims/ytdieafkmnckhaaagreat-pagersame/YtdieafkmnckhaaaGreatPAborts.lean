/- YtdieafkmnckhaaaGreatPDds + YtdieafkmnckhaaaGreatPAll + YtdieafkmnckhaaaGreatPAb + YtdieafkmnckhaaaGreatPAborts -/
import Derived.Test.YtdieafkmnckhaaaGreatPLive
import Derived.Test.YtdieafkmnckhaaaGreatBLift
import Derived.Lib.SmallJoins
import Derived.Deep.Slices
import Derived.SliceStrings
import Derived.ChangeSlices
/- Deeds of layer 4 that lie in the world; what an argument that is one, or a row of them, gives to a walk. -/
namespace Go.Proofs.YtdieafkmnckhaaaGreat
open Go.RowKit Go.Maps
set_option linter.unusedVariables false
set_option maxRecDepth 20000
/-- a deed as it was handed in -/
structure Dd where
  kd : Int
  a : Option Addr
  q : List Int
  c : Nat
  y : UInt8
  sh : Bool
deriving Inhabited
def Dd.val (d : Dd) : Value := .agg #[.int .i64 d.kd, .slice d.a d.q.length d.c, .int .u8 (d.y.toNat : Int), .bool d.sh]
/-- whole numbers of a deed -/
structure DdOk (w : World) (d : Dd) : Prop where
  ints : IntsAt w d.a d.q
  wf : ∀ x ∈ d.q, -9223372036854775808 ≤ x ∧ x ≤ 9223372036854775807
  len : d.q.length ≤ 9223372036854775807
theorem DdOk.below {w w' : World} {d : Dd} (h : DdOk w d) (hb : Below w.heap.size w w') : DdOk w' d := ⟨h.ints.below hb, h.wf, h.len⟩
theorem IntsAt.keep {w w' : World} {a : Option Addr} {l : List Int} (h : IntsAt w a l) {B : Nat} (hB : ∀ i (h : i < l.length), ∃ b o, a = some ⟨b, o, none⟩ ∧ b < B) (hk : ∀ k, k < B → w'.heap[k]? = w.heap[k]?) : IntsAt w' a l := fun i hi => by
  obtain ⟨b, o, e, hc⟩ := h i hi
  obtain ⟨b', o', e', hl⟩ := hB i hi
  rw [e] at e'
  cases e'
  exact ⟨b, o, e, (World.cell?_of_block (a := ⟨b, _, none⟩) (hk b hl)).trans hc⟩
theorem first_wf {w : World} {d : Dd} (h : DdOk w d) : -9223372036854775808 ≤ firstOf d.q ∧ firstOf d.q ≤ 9223372036854775807 := by
  unfold firstOf
  cases hq : d.q with
  | nil => simp
  | cons x t => exact h.wf x (by rw [hq]; simp)
/-- deeds that lie in a row of the world -/
def DdsAt (w : World) (a : Option Addr) (l : List Dd) : Prop := ∀ i (h : i < l.length), ∃ b o, a = some ⟨b, o, none⟩ ∧ w.cell? ⟨b, o + i * 4, none⟩ = some (.int .i64 l[i].kd) ∧ w.cell? ⟨b, o + i * 4 + 1, none⟩ = some (.slice l[i].a l[i].q.length l[i].c) ∧ w.cell? ⟨b, o + i * 4 + 2, none⟩ = some (.int .u8 (l[i].y.toNat : Int)) ∧ w.cell? ⟨b, o + i * 4 + 3, none⟩ = some (.bool l[i].sh) ∧ DdOk w l[i]
theorem DdsAt.keep {w w' : World} {a : Option Addr} {l : List Dd} (h : DdsAt w a l) (hb : Below w.heap.size w w') : DdsAt w' a l := fun i hi => by
  obtain ⟨b, o, e, h0, h1, h2, h3, h4⟩ := h i hi
  have hbk := hb.block b (World.block_lt_of_cell? _ _ h0)
  exact ⟨b, o, e, (World.cell?_of_block (a := ⟨b, _, none⟩) hbk).trans h0, (World.cell?_of_block (a := ⟨b, _, none⟩) hbk).trans h1, (World.cell?_of_block (a := ⟨b, _, none⟩) hbk).trans h2, (World.cell?_of_block (a := ⟨b, _, none⟩) hbk).trans h3, h4.below hb⟩
theorem byte_of' {n : Int} (h : (Lit.int .u8 n).wf = true) : ∃ b : UInt8, n = (b.toNat : Int) := by
  have hr : 0 ≤ n ∧ n ≤ 255 := by simpa [Lit.wf, IntKind.min, IntKind.max, IntKind.signed, IntKind.bits] using h
  refine ⟨UInt8.ofNat n.toNat, ?_⟩
  rw [UInt8.toNat_ofNat']
  omega
theorem list4 {α : Type} {l : List α} (h : l.length = 4) : ∃ a b c d, l = [a, b, c, d] := by
  match l, h with
  | [a, b, c, d], _ => exact ⟨a, b, c, d, rfl⟩
theorem cellsInt4 : Tryz.prog.cellsOf 3 = 1 := by kernel_rfl
theorem cellsDd : Tryz.prog.cellsOf 31 = 4 := by kernel_rfl
open Go.ChangeShapes Go.WideShapes Go.ChangeAt Go.Deep
/-- a row of numbers that a deed bears -/
theorem open_ints4 {H : Type} {enc : TypeId × Value → H} {W : World} {v : Value} {fuel : Nat} {x : DataW H × List MemPlace}
    (hf : DataW.trod enc Tryz.prog W 0 (fun _ => true) true fuel 29 [v] = some x) : ∃ (a : Option Addr) (l : List Int) (c : Nat), v = .slice a l.length c ∧ IntsAt W a l ∧ (∀ x ∈ l, -9223372036854775808 ≤ x ∧ x ≤ 9223372036854775807) ∧ l.length ≤ 9223372036854775807 := by
  rcases open_ints Tryz.underlying29 Tryz.underlying3 cellsInt4 hf with ⟨hcs, _⟩ | ⟨x, l', c', zs, hcs, _, hl, hm, hz, hx, hcell, hwz⟩
  · simp only [List.cons.injEq, and_true] at hcs
    subst hcs
    exact ⟨none, [], 0, rfl, fun i hi => by simp at hi, fun x hx => by simp at hx, by simp⟩
  · simp only [List.cons.injEq, and_true] at hcs
    subst hcs
    simp only [if_true] at hz
    have hlen : (zs.take l').length = l' := by rw [List.length_take]; omega
    refine ⟨some x, zs.take l', c', by rw [hlen], fun i hi => ?_, fun z hz' => ?_, by rw [hlen]; unfold maxLen at hm; omega⟩
    · obtain ⟨b, o, spot⟩ := x
      have hc := hcell i (by omega)
      have hspot : spot = none := by simpa [Addr.add] using World.cell?_spot (hcell 0 (by omega))
      subst hspot
      refine ⟨b, o, rfl, ?_⟩
      rw [addr_add] at hc
      rw [hc]
      have hi' : i < zs.length := by omega
      simp only [List.getD, List.getElem?_eq_getElem hi', Option.getD_some, List.getElem_take]
    · have := hwz z (List.mem_of_mem_take hz')
      simpa [Lit.wf, IntKind.min, IntKind.max, IntKind.signed, IntKind.bits] using this
theorem open_deed4 {H : Type} {enc : TypeId × Value → H} {W : World} {b0 : Nat} {r : Reach} {v : Value} {d : DataW H} {p : List MemPlace}
    (hv : Value.okWide Tryz.prog W r b0 31 v) (h : DataW.Trod enc Tryz.prog W 0 (fun _ => true) true 31 v d p) :
    ∃ x : Dd, v = x.val ∧ DdOk W x := by
  obtain ⟨v0, v1, v2, v3, y0, y1, y2, y3, n, rfl, _, _, h0, h1, h2, h3⟩ := Joins.open_agg4 Tryz.underlying31 (by kernel_rfl) cellsDd hv h
  obtain ⟨N, e0, _, _⟩ := DataW.trod_int Tryz.underlying3 h0
  obtain ⟨a, l, c, rfl, g1, g2, g3⟩ := open_ints4 h1
  obtain ⟨b, e2, _, hb⟩ := DataW.trod_int Tryz.underlying5 h2
  obtain ⟨sh, e3, _⟩ := DataW.trod_bool Tryz.underlying4 h3
  obtain ⟨b', rfl⟩ := byte_of' hb
  simp only [List.cons.injEq, and_true] at e0 e2 e3
  exact ⟨⟨N, a, l, c, b', sh⟩, by rw [e0, e2, e3]; rfl, ⟨g1, g2, g3⟩⟩
theorem open_dds {H : Type} {enc : TypeId × Value → H} {W : World} {a : Option Addr} {len cap : Nat} {d : DataW H} {p : List MemPlace}
    (h : DataW.Trod enc Tryz.prog W 0 (fun _ => true) true 22 (.slice a len cap) d p) : ∃ l : List Dd, l.length = len ∧ DdsAt W a l ∧ l.length ≤ 9223372036854775807 := by
  obtain ⟨fuel, hf⟩ := h
  rcases open_slice Tryz.underlying22 hf with ⟨hcs, _⟩ | ⟨x, l', c', m, n, D, Pl, hcs, hb, hl, hm, hmm, _, hx⟩
  · simp [Value.cells] at hcs
    obtain ⟨rfl, rfl, rfl⟩ := hcs
    exact ⟨[], rfl, fun i hi => by simp at hi, by simp⟩
  · simp [Value.cells] at hcs
    obtain ⟨rfl, rfl, rfl⟩ := hcs
    simp only [if_true] at hmm
    rw [cellsDd] at hx
    have each : ∀ i, i < len → ∃ q : Dd, ∃ b o, x = ⟨b, o, none⟩ ∧ W.cell? ⟨b, o + i * 4, none⟩ = some (.int .i64 q.kd) ∧ W.cell? ⟨b, o + i * 4 + 1, none⟩ = some (.slice q.a q.q.length q.c) ∧ W.cell? ⟨b, o + i * 4 + 2, none⟩ = some (.int .u8 (q.y.toNat : Int)) ∧ W.cell? ⟨b, o + i * 4 + 3, none⟩ = some (.bool q.sh) ∧ DdOk W q := by
      intro i hi
      obtain ⟨cs', h1, h2⟩ := hx i (by omega)
      obtain ⟨_, hlen, hcell⟩ := World.cells?_some h1
      obtain ⟨xs, k, hk, hxy, _, hxl, hf⟩ := DataW.trod_struct Tryz.underlying31 h2
      obtain ⟨v0, v1, v2, v3, rfl⟩ := list4 hlen
      have g0 := hf 0 _ rfl
      have g1 := hf 1 _ rfl
      have g2 := hf 2 _ rfl
      have g3 := hf 3 _ rfl
      have s0 : Tryz.prog.cellsOf 3 = 1 := by kernel_rfl
      have s1 : Tryz.prog.cellsOf 29 = 1 := by kernel_rfl
      have s2 : Tryz.prog.cellsOf 5 = 1 := by kernel_rfl
      have s3 : Tryz.prog.cellsOf 4 = 1 := by kernel_rfl
      simp [s0, s1, s2, s3] at g0 g1 g2 g3
      have q0 : ∃ y, DataW.trod enc Tryz.prog W 0 (fun _ => true) true k 3 [v0] = some y := ⟨_, g0.trans (List.getElem?_eq_getElem (by rw [hxl]; decide))⟩
      have q1 : ∃ y, DataW.trod enc Tryz.prog W 0 (fun _ => true) true k 29 [v1] = some y := ⟨_, g1.trans (List.getElem?_eq_getElem (by rw [hxl]; decide))⟩
      have q2 : ∃ y, DataW.trod enc Tryz.prog W 0 (fun _ => true) true k 5 [v2] = some y := ⟨_, g2.trans (List.getElem?_eq_getElem (by rw [hxl]; decide))⟩
      have q3 : ∃ y, DataW.trod enc Tryz.prog W 0 (fun _ => true) true k 4 [v3] = some y := ⟨_, g3.trans (List.getElem?_eq_getElem (by rw [hxl]; decide))⟩
      obtain ⟨y0, q0⟩ := q0
      obtain ⟨y1, q1⟩ := q1
      obtain ⟨y2, q2⟩ := q2
      obtain ⟨y3, q3⟩ := q3
      obtain ⟨kd, e0, _, _⟩ := DataW.trod_int Tryz.underlying3 q0
      obtain ⟨qa, qq, qc, e1, hq, hq2, hq3⟩ := open_ints4 q1
      obtain ⟨b, e2, _, hb⟩ := DataW.trod_int Tryz.underlying5 q2
      obtain ⟨sh, e3, _⟩ := DataW.trod_bool Tryz.underlying4 q3
      obtain ⟨b', rfl⟩ := byte_of' hb
      simp only [List.cons.injEq, and_true] at e0 e2 e3
      subst e0 e1 e2 e3
      have c0 := hcell 0 (by omega)
      have c1 := hcell 1 (by omega)
      have c2 := hcell 2 (by omega)
      have c3 := hcell 3 (by omega)
      rw [Deep.add_add] at c0 c1 c2 c3
      obtain ⟨bb, o, spot⟩ := x
      have hspot : spot = none := by
        obtain ⟨cs0, z1, _⟩ := hx 0 (by omega)
        obtain ⟨_, zl, zc⟩ := World.cells?_some z1
        have := (zc 0 (by omega)).trans (List.getElem?_eq_getElem (by omega))
        simpa [Addr.add] using World.cell?_spot this
      subst hspot
      rw [addr_add] at c0 c1 c2 c3
      exact ⟨⟨kd, qa, qq, qc, b', sh⟩, bb, o, rfl, by simpa using c0, by simpa [Nat.add_assoc] using c1, by simpa [Nat.add_assoc] using c2, by simpa [Nat.add_assoc] using c3, ⟨hq, hq2, hq3⟩⟩
    obtain ⟨q, hq⟩ := choose_lt each
    refine ⟨(List.range len).map q, by simp, fun i hi => ?_, by simp; unfold maxLen at hm; omega⟩
    have hi' : i < len := by simpa using hi
    obtain ⟨b, o, e, h0, h1, h2, h3, h4⟩ := hq i hi'
    refine ⟨b, o, by rw [e], ?_, ?_, ?_, ?_, ?_⟩
    · simpa using h0
    · simpa using h1
    · simpa using h2
    · simpa using h3
    · simpa using h4
end Go.Proofs.YtdieafkmnckhaaaGreat

/- all of law 4: all pages of a log, by a contract. -/
namespace Go.Proofs.YtdieafkmnckhaaaGreat
open Go.RowKit Go.Maps Go.Sort Go.Shelf
set_option linter.unusedVariables false
set_option maxRecDepth 20000
/-- rows of pages of their own -/
def Img (w : World) (B : Nat) (v : Value) (ps : List (List UInt8)) : Prop := ∃ vs, ImgAt w B v vs ps ∧ ∀ u ∈ vs, ∀ j, u.ownBlock = some j → some j ≠ v.ownBlock
def pagesOf (s : PS) : List (List UInt8) := (List.range s.P).map s.page
theorem pagesOf_len (s : PS) : (pagesOf s).length = s.P := by simp [pagesOf]
theorem page_at {w : World} {p : Nat} {m : PM} {s : PS} (h : PgMem w p m s) {q : Nat} (hq : q < s.P) : (psOf (fresh s.S s.P) s.ls)[(plOf s.gs q).getD (s.S + 1 + q)]? = some (s.page q) := by
  have hlen := pageNow_length h.log.inv q hq
  show (psOf (fresh s.S s.P) s.ls)[placeOf s.S s.gs q]? = some (pageNow (psOf (fresh s.S s.P) s.ls) s.S s.gs q)
  unfold pageNow at hlen ⊢
  cases e : (psOf (fresh s.S s.P) s.ls)[placeOf s.S s.gs q]? with
  | none => rw [List.getD_eq_getElem?_getD, e] at hlen; simp at hlen
  | some y => rw [List.getD_eq_getElem?_getD, e]; rfl
set_option maxHeartbeats 1600000 in
theorem all_any {w : World} {p : Nat} {m : PM} {s : PS} (h : PgMem w p m s) (hP : s.P ≤ 99) :
    Calls Tryz.prog 39 #[.pointer (some ⟨m.l, 0, none⟩)] w fun e w' => ∃ v, e = .returned v ∧ Img w' w.heap.size v (pagesOf s) ∧ Below w.heap.size w w' := by
  obtain ⟨i0, hi0, hz0, hz1, hz2⟩ := info_parts Tryz.info49
  have hlen := h.log.inv.len
  have hmost := h.log.inv.most
  have H := hid h
  obtain ⟨ps, hps⟩ : ∃ ps, ps = pagesOf s := ⟨_, rfl⟩
  have hpl : ps.length = s.P := by rw [hps]; exact pagesOf_len s
  rw [← hps]
  have Hps := hid hps
  have Hpl := hid hpl
  have Hf : Hid (∀ k (hk : k < ps.length), ps[k].length = 256 ∧ (psOf (fresh s.S s.P) s.ls)[(plOf s.gs k).getD (s.S + 1 + k)]? = some ps[k]) := fun k hk => by
    have hk' : k < s.P := by omega
    have e : ps[k] = s.page k := by simp [hps, pagesOf]
    rw [e]
    refine ⟨page_len h hk', ?_⟩
    exact page_at h hk'
  have HPg : Hid (∀ w', Below w.heap.size w w' → Calls Tryz.prog 76 #[.pointer (some ⟨m.l, 0, none⟩)] w' fun e w'' => e = .returned (.int .i64 (ps.length : Int)) ∧ Below w'.heap.size w' w'') := fun w' hb => by
    rw [hpl]
    exact logPages_any (h.below hb).log.mem s.P hlen hmost
  have HRd : Hid (∀ w', Below w.heap.size w w' → ∀ k (hk : k < ps.length), Calls Tryz.prog 48 #[.pointer (some ⟨m.l, 0, none⟩), .int .i64 (k : Int)] w' fun e w'' => ∃ g c, e = .returned (.tuple #[.slice (some ⟨g, 0, none⟩) 256 c, .int .i64 0]) ∧ w''.ownsRow w'.heap.size 5 1 (.slice (some ⟨g, 0, none⟩) 256 c) 256 (cellsOf ps[k]) ∧ 256 ≤ c ∧ Below w'.heap.size w' w'') := fun w' hb k hk => by
    exact logRead_ok (h.below hb).log.mem s.P hlen hmost k (by omega) ps[k] (Hf.out k hk).2
  have hP' : ps.length ≤ 99 := by omega
  clear h hps hpl hlen hmost hP
  go_enter Tryz.func39, Tryz.ntmps39
  go_wp2
  go_loopw [4, 3] (fun i o wr => ∃ (k : Nat) (vs' : List Value), k ≤ ps.length ∧ i = .int .i64 (k : Int) ∧ ImgAt wr w.heap.size o vs' (ps.take k) ∧ (∀ v ∈ vs', ∀ j, v.ownBlock = some j → some j ≠ o.ownBlock) ∧ Below w.heap.size w wr) (fun i _ _ => ps.length - (intOf i).toNat)
  case atStart => exact ⟨0, [], by omega, rfl, ⟨World.ownsRow_nil _ _ _ _, rfl, fun i hi => by simp at hi⟩, (fun v hv => by cases hv), Below.refl _ _⟩
  case round =>
    obtain ⟨k, vs', hk, rfl, hI, hap, hB⟩ := hrel
    have HI := hid hI
    have Hap := hid hap
    have HB := hid hB
    have htl : (ps.take k).length = k := by rw [List.length_take]; omega
    have Htl := hid htl
    have HPg1 := hid (HPg.out wr hB)
    clear hI hap hB htl
    go_wp2_with fail
    refine HPg1.out.mono ?_
    rintro _ w3 ⟨rfl, b3⟩
    have HB3 := hid (HB.out.trans (b3.mono HB.out.size))
    have HI3 := hid (HI.out.below b3)
    have hrow := HI3.out.row
    rw [Htl.out] at hrow
    have Hrow := hid hrow
    clear b3 HPg1 hrow
    by_cases hlt : k < ps.length
    · have Htk := hid (List.take_succ_eq_append_getElem hlt)
      have Hc := hid (HRd.out w3 HB3.out k hlt)
      have H256 := hid (Hf.out k hlt).1
      have f1 : (k : Int) < (ps.length : Int) := by omega
      have f2 : (k : Int) < 100 := by omega
      generalize ps[k] = x at *
      go_wp2_with fail
      refine Hc.out.mono ?_
      rintro _ w4 ⟨bu, cu, rfl, hu, _, hb4⟩
      have Hu := hid hu
      have Hb4 := hid hb4
      have hs4 := hb4.size
      clear hu hb4 Hc
      go_wp2_with (at_builtin; refine wpList_append_lies _ rfl _ _ 36 rfl w.heap.size 49 i0 _ 1 24 Tryz.underlying36 hi0 hz0 hz1 hz2 rfl (by omega) u3 k vs' rfl ((own_below Hrow.out Hb4.out).alloc _) ⟨w4.heap.size, 0, none⟩ 1 1 [.slice (some ⟨bu, 0, none⟩) 256 cu] rfl rfl (World.news_of_block (cs := #[.slice (some ⟨bu, 0, none⟩) 256 cu]) (t := 49) (fr := (0, 0)) (heap_alloc_new w4 _)) ?q1 ?q2 ?q3 ?q4 ?q5 (w4.heap.size + 1) ?q6 ?_)
      case q1 => intro q hq; rw [List.mem_singleton.1 hq]; rfl
      case q2 => omega
      case q3 => unfold maxLen; omega
      case q4 => omega
      case q5 => have := HB3.out.size; simp; omega
      case q6 => simp
      intro gg cap1 w5 hown5 hgrow5 hat5 hlt5
      have hu' : w4.ownsRow w3.heap.size 5 1 (.slice (some ⟨bu, 0, none⟩) 256 cu) x.length (cellsOf x) := by rw [H256.out]; exact Hu.out
      have hE := hid (img_snoc (w3 := w5) (gg := gg) (cap1 := cap1) HI3.out Hap.out hu' Hb4.out HB3.out.size (by rw [Htl.out]; exact hown5) (fun j hj hne => (hgrow5.block j (by simp; omega) hne).trans (Below.heap_alloc _ _ _ hj)) (by rcases hat5 with h | h; exact .inl h; exact .inr (by omega)))
      rw [Htl.out, ← Htk.out] at hE
      have HB5 := hid (((HB3.out.trans (Hb4.out.mono HB3.out.size)).alloc (by have := HB3.out.size; omega) _).grown hgrow5 (by have := HB3.out.size; simp; omega) (fun j e => (Hrow.out.lt j e).1))
      clear hown5 hgrow5 hat5 hlt5 hu'
      go_wp2
      go_roundw
      case rel => exact ⟨k + 1, _, by omega, by go_num, hE.out.1, hE.out.2, HB5.out⟩
      case measure => simp [intOf]; omega
    · have hkn : k = ps.length := by omega
      subst hkn
      have f1 : ¬ (ps.length : Int) < (ps.length : Int) := by omega
      have hI := HI3.out
      rw [List.take_length] at hI
      have HI2 := hid hI
      clear hI
      go_wp2
      go_ret
      exact ⟨_, rfl, ⟨_, HI2.out, Hap.out⟩, HB3.out⟩
end Go.Proofs.YtdieafkmnckhaaaGreat

/- The region of PagerAborts that writes a deed. -/
namespace Go.Proofs.YtdieafkmnckhaaaGreat
open Go.RowKit Go.Maps Go.Sort Go.Shelf
set_option linter.unusedVariables false
set_option maxRecDepth 20000
/-- the cells of a deed -/
def DdCells (b o : Nat) (kd : Int) (qa : Option Addr) (qq : List Int) (qc : Nat) (y : UInt8) (sh : Bool) (V : World) : Prop :=
  V.cell? ⟨b, o, none⟩ = some (.int .i64 kd) ∧ V.cell? ⟨b, o + 1, none⟩ = some (.slice qa qq.length qc) ∧ V.cell? ⟨b, o + 2, none⟩ = some (.int .u8 (y.toNat : Int)) ∧ V.cell? ⟨b, o + 3, none⟩ = some (.bool sh)
theorem DdCells.below {b o : Nat} {kd : Int} {qa : Option Addr} {qq : List Int} {qc : Nat} {y : UInt8} {sh : Bool} {V V' : World} (h : DdCells b o kd qa qq qc y sh V) (hb : Below V.heap.size V V') : DdCells b o kd qa qq qc y sh V' := by
  obtain ⟨h0, h1, h2, h3⟩ := h
  exact ⟨(hb.cell (World.block_lt_of_cell? _ _ h0)).trans h0, (hb.cell (World.block_lt_of_cell? _ _ h1)).trans h1, (hb.cell (World.block_lt_of_cell? _ _ h2)).trans h2, (hb.cell (World.block_lt_of_cell? _ _ h3)).trans h3⟩
section
variable {ops : Array Oper} {op : Oper} {a : Act} {S : World → Prop}
theorem y_idxD (hw : Region.wanted op (yielded ops a.tmps) = true) (x y : Operand) (ho : op.op = .indexAddr 22 x y) {b o n c k : Nat} (hx : a.eval x = .slice (some ⟨b, o, none⟩) n c) (hy : a.eval y = .int .i64 (k : Int)) (hk : k < n) : YieldsIf Tryz.prog ops S op (.pointer (some ⟨b, o + k * 4, none⟩)) a :=
  yg_ix hw x y ho hx hy (fun w => by
    have h1 : (k : Int) < (n : Int) := by omega
    simp [go_sem, h1])
theorem y_ldD {b o : Nat} {kd : Int} {qa : Option Addr} {qq : List Int} {qc : Nat} {y : UInt8} {sh : Bool} (hw : Region.wanted op (yielded ops a.tmps) = true) (x : Operand) (ho : op.op = .load 31 x) (hx : a.eval x = .pointer (some ⟨b, o, none⟩)) : YieldsIf Tryz.prog ops (DdCells b o kd qa qq qc y sh) op (.agg #[.int .i64 kd, .slice qa qq.length qc, .int .u8 (y.toNat : Int), .bool sh]) a :=
  yg_ld hw x ho hx (fun w hs => by
    obtain ⟨h0, h1, h2, h3⟩ := hs
    simp [go_sem, h0, h1, h2, h3])
end
theorem hf_first : ∀ (args : Array Value) (w : World), (callFunc 33 args).run Tryz.prog w = .ok (.enter 33 args) w := fun args w => by simp [go_sem]
theorem hf_bytes4 : ∀ (args : Array Value) (w : World), (callFunc 36 args).run Tryz.prog w = .ok (.enter 36 args) w := fun args w => by simp [go_sem]
theorem hf_pgw : ∀ (args : Array Value) (w : World), (callFunc 35 args).run Tryz.prog w = .ok (.enter 35 args) w := fun args w => by simp [go_sem]
/-- Write, both ways at once -/
def wrOr (s s' : PS) (x : Int) (y : List UInt8) (e : Int) : Prop := (writeE s x y.length ≠ 0 ∧ e = writeE s x y.length ∧ s' = s) ∨ (writeE s x y.length = 0 ∧ e = 0 ∧ s' = writeS s x.toNat y)
theorem write_d {w : World} {p : Nat} {s : PS} {F : Nat → Prop} (h : Cache w p s F) (ht : s.t ≤ 100000) (x : Int) (hx : -9223372036854775808 ≤ x ∧ x ≤ 9223372036854775807) (y : List UInt8) (a : Option Addr) (c : Nat) (hy : Bytes w a y) (n : Nat) (hn : n = y.length) :
    Calls Tryz.prog 35 #[.pointer (some ⟨p, 0, none⟩), .int .i64 x, .slice a n c] w fun r w' => ∃ (e : Int) (s' : PS), r = .returned (.int .i64 e) ∧ wrOr s s' x y e ∧ Cache w' p s' F ∧ Kept F w w' := by
  refine (write_c h ht x hx y a c hy n hn).mono ?_
  rintro _ w' (⟨h1, rfl, h3, h4⟩ | ⟨h1, rfl, h3, h4⟩)
  · exact ⟨_, _, rfl, .inl ⟨h1, rfl, rfl⟩, h3, h4⟩
  · exact ⟨_, _, rfl, .inr ⟨h1, rfl, rfl⟩, h3, h4⟩
noncomputable def codeAb (n : Nat) : Code := ((Tryz.f7.body.bind (regionAt n)).getD .skip)
set_option maxHeartbeats 1000000 in
theorem ab_region10 {V0 W5 : World} {p b o N cap i : Nat} {kd : Int} {qa : Option Addr} {qq : List Int} {qc : Nat} {y : UInt8} {sh : Bool} {s : PS} {F : Nat → Prop} {A : Act} (sz : A.tmps.size = 102) (e0 : A.eval (.tmp 0) = .slice (some ⟨b, o, none⟩) N cap) (e3 : A.eval (.tmp 3) = .pointer (some ⟨p, 0, none⟩)) (e7 : A.eval (.tmp 7) = .int .i64 (i : Int)) (hiN : i < N) (hV0 : V0 = W5.drew) (hs0 : DdCells b (o + i * 4) kd qa qq qc y sh V0) (hD : DdOk V0 ⟨kd, qa, qq, qc, y, sh⟩) (hC : Cache V0 p s F) (ht : s.t ≤ 100000) (hq : -9223372036854775808 ≤ firstOf qq ∧ firstOf qq ≤ 9223372036854775807) :
    (codeAb 10).wp Tryz.prog (fun x a V => x = .normal ∧ ∃ g gc e s', a = ((((((((((((A.put (some 43) (.pointer (some ⟨p, 0, none⟩))).put (some 44) (.slice (some ⟨b, o, none⟩) N cap)).put (some 45) (.int .i64 (i : Int))).put (some 46) (.pointer (some ⟨b, o + i * 4, none⟩))).put (some 47) (.agg #[.int .i64 kd, .slice qa qq.length qc, .int .u8 (y.toNat : Int), .bool sh])).put (some 49) (.slice (some ⟨b, o, none⟩) N cap)).put (some 50) (.int .i64 (i : Int))).put (some 51) (.pointer (some ⟨b, o + i * 4, none⟩))).put (some 52) (.agg #[.int .i64 kd, .slice qa qq.length qc, .int .u8 (y.toNat : Int), .bool sh])).put (some 48) (.int .i64 (firstOf qq))).put (some 53) (.slice (some ⟨g, 0, none⟩) (dLen sh) gc)).put (some 54) (.int .i64 e)) ∧ wrOr s s' (firstOf qq) (List.replicate (dLen sh) y) e ∧ Cache V p s' F ∧ Kept F V0 V) A W5 := by
  have hm : Tryz.prog.follows .mixedOrders = true := by kernel_rfl
  unfold codeAb
  conv => arg 2; whnf
  refine wp_region_G (fun i => i == 11) (DdCells b (o + i * 4) kd qa qq qc y sh) hm ?_
  rw [show ({ W5 with drawn := W5.drawn + 1 } : World) = V0 from hV0.symm]
  refine wpAnyG_take (i := 0) (v := .pointer (some ⟨p, 0, none⟩)) rfl (by kernel_rfl) (by kernel_rfl) (by kernel_rfl) (fun _ _ _ h => nomatch h.1) (yg_mv (by simp [Region.wanted]) (.tmp 3) rfl e3) hs0 ?_
  show wpAnyG _ _ _ _ _ _ _ _ (A.put (some 43) (.pointer (some ⟨p, 0, none⟩))) _
  refine wpAnyG_take (i := 1) (v := .slice (some ⟨b, o, none⟩) N cap) rfl (by kernel_rfl) (by kernel_rfl) (by kernel_rfl) (fun _ _ _ h => nomatch h.1) (yg_mv (by simp [Region.wanted]) (.tmp 0) rfl ((ev_ne _ _ (by decide)).trans e0)) hs0 ?_
  show wpAnyG _ _ _ _ _ _ _ _ ((A.put (some 43) (.pointer (some ⟨p, 0, none⟩))).put (some 44) (.slice (some ⟨b, o, none⟩) N cap)) _
  refine wpAnyG_take (i := 2) (v := .int .i64 (i : Int)) rfl (by kernel_rfl) (by kernel_rfl) (by kernel_rfl) (fun _ _ _ h => nomatch h.1) (yg_mv (by simp [Region.wanted]) (.tmp 7) rfl ((ev_ne _ _ (by decide)).trans ((ev_ne _ _ (by decide)).trans e7))) hs0 ?_
  show wpAnyG _ _ _ _ _ _ _ _ (((A.put (some 43) (.pointer (some ⟨p, 0, none⟩))).put (some 44) (.slice (some ⟨b, o, none⟩) N cap)).put (some 45) (.int .i64 (i : Int))) _
  refine wpAnyG_take (i := 3) (v := .pointer (some ⟨b, o + i * 4, none⟩)) rfl (by kernel_rfl) (by kernel_rfl) (by kernel_rfl) (fun _ _ _ h => nomatch h.1) (y_idxD (by simp [Region.wanted]) (.tmp 44) (.tmp 45) rfl ((ev_ne _ _ (by decide)).trans (ev_eq _ _ (by simp [put_sz, sz]))) (ev_eq _ _ (by simp [put_sz, sz])) hiN) hs0 ?_
  show wpAnyG _ _ _ _ _ _ _ _ ((((A.put (some 43) (.pointer (some ⟨p, 0, none⟩))).put (some 44) (.slice (some ⟨b, o, none⟩) N cap)).put (some 45) (.int .i64 (i : Int))).put (some 46) (.pointer (some ⟨b, o + i * 4, none⟩))) _
  refine wpAnyG_take (i := 4) (v := .agg #[.int .i64 kd, .slice qa qq.length qc, .int .u8 (y.toNat : Int), .bool sh]) rfl (by kernel_rfl) (by kernel_rfl) (by kernel_rfl) (fun _ _ _ h => nomatch h.1) (y_ldD (by simp [Region.wanted]) (.tmp 46) rfl (ev_eq _ _ (by simp [put_sz, sz]))) hs0 ?_
  show wpAnyG _ _ _ _ _ _ _ _ (((((A.put (some 43) (.pointer (some ⟨p, 0, none⟩))).put (some 44) (.slice (some ⟨b, o, none⟩) N cap)).put (some 45) (.int .i64 (i : Int))).put (some 46) (.pointer (some ⟨b, o + i * 4, none⟩))).put (some 47) (.agg #[.int .i64 kd, .slice qa qq.length qc, .int .u8 (y.toNat : Int), .bool sh])) _
  refine wpAnyG_take (i := 6) (v := .slice (some ⟨b, o, none⟩) N cap) rfl (by kernel_rfl) (by kernel_rfl) (by kernel_rfl) (fun _ _ _ h => nomatch h.1) (yg_mv (by simp [Region.wanted]) (.tmp 0) rfl ((ev_ne _ _ (by decide)).trans ((ev_ne _ _ (by decide)).trans ((ev_ne _ _ (by decide)).trans ((ev_ne _ _ (by decide)).trans ((ev_ne _ _ (by decide)).trans e0)))))) hs0 ?_
  show wpAnyG _ _ _ _ _ _ _ _ ((((((A.put (some 43) (.pointer (some ⟨p, 0, none⟩))).put (some 44) (.slice (some ⟨b, o, none⟩) N cap)).put (some 45) (.int .i64 (i : Int))).put (some 46) (.pointer (some ⟨b, o + i * 4, none⟩))).put (some 47) (.agg #[.int .i64 kd, .slice qa qq.length qc, .int .u8 (y.toNat : Int), .bool sh])).put (some 49) (.slice (some ⟨b, o, none⟩) N cap)) _
  refine wpAnyG_take (i := 7) (v := .int .i64 (i : Int)) rfl (by kernel_rfl) (by kernel_rfl) (by kernel_rfl) (fun _ _ _ h => nomatch h.1) (yg_mv (by simp [Region.wanted]) (.tmp 7) rfl ((ev_ne _ _ (by decide)).trans ((ev_ne _ _ (by decide)).trans ((ev_ne _ _ (by decide)).trans ((ev_ne _ _ (by decide)).trans ((ev_ne _ _ (by decide)).trans ((ev_ne _ _ (by decide)).trans e7))))))) hs0 ?_
  show wpAnyG _ _ _ _ _ _ _ _ (((((((A.put (some 43) (.pointer (some ⟨p, 0, none⟩))).put (some 44) (.slice (some ⟨b, o, none⟩) N cap)).put (some 45) (.int .i64 (i : Int))).put (some 46) (.pointer (some ⟨b, o + i * 4, none⟩))).put (some 47) (.agg #[.int .i64 kd, .slice qa qq.length qc, .int .u8 (y.toNat : Int), .bool sh])).put (some 49) (.slice (some ⟨b, o, none⟩) N cap)).put (some 50) (.int .i64 (i : Int))) _
  refine wpAnyG_take (i := 8) (v := .pointer (some ⟨b, o + i * 4, none⟩)) rfl (by kernel_rfl) (by kernel_rfl) (by kernel_rfl) (fun _ _ _ h => nomatch h.1) (y_idxD (by simp [Region.wanted]) (.tmp 49) (.tmp 50) rfl ((ev_ne _ _ (by decide)).trans (ev_eq _ _ (by simp [put_sz, sz]))) (ev_eq _ _ (by simp [put_sz, sz])) hiN) hs0 ?_
  show wpAnyG _ _ _ _ _ _ _ _ ((((((((A.put (some 43) (.pointer (some ⟨p, 0, none⟩))).put (some 44) (.slice (some ⟨b, o, none⟩) N cap)).put (some 45) (.int .i64 (i : Int))).put (some 46) (.pointer (some ⟨b, o + i * 4, none⟩))).put (some 47) (.agg #[.int .i64 kd, .slice qa qq.length qc, .int .u8 (y.toNat : Int), .bool sh])).put (some 49) (.slice (some ⟨b, o, none⟩) N cap)).put (some 50) (.int .i64 (i : Int))).put (some 51) (.pointer (some ⟨b, o + i * 4, none⟩))) _
  refine wpAnyG_take (i := 9) (v := .agg #[.int .i64 kd, .slice qa qq.length qc, .int .u8 (y.toNat : Int), .bool sh]) rfl (by kernel_rfl) (by kernel_rfl) (by kernel_rfl) (fun _ _ _ h => nomatch h.1) (y_ldD (by simp [Region.wanted]) (.tmp 51) rfl (ev_eq _ _ (by simp [put_sz, sz]))) hs0 ?_
  show wpAnyG _ _ _ _ _ _ _ _ (((((((((A.put (some 43) (.pointer (some ⟨p, 0, none⟩))).put (some 44) (.slice (some ⟨b, o, none⟩) N cap)).put (some 45) (.int .i64 (i : Int))).put (some 46) (.pointer (some ⟨b, o + i * 4, none⟩))).put (some 47) (.agg #[.int .i64 kd, .slice qa qq.length qc, .int .u8 (y.toNat : Int), .bool sh])).put (some 49) (.slice (some ⟨b, o, none⟩) N cap)).put (some 50) (.int .i64 (i : Int))).put (some 51) (.pointer (some ⟨b, o + i * 4, none⟩))).put (some 52) (.agg #[.int .i64 kd, .slice qa qq.length qc, .int .u8 (y.toNat : Int), .bool sh])) _
  obtain ⟨Az1, hAz1⟩ : ∃ Az1, Az1 = (((((((((A.put (some 43) (.pointer (some ⟨p, 0, none⟩))).put (some 44) (.slice (some ⟨b, o, none⟩) N cap)).put (some 45) (.int .i64 (i : Int))).put (some 46) (.pointer (some ⟨b, o + i * 4, none⟩))).put (some 47) (.agg #[.int .i64 kd, .slice qa qq.length qc, .int .u8 (y.toNat : Int), .bool sh])).put (some 49) (.slice (some ⟨b, o, none⟩) N cap)).put (some 50) (.int .i64 (i : Int))).put (some 51) (.pointer (some ⟨b, o + i * 4, none⟩))).put (some 52) (.agg #[.int .i64 kd, .slice qa qq.length qc, .int .u8 (y.toNat : Int), .bool sh])) := ⟨_, rfl⟩
  have szAz1 : Az1.tmps.size = 102 := by rw [hAz1]; simp [put_sz, sz]
  have eAz143 : Az1.eval (.tmp 43) = .pointer (some ⟨p, 0, none⟩) := by rw [hAz1]; exact ((ev_ne _ _ (by decide)).trans ((ev_ne _ _ (by decide)).trans ((ev_ne _ _ (by decide)).trans ((ev_ne _ _ (by decide)).trans ((ev_ne _ _ (by decide)).trans ((ev_ne _ _ (by decide)).trans ((ev_ne _ _ (by decide)).trans ((ev_ne _ _ (by decide)).trans (ev_eq _ _ (by simp [sz]))))))))))
  have eAz147 : Az1.eval (.tmp 47) = .agg #[.int .i64 kd, .slice qa qq.length qc, .int .u8 (y.toNat : Int), .bool sh] := by rw [hAz1]; exact ((ev_ne _ _ (by decide)).trans ((ev_ne _ _ (by decide)).trans ((ev_ne _ _ (by decide)).trans ((ev_ne _ _ (by decide)).trans (ev_eq _ _ (by simp [put_sz, sz]))))))
  have eAz152 : Az1.eval (.tmp 52) = .agg #[.int .i64 kd, .slice qa qq.length qc, .int .u8 (y.toNat : Int), .bool sh] := by rw [hAz1]; exact (ev_eq _ _ (by simp [put_sz, sz]))
  rw [← hAz1]
  refine wpAnyG_all (rs := [5]) (by kernel_rfl) (by simp) fun i1 hm1 => ?_
  obtain rfl : i1 = 5 := by simpa using hm1
  refine wpOp_own rfl rfl fun K1 hK1 => ?_
  refine wp_calls1 33 hf_first (.tmp 47) _ rfl (.agg #[.int .i64 kd, .slice qa qq.length qc, .int .u8 (y.toNat : Int), .bool sh]) eAz147 ?_
  refine (first4_any kd qa qq qc y sh V0 hD.ints hD.len).mono ?_
  rintro _ V1 ⟨rfl, b1⟩
  have hs1 := hs0.below b1
  have C1 := hC.below b1
  refine ⟨_, rfl, hK1 _ _ ⟨.inr hs1, ?_⟩⟩
  clear hK1 K1 hm1
  show wpAnyG _ _ _ _ _ _ _ _ (Az1.put (some 48) (.int .i64 (firstOf qq))) _
  refine wpAnyG_all (rs := [10]) (by kernel_rfl) (by simp) fun i2 hm2 => ?_
  obtain rfl : i2 = 10 := by simpa using hm2
  refine wpOp_own rfl rfl fun K2 hK2 => ?_
  refine wp_calls1 36 hf_bytes4 (.tmp 52) _ rfl (.agg #[.int .i64 kd, .slice qa qq.length qc, .int .u8 (y.toNat : Int), .bool sh]) ((ev_ne _ _ (by decide)).trans eAz152) ?_
  refine (bytes4_any kd (.slice qa qq.length qc) y sh V1 rfl).mono ?_
  rintro _ V2 ⟨g, gc, rfl, r2, hg2, b2⟩
  have hs2 := hs1.below b2
  have C2 := C1.below b2
  refine ⟨_, rfl, hK2 _ _ ⟨.inr hs2, ?_⟩⟩
  clear hK2 K2 hm2
  show wpAnyG _ _ _ _ _ _ _ _ ((Az1.put (some 48) (.int .i64 (firstOf qq))).put (some 53) (.slice (some ⟨g, 0, none⟩) (dLen sh) gc)) _
  refine wpAnyG_all (rs := [11]) (by kernel_rfl) (by simp) fun i3 hm3 => ?_
  obtain rfl : i3 = 11 := by simpa using hm3
  refine wpOp_own rfl rfl fun K3 hK3 => ?_
  refine wp_calls3 35 hf_pgw (.tmp 43) (.tmp 48) (.tmp 53) _ rfl (.pointer (some ⟨p, 0, none⟩)) (.int .i64 (firstOf qq)) (.slice (some ⟨g, 0, none⟩) (dLen sh) gc) ((ev_ne _ _ (by decide)).trans ((ev_ne _ _ (by decide)).trans eAz143)) ((ev_ne _ _ (by decide)).trans (ev_eq _ _ (by simp [szAz1]))) (ev_eq _ _ (by simp [put_sz, szAz1])) ?_
  refine (write_d C2 ht (firstOf qq) hq (List.replicate (dLen sh) y) (some ⟨g, 0, none⟩) gc (bytes_of_row r2 List.length_replicate) (dLen sh) List.length_replicate.symm).mono ?_
  rintro _ V3 ⟨e, s', rfl, hor, C3, o3⟩
  have oF := ((Kept.of_below b1).to (Kept.of_below b2)).to o3
  refine ⟨_, rfl, hK3 _ _ ⟨.inl rfl, ?_⟩⟩
  clear hK3 K3 hm3
  show wpAnyG _ _ _ _ _ _ _ _ (((Az1.put (some 48) (.int .i64 (firstOf qq))).put (some 53) (.slice (some ⟨g, 0, none⟩) (dLen sh) gc)).put (some 54) (.int .i64 e)) _
  refine wpAnyG_done (by kernel_rfl) ⟨rfl, g, gc, e, s', ?_, hor, C3, oF⟩ _
  show (((Az1.put (some 48) (.int .i64 (firstOf qq))).put (some 53) (.slice (some ⟨g, 0, none⟩) (dLen sh) gc)).put (some 54) (.int .i64 e)) = _
  rw [hAz1]
end Go.Proofs.YtdieafkmnckhaaaGreat

/- PagerAborts' walk. -/
namespace Go.Proofs.YtdieafkmnckhaaaGreat
open Go.RowKit Go.Maps Go.Sort Go.Shelf
set_option linter.unusedVariables false
set_option maxRecDepth 20000
theorem same_eqA {w : World} {a b : Option Addr} {x : List UInt8} {n : Nat} (ca cb : Nat) (ha : Bytes w a x) (hb : Bytes w b x) (hn : x.length = n) (hl : n ≤ 1000) :
    Calls Tryz.prog 34 #[.slice a n ca, .slice b n cb] w fun e w' => e = .returned (.bool true) ∧ Below w.heap.size w w' := by
  subst hn
  refine (sameBytes_any x x a b ca cb w ha hb (by omega) (by omega)).mono ?_
  rintro _ w' ⟨rfl, hbl⟩
  exact ⟨by rw [decide_eq_true (rfl : x = x)], hbl⟩
/-- the blocks of an image -/
def imgB (v : Value) (vs : List Value) (k : Nat) : Prop := v.ownBlock = some k ∨ ∃ u ∈ vs, u.ownBlock = some k
theorem ImgAt.keepB {w w' : World} {B : Nat} {v : Value} {vs : List Value} {ps : List (List UInt8)} (h : ImgAt w B v vs ps) (hk : ∀ k, imgB v vs k → w'.heap[k]? = w.heap[k]?) : ImgAt w' B v vs ps :=
  ⟨own_keep h.row (fun k e => hk k (.inl e)), h.vlen, fun i hi hi' => own_keep (h.rows i hi hi') (fun k e => hk k (.inr ⟨_, List.getElem_mem hi', e⟩))⟩
theorem ImgAt.ge {w : World} {B : Nat} {v : Value} {vs : List Value} {ps : List (List UInt8)} (h : ImgAt w B v vs ps) {k : Nat} (hk : imgB v vs k) : B ≤ k ∧ k < w.heap.size := by
  rcases hk with e | ⟨u, hu, e⟩
  · exact h.row.lt k e
  · obtain ⟨i, hi, rfl⟩ := List.getElem_of_mem hu
    exact (h.rows i (by rw [← h.vlen]; exact hi) hi).lt k e
theorem ImgAt.mono {w : World} {B B' : Nat} {v : Value} {vs : List Value} {ps : List (List UInt8)} (h : ImgAt w B v vs ps) (hB : B' ≤ B) : ImgAt w B' v vs ps :=
  ⟨h.row.mono hB, h.vlen, fun i hi hi' => (h.rows i hi hi').mono hB⟩
/-- Log, and all pages of it -/
theorem log_c {w : World} {p : Nat} {s : PS} {F : Nat → Prop} (h : Cache w p s F) (hP : s.P ≤ 99) : Calls Tryz.prog 25 #[.pointer (some ⟨p, 0, none⟩)] w fun e w' => ∃ l0, e = .returned (.pointer (some ⟨l0, 0, none⟩)) ∧ w' = w ∧ Calls Tryz.prog 39 #[.pointer (some ⟨l0, 0, none⟩)] w (fun e w'' => ∃ v vs, e = .returned v ∧ ImgAt w'' w.heap.size v vs (pagesOf s) ∧ Below w.heap.size w w'') := by
  obtain ⟨m, h1, h2, h3⟩ := h
  refine (pgLog_any h1).mono ?_
  rintro _ w' ⟨rfl, rfl⟩
  refine ⟨_, rfl, rfl, (all_any h1 hP).mono ?_⟩
  rintro _ w'' ⟨v, rfl, ⟨vs, hI, _⟩, hb⟩
  exact ⟨v, vs, rfl, hI, hb⟩
/-- a cache, and an image of the log's pages beside it -/
def Was (B : Nat) (w : World) (p : Nat) (s : PS) (v : Value) (ps : List (List UInt8)) : Prop := ∃ vs, ImgAt w B v vs ps ∧ Cache w p s (fun k => k < B ∨ imgB v vs k)
theorem Was.below {B : Nat} {w w' : World} {p : Nat} {s : PS} {v : Value} {ps : List (List UInt8)} (h : Was B w p s v ps) (hb : Below w.heap.size w w') : Was B w' p s v ps := by
  obtain ⟨vs, hI, hC⟩ := h
  exact ⟨vs, hI.below hb, hC.below hb⟩
theorem Was.of {B : Nat} {w w' : World} {p : Nat} {s : PS} {F : Nat → Prop} {v : Value} {vs : List Value} {ps : List (List UInt8)} (hC : Cache w p s F) (hF : ∀ k, k < B → F k) (hI : ImgAt w' w.heap.size v vs ps) (hb : Below w.heap.size w w') (hB : B ≤ w.heap.size) : Was B w' p s v ps :=
  ⟨vs, hI.mono hB, (hC.add hb).mono (fun k hk => by
    rcases hk with hk | hk
    · exact .inl (hF k hk)
    · exact .inr (hI.ge hk))⟩
theorem Was.step {B : Nat} {w w' : World} {p : Nat} {s' : PS} {v : Value} {vs : List Value} {ps : List (List UInt8)} (hI : ImgAt w B v vs ps) (hC : Cache w' p s' (fun k => k < B ∨ imgB v vs k)) (ho : Kept (fun k => k < B ∨ imgB v vs k) w w') : Was B w' p s' v ps :=
  ⟨vs, hI.keepB (fun k hk => ho.get (.inr hk) (hI.ge hk).2), hC⟩
theorem pagesOf_congr {s s' : PS} (h1 : s'.P = s.P) (h2 : ∀ q, q < s.P → s'.page q = s.page q) : pagesOf s' = pagesOf s := by
  unfold pagesOf
  rw [h1]
  exact List.map_congr_left (fun q hq => h2 q (List.mem_range.1 hq))
set_option maxHeartbeats 4000000 in
theorem pagerAborts_walk (a : Option Addr) (l : List Dd) (cap : Nat) (w : World) (hl : DdsAt w a l) (hll : l.length ≤ 9223372036854775807) : Calls Tryz.prog 7 #[.slice a l.length cap] w fun e w' => e = .returned (.bool true) ∧ Below w.heap.size w w' := by
  obtain ⟨F, hF⟩ : ∃ F : Nat → Prop, F = fun k => k < w.heap.size := ⟨_, rfl⟩
  have HO := hid (open_c w 10 4 (by omega) (by omega) (by omega) (by omega) F (fun k hk => by rw [hF] at hk; exact hk))
  have HF : Hid (∀ k, k < w.heap.size → F k) := by rw [hF]; exact fun k hk => hk
  obtain ⟨N, hN⟩ : ∃ N, N = l.length := ⟨_, rfl⟩
  have HL := hid hl
  have HN := hid hN
  rw [← hN] at hll ⊢
  obtain ⟨s0, hs0⟩ : ∃ s0, s0 = newS 10 11 0 0 [] [] 4 := ⟨_, rfl⟩
  rw [← hs0] at HO
  have k0 : Hid (s0.P = 11 ∧ s0.t = 0) := by rw [hs0]; exact ⟨rfl, rfl⟩
  clear hF hl hN hs0
  go_enter Tryz.func7, Tryz.ntmps7
  go_wp2_with fail
  refine HO.out.mono ?_
  rintro _ w1 ⟨p, q, rfl, C1, b1⟩
  have HC1 := hid C1
  have HB1 := hid b1
  clear C1 b1 HO
  go_wp2_with fail
  refine (pgLive_any _).mono ?_
  rintro _ w2 ⟨rfl, b2⟩
  have HC2 := hid (HC1.out.below b2)
  have HB2 := hid (Below.on' HB1.out b2)
  have HLg := hid (log_c HC2.out (by have := k0.out.1; omega))
  clear b2 HC1 HB1
  go_wp2_with fail
  refine HLg.out.mono ?_
  rintro _ _ ⟨l0, rfl, rfl, hall⟩
  have HAll := hid hall
  clear hall HLg
  go_wp2_with fail
  refine HAll.out.mono ?_
  rintro _ w3 ⟨v3, vs3, rfl, hI3, b3⟩
  have HB3 := hid (Below.on' HB2.out b3)
  have HW3 := hid (Was.of HC2.out HF.out hI3 b3 HB2.out.size)
  clear hI3 b3 HAll HC2 HB2
  go_wp2_with fail
  go_loopw [6, 7] (fun v i wr => ∃ (k : Nat) (s : PS), k ≤ N ∧ k ≤ 60 ∧ i = .int .i64 (k : Int) ∧ s.P = 11 ∧ s.t ≤ 3 * k ∧ Was w.heap.size wr p s v (pagesOf s) ∧ Below w.heap.size w wr) (fun _ i _ => 60 - (intOf i).toNat)
  case atStart => exact ⟨0, s0, Nat.zero_le _, Nat.zero_le _, rfl, k0.out.1, by have := k0.out.2; omega, HW3.out, HB3.out⟩
  case round =>
    obtain ⟨k, s, hkN, hk60, rfl, hsP, hst, hW, hB⟩ := hrel
    have HW := hid hW
    have HB := hid hB
    have HsP := hid hsP
    clear hW hB hsP HW3 HB3
    by_cases hlt : k < N ∧ k < 60
    · obtain ⟨hlt1, hlt2⟩ := hlt
      have f1 : (k : Int) < (N : Int) := by omega
      have f2 : (k : Int) < 60 := by omega
      have hkl : k < l.length := by have := HN.out; omega
      obtain ⟨b, o, ha, d0, d1, d2, d3, hok⟩ := (HL.out.keep HB.out) k hkl
      subst ha
      generalize hdd : l[k] = dd at *
      obtain ⟨kd, qa, qq, qc, y, sh⟩ := dd
      dsimp only at d0 d1 d2 d3
      have Hdd := hid hdd
      clear hdd
      have HD := hid hok
      clear hok
      by_cases hk1 : kd = 1
      · subst hk1
        go_wp2_with fail
        obtain ⟨vs, hI, hC⟩ := HW.out
        obtain ⟨V0, hV0⟩ : ∃ V0, V0 = wr.drew := ⟨_, rfl⟩
        have b10 : Below wr.heap.size wr V0 := by rw [hV0]; exact (Below.refl _ wr).drew
        refine wp_act _ fun A hA => ?_
        have sz : A.tmps.size = 102 := by rw [hA]; rfl
        have e0 : A.eval (.tmp 0) = .slice (some ⟨b, o, none⟩) N cap := by rw [hA]; rfl
        have e3 : A.eval (.tmp 3) = .pointer (some ⟨p, 0, none⟩) := by rw [hA]; rfl
        have e7 : A.eval (.tmp 7) = .int .i64 (k : Int) := by rw [hA]; rfl
        have hdc : DdCells b (o + k * 4) 1 qa qq qc y sh wr := ⟨d0, d1, d2, d3⟩
        refine wp_split _ (ab_region10 sz e0 e3 e7 hlt1 hV0 (hdc.below b10) (HD.out.below b10) (hC.below b10) (by omega) (first_wf HD.out)) ?_
        rintro _ V3 ⟨g, gc, e, s', rfl, hor, C3, o3⟩
        rw [hA]
        simp only [Act.put, List.setIfInBounds_toArray, List.set_cons_succ, List.set_cons_zero]
        have HW3 := hid (Was.step (hI.below b10) C3 o3)
        have HB3 := hid (HB.out.trans (((b10.mono HB.out.size)).trans (o3.below (by have := HB.out.size; have := b10.size; omega) (fun k hk => .inl hk))))
        have Hs' : Hid (s'.P = 11 ∧ s'.t ≤ s.t + 1 ∧ pagesOf s' = pagesOf s) := by
          rcases hor with ⟨_, _, rfl⟩ | ⟨_, _, rfl⟩
          · exact ⟨HsP.out, Nat.le_succ _, rfl⟩
          · exact ⟨HsP.out, Nat.le_refl _, rfl⟩
        clear hI hC C3 o3 hor hA sz e0 e3 e7 hdc b10 hV0
        go_wp2
        go_roundw
        case rel => exact ⟨k + 1, s', by omega, by omega, by go_num, Hs'.out.1, by have := Hs'.out.2.1; omega, by rw [Hs'.out.2.2]; exact HW3.out, HB3.out⟩
        case measure => simp [intOf]; omega
      · by_cases hk2 : kd = 2
        · subst hk2
          obtain ⟨vs, hI, hC⟩ := HW.out
          have HCo := hid (com_c hC (by omega) (by have := HsP.out; omega))
          have HI := hid hI
          have HC := hid hC
          clear hI hC
          go_wp2_with fail
          refine HCo.out.mono ?_
          rintro _ w5 (⟨_, rfl, C5, o5⟩ | ⟨hno, rfl, C5, o5⟩)
          · have hP5 : (commitS s).P = 11 := by rw [(commitS_same (s := s)).2.2.2.1]; exact HsP.out
            have ht5 : (commitS s).t = s.t + 3 := (commitS_same (s := s)).2.2.2.2.1
            obtain ⟨s5, hs5⟩ : ∃ s5, s5 = commitS s := ⟨_, rfl⟩
            rw [← hs5] at C5 hP5 ht5
            have HLg := hid (log_c C5 (by omega))
            have HC5 := hid C5
            have HB5 := hid (HB.out.trans (o5.below HB.out.size (fun k hk => .inl hk)))
            have HP5 := hid hP5
            clear C5 o5 hs5 HCo hP5
            go_wp2_with fail
            refine HLg.out.mono ?_
            rintro _ _ ⟨l1, rfl, rfl, hall⟩
            have HAll := hid hall
            clear hall HLg
            go_wp2_with fail
            refine HAll.out.mono ?_
            rintro _ w6 ⟨v6, vs6, rfl, hI6, b6⟩
            have HB6 := hid (Below.on' HB5.out b6)
            have HW6 := hid (Was.of HC5.out (fun k hk => .inl hk) hI6 b6 HB5.out.size)
            clear hI6 b6 HAll HC5 HB5
            go_wp2
            go_roundw
            case rel => exact ⟨k + 1, s5, by omega, by omega, by go_num, HP5.out, by omega, HW6.out, HB6.out⟩
            case measure => simp [intOf]; omega
          · have HW6 := hid (Was.step HI.out C5 o5)
            have HB6 := hid (HB.out.trans (o5.below HB.out.size (fun k hk => .inl hk)))
            have Hpp : Hid (pagesOf (fullS s) = pagesOf s) := by
              obtain ⟨m, h1, _, _⟩ := HC.out
              exact pagesOf_congr rfl (fun q hq => fullS_page h1.log.inv (by have := h1.log.gr; omega) q hq)
            clear C5 o5 HCo hno
            go_wp2
            go_roundw
            case rel => exact ⟨k + 1, fullS s, by omega, by omega, by go_num, HsP.out, by show s.t + 3 ≤ _; omega, by rw [Hpp.out]; exact HW6.out, HB6.out⟩
            case measure => simp [intOf]; omega
        · go_wp2
          go_roundw
          case rel => exact ⟨k + 1, s, by omega, by omega, by go_num, HsP.out, by omega, HW.out, HB.out⟩
          case measure => simp [intOf]; omega
    · obtain ⟨vs, hI, hC⟩ := HW.out
      have HI := hid hI
      have HC := hid hC
      have HDi := hid (dirty_c hC (by omega))
      clear hI hC HW
      obtain ⟨ps, hps⟩ : ∃ ps, ps = pagesOf s := ⟨_, rfl⟩
      rw [← hps] at HI
      have Hps : Hid (ps.length = 11 ∧ ∀ q (h : q < ps.length), ps[q] = s.page q) := by
        rw [hps]
        exact ⟨by rw [pagesOf_len]; exact HsP.out, fun q h => by simp [pagesOf]⟩
      have Hp2 : Hid (∀ q, q < 11 → (s.page q).length = 256) := fun q hq => by
        obtain ⟨m, h1, _, _⟩ := HC.out
        exact page_len h1 (by have := HsP.out; omega)
      clear hps
      obtain ⟨bv, cv, hv⟩ : ∃ bv cv, u6 = Value.slice (some ⟨bv, 0, none⟩) 11 cv := by
        rcases HI.out.row.2 with ⟨_, h0⟩ | ⟨g, c, _, e, _⟩
        · have := Hps.out.1; omega
        · exact ⟨g, c, by rw [e, Hps.out.1]⟩
      subst hv
      have hst' : s.t ≤ 200 := by omega
      rcases (show (¬ (k : Int) < (N : Int)) ∨ ((k : Int) < (N : Int) ∧ ¬ (k : Int) < 60) by omega) with f1 | ⟨f1, f2⟩
      all_goals
        go_wp2_with fail
        refine HDi.out.mono ?_
        rintro _ w5 ⟨v5, rfl, r5, b5⟩
        obtain ⟨a5, k5, hv5⟩ := own_slc r5
        subst hv5
        have HC5 := hid (HC.out.below b5)
        have HI5 := hid (HI.out.below b5)
        have HB5 := hid (Below.on' HB.out b5)
        have HAb := hid (abort_c HC5.out)
        clear r5 b5 HDi
        go_wp2_with fail
        refine HAb.out.mono ?_
        rintro _ w6 ⟨rfl, C6, o6⟩
        have HI6 := hid (HI5.out.keepB (w' := w6) (fun k hk => o6.get (.inr hk) (HI5.out.ge hk).2))
        have HB6 := hid (HB5.out.trans (o6.below HB5.out.size (fun k hk => .inl hk)))
        have HDi2 := hid (dirty_c C6 (by show s.t ≤ 1000000; omega))
        have HC6 := hid C6
        clear C6 o6 HAb HC5 HI5 HB5
        go_wp2_with fail
        refine HDi2.out.mono ?_
        rintro _ w7 ⟨v7, rfl, r7, b7⟩
        obtain ⟨a7, k7, hv7⟩ := own_slc r7
        subst hv7
        have HC7 := hid (HC6.out.below b7)
        have HI7 := hid (HI6.out.below b7)
        have HB7 := hid (Below.on' HB6.out b7)
        have hz : (abortS s).dl.length = 0 := rfl
        clear r7 b7 HDi2 HC6 HI6 HB6
        go_wp2_with fail
        go_loopw [9] (fun i wr2 => ∃ (j : Nat) (s' : PS), j ≤ 11 ∧ i = .int .i64 (j : Int) ∧ s'.P = 11 ∧ s'.dl = [] ∧ s'.t ≤ 200 + j ∧ (∀ q, q < 11 → s'.page q = s.page q) ∧ ImgAt wr2 w.heap.size (.slice (some ⟨bv, 0, none⟩) 11 cv) vs ps ∧ Cache wr2 p s' (fun k => k < w.heap.size ∨ imgB (.slice (some ⟨bv, 0, none⟩) 11 cv) vs k) ∧ Below w.heap.size w wr2) (fun i _ => 11 - (intOf i).toNat)
        case atStart => exact ⟨0, abortS s, by omega, rfl, HsP.out, rfl, by show s.t ≤ _; omega, fun q hq => rfl, HI7.out, HC7.out, HB7.out⟩
        case round =>
          obtain ⟨j, s', hj, rfl, hP', hdl, ht', hpg, hI8, hC8, hB8⟩ := hrel
          have HP' := hid hP'
          have Hdl := hid hdl
          have Hpg := hid hpg
          have HI8 := hid hI8
          have HC8 := hid hC8
          have HB8 := hid hB8
          clear hP' hdl hpg hI8 hC8 hB8
          by_cases hj11 : j < 11
          · have HRd := hid (read_c HC8.out (by omega) (j : Int) (by omega))
            have g1 : (j : Int) < 11 := by omega
            go_wp2_with fail
            refine HRd.out.mono ?_
            rintro _ w9 (⟨hbad, _⟩ | ⟨_, a9, c9, rfl, r9, C9, o9, ha9⟩)
            · exact absurd hbad (not_bad (by have := HP'.out; omega))
            rw [Int.toNat_natCast] at r9 C9
            have hnow : s'.now j = s.page j := by
              unfold PS.now
              rw [Hdl.out]
              exact Hpg.out j hj11
            rw [hnow] at r9
            have hI9 := HI8.out.keepB (w' := w9) (fun k hk => o9.get (.inr hk) (HI8.out.ge hk).2)
            have hjl : j < ps.length := by have := Hps.out.1; omega
            obtain ⟨a2, c2, k2, hb2, _⟩ := hI9.cell (by rw [Hps.out.1]) j hjl
            have h256 := Hp2.out j hj11
            have hpj := Hps.out.2 j hjl
            rw [hpj] at k2 hb2
            rw [h256] at k2
            have HSb := hid (same_eqA c9 c2 (bytes_of_row r9 h256) hb2 h256 (by omega))
            have HI9 := hid hI9
            have HC9 := hid (C9.mono (F' := fun k => k < w.heap.size ∨ imgB (.slice (some ⟨bv, 0, none⟩) 11 cv) vs k) (fun k hk => .inl hk))
            have HB9 := hid (HB8.out.trans (o9.below HB8.out.size (fun k hk => .inl hk)))
            clear r9 C9 o9 hb2 hI9 hnow HRd HI8 HC8 HB8 h256 hpj
            go_wp2_with fail
            refine HSb.out.mono ?_
            rintro _ w10 ⟨rfl, b10⟩
            have HI10 := hid (HI9.out.below b10)
            have HC10 := hid (HC9.out.below b10)
            have HB10 := hid (Below.on' HB9.out b10)
            clear b10 HSb HI9 HC9 HB9
            go_wp2
            go_roundw
            case rel =>
              obtain ⟨q1, q2, q3, q4, q5, q6, q7, q8⟩ := readS_same (s := s') j
              exact ⟨j + 1, readS s' j, by omega, by go_num, by rw [q2]; exact HP'.out, by rw [q5]; exact Hdl.out, by omega, fun q hq => (readS_page j q).trans (Hpg.out q hq), HI10.out, HC10.out, HB10.out⟩
            case measure => simp [intOf]; omega
          · have HAb := hid (abort_c HC8.out)
            rw [show s'.dl.length = 0 by rw [Hdl.out]; rfl] at HAb
            go_wp2_with fail
            refine HAb.out.mono ?_
            rintro _ w9 ⟨rfl, _, o9⟩
            have HB9 := hid (HB8.out.trans (o9.below HB8.out.size (fun k hk => .inl hk)))
            clear o9
            go_wp2
            go_ret
            exact ⟨ret_bool (by simp), HB9.out⟩
end Go.Proofs.YtdieafkmnckhaaaGreat
