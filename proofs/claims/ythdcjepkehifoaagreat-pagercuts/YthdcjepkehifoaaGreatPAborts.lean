/- YthdcjepkehifoaaGreatPDds + YthdcjepkehifoaaGreatPAll + YthdcjepkehifoaaGreatPAb + YthdcjepkehifoaaGreatPAborts -/
import Derived.Test.YthdcjepkehifoaaGreatPLive
import Derived.Test.YthdcjepkehifoaaGreatBLift
import Derived.Lib.SmallJoins
import Derived.Deep.Slices
import Derived.SliceStrings
import Derived.ChangeSlices
/- Deeds of layer 4 that lie in the world; what an argument that is one, or a row of them, gives to a walk. -/
namespace Go.Proofs.YthdcjepkehifoaaGreat
open Go.RowKit Go.Maps
set_option linter.unusedVariables false
set_option maxRecDepth 20000
/-- a deed as it was handed in -/
structure Dd where
  kd : Int
  a : Option Addr
  q : List Int
  c : Nat
  y : UInt8
  sh : Bool
deriving Inhabited
def Dd.val (d : Dd) : Value := .agg #[.int .i64 d.kd, .slice d.a d.q.length d.c, .int .u8 (d.y.toNat : Int), .bool d.sh]
/-- whole numbers of a deed -/
structure DdOk (w : World) (d : Dd) : Prop where
  ints : IntsAt w d.a d.q
  wf : ∀ x ∈ d.q, -9223372036854775808 ≤ x ∧ x ≤ 9223372036854775807
  len : d.q.length ≤ 9223372036854775807
theorem DdOk.below {w w' : World} {d : Dd} (h : DdOk w d) (hb : Below w.heap.size w w') : DdOk w' d := ⟨h.ints.below hb, h.wf, h.len⟩
theorem IntsAt.keep {w w' : World} {a : Option Addr} {l : List Int} (h : IntsAt w a l) {B : Nat} (hB : ∀ i (h : i < l.length), ∃ b o, a = some ⟨b, o, none⟩ ∧ b < B) (hk : ∀ k, k < B → w'.heap[k]? = w.heap[k]?) : IntsAt w' a l := fun i hi => by
  obtain ⟨b, o, e, hc⟩ := h i hi
  obtain ⟨b', o', e', hl⟩ := hB i hi
  rw [e] at e'
  cases e'
  exact ⟨b, o, e, (World.cell?_of_block (a := ⟨b, _, none⟩) (hk b hl)).trans hc⟩
theorem first_wf {w : World} {d : Dd} (h : DdOk w d) : -9223372036854775808 ≤ firstOf d.q ∧ firstOf d.q ≤ 9223372036854775807 := by
  unfold firstOf
  cases hq : d.q with
  | nil => simp
  | cons x t => exact h.wf x (by rw [hq]; simp)
/-- deeds that lie in a row of the world -/
def DdsAt (w : World) (a : Option Addr) (l : List Dd) : Prop := ∀ i (h : i < l.length), ∃ b o, a = some ⟨b, o, none⟩ ∧ w.cell? ⟨b, o + i * 4, none⟩ = some (.int .i64 l[i].kd) ∧ w.cell? ⟨b, o + i * 4 + 1, none⟩ = some (.slice l[i].a l[i].q.length l[i].c) ∧ w.cell? ⟨b, o + i * 4 + 2, none⟩ = some (.int .u8 (l[i].y.toNat : Int)) ∧ w.cell? ⟨b, o + i * 4 + 3, none⟩ = some (.bool l[i].sh) ∧ DdOk w l[i]
theorem DdsAt.keep {w w' : World} {a : Option Addr} {l : List Dd} (h : DdsAt w a l) (hb : Below w.heap.size w w') : DdsAt w' a l := fun i hi => by
  obtain ⟨b, o, e, h0, h1, h2, h3, h4⟩ := h i hi
  have hbk := hb.block b (World.block_lt_of_cell? _ _ h0)
  exact ⟨b, o, e, (World.cell?_of_block (a := ⟨b, _, none⟩) hbk).trans h0, (World.cell?_of_block (a := ⟨b, _, none⟩) hbk).trans h1, (World.cell?_of_block (a := ⟨b, _, none⟩) hbk).trans h2, (World.cell?_of_block (a := ⟨b, _, none⟩) hbk).trans h3, h4.below hb⟩
theorem byte_of' {n : Int} (h : (Lit.int .u8 n).wf = true) : ∃ b : UInt8, n = (b.toNat : Int) := by
  have hr : 0 ≤ n ∧ n ≤ 255 := by simpa [Lit.wf, IntKind.min, IntKind.max, IntKind.signed, IntKind.bits] using h
  refine ⟨UInt8.ofNat n.toNat, ?_⟩
  rw [UInt8.toNat_ofNat']
  omega
theorem list4 {α : Type} {l : List α} (h : l.length = 4) : ∃ a b c d, l = [a, b, c, d] := by
  match l, h with
  | [a, b, c, d], _ => exact ⟨a, b, c, d, rfl⟩
theorem cellsInt4 : Tryz.prog.cellsOf 3 = 1 := by kernel_rfl
theorem cellsDd : Tryz.prog.cellsOf 79 = 4 := by kernel_rfl
open Go.ChangeShapes Go.WideShapes Go.ChangeAt Go.Deep
/-- a row of numbers that a deed bears -/
theorem open_ints4 {H : Type} {enc : TypeId × Value → H} {W : World} {v : Value} {fuel : Nat} {x : DataW H × List MemPlace}
    (hf : DataW.trod enc Tryz.prog W 0 (fun _ => true) true fuel 30 [v] = some x) : ∃ (a : Option Addr) (l : List Int) (c : Nat), v = .slice a l.length c ∧ IntsAt W a l ∧ (∀ x ∈ l, -9223372036854775808 ≤ x ∧ x ≤ 9223372036854775807) ∧ l.length ≤ 9223372036854775807 := by
  rcases open_ints Tryz.underlying30 Tryz.underlying3 cellsInt4 hf with ⟨hcs, _⟩ | ⟨x, l', c', zs, hcs, _, hl, hm, hz, hx, hcell, hwz⟩
  · simp only [List.cons.injEq, and_true] at hcs
    subst hcs
    exact ⟨none, [], 0, rfl, fun i hi => by simp at hi, fun x hx => by simp at hx, by simp⟩
  · simp only [List.cons.injEq, and_true] at hcs
    subst hcs
    simp only [if_true] at hz
    have hlen : (zs.take l').length = l' := by rw [List.length_take]; omega
    refine ⟨some x, zs.take l', c', by rw [hlen], fun i hi => ?_, fun z hz' => ?_, by rw [hlen]; unfold maxLen at hm; omega⟩
    · obtain ⟨b, o, spot⟩ := x
      have hc := hcell i (by omega)
      have hspot : spot = none := by simpa [Addr.add] using World.cell?_spot (hcell 0 (by omega))
      subst hspot
      refine ⟨b, o, rfl, ?_⟩
      rw [addr_add] at hc
      rw [hc]
      have hi' : i < zs.length := by omega
      simp only [List.getD, List.getElem?_eq_getElem hi', Option.getD_some, List.getElem_take]
    · have := hwz z (List.mem_of_mem_take hz')
      simpa [Lit.wf, IntKind.min, IntKind.max, IntKind.signed, IntKind.bits] using this
theorem open_deed4 {H : Type} {enc : TypeId × Value → H} {W : World} {b0 : Nat} {r : Reach} {v : Value} {d : DataW H} {p : List MemPlace}
    (hv : Value.okWide Tryz.prog W r b0 79 v) (h : DataW.Trod enc Tryz.prog W 0 (fun _ => true) true 79 v d p) :
    ∃ x : Dd, v = x.val ∧ DdOk W x := by
  obtain ⟨v0, v1, v2, v3, y0, y1, y2, y3, n, rfl, _, _, h0, h1, h2, h3⟩ := Joins.open_agg4 Tryz.underlying79 (by kernel_rfl) cellsDd hv h
  obtain ⟨N, e0, _, _⟩ := DataW.trod_int Tryz.underlying3 h0
  obtain ⟨a, l, c, rfl, g1, g2, g3⟩ := open_ints4 h1
  obtain ⟨b, e2, _, hb⟩ := DataW.trod_int Tryz.underlying5 h2
  obtain ⟨sh, e3, _⟩ := DataW.trod_bool Tryz.underlying4 h3
  obtain ⟨b', rfl⟩ := byte_of' hb
  simp only [List.cons.injEq, and_true] at e0 e2 e3
  exact ⟨⟨N, a, l, c, b', sh⟩, by rw [e0, e2, e3]; rfl, ⟨g1, g2, g3⟩⟩
theorem open_dds {H : Type} {enc : TypeId × Value → H} {W : World} {a : Option Addr} {len cap : Nat} {d : DataW H} {p : List MemPlace}
    (h : DataW.Trod enc Tryz.prog W 0 (fun _ => true) true 72 (.slice a len cap) d p) : ∃ l : List Dd, l.length = len ∧ DdsAt W a l ∧ l.length ≤ 9223372036854775807 := by
  obtain ⟨fuel, hf⟩ := h
  rcases open_slice Tryz.underlying72 hf with ⟨hcs, _⟩ | ⟨x, l', c', m, n, D, Pl, hcs, hb, hl, hm, hmm, _, hx⟩
  · simp [Value.cells] at hcs
    obtain ⟨rfl, rfl, rfl⟩ := hcs
    exact ⟨[], rfl, fun i hi => by simp at hi, by simp⟩
  · simp [Value.cells] at hcs
    obtain ⟨rfl, rfl, rfl⟩ := hcs
    simp only [if_true] at hmm
    rw [cellsDd] at hx
    have each : ∀ i, i < len → ∃ q : Dd, ∃ b o, x = ⟨b, o, none⟩ ∧ W.cell? ⟨b, o + i * 4, none⟩ = some (.int .i64 q.kd) ∧ W.cell? ⟨b, o + i * 4 + 1, none⟩ = some (.slice q.a q.q.length q.c) ∧ W.cell? ⟨b, o + i * 4 + 2, none⟩ = some (.int .u8 (q.y.toNat : Int)) ∧ W.cell? ⟨b, o + i * 4 + 3, none⟩ = some (.bool q.sh) ∧ DdOk W q := by
      intro i hi
      obtain ⟨cs', h1, h2⟩ := hx i (by omega)
      obtain ⟨_, hlen, hcell⟩ := World.cells?_some h1
      obtain ⟨xs, k, hk, hxy, _, hxl, hf⟩ := DataW.trod_struct Tryz.underlying79 h2
      obtain ⟨v0, v1, v2, v3, rfl⟩ := list4 hlen
      have g0 := hf 0 _ rfl
      have g1 := hf 1 _ rfl
      have g2 := hf 2 _ rfl
      have g3 := hf 3 _ rfl
      have s0 : Tryz.prog.cellsOf 3 = 1 := by kernel_rfl
      have s1 : Tryz.prog.cellsOf 30 = 1 := by kernel_rfl
      have s2 : Tryz.prog.cellsOf 5 = 1 := by kernel_rfl
      have s3 : Tryz.prog.cellsOf 4 = 1 := by kernel_rfl
      simp [s0, s1, s2, s3] at g0 g1 g2 g3
      have q0 : ∃ y, DataW.trod enc Tryz.prog W 0 (fun _ => true) true k 3 [v0] = some y := ⟨_, g0.trans (List.getElem?_eq_getElem (by rw [hxl]; decide))⟩
      have q1 : ∃ y, DataW.trod enc Tryz.prog W 0 (fun _ => true) true k 30 [v1] = some y := ⟨_, g1.trans (List.getElem?_eq_getElem (by rw [hxl]; decide))⟩
      have q2 : ∃ y, DataW.trod enc Tryz.prog W 0 (fun _ => true) true k 5 [v2] = some y := ⟨_, g2.trans (List.getElem?_eq_getElem (by rw [hxl]; decide))⟩
      have q3 : ∃ y, DataW.trod enc Tryz.prog W 0 (fun _ => true) true k 4 [v3] = some y := ⟨_, g3.trans (List.getElem?_eq_getElem (by rw [hxl]; decide))⟩
      obtain ⟨y0, q0⟩ := q0
      obtain ⟨y1, q1⟩ := q1
      obtain ⟨y2, q2⟩ := q2
      obtain ⟨y3, q3⟩ := q3
      obtain ⟨kd, e0, _, _⟩ := DataW.trod_int Tryz.underlying3 q0
      obtain ⟨qa, qq, qc, e1, hq, hq2, hq3⟩ := open_ints4 q1
      obtain ⟨b, e2, _, hb⟩ := DataW.trod_int Tryz.underlying5 q2
      obtain ⟨sh, e3, _⟩ := DataW.trod_bool Tryz.underlying4 q3
      obtain ⟨b', rfl⟩ := byte_of' hb
      simp only [List.cons.injEq, and_true] at e0 e2 e3
      subst e0 e1 e2 e3
      have c0 := hcell 0 (by omega)
      have c1 := hcell 1 (by omega)
      have c2 := hcell 2 (by omega)
      have c3 := hcell 3 (by omega)
      rw [Deep.add_add] at c0 c1 c2 c3
      obtain ⟨bb, o, spot⟩ := x
      have hspot : spot = none := by
        obtain ⟨cs0, z1, _⟩ := hx 0 (by omega)
        obtain ⟨_, zl, zc⟩ := World.cells?_some z1
        have := (zc 0 (by omega)).trans (List.getElem?_eq_getElem (by omega))
        simpa [Addr.add] using World.cell?_spot this
      subst hspot
      rw [addr_add] at c0 c1 c2 c3
      exact ⟨⟨kd, qa, qq, qc, b', sh⟩, bb, o, rfl, by simpa using c0, by simpa [Nat.add_assoc] using c1, by simpa [Nat.add_assoc] using c2, by simpa [Nat.add_assoc] using c3, ⟨hq, hq2, hq3⟩⟩
    obtain ⟨q, hq⟩ := choose_lt each
    refine ⟨(List.range len).map q, by simp, fun i hi => ?_, by simp; unfold maxLen at hm; omega⟩
    have hi' : i < len := by simpa using hi
    obtain ⟨b, o, e, h0, h1, h2, h3, h4⟩ := hq i hi'
    refine ⟨b, o, by rw [e], ?_, ?_, ?_, ?_, ?_⟩
    · simpa using h0
    · simpa using h1
    · simpa using h2
    · simpa using h3
    · simpa using h4
end Go.Proofs.YthdcjepkehifoaaGreat

/- all of law 4: all pages of a log, by a contract. -/
namespace Go.Proofs.YthdcjepkehifoaaGreat
open Go.RowKit Go.Maps Go.Sort Go.Shelf
set_option linter.unusedVariables false
set_option maxRecDepth 20000
/-- rows of pages of their own -/
def Img (w : World) (B : Nat) (v : Value) (ps : List (List UInt8)) : Prop := ∃ vs, ImgAt w B v vs ps ∧ ∀ u ∈ vs, ∀ j, u.ownBlock = some j → some j ≠ v.ownBlock
def pagesOf (s : PS) : List (List UInt8) := (List.range s.P).map s.page
theorem pagesOf_len (s : PS) : (pagesOf s).length = s.P := by simp [pagesOf]
theorem page_at {w : World} {p : Nat} {m : PM} {s : PS} (h : PgMem w p m s) {q : Nat} (hq : q < s.P) : (psOf (fresh s.S s.P) s.ls)[(plOf s.gs q).getD (s.S + 1 + q)]? = some (s.page q) := by
  have hlen := pageNow_length h.log.inv q hq
  show (psOf (fresh s.S s.P) s.ls)[placeOf s.S s.gs q]? = some (pageNow (psOf (fresh s.S s.P) s.ls) s.S s.gs q)
  unfold pageNow at hlen ⊢
  cases e : (psOf (fresh s.S s.P) s.ls)[placeOf s.S s.gs q]? with
  | none => rw [List.getD_eq_getElem?_getD, e] at hlen; simp at hlen
  | some y => rw [List.getD_eq_getElem?_getD, e]; rfl
set_option maxHeartbeats 1600000 in
/-- all pages of a log, whatever tells its pages -/
theorem all_gen {w : World} (l : Nat) (ps : List (List UInt8)) (hP' : ps.length ≤ 99) (hf : ∀ k (hk : k < ps.length), ps[k].length = 256)
    (hpg : ∀ w', Below w.heap.size w w' → Calls Tryz.prog 17 #[.pointer (some ⟨l, 0, none⟩)] w' fun e w'' => e = .returned (.int .i64 (ps.length : Int)) ∧ Below w'.heap.size w' w'')
    (hrd : ∀ w', Below w.heap.size w w' → ∀ k (hk : k < ps.length), Calls Tryz.prog 28 #[.pointer (some ⟨l, 0, none⟩), .int .i64 (k : Int)] w' fun e w'' => ∃ g c, e = .returned (.tuple #[.slice (some ⟨g, 0, none⟩) 256 c, .int .i64 0]) ∧ w''.ownsRow w'.heap.size 5 1 (.slice (some ⟨g, 0, none⟩) 256 c) 256 (cellsOf ps[k]) ∧ 256 ≤ c ∧ Below w'.heap.size w' w'') :
    Calls Tryz.prog 69 #[.pointer (some ⟨l, 0, none⟩)] w fun e w' => ∃ v, e = .returned v ∧ Img w' w.heap.size v ps ∧ Below w.heap.size w w' := by
  obtain ⟨i0, hi0, hz0, hz1, hz2⟩ := info_parts Tryz.info36
  have Hf := hid hf
  have HPg := hid hpg
  have HRd := hid hrd
  clear hf hpg hrd
  go_enter Tryz.func69, Tryz.ntmps69
  go_wp2
  go_loopw [4, 3] (fun i o wr => ∃ (k : Nat) (vs' : List Value), k ≤ ps.length ∧ i = .int .i64 (k : Int) ∧ ImgAt wr w.heap.size o vs' (ps.take k) ∧ (∀ v ∈ vs', ∀ j, v.ownBlock = some j → some j ≠ o.ownBlock) ∧ Below w.heap.size w wr) (fun i _ _ => ps.length - (intOf i).toNat)
  case atStart => exact ⟨0, [], by omega, rfl, ⟨World.ownsRow_nil _ _ _ _, rfl, fun i hi => by simp at hi⟩, (fun v hv => by cases hv), Below.refl _ _⟩
  case round =>
    obtain ⟨k, vs', hk, rfl, hI, hap, hB⟩ := hrel
    have HI := hid hI
    have Hap := hid hap
    have HB := hid hB
    have htl : (ps.take k).length = k := by rw [List.length_take]; omega
    have Htl := hid htl
    have HPg1 := hid (HPg.out wr hB)
    clear hI hap hB htl
    go_wp2_with fail
    refine HPg1.out.mono ?_
    rintro _ w3 ⟨rfl, b3⟩
    have HB3 := hid (HB.out.trans (b3.mono HB.out.size))
    have HI3 := hid (HI.out.below b3)
    have hrow := HI3.out.row
    rw [Htl.out] at hrow
    have Hrow := hid hrow
    clear b3 HPg1 hrow
    by_cases hlt : k < ps.length
    · have Htk := hid (List.take_succ_eq_append_getElem hlt)
      have Hc := hid (HRd.out w3 HB3.out k hlt)
      have H256 := hid (Hf.out k hlt)
      have f1 : (k : Int) < (ps.length : Int) := by omega
      have f2 : (k : Int) < 100 := by omega
      generalize ps[k] = x at *
      go_wp2_with fail
      refine Hc.out.mono ?_
      rintro _ w4 ⟨bu, cu, rfl, hu, _, hb4⟩
      have Hu := hid hu
      have Hb4 := hid hb4
      have hs4 := hb4.size
      clear hu hb4 Hc
      go_wp2_with (at_builtin; refine wpList_append_lies _ rfl _ _ 46 rfl w.heap.size 36 i0 _ 1 24 Tryz.underlying46 hi0 hz0 hz1 hz2 rfl (by omega) u3 k vs' rfl ((own_below Hrow.out Hb4.out).alloc _) ⟨w4.heap.size, 0, none⟩ 1 1 [.slice (some ⟨bu, 0, none⟩) 256 cu] rfl rfl (World.news_of_block (cs := #[.slice (some ⟨bu, 0, none⟩) 256 cu]) (t := 36) (fr := (0, 0)) (heap_alloc_new w4 _)) ?q1 ?q2 ?q3 ?q4 ?q5 (w4.heap.size + 1) ?q6 ?_)
      case q1 => intro q hq; rw [List.mem_singleton.1 hq]; rfl
      case q2 => omega
      case q3 => unfold maxLen; omega
      case q4 => omega
      case q5 => have := HB3.out.size; simp; omega
      case q6 => simp
      intro gg cap1 w5 hown5 hgrow5 hat5 hlt5
      have hu' : w4.ownsRow w3.heap.size 5 1 (.slice (some ⟨bu, 0, none⟩) 256 cu) x.length (cellsOf x) := by rw [H256.out]; exact Hu.out
      have hE := hid (img_snoc (w3 := w5) (gg := gg) (cap1 := cap1) HI3.out Hap.out hu' Hb4.out HB3.out.size (by rw [Htl.out]; exact hown5) (fun j hj hne => (hgrow5.block j (by simp; omega) hne).trans (Below.heap_alloc _ _ _ hj)) (by rcases hat5 with h | h; exact .inl h; exact .inr (by omega)))
      rw [Htl.out, ← Htk.out] at hE
      have HB5 := hid (((HB3.out.trans (Hb4.out.mono HB3.out.size)).alloc (by have := HB3.out.size; omega) _).grown hgrow5 (by have := HB3.out.size; simp; omega) (fun j e => (Hrow.out.lt j e).1))
      clear hown5 hgrow5 hat5 hlt5 hu'
      go_wp2
      go_roundw
      case rel => exact ⟨k + 1, _, by omega, by go_num, hE.out.1, hE.out.2, HB5.out⟩
      case measure => simp [intOf]; omega
    · have hkn : k = ps.length := by omega
      subst hkn
      have f1 : ¬ (ps.length : Int) < (ps.length : Int) := by omega
      have hI := HI3.out
      rw [List.take_length] at hI
      have HI2 := hid hI
      clear hI
      go_wp2
      go_ret
      exact ⟨_, rfl, ⟨_, HI2.out, Hap.out⟩, HB3.out⟩
theorem all_any {w : World} {p : Nat} {m : PM} {s : PS} (h : PgMem w p m s) (hP : s.P ≤ 99) :
    Calls Tryz.prog 69 #[.pointer (some ⟨m.l, 0, none⟩)] w fun e w' => ∃ v, e = .returned v ∧ Img w' w.heap.size v (pagesOf s) ∧ Below w.heap.size w w' := by
  have hlen := h.log.inv.len
  have hmost := h.log.inv.most
  have hpl := pagesOf_len s
  have hpk : ∀ k (hk : k < (pagesOf s).length), (pagesOf s)[k] = s.page k := fun k hk => by simp [pagesOf]
  refine all_gen m.l (pagesOf s) (by omega) (fun k hk => ?_) (fun w' hb => ?_) (fun w' hb k hk => ?_)
  · rw [hpk]; exact page_len h (by omega)
  · rw [hpl]; exact logPages_any (h.below hb).log.mem s.P hlen hmost
  · rw [hpk]; exact logRead_ok (h.below hb).log.mem s.P hlen hmost k (by omega) (s.page k) (page_at h (by omega))
/-- all pages of a log that was opened -/
theorem all_log {w : World} {B l d g cap mb n : Nat} {v : Value} {S G U P : Nat} {gs : List (List Nat)} {ps : List (List UInt8)} {ch : List (Nat × List UInt8)} (h : LogMem w B l d g cap mb n v S G U (plOf gs) ps ch) (hi : LogInv ps S G gs P) (hP : P ≤ 99) :
    Calls Tryz.prog 69 #[.pointer (some ⟨l, 0, none⟩)] w fun e w' => ∃ v, e = .returned v ∧ Img w' w.heap.size v ((List.range P).map (pageNow ps S gs)) ∧ Below w.heap.size w w' := by
  have hlen := hi.len
  have hmost := hi.most
  have hpl : ((List.range P).map (pageNow ps S gs)).length = P := by simp
  have hpk : ∀ k (hk : k < ((List.range P).map (pageNow ps S gs)).length), ((List.range P).map (pageNow ps S gs))[k] = pageNow ps S gs k := fun k hk => by simp
  refine all_gen l ((List.range P).map (pageNow ps S gs)) (by omega) (fun k hk => ?_) (fun w' hb => ?_) (fun w' hb k hk => ?_)
  · rw [hpk]; exact pageNow_length hi k (by omega)
  · rw [hpl]; exact logPages_any (h.below hb) P hlen hmost
  · rw [hpk]
    refine logRead_ok (h.below hb) P hlen hmost k (by omega) (pageNow ps S gs k) ?_
    have hl := pageNow_length hi k (by omega)
    show ps[placeOf S gs k]? = some (pageNow ps S gs k)
    unfold pageNow at hl ⊢
    cases e : ps[placeOf S gs k]? with
    | none => rw [List.getD_eq_getElem?_getD, e] at hl; simp at hl
    | some y => rw [List.getD_eq_getElem?_getD, e]; rfl
end Go.Proofs.YthdcjepkehifoaaGreat

/- The region of PagerAborts that writes a deed. -/
namespace Go.Proofs.YthdcjepkehifoaaGreat
open Go.RowKit Go.Maps Go.Sort Go.Shelf
set_option linter.unusedVariables false
set_option maxRecDepth 20000
/-- the cells of a deed -/
def DdCells (b o : Nat) (kd : Int) (qa : Option Addr) (qq : List Int) (qc : Nat) (y : UInt8) (sh : Bool) (V : World) : Prop :=
  V.cell? ⟨b, o, none⟩ = some (.int .i64 kd) ∧ V.cell? ⟨b, o + 1, none⟩ = some (.slice qa qq.length qc) ∧ V.cell? ⟨b, o + 2, none⟩ = some (.int .u8 (y.toNat : Int)) ∧ V.cell? ⟨b, o + 3, none⟩ = some (.bool sh)
theorem DdCells.below {b o : Nat} {kd : Int} {qa : Option Addr} {qq : List Int} {qc : Nat} {y : UInt8} {sh : Bool} {V V' : World} (h : DdCells b o kd qa qq qc y sh V) (hb : Below V.heap.size V V') : DdCells b o kd qa qq qc y sh V' := by
  obtain ⟨h0, h1, h2, h3⟩ := h
  exact ⟨(hb.cell (World.block_lt_of_cell? _ _ h0)).trans h0, (hb.cell (World.block_lt_of_cell? _ _ h1)).trans h1, (hb.cell (World.block_lt_of_cell? _ _ h2)).trans h2, (hb.cell (World.block_lt_of_cell? _ _ h3)).trans h3⟩
section
variable {ops : Array Oper} {op : Oper} {a : Act} {S : World → Prop}
theorem y_idxD (hw : Region.wanted op (yielded ops a.tmps) = true) (x y : Operand) (ho : op.op = .indexAddr 72 x y) {b o n c k : Nat} (hx : a.eval x = .slice (some ⟨b, o, none⟩) n c) (hy : a.eval y = .int .i64 (k : Int)) (hk : k < n) : YieldsIf Tryz.prog ops S op (.pointer (some ⟨b, o + k * 4, none⟩)) a :=
  yg_ix hw x y ho hx hy (fun w => by
    have h1 : (k : Int) < (n : Int) := by omega
    simp [go_sem, h1])
theorem y_ldD {b o : Nat} {kd : Int} {qa : Option Addr} {qq : List Int} {qc : Nat} {y : UInt8} {sh : Bool} (hw : Region.wanted op (yielded ops a.tmps) = true) (x : Operand) (ho : op.op = .load 79 x) (hx : a.eval x = .pointer (some ⟨b, o, none⟩)) : YieldsIf Tryz.prog ops (DdCells b o kd qa qq qc y sh) op (.agg #[.int .i64 kd, .slice qa qq.length qc, .int .u8 (y.toNat : Int), .bool sh]) a :=
  yg_ld hw x ho hx (fun w hs => by
    obtain ⟨h0, h1, h2, h3⟩ := hs
    simp [go_sem, h0, h1, h2, h3])
end
theorem hf_first : ∀ (args : Array Value) (w : World), (callFunc 65 args).run Tryz.prog w = .ok (.enter 65 args) w := fun args w => by simp [go_sem]
theorem hf_bytes4 : ∀ (args : Array Value) (w : World), (callFunc 67 args).run Tryz.prog w = .ok (.enter 67 args) w := fun args w => by simp [go_sem]
theorem hf_pgw : ∀ (args : Array Value) (w : World), (callFunc 66 args).run Tryz.prog w = .ok (.enter 66 args) w := fun args w => by simp [go_sem]
/-- Write, both ways at once -/
def wrOr (s s' : PS) (x : Int) (y : List UInt8) (e : Int) : Prop := (writeE s x y.length ≠ 0 ∧ e = writeE s x y.length ∧ s' = s) ∨ (writeE s x y.length = 0 ∧ e = 0 ∧ s' = writeS s x.toNat y)
theorem write_d {w : World} {p : Nat} {s : PS} {F : Nat → Prop} (h : Cache w p s F) (ht : s.t ≤ 100000) (x : Int) (hx : -9223372036854775808 ≤ x ∧ x ≤ 9223372036854775807) (y : List UInt8) (a : Option Addr) (c : Nat) (hy : Bytes w a y) (n : Nat) (hn : n = y.length) :
    Calls Tryz.prog 66 #[.pointer (some ⟨p, 0, none⟩), .int .i64 x, .slice a n c] w fun r w' => ∃ (e : Int) (s' : PS), r = .returned (.int .i64 e) ∧ wrOr s s' x y e ∧ Cache w' p s' F ∧ Kept F w w' := by
  refine (write_c h ht x hx y a c hy n hn).mono ?_
  rintro _ w' (⟨h1, rfl, h3, h4⟩ | ⟨h1, rfl, h3, h4⟩)
  · exact ⟨_, _, rfl, .inl ⟨h1, rfl, rfl⟩, h3, h4⟩
  · exact ⟨_, _, rfl, .inr ⟨h1, rfl, rfl⟩, h3, h4⟩
end Go.Proofs.YthdcjepkehifoaaGreat

/- PagerAborts' walk. -/
namespace Go.Proofs.YthdcjepkehifoaaGreat
open Go.RowKit Go.Maps Go.Sort Go.Shelf
set_option linter.unusedVariables false
set_option maxRecDepth 20000
theorem same_eqA {w : World} {a b : Option Addr} {x : List UInt8} {n : Nat} (ca cb : Nat) (ha : Bytes w a x) (hb : Bytes w b x) (hn : x.length = n) (hl : n ≤ 1000) :
    Calls Tryz.prog 30 #[.slice a n ca, .slice b n cb] w fun e w' => e = .returned (.bool true) ∧ Below w.heap.size w w' := by
  subst hn
  refine (sameBytes_any x x a b ca cb w ha hb (by omega) (by omega)).mono ?_
  rintro _ w' ⟨rfl, hbl⟩
  exact ⟨by rw [decide_eq_true (rfl : x = x)], hbl⟩
/-- the blocks of an image -/
def imgB (v : Value) (vs : List Value) (k : Nat) : Prop := v.ownBlock = some k ∨ ∃ u ∈ vs, u.ownBlock = some k
theorem ImgAt.keepB {w w' : World} {B : Nat} {v : Value} {vs : List Value} {ps : List (List UInt8)} (h : ImgAt w B v vs ps) (hk : ∀ k, imgB v vs k → w'.heap[k]? = w.heap[k]?) : ImgAt w' B v vs ps :=
  ⟨own_keep h.row (fun k e => hk k (.inl e)), h.vlen, fun i hi hi' => own_keep (h.rows i hi hi') (fun k e => hk k (.inr ⟨_, List.getElem_mem hi', e⟩))⟩
theorem ImgAt.ge {w : World} {B : Nat} {v : Value} {vs : List Value} {ps : List (List UInt8)} (h : ImgAt w B v vs ps) {k : Nat} (hk : imgB v vs k) : B ≤ k ∧ k < w.heap.size := by
  rcases hk with e | ⟨u, hu, e⟩
  · exact h.row.lt k e
  · obtain ⟨i, hi, rfl⟩ := List.getElem_of_mem hu
    exact (h.rows i (by rw [← h.vlen]; exact hi) hi).lt k e
theorem ImgAt.mono {w : World} {B B' : Nat} {v : Value} {vs : List Value} {ps : List (List UInt8)} (h : ImgAt w B v vs ps) (hB : B' ≤ B) : ImgAt w B' v vs ps :=
  ⟨h.row.mono hB, h.vlen, fun i hi hi' => (h.rows i hi hi').mono hB⟩
/-- Log, and all pages of it -/
theorem log_c {w : World} {p : Nat} {s : PS} {F : Nat → Prop} (h : Cache w p s F) (hP : s.P ≤ 99) : Calls Tryz.prog 62 #[.pointer (some ⟨p, 0, none⟩)] w fun e w' => ∃ l0, e = .returned (.pointer (some ⟨l0, 0, none⟩)) ∧ w' = w ∧ Calls Tryz.prog 69 #[.pointer (some ⟨l0, 0, none⟩)] w (fun e w'' => ∃ v vs, e = .returned v ∧ ImgAt w'' w.heap.size v vs (pagesOf s) ∧ Below w.heap.size w w'') := by
  obtain ⟨m, h1, h2, h3⟩ := h
  refine (pgLog_any h1).mono ?_
  rintro _ w' ⟨rfl, rfl⟩
  refine ⟨_, rfl, rfl, (all_any h1 hP).mono ?_⟩
  rintro _ w'' ⟨v, rfl, ⟨vs, hI, _⟩, hb⟩
  exact ⟨v, vs, rfl, hI, hb⟩
/-- a cache, and an image of the log's pages beside it -/
def Was (B : Nat) (w : World) (p : Nat) (s : PS) (v : Value) (ps : List (List UInt8)) : Prop := ∃ vs, ImgAt w B v vs ps ∧ Cache w p s (fun k => k < B ∨ imgB v vs k)
theorem Was.below {B : Nat} {w w' : World} {p : Nat} {s : PS} {v : Value} {ps : List (List UInt8)} (h : Was B w p s v ps) (hb : Below w.heap.size w w') : Was B w' p s v ps := by
  obtain ⟨vs, hI, hC⟩ := h
  exact ⟨vs, hI.below hb, hC.below hb⟩
theorem Was.of {B : Nat} {w w' : World} {p : Nat} {s : PS} {F : Nat → Prop} {v : Value} {vs : List Value} {ps : List (List UInt8)} (hC : Cache w p s F) (hF : ∀ k, k < B → F k) (hI : ImgAt w' w.heap.size v vs ps) (hb : Below w.heap.size w w') (hB : B ≤ w.heap.size) : Was B w' p s v ps :=
  ⟨vs, hI.mono hB, (hC.add hb).mono (fun k hk => by
    rcases hk with hk | hk
    · exact .inl (hF k hk)
    · exact .inr (hI.ge hk))⟩
theorem Was.step {B : Nat} {w w' : World} {p : Nat} {s' : PS} {v : Value} {vs : List Value} {ps : List (List UInt8)} (hI : ImgAt w B v vs ps) (hC : Cache w' p s' (fun k => k < B ∨ imgB v vs k)) (ho : Kept (fun k => k < B ∨ imgB v vs k) w w') : Was B w' p s' v ps :=
  ⟨vs, hI.keepB (fun k hk => ho.get (.inr hk) (hI.ge hk).2), hC⟩
theorem pagesOf_congr {s s' : PS} (h1 : s'.P = s.P) (h2 : ∀ q, q < s.P → s'.page q = s.page q) : pagesOf s' = pagesOf s := by
  unfold pagesOf
  rw [h1]
  exact List.map_congr_left (fun q hq => h2 q (List.mem_range.1 hq))
end Go.Proofs.YthdcjepkehifoaaGreat
