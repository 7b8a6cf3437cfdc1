/- YtbfoigppcbmikaaDoorADoM + YtbfoigppcbmikaaDoorADo0 + YtbfoigppcbmikaaDoorADo1 + YtbfoigppcbmikaaDoorADArgs + YtbfoigppcbmikaaDoorAOrd15 + YtbfoigppcbmikaaDoorAPr16 + YtbfoigppcbmikaaDoorAInv + YtbfoigppcbmikaaDoorAPrunes -/
import Derived.Test.YtbfoigppcbmikaaDoorARAdd
import Derived.Test.YtbfoigppcbmikaaDoorALive
import Derived.Test.YtbfoigppcbmikaaDoorAStr
import Derived.Lib.SmallJoins
import Derived.Deep.Slices
import Derived.SliceStrings
import Derived.ChangeSlices
import Derived.BigQuiet
/- The program's chain and the reference's beside each other; what a deed makes of them. -/
namespace Go.Proofs.YtbfoigppcbmikaaDoor
open Go.RowKit
set_option linter.unusedVariables false
set_option maxRecDepth 20000

/-- times rise -/
def Up (l : List Ev) : Prop := ∀ i (h : i + 1 < l.length), (l[i]'(by omega)).tim ≤ l[i + 1].tim
/-- a chain that was made by calls alone, no more than n of them Add -/
structure Made (c : Ch) (n : Nat) : Prop where
  ok : ChOk c
  ba : c.bn ≤ c.an
  cnt : c.cnt ≤ n
  sound : Sound c
  up : Up c.ev
theorem made0 : Made ch0 0 := ⟨ch0_ok, by decide, by decide, sound0, fun i h => by simp [ch0] at h⟩
theorem Made.mono {c : Ch} {n m : Nat} (h : Made c n) (hm : n ≤ m) : Made c m := ⟨h.ok, h.ba, Nat.le_trans h.cnt hm, h.sound, h.up⟩
theorem Made.evOk {c : Ch} {n : Nat} (h : Made c n) (hn : n ≤ 1000000) : EvOk c.ev := fun e he => by
  obtain ⟨i, hi, rfl⟩ := List.mem_iff_getElem.1 he
  have h1 := h.ok.num i hi
  have h2 := h.cnt
  have h3 := h.ok.tim _ he
  have h4 := h.ok.las
  have h5 := h.ok.siz _ he
  unfold Ch.cnt at h2
  exact ⟨by omega, by omega, h5.1, h5.2⟩
theorem up_add {c : Ch} (hu : Up c.ev) (ht : ∀ e ∈ c.ev, e.tim ≤ c.la) (e : Ev) (he : c.la ≤ e.tim) : Up (c.ev ++ [e]) := fun i h => by
  rw [List.length_append, List.length_singleton] at h
  by_cases h1 : i + 1 < c.ev.length
  · rw [List.getElem_append_left (by omega), List.getElem_append_left h1]
    exact hu i h1
  · rw [List.getElem_append_left (by omega), List.getElem_append_right (by omega)]
    simp only [show i + 1 - c.ev.length = 0 by omega, List.getElem_cons_zero]
    exact Nat.le_trans (ht _ (List.getElem_mem _)) he
theorem Made.add {c : Ch} {n : Nat} (h : Made c n) (t : Int) (what who : ByteArray) : Made (addR c t what who) (n + 1) := by
  refine ⟨addR_ok h.ok _ _ _, ?_, Nat.le_trans (addR_cnt c t what who) (by have := h.cnt; omega), addR_sound h.ok h.sound _ _ _, ?_⟩
  · unfold addR
    split
    · exact h.ba
    · exact h.ba
  · unfold addR
    split
    · rename_i he
      obtain ⟨t1, t2, t3, t4, t5, t6⟩ := addE_zero he
      exact up_add h.up h.ok.tim _ (by show c.la ≤ t.toNat; omega)
    · exact h.up
theorem Made.anc {c : Ch} {n : Nat} (h : Made c n) : Made (ancC c) n := ⟨ancC_ok h.ok, by show c.bn ≤ c.cnt; unfold Ch.cnt; omega, h.cnt, h.sound.anc, h.up⟩
theorem Made.pru {c : Ch} {n : Nat} (h : Made c n) (k : Int) : Made (pruR c k) n := by
  refine ⟨pruR_ok h.ok k, ?_, by rw [pruR_cnt h.ok]; exact h.cnt, pruR_sound h.ok h.sound k, ?_⟩
  · unfold pruR
    split
    · rename_i he
      obtain ⟨j, rfl, hj⟩ := pruE_zero he
      show c.bn + (((c.bn + j : Nat) : Int).toNat - c.bn) ≤ c.an
      omega
    · exact h.ba
  · unfold pruR
    split
    · intro i hi
      have hi' : i + 1 < (c.ev.drop (k.toNat - c.bn)).length := hi
      show ((c.ev.drop (k.toNat - c.bn))[i]'(by omega)).tim ≤ ((c.ev.drop (k.toNat - c.bn))[i + 1]'hi').tim
      rw [List.getElem_drop, List.getElem_drop]
      rw [List.length_drop] at hi'
      exact h.up (k.toNat - c.bn + i) (by omega)
    · exact h.up
/-- a deed -/
structure ADeed where
  kind : Int
  at' : Int
  n : Int
  what : ByteArray
  who : ByteArray
def ADeed.vals (q : ADeed) : List Value := [.int .i64 q.kind, .int .i64 q.at', .int .i64 q.n, .string q.what, .string q.who]
def stepD (c : Ch) (q : ADeed) : Ch := if q.kind = 0 then addR c q.at' q.what q.who else if q.kind = 1 then ancC c else if q.kind = 2 then pruR c q.n else c
theorem Made.step {c : Ch} {n : Nat} (h : Made c n) (q : ADeed) : Made (stepD c q) (n + 1) := by
  unfold stepD
  split
  · exact h.add _ _ _
  · split
    · exact h.anc.mono (Nat.le_succ _)
    · split
      · exact (h.pru _).mono (Nat.le_succ _)
      · exact h.mono (Nat.le_succ _)
/-- both chains in memory -/
structure Pair (w : World) (B g r : Nat) (v u : Value) (c : Ch) : Prop where
  ch : ChAt w B g v c
  rf : RAt w B r u c
  sep : ∀ k, v.ownBlock = some k → u.ownBlock ≠ some k
section
variable {w w1 w2 : World} {B g r : Nat} {v u v' u' : Value} {c c' : Ch}
theorem Pair.gr (h : Pair w B g r v u c) : g ≠ r := fun e => by
  have h1 := h.ch.obj
  rw [e, h.rf.obj] at h1
  injection h1 with h1
  injection h1 with _ h1
  exact absurd h1 (by decide)
theorem Pair.vr (h : Pair w B g r v u c) : v.ownBlock ≠ some r := fun e => by
  rcases h.ch.row.2 with ⟨rfl, _⟩ | ⟨j, cap, cur, rfl, hb, hj, _⟩
  · cases e
  · cases e
    rw [h.rf.obj] at hj
    injection hj with h1
    injection h1 with _ h1
    exact absurd h1 (by decide)
theorem Pair.ug (h : Pair w B g r v u c) : u.ownBlock ≠ some g := fun e => by
  rcases h.rf.row.2 with ⟨rfl, _⟩ | ⟨j, cap, cur, rfl, hb, hj, _⟩
  · cases e
  · cases e
    rw [h.ch.obj] at hj
    injection hj with h1
    injection h1 with _ h1
    exact absurd h1 (by decide)
theorem Pair.below (h : Pair w B g r v u c) (hb : Below w.heap.size w w1) : Pair w1 B g r v u c := ⟨h.ch.below hb, h.rf.below hb, h.sep⟩
/-- the program's chain has moved -/
theorem Pair.mid (h : Pair w B g r v u c) (h1 : ChAt w1 B g v' c') (o1 : Out (CBlk g v) w w1) (gr1 : Grew w v v') : RAt w1 B r u c ∧ ∀ k, v'.ownBlock = some k → u.ownBlock ≠ some k := by
  refine ⟨h.rf.out o1 (fun x => ?_) (fun k hk x => ?_), fun k hk hu => ?_⟩
  · rcases x with x | x
    · exact h.gr x.symm
    · exact h.vr x
  · rcases x with x | x
    · exact h.ug (x ▸ hk)
    · exact h.sep k x hk
  · rcases gr1 k hk with x | x
    · exact h.sep k x hu
    · have := (h.rf.lts k hu).2; omega
/-- then the reference's -/
theorem pair_end (h1 : ChAt w1 B g v' c') (hr : RAt w1 B r u c) (hs : ∀ k, v'.ownBlock = some k → u.ownBlock ≠ some k) (h2 : RAt w2 B r u' c') (o2 : Out (fun j => j = r) w1 w2) (gr2 : Grew w1 u u') : Pair w2 B g r v' u' c' := by
  have hgr : g ≠ r := fun e => by
    have h3 := h1.obj
    rw [e, hr.obj] at h3
    injection h3 with h3
    injection h3 with _ h3
    exact absurd h3 (by decide)
  refine ⟨h1.out o2 hgr (fun k hk x => ?_), h2, fun k hk hu => ?_⟩
  · rcases h1.row.2 with ⟨rfl, _⟩ | ⟨j, cap, cur, rfl, hb, hj, _⟩
    · cases hk
    · cases hk
      rw [show j = r from x, hr.obj] at hj
      injection hj with h3
      injection h3 with _ h3
      exact absurd h3 (by decide)
  · rcases gr2 k hu with x | x
    · exact hs k hk x
    · have := (h1.lts k hk).2; omega
end
end Go.Proofs.YtbfoigppcbmikaaDoor

/- A deed on both chains: holdfastlaw14.do, by a contract. -/
namespace Go.Proofs.YtbfoigppcbmikaaDoor
open Go.RowKit Go.Shelf
set_option linter.unusedVariables false
set_option maxRecDepth 20000
attribute [local go_sem ↓] loadL_fold storeL_fold loadH_fold storeH_fold buildH_fold

/-- what do answers -/
def DoPost (w : World) (B g r : Nat) (c : Ch) (q : ADeed) (e : Ending) (w' : World) : Prop := e = .returned (.bool true) ∧ (∃ v' u', Pair w' B g r v' u' (stepD c q)) ∧ Below B w w'

set_option maxHeartbeats 4000000 in
theorem do_add {w : World} {B g r : Nat} {v u : Value} {c : Ch} {n : Nat} (h : Pair w B g r v u c) (hm : Made c n) (hn : n ≤ 1000) (hT : Tabs w B) (hB : B ≤ w.heap.size) (at' nn : Int) (what who : ByteArray) (s1 : what.size ≤ 9223372036854775807) (s2 : who.size ≤ 9223372036854775807) :
    Calls Tryd.prog 16 #[.pointer (some ⟨g, 0, none⟩), .pointer (some ⟨r, 0, none⟩), .agg #[.int .i64 0, .int .i64 at', .int .i64 nn, .string what, .string who]] w (DoPost w B g r c ⟨0, at', nn, what, who⟩) := by
  obtain ⟨W0, hW0⟩ : ∃ W0, W0 = w.alloc (.cells #[.int .i64 0, .int .i64 at', .int .i64 nn, .string what, .string who] 30) := ⟨_, rfl⟩
  have b0 : Below w.heap.size w W0 := by rw [hW0]; exact (Below.refl _ w).alloc (Nat.le_refl _) _
  have d0 : W0.heap[w.heap.size]? = some (.cells #[.int .i64 0, .int .i64 at', .int .i64 nn, .string what, .string who] 30 (0, 0)) := by rw [hW0]; exact heap_alloc_new w _
  have H0 := h.below b0
  have T0 := hT.below hB b0
  have hB0 := Nat.le_trans hB b0.size
  have hcn : c.cnt < 1152921504606846976 := by have := hm.cnt; omega
  have hNg : w.heap.size ≠ g := by have := h.ch.lt; omega
  have hNr : w.heap.size ≠ r := by have := h.rf.lt; omega
  have hNv : ¬ CBlk g v w.heap.size := fun x => by
    rcases x with x | x
    · exact hNg x
    · have := (h.ch.lts _ x).2; omega
  have HW := hid hW0
  have M := hid hm
  have Hev := hid (hm.evOk (by omega))
  have hstep : Hid (stepD c ⟨0, at', nn, what, who⟩ = addR c at' what who) := rfl
  have C1 := hid (add_any H0.ch hm.ok hcn hB0 at' what who s1 s2 T0)
  obtain ⟨p, q, ra, rb, hev⟩ : ∃ p q ra rb, addEv c at' what who = ⟨p, q, ra, rb⟩ := ⟨_, _, _, _, rfl⟩
  have hev' : (eVals (addEv c at' what who)).toArray = #[.int .i64 (p : Int), .int .i64 (q : Int), .string ra, .string rb] := by rw [hev]; rfl
  obtain ⟨er, her⟩ : ∃ er, er = addE c at' what who := ⟨_, rfl⟩
  unfold AddPost at C1
  rw [hev', ← her] at C1
  have HevE := hid hev'
  have Her := hid her
  have D0 := hid d0
  have HH0 := hid H0
  have HB0 := hid b0
  have Hh := hid h
  clear hW0 hm hev hev' her d0 H0 T0 b0 h hT
  go_enter Tryd.func16, Tryd.ntmps16
  go_wp2_with fail
  rw [show w.alloc (.cells #[.int .i64 0, .int .i64 at', .int .i64 nn, .string what, .string who] 30) = W0 from HW.out.symm]
  refine C1.out.mono ?_
  rintro _ w1 ⟨v1, rfl, h1, o1, gr1⟩
  have hm1 := HH0.out.mid h1 o1 gr1
  have d1 : w1.heap[w.heap.size]? = some (.cells #[.int .i64 0, .int .i64 at', .int .i64 nn, .string what, .string who] 30 (0, 0)) := (o1.block _ (heap_lt D0.out) hNv).trans D0.out
  have bb1 : Below B W0 w1 := o1.below hB0 HH0.out.ch.blk
  obtain ⟨w1a, hw1a⟩ : ∃ W, W = w1.alloc (.cells #[.int .i64 (p : Int), .int .i64 (q : Int), .string ra, .string rb] 59) := ⟨_, rfl⟩
  have b1a : Below w1.heap.size w1 w1a := by rw [hw1a]; exact (Below.refl _ w1).alloc (Nat.le_refl _) _
  have x1 : w1a.heap[w1.heap.size]? = some (.cells #[.int .i64 (p : Int), .int .i64 (q : Int), .string ra, .string rb] 59 (0, 0)) := by rw [hw1a]; exact heap_alloc_new w1 _
  have d1a := (b1a.block _ (heap_lt d1)).trans d1
  have k1 : w1a.cell? ⟨w.heap.size, 1, none⟩ = some (.int .i64 at') := cell_of_row _ _ 1 _ _ _ d1a
  have k3 : w1a.cell? ⟨w.heap.size, 3, none⟩ = some (.string what) := cell_of_row _ _ 3 _ _ _ d1a
  have k4 : w1a.cell? ⟨w.heap.size, 4, none⟩ = some (.string who) := cell_of_row _ _ 4 _ _ _ d1a
  have hB1 : B ≤ w1.heap.size := Nat.le_trans hB0 bb1.size
  have C2 := hid (rAdd_any (hm1.1.below b1a) M.out.ok hcn (Nat.le_trans hB1 b1a.size) at' what who s1 s2)
  unfold RAddPost at C2
  rw [HevE.out, ← Her.out] at C2
  have Hm1 := hid hm1
  have H1 := hid h1
  have BB1 := hid bb1
  have B1a := hid b1a
  have X1 := hid x1
  have HW1 := hid hw1a
  rw [hw1a] at k1 k3 k4
  clear h1 o1 gr1 hm1 d1 d1a bb1 b1a x1 hw1a C1
  go_wp2_with fail
  rw [show w1.alloc (.cells #[.int .i64 (p : Int), .int .i64 (q : Int), .string ra, .string rb] 59) = w1a from HW1.out.symm]
  refine C2.out.mono ?_
  rintro _ w2 ⟨u2, rfl, h2, o2, gr2⟩
  have hpair := pair_end (H1.out.below B1a.out) (Hm1.out.1.below B1a.out) Hm1.out.2 h2 o2 gr2
  have hE1r : w1.heap.size ≠ r := by have := Hm1.out.1.lt; omega
  have x2 := (o2.block _ (heap_lt X1.out) hE1r).trans X1.out
  have hr := Hm1.out.1.bg
  have bb2 : Below B w1a w2 := o2.below (Nat.le_trans hB1 B1a.out.size) (fun k hk => by rw [hk]; exact hr)
  obtain ⟨w3, hw3⟩ : ∃ W, W = w2.alloc (.cells #[.int .i64 (p : Int), .int .i64 (q : Int), .string ra, .string rb] 59) := ⟨_, rfl⟩
  have b3 : Below w2.heap.size w2 w3 := by rw [hw3]; exact (Below.refl _ w2).alloc (Nat.le_refl _) _
  have y1 := (b3.block _ (heap_lt x2)).trans x2
  have z0 : w3.cell? ⟨w1.heap.size, 0, none⟩ = some (.int .i64 (p : Int)) := cell_of_row _ _ 0 _ _ _ y1
  have z1 : w3.cell? ⟨w1.heap.size, 1, none⟩ = some (.int .i64 (q : Int)) := cell_of_row _ _ 1 _ _ _ y1
  have z2 : w3.cell? ⟨w1.heap.size, 2, none⟩ = some (.string ra) := cell_of_row _ _ 2 _ _ _ y1
  have z3 : w3.cell? ⟨w1.heap.size, 3, none⟩ = some (.string rb) := cell_of_row _ _ 3 _ _ _ y1
  have hfin : Hid (DoPost w B g r c ⟨0, at', nn, what, who⟩ (.returned (.bool true)) w3) := ⟨rfl, ⟨v1, u2, by rw [hstep.out]; exact hpair.below b3⟩, ((((HB0.out.mono hB).trans BB1.out).trans (B1a.out.mono hB1)).trans bb2).trans (b3.mono (Nat.le_trans (Nat.le_trans hB1 B1a.out.size) bb2.size))⟩
  rw [hw3] at z0 z1 z2 z3 hfin
  clear h2 o2 gr2 hpair y1 x2 bb2 b3 hw3 C2 H1 Hm1 BB1 B1a X1 HW1 k1 k3 k4 hE1r hr
  go_wp2
  go_ret
  exact hfin.out
end Go.Proofs.YtbfoigppcbmikaaDoor

/- A deed on both chains: holdfastlaw14.do, by a contract. -/
namespace Go.Proofs.YtbfoigppcbmikaaDoor
open Go.RowKit Go.Shelf
set_option linter.unusedVariables false
set_option maxRecDepth 20000
attribute [local go_sem ↓] loadL_fold storeL_fold loadH_fold storeH_fold buildH_fold


set_option maxHeartbeats 4000000 in
theorem do_pru {w : World} {B g r : Nat} {v u : Value} {c : Ch} {n : Nat} (h : Pair w B g r v u c) (hm : Made c n) (hn : n ≤ 1000) (hT : Tabs w B) (hB : B ≤ w.heap.size) (at' nn : Int) (what who : ByteArray) :
    Calls Tryd.prog 16 #[.pointer (some ⟨g, 0, none⟩), .pointer (some ⟨r, 0, none⟩), .agg #[.int .i64 2, .int .i64 at', .int .i64 nn, .string what, .string who]] w (DoPost w B g r c ⟨2, at', nn, what, who⟩) := by
  obtain ⟨W0, hW0⟩ : ∃ W0, W0 = w.alloc (.cells #[.int .i64 2, .int .i64 at', .int .i64 nn, .string what, .string who] 30) := ⟨_, rfl⟩
  have b0 : Below w.heap.size w W0 := by rw [hW0]; exact (Below.refl _ w).alloc (Nat.le_refl _) _
  have d0 : W0.heap[w.heap.size]? = some (.cells #[.int .i64 2, .int .i64 at', .int .i64 nn, .string what, .string who] 30 (0, 0)) := by rw [hW0]; exact heap_alloc_new w _
  have H0 := h.below b0
  have T0 := hT.below hB b0
  have hB0 := Nat.le_trans hB b0.size
  have hcn : c.cnt < 1152921504606846976 := by have := hm.cnt; omega
  have hNg : w.heap.size ≠ g := by have := h.ch.lt; omega
  have hNr : w.heap.size ≠ r := by have := h.rf.lt; omega
  have hNv : ¬ CBlk g v w.heap.size := fun x => by
    rcases x with x | x
    · exact hNg x
    · have := (h.ch.lts _ x).2; omega
  have HW := hid hW0
  have M := hid hm
  have Hev := hid (hm.evOk (by omega))
  have hstep : Hid (stepD c ⟨2, at', nn, what, who⟩ = pruR c nn) := rfl
  have C1 := hid (prune_any H0.ch hm.ok hcn T0 hB0 nn)
  unfold PruPost at C1
  obtain ⟨pn, hpn⟩ : ∃ pn, pn = pruN c nn := ⟨_, rfl⟩
  obtain ⟨pe, hpe⟩ : ∃ pe, pe = pruE c nn := ⟨_, rfl⟩
  rw [← hpn, ← hpe] at C1
  have Hpn := hid hpn
  have Hpe := hid hpe
  have D0 := hid d0
  have HH0 := hid H0
  have HB0 := hid b0
  have Hh := hid h
  clear hW0 hm hpn hpe d0 H0 T0 b0 h hT
  go_enter Tryd.func16, Tryd.ntmps16
  go_wp2_with fail
  rw [show w.alloc (.cells #[.int .i64 2, .int .i64 at', .int .i64 nn, .string what, .string who] 30) = W0 from HW.out.symm]
  refine C1.out.mono ?_
  rintro _ w1 ⟨v1, rfl, h1, o1, gr1⟩
  have hm1 := HH0.out.mid h1 o1 gr1
  have d1 : w1.heap[w.heap.size]? = some (.cells #[.int .i64 2, .int .i64 at', .int .i64 nn, .string what, .string who] 30 (0, 0)) := (o1.block _ (heap_lt D0.out) hNv).trans D0.out
  have bb1 : Below B W0 w1 := o1.below hB0 HH0.out.ch.blk
  have k2 : w1.cell? ⟨w.heap.size, 2, none⟩ = some (.int .i64 nn) := cell_of_row _ _ 2 _ _ _ d1
  have hB1 : B ≤ w1.heap.size := Nat.le_trans hB0 bb1.size
  have C2 := hid (rPrune_any hm1.1 M.out.ok Hev.out hcn hB1 nn)
  unfold RPruPost at C2
  rw [← Hpn.out, ← Hpe.out] at C2
  have Hm1 := hid hm1
  have H1 := hid h1
  have BB1 := hid bb1
  clear h1 o1 gr1 hm1 d1 bb1 C1
  go_wp2_with fail
  refine C2.out.mono ?_
  rintro _ w2 ⟨u2, rfl, h2, o2, gr2⟩
  have hpair := pair_end H1.out Hm1.out.1 Hm1.out.2 h2 o2 gr2
  have hr := Hm1.out.1.bg
  have bb2 : Below B w1 w2 := o2.below hB1 (fun k hk => by rw [hk]; exact hr)
  have hfin : Hid (DoPost w B g r c ⟨2, at', nn, what, who⟩ (.returned (.bool true)) w2) := ⟨rfl, ⟨v1, u2, by rw [hstep.out]; exact hpair⟩, ((HB0.out.mono hB).trans BB1.out).trans bb2⟩
  clear h2 o2 gr2 hpair bb2 C2 H1 Hm1 BB1 k2 hr
  go_wp2
  go_ret
  exact hfin.out

set_option maxHeartbeats 4000000 in
theorem do_ver {w : World} {B g r : Nat} {v u : Value} {c : Ch} {n : Nat} (h : Pair w B g r v u c) (hm : Made c n) (hn : n ≤ 1000) (hT : Tabs w B) (hB : B ≤ w.heap.size) (kd at' nn : Int) (what who : ByteArray) (n0 : kd ≠ 0) (n1 : kd ≠ 1) (n2 : kd ≠ 2) :
    Calls Tryd.prog 16 #[.pointer (some ⟨g, 0, none⟩), .pointer (some ⟨r, 0, none⟩), .agg #[.int .i64 kd, .int .i64 at', .int .i64 nn, .string what, .string who]] w (DoPost w B g r c ⟨kd, at', nn, what, who⟩) := by
  obtain ⟨W0, hW0⟩ : ∃ W0, W0 = w.alloc (.cells #[.int .i64 kd, .int .i64 at', .int .i64 nn, .string what, .string who] 30) := ⟨_, rfl⟩
  have b0 : Below w.heap.size w W0 := by rw [hW0]; exact (Below.refl _ w).alloc (Nat.le_refl _) _
  have d0 : W0.heap[w.heap.size]? = some (.cells #[.int .i64 kd, .int .i64 at', .int .i64 nn, .string what, .string who] 30 (0, 0)) := by rw [hW0]; exact heap_alloc_new w _
  have H0 := h.below b0
  have T0 := hT.below hB b0
  have hB0 := Nat.le_trans hB b0.size
  have hcn : c.cnt < 1152921504606846976 := by have := hm.cnt; omega
  have hNg : w.heap.size ≠ g := by have := h.ch.lt; omega
  have hNr : w.heap.size ≠ r := by have := h.rf.lt; omega
  have hNv : ¬ CBlk g v w.heap.size := fun x => by
    rcases x with x | x
    · exact hNg x
    · have := (h.ch.lts _ x).2; omega
  have HW := hid hW0
  have M := hid hm
  have Hev := hid (hm.evOk (by omega))
  have hstep : Hid (stepD c ⟨kd, at', nn, what, who⟩ = c) := by
    show _ = _
    unfold stepD
    rw [if_neg n0, if_neg n1, if_neg n2]
  have C1 := hid (verify_any H0.ch hm.ok hcn T0 hB0)
  obtain ⟨ve, hve⟩ : ∃ ve, ve = verE c := ⟨_, rfl⟩
  rw [← hve] at C1
  have Hve := hid hve
  have HH0 := hid H0
  have HB0 := hid b0
  have m0 : (kd == 0) = false := by simpa using n0
  have m1 : (kd == 1) = false := by simpa using n1
  have m2 : (kd == 2) = false := by simpa using n2
  clear hW0 hm hve d0 H0 T0 b0 h hT n0 n1 n2
  go_enter Tryd.func16, Tryd.ntmps16
  go_wp2_with fail
  rw [show w.alloc (.cells #[.int .i64 kd, .int .i64 at', .int .i64 nn, .string what, .string who] 30) = W0 from HW.out.symm]
  refine C1.out.mono ?_
  rintro _ w1 ⟨rfl, b1⟩
  have H1 := HH0.out.below b1
  have C2 := hid (rVerify_any H1.rf M.out.ok Hev.out M.out.ba hcn)
  rw [← Hve.out] at C2
  have Hp := hid H1
  have B1 := hid b1
  clear H1 b1 C1
  go_wp2_with fail
  refine C2.out.mono ?_
  rintro _ w2 ⟨rfl, b2⟩
  have hfin : Hid (DoPost w B g r c ⟨kd, at', nn, what, who⟩ (.returned (.bool true)) w2) := ⟨rfl, ⟨v, u, by rw [hstep.out]; exact Hp.out.below b2⟩, (Below.on' (Below.on' HB0.out B1.out) b2).mono hB⟩
  clear b2 C2
  go_wp2
  go_ret
  exact hfin.out

set_option maxHeartbeats 4000000 in
theorem do_anc {w : World} {B g r : Nat} {v u : Value} {c : Ch} {n : Nat} (h : Pair w B g r v u c) (hm : Made c n) (hn : n ≤ 1000) (hT : Tabs w B) (hB : B ≤ w.heap.size) (at' nn : Int) (what who : ByteArray) :
    Calls Tryd.prog 16 #[.pointer (some ⟨g, 0, none⟩), .pointer (some ⟨r, 0, none⟩), .agg #[.int .i64 1, .int .i64 at', .int .i64 nn, .string what, .string who]] w (DoPost w B g r c ⟨1, at', nn, what, who⟩) := by
  obtain ⟨W0, hW0⟩ : ∃ W0, W0 = w.alloc (.cells #[.int .i64 1, .int .i64 at', .int .i64 nn, .string what, .string who] 30) := ⟨_, rfl⟩
  have b0 : Below w.heap.size w W0 := by rw [hW0]; exact (Below.refl _ w).alloc (Nat.le_refl _) _
  have d0 : W0.heap[w.heap.size]? = some (.cells #[.int .i64 1, .int .i64 at', .int .i64 nn, .string what, .string who] 30 (0, 0)) := by rw [hW0]; exact heap_alloc_new w _
  have H0 := h.below b0
  have T0 := hT.below hB b0
  have hB0 := Nat.le_trans hB b0.size
  have hcn : c.cnt < 1152921504606846976 := by have := hm.cnt; omega
  have hNg : w.heap.size ≠ g := by have := h.ch.lt; omega
  have hNr : w.heap.size ≠ r := by have := h.rf.lt; omega
  have hNv : ¬ CBlk g v w.heap.size := fun x => by
    rcases x with x | x
    · exact hNg x
    · have := (h.ch.lts _ x).2; omega
  have HW := hid hW0
  have M := hid hm
  have Hev := hid (hm.evOk (by omega))
  have hstep : Hid (stepD c ⟨1, at', nn, what, who⟩ = ancC c) := rfl
  have C1 := hid (anchor_any H0.ch hm.ok hcn)
  obtain ⟨Z, hZ⟩ : ∃ Z, Z = bvs zero32 := ⟨_, rfl⟩
  have zh := (zero_of_info zero_hash).1
  rw [show bvs (List.replicate 32 0) = Z from hZ.symm] at zh
  have HZ := hid hZ
  obtain ⟨O, hO⟩ : ∃ O, O = bvs c.hd := ⟨_, rfl⟩
  have hlh := hm.ok.lh
  obtain ⟨m, hmm⟩ : ∃ m, m = c.cnt := ⟨_, rfl⟩
  rw [← hO, ← hmm] at C1
  have HO := hid hO
  have Hmm := hid hmm
  have hSt : ∀ W : World, (storeH (.pointer (some ⟨W.heap.size, 0, none⟩)) (.agg O)).run Tryd.prog (W.alloc (.cells Z 49)) = .ok () (W.alloc (.cells O 49)) := fun W => by
    have := storeH_new W c.hd zero32 hlh (by decide)
    rw [← hO, show bvs zero32 = Z from hZ.symm] at this
    exact this
  have heq : ∀ W, (Op.equalIn 10000 49 (.agg O) (.agg O)).run Tryd.prog W = .ok true W := fun W => by
    rw [hO, hash_eq (a := c.hd) (b := c.hd) ⟨rfl, hlh⟩ ⟨rfl, hlh⟩]
    simp
  have HH0 := hid H0
  have HB0 := hid b0
  clear hW0 hm hZ hO hmm d0 H0 T0 b0 h hT
  go_enter Tryd.func16, Tryd.ntmps16
  go_wp2_with fail
  rw [show w.alloc (.cells #[.int .i64 1, .int .i64 at', .int .i64 nn, .string what, .string who] 30) = W0 from HW.out.symm]
  refine C1.out.mono ?_
  rintro _ w1 ⟨rfl, h1, o1⟩
  have hm1 := HH0.out.mid h1 (o1.imp (fun _ _ x => .inl x)) (fun k hk => .inl hk)
  have bb1 : Below B W0 w1 := o1.below hB0 (fun k hk => by rw [hk]; exact HH0.out.ch.bg)
  obtain ⟨w1a, hw1a⟩ : ∃ W, W = w1.alloc (.cells O 49) := ⟨_, rfl⟩
  have b1a : Below w1.heap.size w1 w1a := by rw [hw1a]; exact (Below.refl _ w1).alloc (Nat.le_refl _) _
  have x1 : w1a.heap[w1.heap.size]? = some (.cells O 49 (0, 0)) := by rw [hw1a]; exact heap_alloc_new w1 _
  have hB1 : B ≤ w1.heap.size := Nat.le_trans hB0 bb1.size
  have C2 := hid (rAnchor_any (hm1.1.below b1a) M.out.ok hcn)
  rw [← HO.out, ← Hmm.out] at C2
  have Hm1 := hid hm1
  have H1 := hid h1
  have BB1 := hid bb1
  have B1a := hid b1a
  have X1 := hid x1
  have HW1 := hid hw1a
  clear h1 o1 hm1 bb1 b1a x1 hw1a C1
  go_wp2_with fail
  rw [show w1.alloc (.cells O 49) = w1a from HW1.out.symm]
  refine C2.out.mono ?_
  rintro _ w2 ⟨rfl, h2, o2⟩
  have hpair := pair_end (H1.out.below B1a.out) (Hm1.out.1.below B1a.out) Hm1.out.2 h2 o2 (fun k hk => .inl hk)
  have hE1r : w1.heap.size ≠ r := by have := Hm1.out.1.lt; omega
  have x2 := (o2.block _ (heap_lt X1.out) hE1r).trans X1.out
  have hr := Hm1.out.1.bg
  have bb2 : Below B w1a w2 := o2.below (Nat.le_trans hB1 B1a.out.size) (fun k hk => by rw [hk]; exact hr)
  obtain ⟨w3, hw3⟩ : ∃ W, W = w2.alloc (.cells O 49) := ⟨_, rfl⟩
  have b3 : Below w2.heap.size w2 w3 := by rw [hw3]; exact (Below.refl _ w2).alloc (Nat.le_refl _) _
  have y1 := (b3.block _ (heap_lt x2)).trans x2
  have y2 : w3.heap[w2.heap.size]? = some (.cells O 49 (0, 0)) := by rw [hw3]; exact heap_alloc_new w2 _
  have hL1 : (loadH (.pointer (some ⟨w1.heap.size, 0, none⟩))).run Tryd.prog w3 = .ok (.agg O) w3 := loadH_run (l := c.hd) ⟨HO.out, hlh⟩ y1
  have hL2 : (loadH (.pointer (some ⟨w2.heap.size, 0, none⟩))).run Tryd.prog w3 = .ok (.agg O) w3 := loadH_run (l := c.hd) ⟨HO.out, hlh⟩ y2
  have hfin : Hid (DoPost w B g r c ⟨1, at', nn, what, who⟩ (.returned (.bool true)) w3) := ⟨rfl, ⟨v, u, by rw [hstep.out]; exact hpair.below b3⟩, ((((HB0.out.mono hB).trans BB1.out).trans (B1a.out.mono hB1)).trans bb2).trans (b3.mono (Nat.le_trans (Nat.le_trans hB1 B1a.out.size) bb2.size))⟩
  rw [hw3] at hL1 hL2 hfin
  clear h2 o2 hpair y1 y2 x2 bb2 b3 hw3 C2 H1 Hm1 BB1 B1a X1 HW1 hE1r hr
  go_wp2
  go_ret
  exact hfin.out

theorem do_any {w : World} {B g r : Nat} {v u : Value} {c : Ch} {n : Nat} (h : Pair w B g r v u c) (hm : Made c n) (hn : n ≤ 1000) (hT : Tabs w B) (hB : B ≤ w.heap.size) (q : ADeed) (s1 : q.what.size ≤ 9223372036854775807) (s2 : q.who.size ≤ 9223372036854775807) :
    Calls Tryd.prog 16 #[.pointer (some ⟨g, 0, none⟩), .pointer (some ⟨r, 0, none⟩), .agg q.vals.toArray] w (DoPost w B g r c q) := by
  obtain ⟨kd, at', nn, what, who⟩ := q
  by_cases h0 : kd = 0
  · subst h0; exact do_add h hm hn hT hB at' nn what who s1 s2
  · by_cases h1 : kd = 1
    · subst h1; exact do_anc h hm hn hT hB at' nn what who
    · by_cases h2 : kd = 2
      · subst h2; exact do_pru h hm hn hT hB at' nn what who
      · exact do_ver h hm hn hT hB kd at' nn what who h0 h1 h2
end Go.Proofs.YtbfoigppcbmikaaDoor

/- What an argument that is a row of deeds gives to a walk. -/
namespace Go.Proofs.YtbfoigppcbmikaaDoor
open Go.RowKit
open Go.ChangeShapes Go.WideShapes Go.ChangeAt Go.Deep
set_option linter.unusedVariables false
set_option maxRecDepth 20000

/-- deeds that lie in a row -/
structure ADs (w : World) (a : Option Addr) (l : List ADeed) : Prop where
  cells : ∀ i (h : i < l.length), ∃ b o, a = some ⟨b, o, none⟩ ∧ b < w.heap.size ∧ w.rangeAt b (o + i * 5) l[i].vals
  sizes : ∀ q ∈ l, q.what.size ≤ 9223372036854775807 ∧ q.who.size ≤ 9223372036854775807
  len : l.length ≤ 9223372036854775807
theorem ADs.below {w w' : World} {a : Option Addr} {l : List ADeed} {B : Nat} (h : ADs w a l) (hB : B = w.heap.size) (hb : Below B w w') : ADs w' a l := by
  subst hB
  refine ⟨fun i hi => ?_, h.sizes, h.len⟩
  obtain ⟨b, o, e, hlt, hr⟩ := h.cells i hi
  exact ⟨b, o, e, Nat.lt_of_lt_of_le hlt hb.size, fun j u hj => (hb.cell (p := ⟨b, o + i * 5 + j, none⟩) hlt).trans (hr j u hj)⟩
theorem addr_addA (b o j : Nat) : (⟨b, o, none⟩ : Addr).add j = ⟨b, o + j, none⟩ := by unfold Addr.add; split <;> simp_all
theorem list5A {α : Type} {l : List α} (h : l.length = 5) : ∃ a b c d e, l = [a, b, c, d, e] := by
  match l, h with
  | [a, b, c, d, e], _ => exact ⟨a, b, c, d, e, rfl⟩
theorem choose_ltA {β : Type} [Inhabited β] {n : Nat} {P : Nat → β → Prop} (h : ∀ i, i < n → ∃ b, P i b) : ∃ f : Nat → β, ∀ i, i < n → P i (f i) := by
  classical
  refine ⟨fun i => if hi : i < n then Classical.choose (h i hi) else default, fun i hi => ?_⟩
  simp only [hi, dif_pos]
  exact Classical.choose_spec (h i hi)
theorem cellsAD : Tryd.prog.cellsOf 30 = 5 := by kernel_rfl
theorem open_adeeds {H : Type} {enc : TypeId × Value → H} {W : World} {a : Option Addr} {len cap : Nat} {d : DataW H} {p : List MemPlace}
    (h : DataW.Trod enc Tryd.prog W 0 (fun _ => true) true 22 (.slice a len cap) d p) : ∃ l : List ADeed, l.length = len ∧ ADs W a l := by
  obtain ⟨fuel, hf⟩ := h
  rcases open_slice Tryd.underlying22 hf with ⟨hcs, _⟩ | ⟨x, l', c', m, n, D, Pl, hcs, hb, hl, hm, hmm, _, hx⟩
  · simp [Value.cells] at hcs
    obtain ⟨rfl, rfl, rfl⟩ := hcs
    exact ⟨[], rfl, fun i hi => by simp at hi, fun x hx => by simp at hx, by simp⟩
  · simp [Value.cells] at hcs
    obtain ⟨rfl, rfl, rfl⟩ := hcs
    simp only [if_true] at hmm
    rw [cellsAD] at hx
    have each : ∀ i, i < len → ∃ q : ADeed, (∃ b o, x = ⟨b, o, none⟩ ∧ b < W.heap.size ∧ W.rangeAt b (o + i * 5) q.vals) ∧ q.what.size ≤ 9223372036854775807 ∧ q.who.size ≤ 9223372036854775807 := by
      intro i hi
      obtain ⟨cs', h1, h2⟩ := hx i (by omega)
      obtain ⟨_, hlen, hcell⟩ := World.cells?_some h1
      obtain ⟨xs, k, hk, hxy, _, hxl, hf⟩ := DataW.trod_struct Tryd.underlying30 h2
      obtain ⟨v0, v1, v2, v3, v4, rfl⟩ := list5A hlen
      have g0 := hf 0 _ rfl
      have g1 := hf 1 _ rfl
      have g2 := hf 2 _ rfl
      have g3 := hf 3 _ rfl
      have g4 := hf 4 _ rfl
      have s0 : Tryd.prog.cellsOf 3 = 1 := by kernel_rfl
      have s1 : Tryd.prog.cellsOf 9 = 1 := by kernel_rfl
      simp [s0, s1] at g0 g1 g2 g3 g4
      obtain ⟨y0, q0⟩ : ∃ y, DataW.trod enc Tryd.prog W 0 (fun _ => true) true k 3 [v0] = some y := ⟨_, g0.trans (List.getElem?_eq_getElem (by rw [hxl]; decide))⟩
      obtain ⟨y1, q1⟩ : ∃ y, DataW.trod enc Tryd.prog W 0 (fun _ => true) true k 3 [v1] = some y := ⟨_, g1.trans (List.getElem?_eq_getElem (by rw [hxl]; decide))⟩
      obtain ⟨y2, q2⟩ : ∃ y, DataW.trod enc Tryd.prog W 0 (fun _ => true) true k 3 [v2] = some y := ⟨_, g2.trans (List.getElem?_eq_getElem (by rw [hxl]; decide))⟩
      obtain ⟨y3, q3⟩ : ∃ y, DataW.trod enc Tryd.prog W 0 (fun _ => true) true k 9 [v3] = some y := ⟨_, g3.trans (List.getElem?_eq_getElem (by rw [hxl]; decide))⟩
      obtain ⟨y4, q4⟩ : ∃ y, DataW.trod enc Tryd.prog W 0 (fun _ => true) true k 9 [v4] = some y := ⟨_, g4.trans (List.getElem?_eq_getElem (by rw [hxl]; decide))⟩
      obtain ⟨n0, e0, _, _⟩ := DataW.trod_int Tryd.underlying3 q0
      obtain ⟨n1, e1, _, _⟩ := DataW.trod_int Tryd.underlying3 q1
      obtain ⟨n2, e2, _, _⟩ := DataW.trod_int Tryd.underlying3 q2
      obtain ⟨n3, e3, _, k3⟩ := DataW.trod_string Tryd.underlying9 q3
      obtain ⟨n4, e4, _, k4⟩ := DataW.trod_string Tryd.underlying9 q4
      simp only [List.cons.injEq, and_true] at e0 e1 e2 e3 e4
      subst e0 e1 e2 e3 e4
      obtain ⟨bb, o, spot⟩ := x
      have hspot : spot = none := by
        obtain ⟨cs0, z1, _⟩ := hx 0 (by omega)
        obtain ⟨_, zl, zc⟩ := World.cells?_some z1
        have := (zc 0 (by omega)).trans (List.getElem?_eq_getElem (by omega))
        simpa [Addr.add] using World.cell?_spot this
      subst hspot
      refine ⟨⟨n0, n1, n2, n3, n4⟩, ⟨bb, o, rfl, ?_, fun j u hj => ?_⟩, k3, k4⟩
      · have c0 := hcell 0 (by omega)
        rw [Deep.add_add, addr_addA] at c0
        exact World.block_lt_of_cell? _ _ (c0.trans rfl)
      · have hj5 : j < 5 := (List.getElem?_eq_some_iff.1 hj).1
        have c0 := hcell j hj5
        rw [Deep.add_add, addr_addA] at c0
        rw [Nat.add_assoc, c0]
        exact hj
    have hinh : Inhabited ADeed := ⟨⟨0, 0, 0, ⟨#[]⟩, ⟨#[]⟩⟩⟩
    obtain ⟨q, hq⟩ := choose_ltA each
    refine ⟨(List.range len).map q, by simp, fun i hi => ?_, fun y hy => ?_, by have h9 : maxLen = 9223372036854775807 := (by decide); rw [List.length_map, List.length_range]; omega⟩
    · have hi' : i < len := by simpa using hi
      obtain ⟨⟨b, o, e, hlt, hr⟩, _⟩ := hq i hi'
      exact ⟨b, o, by rw [e], hlt, by simpa using hr⟩
    · obtain ⟨i, hi, rfl⟩ := List.mem_map.1 hy
      exact (hq i (List.mem_range.1 hi)).2
end Go.Proofs.YtbfoigppcbmikaaDoor

/- AuditOrder's last region, over a frame that is a letter. -/
namespace Go.Proofs.YtbfoigppcbmikaaDoor
open Go.RowKit
set_option linter.unusedVariables false
set_option maxRecDepth 20000
theorem wanted_f {ops : Array Oper} {op : Oper} {a : Act} {i d : Nat} {b : Bool} (hg : op.guard = some (i, false)) (hd : (ops[i]?).bind (·.dst) = some d) (hsz : d < a.tmps.size) (he : a.eval (.tmp d) = .bool b) : Region.wanted op (yielded ops a.tmps) = !b := by
  have h1 : a.tmps[d]? = some (.bool b) := by
    have : a.tmps.getD d undef = .bool b := he
    simp [hsz] at this
    rw [Array.getElem?_eq_getElem hsz, this]
  unfold Region.wanted yielded
  simp only [hg, hd, Option.bind_some, h1]
  cases b <;> rfl
section
variable {ops : Array Oper} {S : World → Prop} {op : Oper} {a : Act}
theorem y_leqT (hw : Region.wanted op (yielded ops a.tmps) = true) (x y : Operand) (ho : op.op = .binOp .leq 3 x y 3) (p q : Nat) (hpq : p ≤ q) (hx : a.eval x = .int .i64 (p : Int)) (hy : a.eval y = .int .i64 (q : Int)) : YieldsIf Tryd.prog ops S op (.bool true) a := by
  refine .inl ⟨hw, fun w _ => ?_⟩
  have h1 : (p : Int) ≤ (q : Int) := by omega
  unfold execOp
  simp only [ho, hx, hy]
  simp [go_sem, h1]
theorem y_evo0 (hw : Region.wanted op (yielded ops a.tmps) = true) (x : Operand) (ho : op.op = .fieldAddr 59 x 0) (g o : Nat) (hx : a.eval x = .pointer (some ⟨g, o, none⟩)) : YieldsIf Tryd.prog ops S op (.pointer (some ⟨g, o, none⟩)) a := by
  refine .inl ⟨hw, fun w _ => ?_⟩
  unfold execOp
  simp only [ho, hx]
  simp [go_sem]
end
noncomputable def codeOrd : Code := ((Tryd.f9.body.bind (regionAt 15)).getD .skip)
set_option maxHeartbeats 4000000 in
theorem order_none {V0 W5 : World} {B g c6 : Nat} {a6 : Option Addr} {v : Value} {c : Ch} {A : Act} (sz : A.tmps.size = 101) (e3 : A.eval (.tmp 3) = .pointer (some ⟨g, 0, none⟩)) (e6 : A.eval (.tmp 6) = .slice a6 0 c6) (e8 : A.eval (.tmp 8) = .int .i64 (c.an : Int))
    (hV0 : V0 = W5.drew) (hs0 : ChAt V0 B g v c ∧ True) (ok : ChOk c) (hc : c.cnt < 1152921504606846976) (hanc : c.an ≤ c.cnt) :
    codeOrd.wp Tryd.prog (fun x a V => x = .normal ∧ a = (((((((((((((((((((((((((((A.put (some 75) (.slice a6 0 c6)).put (some 76) (.int .i64 ((0 : Nat) : Int))).put (some 77) (.bool true)).put (some 78) (.bool true)).put (some 79) (.slice a6 0 c6)).put (some 80) (.int .i64 ((0 : Nat) : Int))).put (some 81) (.bool true)).put (some 82) (.bool true)).put (some 83) (undef)).put (some 84) (undef)).put (some 85) (undef)).put (some 86) (undef)).put (some 87) (undef)).put (some 88) (undef)).put (some 89) (undef)).put (some 90) (undef)).put (some 91) (undef)).put (some 92) (undef)).put (some 93) (.bool true)).put (some 94) (.bool true)).put (some 95) (.bool true)).put (some 96) (.int .i64 (c.an : Int))).put (some 97) (.pointer (some ⟨g, 0, none⟩))).put (some 98) (.int .i64 (c.cnt : Int))).put (some 99) (.bool true)).put (some 100) (.bool true)).put (some 2) (.bool true)) ∧ Below V0.heap.size V0 V) A W5 := by
  have hm : Tryd.prog.follows .mixedOrders = true := by kernel_rfl
  unfold codeOrd
  conv => arg 2; whnf
  refine wp_region_held (S := fun V => ChAt V B g v c ∧ True) hm ?_
  rw [show ({ W5 with drawn := W5.drawn + 1 } : World) = V0 from hV0.symm]
  refine wpAnyH_take (i := 0) (v := .slice a6 0 c6) rfl (by kernel_rfl) (by kernel_rfl) (by kernel_rfl) (fun _ _ _ h => nomatch h.1) (yields_move (by simp [Region.wanted]) (.tmp 6) rfl _ e6) hs0 ?_
  show wpAnyH _ _ _ _ _ _ _ (A.put (some 75) (.slice a6 0 c6)) _
  refine wpAnyH_take (i := 1) (v := .int .i64 ((0 : Nat) : Int)) rfl (by kernel_rfl) (by kernel_rfl) (by kernel_rfl) (fun _ _ _ h => nomatch h.1) (y_lenE (by simp [Region.wanted]) 75 rfl rfl _ _ _ (ev_eq _ _ (by simp [sz]))) hs0 ?_
  show wpAnyH _ _ _ _ _ _ _ ((A.put (some 75) (.slice a6 0 c6)).put (some 76) (.int .i64 ((0 : Nat) : Int))) _
  refine wpAnyH_take (i := 2) (v := .bool true) rfl (by kernel_rfl) (by kernel_rfl) (by kernel_rfl) (fun _ _ _ h => nomatch h.1) (y_leqT (by simp [Region.wanted]) (.tmp 76) (.const (.int .i64 64)) rfl 0 64 (by omega) (ev_eq _ _ (by simp [put_sz, sz])) rfl) hs0 ?_
  show wpAnyH _ _ _ _ _ _ _ (((A.put (some 75) (.slice a6 0 c6)).put (some 76) (.int .i64 ((0 : Nat) : Int))).put (some 77) (.bool true)) _
  refine wpAnyH_take (i := 3) (v := .bool true) rfl (by kernel_rfl) (by kernel_rfl) (by kernel_rfl) (fun _ _ _ h => nomatch h.1) (yields_move (by simp [Region.wanted]) (.tmp 77) rfl _ (ev_eq _ _ (by simp [put_sz, sz]))) hs0 ?_
  show wpAnyH _ _ _ _ _ _ _ ((((A.put (some 75) (.slice a6 0 c6)).put (some 76) (.int .i64 ((0 : Nat) : Int))).put (some 77) (.bool true)).put (some 78) (.bool true)) _
  refine wpAnyH_take (i := 4) (v := .slice a6 0 c6) rfl (by kernel_rfl) (by kernel_rfl) (by kernel_rfl) (fun _ _ _ h => nomatch h.1) (yields_move (wanted_g (i := 3) (d := 78) rfl rfl (by simp [put_sz, sz]) (ev_eq _ _ (by simp [put_sz, sz]))) (.tmp 6) rfl _ ((ev_ne _ _ (by decide)).trans ((ev_ne _ _ (by decide)).trans ((ev_ne _ _ (by decide)).trans ((ev_ne _ _ (by decide)).trans e6))))) hs0 ?_
  show wpAnyH _ _ _ _ _ _ _ (((((A.put (some 75) (.slice a6 0 c6)).put (some 76) (.int .i64 ((0 : Nat) : Int))).put (some 77) (.bool true)).put (some 78) (.bool true)).put (some 79) (.slice a6 0 c6)) _
  refine wpAnyH_take (i := 5) (v := .int .i64 ((0 : Nat) : Int)) rfl (by kernel_rfl) (by kernel_rfl) (by kernel_rfl) (fun _ _ _ h => nomatch h.1) (y_lenE (wanted_g (i := 3) (d := 78) rfl rfl (by simp [put_sz, sz]) ((ev_ne _ _ (by decide)).trans (ev_eq _ _ (by simp [put_sz, sz])))) 79 rfl rfl _ _ _ (ev_eq _ _ (by simp [put_sz, sz]))) hs0 ?_
  show wpAnyH _ _ _ _ _ _ _ ((((((A.put (some 75) (.slice a6 0 c6)).put (some 76) (.int .i64 ((0 : Nat) : Int))).put (some 77) (.bool true)).put (some 78) (.bool true)).put (some 79) (.slice a6 0 c6)).put (some 80) (.int .i64 ((0 : Nat) : Int))) _
  refine wpAnyH_take (i := 6) (v := .bool true) rfl (by kernel_rfl) (by kernel_rfl) (by kernel_rfl) (fun _ _ _ h => nomatch h.1) (y_eqlB (wanted_g (i := 3) (d := 78) rfl rfl (by simp [put_sz, sz]) ((ev_ne _ _ (by decide)).trans ((ev_ne _ _ (by decide)).trans (ev_eq _ _ (by simp [put_sz, sz]))))) (.tmp 80) (.const (.int .i64 0)) rfl _ 0 true rfl (ev_eq _ _ (by simp [put_sz, sz])) rfl) hs0 ?_
  show wpAnyH _ _ _ _ _ _ _ (((((((A.put (some 75) (.slice a6 0 c6)).put (some 76) (.int .i64 ((0 : Nat) : Int))).put (some 77) (.bool true)).put (some 78) (.bool true)).put (some 79) (.slice a6 0 c6)).put (some 80) (.int .i64 ((0 : Nat) : Int))).put (some 81) (.bool true)) _
  refine wpAnyH_take (i := 7) (v := .bool true) rfl (by kernel_rfl) (by kernel_rfl) (by kernel_rfl) (fun _ _ _ h => nomatch h.1) (yields_move (wanted_g (i := 3) (d := 78) rfl rfl (by simp [put_sz, sz]) ((ev_ne _ _ (by decide)).trans ((ev_ne _ _ (by decide)).trans ((ev_ne _ _ (by decide)).trans (ev_eq _ _ (by simp [put_sz, sz])))))) (.tmp 81) rfl _ (ev_eq _ _ (by simp [put_sz, sz]))) hs0 ?_
  show wpAnyH _ _ _ _ _ _ _ ((((((((A.put (some 75) (.slice a6 0 c6)).put (some 76) (.int .i64 ((0 : Nat) : Int))).put (some 77) (.bool true)).put (some 78) (.bool true)).put (some 79) (.slice a6 0 c6)).put (some 80) (.int .i64 ((0 : Nat) : Int))).put (some 81) (.bool true)).put (some 82) (.bool true)) _
  refine wpAnyH_take (i := 8) (v := undef) rfl (by kernel_rfl) (by kernel_rfl) (by kernel_rfl) (fun _ _ _ h => nomatch h.1) (y_skip (wanted_f (i := 7) (d := 82) rfl rfl (by simp [put_sz, sz]) (ev_eq _ _ (by simp [put_sz, sz])))) hs0 ?_
  show wpAnyH _ _ _ _ _ _ _ (((((((((A.put (some 75) (.slice a6 0 c6)).put (some 76) (.int .i64 ((0 : Nat) : Int))).put (some 77) (.bool true)).put (some 78) (.bool true)).put (some 79) (.slice a6 0 c6)).put (some 80) (.int .i64 ((0 : Nat) : Int))).put (some 81) (.bool true)).put (some 82) (.bool true)).put (some 83) (undef)) _
  refine wpAnyH_take (i := 9) (v := undef) rfl (by kernel_rfl) (by kernel_rfl) (by kernel_rfl) (fun _ _ _ h => nomatch h.1) (y_skip (wanted_f (i := 7) (d := 82) rfl rfl (by simp [put_sz, sz]) ((ev_ne _ _ (by decide)).trans (ev_eq _ _ (by simp [put_sz, sz]))))) hs0 ?_
  show wpAnyH _ _ _ _ _ _ _ ((((((((((A.put (some 75) (.slice a6 0 c6)).put (some 76) (.int .i64 ((0 : Nat) : Int))).put (some 77) (.bool true)).put (some 78) (.bool true)).put (some 79) (.slice a6 0 c6)).put (some 80) (.int .i64 ((0 : Nat) : Int))).put (some 81) (.bool true)).put (some 82) (.bool true)).put (some 83) (undef)).put (some 84) (undef)) _
  refine wpAnyH_take (i := 10) (v := undef) rfl (by kernel_rfl) (by kernel_rfl) (by kernel_rfl) (fun _ _ _ h => nomatch h.1) (y_skip (wanted_f (i := 7) (d := 82) rfl rfl (by simp [put_sz, sz]) ((ev_ne _ _ (by decide)).trans ((ev_ne _ _ (by decide)).trans (ev_eq _ _ (by simp [put_sz, sz])))))) hs0 ?_
  show wpAnyH _ _ _ _ _ _ _ (((((((((((A.put (some 75) (.slice a6 0 c6)).put (some 76) (.int .i64 ((0 : Nat) : Int))).put (some 77) (.bool true)).put (some 78) (.bool true)).put (some 79) (.slice a6 0 c6)).put (some 80) (.int .i64 ((0 : Nat) : Int))).put (some 81) (.bool true)).put (some 82) (.bool true)).put (some 83) (undef)).put (some 84) (undef)).put (some 85) (undef)) _
  refine wpAnyH_take (i := 11) (v := undef) rfl (by kernel_rfl) (by kernel_rfl) (by kernel_rfl) (fun _ _ _ h => nomatch h.1) (y_skip (wanted_f (i := 7) (d := 82) rfl rfl (by simp [put_sz, sz]) ((ev_ne _ _ (by decide)).trans ((ev_ne _ _ (by decide)).trans ((ev_ne _ _ (by decide)).trans (ev_eq _ _ (by simp [put_sz, sz]))))))) hs0 ?_
  show wpAnyH _ _ _ _ _ _ _ ((((((((((((A.put (some 75) (.slice a6 0 c6)).put (some 76) (.int .i64 ((0 : Nat) : Int))).put (some 77) (.bool true)).put (some 78) (.bool true)).put (some 79) (.slice a6 0 c6)).put (some 80) (.int .i64 ((0 : Nat) : Int))).put (some 81) (.bool true)).put (some 82) (.bool true)).put (some 83) (undef)).put (some 84) (undef)).put (some 85) (undef)).put (some 86) (undef)) _
  refine wpAnyH_take (i := 12) (v := undef) rfl (by kernel_rfl) (by kernel_rfl) (by kernel_rfl) (fun _ _ _ h => nomatch h.1) (y_skip (wanted_f (i := 7) (d := 82) rfl rfl (by simp [put_sz, sz]) ((ev_ne _ _ (by decide)).trans ((ev_ne _ _ (by decide)).trans ((ev_ne _ _ (by decide)).trans ((ev_ne _ _ (by decide)).trans (ev_eq _ _ (by simp [put_sz, sz])))))))) hs0 ?_
  show wpAnyH _ _ _ _ _ _ _ (((((((((((((A.put (some 75) (.slice a6 0 c6)).put (some 76) (.int .i64 ((0 : Nat) : Int))).put (some 77) (.bool true)).put (some 78) (.bool true)).put (some 79) (.slice a6 0 c6)).put (some 80) (.int .i64 ((0 : Nat) : Int))).put (some 81) (.bool true)).put (some 82) (.bool true)).put (some 83) (undef)).put (some 84) (undef)).put (some 85) (undef)).put (some 86) (undef)).put (some 87) (undef)) _
  refine wpAnyH_take (i := 13) (v := undef) rfl (by kernel_rfl) (by kernel_rfl) (by kernel_rfl) (fun _ _ _ h => nomatch h.1) (y_skip (wanted_f (i := 7) (d := 82) rfl rfl (by simp [put_sz, sz]) ((ev_ne _ _ (by decide)).trans ((ev_ne _ _ (by decide)).trans ((ev_ne _ _ (by decide)).trans ((ev_ne _ _ (by decide)).trans ((ev_ne _ _ (by decide)).trans (ev_eq _ _ (by simp [put_sz, sz]))))))))) hs0 ?_
  show wpAnyH _ _ _ _ _ _ _ ((((((((((((((A.put (some 75) (.slice a6 0 c6)).put (some 76) (.int .i64 ((0 : Nat) : Int))).put (some 77) (.bool true)).put (some 78) (.bool true)).put (some 79) (.slice a6 0 c6)).put (some 80) (.int .i64 ((0 : Nat) : Int))).put (some 81) (.bool true)).put (some 82) (.bool true)).put (some 83) (undef)).put (some 84) (undef)).put (some 85) (undef)).put (some 86) (undef)).put (some 87) (undef)).put (some 88) (undef)) _
  refine wpAnyH_take (i := 14) (v := undef) rfl (by kernel_rfl) (by kernel_rfl) (by kernel_rfl) (fun _ _ _ h => nomatch h.1) (y_skip (wanted_f (i := 7) (d := 82) rfl rfl (by simp [put_sz, sz]) ((ev_ne _ _ (by decide)).trans ((ev_ne _ _ (by decide)).trans ((ev_ne _ _ (by decide)).trans ((ev_ne _ _ (by decide)).trans ((ev_ne _ _ (by decide)).trans ((ev_ne _ _ (by decide)).trans (ev_eq _ _ (by simp [put_sz, sz])))))))))) hs0 ?_
  show wpAnyH _ _ _ _ _ _ _ (((((((((((((((A.put (some 75) (.slice a6 0 c6)).put (some 76) (.int .i64 ((0 : Nat) : Int))).put (some 77) (.bool true)).put (some 78) (.bool true)).put (some 79) (.slice a6 0 c6)).put (some 80) (.int .i64 ((0 : Nat) : Int))).put (some 81) (.bool true)).put (some 82) (.bool true)).put (some 83) (undef)).put (some 84) (undef)).put (some 85) (undef)).put (some 86) (undef)).put (some 87) (undef)).put (some 88) (undef)).put (some 89) (undef)) _
  refine wpAnyH_take (i := 15) (v := undef) rfl (by kernel_rfl) (by kernel_rfl) (by kernel_rfl) (fun _ _ _ h => nomatch h.1) (y_skip (wanted_f (i := 7) (d := 82) rfl rfl (by simp [put_sz, sz]) ((ev_ne _ _ (by decide)).trans ((ev_ne _ _ (by decide)).trans ((ev_ne _ _ (by decide)).trans ((ev_ne _ _ (by decide)).trans ((ev_ne _ _ (by decide)).trans ((ev_ne _ _ (by decide)).trans ((ev_ne _ _ (by decide)).trans (ev_eq _ _ (by simp [put_sz, sz]))))))))))) hs0 ?_
  show wpAnyH _ _ _ _ _ _ _ ((((((((((((((((A.put (some 75) (.slice a6 0 c6)).put (some 76) (.int .i64 ((0 : Nat) : Int))).put (some 77) (.bool true)).put (some 78) (.bool true)).put (some 79) (.slice a6 0 c6)).put (some 80) (.int .i64 ((0 : Nat) : Int))).put (some 81) (.bool true)).put (some 82) (.bool true)).put (some 83) (undef)).put (some 84) (undef)).put (some 85) (undef)).put (some 86) (undef)).put (some 87) (undef)).put (some 88) (undef)).put (some 89) (undef)).put (some 90) (undef)) _
  refine wpAnyH_take (i := 16) (v := undef) rfl (by kernel_rfl) (by kernel_rfl) (by kernel_rfl) (fun _ _ _ h => nomatch h.1) (y_skip (wanted_f (i := 7) (d := 82) rfl rfl (by simp [put_sz, sz]) ((ev_ne _ _ (by decide)).trans ((ev_ne _ _ (by decide)).trans ((ev_ne _ _ (by decide)).trans ((ev_ne _ _ (by decide)).trans ((ev_ne _ _ (by decide)).trans ((ev_ne _ _ (by decide)).trans ((ev_ne _ _ (by decide)).trans ((ev_ne _ _ (by decide)).trans (ev_eq _ _ (by simp [put_sz, sz])))))))))))) hs0 ?_
  show wpAnyH _ _ _ _ _ _ _ (((((((((((((((((A.put (some 75) (.slice a6 0 c6)).put (some 76) (.int .i64 ((0 : Nat) : Int))).put (some 77) (.bool true)).put (some 78) (.bool true)).put (some 79) (.slice a6 0 c6)).put (some 80) (.int .i64 ((0 : Nat) : Int))).put (some 81) (.bool true)).put (some 82) (.bool true)).put (some 83) (undef)).put (some 84) (undef)).put (some 85) (undef)).put (some 86) (undef)).put (some 87) (undef)).put (some 88) (undef)).put (some 89) (undef)).put (some 90) (undef)).put (some 91) (undef)) _
  refine wpAnyH_take (i := 17) (v := undef) rfl (by kernel_rfl) (by kernel_rfl) (by kernel_rfl) (fun _ _ _ h => nomatch h.1) (y_skip (wanted_f (i := 7) (d := 82) rfl rfl (by simp [put_sz, sz]) ((ev_ne _ _ (by decide)).trans ((ev_ne _ _ (by decide)).trans ((ev_ne _ _ (by decide)).trans ((ev_ne _ _ (by decide)).trans ((ev_ne _ _ (by decide)).trans ((ev_ne _ _ (by decide)).trans ((ev_ne _ _ (by decide)).trans ((ev_ne _ _ (by decide)).trans ((ev_ne _ _ (by decide)).trans (ev_eq _ _ (by simp [put_sz, sz]))))))))))))) hs0 ?_
  show wpAnyH _ _ _ _ _ _ _ ((((((((((((((((((A.put (some 75) (.slice a6 0 c6)).put (some 76) (.int .i64 ((0 : Nat) : Int))).put (some 77) (.bool true)).put (some 78) (.bool true)).put (some 79) (.slice a6 0 c6)).put (some 80) (.int .i64 ((0 : Nat) : Int))).put (some 81) (.bool true)).put (some 82) (.bool true)).put (some 83) (undef)).put (some 84) (undef)).put (some 85) (undef)).put (some 86) (undef)).put (some 87) (undef)).put (some 88) (undef)).put (some 89) (undef)).put (some 90) (undef)).put (some 91) (undef)).put (some 92) (undef)) _
  refine wpAnyH_take (i := 18) (v := .bool true) rfl (by kernel_rfl) (by kernel_rfl) (by kernel_rfl) (fun _ _ _ h => nomatch h.1) (y_pickT (wanted_g (i := 3) (d := 78) rfl rfl (by simp [put_sz, sz]) ((ev_ne _ _ (by decide)).trans ((ev_ne _ _ (by decide)).trans ((ev_ne _ _ (by decide)).trans ((ev_ne _ _ (by decide)).trans ((ev_ne _ _ (by decide)).trans ((ev_ne _ _ (by decide)).trans ((ev_ne _ _ (by decide)).trans ((ev_ne _ _ (by decide)).trans ((ev_ne _ _ (by decide)).trans ((ev_ne _ _ (by decide)).trans ((ev_ne _ _ (by decide)).trans ((ev_ne _ _ (by decide)).trans ((ev_ne _ _ (by decide)).trans ((ev_ne _ _ (by decide)).trans (ev_eq _ _ (by simp [put_sz, sz]))))))))))))))))) (.tmp 82) (.const (.bool true)) (.tmp 92) rfl _ ((ev_ne _ _ (by decide)).trans ((ev_ne _ _ (by decide)).trans ((ev_ne _ _ (by decide)).trans ((ev_ne _ _ (by decide)).trans ((ev_ne _ _ (by decide)).trans ((ev_ne _ _ (by decide)).trans ((ev_ne _ _ (by decide)).trans ((ev_ne _ _ (by decide)).trans ((ev_ne _ _ (by decide)).trans ((ev_ne _ _ (by decide)).trans (ev_eq _ _ (by simp [put_sz, sz])))))))))))) rfl) hs0 ?_
  show wpAnyH _ _ _ _ _ _ _ (((((((((((((((((((A.put (some 75) (.slice a6 0 c6)).put (some 76) (.int .i64 ((0 : Nat) : Int))).put (some 77) (.bool true)).put (some 78) (.bool true)).put (some 79) (.slice a6 0 c6)).put (some 80) (.int .i64 ((0 : Nat) : Int))).put (some 81) (.bool true)).put (some 82) (.bool true)).put (some 83) (undef)).put (some 84) (undef)).put (some 85) (undef)).put (some 86) (undef)).put (some 87) (undef)).put (some 88) (undef)).put (some 89) (undef)).put (some 90) (undef)).put (some 91) (undef)).put (some 92) (undef)).put (some 93) (.bool true)) _
  refine wpAnyH_take (i := 19) (v := .bool true) rfl (by kernel_rfl) (by kernel_rfl) (by kernel_rfl) (fun _ _ _ h => nomatch h.1) (y_pickT (by simp [Region.wanted]) (.tmp 78) (.tmp 93) (.const (.bool false)) rfl _ ((ev_ne _ _ (by decide)).trans ((ev_ne _ _ (by decide)).trans ((ev_ne _ _ (by decide)).trans ((ev_ne _ _ (by decide)).trans ((ev_ne _ _ (by decide)).trans ((ev_ne _ _ (by decide)).trans ((ev_ne _ _ (by decide)).trans ((ev_ne _ _ (by decide)).trans ((ev_ne _ _ (by decide)).trans ((ev_ne _ _ (by decide)).trans ((ev_ne _ _ (by decide)).trans ((ev_ne _ _ (by decide)).trans ((ev_ne _ _ (by decide)).trans ((ev_ne _ _ (by decide)).trans ((ev_ne _ _ (by decide)).trans (ev_eq _ _ (by simp [put_sz, sz]))))))))))))))))) (ev_eq _ _ (by simp [put_sz, sz]))) hs0 ?_
  show wpAnyH _ _ _ _ _ _ _ ((((((((((((((((((((A.put (some 75) (.slice a6 0 c6)).put (some 76) (.int .i64 ((0 : Nat) : Int))).put (some 77) (.bool true)).put (some 78) (.bool true)).put (some 79) (.slice a6 0 c6)).put (some 80) (.int .i64 ((0 : Nat) : Int))).put (some 81) (.bool true)).put (some 82) (.bool true)).put (some 83) (undef)).put (some 84) (undef)).put (some 85) (undef)).put (some 86) (undef)).put (some 87) (undef)).put (some 88) (undef)).put (some 89) (undef)).put (some 90) (undef)).put (some 91) (undef)).put (some 92) (undef)).put (some 93) (.bool true)).put (some 94) (.bool true)) _
  refine wpAnyH_take (i := 20) (v := .bool true) rfl (by kernel_rfl) (by kernel_rfl) (by kernel_rfl) (fun _ _ _ h => nomatch h.1) (yields_move (by simp [Region.wanted]) (.tmp 94) rfl _ (ev_eq _ _ (by simp [put_sz, sz]))) hs0 ?_
  show wpAnyH _ _ _ _ _ _ _ (((((((((((((((((((((A.put (some 75) (.slice a6 0 c6)).put (some 76) (.int .i64 ((0 : Nat) : Int))).put (some 77) (.bool true)).put (some 78) (.bool true)).put (some 79) (.slice a6 0 c6)).put (some 80) (.int .i64 ((0 : Nat) : Int))).put (some 81) (.bool true)).put (some 82) (.bool true)).put (some 83) (undef)).put (some 84) (undef)).put (some 85) (undef)).put (some 86) (undef)).put (some 87) (undef)).put (some 88) (undef)).put (some 89) (undef)).put (some 90) (undef)).put (some 91) (undef)).put (some 92) (undef)).put (some 93) (.bool true)).put (some 94) (.bool true)).put (some 95) (.bool true)) _
  obtain ⟨A3, hA3⟩ : ∃ A3, A3 = (((((((((((((((((((((A.put (some 75) (.slice a6 0 c6)).put (some 76) (.int .i64 ((0 : Nat) : Int))).put (some 77) (.bool true)).put (some 78) (.bool true)).put (some 79) (.slice a6 0 c6)).put (some 80) (.int .i64 ((0 : Nat) : Int))).put (some 81) (.bool true)).put (some 82) (.bool true)).put (some 83) (undef)).put (some 84) (undef)).put (some 85) (undef)).put (some 86) (undef)).put (some 87) (undef)).put (some 88) (undef)).put (some 89) (undef)).put (some 90) (undef)).put (some 91) (undef)).put (some 92) (undef)).put (some 93) (.bool true)).put (some 94) (.bool true)).put (some 95) (.bool true)) := ⟨_, rfl⟩
  have szA3 : A3.tmps.size = 101 := by rw [hA3]; simp [put_sz, sz]
  have eA33 : A3.eval (.tmp 3) = .pointer (some ⟨g, 0, none⟩) := by rw [hA3]; exact ((ev_ne _ _ (by decide)).trans ((ev_ne _ _ (by decide)).trans ((ev_ne _ _ (by decide)).trans ((ev_ne _ _ (by decide)).trans ((ev_ne _ _ (by decide)).trans ((ev_ne _ _ (by decide)).trans ((ev_ne _ _ (by decide)).trans ((ev_ne _ _ (by decide)).trans ((ev_ne _ _ (by decide)).trans ((ev_ne _ _ (by decide)).trans ((ev_ne _ _ (by decide)).trans ((ev_ne _ _ (by decide)).trans ((ev_ne _ _ (by decide)).trans ((ev_ne _ _ (by decide)).trans ((ev_ne _ _ (by decide)).trans ((ev_ne _ _ (by decide)).trans ((ev_ne _ _ (by decide)).trans ((ev_ne _ _ (by decide)).trans ((ev_ne _ _ (by decide)).trans ((ev_ne _ _ (by decide)).trans ((ev_ne _ _ (by decide)).trans e3)))))))))))))))))))))
  have eA38 : A3.eval (.tmp 8) = .int .i64 (c.an : Int) := by rw [hA3]; exact ((ev_ne _ _ (by decide)).trans ((ev_ne _ _ (by decide)).trans ((ev_ne _ _ (by decide)).trans ((ev_ne _ _ (by decide)).trans ((ev_ne _ _ (by decide)).trans ((ev_ne _ _ (by decide)).trans ((ev_ne _ _ (by decide)).trans ((ev_ne _ _ (by decide)).trans ((ev_ne _ _ (by decide)).trans ((ev_ne _ _ (by decide)).trans ((ev_ne _ _ (by decide)).trans ((ev_ne _ _ (by decide)).trans ((ev_ne _ _ (by decide)).trans ((ev_ne _ _ (by decide)).trans ((ev_ne _ _ (by decide)).trans ((ev_ne _ _ (by decide)).trans ((ev_ne _ _ (by decide)).trans ((ev_ne _ _ (by decide)).trans ((ev_ne _ _ (by decide)).trans ((ev_ne _ _ (by decide)).trans ((ev_ne _ _ (by decide)).trans e8)))))))))))))))))))))
  have eA395 : A3.eval (.tmp 95) = .bool true := by rw [hA3]; exact (ev_eq _ _ (by simp [put_sz, sz]))
  rw [← hA3]
  refine wpAnyH_take (i := 21) (v := .int .i64 (c.an : Int)) rfl (by kernel_rfl) (by kernel_rfl) (by kernel_rfl) (fun _ _ _ h => nomatch h.1) (yields_move (wanted_g (i := 20) (d := 95) rfl rfl (by simp [szA3]) eA395) (.tmp 8) rfl _ eA38) hs0 ?_
  show wpAnyH _ _ _ _ _ _ _ (A3.put (some 96) (.int .i64 (c.an : Int))) _
  refine wpAnyH_take (i := 22) (v := .pointer (some ⟨g, 0, none⟩)) rfl (by kernel_rfl) (by kernel_rfl) (by kernel_rfl) (fun _ _ _ h => nomatch h.1) (yields_move (wanted_g (i := 20) (d := 95) rfl rfl (by simp [put_sz, szA3]) ((ev_ne _ _ (by decide)).trans eA395)) (.tmp 3) rfl _ ((ev_ne _ _ (by decide)).trans eA33)) hs0 ?_
  show wpAnyH _ _ _ _ _ _ _ ((A3.put (some 96) (.int .i64 (c.an : Int))).put (some 97) (.pointer (some ⟨g, 0, none⟩))) _
  refine wpAnyH_all (rs := [23]) (by kernel_rfl) (by simp) fun i1 hm1 => ?_
  obtain rfl : i1 = 23 := by simpa using hm1
  refine wpOp_own' rfl (wanted_g (i := 20) (d := 95) rfl rfl (by simp [put_sz, szA3]) ((ev_ne _ _ (by decide)).trans ((ev_ne _ _ (by decide)).trans eA395))) fun K1 hK1 => ?_
  refine wp_calls1 31 hf_count (.tmp 97) _ rfl (.pointer (some ⟨g, 0, none⟩)) (ev_eq _ _ (by simp [put_sz, szA3])) ?_
  refine (count_any hs0.1 ok hc).mono ?_
  rintro _ V2 ⟨rfl, hb2⟩
  have hs2 : ChAt V2 B g v c ∧ True := ⟨hs0.1.below hb2, trivial⟩
  refine ⟨_, rfl, hK1 _ _ ⟨hs2, ?_⟩⟩
  clear hK1 K1 hm1
  show wpAnyH _ _ _ _ _ _ _ (((A3.put (some 96) (.int .i64 (c.an : Int))).put (some 97) (.pointer (some ⟨g, 0, none⟩))).put (some 98) (.int .i64 (c.cnt : Int))) _
  refine wpAnyH_take (i := 24) (v := .bool true) rfl (by kernel_rfl) (by kernel_rfl) (by kernel_rfl) (fun _ _ _ h => nomatch h.1) (y_leqT (wanted_g (i := 20) (d := 95) rfl rfl (by simp [put_sz, szA3]) ((ev_ne _ _ (by decide)).trans ((ev_ne _ _ (by decide)).trans ((ev_ne _ _ (by decide)).trans eA395)))) (.tmp 96) (.tmp 98) rfl _ _ hanc ((ev_ne _ _ (by decide)).trans ((ev_ne _ _ (by decide)).trans (ev_eq _ _ (by simp [szA3])))) (ev_eq _ _ (by simp [put_sz, szA3]))) hs2 ?_
  show wpAnyH _ _ _ _ _ _ _ ((((A3.put (some 96) (.int .i64 (c.an : Int))).put (some 97) (.pointer (some ⟨g, 0, none⟩))).put (some 98) (.int .i64 (c.cnt : Int))).put (some 99) (.bool true)) _
  refine wpAnyH_take (i := 25) (v := .bool true) rfl (by kernel_rfl) (by kernel_rfl) (by kernel_rfl) (fun _ _ _ h => nomatch h.1) (y_pickT (by simp [Region.wanted]) (.tmp 95) (.tmp 99) (.const (.bool false)) rfl _ ((ev_ne _ _ (by decide)).trans ((ev_ne _ _ (by decide)).trans ((ev_ne _ _ (by decide)).trans ((ev_ne _ _ (by decide)).trans eA395)))) (ev_eq _ _ (by simp [put_sz, szA3]))) hs2 ?_
  show wpAnyH _ _ _ _ _ _ _ (((((A3.put (some 96) (.int .i64 (c.an : Int))).put (some 97) (.pointer (some ⟨g, 0, none⟩))).put (some 98) (.int .i64 (c.cnt : Int))).put (some 99) (.bool true)).put (some 100) (.bool true)) _
  refine wpAnyH_take (i := 26) (v := .bool true) rfl (by kernel_rfl) (by kernel_rfl) (by kernel_rfl) (fun _ _ _ h => nomatch h.1) (y_assign (by simp [Region.wanted]) (.tmp 100) rfl _ (ev_eq _ _ (by simp [put_sz, szA3]))) hs2 ?_
  show wpAnyH _ _ _ _ _ _ _ ((((((A3.put (some 96) (.int .i64 (c.an : Int))).put (some 97) (.pointer (some ⟨g, 0, none⟩))).put (some 98) (.int .i64 (c.cnt : Int))).put (some 99) (.bool true)).put (some 100) (.bool true)).put (some 2) (.bool true)) _
  exact wpAnyH_done (by kernel_rfl) ⟨rfl, by rw [hA3], hb2⟩ _
set_option maxHeartbeats 4000000 in
theorem order_some {V0 W5 : World} {B g c6 b n0 : Nat} {v : Value} {c : Ch} {A : Act} (sz : A.tmps.size = 101) (e3 : A.eval (.tmp 3) = .pointer (some ⟨g, 0, none⟩)) (e6 : A.eval (.tmp 6) = .slice (some ⟨b, 0, none⟩) (n0 + 1) c6) (e8 : A.eval (.tmp 8) = .int .i64 (c.an : Int))
    (hV0 : V0 = W5.drew) (hs0 : ChAt V0 B g v c ∧ V0.cell? ⟨b, n0 * 4, none⟩ = some (.int .i64 (c.cnt : Int))) (ok : ChOk c) (hc : c.cnt < 1152921504606846976) (hanc : c.an ≤ c.cnt) (hn0 : n0 < 64) :
    codeOrd.wp Tryd.prog (fun x a V => x = .normal ∧ a = (((((((((((((((((((((((((((A.put (some 75) (.slice (some ⟨b, 0, none⟩) (n0 + 1) c6)).put (some 76) (.int .i64 ((n0 + 1 : Nat) : Int))).put (some 77) (.bool true)).put (some 78) (.bool true)).put (some 79) (.slice (some ⟨b, 0, none⟩) (n0 + 1) c6)).put (some 80) (.int .i64 ((n0 + 1 : Nat) : Int))).put (some 81) (.bool false)).put (some 82) (.bool false)).put (some 83) (.slice (some ⟨b, 0, none⟩) (n0 + 1) c6)).put (some 84) (.slice (some ⟨b, 0, none⟩) (n0 + 1) c6)).put (some 85) (.int .i64 ((n0 + 1 : Nat) : Int))).put (some 86) (.int .i64 (n0 : Int))).put (some 87) (.pointer (some ⟨b, n0 * 4, none⟩))).put (some 88) (.pointer (some ⟨b, n0 * 4, none⟩))).put (some 89) (.int .i64 (c.cnt : Int))).put (some 90) (.pointer (some ⟨g, 0, none⟩))).put (some 91) (.int .i64 (c.cnt : Int))).put (some 92) (.bool true)).put (some 93) (.bool true)).put (some 94) (.bool true)).put (some 95) (.bool true)).put (some 96) (.int .i64 (c.an : Int))).put (some 97) (.pointer (some ⟨g, 0, none⟩))).put (some 98) (.int .i64 (c.cnt : Int))).put (some 99) (.bool true)).put (some 100) (.bool true)).put (some 2) (.bool true)) ∧ Below V0.heap.size V0 V) A W5 := by
  have hm : Tryd.prog.follows .mixedOrders = true := by kernel_rfl
  unfold codeOrd
  conv => arg 2; whnf
  refine wp_region_held (S := fun V => ChAt V B g v c ∧ V.cell? ⟨b, n0 * 4, none⟩ = some (.int .i64 (c.cnt : Int))) hm ?_
  rw [show ({ W5 with drawn := W5.drawn + 1 } : World) = V0 from hV0.symm]
  refine wpAnyH_take (i := 0) (v := .slice (some ⟨b, 0, none⟩) (n0 + 1) c6) rfl (by kernel_rfl) (by kernel_rfl) (by kernel_rfl) (fun _ _ _ h => nomatch h.1) (yields_move (by simp [Region.wanted]) (.tmp 6) rfl _ e6) hs0 ?_
  show wpAnyH _ _ _ _ _ _ _ (A.put (some 75) (.slice (some ⟨b, 0, none⟩) (n0 + 1) c6)) _
  refine wpAnyH_take (i := 1) (v := .int .i64 ((n0 + 1 : Nat) : Int)) rfl (by kernel_rfl) (by kernel_rfl) (by kernel_rfl) (fun _ _ _ h => nomatch h.1) (y_lenE (by simp [Region.wanted]) 75 rfl rfl _ _ _ (ev_eq _ _ (by simp [sz]))) hs0 ?_
  show wpAnyH _ _ _ _ _ _ _ ((A.put (some 75) (.slice (some ⟨b, 0, none⟩) (n0 + 1) c6)).put (some 76) (.int .i64 ((n0 + 1 : Nat) : Int))) _
  refine wpAnyH_take (i := 2) (v := .bool true) rfl (by kernel_rfl) (by kernel_rfl) (by kernel_rfl) (fun _ _ _ h => nomatch h.1) (y_leqT (by simp [Region.wanted]) (.tmp 76) (.const (.int .i64 64)) rfl (n0 + 1) 64 (by omega) (ev_eq _ _ (by simp [put_sz, sz])) rfl) hs0 ?_
  show wpAnyH _ _ _ _ _ _ _ (((A.put (some 75) (.slice (some ⟨b, 0, none⟩) (n0 + 1) c6)).put (some 76) (.int .i64 ((n0 + 1 : Nat) : Int))).put (some 77) (.bool true)) _
  refine wpAnyH_take (i := 3) (v := .bool true) rfl (by kernel_rfl) (by kernel_rfl) (by kernel_rfl) (fun _ _ _ h => nomatch h.1) (yields_move (by simp [Region.wanted]) (.tmp 77) rfl _ (ev_eq _ _ (by simp [put_sz, sz]))) hs0 ?_
  show wpAnyH _ _ _ _ _ _ _ ((((A.put (some 75) (.slice (some ⟨b, 0, none⟩) (n0 + 1) c6)).put (some 76) (.int .i64 ((n0 + 1 : Nat) : Int))).put (some 77) (.bool true)).put (some 78) (.bool true)) _
  refine wpAnyH_take (i := 4) (v := .slice (some ⟨b, 0, none⟩) (n0 + 1) c6) rfl (by kernel_rfl) (by kernel_rfl) (by kernel_rfl) (fun _ _ _ h => nomatch h.1) (yields_move (wanted_g (i := 3) (d := 78) rfl rfl (by simp [put_sz, sz]) (ev_eq _ _ (by simp [put_sz, sz]))) (.tmp 6) rfl _ ((ev_ne _ _ (by decide)).trans ((ev_ne _ _ (by decide)).trans ((ev_ne _ _ (by decide)).trans ((ev_ne _ _ (by decide)).trans e6))))) hs0 ?_
  show wpAnyH _ _ _ _ _ _ _ (((((A.put (some 75) (.slice (some ⟨b, 0, none⟩) (n0 + 1) c6)).put (some 76) (.int .i64 ((n0 + 1 : Nat) : Int))).put (some 77) (.bool true)).put (some 78) (.bool true)).put (some 79) (.slice (some ⟨b, 0, none⟩) (n0 + 1) c6)) _
  refine wpAnyH_take (i := 5) (v := .int .i64 ((n0 + 1 : Nat) : Int)) rfl (by kernel_rfl) (by kernel_rfl) (by kernel_rfl) (fun _ _ _ h => nomatch h.1) (y_lenE (wanted_g (i := 3) (d := 78) rfl rfl (by simp [put_sz, sz]) ((ev_ne _ _ (by decide)).trans (ev_eq _ _ (by simp [put_sz, sz])))) 79 rfl rfl _ _ _ (ev_eq _ _ (by simp [put_sz, sz]))) hs0 ?_
  show wpAnyH _ _ _ _ _ _ _ ((((((A.put (some 75) (.slice (some ⟨b, 0, none⟩) (n0 + 1) c6)).put (some 76) (.int .i64 ((n0 + 1 : Nat) : Int))).put (some 77) (.bool true)).put (some 78) (.bool true)).put (some 79) (.slice (some ⟨b, 0, none⟩) (n0 + 1) c6)).put (some 80) (.int .i64 ((n0 + 1 : Nat) : Int))) _
  refine wpAnyH_take (i := 6) (v := .bool false) rfl (by kernel_rfl) (by kernel_rfl) (by kernel_rfl) (fun _ _ _ h => nomatch h.1) (y_eqlB (wanted_g (i := 3) (d := 78) rfl rfl (by simp [put_sz, sz]) ((ev_ne _ _ (by decide)).trans ((ev_ne _ _ (by decide)).trans (ev_eq _ _ (by simp [put_sz, sz]))))) (.tmp 80) (.const (.int .i64 0)) rfl _ 0 false (by simp; omega) (ev_eq _ _ (by simp [put_sz, sz])) rfl) hs0 ?_
  show wpAnyH _ _ _ _ _ _ _ (((((((A.put (some 75) (.slice (some ⟨b, 0, none⟩) (n0 + 1) c6)).put (some 76) (.int .i64 ((n0 + 1 : Nat) : Int))).put (some 77) (.bool true)).put (some 78) (.bool true)).put (some 79) (.slice (some ⟨b, 0, none⟩) (n0 + 1) c6)).put (some 80) (.int .i64 ((n0 + 1 : Nat) : Int))).put (some 81) (.bool false)) _
  refine wpAnyH_take (i := 7) (v := .bool false) rfl (by kernel_rfl) (by kernel_rfl) (by kernel_rfl) (fun _ _ _ h => nomatch h.1) (yields_move (wanted_g (i := 3) (d := 78) rfl rfl (by simp [put_sz, sz]) ((ev_ne _ _ (by decide)).trans ((ev_ne _ _ (by decide)).trans ((ev_ne _ _ (by decide)).trans (ev_eq _ _ (by simp [put_sz, sz])))))) (.tmp 81) rfl _ (ev_eq _ _ (by simp [put_sz, sz]))) hs0 ?_
  show wpAnyH _ _ _ _ _ _ _ ((((((((A.put (some 75) (.slice (some ⟨b, 0, none⟩) (n0 + 1) c6)).put (some 76) (.int .i64 ((n0 + 1 : Nat) : Int))).put (some 77) (.bool true)).put (some 78) (.bool true)).put (some 79) (.slice (some ⟨b, 0, none⟩) (n0 + 1) c6)).put (some 80) (.int .i64 ((n0 + 1 : Nat) : Int))).put (some 81) (.bool false)).put (some 82) (.bool false)) _
  refine wpAnyH_take (i := 8) (v := .slice (some ⟨b, 0, none⟩) (n0 + 1) c6) rfl (by kernel_rfl) (by kernel_rfl) (by kernel_rfl) (fun _ _ _ h => nomatch h.1) (yields_move (wanted_f (i := 7) (d := 82) rfl rfl (by simp [put_sz, sz]) (ev_eq _ _ (by simp [put_sz, sz]))) (.tmp 6) rfl _ ((ev_ne _ _ (by decide)).trans ((ev_ne _ _ (by decide)).trans ((ev_ne _ _ (by decide)).trans ((ev_ne _ _ (by decide)).trans ((ev_ne _ _ (by decide)).trans ((ev_ne _ _ (by decide)).trans ((ev_ne _ _ (by decide)).trans ((ev_ne _ _ (by decide)).trans e6))))))))) hs0 ?_
  show wpAnyH _ _ _ _ _ _ _ (((((((((A.put (some 75) (.slice (some ⟨b, 0, none⟩) (n0 + 1) c6)).put (some 76) (.int .i64 ((n0 + 1 : Nat) : Int))).put (some 77) (.bool true)).put (some 78) (.bool true)).put (some 79) (.slice (some ⟨b, 0, none⟩) (n0 + 1) c6)).put (some 80) (.int .i64 ((n0 + 1 : Nat) : Int))).put (some 81) (.bool false)).put (some 82) (.bool false)).put (some 83) (.slice (some ⟨b, 0, none⟩) (n0 + 1) c6)) _
  refine wpAnyH_take (i := 9) (v := .slice (some ⟨b, 0, none⟩) (n0 + 1) c6) rfl (by kernel_rfl) (by kernel_rfl) (by kernel_rfl) (fun _ _ _ h => nomatch h.1) (yields_move (wanted_f (i := 7) (d := 82) rfl rfl (by simp [put_sz, sz]) ((ev_ne _ _ (by decide)).trans (ev_eq _ _ (by simp [put_sz, sz])))) (.tmp 6) rfl _ ((ev_ne _ _ (by decide)).trans ((ev_ne _ _ (by decide)).trans ((ev_ne _ _ (by decide)).trans ((ev_ne _ _ (by decide)).trans ((ev_ne _ _ (by decide)).trans ((ev_ne _ _ (by decide)).trans ((ev_ne _ _ (by decide)).trans ((ev_ne _ _ (by decide)).trans ((ev_ne _ _ (by decide)).trans e6)))))))))) hs0 ?_
  show wpAnyH _ _ _ _ _ _ _ ((((((((((A.put (some 75) (.slice (some ⟨b, 0, none⟩) (n0 + 1) c6)).put (some 76) (.int .i64 ((n0 + 1 : Nat) : Int))).put (some 77) (.bool true)).put (some 78) (.bool true)).put (some 79) (.slice (some ⟨b, 0, none⟩) (n0 + 1) c6)).put (some 80) (.int .i64 ((n0 + 1 : Nat) : Int))).put (some 81) (.bool false)).put (some 82) (.bool false)).put (some 83) (.slice (some ⟨b, 0, none⟩) (n0 + 1) c6)).put (some 84) (.slice (some ⟨b, 0, none⟩) (n0 + 1) c6)) _
  refine wpAnyH_take (i := 10) (v := .int .i64 ((n0 + 1 : Nat) : Int)) rfl (by kernel_rfl) (by kernel_rfl) (by kernel_rfl) (fun _ _ _ h => nomatch h.1) (y_lenE (wanted_f (i := 7) (d := 82) rfl rfl (by simp [put_sz, sz]) ((ev_ne _ _ (by decide)).trans ((ev_ne _ _ (by decide)).trans (ev_eq _ _ (by simp [put_sz, sz]))))) 84 rfl rfl _ _ _ (ev_eq _ _ (by simp [put_sz, sz]))) hs0 ?_
  show wpAnyH _ _ _ _ _ _ _ (((((((((((A.put (some 75) (.slice (some ⟨b, 0, none⟩) (n0 + 1) c6)).put (some 76) (.int .i64 ((n0 + 1 : Nat) : Int))).put (some 77) (.bool true)).put (some 78) (.bool true)).put (some 79) (.slice (some ⟨b, 0, none⟩) (n0 + 1) c6)).put (some 80) (.int .i64 ((n0 + 1 : Nat) : Int))).put (some 81) (.bool false)).put (some 82) (.bool false)).put (some 83) (.slice (some ⟨b, 0, none⟩) (n0 + 1) c6)).put (some 84) (.slice (some ⟨b, 0, none⟩) (n0 + 1) c6)).put (some 85) (.int .i64 ((n0 + 1 : Nat) : Int))) _
  refine wpAnyH_take (i := 11) (v := .int .i64 (n0 : Int)) rfl (by kernel_rfl) (by kernel_rfl) (by kernel_rfl) (fun _ _ _ h => nomatch h.1) (y_subi (wanted_f (i := 7) (d := 82) rfl rfl (by simp [put_sz, sz]) ((ev_ne _ _ (by decide)).trans ((ev_ne _ _ (by decide)).trans ((ev_ne _ _ (by decide)).trans (ev_eq _ _ (by simp [put_sz, sz])))))) (.tmp 85) (.const (.int .i64 1)) rfl _ 1 _ (ev_eq _ _ (by simp [put_sz, sz])) rfl (by rw [IntKind.wrap_i64]; omega)) hs0 ?_
  show wpAnyH _ _ _ _ _ _ _ ((((((((((((A.put (some 75) (.slice (some ⟨b, 0, none⟩) (n0 + 1) c6)).put (some 76) (.int .i64 ((n0 + 1 : Nat) : Int))).put (some 77) (.bool true)).put (some 78) (.bool true)).put (some 79) (.slice (some ⟨b, 0, none⟩) (n0 + 1) c6)).put (some 80) (.int .i64 ((n0 + 1 : Nat) : Int))).put (some 81) (.bool false)).put (some 82) (.bool false)).put (some 83) (.slice (some ⟨b, 0, none⟩) (n0 + 1) c6)).put (some 84) (.slice (some ⟨b, 0, none⟩) (n0 + 1) c6)).put (some 85) (.int .i64 ((n0 + 1 : Nat) : Int))).put (some 86) (.int .i64 (n0 : Int))) _
  refine wpAnyH_take (i := 12) (v := .pointer (some ⟨b, n0 * 4, none⟩)) rfl (by kernel_rfl) (by kernel_rfl) (by kernel_rfl) (fun _ _ _ h => nomatch h.1) (y_idxE (wanted_f (i := 7) (d := 82) rfl rfl (by simp [put_sz, sz]) ((ev_ne _ _ (by decide)).trans ((ev_ne _ _ (by decide)).trans ((ev_ne _ _ (by decide)).trans ((ev_ne _ _ (by decide)).trans (ev_eq _ _ (by simp [put_sz, sz]))))))) (.tmp 83) (.tmp 86) rfl b (n0 + 1) c6 n0 ((ev_ne _ _ (by decide)).trans ((ev_ne _ _ (by decide)).trans ((ev_ne _ _ (by decide)).trans (ev_eq _ _ (by simp [put_sz, sz]))))) (ev_eq _ _ (by simp [put_sz, sz])) (by omega)) hs0 ?_
  show wpAnyH _ _ _ _ _ _ _ (((((((((((((A.put (some 75) (.slice (some ⟨b, 0, none⟩) (n0 + 1) c6)).put (some 76) (.int .i64 ((n0 + 1 : Nat) : Int))).put (some 77) (.bool true)).put (some 78) (.bool true)).put (some 79) (.slice (some ⟨b, 0, none⟩) (n0 + 1) c6)).put (some 80) (.int .i64 ((n0 + 1 : Nat) : Int))).put (some 81) (.bool false)).put (some 82) (.bool false)).put (some 83) (.slice (some ⟨b, 0, none⟩) (n0 + 1) c6)).put (some 84) (.slice (some ⟨b, 0, none⟩) (n0 + 1) c6)).put (some 85) (.int .i64 ((n0 + 1 : Nat) : Int))).put (some 86) (.int .i64 (n0 : Int))).put (some 87) (.pointer (some ⟨b, n0 * 4, none⟩))) _
  refine wpAnyH_take (i := 13) (v := .pointer (some ⟨b, n0 * 4, none⟩)) rfl (by kernel_rfl) (by kernel_rfl) (by kernel_rfl) (fun _ _ _ h => nomatch h.1) (y_evo0 (wanted_f (i := 7) (d := 82) rfl rfl (by simp [put_sz, sz]) ((ev_ne _ _ (by decide)).trans ((ev_ne _ _ (by decide)).trans ((ev_ne _ _ (by decide)).trans ((ev_ne _ _ (by decide)).trans ((ev_ne _ _ (by decide)).trans (ev_eq _ _ (by simp [put_sz, sz])))))))) (.tmp 87) rfl b (n0 * 4) (ev_eq _ _ (by simp [put_sz, sz]))) hs0 ?_
  show wpAnyH _ _ _ _ _ _ _ ((((((((((((((A.put (some 75) (.slice (some ⟨b, 0, none⟩) (n0 + 1) c6)).put (some 76) (.int .i64 ((n0 + 1 : Nat) : Int))).put (some 77) (.bool true)).put (some 78) (.bool true)).put (some 79) (.slice (some ⟨b, 0, none⟩) (n0 + 1) c6)).put (some 80) (.int .i64 ((n0 + 1 : Nat) : Int))).put (some 81) (.bool false)).put (some 82) (.bool false)).put (some 83) (.slice (some ⟨b, 0, none⟩) (n0 + 1) c6)).put (some 84) (.slice (some ⟨b, 0, none⟩) (n0 + 1) c6)).put (some 85) (.int .i64 ((n0 + 1 : Nat) : Int))).put (some 86) (.int .i64 (n0 : Int))).put (some 87) (.pointer (some ⟨b, n0 * 4, none⟩))).put (some 88) (.pointer (some ⟨b, n0 * 4, none⟩))) _
  refine wpAnyH_take (i := 14) (v := .int .i64 (c.cnt : Int)) rfl (by kernel_rfl) (by kernel_rfl) (by kernel_rfl) (fun _ _ _ h => nomatch h.1) (y_loadI (wanted_f (i := 7) (d := 82) rfl rfl (by simp [put_sz, sz]) ((ev_ne _ _ (by decide)).trans ((ev_ne _ _ (by decide)).trans ((ev_ne _ _ (by decide)).trans ((ev_ne _ _ (by decide)).trans ((ev_ne _ _ (by decide)).trans ((ev_ne _ _ (by decide)).trans (ev_eq _ _ (by simp [put_sz, sz]))))))))) (.tmp 88) rfl b (n0 * 4) _ (ev_eq _ _ (by simp [put_sz, sz])) (fun V hV => hV.2)) hs0 ?_
  show wpAnyH _ _ _ _ _ _ _ (((((((((((((((A.put (some 75) (.slice (some ⟨b, 0, none⟩) (n0 + 1) c6)).put (some 76) (.int .i64 ((n0 + 1 : Nat) : Int))).put (some 77) (.bool true)).put (some 78) (.bool true)).put (some 79) (.slice (some ⟨b, 0, none⟩) (n0 + 1) c6)).put (some 80) (.int .i64 ((n0 + 1 : Nat) : Int))).put (some 81) (.bool false)).put (some 82) (.bool false)).put (some 83) (.slice (some ⟨b, 0, none⟩) (n0 + 1) c6)).put (some 84) (.slice (some ⟨b, 0, none⟩) (n0 + 1) c6)).put (some 85) (.int .i64 ((n0 + 1 : Nat) : Int))).put (some 86) (.int .i64 (n0 : Int))).put (some 87) (.pointer (some ⟨b, n0 * 4, none⟩))).put (some 88) (.pointer (some ⟨b, n0 * 4, none⟩))).put (some 89) (.int .i64 (c.cnt : Int))) _
  refine wpAnyH_take (i := 15) (v := .pointer (some ⟨g, 0, none⟩)) rfl (by kernel_rfl) (by kernel_rfl) (by kernel_rfl) (fun _ _ _ h => nomatch h.1) (yields_move (wanted_f (i := 7) (d := 82) rfl rfl (by simp [put_sz, sz]) ((ev_ne _ _ (by decide)).trans ((ev_ne _ _ (by decide)).trans ((ev_ne _ _ (by decide)).trans ((ev_ne _ _ (by decide)).trans ((ev_ne _ _ (by decide)).trans ((ev_ne _ _ (by decide)).trans ((ev_ne _ _ (by decide)).trans (ev_eq _ _ (by simp [put_sz, sz])))))))))) (.tmp 3) rfl _ ((ev_ne _ _ (by decide)).trans ((ev_ne _ _ (by decide)).trans ((ev_ne _ _ (by decide)).trans ((ev_ne _ _ (by decide)).trans ((ev_ne _ _ (by decide)).trans ((ev_ne _ _ (by decide)).trans ((ev_ne _ _ (by decide)).trans ((ev_ne _ _ (by decide)).trans ((ev_ne _ _ (by decide)).trans ((ev_ne _ _ (by decide)).trans ((ev_ne _ _ (by decide)).trans ((ev_ne _ _ (by decide)).trans ((ev_ne _ _ (by decide)).trans ((ev_ne _ _ (by decide)).trans ((ev_ne _ _ (by decide)).trans e3)))))))))))))))) hs0 ?_
  show wpAnyH _ _ _ _ _ _ _ ((((((((((((((((A.put (some 75) (.slice (some ⟨b, 0, none⟩) (n0 + 1) c6)).put (some 76) (.int .i64 ((n0 + 1 : Nat) : Int))).put (some 77) (.bool true)).put (some 78) (.bool true)).put (some 79) (.slice (some ⟨b, 0, none⟩) (n0 + 1) c6)).put (some 80) (.int .i64 ((n0 + 1 : Nat) : Int))).put (some 81) (.bool false)).put (some 82) (.bool false)).put (some 83) (.slice (some ⟨b, 0, none⟩) (n0 + 1) c6)).put (some 84) (.slice (some ⟨b, 0, none⟩) (n0 + 1) c6)).put (some 85) (.int .i64 ((n0 + 1 : Nat) : Int))).put (some 86) (.int .i64 (n0 : Int))).put (some 87) (.pointer (some ⟨b, n0 * 4, none⟩))).put (some 88) (.pointer (some ⟨b, n0 * 4, none⟩))).put (some 89) (.int .i64 (c.cnt : Int))).put (some 90) (.pointer (some ⟨g, 0, none⟩))) _
  obtain ⟨A2, hA2⟩ : ∃ A2, A2 = ((((((((((((((((A.put (some 75) (.slice (some ⟨b, 0, none⟩) (n0 + 1) c6)).put (some 76) (.int .i64 ((n0 + 1 : Nat) : Int))).put (some 77) (.bool true)).put (some 78) (.bool true)).put (some 79) (.slice (some ⟨b, 0, none⟩) (n0 + 1) c6)).put (some 80) (.int .i64 ((n0 + 1 : Nat) : Int))).put (some 81) (.bool false)).put (some 82) (.bool false)).put (some 83) (.slice (some ⟨b, 0, none⟩) (n0 + 1) c6)).put (some 84) (.slice (some ⟨b, 0, none⟩) (n0 + 1) c6)).put (some 85) (.int .i64 ((n0 + 1 : Nat) : Int))).put (some 86) (.int .i64 (n0 : Int))).put (some 87) (.pointer (some ⟨b, n0 * 4, none⟩))).put (some 88) (.pointer (some ⟨b, n0 * 4, none⟩))).put (some 89) (.int .i64 (c.cnt : Int))).put (some 90) (.pointer (some ⟨g, 0, none⟩))) := ⟨_, rfl⟩
  have szA2 : A2.tmps.size = 101 := by rw [hA2]; simp [put_sz, sz]
  have eA23 : A2.eval (.tmp 3) = .pointer (some ⟨g, 0, none⟩) := by rw [hA2]; exact ((ev_ne _ _ (by decide)).trans ((ev_ne _ _ (by decide)).trans ((ev_ne _ _ (by decide)).trans ((ev_ne _ _ (by decide)).trans ((ev_ne _ _ (by decide)).trans ((ev_ne _ _ (by decide)).trans ((ev_ne _ _ (by decide)).trans ((ev_ne _ _ (by decide)).trans ((ev_ne _ _ (by decide)).trans ((ev_ne _ _ (by decide)).trans ((ev_ne _ _ (by decide)).trans ((ev_ne _ _ (by decide)).trans ((ev_ne _ _ (by decide)).trans ((ev_ne _ _ (by decide)).trans ((ev_ne _ _ (by decide)).trans ((ev_ne _ _ (by decide)).trans e3))))))))))))))))
  have eA28 : A2.eval (.tmp 8) = .int .i64 (c.an : Int) := by rw [hA2]; exact ((ev_ne _ _ (by decide)).trans ((ev_ne _ _ (by decide)).trans ((ev_ne _ _ (by decide)).trans ((ev_ne _ _ (by decide)).trans ((ev_ne _ _ (by decide)).trans ((ev_ne _ _ (by decide)).trans ((ev_ne _ _ (by decide)).trans ((ev_ne _ _ (by decide)).trans ((ev_ne _ _ (by decide)).trans ((ev_ne _ _ (by decide)).trans ((ev_ne _ _ (by decide)).trans ((ev_ne _ _ (by decide)).trans ((ev_ne _ _ (by decide)).trans ((ev_ne _ _ (by decide)).trans ((ev_ne _ _ (by decide)).trans ((ev_ne _ _ (by decide)).trans e8))))))))))))))))
  have eA278 : A2.eval (.tmp 78) = .bool true := by rw [hA2]; exact ((ev_ne _ _ (by decide)).trans ((ev_ne _ _ (by decide)).trans ((ev_ne _ _ (by decide)).trans ((ev_ne _ _ (by decide)).trans ((ev_ne _ _ (by decide)).trans ((ev_ne _ _ (by decide)).trans ((ev_ne _ _ (by decide)).trans ((ev_ne _ _ (by decide)).trans ((ev_ne _ _ (by decide)).trans ((ev_ne _ _ (by decide)).trans ((ev_ne _ _ (by decide)).trans ((ev_ne _ _ (by decide)).trans (ev_eq _ _ (by simp [put_sz, sz]))))))))))))))
  have eA282 : A2.eval (.tmp 82) = .bool false := by rw [hA2]; exact ((ev_ne _ _ (by decide)).trans ((ev_ne _ _ (by decide)).trans ((ev_ne _ _ (by decide)).trans ((ev_ne _ _ (by decide)).trans ((ev_ne _ _ (by decide)).trans ((ev_ne _ _ (by decide)).trans ((ev_ne _ _ (by decide)).trans ((ev_ne _ _ (by decide)).trans (ev_eq _ _ (by simp [put_sz, sz]))))))))))
  have eA289 : A2.eval (.tmp 89) = .int .i64 (c.cnt : Int) := by rw [hA2]; exact ((ev_ne _ _ (by decide)).trans (ev_eq _ _ (by simp [put_sz, sz])))
  have eA290 : A2.eval (.tmp 90) = .pointer (some ⟨g, 0, none⟩) := by rw [hA2]; exact (ev_eq _ _ (by simp [put_sz, sz]))
  rw [← hA2]
  refine wpAnyH_all (rs := [16]) (by kernel_rfl) (by simp) fun i1 hm1 => ?_
  obtain rfl : i1 = 16 := by simpa using hm1
  refine wpOp_own' rfl (wanted_f (i := 7) (d := 82) rfl rfl (by simp [szA2]) eA282) fun K1 hK1 => ?_
  refine wp_calls1 31 hf_count (.tmp 90) _ rfl (.pointer (some ⟨g, 0, none⟩)) eA290 ?_
  refine (count_any hs0.1 ok hc).mono ?_
  rintro _ V1 ⟨rfl, hb1⟩
  have hs1 : ChAt V1 B g v c ∧ V1.cell? ⟨b, n0 * 4, none⟩ = some (.int .i64 (c.cnt : Int)) := ⟨hs0.1.below hb1, (hb1.cell (p := ⟨b, n0 * 4, none⟩) (World.block_lt_of_cell? _ _ hs0.2)).trans hs0.2⟩
  refine ⟨_, rfl, hK1 _ _ ⟨hs1, ?_⟩⟩
  clear hK1 K1 hm1
  show wpAnyH _ _ _ _ _ _ _ (A2.put (some 91) (.int .i64 (c.cnt : Int))) _
  refine wpAnyH_take (i := 17) (v := .bool true) rfl (by kernel_rfl) (by kernel_rfl) (by kernel_rfl) (fun _ _ _ h => nomatch h.1) (y_eqlB (wanted_f (i := 7) (d := 82) rfl rfl (by simp [put_sz, szA2]) ((ev_ne _ _ (by decide)).trans eA282)) (.tmp 89) (.tmp 91) rfl _ _ true (by simp) ((ev_ne _ _ (by decide)).trans eA289) (ev_eq _ _ (by simp [szA2]))) hs1 ?_
  show wpAnyH _ _ _ _ _ _ _ ((A2.put (some 91) (.int .i64 (c.cnt : Int))).put (some 92) (.bool true)) _
  refine wpAnyH_take (i := 18) (v := .bool true) rfl (by kernel_rfl) (by kernel_rfl) (by kernel_rfl) (fun _ _ _ h => nomatch h.1) (y_pickF (wanted_g (i := 3) (d := 78) rfl rfl (by simp [put_sz, szA2]) ((ev_ne _ _ (by decide)).trans ((ev_ne _ _ (by decide)).trans eA278))) (.tmp 82) (.const (.bool true)) (.tmp 92) rfl _ ((ev_ne _ _ (by decide)).trans ((ev_ne _ _ (by decide)).trans eA282)) (ev_eq _ _ (by simp [put_sz, szA2]))) hs1 ?_
  show wpAnyH _ _ _ _ _ _ _ (((A2.put (some 91) (.int .i64 (c.cnt : Int))).put (some 92) (.bool true)).put (some 93) (.bool true)) _
  refine wpAnyH_take (i := 19) (v := .bool true) rfl (by kernel_rfl) (by kernel_rfl) (by kernel_rfl) (fun _ _ _ h => nomatch h.1) (y_pickT (by simp [Region.wanted]) (.tmp 78) (.tmp 93) (.const (.bool false)) rfl _ ((ev_ne _ _ (by decide)).trans ((ev_ne _ _ (by decide)).trans ((ev_ne _ _ (by decide)).trans eA278))) (ev_eq _ _ (by simp [put_sz, szA2]))) hs1 ?_
  show wpAnyH _ _ _ _ _ _ _ ((((A2.put (some 91) (.int .i64 (c.cnt : Int))).put (some 92) (.bool true)).put (some 93) (.bool true)).put (some 94) (.bool true)) _
  refine wpAnyH_take (i := 20) (v := .bool true) rfl (by kernel_rfl) (by kernel_rfl) (by kernel_rfl) (fun _ _ _ h => nomatch h.1) (yields_move (by simp [Region.wanted]) (.tmp 94) rfl _ (ev_eq _ _ (by simp [put_sz, szA2]))) hs1 ?_
  show wpAnyH _ _ _ _ _ _ _ (((((A2.put (some 91) (.int .i64 (c.cnt : Int))).put (some 92) (.bool true)).put (some 93) (.bool true)).put (some 94) (.bool true)).put (some 95) (.bool true)) _
  obtain ⟨A3, hA3⟩ : ∃ A3, A3 = (((((A2.put (some 91) (.int .i64 (c.cnt : Int))).put (some 92) (.bool true)).put (some 93) (.bool true)).put (some 94) (.bool true)).put (some 95) (.bool true)) := ⟨_, rfl⟩
  have szA3 : A3.tmps.size = 101 := by rw [hA3]; simp [put_sz, szA2]
  have eA33 : A3.eval (.tmp 3) = .pointer (some ⟨g, 0, none⟩) := by rw [hA3]; exact ((ev_ne _ _ (by decide)).trans ((ev_ne _ _ (by decide)).trans ((ev_ne _ _ (by decide)).trans ((ev_ne _ _ (by decide)).trans ((ev_ne _ _ (by decide)).trans eA23)))))
  have eA38 : A3.eval (.tmp 8) = .int .i64 (c.an : Int) := by rw [hA3]; exact ((ev_ne _ _ (by decide)).trans ((ev_ne _ _ (by decide)).trans ((ev_ne _ _ (by decide)).trans ((ev_ne _ _ (by decide)).trans ((ev_ne _ _ (by decide)).trans eA28)))))
  have eA395 : A3.eval (.tmp 95) = .bool true := by rw [hA3]; exact (ev_eq _ _ (by simp [put_sz, szA2]))
  rw [← hA3]
  refine wpAnyH_take (i := 21) (v := .int .i64 (c.an : Int)) rfl (by kernel_rfl) (by kernel_rfl) (by kernel_rfl) (fun _ _ _ h => nomatch h.1) (yields_move (wanted_g (i := 20) (d := 95) rfl rfl (by simp [szA3]) eA395) (.tmp 8) rfl _ eA38) hs1 ?_
  show wpAnyH _ _ _ _ _ _ _ (A3.put (some 96) (.int .i64 (c.an : Int))) _
  refine wpAnyH_take (i := 22) (v := .pointer (some ⟨g, 0, none⟩)) rfl (by kernel_rfl) (by kernel_rfl) (by kernel_rfl) (fun _ _ _ h => nomatch h.1) (yields_move (wanted_g (i := 20) (d := 95) rfl rfl (by simp [put_sz, szA3]) ((ev_ne _ _ (by decide)).trans eA395)) (.tmp 3) rfl _ ((ev_ne _ _ (by decide)).trans eA33)) hs1 ?_
  show wpAnyH _ _ _ _ _ _ _ ((A3.put (some 96) (.int .i64 (c.an : Int))).put (some 97) (.pointer (some ⟨g, 0, none⟩))) _
  refine wpAnyH_all (rs := [23]) (by kernel_rfl) (by simp) fun i2 hm2 => ?_
  obtain rfl : i2 = 23 := by simpa using hm2
  refine wpOp_own' rfl (wanted_g (i := 20) (d := 95) rfl rfl (by simp [put_sz, szA3]) ((ev_ne _ _ (by decide)).trans ((ev_ne _ _ (by decide)).trans eA395))) fun K2 hK2 => ?_
  refine wp_calls1 31 hf_count (.tmp 97) _ rfl (.pointer (some ⟨g, 0, none⟩)) (ev_eq _ _ (by simp [put_sz, szA3])) ?_
  refine (count_any hs1.1 ok hc).mono ?_
  rintro _ V2 ⟨rfl, hb2⟩
  have hs2 : ChAt V2 B g v c ∧ V2.cell? ⟨b, n0 * 4, none⟩ = some (.int .i64 (c.cnt : Int)) := ⟨hs1.1.below hb2, (hb2.cell (p := ⟨b, n0 * 4, none⟩) (World.block_lt_of_cell? _ _ hs1.2)).trans hs1.2⟩
  refine ⟨_, rfl, hK2 _ _ ⟨hs2, ?_⟩⟩
  clear hK2 K2 hm2
  show wpAnyH _ _ _ _ _ _ _ (((A3.put (some 96) (.int .i64 (c.an : Int))).put (some 97) (.pointer (some ⟨g, 0, none⟩))).put (some 98) (.int .i64 (c.cnt : Int))) _
  refine wpAnyH_take (i := 24) (v := .bool true) rfl (by kernel_rfl) (by kernel_rfl) (by kernel_rfl) (fun _ _ _ h => nomatch h.1) (y_leqT (wanted_g (i := 20) (d := 95) rfl rfl (by simp [put_sz, szA3]) ((ev_ne _ _ (by decide)).trans ((ev_ne _ _ (by decide)).trans ((ev_ne _ _ (by decide)).trans eA395)))) (.tmp 96) (.tmp 98) rfl _ _ hanc ((ev_ne _ _ (by decide)).trans ((ev_ne _ _ (by decide)).trans (ev_eq _ _ (by simp [szA3])))) (ev_eq _ _ (by simp [put_sz, szA3]))) hs2 ?_
  show wpAnyH _ _ _ _ _ _ _ ((((A3.put (some 96) (.int .i64 (c.an : Int))).put (some 97) (.pointer (some ⟨g, 0, none⟩))).put (some 98) (.int .i64 (c.cnt : Int))).put (some 99) (.bool true)) _
  refine wpAnyH_take (i := 25) (v := .bool true) rfl (by kernel_rfl) (by kernel_rfl) (by kernel_rfl) (fun _ _ _ h => nomatch h.1) (y_pickT (by simp [Region.wanted]) (.tmp 95) (.tmp 99) (.const (.bool false)) rfl _ ((ev_ne _ _ (by decide)).trans ((ev_ne _ _ (by decide)).trans ((ev_ne _ _ (by decide)).trans ((ev_ne _ _ (by decide)).trans eA395)))) (ev_eq _ _ (by simp [put_sz, szA3]))) hs2 ?_
  show wpAnyH _ _ _ _ _ _ _ (((((A3.put (some 96) (.int .i64 (c.an : Int))).put (some 97) (.pointer (some ⟨g, 0, none⟩))).put (some 98) (.int .i64 (c.cnt : Int))).put (some 99) (.bool true)).put (some 100) (.bool true)) _
  refine wpAnyH_take (i := 26) (v := .bool true) rfl (by kernel_rfl) (by kernel_rfl) (by kernel_rfl) (fun _ _ _ h => nomatch h.1) (y_assign (by simp [Region.wanted]) (.tmp 100) rfl _ (ev_eq _ _ (by simp [put_sz, szA3]))) hs2 ?_
  show wpAnyH _ _ _ _ _ _ _ ((((((A3.put (some 96) (.int .i64 (c.an : Int))).put (some 97) (.pointer (some ⟨g, 0, none⟩))).put (some 98) (.int .i64 (c.cnt : Int))).put (some 99) (.bool true)).put (some 100) (.bool true)).put (some 2) (.bool true)) _
  exact wpAnyH_done (by kernel_rfl) ⟨rfl, by rw [hA3, hA2], (hb1.trans (hb2.mono hb1.size))⟩ _
end Go.Proofs.YtbfoigppcbmikaaDoor

/- AuditPrunes' tests of what a pruned chain answers: the region, over a frame that is a letter. -/
namespace Go.Proofs.YtbfoigppcbmikaaDoor
open Go.RowKit
set_option linter.unusedVariables false
set_option maxRecDepth 20000
theorem hf_head : ∀ (args : Array Value) (w : World), (callFunc 28 args).run Tryd.prog w = .ok (.enter 28 args) w := fun args w => by simp [go_sem]
theorem hf_verify : ∀ (args : Array Value) (w : World), (callFunc 22 args).run Tryd.prog w = .ok (.enter 22 args) w := fun args w => by simp [go_sem]
section
variable {ops : Array Oper} {S : World → Prop} {op : Oper} {a : Act}
theorem y_neqI0 (hw : Region.wanted op (yielded ops a.tmps) = true) (x y : Operand) (ho : op.op = .binOp .neq 3 x y 3) (p : Int) (hx : a.eval x = .int .i64 p) (hy : a.eval y = .int .i64 p) : YieldsIf Tryd.prog ops S op (.bool false) a := by
  refine .inl ⟨hw, fun w _ => ?_⟩
  unfold execOp
  simp only [ho, hx, hy]
  simp [go_sem]
theorem y_neqE (hw : Region.wanted op (yielded ops a.tmps) = true) (x y : Operand) (ho : op.op = .binOp .neq 34 x y 34) (p : Int) (hx : a.eval x = .int .i64 p) (hy : a.eval y = .int .i64 p) : YieldsIf Tryd.prog ops S op (.bool false) a := by
  refine .inl ⟨hw, fun w _ => ?_⟩
  unfold execOp
  simp only [ho, hx, hy]
  simp [go_sem]
theorem y_neqH0 (hw : Region.wanted op (yielded ops a.tmps) = true) (x y : Operand) (ho : op.op = .binOp .neq 49 x y 49) (l : List UInt8) (hl : l.length = 32) (hx : a.eval x = .agg (bvs l)) (hy : a.eval y = .agg (bvs l)) : YieldsIf Tryd.prog ops S op (.bool false) a := by
  have := y_neqH (S := S) hw x y ho l l hl hl hx hy
  rwa [show (!(l == l)) = false by simp] at this
end
/-- what the region's tests read -/
def PrS (B g h : Nat) (v : Value) (c : Ch) (V : World) : Prop := ChAt V B g v c ∧ V.heap[h]? = some (.cells (cellsOf c.hd).toArray 49 (0, 0)) ∧ Tabs V B ∧ B ≤ V.heap.size
theorem PrS.on {B g h : Nat} {v : Value} {c : Ch} {V V' : World} (hs : PrS B g h v c V) (hb : Below V.heap.size V V') : PrS B g h v c V' := ⟨hs.1.below hb, (hb.block _ (heap_lt hs.2.1)).trans hs.2.1, hs.2.2.1.below hs.2.2.2 hb, Nat.le_trans hs.2.2.2 hb.size⟩
noncomputable def codePr : Code := ((Tryd.f7.body.bind (regionAt 16)).getD .skip)
set_option maxHeartbeats 4000000 in
theorem prunes_region {V0 W5 : World} {B g h k mk c8 c15 : Nat} {a8 a15 : Option Addr} {v : Value} {c : Ch} {A : Act} (sz : A.tmps.size = 119) (e5 : A.eval (.tmp 5) = .pointer (some ⟨g, 0, none⟩)) (e8 : A.eval (.tmp 8) = .slice a8 (mk + k) c8) (e9 : A.eval (.tmp 9) = .pointer (some ⟨h, 0, none⟩)) (e10 : A.eval (.tmp 10) = .int .i64 (c.cnt : Int)) (e12 : A.eval (.tmp 12) = .int .i64 (k : Int)) (e13 : A.eval (.tmp 13) = .int .i64 (k : Int)) (e14 : A.eval (.tmp 14) = .int .i64 0) (e15 : A.eval (.tmp 15) = .slice a15 mk c15)
    (hV0 : V0 = W5.drew) (hs0 : PrS B g h v c V0) (ok : ChOk c) (hc : c.cnt < 1152921504606846976) (hv0 : verE c = 0) (hsm : mk + k ≤ 1000) :
    codePr.wp Tryd.prog (fun x a V => x = .normal ∧ a = (((((((((((((((((((((((((((((((((A.put (some 69) (.int .i64 0)).put (some 70) (.bool false)).put (some 71) (.bool false)).put (some 72) (.int .i64 (k : Int))).put (some 73) (.int .i64 (k : Int))).put (some 74) (.bool false)).put (some 75) (.bool false)).put (some 76) (.bool false)).put (some 77) (.slice a15 mk c15)).put (some 78) (.int .i64 (mk : Int))).put (some 79) (.slice a8 (mk + k) c8)).put (some 80) (.int .i64 ((mk + k : Nat) : Int))).put (some 81) (.int .i64 (k : Int))).put (some 82) (.int .i64 (mk : Int))).put (some 83) (.bool false)).put (some 84) (.bool false)).put (some 85) (.bool false)).put (some 86) (.pointer (some ⟨g, 0, none⟩))).put (some 88) (.agg (bvs c.hd))).put (some 87) (.agg (bvs c.hd))).put (some 89) (.bool false)).put (some 90) (.bool false)).put (some 91) (.bool false)).put (some 92) (.pointer (some ⟨g, 0, none⟩))).put (some 94) (.int .i64 (c.cnt : Int))).put (some 93) (.int .i64 (c.cnt : Int))).put (some 95) (.bool false)).put (some 96) (.bool false)).put (some 97) (.bool false)).put (some 98) (.pointer (some ⟨g, 0, none⟩))).put (some 99) (.int .i64 0)).put (some 100) (.bool false)).put (some 101) (.bool false)) ∧ Below V0.heap.size V0 V) A W5 := by
  have hm : Tryd.prog.follows .mixedOrders = true := by kernel_rfl
  have hver : ∀ {V : World}, PrS B g h v c V → Calls Tryd.prog 22 #[.pointer (some ⟨g, 0, none⟩)] V fun e w' => e = .returned (.int .i64 0) ∧ Below V.heap.size V w' := fun hs => by
    have := verify_any hs.1 ok hc hs.2.2.1 hs.2.2.2
    rwa [hv0] at this
  unfold codePr
  conv => arg 2; whnf
  refine wp_region_held (S := PrS B g h v c) hm ?_
  rw [show ({ W5 with drawn := W5.drawn + 1 } : World) = V0 from hV0.symm]
  refine wpAnyH_take (i := 0) (v := .int .i64 0) rfl (by kernel_rfl) (by kernel_rfl) (by kernel_rfl) (fun _ _ _ h => nomatch h.1) (yields_move (by simp [Region.wanted]) (.tmp 14) rfl _ e14) hs0 ?_
  show wpAnyH _ _ _ _ _ _ _ (A.put (some 69) (.int .i64 0)) _
  refine wpAnyH_take (i := 1) (v := .bool false) rfl (by kernel_rfl) (by kernel_rfl) (by kernel_rfl) (fun _ _ _ h => nomatch h.1) (y_neqE (by simp [Region.wanted]) (.tmp 69) (.const (.int .i64 0)) rfl 0 (ev_eq _ _ (by simp [sz])) rfl) hs0 ?_
  show wpAnyH _ _ _ _ _ _ _ ((A.put (some 69) (.int .i64 0)).put (some 70) (.bool false)) _
  refine wpAnyH_take (i := 2) (v := .bool false) rfl (by kernel_rfl) (by kernel_rfl) (by kernel_rfl) (fun _ _ _ h => nomatch h.1) (yields_move (by simp [Region.wanted]) (.tmp 70) rfl _ (ev_eq _ _ (by simp [put_sz, sz]))) hs0 ?_
  show wpAnyH _ _ _ _ _ _ _ (((A.put (some 69) (.int .i64 0)).put (some 70) (.bool false)).put (some 71) (.bool false)) _
  refine wpAnyH_take (i := 3) (v := .int .i64 (k : Int)) rfl (by kernel_rfl) (by kernel_rfl) (by kernel_rfl) (fun _ _ _ h => nomatch h.1) (yields_move (wanted_f (i := 2) (d := 71) rfl rfl (by simp [put_sz, sz]) (ev_eq _ _ (by simp [put_sz, sz]))) (.tmp 13) rfl _ ((ev_ne _ _ (by decide)).trans ((ev_ne _ _ (by decide)).trans ((ev_ne _ _ (by decide)).trans e13)))) hs0 ?_
  show wpAnyH _ _ _ _ _ _ _ ((((A.put (some 69) (.int .i64 0)).put (some 70) (.bool false)).put (some 71) (.bool false)).put (some 72) (.int .i64 (k : Int))) _
  refine wpAnyH_take (i := 4) (v := .int .i64 (k : Int)) rfl (by kernel_rfl) (by kernel_rfl) (by kernel_rfl) (fun _ _ _ h => nomatch h.1) (yields_move (wanted_f (i := 2) (d := 71) rfl rfl (by simp [put_sz, sz]) ((ev_ne _ _ (by decide)).trans (ev_eq _ _ (by simp [put_sz, sz])))) (.tmp 12) rfl _ ((ev_ne _ _ (by decide)).trans ((ev_ne _ _ (by decide)).trans ((ev_ne _ _ (by decide)).trans ((ev_ne _ _ (by decide)).trans e12))))) hs0 ?_
  show wpAnyH _ _ _ _ _ _ _ (((((A.put (some 69) (.int .i64 0)).put (some 70) (.bool false)).put (some 71) (.bool false)).put (some 72) (.int .i64 (k : Int))).put (some 73) (.int .i64 (k : Int))) _
  refine wpAnyH_take (i := 5) (v := .bool false) rfl (by kernel_rfl) (by kernel_rfl) (by kernel_rfl) (fun _ _ _ h => nomatch h.1) (y_neqI0 (wanted_f (i := 2) (d := 71) rfl rfl (by simp [put_sz, sz]) ((ev_ne _ _ (by decide)).trans ((ev_ne _ _ (by decide)).trans (ev_eq _ _ (by simp [put_sz, sz]))))) (.tmp 72) (.tmp 73) rfl _ ((ev_ne _ _ (by decide)).trans (ev_eq _ _ (by simp [put_sz, sz]))) (ev_eq _ _ (by simp [put_sz, sz]))) hs0 ?_
  show wpAnyH _ _ _ _ _ _ _ ((((((A.put (some 69) (.int .i64 0)).put (some 70) (.bool false)).put (some 71) (.bool false)).put (some 72) (.int .i64 (k : Int))).put (some 73) (.int .i64 (k : Int))).put (some 74) (.bool false)) _
  refine wpAnyH_take (i := 6) (v := .bool false) rfl (by kernel_rfl) (by kernel_rfl) (by kernel_rfl) (fun _ _ _ h => nomatch h.1) (y_pickF (by simp [Region.wanted]) (.tmp 71) (.const (.bool true)) (.tmp 74) rfl _ ((ev_ne _ _ (by decide)).trans ((ev_ne _ _ (by decide)).trans ((ev_ne _ _ (by decide)).trans (ev_eq _ _ (by simp [put_sz, sz]))))) (ev_eq _ _ (by simp [put_sz, sz]))) hs0 ?_
  show wpAnyH _ _ _ _ _ _ _ (((((((A.put (some 69) (.int .i64 0)).put (some 70) (.bool false)).put (some 71) (.bool false)).put (some 72) (.int .i64 (k : Int))).put (some 73) (.int .i64 (k : Int))).put (some 74) (.bool false)).put (some 75) (.bool false)) _
  refine wpAnyH_take (i := 7) (v := .bool false) rfl (by kernel_rfl) (by kernel_rfl) (by kernel_rfl) (fun _ _ _ h => nomatch h.1) (yields_move (by simp [Region.wanted]) (.tmp 75) rfl _ (ev_eq _ _ (by simp [put_sz, sz]))) hs0 ?_
  show wpAnyH _ _ _ _ _ _ _ ((((((((A.put (some 69) (.int .i64 0)).put (some 70) (.bool false)).put (some 71) (.bool false)).put (some 72) (.int .i64 (k : Int))).put (some 73) (.int .i64 (k : Int))).put (some 74) (.bool false)).put (some 75) (.bool false)).put (some 76) (.bool false)) _
  obtain ⟨A2, hA2⟩ : ∃ A2, A2 = ((((((((A.put (some 69) (.int .i64 0)).put (some 70) (.bool false)).put (some 71) (.bool false)).put (some 72) (.int .i64 (k : Int))).put (some 73) (.int .i64 (k : Int))).put (some 74) (.bool false)).put (some 75) (.bool false)).put (some 76) (.bool false)) := ⟨_, rfl⟩
  have szA2 : A2.tmps.size = 119 := by rw [hA2]; simp [put_sz, sz]
  have eA25 : A2.eval (.tmp 5) = .pointer (some ⟨g, 0, none⟩) := by rw [hA2]; exact ((ev_ne _ _ (by decide)).trans ((ev_ne _ _ (by decide)).trans ((ev_ne _ _ (by decide)).trans ((ev_ne _ _ (by decide)).trans ((ev_ne _ _ (by decide)).trans ((ev_ne _ _ (by decide)).trans ((ev_ne _ _ (by decide)).trans ((ev_ne _ _ (by decide)).trans e5))))))))
  have eA28 : A2.eval (.tmp 8) = .slice a8 (mk + k) c8 := by rw [hA2]; exact ((ev_ne _ _ (by decide)).trans ((ev_ne _ _ (by decide)).trans ((ev_ne _ _ (by decide)).trans ((ev_ne _ _ (by decide)).trans ((ev_ne _ _ (by decide)).trans ((ev_ne _ _ (by decide)).trans ((ev_ne _ _ (by decide)).trans ((ev_ne _ _ (by decide)).trans e8))))))))
  have eA29 : A2.eval (.tmp 9) = .pointer (some ⟨h, 0, none⟩) := by rw [hA2]; exact ((ev_ne _ _ (by decide)).trans ((ev_ne _ _ (by decide)).trans ((ev_ne _ _ (by decide)).trans ((ev_ne _ _ (by decide)).trans ((ev_ne _ _ (by decide)).trans ((ev_ne _ _ (by decide)).trans ((ev_ne _ _ (by decide)).trans ((ev_ne _ _ (by decide)).trans e9))))))))
  have eA210 : A2.eval (.tmp 10) = .int .i64 (c.cnt : Int) := by rw [hA2]; exact ((ev_ne _ _ (by decide)).trans ((ev_ne _ _ (by decide)).trans ((ev_ne _ _ (by decide)).trans ((ev_ne _ _ (by decide)).trans ((ev_ne _ _ (by decide)).trans ((ev_ne _ _ (by decide)).trans ((ev_ne _ _ (by decide)).trans ((ev_ne _ _ (by decide)).trans e10))))))))
  have eA212 : A2.eval (.tmp 12) = .int .i64 (k : Int) := by rw [hA2]; exact ((ev_ne _ _ (by decide)).trans ((ev_ne _ _ (by decide)).trans ((ev_ne _ _ (by decide)).trans ((ev_ne _ _ (by decide)).trans ((ev_ne _ _ (by decide)).trans ((ev_ne _ _ (by decide)).trans ((ev_ne _ _ (by decide)).trans ((ev_ne _ _ (by decide)).trans e12))))))))
  have eA215 : A2.eval (.tmp 15) = .slice a15 mk c15 := by rw [hA2]; exact ((ev_ne _ _ (by decide)).trans ((ev_ne _ _ (by decide)).trans ((ev_ne _ _ (by decide)).trans ((ev_ne _ _ (by decide)).trans ((ev_ne _ _ (by decide)).trans ((ev_ne _ _ (by decide)).trans ((ev_ne _ _ (by decide)).trans ((ev_ne _ _ (by decide)).trans e15))))))))
  have eA276 : A2.eval (.tmp 76) = .bool false := by rw [hA2]; exact (ev_eq _ _ (by simp [put_sz, sz]))
  rw [← hA2]
  refine wpAnyH_take (i := 8) (v := .slice a15 mk c15) rfl (by kernel_rfl) (by kernel_rfl) (by kernel_rfl) (fun _ _ _ h => nomatch h.1) (yields_move (wanted_f (i := 7) (d := 76) rfl rfl (by simp [szA2]) eA276) (.tmp 15) rfl _ eA215) hs0 ?_
  show wpAnyH _ _ _ _ _ _ _ (A2.put (some 77) (.slice a15 mk c15)) _
  refine wpAnyH_take (i := 9) (v := .int .i64 (mk : Int)) rfl (by kernel_rfl) (by kernel_rfl) (by kernel_rfl) (fun _ _ _ h => nomatch h.1) (y_lenE (wanted_f (i := 7) (d := 76) rfl rfl (by simp [put_sz, szA2]) ((ev_ne _ _ (by decide)).trans eA276)) 77 rfl rfl _ _ _ (ev_eq _ _ (by simp [szA2]))) hs0 ?_
  show wpAnyH _ _ _ _ _ _ _ ((A2.put (some 77) (.slice a15 mk c15)).put (some 78) (.int .i64 (mk : Int))) _
  refine wpAnyH_take (i := 10) (v := .slice a8 (mk + k) c8) rfl (by kernel_rfl) (by kernel_rfl) (by kernel_rfl) (fun _ _ _ h => nomatch h.1) (yields_move (wanted_f (i := 7) (d := 76) rfl rfl (by simp [put_sz, szA2]) ((ev_ne _ _ (by decide)).trans ((ev_ne _ _ (by decide)).trans eA276))) (.tmp 8) rfl _ ((ev_ne _ _ (by decide)).trans ((ev_ne _ _ (by decide)).trans eA28))) hs0 ?_
  show wpAnyH _ _ _ _ _ _ _ (((A2.put (some 77) (.slice a15 mk c15)).put (some 78) (.int .i64 (mk : Int))).put (some 79) (.slice a8 (mk + k) c8)) _
  refine wpAnyH_take (i := 11) (v := .int .i64 ((mk + k : Nat) : Int)) rfl (by kernel_rfl) (by kernel_rfl) (by kernel_rfl) (fun _ _ _ h => nomatch h.1) (y_lenE (wanted_f (i := 7) (d := 76) rfl rfl (by simp [put_sz, szA2]) ((ev_ne _ _ (by decide)).trans ((ev_ne _ _ (by decide)).trans ((ev_ne _ _ (by decide)).trans eA276)))) 79 rfl rfl _ _ _ (ev_eq _ _ (by simp [put_sz, szA2]))) hs0 ?_
  show wpAnyH _ _ _ _ _ _ _ ((((A2.put (some 77) (.slice a15 mk c15)).put (some 78) (.int .i64 (mk : Int))).put (some 79) (.slice a8 (mk + k) c8)).put (some 80) (.int .i64 ((mk + k : Nat) : Int))) _
  refine wpAnyH_take (i := 12) (v := .int .i64 (k : Int)) rfl (by kernel_rfl) (by kernel_rfl) (by kernel_rfl) (fun _ _ _ h => nomatch h.1) (yields_move (wanted_f (i := 7) (d := 76) rfl rfl (by simp [put_sz, szA2]) ((ev_ne _ _ (by decide)).trans ((ev_ne _ _ (by decide)).trans ((ev_ne _ _ (by decide)).trans ((ev_ne _ _ (by decide)).trans eA276))))) (.tmp 12) rfl _ ((ev_ne _ _ (by decide)).trans ((ev_ne _ _ (by decide)).trans ((ev_ne _ _ (by decide)).trans ((ev_ne _ _ (by decide)).trans eA212))))) hs0 ?_
  show wpAnyH _ _ _ _ _ _ _ (((((A2.put (some 77) (.slice a15 mk c15)).put (some 78) (.int .i64 (mk : Int))).put (some 79) (.slice a8 (mk + k) c8)).put (some 80) (.int .i64 ((mk + k : Nat) : Int))).put (some 81) (.int .i64 (k : Int))) _
  refine wpAnyH_take (i := 13) (v := .int .i64 (mk : Int)) rfl (by kernel_rfl) (by kernel_rfl) (by kernel_rfl) (fun _ _ _ h => nomatch h.1) (y_subi (wanted_f (i := 7) (d := 76) rfl rfl (by simp [put_sz, szA2]) ((ev_ne _ _ (by decide)).trans ((ev_ne _ _ (by decide)).trans ((ev_ne _ _ (by decide)).trans ((ev_ne _ _ (by decide)).trans ((ev_ne _ _ (by decide)).trans eA276)))))) (.tmp 80) (.tmp 81) rfl _ _ _ ((ev_ne _ _ (by decide)).trans (ev_eq _ _ (by simp [put_sz, szA2]))) (ev_eq _ _ (by simp [put_sz, szA2])) (by rw [IntKind.wrap_i64]; omega)) hs0 ?_
  show wpAnyH _ _ _ _ _ _ _ ((((((A2.put (some 77) (.slice a15 mk c15)).put (some 78) (.int .i64 (mk : Int))).put (some 79) (.slice a8 (mk + k) c8)).put (some 80) (.int .i64 ((mk + k : Nat) : Int))).put (some 81) (.int .i64 (k : Int))).put (some 82) (.int .i64 (mk : Int))) _
  refine wpAnyH_take (i := 14) (v := .bool false) rfl (by kernel_rfl) (by kernel_rfl) (by kernel_rfl) (fun _ _ _ h => nomatch h.1) (y_neqI0 (wanted_f (i := 7) (d := 76) rfl rfl (by simp [put_sz, szA2]) ((ev_ne _ _ (by decide)).trans ((ev_ne _ _ (by decide)).trans ((ev_ne _ _ (by decide)).trans ((ev_ne _ _ (by decide)).trans ((ev_ne _ _ (by decide)).trans ((ev_ne _ _ (by decide)).trans eA276))))))) (.tmp 78) (.tmp 82) rfl _ ((ev_ne _ _ (by decide)).trans ((ev_ne _ _ (by decide)).trans ((ev_ne _ _ (by decide)).trans ((ev_ne _ _ (by decide)).trans (ev_eq _ _ (by simp [put_sz, szA2])))))) (ev_eq _ _ (by simp [put_sz, szA2]))) hs0 ?_
  show wpAnyH _ _ _ _ _ _ _ (((((((A2.put (some 77) (.slice a15 mk c15)).put (some 78) (.int .i64 (mk : Int))).put (some 79) (.slice a8 (mk + k) c8)).put (some 80) (.int .i64 ((mk + k : Nat) : Int))).put (some 81) (.int .i64 (k : Int))).put (some 82) (.int .i64 (mk : Int))).put (some 83) (.bool false)) _
  refine wpAnyH_take (i := 15) (v := .bool false) rfl (by kernel_rfl) (by kernel_rfl) (by kernel_rfl) (fun _ _ _ h => nomatch h.1) (y_pickF (by simp [Region.wanted]) (.tmp 76) (.const (.bool true)) (.tmp 83) rfl _ ((ev_ne _ _ (by decide)).trans ((ev_ne _ _ (by decide)).trans ((ev_ne _ _ (by decide)).trans ((ev_ne _ _ (by decide)).trans ((ev_ne _ _ (by decide)).trans ((ev_ne _ _ (by decide)).trans ((ev_ne _ _ (by decide)).trans eA276))))))) (ev_eq _ _ (by simp [put_sz, szA2]))) hs0 ?_
  show wpAnyH _ _ _ _ _ _ _ ((((((((A2.put (some 77) (.slice a15 mk c15)).put (some 78) (.int .i64 (mk : Int))).put (some 79) (.slice a8 (mk + k) c8)).put (some 80) (.int .i64 ((mk + k : Nat) : Int))).put (some 81) (.int .i64 (k : Int))).put (some 82) (.int .i64 (mk : Int))).put (some 83) (.bool false)).put (some 84) (.bool false)) _
  refine wpAnyH_take (i := 16) (v := .bool false) rfl (by kernel_rfl) (by kernel_rfl) (by kernel_rfl) (fun _ _ _ h => nomatch h.1) (yields_move (by simp [Region.wanted]) (.tmp 84) rfl _ (ev_eq _ _ (by simp [put_sz, szA2]))) hs0 ?_
  show wpAnyH _ _ _ _ _ _ _ (((((((((A2.put (some 77) (.slice a15 mk c15)).put (some 78) (.int .i64 (mk : Int))).put (some 79) (.slice a8 (mk + k) c8)).put (some 80) (.int .i64 ((mk + k : Nat) : Int))).put (some 81) (.int .i64 (k : Int))).put (some 82) (.int .i64 (mk : Int))).put (some 83) (.bool false)).put (some 84) (.bool false)).put (some 85) (.bool false)) _
  obtain ⟨A3, hA3⟩ : ∃ A3, A3 = (((((((((A2.put (some 77) (.slice a15 mk c15)).put (some 78) (.int .i64 (mk : Int))).put (some 79) (.slice a8 (mk + k) c8)).put (some 80) (.int .i64 ((mk + k : Nat) : Int))).put (some 81) (.int .i64 (k : Int))).put (some 82) (.int .i64 (mk : Int))).put (some 83) (.bool false)).put (some 84) (.bool false)).put (some 85) (.bool false)) := ⟨_, rfl⟩
  have szA3 : A3.tmps.size = 119 := by rw [hA3]; simp [put_sz, szA2]
  have eA35 : A3.eval (.tmp 5) = .pointer (some ⟨g, 0, none⟩) := by rw [hA3]; exact ((ev_ne _ _ (by decide)).trans ((ev_ne _ _ (by decide)).trans ((ev_ne _ _ (by decide)).trans ((ev_ne _ _ (by decide)).trans ((ev_ne _ _ (by decide)).trans ((ev_ne _ _ (by decide)).trans ((ev_ne _ _ (by decide)).trans ((ev_ne _ _ (by decide)).trans ((ev_ne _ _ (by decide)).trans eA25)))))))))
  have eA39 : A3.eval (.tmp 9) = .pointer (some ⟨h, 0, none⟩) := by rw [hA3]; exact ((ev_ne _ _ (by decide)).trans ((ev_ne _ _ (by decide)).trans ((ev_ne _ _ (by decide)).trans ((ev_ne _ _ (by decide)).trans ((ev_ne _ _ (by decide)).trans ((ev_ne _ _ (by decide)).trans ((ev_ne _ _ (by decide)).trans ((ev_ne _ _ (by decide)).trans ((ev_ne _ _ (by decide)).trans eA29)))))))))
  have eA310 : A3.eval (.tmp 10) = .int .i64 (c.cnt : Int) := by rw [hA3]; exact ((ev_ne _ _ (by decide)).trans ((ev_ne _ _ (by decide)).trans ((ev_ne _ _ (by decide)).trans ((ev_ne _ _ (by decide)).trans ((ev_ne _ _ (by decide)).trans ((ev_ne _ _ (by decide)).trans ((ev_ne _ _ (by decide)).trans ((ev_ne _ _ (by decide)).trans ((ev_ne _ _ (by decide)).trans eA210)))))))))
  have eA385 : A3.eval (.tmp 85) = .bool false := by rw [hA3]; exact (ev_eq _ _ (by simp [put_sz, szA2]))
  rw [← hA3]
  refine wpAnyH_take (i := 17) (v := .pointer (some ⟨g, 0, none⟩)) rfl (by kernel_rfl) (by kernel_rfl) (by kernel_rfl) (fun _ _ _ h => nomatch h.1) (yields_move (wanted_f (i := 16) (d := 85) rfl rfl (by simp [szA3]) eA385) (.tmp 5) rfl _ eA35) hs0 ?_
  show wpAnyH _ _ _ _ _ _ _ (A3.put (some 86) (.pointer (some ⟨g, 0, none⟩))) _
  refine wpAnyH_take (i := 19) (v := .agg (bvs c.hd)) rfl (by kernel_rfl) (by kernel_rfl) (by kernel_rfl) (fun _ _ _ h => nomatch h.1) (y_loadH (wanted_f (i := 16) (d := 85) rfl rfl (by simp [put_sz, szA3]) ((ev_ne _ _ (by decide)).trans eA385)) (.tmp 9) rfl h 0 c.hd ok.lh ((ev_ne _ _ (by decide)).trans eA39) (fun V hV => range_whole hV.2.1)) hs0 ?_
  show wpAnyH _ _ _ _ _ _ _ ((A3.put (some 86) (.pointer (some ⟨g, 0, none⟩))).put (some 88) (.agg (bvs c.hd))) _
  refine wpAnyH_all (rs := [18]) (by kernel_rfl) (by simp) fun i1 hm1 => ?_
  obtain rfl : i1 = 18 := by simpa using hm1
  refine wpOp_own' rfl (wanted_f (i := 16) (d := 85) rfl rfl (by simp [put_sz, szA3]) ((ev_ne _ _ (by decide)).trans ((ev_ne _ _ (by decide)).trans eA385))) fun K1 hK1 => ?_
  refine wp_calls1 28 hf_head (.tmp 86) _ rfl (.pointer (some ⟨g, 0, none⟩)) ((ev_ne _ _ (by decide)).trans (ev_eq _ _ (by simp [szA3]))) ?_
  refine (head_any hs0.1 ok.l).mono ?_
  rintro _ V1 ⟨rfl, hb1⟩
  have hs1 : PrS B g h v c V1 := hs0.on hb1
  refine ⟨_, rfl, hK1 _ _ ⟨hs1, ?_⟩⟩
  clear hK1 K1 hm1
  show wpAnyH _ _ _ _ _ _ _ (((A3.put (some 86) (.pointer (some ⟨g, 0, none⟩))).put (some 88) (.agg (bvs c.hd))).put (some 87) (.agg (bvs c.hd))) _
  refine wpAnyH_take (i := 20) (v := .bool false) rfl (by kernel_rfl) (by kernel_rfl) (by kernel_rfl) (fun _ _ _ h => nomatch h.1) (y_neqH0 (wanted_f (i := 16) (d := 85) rfl rfl (by simp [put_sz, szA3]) ((ev_ne _ _ (by decide)).trans ((ev_ne _ _ (by decide)).trans ((ev_ne _ _ (by decide)).trans eA385)))) (.tmp 87) (.tmp 88) rfl c.hd ok.lh (ev_eq _ _ (by simp [put_sz, szA3])) ((ev_ne _ _ (by decide)).trans (ev_eq _ _ (by simp [put_sz, szA3])))) hs1 ?_
  show wpAnyH _ _ _ _ _ _ _ ((((A3.put (some 86) (.pointer (some ⟨g, 0, none⟩))).put (some 88) (.agg (bvs c.hd))).put (some 87) (.agg (bvs c.hd))).put (some 89) (.bool false)) _
  refine wpAnyH_take (i := 21) (v := .bool false) rfl (by kernel_rfl) (by kernel_rfl) (by kernel_rfl) (fun _ _ _ h => nomatch h.1) (y_pickF (by simp [Region.wanted]) (.tmp 85) (.const (.bool true)) (.tmp 89) rfl _ ((ev_ne _ _ (by decide)).trans ((ev_ne _ _ (by decide)).trans ((ev_ne _ _ (by decide)).trans ((ev_ne _ _ (by decide)).trans eA385)))) (ev_eq _ _ (by simp [put_sz, szA3]))) hs1 ?_
  show wpAnyH _ _ _ _ _ _ _ (((((A3.put (some 86) (.pointer (some ⟨g, 0, none⟩))).put (some 88) (.agg (bvs c.hd))).put (some 87) (.agg (bvs c.hd))).put (some 89) (.bool false)).put (some 90) (.bool false)) _
  refine wpAnyH_take (i := 22) (v := .bool false) rfl (by kernel_rfl) (by kernel_rfl) (by kernel_rfl) (fun _ _ _ h => nomatch h.1) (yields_move (by simp [Region.wanted]) (.tmp 90) rfl _ (ev_eq _ _ (by simp [put_sz, szA3]))) hs1 ?_
  show wpAnyH _ _ _ _ _ _ _ ((((((A3.put (some 86) (.pointer (some ⟨g, 0, none⟩))).put (some 88) (.agg (bvs c.hd))).put (some 87) (.agg (bvs c.hd))).put (some 89) (.bool false)).put (some 90) (.bool false)).put (some 91) (.bool false)) _
  obtain ⟨A4, hA4⟩ : ∃ A4, A4 = ((((((A3.put (some 86) (.pointer (some ⟨g, 0, none⟩))).put (some 88) (.agg (bvs c.hd))).put (some 87) (.agg (bvs c.hd))).put (some 89) (.bool false)).put (some 90) (.bool false)).put (some 91) (.bool false)) := ⟨_, rfl⟩
  have szA4 : A4.tmps.size = 119 := by rw [hA4]; simp [put_sz, szA3]
  have eA45 : A4.eval (.tmp 5) = .pointer (some ⟨g, 0, none⟩) := by rw [hA4]; exact ((ev_ne _ _ (by decide)).trans ((ev_ne _ _ (by decide)).trans ((ev_ne _ _ (by decide)).trans ((ev_ne _ _ (by decide)).trans ((ev_ne _ _ (by decide)).trans ((ev_ne _ _ (by decide)).trans eA35))))))
  have eA410 : A4.eval (.tmp 10) = .int .i64 (c.cnt : Int) := by rw [hA4]; exact ((ev_ne _ _ (by decide)).trans ((ev_ne _ _ (by decide)).trans ((ev_ne _ _ (by decide)).trans ((ev_ne _ _ (by decide)).trans ((ev_ne _ _ (by decide)).trans ((ev_ne _ _ (by decide)).trans eA310))))))
  have eA491 : A4.eval (.tmp 91) = .bool false := by rw [hA4]; exact (ev_eq _ _ (by simp [put_sz, szA3]))
  rw [← hA4]
  refine wpAnyH_take (i := 23) (v := .pointer (some ⟨g, 0, none⟩)) rfl (by kernel_rfl) (by kernel_rfl) (by kernel_rfl) (fun _ _ _ h => nomatch h.1) (yields_move (wanted_f (i := 22) (d := 91) rfl rfl (by simp [szA4]) eA491) (.tmp 5) rfl _ eA45) hs1 ?_
  show wpAnyH _ _ _ _ _ _ _ (A4.put (some 92) (.pointer (some ⟨g, 0, none⟩))) _
  refine wpAnyH_take (i := 25) (v := .int .i64 (c.cnt : Int)) rfl (by kernel_rfl) (by kernel_rfl) (by kernel_rfl) (fun _ _ _ h => nomatch h.1) (yields_move (wanted_f (i := 22) (d := 91) rfl rfl (by simp [put_sz, szA4]) ((ev_ne _ _ (by decide)).trans eA491)) (.tmp 10) rfl _ ((ev_ne _ _ (by decide)).trans eA410)) hs1 ?_
  show wpAnyH _ _ _ _ _ _ _ ((A4.put (some 92) (.pointer (some ⟨g, 0, none⟩))).put (some 94) (.int .i64 (c.cnt : Int))) _
  refine wpAnyH_all (rs := [24]) (by kernel_rfl) (by simp) fun i2 hm2 => ?_
  obtain rfl : i2 = 24 := by simpa using hm2
  refine wpOp_own' rfl (wanted_f (i := 22) (d := 91) rfl rfl (by simp [put_sz, szA4]) ((ev_ne _ _ (by decide)).trans ((ev_ne _ _ (by decide)).trans eA491))) fun K2 hK2 => ?_
  refine wp_calls1 31 hf_count (.tmp 92) _ rfl (.pointer (some ⟨g, 0, none⟩)) ((ev_ne _ _ (by decide)).trans (ev_eq _ _ (by simp [szA4]))) ?_
  refine (count_any hs1.1 ok hc).mono ?_
  rintro _ V2 ⟨rfl, hb2⟩
  have hs2 : PrS B g h v c V2 := hs1.on hb2
  refine ⟨_, rfl, hK2 _ _ ⟨hs2, ?_⟩⟩
  clear hK2 K2 hm2
  show wpAnyH _ _ _ _ _ _ _ (((A4.put (some 92) (.pointer (some ⟨g, 0, none⟩))).put (some 94) (.int .i64 (c.cnt : Int))).put (some 93) (.int .i64 (c.cnt : Int))) _
  refine wpAnyH_take (i := 26) (v := .bool false) rfl (by kernel_rfl) (by kernel_rfl) (by kernel_rfl) (fun _ _ _ h => nomatch h.1) (y_neqI0 (wanted_f (i := 22) (d := 91) rfl rfl (by simp [put_sz, szA4]) ((ev_ne _ _ (by decide)).trans ((ev_ne _ _ (by decide)).trans ((ev_ne _ _ (by decide)).trans eA491)))) (.tmp 93) (.tmp 94) rfl _ (ev_eq _ _ (by simp [put_sz, szA4])) ((ev_ne _ _ (by decide)).trans (ev_eq _ _ (by simp [put_sz, szA4])))) hs2 ?_
  show wpAnyH _ _ _ _ _ _ _ ((((A4.put (some 92) (.pointer (some ⟨g, 0, none⟩))).put (some 94) (.int .i64 (c.cnt : Int))).put (some 93) (.int .i64 (c.cnt : Int))).put (some 95) (.bool false)) _
  refine wpAnyH_take (i := 27) (v := .bool false) rfl (by kernel_rfl) (by kernel_rfl) (by kernel_rfl) (fun _ _ _ h => nomatch h.1) (y_pickF (by simp [Region.wanted]) (.tmp 91) (.const (.bool true)) (.tmp 95) rfl _ ((ev_ne _ _ (by decide)).trans ((ev_ne _ _ (by decide)).trans ((ev_ne _ _ (by decide)).trans ((ev_ne _ _ (by decide)).trans eA491)))) (ev_eq _ _ (by simp [put_sz, szA4]))) hs2 ?_
  show wpAnyH _ _ _ _ _ _ _ (((((A4.put (some 92) (.pointer (some ⟨g, 0, none⟩))).put (some 94) (.int .i64 (c.cnt : Int))).put (some 93) (.int .i64 (c.cnt : Int))).put (some 95) (.bool false)).put (some 96) (.bool false)) _
  refine wpAnyH_take (i := 28) (v := .bool false) rfl (by kernel_rfl) (by kernel_rfl) (by kernel_rfl) (fun _ _ _ h => nomatch h.1) (yields_move (by simp [Region.wanted]) (.tmp 96) rfl _ (ev_eq _ _ (by simp [put_sz, szA4]))) hs2 ?_
  show wpAnyH _ _ _ _ _ _ _ ((((((A4.put (some 92) (.pointer (some ⟨g, 0, none⟩))).put (some 94) (.int .i64 (c.cnt : Int))).put (some 93) (.int .i64 (c.cnt : Int))).put (some 95) (.bool false)).put (some 96) (.bool false)).put (some 97) (.bool false)) _
  obtain ⟨A5, hA5⟩ : ∃ A5, A5 = ((((((A4.put (some 92) (.pointer (some ⟨g, 0, none⟩))).put (some 94) (.int .i64 (c.cnt : Int))).put (some 93) (.int .i64 (c.cnt : Int))).put (some 95) (.bool false)).put (some 96) (.bool false)).put (some 97) (.bool false)) := ⟨_, rfl⟩
  have szA5 : A5.tmps.size = 119 := by rw [hA5]; simp [put_sz, szA4]
  have eA55 : A5.eval (.tmp 5) = .pointer (some ⟨g, 0, none⟩) := by rw [hA5]; exact ((ev_ne _ _ (by decide)).trans ((ev_ne _ _ (by decide)).trans ((ev_ne _ _ (by decide)).trans ((ev_ne _ _ (by decide)).trans ((ev_ne _ _ (by decide)).trans ((ev_ne _ _ (by decide)).trans eA45))))))
  have eA597 : A5.eval (.tmp 97) = .bool false := by rw [hA5]; exact (ev_eq _ _ (by simp [put_sz, szA4]))
  rw [← hA5]
  refine wpAnyH_take (i := 29) (v := .pointer (some ⟨g, 0, none⟩)) rfl (by kernel_rfl) (by kernel_rfl) (by kernel_rfl) (fun _ _ _ h => nomatch h.1) (yields_move (wanted_f (i := 28) (d := 97) rfl rfl (by simp [szA5]) eA597) (.tmp 5) rfl _ eA55) hs2 ?_
  show wpAnyH _ _ _ _ _ _ _ (A5.put (some 98) (.pointer (some ⟨g, 0, none⟩))) _
  refine wpAnyH_all (rs := [30]) (by kernel_rfl) (by simp) fun i3 hm3 => ?_
  obtain rfl : i3 = 30 := by simpa using hm3
  refine wpOp_own' rfl (wanted_f (i := 28) (d := 97) rfl rfl (by simp [put_sz, szA5]) ((ev_ne _ _ (by decide)).trans eA597)) fun K3 hK3 => ?_
  refine wp_calls1 22 hf_verify (.tmp 98) _ rfl (.pointer (some ⟨g, 0, none⟩)) (ev_eq _ _ (by simp [szA5])) ?_
  refine (hver hs2).mono ?_
  rintro _ V3 ⟨rfl, hb3⟩
  have hs3 : PrS B g h v c V3 := hs2.on hb3
  refine ⟨_, rfl, hK3 _ _ ⟨hs3, ?_⟩⟩
  clear hK3 K3 hm3
  show wpAnyH _ _ _ _ _ _ _ ((A5.put (some 98) (.pointer (some ⟨g, 0, none⟩))).put (some 99) (.int .i64 0)) _
  refine wpAnyH_take (i := 31) (v := .bool false) rfl (by kernel_rfl) (by kernel_rfl) (by kernel_rfl) (fun _ _ _ h => nomatch h.1) (y_neqE (wanted_f (i := 28) (d := 97) rfl rfl (by simp [put_sz, szA5]) ((ev_ne _ _ (by decide)).trans ((ev_ne _ _ (by decide)).trans eA597))) (.tmp 99) (.const (.int .i64 0)) rfl 0 (ev_eq _ _ (by simp [put_sz, szA5])) rfl) hs3 ?_
  show wpAnyH _ _ _ _ _ _ _ (((A5.put (some 98) (.pointer (some ⟨g, 0, none⟩))).put (some 99) (.int .i64 0)).put (some 100) (.bool false)) _
  refine wpAnyH_take (i := 32) (v := .bool false) rfl (by kernel_rfl) (by kernel_rfl) (by kernel_rfl) (fun _ _ _ h => nomatch h.1) (y_pickF (by simp [Region.wanted]) (.tmp 97) (.const (.bool true)) (.tmp 100) rfl _ ((ev_ne _ _ (by decide)).trans ((ev_ne _ _ (by decide)).trans ((ev_ne _ _ (by decide)).trans eA597))) (ev_eq _ _ (by simp [put_sz, szA5]))) hs3 ?_
  show wpAnyH _ _ _ _ _ _ _ ((((A5.put (some 98) (.pointer (some ⟨g, 0, none⟩))).put (some 99) (.int .i64 0)).put (some 100) (.bool false)).put (some 101) (.bool false)) _
  exact wpAnyH_done (by kernel_rfl) ⟨rfl, by rw [hA5, hA4, hA3, hA2], (hb1.trans (hb2.mono hb1.size)).trans (hb3.mono (Nat.le_trans hb1.size hb2.size))⟩ _
end Go.Proofs.YtbfoigppcbmikaaDoor

/- What the walks over deeds share (out of AOrder, by gen/aprunes2.py). -/
namespace Go.Proofs.YtbfoigppcbmikaaDoor
open Go.RowKit Go.Shelf
set_option linter.unusedVariables false
set_option maxRecDepth 20000
/-- what is so behind k deeds -/
structure DInv (W : World) (B g r k : Nat) (wr : World) : Prop where
  pr : ∃ v u c, Pair wr B g r v u c ∧ Made c k
  tb : Tabs wr B
  bel : Below B W wr
theorem DInv.next {W wr w' : World} {B g r k : Nat} {c : Ch} {q : ADeed} {e : Ending} (hm : Made c k) (tb : Tabs wr B) (bel : Below B W wr) (h : DoPost wr B g r c q e w') : DInv W B g r (k + 1) w' := by
  obtain ⟨_, ⟨v', u', hp⟩, hb⟩ := h
  exact ⟨⟨v', u', _, hp, hm.step q⟩, tb.keep hb, bel.trans hb⟩
theorem size_deed : (Tryd.prog.info? 30).map (·.size) = some 5 := by kernel_rfl

/-- the numbers and times of a row of events -/
theorem ev_cells {w : World} {B c6 N : Nat} {a6 : Option Addr} {l : List Ev} (h : w.ownsRow B 59 4 (.slice a6 N c6) N (eCells l)) (hN : N = l.length) (h0 : 0 < N) : ∃ b, a6 = some ⟨b, 0, none⟩ ∧ ∀ i (hi : i < l.length), w.cell? ⟨b, i * 4, none⟩ = some (.int .i64 (l[i].num : Int)) ∧ w.cell? ⟨b, i * 4 + 1, none⟩ = some (.int .i64 (l[i].tim : Int)) := by
  subst hN
  rcases h.2 with ⟨_, h9⟩ | ⟨b, cap', cur, hv, _, hg, _, _, _, ht⟩
  · omega
  · cases hv
    refine ⟨b, rfl, fun i hi => ?_⟩
    have key : ∀ k, k < 4 → w.cell? ⟨b, i * 4 + k, none⟩ = (eVals l[i])[k]? := fun k hk => by
      have h1 : (cur.toList.take (l.length * 4))[i * 4 + k]? = (eVals l[i])[k]? := by rw [ht, eCells_get _ _ hi _ hk]
      rw [List.getElem?_take_of_lt (by omega)] at h1
      rw [cell_of_row _ _ _ _ _ _ hg, ← Array.getElem?_toList]
      exact h1
    exact ⟨key 0 (by omega), key 1 (by omega)⟩
theorem Below.drewNq {B : Nat} {w w' : World} (h : Below B w w') {n : Nat} : Below B w (w'.drewN n) := ⟨h.os, h.tape, h.output, h.size, h.block⟩
theorem _root_.Go.World.ownsRow.onB {w w' : World} {B e s n : Nat} {v : Value} {xs : List Value} (h : w.ownsRow B e s v n xs) (hb : Below w.heap.size w w') : w'.ownsRow B e s v n xs := by
  refine ⟨h.1, ?_⟩
  rcases h.2 with h0 | ⟨g, cap, cur, hv, hg, hgb, r⟩
  · exact .inl h0
  · exact .inr ⟨g, cap, cur, hv, hg, (hb.block _ (heap_lt hgb)).trans hgb, r⟩

end Go.Proofs.YtbfoigppcbmikaaDoor

/- AuditPrunes walked. -/
namespace Go.Proofs.YtbfoigppcbmikaaDoor
open Go.RowKit Go.Shelf
set_option linter.unusedVariables false
set_option maxRecDepth 20000
attribute [local go_sem ↓] loadL_fold storeL_fold loadH_fold storeH_fold buildH_fold


/-- the cells of a row of events -/
theorem ev_cells4 {w : World} {B c6 N : Nat} {a6 : Option Addr} {l : List Ev} (h : w.ownsRow B 59 4 (.slice a6 N c6) N (eCells l)) (hN : N = l.length) (h0 : 0 < N) : ∃ b, a6 = some ⟨b, 0, none⟩ ∧ ∀ i (hi : i < l.length), w.cell? ⟨b, i * 4, none⟩ = some (.int .i64 (l[i].num : Int)) ∧ w.cell? ⟨b, i * 4 + 1, none⟩ = some (.int .i64 (l[i].tim : Int)) ∧ w.cell? ⟨b, i * 4 + 2, none⟩ = some (.string l[i].what) ∧ w.cell? ⟨b, i * 4 + 3, none⟩ = some (.string l[i].who) := by
  subst hN
  rcases h.2 with ⟨_, h9⟩ | ⟨b, cap', cur, hv, _, hg, _, _, _, ht⟩
  · omega
  · cases hv
    refine ⟨b, rfl, fun i hi => ?_⟩
    have key : ∀ k, k < 4 → w.cell? ⟨b, i * 4 + k, none⟩ = (eVals l[i])[k]? := fun k hk => by
      have h1 : (cur.toList.take (l.length * 4))[i * 4 + k]? = (eVals l[i])[k]? := by rw [ht, eCells_get _ _ hi _ hk]
      rw [List.getElem?_take_of_lt (by omega)] at h1
      rw [cell_of_row _ _ _ _ _ _ hg, ← Array.getElem?_toList]
      exact h1
    exact ⟨key 0 (by omega), key 1 (by omega), key 2 (by omega), key 3 (by omega)⟩
theorem own_keep {w w' : World} {B e s n : Nat} {v : Value} {xs : List Value} (h : w.ownsRow B e s v n xs) (hb : ∀ j, B ≤ j → j < w.heap.size → w'.heap[j]? = w.heap[j]?) : w'.ownsRow B e s v n xs := by
  refine ⟨h.1, ?_⟩
  rcases h.2 with h0 | ⟨g, cap, cur, hv, hg, hgb, r⟩
  · exact .inl h0
  · exact .inr ⟨g, cap, cur, hv, hg, (hb _ hg (heap_lt hgb)).trans hgb, r⟩

set_option maxHeartbeats 4000000 in
theorem auditPrunes_walk {W : World} (l : List ADeed) (a : Option Addr) (cap : Nat) (hl : ADs W a l) (n : Int) (hn : (Lit.int .u8 n).wf = true) (hT : Tabs W W.heap.size) :
    Calls Tryd.prog 7 #[.slice a l.length cap, .int .u8 n] W fun e w' => e = .returned (.bool true) ∧ Below W.heap.size W w' := by
  have hn0 : 0 ≤ n ∧ n ≤ 255 := by simpa [Lit.wf, IntKind.min, IntKind.max, IntKind.signed, IntKind.bits] using hn
  clear hn
  have HT := hid hT
  have Hl := hid hl
  clear hT hl
  obtain ⟨B, hB⟩ : ∃ B, B = W.heap.size := ⟨_, rfl⟩
  have HB := hid hB
  rw [← hB] at HT
  clear hB
  go_enter Tryd.func7, Tryd.ntmps7
  go_wp2_with fail
  refine (new_any W).mono ?_
  rintro _ w1 ⟨g, rfl, h1, b1⟩
  rw [← HB.out] at h1 b1
  have H1 := hid h1
  have B1 := hid b1
  clear h1 b1
  go_wp2_with fail
  refine (rNew_any w1).mono ?_
  rintro _ w2 ⟨r, rfl, h2, b2⟩
  have hB1 : B ≤ w1.heap.size := by have := B1.out.size; have := HB.out; omega
  have hp2 : Pair w2 B g r (.slice none 0 0) (.slice none 0 0) ch0 := ⟨H1.out.below b2, h2.mono hB1, fun k hk => by cases hk⟩
  have B2 : Hid (Below B W w2) := B1.out.trans (b2.mono hB1)
  have hB2 : B ≤ w2.heap.size := Nat.le_trans hB1 b2.size
  have T2 := HT.out.keep B2.out
  have HL := hid (live_any (T2.mono hB2))
  have Hp2 := hid hp2
  have HT2 := hid T2
  clear h2 b2 hp2 T2 H1 B1
  go_wp2_with (go_at_call 13; refine HL.out.mono ?_; rintro _ w3 ⟨rfl, b3⟩; have hi3 : Hid (DInv W B g r 0 w3) := ⟨⟨_, _, _, Hp2.out.below b3, made0⟩, HT2.out.below hB2 b3, B2.out.trans (b3.mono hB2)⟩; clear b3)
  clear HL Hp2 HT2 B2
  go_loopw [7] (fun i wr => ∃ k : Nat, k ≤ l.length ∧ k ≤ 60 ∧ i = .int .i64 (k : Int) ∧ DInv W B g r k wr) (fun i _ => 60 - (intOf i).toNat)
  case atStart => exact ⟨0, Nat.zero_le _, Nat.zero_le _, rfl, hi3.out⟩
  case round =>
    clear hi3
    obtain ⟨k, hk, hk60, rfl, ⟨v, u, c, hp, hm⟩, htb, hbel⟩ := hrel
    have hlb := Hl.out.below HB.out hbel
    have Hp := hid hp
    have Hm := hid hm
    have Htb := hid htb
    have Hbel := hid hbel
    have Hlen : l.length ≤ 9223372036854775807 := Hl.out.len
    have hBr : B ≤ wr.heap.size := by have := hbel.size; have := HB.out; omega
    clear hp hm htb hbel
    by_cases hlt : k < l.length
    · have g1 : decide ((k : Int) < (l.length : Int)) = true := by simp; omega
      by_cases hlt2 : k < 60
      · have g2 : decide ((k : Int) < 60) = true := by simp; omega
        obtain ⟨b, o, rfl, hbl, hr⟩ := hlb.cells k hlt
        have hxs := Hl.out.sizes _ (List.getElem_mem hlt)
        generalize l[k] = x at *
        have Hdo := hid (do_any Hp.out Hm.out (by omega) Htb.out hBr x hxs.1 hxs.2)
        have d0 : wr.cell? ⟨b, o + k * 5, none⟩ = some (.int .i64 x.kind) := hr 0 _ rfl
        have d1 : wr.cell? ⟨b, o + k * 5 + 1, none⟩ = some (.int .i64 x.at') := hr 1 _ rfl
        have d2 : wr.cell? ⟨b, o + k * 5 + 2, none⟩ = some (.int .i64 x.n) := hr 2 _ rfl
        have d3 : wr.cell? ⟨b, o + k * 5 + 3, none⟩ = some (.string x.what) := hr 3 _ rfl
        have d4 : wr.cell? ⟨b, o + k * 5 + 4, none⟩ = some (.string x.who) := hr 4 _ rfl
        clear hr hxs hlb
        go_wp2_with ((go_at_call 16; refine Hdo.out.mono ?_; intro e w4 hd; obtain rfl := hd.1; have Hd := hid hd; clear hd))
        go_roundw
        case rel => exact ⟨k + 1, by omega, by omega, by go_num, DInv.next Hm.out Htb.out Hbel.out Hd.out⟩
        case measure => simp [intOf]; omega
      · have g2 : decide ((k : Int) < 60) = false := by simp; omega
        clear hlb
        have hcn : (ancC c).cnt < 1152921504606846976 := by have := Hm.out.cnt; show c.cnt < _; omega
        have HA := hid (anchor_any Hp.out.ch Hm.out.ok hcn)
        have hbg := Hp.out.ch.bg
        obtain ⟨c1, hc1⟩ : ∃ c1, c1 = ancC c := ⟨_, rfl⟩
        have M1 : Hid (Made c1 k) := by show Made _ _; rw [hc1]; exact Hm.out.anc
        have han : c1.an = c1.cnt := by rw [hc1]; rfl
        rw [← hc1] at HA hcn
        rw [show c.cnt = c1.cnt by rw [hc1]; rfl, show c.hd = c1.hd by rw [hc1]; rfl] at HA
        clear hc1
        obtain ⟨m, hm⟩ : ∃ m, m = c1.ev.length := ⟨_, rfl⟩
        have hm64 : m ≤ 64 := by have := M1.out.ok.few; omega
        have HE := hid (fun (X : World) (y : Value) (h : ChAt X B g y c1) => events_any h M1.out.ok)
        unfold EvPost at HE
        rw [← hm] at HE
        have HH := hid (fun (X : World) (y : Value) (h : ChAt X B g y c1) => head_any h M1.out.ok.l)
        have HC := hid (fun (X : World) (y : Value) (h : ChAt X B g y c1) => count_any h M1.out.ok hcn)
        obtain ⟨Z, hZ⟩ : ∃ Z, Z = bvs zero32 := ⟨_, rfl⟩
        have zh := (zero_of_info zero_hash).1
        rw [show bvs (List.replicate 32 0) = Z from hZ.symm] at zh
        obtain ⟨O, hO⟩ : ∃ O, O = bvs c1.hd := ⟨_, rfl⟩
        have hlh := M1.out.ok.lh
        have hSt : ∀ W : World, (storeH (.pointer (some ⟨W.heap.size, 0, none⟩)) (.agg O)).run Tryd.prog (W.alloc (.cells Z 49)) = .ok () (W.alloc (.cells O 49)) := fun W => by
          have := storeH_new W c1.hd zero32 hlh (by decide)
          rw [← hO, show bvs zero32 = Z from hZ.symm] at this
          exact this
        obtain ⟨cn, hcne⟩ : ∃ cn, cn = c1.cnt := ⟨_, rfl⟩
        rw [← hO] at HA HH
        rw [← hcne] at HA HC han hcn
        have hcm : cn = c1.bn + m := by rw [hcne, hm]; rfl
        have HO := hid hO
        have Hm' := hid hm
        have Hcne := hid hcne
        by_cases hm0 : m = 0
        · subst hm0
          have harg : (cn : Int) = ((c1.bn + 0 : Nat) : Int) := by omega
          have Harg := hid harg
          have Hcm := hid hcm
          have Han := hid han
          clear hZ hO hm hcne harg hcm han
          go_wp2_with (first
            | (go_at_call 29; refine HA.out.mono ?_; rintro _ w4 ⟨rfl, h4, o4⟩; have H4 := hid h4; have O4 := hid o4; clear h4 o4)
            | (go_at_call 30; refine (HE.out _ _ H4.out).mono ?_; rintro _ w5 ⟨a8, c8, rfl, hrow8, hb5⟩; have Hrow8 := hid hrow8; have Hb5 := hid hb5; have H5 := hid (H4.out.below hb5); clear hrow8 hb5)
            | (go_at_call 28; refine (HH.out _ _ H5.out).mono ?_; rintro _ w6 ⟨rfl, hb6⟩; have Hb6 := hid hb6; have H6 := hid (H5.out.below hb6); clear hb6)
            | (go_at_call 31; refine (HC.out _ _ H6.out).mono ?_; rintro _ w7 ⟨rfl, hb7⟩; have Hb7 := hid hb7; have H7 := hid (H6.out.below hb7); clear hb7))
          obtain ⟨w8, hw8⟩ : ∃ w8, w8 = w7.alloc (.cells O 49) := ⟨_, rfl⟩
          have b8 : Below w7.heap.size w7 w8 := by rw [hw8]; exact (Below.refl _ w7).alloc (Nat.le_refl _) _
          have f8 : w8.heap[w7.heap.size]? = some (.cells O 49 (0, 0)) := by rw [hw8]; exact heap_alloc_new w7 _
          rw [← hw8]
          have bb4 : Below B wr w4 := O4.out.below hBr (fun j hj => by rw [hj]; exact hbg)
          have hB4 : B ≤ w4.heap.size := Nat.le_trans hBr bb4.size
          have b48 : Below w4.heap.size w4 w8 := Below.on' (Below.on' (Below.on' Hb5.out Hb6.out) Hb7.out) b8
          have b58 : Below w5.heap.size w5 w8 := Below.on' (Below.on' Hb6.out Hb7.out) b8
          have T8 : Tabs w8 B := (Htb.out.keep bb4).below hB4 b48
          have hB8 : B ≤ w8.heap.size := Nat.le_trans hB4 b48.size
          have H8 := hid (H7.out.below b8)
          have hgl4 := H4.out.lt
          have hvl4 := hid H4.out.lts
          have hpo := prune_ok H8.out M1.out.ok (by rw [← Hcne.out]; exact hcn) T8 hB8 0 (by have := Hcm.out; have := Han.out; omega)
          rw [← Harg.out] at hpo
          refine hpo.mono ?_
          clear hpo
          rintro _ w9 ⟨v9, rfl, h9, o9, _⟩
          obtain ⟨c2, hc2⟩ : ∃ c2, c2 = pruC c1 0 := ⟨_, rfl⟩
          rw [← hc2] at h9
          have hle : c1.bn + 0 ≤ c1.an := by have := Hcm.out; have := Han.out; omega
          have ok2 : Hid (ChOk c2) := by show ChOk _; rw [hc2]; exact pruC_ok M1.out.ok hle
          have hv2 : Hid (verE c2 = 0) := by show _ = _; rw [hc2]; exact (M1.out.sound.pru M1.out.ok hle).ver
          have hd2 : Hid (c2.hd = c1.hd) := by show _ = _; rw [hc2]; rfl
          have hcn2 : Hid (c2.cnt = cn) := by show _ = _; rw [hc2, pruC_cnt M1.out.ok hle, Hcne.out]
          have he2 : Hid (c2.ev = c1.ev.drop 0) := by show _ = _; rw [hc2]; rfl
          have bb9 : Below B w8 w9 := o9.below hB8 H8.out.blk
          have T9 := hid (T8.keep bb9)
          have hB9 : B ≤ w9.heap.size := Nat.le_trans hB8 bb9.size
          have keep9 : Hid (∀ j, w4.heap.size ≤ j → j < w8.heap.size → w9.heap[j]? = w8.heap[j]?) := fun j h1 h2 => o9.block j h2 (fun x => by
            rcases x with x | x
            · omega
            · have := (hvl4.out j x).2; omega)
          have hw78 : w7.heap.size < w8.heap.size := heap_lt f8
          have hw47 : w4.heap.size ≤ w7.heap.size := Nat.le_trans (Nat.le_trans Hb5.out.size Hb6.out.size) Hb7.out.size
          have f9 := hid ((keep9.out _ hw47 hw78).trans f8)
          have row9 : Hid (w9.ownsRow w4.heap.size 59 4 (.slice a8 0 c8) 0 (eCells c1.ev)) := own_keep (Hrow8.out.onB b58) (fun j h1 h2 => keep9.out j h1 h2)
          have BW9 := hid ((Hbel.out.trans bb4).trans ((b48.mono hB4).trans bb9))
          obtain ⟨mk, hmk⟩ : ∃ mk, 0 = mk + 0 := ⟨0 - 0, by omega⟩
          have hlen2 : c2.ev.length = mk := by rw [he2.out, List.length_drop, ← Hm'.out]; omega
          have Hmk := hid hmk
          clear hmk
          have HE2 := hid (events_any h9 ok2.out)
          unfold EvPost at HE2
          rw [hlen2] at HE2
          have Hlen2 := hid hlen2
          have H9 := hid h9
          have hw9h : w7.heap.size ≠ g := by omega
          clear h9 o9 hc2 hle bb9 T8 f8 b8 b48 b58 bb4 hlen2 hw8 Hrow8 H4 H5 H6 H7 H8 HA HE HH HC hw78
          go_wp2_with (go_at_call 30; refine HE2.out.mono ?_; rintro _ w10 ⟨a15, c15, rfl, hrow, hb10⟩; have Hrow15 := hid hrow; have Hb10 := hid hb10; clear hrow hb10)
          obtain ⟨V0, hV0⟩ : ∃ V0, V0 = w10.drew := ⟨_, rfl⟩
          have b10 : Below w10.heap.size w10 V0 := by rw [hV0]; exact (Below.refl _ w10).drew
          have b9V : Below w9.heap.size w9 V0 := Below.on' Hb10.out b10
          have hPr : PrS B g w7.heap.size v9 c2 V0 := ⟨H9.out.below b9V, by rw [hd2.out]; exact (b9V.block _ (heap_lt f9.out)).trans (by rw [f9.out, HO.out]; rfl), T9.out.below hB9 b9V, Nat.le_trans hB9 b9V.size⟩
          refine wp_act _ fun A hA => ?_
          have sz : A.tmps.size = 119 := by rw [hA]; rfl
          have e5 : A.eval (.tmp 5) = .pointer (some ⟨g, 0, none⟩) := by rw [hA]; rfl
          have e8 : A.eval (.tmp 8) = .slice a8 (mk + 0) c8 := by rw [hA, ← Hmk.out]; rfl
          have e9 : A.eval (.tmp 9) = .pointer (some ⟨w7.heap.size, 0, none⟩) := by rw [hA]; rfl
          have e10 : A.eval (.tmp 10) = .int .i64 (c2.cnt : Int) := by rw [hA, hcn2.out]; rfl
          have e12 : A.eval (.tmp 12) = .int .i64 ((0 : Nat) : Int) := by rw [hA]; rfl
          have e13 : A.eval (.tmp 13) = .int .i64 ((0 : Nat) : Int) := by rw [hA]; rfl
          have e14 : A.eval (.tmp 14) = .int .i64 0 := by rw [hA]; rfl
          have e15 : A.eval (.tmp 15) = .slice a15 mk c15 := by rw [hA]; rfl
          refine wp_split _ (prunes_region sz e5 e8 e9 e10 e12 e13 e14 e15 hV0 hPr ok2.out (by rw [hcn2.out]; exact hcn) hv2.out (by have := Hmk.out; omega)) ?_
          rintro _ V1 ⟨rfl, bV1⟩
          rw [hA]
          simp only [Act.put, List.setIfInBounds_toArray, List.set_cons_succ, List.set_cons_zero]
          clear sz e5 e8 e9 e10 e12 e13 e14 e15 hA A
          have B10 := hid (Below.on' b10 bV1)
          clear bV1 b10 hV0 hPr b9V
          go_wp2_with fail
          go_loopw [16] (fun j w' => ∃ i : Nat, i ≤ mk ∧ j = .int .i64 (i : Int) ∧ Below w10.heap.size w10 w') (fun j _ => mk - (intOf j).toNat)
          case atStart => exact ⟨0, Nat.zero_le _, rfl, B10.out⟩
          case round =>
            obtain ⟨i, hi, rfl, hbq⟩ := hrel
            have Hbq := hid hbq
            clear hbq B10
            by_cases hiN : i < mk
            · exact absurd hiN (by have := Hmk.out; omega)
            · have p1 : ¬ (i : Int) < (mk : Int) := by omega
              go_wp2_with fail
              go_ret
              exact ⟨rfl, by rw [← HB.out]; exact (BW9.out.trans (Hb10.out.mono hB9)).trans (Hbq.out.mono (Nat.le_trans hB9 Hb10.out.size))⟩
        · have dm : decide ((0 : Int) < (m : Int)) = true := decide_eq_true (by omega)
          obtain ⟨kk, hto⟩ : ∃ kk : Nat, n % ((m : Int) + 1) = kk := ⟨(n % ((m : Int) + 1)).toNat, by have := Int.emod_nonneg n (show (m : Int) + 1 ≠ 0 by omega); omega⟩
          have hkm : kk ≤ m := by have := Int.emod_lt_of_pos n (show (0 : Int) < (m : Int) + 1 by omega); omega
          have harg : (cn : Int) - (m : Int) + (kk : Int) = ((c1.bn + kk : Nat) : Int) := by omega
          have Harg := hid harg
          have Hcm := hid hcm
          have Han := hid han
          clear hZ hO hm hcne harg hcm han
          go_wp2_with (first
            | (go_at_call 29; refine HA.out.mono ?_; rintro _ w4 ⟨rfl, h4, o4⟩; have H4 := hid h4; have O4 := hid o4; clear h4 o4)
            | (go_at_call 30; refine (HE.out _ _ H4.out).mono ?_; rintro _ w5 ⟨a8, c8, rfl, hrow8, hb5⟩; have Hrow8 := hid hrow8; have Hb5 := hid hb5; have H5 := hid (H4.out.below hb5); clear hrow8 hb5)
            | (go_at_call 28; refine (HH.out _ _ H5.out).mono ?_; rintro _ w6 ⟨rfl, hb6⟩; have Hb6 := hid hb6; have H6 := hid (H5.out.below hb6); clear hb6)
            | (go_at_call 31; refine (HC.out _ _ H6.out).mono ?_; rintro _ w7 ⟨rfl, hb7⟩; have Hb7 := hid hb7; have H7 := hid (H6.out.below hb7); clear hb7))
          obtain ⟨w8, hw8⟩ : ∃ w8, w8 = w7.alloc (.cells O 49) := ⟨_, rfl⟩
          have b8 : Below w7.heap.size w7 w8 := by rw [hw8]; exact (Below.refl _ w7).alloc (Nat.le_refl _) _
          have f8 : w8.heap[w7.heap.size]? = some (.cells O 49 (0, 0)) := by rw [hw8]; exact heap_alloc_new w7 _
          rw [← hw8]
          have bb4 : Below B wr w4 := O4.out.below hBr (fun j hj => by rw [hj]; exact hbg)
          have hB4 : B ≤ w4.heap.size := Nat.le_trans hBr bb4.size
          have b48 : Below w4.heap.size w4 w8 := Below.on' (Below.on' (Below.on' Hb5.out Hb6.out) Hb7.out) b8
          have b58 : Below w5.heap.size w5 w8 := Below.on' (Below.on' Hb6.out Hb7.out) b8
          have T8 : Tabs w8 B := (Htb.out.keep bb4).below hB4 b48
          have hB8 : B ≤ w8.heap.size := Nat.le_trans hB4 b48.size
          have H8 := hid (H7.out.below b8)
          have hgl4 := H4.out.lt
          have hvl4 := hid H4.out.lts
          have hpo := prune_ok H8.out M1.out.ok (by rw [← Hcne.out]; exact hcn) T8 hB8 kk (by have := Hcm.out; have := Han.out; omega)
          rw [← Harg.out] at hpo
          refine hpo.mono ?_
          clear hpo
          rintro _ w9 ⟨v9, rfl, h9, o9, _⟩
          obtain ⟨c2, hc2⟩ : ∃ c2, c2 = pruC c1 kk := ⟨_, rfl⟩
          rw [← hc2] at h9
          have hle : c1.bn + kk ≤ c1.an := by have := Hcm.out; have := Han.out; omega
          have ok2 : Hid (ChOk c2) := by show ChOk _; rw [hc2]; exact pruC_ok M1.out.ok hle
          have hv2 : Hid (verE c2 = 0) := by show _ = _; rw [hc2]; exact (M1.out.sound.pru M1.out.ok hle).ver
          have hd2 : Hid (c2.hd = c1.hd) := by show _ = _; rw [hc2]; rfl
          have hcn2 : Hid (c2.cnt = cn) := by show _ = _; rw [hc2, pruC_cnt M1.out.ok hle, Hcne.out]
          have he2 : Hid (c2.ev = c1.ev.drop kk) := by show _ = _; rw [hc2]; rfl
          have bb9 : Below B w8 w9 := o9.below hB8 H8.out.blk
          have T9 := hid (T8.keep bb9)
          have hB9 : B ≤ w9.heap.size := Nat.le_trans hB8 bb9.size
          have keep9 : Hid (∀ j, w4.heap.size ≤ j → j < w8.heap.size → w9.heap[j]? = w8.heap[j]?) := fun j h1 h2 => o9.block j h2 (fun x => by
            rcases x with x | x
            · omega
            · have := (hvl4.out j x).2; omega)
          have hw78 : w7.heap.size < w8.heap.size := heap_lt f8
          have hw47 : w4.heap.size ≤ w7.heap.size := Nat.le_trans (Nat.le_trans Hb5.out.size Hb6.out.size) Hb7.out.size
          have f9 := hid ((keep9.out _ hw47 hw78).trans f8)
          have row9 : Hid (w9.ownsRow w4.heap.size 59 4 (.slice a8 m c8) m (eCells c1.ev)) := own_keep (Hrow8.out.onB b58) (fun j h1 h2 => keep9.out j h1 h2)
          have BW9 := hid ((Hbel.out.trans bb4).trans ((b48.mono hB4).trans bb9))
          obtain ⟨mk, hmk⟩ : ∃ mk, m = mk + kk := ⟨m - kk, by omega⟩
          have hlen2 : c2.ev.length = mk := by rw [he2.out, List.length_drop, ← Hm'.out]; omega
          have Hmk := hid hmk
          clear hmk
          have HE2 := hid (events_any h9 ok2.out)
          unfold EvPost at HE2
          rw [hlen2] at HE2
          have Hlen2 := hid hlen2
          have H9 := hid h9
          have hw9h : w7.heap.size ≠ g := by omega
          clear h9 o9 hc2 hle bb9 T8 f8 b8 b48 b58 bb4 hlen2 hw8 Hrow8 H4 H5 H6 H7 H8 HA HE HH HC hw78
          go_wp2_with (go_at_call 30; refine HE2.out.mono ?_; rintro _ w10 ⟨a15, c15, rfl, hrow, hb10⟩; have Hrow15 := hid hrow; have Hb10 := hid hb10; clear hrow hb10)
          obtain ⟨V0, hV0⟩ : ∃ V0, V0 = w10.drew := ⟨_, rfl⟩
          have b10 : Below w10.heap.size w10 V0 := by rw [hV0]; exact (Below.refl _ w10).drew
          have b9V : Below w9.heap.size w9 V0 := Below.on' Hb10.out b10
          have hPr : PrS B g w7.heap.size v9 c2 V0 := ⟨H9.out.below b9V, by rw [hd2.out]; exact (b9V.block _ (heap_lt f9.out)).trans (by rw [f9.out, HO.out]; rfl), T9.out.below hB9 b9V, Nat.le_trans hB9 b9V.size⟩
          refine wp_act _ fun A hA => ?_
          have sz : A.tmps.size = 119 := by rw [hA]; rfl
          have e5 : A.eval (.tmp 5) = .pointer (some ⟨g, 0, none⟩) := by rw [hA]; rfl
          have e8 : A.eval (.tmp 8) = .slice a8 (mk + kk) c8 := by rw [hA, ← Hmk.out]; rfl
          have e9 : A.eval (.tmp 9) = .pointer (some ⟨w7.heap.size, 0, none⟩) := by rw [hA]; rfl
          have e10 : A.eval (.tmp 10) = .int .i64 (c2.cnt : Int) := by rw [hA, hcn2.out]; rfl
          have e12 : A.eval (.tmp 12) = .int .i64 ((kk : Nat) : Int) := by rw [hA]; rfl
          have e13 : A.eval (.tmp 13) = .int .i64 ((kk : Nat) : Int) := by rw [hA]; rfl
          have e14 : A.eval (.tmp 14) = .int .i64 0 := by rw [hA]; rfl
          have e15 : A.eval (.tmp 15) = .slice a15 mk c15 := by rw [hA]; rfl
          refine wp_split _ (prunes_region sz e5 e8 e9 e10 e12 e13 e14 e15 hV0 hPr ok2.out (by rw [hcn2.out]; exact hcn) hv2.out (by have := Hmk.out; omega)) ?_
          rintro _ V1 ⟨rfl, bV1⟩
          rw [hA]
          simp only [Act.put, List.setIfInBounds_toArray, List.set_cons_succ, List.set_cons_zero]
          clear sz e5 e8 e9 e10 e12 e13 e14 e15 hA A
          have B10 := hid (Below.on' b10 bV1)
          clear bV1 b10 hV0 hPr b9V
          go_wp2_with fail
          go_loopw [16] (fun j w' => ∃ i : Nat, i ≤ mk ∧ j = .int .i64 (i : Int) ∧ Below w10.heap.size w10 w') (fun j _ => mk - (intOf j).toNat)
          case atStart => exact ⟨0, Nat.zero_le _, rfl, B10.out⟩
          case round =>
            obtain ⟨i, hi, rfl, hbq⟩ := hrel
            have Hbq := hid hbq
            clear hbq B10
            by_cases hiN : i < mk
            · have p1 : (i : Int) < (mk : Int) := by omega
              obtain ⟨b15, rfl, hcs15⟩ := ev_cells4 (Hrow15.out.onB Hbq.out) Hlen2.out.symm (by omega)
              obtain ⟨b8, rfl, hcs8⟩ := ev_cells4 (row9.out.onB (Below.on' Hb10.out Hbq.out)) Hm'.out (by have := Hmk.out; omega)
              obtain ⟨x0, x1, x2, x3⟩ := hcs15 i (by have := Hlen2.out; omega)
              have hge : c2.ev[i]'(by have := Hlen2.out; omega) = c1.ev[kk + i]'(by have := Hmk.out; have := Hm'.out; omega) := by
                simp only [he2.out, List.getElem_drop]
              obtain ⟨j, hj⟩ : ∃ j, j = kk + i := ⟨_, rfl⟩
              have hjm : (j : Int) < ((m : Nat) : Int) := by have := Hmk.out; omega
              have hjk : ((kk : Nat) : Int) + (i : Int) = (j : Int) := by omega
              obtain ⟨y0, y1, y2, y3⟩ := hcs8 j (by have := Hmk.out; have := Hm'.out; omega)
              rw [hge] at x0 x1 x2 x3
              simp only [← hj] at x0 x1 x2 x3
              generalize c1.ev[j]'(by have := Hmk.out; have := Hm'.out; omega) = ev at *
              generalize ev.num = q0 at *
              generalize ev.tim = q1 at *
              generalize ev.what = q2 at *
              generalize ev.who = q3 at *
              have Hj := hid hj
              clear hj hge hcs15 hcs8
              go_wp2_with fail
              go_quiet (fail)
              go_wp2
              go_roundw
              case rel => exact ⟨i + 1, by omega, by go_num, Below.drewNq Hbq.out⟩
              case measure => simp [intOf]; omega
            · have p1 : ¬ (i : Int) < (mk : Int) := by omega
              go_wp2_with fail
              go_ret
              exact ⟨rfl, by rw [← HB.out]; exact (BW9.out.trans (Hb10.out.mono hB9)).trans (Hbq.out.mono (Nat.le_trans hB9 Hb10.out.size))⟩
    · have g1 : decide ((k : Int) < (l.length : Int)) = false := by simp; omega
      clear hlb
      have hcn : (ancC c).cnt < 1152921504606846976 := by have := Hm.out.cnt; show c.cnt < _; omega
      have HA := hid (anchor_any Hp.out.ch Hm.out.ok hcn)
      have hbg := Hp.out.ch.bg
      obtain ⟨c1, hc1⟩ : ∃ c1, c1 = ancC c := ⟨_, rfl⟩
      have M1 : Hid (Made c1 k) := by show Made _ _; rw [hc1]; exact Hm.out.anc
      have han : c1.an = c1.cnt := by rw [hc1]; rfl
      rw [← hc1] at HA hcn
      rw [show c.cnt = c1.cnt by rw [hc1]; rfl, show c.hd = c1.hd by rw [hc1]; rfl] at HA
      clear hc1
      obtain ⟨m, hm⟩ : ∃ m, m = c1.ev.length := ⟨_, rfl⟩
      have hm64 : m ≤ 64 := by have := M1.out.ok.few; omega
      have HE := hid (fun (X : World) (y : Value) (h : ChAt X B g y c1) => events_any h M1.out.ok)
      unfold EvPost at HE
      rw [← hm] at HE
      have HH := hid (fun (X : World) (y : Value) (h : ChAt X B g y c1) => head_any h M1.out.ok.l)
      have HC := hid (fun (X : World) (y : Value) (h : ChAt X B g y c1) => count_any h M1.out.ok hcn)
      obtain ⟨Z, hZ⟩ : ∃ Z, Z = bvs zero32 := ⟨_, rfl⟩
      have zh := (zero_of_info zero_hash).1
      rw [show bvs (List.replicate 32 0) = Z from hZ.symm] at zh
      obtain ⟨O, hO⟩ : ∃ O, O = bvs c1.hd := ⟨_, rfl⟩
      have hlh := M1.out.ok.lh
      have hSt : ∀ W : World, (storeH (.pointer (some ⟨W.heap.size, 0, none⟩)) (.agg O)).run Tryd.prog (W.alloc (.cells Z 49)) = .ok () (W.alloc (.cells O 49)) := fun W => by
        have := storeH_new W c1.hd zero32 hlh (by decide)
        rw [← hO, show bvs zero32 = Z from hZ.symm] at this
        exact this
      obtain ⟨cn, hcne⟩ : ∃ cn, cn = c1.cnt := ⟨_, rfl⟩
      rw [← hO] at HA HH
      rw [← hcne] at HA HC han hcn
      have hcm : cn = c1.bn + m := by rw [hcne, hm]; rfl
      have HO := hid hO
      have Hm' := hid hm
      have Hcne := hid hcne
      by_cases hm0 : m = 0
      · subst hm0
        have harg : (cn : Int) = ((c1.bn + 0 : Nat) : Int) := by omega
        have Harg := hid harg
        have Hcm := hid hcm
        have Han := hid han
        clear hZ hO hm hcne harg hcm han
        go_wp2_with (first
          | (go_at_call 29; refine HA.out.mono ?_; rintro _ w4 ⟨rfl, h4, o4⟩; have H4 := hid h4; have O4 := hid o4; clear h4 o4)
          | (go_at_call 30; refine (HE.out _ _ H4.out).mono ?_; rintro _ w5 ⟨a8, c8, rfl, hrow8, hb5⟩; have Hrow8 := hid hrow8; have Hb5 := hid hb5; have H5 := hid (H4.out.below hb5); clear hrow8 hb5)
          | (go_at_call 28; refine (HH.out _ _ H5.out).mono ?_; rintro _ w6 ⟨rfl, hb6⟩; have Hb6 := hid hb6; have H6 := hid (H5.out.below hb6); clear hb6)
          | (go_at_call 31; refine (HC.out _ _ H6.out).mono ?_; rintro _ w7 ⟨rfl, hb7⟩; have Hb7 := hid hb7; have H7 := hid (H6.out.below hb7); clear hb7))
        obtain ⟨w8, hw8⟩ : ∃ w8, w8 = w7.alloc (.cells O 49) := ⟨_, rfl⟩
        have b8 : Below w7.heap.size w7 w8 := by rw [hw8]; exact (Below.refl _ w7).alloc (Nat.le_refl _) _
        have f8 : w8.heap[w7.heap.size]? = some (.cells O 49 (0, 0)) := by rw [hw8]; exact heap_alloc_new w7 _
        rw [← hw8]
        have bb4 : Below B wr w4 := O4.out.below hBr (fun j hj => by rw [hj]; exact hbg)
        have hB4 : B ≤ w4.heap.size := Nat.le_trans hBr bb4.size
        have b48 : Below w4.heap.size w4 w8 := Below.on' (Below.on' (Below.on' Hb5.out Hb6.out) Hb7.out) b8
        have b58 : Below w5.heap.size w5 w8 := Below.on' (Below.on' Hb6.out Hb7.out) b8
        have T8 : Tabs w8 B := (Htb.out.keep bb4).below hB4 b48
        have hB8 : B ≤ w8.heap.size := Nat.le_trans hB4 b48.size
        have H8 := hid (H7.out.below b8)
        have hgl4 := H4.out.lt
        have hvl4 := hid H4.out.lts
        have hpo := prune_ok H8.out M1.out.ok (by rw [← Hcne.out]; exact hcn) T8 hB8 0 (by have := Hcm.out; have := Han.out; omega)
        rw [← Harg.out] at hpo
        refine hpo.mono ?_
        clear hpo
        rintro _ w9 ⟨v9, rfl, h9, o9, _⟩
        obtain ⟨c2, hc2⟩ : ∃ c2, c2 = pruC c1 0 := ⟨_, rfl⟩
        rw [← hc2] at h9
        have hle : c1.bn + 0 ≤ c1.an := by have := Hcm.out; have := Han.out; omega
        have ok2 : Hid (ChOk c2) := by show ChOk _; rw [hc2]; exact pruC_ok M1.out.ok hle
        have hv2 : Hid (verE c2 = 0) := by show _ = _; rw [hc2]; exact (M1.out.sound.pru M1.out.ok hle).ver
        have hd2 : Hid (c2.hd = c1.hd) := by show _ = _; rw [hc2]; rfl
        have hcn2 : Hid (c2.cnt = cn) := by show _ = _; rw [hc2, pruC_cnt M1.out.ok hle, Hcne.out]
        have he2 : Hid (c2.ev = c1.ev.drop 0) := by show _ = _; rw [hc2]; rfl
        have bb9 : Below B w8 w9 := o9.below hB8 H8.out.blk
        have T9 := hid (T8.keep bb9)
        have hB9 : B ≤ w9.heap.size := Nat.le_trans hB8 bb9.size
        have keep9 : Hid (∀ j, w4.heap.size ≤ j → j < w8.heap.size → w9.heap[j]? = w8.heap[j]?) := fun j h1 h2 => o9.block j h2 (fun x => by
          rcases x with x | x
          · omega
          · have := (hvl4.out j x).2; omega)
        have hw78 : w7.heap.size < w8.heap.size := heap_lt f8
        have hw47 : w4.heap.size ≤ w7.heap.size := Nat.le_trans (Nat.le_trans Hb5.out.size Hb6.out.size) Hb7.out.size
        have f9 := hid ((keep9.out _ hw47 hw78).trans f8)
        have row9 : Hid (w9.ownsRow w4.heap.size 59 4 (.slice a8 0 c8) 0 (eCells c1.ev)) := own_keep (Hrow8.out.onB b58) (fun j h1 h2 => keep9.out j h1 h2)
        have BW9 := hid ((Hbel.out.trans bb4).trans ((b48.mono hB4).trans bb9))
        obtain ⟨mk, hmk⟩ : ∃ mk, 0 = mk + 0 := ⟨0 - 0, by omega⟩
        have hlen2 : c2.ev.length = mk := by rw [he2.out, List.length_drop, ← Hm'.out]; omega
        have Hmk := hid hmk
        clear hmk
        have HE2 := hid (events_any h9 ok2.out)
        unfold EvPost at HE2
        rw [hlen2] at HE2
        have Hlen2 := hid hlen2
        have H9 := hid h9
        have hw9h : w7.heap.size ≠ g := by omega
        clear h9 o9 hc2 hle bb9 T8 f8 b8 b48 b58 bb4 hlen2 hw8 Hrow8 H4 H5 H6 H7 H8 HA HE HH HC hw78
        go_wp2_with (go_at_call 30; refine HE2.out.mono ?_; rintro _ w10 ⟨a15, c15, rfl, hrow, hb10⟩; have Hrow15 := hid hrow; have Hb10 := hid hb10; clear hrow hb10)
        obtain ⟨V0, hV0⟩ : ∃ V0, V0 = w10.drew := ⟨_, rfl⟩
        have b10 : Below w10.heap.size w10 V0 := by rw [hV0]; exact (Below.refl _ w10).drew
        have b9V : Below w9.heap.size w9 V0 := Below.on' Hb10.out b10
        have hPr : PrS B g w7.heap.size v9 c2 V0 := ⟨H9.out.below b9V, by rw [hd2.out]; exact (b9V.block _ (heap_lt f9.out)).trans (by rw [f9.out, HO.out]; rfl), T9.out.below hB9 b9V, Nat.le_trans hB9 b9V.size⟩
        refine wp_act _ fun A hA => ?_
        have sz : A.tmps.size = 119 := by rw [hA]; rfl
        have e5 : A.eval (.tmp 5) = .pointer (some ⟨g, 0, none⟩) := by rw [hA]; rfl
        have e8 : A.eval (.tmp 8) = .slice a8 (mk + 0) c8 := by rw [hA, ← Hmk.out]; rfl
        have e9 : A.eval (.tmp 9) = .pointer (some ⟨w7.heap.size, 0, none⟩) := by rw [hA]; rfl
        have e10 : A.eval (.tmp 10) = .int .i64 (c2.cnt : Int) := by rw [hA, hcn2.out]; rfl
        have e12 : A.eval (.tmp 12) = .int .i64 ((0 : Nat) : Int) := by rw [hA]; rfl
        have e13 : A.eval (.tmp 13) = .int .i64 ((0 : Nat) : Int) := by rw [hA]; rfl
        have e14 : A.eval (.tmp 14) = .int .i64 0 := by rw [hA]; rfl
        have e15 : A.eval (.tmp 15) = .slice a15 mk c15 := by rw [hA]; rfl
        refine wp_split _ (prunes_region sz e5 e8 e9 e10 e12 e13 e14 e15 hV0 hPr ok2.out (by rw [hcn2.out]; exact hcn) hv2.out (by have := Hmk.out; omega)) ?_
        rintro _ V1 ⟨rfl, bV1⟩
        rw [hA]
        simp only [Act.put, List.setIfInBounds_toArray, List.set_cons_succ, List.set_cons_zero]
        clear sz e5 e8 e9 e10 e12 e13 e14 e15 hA A
        have B10 := hid (Below.on' b10 bV1)
        clear bV1 b10 hV0 hPr b9V
        go_wp2_with fail
        go_loopw [16] (fun j w' => ∃ i : Nat, i ≤ mk ∧ j = .int .i64 (i : Int) ∧ Below w10.heap.size w10 w') (fun j _ => mk - (intOf j).toNat)
        case atStart => exact ⟨0, Nat.zero_le _, rfl, B10.out⟩
        case round =>
          obtain ⟨i, hi, rfl, hbq⟩ := hrel
          have Hbq := hid hbq
          clear hbq B10
          by_cases hiN : i < mk
          · exact absurd hiN (by have := Hmk.out; omega)
          · have p1 : ¬ (i : Int) < (mk : Int) := by omega
            go_wp2_with fail
            go_ret
            exact ⟨rfl, by rw [← HB.out]; exact (BW9.out.trans (Hb10.out.mono hB9)).trans (Hbq.out.mono (Nat.le_trans hB9 Hb10.out.size))⟩
      · have dm : decide ((0 : Int) < (m : Int)) = true := decide_eq_true (by omega)
        obtain ⟨kk, hto⟩ : ∃ kk : Nat, n % ((m : Int) + 1) = kk := ⟨(n % ((m : Int) + 1)).toNat, by have := Int.emod_nonneg n (show (m : Int) + 1 ≠ 0 by omega); omega⟩
        have hkm : kk ≤ m := by have := Int.emod_lt_of_pos n (show (0 : Int) < (m : Int) + 1 by omega); omega
        have harg : (cn : Int) - (m : Int) + (kk : Int) = ((c1.bn + kk : Nat) : Int) := by omega
        have Harg := hid harg
        have Hcm := hid hcm
        have Han := hid han
        clear hZ hO hm hcne harg hcm han
        go_wp2_with (first
          | (go_at_call 29; refine HA.out.mono ?_; rintro _ w4 ⟨rfl, h4, o4⟩; have H4 := hid h4; have O4 := hid o4; clear h4 o4)
          | (go_at_call 30; refine (HE.out _ _ H4.out).mono ?_; rintro _ w5 ⟨a8, c8, rfl, hrow8, hb5⟩; have Hrow8 := hid hrow8; have Hb5 := hid hb5; have H5 := hid (H4.out.below hb5); clear hrow8 hb5)
          | (go_at_call 28; refine (HH.out _ _ H5.out).mono ?_; rintro _ w6 ⟨rfl, hb6⟩; have Hb6 := hid hb6; have H6 := hid (H5.out.below hb6); clear hb6)
          | (go_at_call 31; refine (HC.out _ _ H6.out).mono ?_; rintro _ w7 ⟨rfl, hb7⟩; have Hb7 := hid hb7; have H7 := hid (H6.out.below hb7); clear hb7))
        obtain ⟨w8, hw8⟩ : ∃ w8, w8 = w7.alloc (.cells O 49) := ⟨_, rfl⟩
        have b8 : Below w7.heap.size w7 w8 := by rw [hw8]; exact (Below.refl _ w7).alloc (Nat.le_refl _) _
        have f8 : w8.heap[w7.heap.size]? = some (.cells O 49 (0, 0)) := by rw [hw8]; exact heap_alloc_new w7 _
        rw [← hw8]
        have bb4 : Below B wr w4 := O4.out.below hBr (fun j hj => by rw [hj]; exact hbg)
        have hB4 : B ≤ w4.heap.size := Nat.le_trans hBr bb4.size
        have b48 : Below w4.heap.size w4 w8 := Below.on' (Below.on' (Below.on' Hb5.out Hb6.out) Hb7.out) b8
        have b58 : Below w5.heap.size w5 w8 := Below.on' (Below.on' Hb6.out Hb7.out) b8
        have T8 : Tabs w8 B := (Htb.out.keep bb4).below hB4 b48
        have hB8 : B ≤ w8.heap.size := Nat.le_trans hB4 b48.size
        have H8 := hid (H7.out.below b8)
        have hgl4 := H4.out.lt
        have hvl4 := hid H4.out.lts
        have hpo := prune_ok H8.out M1.out.ok (by rw [← Hcne.out]; exact hcn) T8 hB8 kk (by have := Hcm.out; have := Han.out; omega)
        rw [← Harg.out] at hpo
        refine hpo.mono ?_
        clear hpo
        rintro _ w9 ⟨v9, rfl, h9, o9, _⟩
        obtain ⟨c2, hc2⟩ : ∃ c2, c2 = pruC c1 kk := ⟨_, rfl⟩
        rw [← hc2] at h9
        have hle : c1.bn + kk ≤ c1.an := by have := Hcm.out; have := Han.out; omega
        have ok2 : Hid (ChOk c2) := by show ChOk _; rw [hc2]; exact pruC_ok M1.out.ok hle
        have hv2 : Hid (verE c2 = 0) := by show _ = _; rw [hc2]; exact (M1.out.sound.pru M1.out.ok hle).ver
        have hd2 : Hid (c2.hd = c1.hd) := by show _ = _; rw [hc2]; rfl
        have hcn2 : Hid (c2.cnt = cn) := by show _ = _; rw [hc2, pruC_cnt M1.out.ok hle, Hcne.out]
        have he2 : Hid (c2.ev = c1.ev.drop kk) := by show _ = _; rw [hc2]; rfl
        have bb9 : Below B w8 w9 := o9.below hB8 H8.out.blk
        have T9 := hid (T8.keep bb9)
        have hB9 : B ≤ w9.heap.size := Nat.le_trans hB8 bb9.size
        have keep9 : Hid (∀ j, w4.heap.size ≤ j → j < w8.heap.size → w9.heap[j]? = w8.heap[j]?) := fun j h1 h2 => o9.block j h2 (fun x => by
          rcases x with x | x
          · omega
          · have := (hvl4.out j x).2; omega)
        have hw78 : w7.heap.size < w8.heap.size := heap_lt f8
        have hw47 : w4.heap.size ≤ w7.heap.size := Nat.le_trans (Nat.le_trans Hb5.out.size Hb6.out.size) Hb7.out.size
        have f9 := hid ((keep9.out _ hw47 hw78).trans f8)
        have row9 : Hid (w9.ownsRow w4.heap.size 59 4 (.slice a8 m c8) m (eCells c1.ev)) := own_keep (Hrow8.out.onB b58) (fun j h1 h2 => keep9.out j h1 h2)
        have BW9 := hid ((Hbel.out.trans bb4).trans ((b48.mono hB4).trans bb9))
        obtain ⟨mk, hmk⟩ : ∃ mk, m = mk + kk := ⟨m - kk, by omega⟩
        have hlen2 : c2.ev.length = mk := by rw [he2.out, List.length_drop, ← Hm'.out]; omega
        have Hmk := hid hmk
        clear hmk
        have HE2 := hid (events_any h9 ok2.out)
        unfold EvPost at HE2
        rw [hlen2] at HE2
        have Hlen2 := hid hlen2
        have H9 := hid h9
        have hw9h : w7.heap.size ≠ g := by omega
        clear h9 o9 hc2 hle bb9 T8 f8 b8 b48 b58 bb4 hlen2 hw8 Hrow8 H4 H5 H6 H7 H8 HA HE HH HC hw78
        go_wp2_with (go_at_call 30; refine HE2.out.mono ?_; rintro _ w10 ⟨a15, c15, rfl, hrow, hb10⟩; have Hrow15 := hid hrow; have Hb10 := hid hb10; clear hrow hb10)
        obtain ⟨V0, hV0⟩ : ∃ V0, V0 = w10.drew := ⟨_, rfl⟩
        have b10 : Below w10.heap.size w10 V0 := by rw [hV0]; exact (Below.refl _ w10).drew
        have b9V : Below w9.heap.size w9 V0 := Below.on' Hb10.out b10
        have hPr : PrS B g w7.heap.size v9 c2 V0 := ⟨H9.out.below b9V, by rw [hd2.out]; exact (b9V.block _ (heap_lt f9.out)).trans (by rw [f9.out, HO.out]; rfl), T9.out.below hB9 b9V, Nat.le_trans hB9 b9V.size⟩
        refine wp_act _ fun A hA => ?_
        have sz : A.tmps.size = 119 := by rw [hA]; rfl
        have e5 : A.eval (.tmp 5) = .pointer (some ⟨g, 0, none⟩) := by rw [hA]; rfl
        have e8 : A.eval (.tmp 8) = .slice a8 (mk + kk) c8 := by rw [hA, ← Hmk.out]; rfl
        have e9 : A.eval (.tmp 9) = .pointer (some ⟨w7.heap.size, 0, none⟩) := by rw [hA]; rfl
        have e10 : A.eval (.tmp 10) = .int .i64 (c2.cnt : Int) := by rw [hA, hcn2.out]; rfl
        have e12 : A.eval (.tmp 12) = .int .i64 ((kk : Nat) : Int) := by rw [hA]; rfl
        have e13 : A.eval (.tmp 13) = .int .i64 ((kk : Nat) : Int) := by rw [hA]; rfl
        have e14 : A.eval (.tmp 14) = .int .i64 0 := by rw [hA]; rfl
        have e15 : A.eval (.tmp 15) = .slice a15 mk c15 := by rw [hA]; rfl
        refine wp_split _ (prunes_region sz e5 e8 e9 e10 e12 e13 e14 e15 hV0 hPr ok2.out (by rw [hcn2.out]; exact hcn) hv2.out (by have := Hmk.out; omega)) ?_
        rintro _ V1 ⟨rfl, bV1⟩
        rw [hA]
        simp only [Act.put, List.setIfInBounds_toArray, List.set_cons_succ, List.set_cons_zero]
        clear sz e5 e8 e9 e10 e12 e13 e14 e15 hA A
        have B10 := hid (Below.on' b10 bV1)
        clear bV1 b10 hV0 hPr b9V
        go_wp2_with fail
        go_loopw [16] (fun j w' => ∃ i : Nat, i ≤ mk ∧ j = .int .i64 (i : Int) ∧ Below w10.heap.size w10 w') (fun j _ => mk - (intOf j).toNat)
        case atStart => exact ⟨0, Nat.zero_le _, rfl, B10.out⟩
        case round =>
          obtain ⟨i, hi, rfl, hbq⟩ := hrel
          have Hbq := hid hbq
          clear hbq B10
          by_cases hiN : i < mk
          · have p1 : (i : Int) < (mk : Int) := by omega
            obtain ⟨b15, rfl, hcs15⟩ := ev_cells4 (Hrow15.out.onB Hbq.out) Hlen2.out.symm (by omega)
            obtain ⟨b8, rfl, hcs8⟩ := ev_cells4 (row9.out.onB (Below.on' Hb10.out Hbq.out)) Hm'.out (by have := Hmk.out; omega)
            obtain ⟨x0, x1, x2, x3⟩ := hcs15 i (by have := Hlen2.out; omega)
            have hge : c2.ev[i]'(by have := Hlen2.out; omega) = c1.ev[kk + i]'(by have := Hmk.out; have := Hm'.out; omega) := by
              simp only [he2.out, List.getElem_drop]
            obtain ⟨j, hj⟩ : ∃ j, j = kk + i := ⟨_, rfl⟩
            have hjm : (j : Int) < ((m : Nat) : Int) := by have := Hmk.out; omega
            have hjk : ((kk : Nat) : Int) + (i : Int) = (j : Int) := by omega
            obtain ⟨y0, y1, y2, y3⟩ := hcs8 j (by have := Hmk.out; have := Hm'.out; omega)
            rw [hge] at x0 x1 x2 x3
            simp only [← hj] at x0 x1 x2 x3
            generalize c1.ev[j]'(by have := Hmk.out; have := Hm'.out; omega) = ev at *
            generalize ev.num = q0 at *
            generalize ev.tim = q1 at *
            generalize ev.what = q2 at *
            generalize ev.who = q3 at *
            have Hj := hid hj
            clear hj hge hcs15 hcs8
            go_wp2_with fail
            go_quiet (fail)
            go_wp2
            go_roundw
            case rel => exact ⟨i + 1, by omega, by go_num, Below.drewNq Hbq.out⟩
            case measure => simp [intOf]; omega
          · have p1 : ¬ (i : Int) < (mk : Int) := by omega
            go_wp2_with fail
            go_ret
            exact ⟨rfl, by rw [← HB.out]; exact (BW9.out.trans (Hb10.out.mono hB9)).trans (Hbq.out.mono (Nat.le_trans hB9 Hb10.out.size))⟩
end Go.Proofs.YtbfoigppcbmikaaDoor
