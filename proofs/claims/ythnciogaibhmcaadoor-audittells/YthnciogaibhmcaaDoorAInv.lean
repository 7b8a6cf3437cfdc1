/- YthnciogaibhmcaaDoorADoM + YthnciogaibhmcaaDoorADo0 + YthnciogaibhmcaaDoorADo1 + YthnciogaibhmcaaDoorADArgs + YthnciogaibhmcaaDoorAOrd15 + YthnciogaibhmcaaDoorAInv -/
import Derived.Test.YthnciogaibhmcaaDoorARAdd
import Derived.Test.YthnciogaibhmcaaDoorALive
import Derived.Test.YthnciogaibhmcaaDoorAStr
import Derived.Lib.SmallJoins
import Derived.Deep.Slices
import Derived.SliceStrings
import Derived.ChangeSlices
import Derived.BigQuiet
/- The program's chain and the reference's beside each other; what a deed makes of them. -/
namespace Go.Proofs.YthnciogaibhmcaaDoor
open Go.RowKit
set_option linter.unusedVariables false
set_option maxRecDepth 20000

/-- times rise -/
def Up (l : List Ev) : Prop := ∀ i (h : i + 1 < l.length), (l[i]'(by omega)).tim ≤ l[i + 1].tim
/-- a chain that was made by calls alone, no more than n of them Add -/
structure Made (c : Ch) (n : Nat) : Prop where
  ok : ChOk c
  ba : c.bn ≤ c.an
  cnt : c.cnt ≤ n
  sound : Sound c
  up : Up c.ev
theorem made0 : Made ch0 0 := ⟨ch0_ok, by decide, by decide, sound0, fun i h => by simp [ch0] at h⟩
theorem Made.mono {c : Ch} {n m : Nat} (h : Made c n) (hm : n ≤ m) : Made c m := ⟨h.ok, h.ba, Nat.le_trans h.cnt hm, h.sound, h.up⟩
theorem Made.evOk {c : Ch} {n : Nat} (h : Made c n) (hn : n ≤ 1000000) : EvOk c.ev := fun e he => by
  obtain ⟨i, hi, rfl⟩ := List.mem_iff_getElem.1 he
  have h1 := h.ok.num i hi
  have h2 := h.cnt
  have h3 := h.ok.tim _ he
  have h4 := h.ok.las
  have h5 := h.ok.siz _ he
  unfold Ch.cnt at h2
  exact ⟨by omega, by omega, h5.1, h5.2⟩
theorem up_add {c : Ch} (hu : Up c.ev) (ht : ∀ e ∈ c.ev, e.tim ≤ c.la) (e : Ev) (he : c.la ≤ e.tim) : Up (c.ev ++ [e]) := fun i h => by
  rw [List.length_append, List.length_singleton] at h
  by_cases h1 : i + 1 < c.ev.length
  · rw [List.getElem_append_left (by omega), List.getElem_append_left h1]
    exact hu i h1
  · rw [List.getElem_append_left (by omega), List.getElem_append_right (by omega)]
    simp only [show i + 1 - c.ev.length = 0 by omega, List.getElem_cons_zero]
    exact Nat.le_trans (ht _ (List.getElem_mem _)) he
theorem Made.add {c : Ch} {n : Nat} (h : Made c n) (t : Int) (what who : ByteArray) : Made (addR c t what who) (n + 1) := by
  refine ⟨addR_ok h.ok _ _ _, ?_, Nat.le_trans (addR_cnt c t what who) (by have := h.cnt; omega), addR_sound h.ok h.sound _ _ _, ?_⟩
  · unfold addR
    split
    · exact h.ba
    · exact h.ba
  · unfold addR
    split
    · rename_i he
      obtain ⟨t1, t2, t3, t4, t5, t6⟩ := addE_zero he
      exact up_add h.up h.ok.tim _ (by show c.la ≤ t.toNat; omega)
    · exact h.up
theorem Made.anc {c : Ch} {n : Nat} (h : Made c n) : Made (ancC c) n := ⟨ancC_ok h.ok, by show c.bn ≤ c.cnt; unfold Ch.cnt; omega, h.cnt, h.sound.anc, h.up⟩
theorem Made.pru {c : Ch} {n : Nat} (h : Made c n) (k : Int) : Made (pruR c k) n := by
  refine ⟨pruR_ok h.ok k, ?_, by rw [pruR_cnt h.ok]; exact h.cnt, pruR_sound h.ok h.sound k, ?_⟩
  · unfold pruR
    split
    · rename_i he
      obtain ⟨j, rfl, hj⟩ := pruE_zero he
      show c.bn + (((c.bn + j : Nat) : Int).toNat - c.bn) ≤ c.an
      omega
    · exact h.ba
  · unfold pruR
    split
    · intro i hi
      have hi' : i + 1 < (c.ev.drop (k.toNat - c.bn)).length := hi
      show ((c.ev.drop (k.toNat - c.bn))[i]'(by omega)).tim ≤ ((c.ev.drop (k.toNat - c.bn))[i + 1]'hi').tim
      rw [List.getElem_drop, List.getElem_drop]
      rw [List.length_drop] at hi'
      exact h.up (k.toNat - c.bn + i) (by omega)
    · exact h.up
/-- a deed -/
structure ADeed where
  kind : Int
  at' : Int
  n : Int
  what : ByteArray
  who : ByteArray
def ADeed.vals (q : ADeed) : List Value := [.int .i64 q.kind, .int .i64 q.at', .int .i64 q.n, .string q.what, .string q.who]
def stepD (c : Ch) (q : ADeed) : Ch := if q.kind = 0 then addR c q.at' q.what q.who else if q.kind = 1 then ancC c else if q.kind = 2 then pruR c q.n else c
theorem Made.step {c : Ch} {n : Nat} (h : Made c n) (q : ADeed) : Made (stepD c q) (n + 1) := by
  unfold stepD
  split
  · exact h.add _ _ _
  · split
    · exact h.anc.mono (Nat.le_succ _)
    · split
      · exact (h.pru _).mono (Nat.le_succ _)
      · exact h.mono (Nat.le_succ _)
/-- both chains in memory -/
structure Pair (w : World) (B g r : Nat) (v u : Value) (c : Ch) : Prop where
  ch : ChAt w B g v c
  rf : RAt w B r u c
  sep : ∀ k, v.ownBlock = some k → u.ownBlock ≠ some k
section
variable {w w1 w2 : World} {B g r : Nat} {v u v' u' : Value} {c c' : Ch}
theorem Pair.gr (h : Pair w B g r v u c) : g ≠ r := fun e => by
  have h1 := h.ch.obj
  rw [e, h.rf.obj] at h1
  injection h1 with h1
  injection h1 with _ h1
  exact absurd h1 (by decide)
theorem Pair.vr (h : Pair w B g r v u c) : v.ownBlock ≠ some r := fun e => by
  rcases h.ch.row.2 with ⟨rfl, _⟩ | ⟨j, cap, cur, rfl, hb, hj, _⟩
  · cases e
  · cases e
    rw [h.rf.obj] at hj
    injection hj with h1
    injection h1 with _ h1
    exact absurd h1 (by decide)
theorem Pair.ug (h : Pair w B g r v u c) : u.ownBlock ≠ some g := fun e => by
  rcases h.rf.row.2 with ⟨rfl, _⟩ | ⟨j, cap, cur, rfl, hb, hj, _⟩
  · cases e
  · cases e
    rw [h.ch.obj] at hj
    injection hj with h1
    injection h1 with _ h1
    exact absurd h1 (by decide)
theorem Pair.below (h : Pair w B g r v u c) (hb : Below w.heap.size w w1) : Pair w1 B g r v u c := ⟨h.ch.below hb, h.rf.below hb, h.sep⟩
/-- the program's chain has moved -/
theorem Pair.mid (h : Pair w B g r v u c) (h1 : ChAt w1 B g v' c') (o1 : Out (CBlk g v) w w1) (gr1 : Grew w v v') : RAt w1 B r u c ∧ ∀ k, v'.ownBlock = some k → u.ownBlock ≠ some k := by
  refine ⟨h.rf.out o1 (fun x => ?_) (fun k hk x => ?_), fun k hk hu => ?_⟩
  · rcases x with x | x
    · exact h.gr x.symm
    · exact h.vr x
  · rcases x with x | x
    · exact h.ug (x ▸ hk)
    · exact h.sep k x hk
  · rcases gr1 k hk with x | x
    · exact h.sep k x hu
    · have := (h.rf.lts k hu).2; omega
/-- then the reference's -/
theorem pair_end (h1 : ChAt w1 B g v' c') (hr : RAt w1 B r u c) (hs : ∀ k, v'.ownBlock = some k → u.ownBlock ≠ some k) (h2 : RAt w2 B r u' c') (o2 : Out (fun j => j = r) w1 w2) (gr2 : Grew w1 u u') : Pair w2 B g r v' u' c' := by
  have hgr : g ≠ r := fun e => by
    have h3 := h1.obj
    rw [e, hr.obj] at h3
    injection h3 with h3
    injection h3 with _ h3
    exact absurd h3 (by decide)
  refine ⟨h1.out o2 hgr (fun k hk x => ?_), h2, fun k hk hu => ?_⟩
  · rcases h1.row.2 with ⟨rfl, _⟩ | ⟨j, cap, cur, rfl, hb, hj, _⟩
    · cases hk
    · cases hk
      rw [show j = r from x, hr.obj] at hj
      injection hj with h3
      injection h3 with _ h3
      exact absurd h3 (by decide)
  · rcases gr2 k hu with x | x
    · exact hs k hk x
    · have := (h1.lts k hk).2; omega
end
end Go.Proofs.YthnciogaibhmcaaDoor

/- A deed on both chains: holdfastlaw14.do, by a contract. -/
namespace Go.Proofs.YthnciogaibhmcaaDoor
open Go.RowKit Go.Shelf
set_option linter.unusedVariables false
set_option maxRecDepth 20000
attribute [local go_sem ↓] loadL_fold storeL_fold loadH_fold storeH_fold buildH_fold

/-- what do answers -/
def DoPost (w : World) (B g r : Nat) (c : Ch) (q : ADeed) (e : Ending) (w' : World) : Prop := e = .returned (.bool true) ∧ (∃ v' u', Pair w' B g r v' u' (stepD c q)) ∧ Below B w w'
/-- and what it leaves untouched -/
def DoBlk (g r : Nat) (v : Value) (j : Nat) : Prop := CBlk g v j ∨ j = r
def DoPostF (w : World) (B g r : Nat) (v : Value) (c : Ch) (q : ADeed) (e : Ending) (w' : World) : Prop := e = .returned (.bool true) ∧ (∃ v' u', Pair w' B g r v' u' (stepD c q) ∧ Grew w v v') ∧ Below B w w' ∧ Out (DoBlk g r v) w w'
theorem DoPostF.do' {w w' : World} {B g r : Nat} {v : Value} {c : Ch} {q : ADeed} {e : Ending} (h : DoPostF w B g r v c q e w') : DoPost w B g r c q e w' := by
  obtain ⟨h1, ⟨v', u', h2, _⟩, h3, _⟩ := h
  exact ⟨h1, ⟨v', u', h2⟩, h3⟩
theorem do_out {w W0 w1 w1a w2 w3 : World} {g r : Nat} {v : Value} (b0 : Below w.heap.size w W0) (o1 : Out (CBlk g v) W0 w1) (b1a : Below w1.heap.size w1 w1a) (o2 : Out (fun j => j = r) w1a w2) (b3 : Below w2.heap.size w2 w3) : Out (DoBlk g r v) w w3 :=
  ((((Out.of_below b0).trans (o1.imp (fun _ _ x => .inl x)) (fun _ _ x => x)).on b1a).trans (o2.imp (Q := DoBlk g r v) (fun _ _ x => .inr x)) (fun _ _ x => x)).on b3

set_option maxHeartbeats 4000000 in
theorem do_add {w : World} {B g r : Nat} {v u : Value} {c : Ch} {n : Nat} (h : Pair w B g r v u c) (hm : Made c n) (hn : n ≤ 1000) (hT : Tabs w B) (hB : B ≤ w.heap.size) (at' nn : Int) (what who : ByteArray) (s1 : what.size ≤ 9223372036854775807) (s2 : who.size ≤ 9223372036854775807) :
    Calls Tryd.prog 11 #[.pointer (some ⟨g, 0, none⟩), .pointer (some ⟨r, 0, none⟩), .agg #[.int .i64 0, .int .i64 at', .int .i64 nn, .string what, .string who]] w (DoPostF w B g r v c ⟨0, at', nn, what, who⟩) := by
  obtain ⟨W0, hW0⟩ : ∃ W0, W0 = w.alloc (.cells #[.int .i64 0, .int .i64 at', .int .i64 nn, .string what, .string who] 30) := ⟨_, rfl⟩
  have b0 : Below w.heap.size w W0 := by rw [hW0]; exact (Below.refl _ w).alloc (Nat.le_refl _) _
  have d0 : W0.heap[w.heap.size]? = some (.cells #[.int .i64 0, .int .i64 at', .int .i64 nn, .string what, .string who] 30 (0, 0)) := by rw [hW0]; exact heap_alloc_new w _
  have H0 := h.below b0
  have T0 := hT.below hB b0
  have hB0 := Nat.le_trans hB b0.size
  have hcn : c.cnt < 1152921504606846976 := by have := hm.cnt; omega
  have hNg : w.heap.size ≠ g := by have := h.ch.lt; omega
  have hNr : w.heap.size ≠ r := by have := h.rf.lt; omega
  have hNv : ¬ CBlk g v w.heap.size := fun x => by
    rcases x with x | x
    · exact hNg x
    · have := (h.ch.lts _ x).2; omega
  have HW := hid hW0
  have M := hid hm
  have Hev := hid (hm.evOk (by omega))
  have hstep : Hid (stepD c ⟨0, at', nn, what, who⟩ = addR c at' what who) := rfl
  have C1 := hid (add_any H0.ch hm.ok hcn hB0 at' what who s1 s2 T0)
  obtain ⟨p, q, ra, rb, hev⟩ : ∃ p q ra rb, addEv c at' what who = ⟨p, q, ra, rb⟩ := ⟨_, _, _, _, rfl⟩
  have hev' : (eVals (addEv c at' what who)).toArray = #[.int .i64 (p : Int), .int .i64 (q : Int), .string ra, .string rb] := by rw [hev]; rfl
  obtain ⟨er, her⟩ : ∃ er, er = addE c at' what who := ⟨_, rfl⟩
  unfold AddPost at C1
  rw [hev', ← her] at C1
  have HevE := hid hev'
  have Her := hid her
  have D0 := hid d0
  have HH0 := hid H0
  have HB0 := hid b0
  have Hh := hid h
  clear hW0 hm hev hev' her d0 H0 T0 b0 h hT
  go_enter Tryd.func11, Tryd.ntmps11
  go_wp2_with fail
  rw [show w.alloc (.cells #[.int .i64 0, .int .i64 at', .int .i64 nn, .string what, .string who] 30) = W0 from HW.out.symm]
  refine C1.out.mono ?_
  rintro _ w1 ⟨v1, rfl, h1, o1, gr1⟩
  have hm1 := HH0.out.mid h1 o1 gr1
  have d1 : w1.heap[w.heap.size]? = some (.cells #[.int .i64 0, .int .i64 at', .int .i64 nn, .string what, .string who] 30 (0, 0)) := (o1.block _ (heap_lt D0.out) hNv).trans D0.out
  have bb1 : Below B W0 w1 := o1.below hB0 HH0.out.ch.blk
  obtain ⟨w1a, hw1a⟩ : ∃ W, W = w1.alloc (.cells #[.int .i64 (p : Int), .int .i64 (q : Int), .string ra, .string rb] 60) := ⟨_, rfl⟩
  have b1a : Below w1.heap.size w1 w1a := by rw [hw1a]; exact (Below.refl _ w1).alloc (Nat.le_refl _) _
  have x1 : w1a.heap[w1.heap.size]? = some (.cells #[.int .i64 (p : Int), .int .i64 (q : Int), .string ra, .string rb] 60 (0, 0)) := by rw [hw1a]; exact heap_alloc_new w1 _
  have d1a := (b1a.block _ (heap_lt d1)).trans d1
  have k1 : w1a.cell? ⟨w.heap.size, 1, none⟩ = some (.int .i64 at') := cell_of_row _ _ 1 _ _ _ d1a
  have k3 : w1a.cell? ⟨w.heap.size, 3, none⟩ = some (.string what) := cell_of_row _ _ 3 _ _ _ d1a
  have k4 : w1a.cell? ⟨w.heap.size, 4, none⟩ = some (.string who) := cell_of_row _ _ 4 _ _ _ d1a
  have hB1 : B ≤ w1.heap.size := Nat.le_trans hB0 bb1.size
  have C2 := hid (rAdd_any (hm1.1.below b1a) M.out.ok hcn (Nat.le_trans hB1 b1a.size) at' what who s1 s2)
  unfold RAddPost at C2
  rw [HevE.out, ← Her.out] at C2
  have Hm1 := hid hm1
  have H1 := hid h1
  have BB1 := hid bb1
  have B1a := hid b1a
  have X1 := hid x1
  have HW1 := hid hw1a
  have O1 := hid o1
  have GR1 := hid gr1
  rw [hw1a] at k1 k3 k4
  clear h1 o1 gr1 hm1 d1 d1a bb1 b1a x1 hw1a C1
  go_wp2_with fail
  rw [show w1.alloc (.cells #[.int .i64 (p : Int), .int .i64 (q : Int), .string ra, .string rb] 60) = w1a from HW1.out.symm]
  refine C2.out.mono ?_
  rintro _ w2 ⟨u2, rfl, h2, o2, gr2⟩
  have hpair := pair_end (H1.out.below B1a.out) (Hm1.out.1.below B1a.out) Hm1.out.2 h2 o2 gr2
  have hE1r : w1.heap.size ≠ r := by have := Hm1.out.1.lt; omega
  have x2 := (o2.block _ (heap_lt X1.out) hE1r).trans X1.out
  have hr := Hm1.out.1.bg
  have bb2 : Below B w1a w2 := o2.below (Nat.le_trans hB1 B1a.out.size) (fun k hk => by rw [hk]; exact hr)
  obtain ⟨w3, hw3⟩ : ∃ W, W = w2.alloc (.cells #[.int .i64 (p : Int), .int .i64 (q : Int), .string ra, .string rb] 60) := ⟨_, rfl⟩
  have b3 : Below w2.heap.size w2 w3 := by rw [hw3]; exact (Below.refl _ w2).alloc (Nat.le_refl _) _
  have y1 := (b3.block _ (heap_lt x2)).trans x2
  have z0 : w3.cell? ⟨w1.heap.size, 0, none⟩ = some (.int .i64 (p : Int)) := cell_of_row _ _ 0 _ _ _ y1
  have z1 : w3.cell? ⟨w1.heap.size, 1, none⟩ = some (.int .i64 (q : Int)) := cell_of_row _ _ 1 _ _ _ y1
  have z2 : w3.cell? ⟨w1.heap.size, 2, none⟩ = some (.string ra) := cell_of_row _ _ 2 _ _ _ y1
  have z3 : w3.cell? ⟨w1.heap.size, 3, none⟩ = some (.string rb) := cell_of_row _ _ 3 _ _ _ y1
  have hfin : Hid (DoPostF w B g r v c ⟨0, at', nn, what, who⟩ (.returned (.bool true)) w3) := ⟨rfl, ⟨v1, u2, by rw [hstep.out]; exact hpair.below b3, fun k hk => (GR1.out k hk).imp id (fun x => Nat.le_trans HB0.out.size x)⟩, ((((HB0.out.mono hB).trans BB1.out).trans (B1a.out.mono hB1)).trans bb2).trans (b3.mono (Nat.le_trans (Nat.le_trans hB1 B1a.out.size) bb2.size)), do_out HB0.out O1.out B1a.out o2 b3⟩
  rw [hw3] at z0 z1 z2 z3 hfin
  clear h2 o2 gr2 hpair y1 x2 bb2 b3 hw3 C2 H1 Hm1 BB1 B1a X1 HW1 k1 k3 k4 hE1r hr
  go_wp2
  go_ret
  exact hfin.out
end Go.Proofs.YthnciogaibhmcaaDoor

/- A deed on both chains: holdfastlaw14.do, by a contract. -/
namespace Go.Proofs.YthnciogaibhmcaaDoor
open Go.RowKit Go.Shelf
set_option linter.unusedVariables false
set_option maxRecDepth 20000
attribute [local go_sem ↓] loadL_fold storeL_fold loadH_fold storeH_fold buildH_fold


set_option maxHeartbeats 4000000 in
theorem do_pru {w : World} {B g r : Nat} {v u : Value} {c : Ch} {n : Nat} (h : Pair w B g r v u c) (hm : Made c n) (hn : n ≤ 1000) (hT : Tabs w B) (hB : B ≤ w.heap.size) (at' nn : Int) (what who : ByteArray) :
    Calls Tryd.prog 11 #[.pointer (some ⟨g, 0, none⟩), .pointer (some ⟨r, 0, none⟩), .agg #[.int .i64 2, .int .i64 at', .int .i64 nn, .string what, .string who]] w (DoPostF w B g r v c ⟨2, at', nn, what, who⟩) := by
  obtain ⟨W0, hW0⟩ : ∃ W0, W0 = w.alloc (.cells #[.int .i64 2, .int .i64 at', .int .i64 nn, .string what, .string who] 30) := ⟨_, rfl⟩
  have b0 : Below w.heap.size w W0 := by rw [hW0]; exact (Below.refl _ w).alloc (Nat.le_refl _) _
  have d0 : W0.heap[w.heap.size]? = some (.cells #[.int .i64 2, .int .i64 at', .int .i64 nn, .string what, .string who] 30 (0, 0)) := by rw [hW0]; exact heap_alloc_new w _
  have H0 := h.below b0
  have T0 := hT.below hB b0
  have hB0 := Nat.le_trans hB b0.size
  have hcn : c.cnt < 1152921504606846976 := by have := hm.cnt; omega
  have hNg : w.heap.size ≠ g := by have := h.ch.lt; omega
  have hNr : w.heap.size ≠ r := by have := h.rf.lt; omega
  have hNv : ¬ CBlk g v w.heap.size := fun x => by
    rcases x with x | x
    · exact hNg x
    · have := (h.ch.lts _ x).2; omega
  have HW := hid hW0
  have M := hid hm
  have Hev := hid (hm.evOk (by omega))
  have hstep : Hid (stepD c ⟨2, at', nn, what, who⟩ = pruR c nn) := rfl
  have C1 := hid (prune_any H0.ch hm.ok hcn T0 hB0 nn)
  unfold PruPost at C1
  obtain ⟨pn, hpn⟩ : ∃ pn, pn = pruN c nn := ⟨_, rfl⟩
  obtain ⟨pe, hpe⟩ : ∃ pe, pe = pruE c nn := ⟨_, rfl⟩
  rw [← hpn, ← hpe] at C1
  have Hpn := hid hpn
  have Hpe := hid hpe
  have D0 := hid d0
  have HH0 := hid H0
  have HB0 := hid b0
  have Hh := hid h
  clear hW0 hm hpn hpe d0 H0 T0 b0 h hT
  go_enter Tryd.func11, Tryd.ntmps11
  go_wp2_with fail
  rw [show w.alloc (.cells #[.int .i64 2, .int .i64 at', .int .i64 nn, .string what, .string who] 30) = W0 from HW.out.symm]
  refine C1.out.mono ?_
  rintro _ w1 ⟨v1, rfl, h1, o1, gr1⟩
  have hm1 := HH0.out.mid h1 o1 gr1
  have d1 : w1.heap[w.heap.size]? = some (.cells #[.int .i64 2, .int .i64 at', .int .i64 nn, .string what, .string who] 30 (0, 0)) := (o1.block _ (heap_lt D0.out) hNv).trans D0.out
  have bb1 : Below B W0 w1 := o1.below hB0 HH0.out.ch.blk
  have k2 : w1.cell? ⟨w.heap.size, 2, none⟩ = some (.int .i64 nn) := cell_of_row _ _ 2 _ _ _ d1
  have hB1 : B ≤ w1.heap.size := Nat.le_trans hB0 bb1.size
  have C2 := hid (rPrune_any hm1.1 M.out.ok Hev.out hcn hB1 nn)
  unfold RPruPost at C2
  rw [← Hpn.out, ← Hpe.out] at C2
  have Hm1 := hid hm1
  have H1 := hid h1
  have BB1 := hid bb1
  have O1 := hid o1
  have GR1 := hid gr1
  clear h1 o1 gr1 hm1 d1 bb1 C1
  go_wp2_with fail
  refine C2.out.mono ?_
  rintro _ w2 ⟨u2, rfl, h2, o2, gr2⟩
  have hpair := pair_end H1.out Hm1.out.1 Hm1.out.2 h2 o2 gr2
  have hr := Hm1.out.1.bg
  have bb2 : Below B w1 w2 := o2.below hB1 (fun k hk => by rw [hk]; exact hr)
  have hfin : Hid (DoPostF w B g r v c ⟨2, at', nn, what, who⟩ (.returned (.bool true)) w2) := ⟨rfl, ⟨v1, u2, by rw [hstep.out]; exact hpair, fun k hk => (GR1.out k hk).imp id (fun x => Nat.le_trans HB0.out.size x)⟩, ((HB0.out.mono hB).trans BB1.out).trans bb2, do_out HB0.out O1.out (Below.refl _ _) o2 (Below.refl _ _)⟩
  clear h2 o2 gr2 hpair bb2 C2 H1 Hm1 BB1 k2 hr
  go_wp2
  go_ret
  exact hfin.out

set_option maxHeartbeats 4000000 in
theorem do_ver {w : World} {B g r : Nat} {v u : Value} {c : Ch} {n : Nat} (h : Pair w B g r v u c) (hm : Made c n) (hn : n ≤ 1000) (hT : Tabs w B) (hB : B ≤ w.heap.size) (kd at' nn : Int) (what who : ByteArray) (n0 : kd ≠ 0) (n1 : kd ≠ 1) (n2 : kd ≠ 2) :
    Calls Tryd.prog 11 #[.pointer (some ⟨g, 0, none⟩), .pointer (some ⟨r, 0, none⟩), .agg #[.int .i64 kd, .int .i64 at', .int .i64 nn, .string what, .string who]] w (DoPostF w B g r v c ⟨kd, at', nn, what, who⟩) := by
  obtain ⟨W0, hW0⟩ : ∃ W0, W0 = w.alloc (.cells #[.int .i64 kd, .int .i64 at', .int .i64 nn, .string what, .string who] 30) := ⟨_, rfl⟩
  have b0 : Below w.heap.size w W0 := by rw [hW0]; exact (Below.refl _ w).alloc (Nat.le_refl _) _
  have d0 : W0.heap[w.heap.size]? = some (.cells #[.int .i64 kd, .int .i64 at', .int .i64 nn, .string what, .string who] 30 (0, 0)) := by rw [hW0]; exact heap_alloc_new w _
  have H0 := h.below b0
  have T0 := hT.below hB b0
  have hB0 := Nat.le_trans hB b0.size
  have hcn : c.cnt < 1152921504606846976 := by have := hm.cnt; omega
  have hNg : w.heap.size ≠ g := by have := h.ch.lt; omega
  have hNr : w.heap.size ≠ r := by have := h.rf.lt; omega
  have hNv : ¬ CBlk g v w.heap.size := fun x => by
    rcases x with x | x
    · exact hNg x
    · have := (h.ch.lts _ x).2; omega
  have HW := hid hW0
  have M := hid hm
  have Hev := hid (hm.evOk (by omega))
  have hstep : Hid (stepD c ⟨kd, at', nn, what, who⟩ = c) := by
    show _ = _
    unfold stepD
    rw [if_neg n0, if_neg n1, if_neg n2]
  have C1 := hid (verify_any H0.ch hm.ok hcn T0 hB0)
  obtain ⟨ve, hve⟩ : ∃ ve, ve = verE c := ⟨_, rfl⟩
  rw [← hve] at C1
  have Hve := hid hve
  have HH0 := hid H0
  have HB0 := hid b0
  have m0 : (kd == 0) = false := by simpa using n0
  have m1 : (kd == 1) = false := by simpa using n1
  have m2 : (kd == 2) = false := by simpa using n2
  clear hW0 hm hve d0 H0 T0 b0 h hT n0 n1 n2
  go_enter Tryd.func11, Tryd.ntmps11
  go_wp2_with fail
  rw [show w.alloc (.cells #[.int .i64 kd, .int .i64 at', .int .i64 nn, .string what, .string who] 30) = W0 from HW.out.symm]
  refine C1.out.mono ?_
  rintro _ w1 ⟨rfl, b1⟩
  have H1 := HH0.out.below b1
  have C2 := hid (rVerify_any H1.rf M.out.ok Hev.out M.out.ba hcn)
  rw [← Hve.out] at C2
  have Hp := hid H1
  have B1 := hid b1
  clear H1 b1 C1
  go_wp2_with fail
  refine C2.out.mono ?_
  rintro _ w2 ⟨rfl, b2⟩
  have hfin : Hid (DoPostF w B g r v c ⟨kd, at', nn, what, who⟩ (.returned (.bool true)) w2) := ⟨rfl, ⟨v, u, by rw [hstep.out]; exact Hp.out.below b2, fun k hk => .inl hk⟩, (Below.on' (Below.on' HB0.out B1.out) b2).mono hB, Out.of_below (Below.on' (Below.on' HB0.out B1.out) b2)⟩
  clear b2 C2
  go_wp2
  go_ret
  exact hfin.out

set_option maxHeartbeats 4000000 in
theorem do_anc {w : World} {B g r : Nat} {v u : Value} {c : Ch} {n : Nat} (h : Pair w B g r v u c) (hm : Made c n) (hn : n ≤ 1000) (hT : Tabs w B) (hB : B ≤ w.heap.size) (at' nn : Int) (what who : ByteArray) :
    Calls Tryd.prog 11 #[.pointer (some ⟨g, 0, none⟩), .pointer (some ⟨r, 0, none⟩), .agg #[.int .i64 1, .int .i64 at', .int .i64 nn, .string what, .string who]] w (DoPostF w B g r v c ⟨1, at', nn, what, who⟩) := by
  obtain ⟨W0, hW0⟩ : ∃ W0, W0 = w.alloc (.cells #[.int .i64 1, .int .i64 at', .int .i64 nn, .string what, .string who] 30) := ⟨_, rfl⟩
  have b0 : Below w.heap.size w W0 := by rw [hW0]; exact (Below.refl _ w).alloc (Nat.le_refl _) _
  have d0 : W0.heap[w.heap.size]? = some (.cells #[.int .i64 1, .int .i64 at', .int .i64 nn, .string what, .string who] 30 (0, 0)) := by rw [hW0]; exact heap_alloc_new w _
  have H0 := h.below b0
  have T0 := hT.below hB b0
  have hB0 := Nat.le_trans hB b0.size
  have hcn : c.cnt < 1152921504606846976 := by have := hm.cnt; omega
  have hNg : w.heap.size ≠ g := by have := h.ch.lt; omega
  have hNr : w.heap.size ≠ r := by have := h.rf.lt; omega
  have hNv : ¬ CBlk g v w.heap.size := fun x => by
    rcases x with x | x
    · exact hNg x
    · have := (h.ch.lts _ x).2; omega
  have HW := hid hW0
  have M := hid hm
  have Hev := hid (hm.evOk (by omega))
  have hstep : Hid (stepD c ⟨1, at', nn, what, who⟩ = ancC c) := rfl
  have C1 := hid (anchor_any H0.ch hm.ok hcn)
  obtain ⟨Z, hZ⟩ : ∃ Z, Z = bvs zero32 := ⟨_, rfl⟩
  have zh := (zero_of_info zero_hash).1
  rw [show bvs (List.replicate 32 0) = Z from hZ.symm] at zh
  have HZ := hid hZ
  obtain ⟨O, hO⟩ : ∃ O, O = bvs c.hd := ⟨_, rfl⟩
  have hlh := hm.ok.lh
  obtain ⟨m, hmm⟩ : ∃ m, m = c.cnt := ⟨_, rfl⟩
  rw [← hO, ← hmm] at C1
  have HO := hid hO
  have Hmm := hid hmm
  have hSt : ∀ W : World, (storeH (.pointer (some ⟨W.heap.size, 0, none⟩)) (.agg O)).run Tryd.prog (W.alloc (.cells Z 49)) = .ok () (W.alloc (.cells O 49)) := fun W => by
    have := storeH_new W c.hd zero32 hlh (by decide)
    rw [← hO, show bvs zero32 = Z from hZ.symm] at this
    exact this
  have heq : ∀ W, (Op.equalIn 10000 49 (.agg O) (.agg O)).run Tryd.prog W = .ok true W := fun W => by
    rw [hO, hash_eq (a := c.hd) (b := c.hd) ⟨rfl, hlh⟩ ⟨rfl, hlh⟩]
    simp
  have HH0 := hid H0
  have HB0 := hid b0
  clear hW0 hm hZ hO hmm d0 H0 T0 b0 h hT
  go_enter Tryd.func11, Tryd.ntmps11
  go_wp2_with fail
  rw [show w.alloc (.cells #[.int .i64 1, .int .i64 at', .int .i64 nn, .string what, .string who] 30) = W0 from HW.out.symm]
  refine C1.out.mono ?_
  rintro _ w1 ⟨rfl, h1, o1⟩
  have hm1 := HH0.out.mid h1 (o1.imp (fun _ _ x => .inl x)) (fun k hk => .inl hk)
  have bb1 : Below B W0 w1 := o1.below hB0 (fun k hk => by rw [hk]; exact HH0.out.ch.bg)
  obtain ⟨w1a, hw1a⟩ : ∃ W, W = w1.alloc (.cells O 49) := ⟨_, rfl⟩
  have b1a : Below w1.heap.size w1 w1a := by rw [hw1a]; exact (Below.refl _ w1).alloc (Nat.le_refl _) _
  have x1 : w1a.heap[w1.heap.size]? = some (.cells O 49 (0, 0)) := by rw [hw1a]; exact heap_alloc_new w1 _
  have hB1 : B ≤ w1.heap.size := Nat.le_trans hB0 bb1.size
  have C2 := hid (rAnchor_any (hm1.1.below b1a) M.out.ok hcn)
  rw [← HO.out, ← Hmm.out] at C2
  have Hm1 := hid hm1
  have H1 := hid h1
  have BB1 := hid bb1
  have B1a := hid b1a
  have X1 := hid x1
  have HW1 := hid hw1a
  have O1 := hid o1
  clear h1 o1 hm1 bb1 b1a x1 hw1a C1
  go_wp2_with fail
  rw [show w1.alloc (.cells O 49) = w1a from HW1.out.symm]
  refine C2.out.mono ?_
  rintro _ w2 ⟨rfl, h2, o2⟩
  have hpair := pair_end (H1.out.below B1a.out) (Hm1.out.1.below B1a.out) Hm1.out.2 h2 o2 (fun k hk => .inl hk)
  have hE1r : w1.heap.size ≠ r := by have := Hm1.out.1.lt; omega
  have x2 := (o2.block _ (heap_lt X1.out) hE1r).trans X1.out
  have hr := Hm1.out.1.bg
  have bb2 : Below B w1a w2 := o2.below (Nat.le_trans hB1 B1a.out.size) (fun k hk => by rw [hk]; exact hr)
  obtain ⟨w3, hw3⟩ : ∃ W, W = w2.alloc (.cells O 49) := ⟨_, rfl⟩
  have b3 : Below w2.heap.size w2 w3 := by rw [hw3]; exact (Below.refl _ w2).alloc (Nat.le_refl _) _
  have y1 := (b3.block _ (heap_lt x2)).trans x2
  have y2 : w3.heap[w2.heap.size]? = some (.cells O 49 (0, 0)) := by rw [hw3]; exact heap_alloc_new w2 _
  have hL1 : (loadH (.pointer (some ⟨w1.heap.size, 0, none⟩))).run Tryd.prog w3 = .ok (.agg O) w3 := loadH_run (l := c.hd) ⟨HO.out, hlh⟩ y1
  have hL2 : (loadH (.pointer (some ⟨w2.heap.size, 0, none⟩))).run Tryd.prog w3 = .ok (.agg O) w3 := loadH_run (l := c.hd) ⟨HO.out, hlh⟩ y2
  have hfin : Hid (DoPostF w B g r v c ⟨1, at', nn, what, who⟩ (.returned (.bool true)) w3) := ⟨rfl, ⟨v, u, by rw [hstep.out]; exact hpair.below b3, fun k hk => .inl hk⟩, ((((HB0.out.mono hB).trans BB1.out).trans (B1a.out.mono hB1)).trans bb2).trans (b3.mono (Nat.le_trans (Nat.le_trans hB1 B1a.out.size) bb2.size)), do_out (v := v) HB0.out (O1.out.imp (fun _ _ x => .inl x)) B1a.out o2 b3⟩
  rw [hw3] at hL1 hL2 hfin
  clear h2 o2 hpair y1 y2 x2 bb2 b3 hw3 C2 H1 Hm1 BB1 B1a X1 HW1 hE1r hr
  go_wp2
  go_ret
  exact hfin.out

theorem do_frame {w : World} {B g r : Nat} {v u : Value} {c : Ch} {n : Nat} (h : Pair w B g r v u c) (hm : Made c n) (hn : n ≤ 1000) (hT : Tabs w B) (hB : B ≤ w.heap.size) (q : ADeed) (s1 : q.what.size ≤ 9223372036854775807) (s2 : q.who.size ≤ 9223372036854775807) :
    Calls Tryd.prog 11 #[.pointer (some ⟨g, 0, none⟩), .pointer (some ⟨r, 0, none⟩), .agg q.vals.toArray] w (DoPostF w B g r v c q) := by
  obtain ⟨kd, at', nn, what, who⟩ := q
  by_cases h0 : kd = 0
  · subst h0; exact do_add h hm hn hT hB at' nn what who s1 s2
  · by_cases h1 : kd = 1
    · subst h1; exact do_anc h hm hn hT hB at' nn what who
    · by_cases h2 : kd = 2
      · subst h2; exact do_pru h hm hn hT hB at' nn what who
      · exact do_ver h hm hn hT hB kd at' nn what who h0 h1 h2
theorem do_any {w : World} {B g r : Nat} {v u : Value} {c : Ch} {n : Nat} (h : Pair w B g r v u c) (hm : Made c n) (hn : n ≤ 1000) (hT : Tabs w B) (hB : B ≤ w.heap.size) (q : ADeed) (s1 : q.what.size ≤ 9223372036854775807) (s2 : q.who.size ≤ 9223372036854775807) :
    Calls Tryd.prog 11 #[.pointer (some ⟨g, 0, none⟩), .pointer (some ⟨r, 0, none⟩), .agg q.vals.toArray] w (DoPost w B g r c q) :=
  (do_frame h hm hn hT hB q s1 s2).mono fun _ _ h => h.do'
end Go.Proofs.YthnciogaibhmcaaDoor

/- What an argument that is a row of deeds gives to a walk. -/
namespace Go.Proofs.YthnciogaibhmcaaDoor
open Go.RowKit
open Go.ChangeShapes Go.WideShapes Go.ChangeAt Go.Deep
set_option linter.unusedVariables false
set_option maxRecDepth 20000

/-- deeds that lie in a row -/
structure ADs (w : World) (a : Option Addr) (l : List ADeed) : Prop where
  cells : ∀ i (h : i < l.length), ∃ b o, a = some ⟨b, o, none⟩ ∧ b < w.heap.size ∧ w.rangeAt b (o + i * 5) l[i].vals
  sizes : ∀ q ∈ l, q.what.size ≤ 9223372036854775807 ∧ q.who.size ≤ 9223372036854775807
  len : l.length ≤ 9223372036854775807
theorem ADs.below {w w' : World} {a : Option Addr} {l : List ADeed} {B : Nat} (h : ADs w a l) (hB : B = w.heap.size) (hb : Below B w w') : ADs w' a l := by
  subst hB
  refine ⟨fun i hi => ?_, h.sizes, h.len⟩
  obtain ⟨b, o, e, hlt, hr⟩ := h.cells i hi
  exact ⟨b, o, e, Nat.lt_of_lt_of_le hlt hb.size, fun j u hj => (hb.cell (p := ⟨b, o + i * 5 + j, none⟩) hlt).trans (hr j u hj)⟩
theorem addr_addA (b o j : Nat) : (⟨b, o, none⟩ : Addr).add j = ⟨b, o + j, none⟩ := by unfold Addr.add; split <;> simp_all
theorem list5A {α : Type} {l : List α} (h : l.length = 5) : ∃ a b c d e, l = [a, b, c, d, e] := by
  match l, h with
  | [a, b, c, d, e], _ => exact ⟨a, b, c, d, e, rfl⟩
theorem choose_ltA {β : Type} [Inhabited β] {n : Nat} {P : Nat → β → Prop} (h : ∀ i, i < n → ∃ b, P i b) : ∃ f : Nat → β, ∀ i, i < n → P i (f i) := by
  classical
  refine ⟨fun i => if hi : i < n then Classical.choose (h i hi) else default, fun i hi => ?_⟩
  simp only [hi, dif_pos]
  exact Classical.choose_spec (h i hi)
theorem cellsAD : Tryd.prog.cellsOf 30 = 5 := by kernel_rfl
theorem open_adeeds {H : Type} {enc : TypeId × Value → H} {W : World} {a : Option Addr} {len cap : Nat} {d : DataW H} {p : List MemPlace}
    (h : DataW.Trod enc Tryd.prog W 0 (fun _ => true) true 22 (.slice a len cap) d p) : ∃ l : List ADeed, l.length = len ∧ ADs W a l := by
  obtain ⟨fuel, hf⟩ := h
  rcases open_slice Tryd.underlying22 hf with ⟨hcs, _⟩ | ⟨x, l', c', m, n, D, Pl, hcs, hb, hl, hm, hmm, _, hx⟩
  · simp [Value.cells] at hcs
    obtain ⟨rfl, rfl, rfl⟩ := hcs
    exact ⟨[], rfl, fun i hi => by simp at hi, fun x hx => by simp at hx, by simp⟩
  · simp [Value.cells] at hcs
    obtain ⟨rfl, rfl, rfl⟩ := hcs
    simp only [if_true] at hmm
    rw [cellsAD] at hx
    have each : ∀ i, i < len → ∃ q : ADeed, (∃ b o, x = ⟨b, o, none⟩ ∧ b < W.heap.size ∧ W.rangeAt b (o + i * 5) q.vals) ∧ q.what.size ≤ 9223372036854775807 ∧ q.who.size ≤ 9223372036854775807 := by
      intro i hi
      obtain ⟨cs', h1, h2⟩ := hx i (by omega)
      obtain ⟨_, hlen, hcell⟩ := World.cells?_some h1
      obtain ⟨xs, k, hk, hxy, _, hxl, hf⟩ := DataW.trod_struct Tryd.underlying30 h2
      obtain ⟨v0, v1, v2, v3, v4, rfl⟩ := list5A hlen
      have g0 := hf 0 _ rfl
      have g1 := hf 1 _ rfl
      have g2 := hf 2 _ rfl
      have g3 := hf 3 _ rfl
      have g4 := hf 4 _ rfl
      have s0 : Tryd.prog.cellsOf 3 = 1 := by kernel_rfl
      have s1 : Tryd.prog.cellsOf 9 = 1 := by kernel_rfl
      simp [s0, s1] at g0 g1 g2 g3 g4
      obtain ⟨y0, q0⟩ : ∃ y, DataW.trod enc Tryd.prog W 0 (fun _ => true) true k 3 [v0] = some y := ⟨_, g0.trans (List.getElem?_eq_getElem (by rw [hxl]; decide))⟩
      obtain ⟨y1, q1⟩ : ∃ y, DataW.trod enc Tryd.prog W 0 (fun _ => true) true k 3 [v1] = some y := ⟨_, g1.trans (List.getElem?_eq_getElem (by rw [hxl]; decide))⟩
      obtain ⟨y2, q2⟩ : ∃ y, DataW.trod enc Tryd.prog W 0 (fun _ => true) true k 3 [v2] = some y := ⟨_, g2.trans (List.getElem?_eq_getElem (by rw [hxl]; decide))⟩
      obtain ⟨y3, q3⟩ : ∃ y, DataW.trod enc Tryd.prog W 0 (fun _ => true) true k 9 [v3] = some y := ⟨_, g3.trans (List.getElem?_eq_getElem (by rw [hxl]; decide))⟩
      obtain ⟨y4, q4⟩ : ∃ y, DataW.trod enc Tryd.prog W 0 (fun _ => true) true k 9 [v4] = some y := ⟨_, g4.trans (List.getElem?_eq_getElem (by rw [hxl]; decide))⟩
      obtain ⟨n0, e0, _, _⟩ := DataW.trod_int Tryd.underlying3 q0
      obtain ⟨n1, e1, _, _⟩ := DataW.trod_int Tryd.underlying3 q1
      obtain ⟨n2, e2, _, _⟩ := DataW.trod_int Tryd.underlying3 q2
      obtain ⟨n3, e3, _, k3⟩ := DataW.trod_string Tryd.underlying9 q3
      obtain ⟨n4, e4, _, k4⟩ := DataW.trod_string Tryd.underlying9 q4
      simp only [List.cons.injEq, and_true] at e0 e1 e2 e3 e4
      subst e0 e1 e2 e3 e4
      obtain ⟨bb, o, spot⟩ := x
      have hspot : spot = none := by
        obtain ⟨cs0, z1, _⟩ := hx 0 (by omega)
        obtain ⟨_, zl, zc⟩ := World.cells?_some z1
        have := (zc 0 (by omega)).trans (List.getElem?_eq_getElem (by omega))
        simpa [Addr.add] using World.cell?_spot this
      subst hspot
      refine ⟨⟨n0, n1, n2, n3, n4⟩, ⟨bb, o, rfl, ?_, fun j u hj => ?_⟩, k3, k4⟩
      · have c0 := hcell 0 (by omega)
        rw [Deep.add_add, addr_addA] at c0
        exact World.block_lt_of_cell? _ _ (c0.trans rfl)
      · have hj5 : j < 5 := (List.getElem?_eq_some_iff.1 hj).1
        have c0 := hcell j hj5
        rw [Deep.add_add, addr_addA] at c0
        rw [Nat.add_assoc, c0]
        exact hj
    have hinh : Inhabited ADeed := ⟨⟨0, 0, 0, ⟨#[]⟩, ⟨#[]⟩⟩⟩
    obtain ⟨q, hq⟩ := choose_ltA each
    refine ⟨(List.range len).map q, by simp, fun i hi => ?_, fun y hy => ?_, by have h9 : maxLen = 9223372036854775807 := (by decide); rw [List.length_map, List.length_range]; omega⟩
    · have hi' : i < len := by simpa using hi
      obtain ⟨⟨b, o, e, hlt, hr⟩, _⟩ := hq i hi'
      exact ⟨b, o, by rw [e], hlt, by simpa using hr⟩
    · obtain ⟨i, hi, rfl⟩ := List.mem_map.1 hy
      exact (hq i (List.mem_range.1 hi)).2
end Go.Proofs.YthnciogaibhmcaaDoor

/- AuditOrder's last region, over a frame that is a letter. -/
namespace Go.Proofs.YthnciogaibhmcaaDoor
open Go.RowKit
set_option linter.unusedVariables false
set_option maxRecDepth 20000
section
variable {ops : Array Oper} {S : World → Prop} {op : Oper} {a : Act}
end
end Go.Proofs.YthnciogaibhmcaaDoor

/- What the walks over deeds share (out of AOrder, by gen/aprunes2.py). -/
namespace Go.Proofs.YthnciogaibhmcaaDoor
open Go.RowKit Go.Shelf
set_option linter.unusedVariables false
set_option maxRecDepth 20000
/-- what is so behind k deeds -/
structure DInv (W : World) (B g r k : Nat) (wr : World) : Prop where
  pr : ∃ v u c, Pair wr B g r v u c ∧ Made c k
  tb : Tabs wr B
  bel : Below B W wr
theorem DInv.next {W wr w' : World} {B g r k : Nat} {c : Ch} {q : ADeed} {e : Ending} (hm : Made c k) (tb : Tabs wr B) (bel : Below B W wr) (h : DoPost wr B g r c q e w') : DInv W B g r (k + 1) w' := by
  obtain ⟨_, ⟨v', u', hp⟩, hb⟩ := h
  exact ⟨⟨v', u', _, hp, hm.step q⟩, tb.keep hb, bel.trans hb⟩
end Go.Proofs.YthnciogaibhmcaaDoor
