/- YthfmpebgmojcaaaDoorADoM + YthfmpebgmojcaaaDoorTC3 -/
import Derived.Test.YthfmpebgmojcaaaDoorZText
import Derived.Test.YthfmpebgmojcaaaDoorARw2
import Derived.Test.YthfmpebgmojcaaaDoorTC2
import Derived.Test.YthfmpebgmojcaaaDoorTC1
/- The program's chain and the reference's beside each other; what a deed makes of them. -/
namespace Go.Proofs.YthfmpebgmojcaaaDoor
open Go.RowKit
set_option linter.unusedVariables false
set_option maxRecDepth 20000
def Up (l : List Ev) : Prop := ∀ i (h : i + 1 < l.length), (l[i]'(by omega)).tim ≤ l[i + 1].tim
structure Made (c : Ch) (n : Nat) : Prop where
  ok : ChOk c
  ba : c.bn ≤ c.an
  cnt : c.cnt ≤ n
  sound : Sound c
  up : Up c.ev
theorem made0 : Made ch0 0 := ⟨ch0_ok, by decide, by decide, sound0, fun i h => by simp [ch0] at h⟩
theorem Made.mono {c : Ch} {n m : Nat} (h : Made c n) (hm : n ≤ m) : Made c m := ⟨h.ok, h.ba, Nat.le_trans h.cnt hm, h.sound, h.up⟩
theorem up_add {c : Ch} (hu : Up c.ev) (ht : ∀ e ∈ c.ev, e.tim ≤ c.la) (e : Ev) (he : c.la ≤ e.tim) : Up (c.ev ++ [e]) := fun i h => by
  rw [List.length_append, List.length_singleton] at h
  by_cases h1 : i + 1 < c.ev.length
  · rw [List.getElem_append_left (by omega), List.getElem_append_left h1]
    exact hu i h1
  · rw [List.getElem_append_left (by omega), List.getElem_append_right (by omega)]
    simp only [show i + 1 - c.ev.length = 0 by omega, List.getElem_cons_zero]
    exact Nat.le_trans (ht _ (List.getElem_mem _)) he
theorem Made.add {c : Ch} {n : Nat} (h : Made c n) (t : Int) (what who : ByteArray) : Made (addR c t what who) (n + 1) := by
  refine ⟨addR_ok h.ok _ _ _, ?_, Nat.le_trans (addR_cnt c t what who) (by have := h.cnt; omega), addR_sound h.ok h.sound _ _ _, ?_⟩
  · unfold addR
    split
    · exact h.ba
    · exact h.ba
  · unfold addR
    split
    · rename_i he
      obtain ⟨t1, t2, t3, t4, t5, t6⟩ := addE_zero he
      exact up_add h.up h.ok.tim _ (by show c.la ≤ t.toNat; omega)
    · exact h.up
theorem Made.anc {c : Ch} {n : Nat} (h : Made c n) : Made (ancC c) n := ⟨ancC_ok h.ok, by show c.bn ≤ c.cnt; unfold Ch.cnt; omega, h.cnt, h.sound.anc, h.up⟩
theorem Made.pru {c : Ch} {n : Nat} (h : Made c n) (k : Int) : Made (pruR c k) n := by
  refine ⟨pruR_ok h.ok k, ?_, by rw [pruR_cnt h.ok]; exact h.cnt, pruR_sound h.ok h.sound k, ?_⟩
  · unfold pruR
    split
    · rename_i he
      obtain ⟨j, rfl, hj⟩ := pruE_zero he
      show c.bn + (((c.bn + j : Nat) : Int).toNat - c.bn) ≤ c.an
      omega
    · exact h.ba
  · unfold pruR
    split
    · intro i hi
      have hi' : i + 1 < (c.ev.drop (k.toNat - c.bn)).length := hi
      show ((c.ev.drop (k.toNat - c.bn))[i]'(by omega)).tim ≤ ((c.ev.drop (k.toNat - c.bn))[i + 1]'hi').tim
      rw [List.getElem_drop, List.getElem_drop]
      rw [List.length_drop] at hi'
      exact h.up (k.toNat - c.bn + i) (by omega)
    · exact h.up
structure ADeed where
  kind : Int
  at' : Int
  n : Int
  what : ByteArray
  who : ByteArray
def ADeed.vals (q : ADeed) : List Value := [.int .i64 q.kind, .int .i64 q.at', .int .i64 q.n, .string q.what, .string q.who]
def stepD (c : Ch) (q : ADeed) : Ch := if q.kind = 0 then addR c q.at' q.what q.who else if q.kind = 1 then ancC c else if q.kind = 2 then pruR c q.n else c
theorem Made.step {c : Ch} {n : Nat} (h : Made c n) (q : ADeed) : Made (stepD c q) (n + 1) := by
  unfold stepD
  split
  · exact h.add _ _ _
  · split
    · exact h.anc.mono (Nat.le_succ _)
    · split
      · exact (h.pru _).mono (Nat.le_succ _)
      · exact h.mono (Nat.le_succ _)
structure Pair (w : World) (B g r : Nat) (v u : Value) (c : Ch) : Prop where
  ch : ChAt w B g v c
  rf : RAt w B r u c
  sep : ∀ k, v.ownBlock = some k → u.ownBlock ≠ some k
section
variable {w w1 w2 : World} {B g r : Nat} {v u v' u' : Value} {c c' : Ch}
theorem Pair.vr (h : Pair w B g r v u c) : v.ownBlock ≠ some r := fun e => by
  rcases h.ch.row.2 with ⟨rfl, _⟩ | ⟨j, cap, cur, rfl, hb, hj, _⟩
  · cases e
  · cases e
    rw [h.rf.obj] at hj
    injection hj with h1
    injection h1 with _ h1
    exact absurd h1 (by decide)
theorem Pair.below (h : Pair w B g r v u c) (hb : Below w.heap.size w w1) : Pair w1 B g r v u c := ⟨h.ch.below hb, h.rf.below hb, h.sep⟩
end
end Go.Proofs.YthfmpebgmojcaaaDoor
/- TopChained: the chain, the tree of keys, the rows read and the rows copied, beside one another. -/
namespace Go.Proofs.YthfmpebgmojcaaaDoor
open Go.RowKit
set_option linter.unusedVariables false
set_option maxRecDepth 20000
theorem own_obj {w : World} {B e s n : Nat} {v : Value} {xs : List Value} (h : w.ownsRow B e s v n xs) {k : Nat} (hk : v.ownBlock = some k) : ∃ cur, w.heap[k]? = some (.cells cur e (0, 0)) := by
  rcases h.2 with ⟨rfl, _⟩ | ⟨g, cap, cur, rfl, _, hg, _⟩
  · cases hk
  · cases hk; exact ⟨cur, hg⟩
theorem row_ne {w : World} {B n : Nat} {v : Value} {xs : List Value} (h : w.ownsRow B 75 2 v n xs) {k : Nat} (hk : ∀ cur, w.heap[k]? ≠ some (.cells cur 75 (0, 0))) : v.ownBlock ≠ some k := fun e => by
  obtain ⟨cur, h1⟩ := own_obj h e
  exact hk cur h1
structure CP (W wr : World) (B G gc g mv mg : Nat) (root : List UInt8) (v : Value) (c : Ch) (vR : Value) (rs : List Xr.RC) (n i : Nat) (vB : Value) (bs : List Xr.RC) : Prop where
  ch : ChAt wr B gc v c
  tr : Ky.TreeM wr B g mv mg root (Ky.tsn n) 0
  ro : wr.ownsRow B 75 2 vR rs.length (Xr.rcCells rs)
  ri : Xr.RowsIs wr rs (rowsX c)
  bo : wr.ownsRow G 75 2 vB bs.length (Xr.rcCells bs)
  bi : Xr.RowsIs wr bs ((rowsX c).take i)
  tb : Tabs wr B
  bel : Below B W wr
  hB : B ≤ G
  hG : G ≤ wr.heap.size
  sr : ∀ k, vR.ownBlock = some k → k < G
section
variable {W w w' : World} {B G gc g mv mg : Nat} {root : List UInt8} {v : Value} {c : Ch} {vR : Value} {rs : List Xr.RC} {n n' i : Nat} {vB vB' : Value} {bs : List Xr.RC}
theorem colAt_mine (hA : Ky.TreeM w B g mv mg root (Ky.tsn n) 0) (o : Ky.OutJ (Ky.Mine g mv mg) w w') {a : Option Addr} {l : List ByteArray} (h : Xr.ColAt w a l) : Xr.ColAt w' a l := by
  obtain ⟨b, cur, e, h1, h2⟩ := h
  exact ⟨b, cur, e, (o.block b (heap_lt h1) (Ky.mine_typed hA h1 (by decide))).trans h1, h2⟩
theorem cell_mine (hA : Ky.TreeM w B g mv mg root (Ky.tsn n) 0) (o : Ky.OutJ (Ky.Mine g mv mg) w w') {b k : Nat} {u : Value} {cs : Array Value} {e : TypeId} (hb : w.heap[b]? = some (.cells cs e (0, 0))) (he : e ≠ 128) (hc : w.cell? ⟨b, k, none⟩ = some u) : w'.cell? ⟨b, k, none⟩ = some u := by
  unfold World.cell? at hc ⊢
  rw [o.block b (heap_lt hb) (Ky.mine_typed hA hb he)]
  exact hc
theorem CP.seal (h : CP W w B G gc g mv mg root v c vR rs n i vB bs) (o : Ky.OutJ (Ky.Mine g mv mg) w w') (t : Ky.TreeM w' B g mv mg root (Ky.tsn n') 0) : CP W w' B G gc g mv mg root v c vR rs n' i vB bs := by
  have hb := h.tr.below_of o (Nat.le_trans h.hB h.hG)
  refine ⟨h.ch.keep (o.block gc h.ch.lt (Ky.mine_typed h.tr h.ch.obj (by decide))) (fun k hk => ?_), t, Ky.own_outJ h.ro o (fun k cs hk => Ky.mine_typed h.tr hk (by decide)), h.ri.imp (fun r x hr => ⟨hr.1, hr.2.1, colAt_mine h.tr o hr.2.2⟩), Ky.own_outJ h.bo o (fun k cs hk => Ky.mine_typed h.tr hk (by decide)), h.bi.imp (fun r x hr => ⟨hr.1, hr.2.1, colAt_mine h.tr o hr.2.2⟩), h.tb.keep hb, h.bel.trans hb, h.hB, Nat.le_trans h.hG o.size, h.sr⟩
  obtain ⟨cur, h1⟩ := own_obj h.ch.row hk
  exact o.block k (heap_lt h1) (Ky.mine_typed h.tr h1 (by decide))
theorem CP.below (h : CP W w B G gc g mv mg root v c vR rs n i vB bs) (hb : Below w.heap.size w w') : CP W w' B G gc g mv mg root v c vR rs n i vB bs := h.seal (Ky.OutJ.of_below hb) (h.tr.below hb)
theorem CP.push (h : CP W w B G gc g mv mg root v c vR rs n i vB bs) (hg : w.grownBy w' vB.ownBlock) {r : Xr.RC} {x : Xr.Rw} (ho : w'.ownsRow G 75 2 vB' (bs ++ [r]).length (Xr.rcCells (bs ++ [r]))) (hi : i < (rowsX c).length) (hx : (rowsX c)[i] = x) (hr : Xr.RowIs w r x) : CP W w' B G gc g mv mg root v c vR rs n (i + 1) vB' (bs ++ [r]) := by
  have hGB : ∀ k, vB.ownBlock = some k → G ≤ k := fun k hk => (h.bo.lt k hk).1
  have hb : Below B w w' := ⟨hg.os, hg.tape, hg.output, hg.size, fun k hk => hg.block k (by have := h.hB; have := h.hG; omega) (fun e => by have := hGB k e.symm; have := h.hB; omega)⟩
  have htr : Ky.TreeM w' B g mv mg root (Ky.tsn n) 0 := by
    obtain ⟨⟨c0, h0⟩, ⟨e1, c1, h1⟩, ⟨e2, c2, h2⟩, _⟩ := h.tr.blocks
    refine h.tr.outJ (P := fun k => vB.ownBlock = some k) ⟨hg.os, hg.tape, hg.output, hg.size, fun k hk hp => hg.block k hk (fun e => hp e.symm)⟩ ?_ ?_ ?_
    · exact row_ne h.bo (fun cur e => by rw [h0] at e; cases e)
    · exact row_ne h.bo (fun cur e => by rw [h1] at e; cases e)
    · exact row_ne h.bo (fun cur e => by rw [h2] at e; cases e)
  refine ⟨h.ch.keep (hg.block gc h.ch.lt (fun e => ?_)) (fun k hk => ?_), htr, ?_, h.ri.grown h.bo hg, ho, ?_, h.tb.keep hb, h.bel.trans hb, h.hB, Nat.le_trans h.hG hg.size, h.sr⟩
  · obtain ⟨cur, h1⟩ := own_obj h.bo e.symm
    rw [h.ch.obj] at h1
    cases h1
  · obtain ⟨cur, h1⟩ := own_obj h.ch.row hk
    refine hg.block k (heap_lt h1) (fun e => ?_)
    obtain ⟨cur2, h2⟩ := own_obj h.bo e.symm
    rw [h1] at h2
    cases h2
  · refine ⟨h.ro.1, ?_⟩
    rcases h.ro.2 with h0 | ⟨k, cap, cur, e1, hb1, hk, rest⟩
    · exact .inl h0
    · refine .inr ⟨k, cap, cur, e1, hb1, (hg.block k (heap_lt hk) (fun e => ?_)).trans hk, rest⟩
      have h1 := hGB k e.symm
      have h2 := h.sr k (by rw [e1]; rfl)
      omega
  · rw [List.take_succ_eq_append_getElem hi, hx]
    refine Xr.RowsIs.app (h.bi.grown h.bo hg) ⟨⟨hr.1, hr.2.1, hr.2.2.grown h.bo hg⟩, trivial⟩
structure CX (w0 wr : World) (B g mv mg : Nat) (root : List UInt8) (n : Nat) (key : ByteArray) (xs : List ByteArray) (vc : Value) : Prop where
  fr : Ky.OutJ (Ky.Mine g mv mg) w0 wr
  tr : Ky.TreeM wr B g mv mg root (Ky.tsn n) 0
  lt : g < w0.heap.size ∧ mv < w0.heap.size ∧ mg < w0.heap.size
  ob : wr.heap[w0.heap.size]? = some (.cells #[.string key, vc] 75 (0, 0))
  oc : wr.ownsRow (w0.heap.size + 1) 9 1 vc xs.length (strsOf xs)
  sz : w0.heap.size + 1 ≤ wr.heap.size
variable {w0 : World} {key : ByteArray} {xs : List ByteArray} {vc : Value}
theorem CX.start (h : CP W w0 B G gc g mv mg root v c vR rs n i vB bs) (key : ByteArray) : CX w0 (w0.alloc (.cells #[.string key, .slice none 0 0] 75)) B g mv mg root n key [] (.slice none 0 0) := by
  have hb : Below w0.heap.size w0 (w0.alloc (.cells #[.string key, .slice none 0 0] 75)) := (Below.refl _ w0).alloc (Nat.le_refl _) _
  exact ⟨Ky.OutJ.of_below hb, h.tr.below hb, h.tr.lts, heap_alloc_new w0 _, World.ownsRow_nil _ _ _ _, by simp⟩
theorem CX.cp (x : CX w0 w B g mv mg root n' key xs vc) (h : CP W w0 B G gc g mv mg root v c vR rs n i vB bs) : CP W w B G gc g mv mg root v c vR rs n' i vB bs := h.seal x.fr x.tr
theorem CX.below (x : CX w0 w B g mv mg root n key xs vc) (hb : Below w.heap.size w w') : CX w0 w' B g mv mg root n key xs vc :=
  ⟨x.fr.trans (Ky.OutJ.of_below hb), x.tr.below hb, x.lt, (hb.block _ (heap_lt x.ob)).trans x.ob, own_onW x.oc hb, Nat.le_trans x.sz hb.size⟩
theorem CX.seal (x : CX w0 w B g mv mg root n key xs vc) (o : Ky.OutJ (Ky.Mine g mv mg) w w') (t : Ky.TreeM w' B g mv mg root (Ky.tsn n') 0) : CX w0 w' B g mv mg root n' key xs vc :=
  ⟨x.fr.trans o, t, x.lt, (o.block _ (heap_lt x.ob) (Ky.mine_typed x.tr x.ob (by decide))).trans x.ob, Ky.own_outJ x.oc o (fun k cs hk => Ky.mine_typed x.tr hk (by decide)), Nat.le_trans x.sz o.size⟩
theorem CX.app (x : CX w0 w B g mv mg root n key xs vc) {s : ByteArray} {vc' : Value} (hb : Below (w0.heap.size + 1) w w') (ho : w'.ownsRow (w0.heap.size + 1) 9 1 vc' (xs ++ [s]).length (strsOf (xs ++ [s]))) : CX w0 (w'.setCell ⟨w0.heap.size, 1, none⟩ vc') B g mv mg root n key (xs ++ [s]) vc' := by
  obtain ⟨l1, l2, l3⟩ := x.lt
  have hob : w'.heap[w0.heap.size]? = some (.cells #[.string key, vc] 75 (0, 0)) := (hb.block _ (by omega)).trans x.ob
  have o1 : Ky.OutJ (fun k => k = w0.heap.size) w' (w'.setCell ⟨w0.heap.size, 1, none⟩ vc') := Ky.OutJ.setCell _ _ _ rfl
  have t1 : Ky.TreeM w' B g mv mg root (Ky.tsn n) 0 := x.tr.keepB hb (by omega) (by omega) (by omega)
  refine ⟨⟨o1.os.trans (hb.os.trans x.fr.os), o1.tape.trans (hb.tape.trans x.fr.tape), o1.output.trans (hb.output.trans x.fr.output), Nat.le_trans x.fr.size (Nat.le_trans hb.size o1.size), fun k hk hp => ?_⟩, t1.outJ o1 (by show ¬ g = _; omega) (by show ¬ mv = _; omega) (by show ¬ mg = _; omega), x.lt, ?_, ?_, Nat.le_trans x.sz (Nat.le_trans hb.size o1.size)⟩
  · exact (o1.block k (by have := x.sz; have := hb.size; omega) (by show ¬ k = _; omega)).trans ((hb.block k (by omega)).trans (x.fr.block k hk hp))
  · rw [heap_setCell_same w' _ 1 _ _ _ hob]
    rfl
  · refine Ky.own_outJ ho o1 (fun k cs hk => ?_)
    show ¬ k = _
    intro e
    subst e
    rw [hob] at hk
    cases hk
end
end Go.Proofs.YthfmpebgmojcaaaDoor
