/- YthfmpebgmojcaaaDoorADoM + YthfmpebgmojcaaaDoorADo0 + YthfmpebgmojcaaaDoorADo1 -/
import Derived.Test.YthfmpebgmojcaaaDoorZHead
import Derived.Test.YthfmpebgmojcaaaDoorARw3
/- The program's chain and the reference's beside each other; what a deed makes of them. -/
namespace Go.Proofs.YthfmpebgmojcaaaDoor
open Go.RowKit
set_option linter.unusedVariables false
set_option maxRecDepth 20000
def Up (l : List Ev) : Prop := ∀ i (h : i + 1 < l.length), (l[i]'(by omega)).tim ≤ l[i + 1].tim
structure Made (c : Ch) (n : Nat) : Prop where
  ok : ChOk c
  ba : c.bn ≤ c.an
  cnt : c.cnt ≤ n
  sound : Sound c
  up : Up c.ev
theorem Made.mono {c : Ch} {n m : Nat} (h : Made c n) (hm : n ≤ m) : Made c m := ⟨h.ok, h.ba, Nat.le_trans h.cnt hm, h.sound, h.up⟩
theorem Made.evOk {c : Ch} {n : Nat} (h : Made c n) (hn : n ≤ 1000000) : EvOk c.ev := fun e he => by
  obtain ⟨i, hi, rfl⟩ := List.mem_iff_getElem.1 he
  have h1 := h.ok.num i hi
  have h2 := h.cnt
  have h3 := h.ok.tim _ he
  have h4 := h.ok.las
  have h5 := h.ok.siz _ he
  unfold Ch.cnt at h2
  exact ⟨by omega, by omega, h5.1, h5.2⟩
theorem up_add {c : Ch} (hu : Up c.ev) (ht : ∀ e ∈ c.ev, e.tim ≤ c.la) (e : Ev) (he : c.la ≤ e.tim) : Up (c.ev ++ [e]) := fun i h => by
  rw [List.length_append, List.length_singleton] at h
  by_cases h1 : i + 1 < c.ev.length
  · rw [List.getElem_append_left (by omega), List.getElem_append_left h1]
    exact hu i h1
  · rw [List.getElem_append_left (by omega), List.getElem_append_right (by omega)]
    simp only [show i + 1 - c.ev.length = 0 by omega, List.getElem_cons_zero]
    exact Nat.le_trans (ht _ (List.getElem_mem _)) he
theorem Made.add {c : Ch} {n : Nat} (h : Made c n) (t : Int) (what who : ByteArray) : Made (addR c t what who) (n + 1) := by
  refine ⟨addR_ok h.ok _ _ _, ?_, Nat.le_trans (addR_cnt c t what who) (by have := h.cnt; omega), addR_sound h.ok h.sound _ _ _, ?_⟩
  · unfold addR
    split
    · exact h.ba
    · exact h.ba
  · unfold addR
    split
    · rename_i he
      obtain ⟨t1, t2, t3, t4, t5, t6⟩ := addE_zero he
      exact up_add h.up h.ok.tim _ (by show c.la ≤ t.toNat; omega)
    · exact h.up
theorem Made.anc {c : Ch} {n : Nat} (h : Made c n) : Made (ancC c) n := ⟨ancC_ok h.ok, by show c.bn ≤ c.cnt; unfold Ch.cnt; omega, h.cnt, h.sound.anc, h.up⟩
theorem Made.pru {c : Ch} {n : Nat} (h : Made c n) (k : Int) : Made (pruR c k) n := by
  refine ⟨pruR_ok h.ok k, ?_, by rw [pruR_cnt h.ok]; exact h.cnt, pruR_sound h.ok h.sound k, ?_⟩
  · unfold pruR
    split
    · rename_i he
      obtain ⟨j, rfl, hj⟩ := pruE_zero he
      show c.bn + (((c.bn + j : Nat) : Int).toNat - c.bn) ≤ c.an
      omega
    · exact h.ba
  · unfold pruR
    split
    · intro i hi
      have hi' : i + 1 < (c.ev.drop (k.toNat - c.bn)).length := hi
      show ((c.ev.drop (k.toNat - c.bn))[i]'(by omega)).tim ≤ ((c.ev.drop (k.toNat - c.bn))[i + 1]'hi').tim
      rw [List.getElem_drop, List.getElem_drop]
      rw [List.length_drop] at hi'
      exact h.up (k.toNat - c.bn + i) (by omega)
    · exact h.up
structure ADeed where
  kind : Int
  at' : Int
  n : Int
  what : ByteArray
  who : ByteArray
def ADeed.vals (q : ADeed) : List Value := [.int .i64 q.kind, .int .i64 q.at', .int .i64 q.n, .string q.what, .string q.who]
def stepD (c : Ch) (q : ADeed) : Ch := if q.kind = 0 then addR c q.at' q.what q.who else if q.kind = 1 then ancC c else if q.kind = 2 then pruR c q.n else c
theorem Made.step {c : Ch} {n : Nat} (h : Made c n) (q : ADeed) : Made (stepD c q) (n + 1) := by
  unfold stepD
  split
  · exact h.add _ _ _
  · split
    · exact h.anc.mono (Nat.le_succ _)
    · split
      · exact (h.pru _).mono (Nat.le_succ _)
      · exact h.mono (Nat.le_succ _)
structure Pair (w : World) (B g r : Nat) (v u : Value) (c : Ch) : Prop where
  ch : ChAt w B g v c
  rf : RAt w B r u c
  sep : ∀ k, v.ownBlock = some k → u.ownBlock ≠ some k
section
variable {w w1 w2 : World} {B g r : Nat} {v u v' u' : Value} {c c' : Ch}
theorem Pair.gr (h : Pair w B g r v u c) : g ≠ r := fun e => by
  have h1 := h.ch.obj
  rw [e, h.rf.obj] at h1
  injection h1 with h1
  injection h1 with _ h1
  exact absurd h1 (by decide)
theorem Pair.vr (h : Pair w B g r v u c) : v.ownBlock ≠ some r := fun e => by
  rcases h.ch.row.2 with ⟨rfl, _⟩ | ⟨j, cap, cur, rfl, hb, hj, _⟩
  · cases e
  · cases e
    rw [h.rf.obj] at hj
    injection hj with h1
    injection h1 with _ h1
    exact absurd h1 (by decide)
theorem Pair.ug (h : Pair w B g r v u c) : u.ownBlock ≠ some g := fun e => by
  rcases h.rf.row.2 with ⟨rfl, _⟩ | ⟨j, cap, cur, rfl, hb, hj, _⟩
  · cases e
  · cases e
    rw [h.ch.obj] at hj
    injection hj with h1
    injection h1 with _ h1
    exact absurd h1 (by decide)
theorem Pair.below (h : Pair w B g r v u c) (hb : Below w.heap.size w w1) : Pair w1 B g r v u c := ⟨h.ch.below hb, h.rf.below hb, h.sep⟩
theorem Pair.mid (h : Pair w B g r v u c) (h1 : ChAt w1 B g v' c') (o1 : Out (CBlk g v) w w1) (gr1 : Grew w v v') : RAt w1 B r u c ∧ ∀ k, v'.ownBlock = some k → u.ownBlock ≠ some k := by
  refine ⟨h.rf.out o1 (fun x => ?_) (fun k hk x => ?_), fun k hk hu => ?_⟩
  · rcases x with x | x
    · exact h.gr x.symm
    · exact h.vr x
  · rcases x with x | x
    · exact h.ug (x ▸ hk)
    · exact h.sep k x hk
  · rcases gr1 k hk with x | x
    · exact h.sep k x hu
    · have := (h.rf.lts k hu).2; omega
theorem pair_end (h1 : ChAt w1 B g v' c') (hr : RAt w1 B r u c) (hs : ∀ k, v'.ownBlock = some k → u.ownBlock ≠ some k) (h2 : RAt w2 B r u' c') (o2 : Out (fun j => j = r) w1 w2) (gr2 : Grew w1 u u') : Pair w2 B g r v' u' c' := by
  have hgr : g ≠ r := fun e => by
    have h3 := h1.obj
    rw [e, hr.obj] at h3
    injection h3 with h3
    injection h3 with _ h3
    exact absurd h3 (by decide)
  refine ⟨h1.out o2 hgr (fun k hk x => ?_), h2, fun k hk hu => ?_⟩
  · rcases h1.row.2 with ⟨rfl, _⟩ | ⟨j, cap, cur, rfl, hb, hj, _⟩
    · cases hk
    · cases hk
      rw [show j = r from x, hr.obj] at hj
      injection hj with h3
      injection h3 with _ h3
      exact absurd h3 (by decide)
  · rcases gr2 k hu with x | x
    · exact hs k hk x
    · have := (h1.lts k hk).2; omega
end
end Go.Proofs.YthfmpebgmojcaaaDoor
/- A deed on both chains: holdfastlaw14.do, by a contract. -/
namespace Go.Proofs.YthfmpebgmojcaaaDoor
open Go.RowKit Go.Shelf
set_option linter.unusedVariables false
set_option maxRecDepth 20000
attribute [local go_sem ↓] loadL_fold storeL_fold loadH_fold storeH_fold buildH_fold
def DoPost (w : World) (B g r : Nat) (c : Ch) (q : ADeed) (e : Ending) (w' : World) : Prop := e = .returned (.bool true) ∧ (∃ v' u', Pair w' B g r v' u' (stepD c q)) ∧ Below B w w'
def DoBlk (g r : Nat) (v : Value) (j : Nat) : Prop := CBlk g v j ∨ j = r
def DoPostF (w : World) (B g r : Nat) (v : Value) (c : Ch) (q : ADeed) (e : Ending) (w' : World) : Prop := e = .returned (.bool true) ∧ (∃ v' u', Pair w' B g r v' u' (stepD c q) ∧ Grew w v v') ∧ Below B w w' ∧ Out (DoBlk g r v) w w'
theorem DoPostF.do' {w w' : World} {B g r : Nat} {v : Value} {c : Ch} {q : ADeed} {e : Ending} (h : DoPostF w B g r v c q e w') : DoPost w B g r c q e w' := by
  obtain ⟨h1, ⟨v', u', h2, _⟩, h3, _⟩ := h
  exact ⟨h1, ⟨v', u', h2⟩, h3⟩
theorem do_out {w W0 w1 w1a w2 w3 : World} {g r : Nat} {v : Value} (b0 : Below w.heap.size w W0) (o1 : Out (CBlk g v) W0 w1) (b1a : Below w1.heap.size w1 w1a) (o2 : Out (fun j => j = r) w1a w2) (b3 : Below w2.heap.size w2 w3) : Out (DoBlk g r v) w w3 :=
  ((((Out.of_below b0).trans (o1.imp (fun _ _ x => .inl x)) (fun _ _ x => x)).on b1a).trans (o2.imp (Q := DoBlk g r v) (fun _ _ x => .inr x)) (fun _ _ x => x)).on b3
end Go.Proofs.YthfmpebgmojcaaaDoor
/- A deed on both chains: holdfastlaw14.do, by a contract. -/
namespace Go.Proofs.YthfmpebgmojcaaaDoor
open Go.RowKit Go.Shelf
set_option linter.unusedVariables false
set_option maxRecDepth 20000
attribute [local go_sem ↓] loadL_fold storeL_fold loadH_fold storeH_fold buildH_fold
end Go.Proofs.YthfmpebgmojcaaaDoor
