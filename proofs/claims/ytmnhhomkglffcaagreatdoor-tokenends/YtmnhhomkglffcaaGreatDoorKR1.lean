/- Rows of families and of tokens in memory: read, copied, one of them changed. (Printed by gen/kr1.py.) -/
import Derived.Test.YtmnhhomkglffcaaGreatDoorKLive
import Derived.Laws.AppendOwnNone
namespace Go.Proofs.YtmnhhomkglffcaaGreatDoor
open Go.RowKit
theorem addr_add' (b o j : Nat) : (⟨b, o, none⟩ : Addr).add j = ⟨b, o + j, none⟩ := by unfold Addr.add; split <;> simp_all
end Go.Proofs.YtmnhhomkglffcaaGreatDoor
namespace Go.Proofs.YtmnhhomkglffcaaGreatDoor.Fam
open Go.RowKit Go.Maps Go.Sort Go.Shelf
set_option linter.unusedVariables false
set_option maxRecDepth 20000

/-- things that lie in a row of the world -/
def SIn (w : World) (a : Option Addr) (l : List Sess) : Prop := ∀ i (h : i < l.length), ∃ b o, a = some ⟨b, o, none⟩ ∧ w.cell? ⟨b, o + i * 5, none⟩ = some (.int .i64 l[i].id) ∧ w.cell? ⟨b, o + i * 5 + 1, none⟩ = some (.int .i64 l[i].ses) ∧ w.cell? ⟨b, o + i * 5 + 2, none⟩ = some (.string l[i].cli) ∧ w.cell? ⟨b, o + i * 5 + 3, none⟩ = some (.int .u8 l[i].sco) ∧ w.cell? ⟨b, o + i * 5 + 4, none⟩ = some (.int .i64 l[i].nxt)
theorem SIn.below {w w' : World} {a : Option Addr} {l : List Sess} (h : SIn w a l) (hb : Below w.heap.size w w') : SIn w' a l := fun i hi => by
  obtain ⟨b, o, e, h0, h1, h2, h3, h4⟩ := h i hi
  exact ⟨b, o, e, (hb.cell (World.block_lt_of_cell? _ _ h0)).trans h0, (hb.cell (World.block_lt_of_cell? _ _ h1)).trans h1, (hb.cell (World.block_lt_of_cell? _ _ h2)).trans h2, (hb.cell (World.block_lt_of_cell? _ _ h3)).trans h3, (hb.cell (World.block_lt_of_cell? _ _ h4)).trans h4⟩
theorem SIn.at {w : World} {a : Option Addr} {l : List Sess} (h : SIn w a l) {i : Nat} {s : Sess} (hi : l[i]? = some s) : i < l.length ∧ ∃ b o, a = some ⟨b, o, none⟩ ∧ w.cell? ⟨b, o + i * 5, none⟩ = some (.int .i64 s.id) ∧ w.cell? ⟨b, o + i * 5 + 1, none⟩ = some (.int .i64 s.ses) ∧ w.cell? ⟨b, o + i * 5 + 2, none⟩ = some (.string s.cli) ∧ w.cell? ⟨b, o + i * 5 + 3, none⟩ = some (.int .u8 s.sco) ∧ w.cell? ⟨b, o + i * 5 + 4, none⟩ = some (.int .i64 s.nxt) := by
  obtain ⟨h1, h2⟩ := List.getElem?_eq_some_iff.1 hi
  have := h i h1
  rw [h2] at this
  exact ⟨h1, this⟩
theorem sCells_get (l : List Sess) (i j : Nat) (hi : i < l.length) (hj : j < 5) : (sCells l)[i * 5 + j]? = ([.int .i64 l[i].id, .int .i64 l[i].ses, .string l[i].cli, .int .u8 l[i].sco, .int .i64 l[i].nxt] : List Value)[j]? := by
  induction l generalizing i with
  | nil => simp at hi
  | cons x r ih =>
    rw [sCells, List.flatMap_cons, ← sCells]
    cases i with
    | zero =>
      rw [List.getElem?_append_left (by simp; omega)]
      simp
    | succ m =>
      rw [List.getElem?_append_right (by simp; omega)]
      have hm : m < r.length := by simpa using hi
      have := ih m hm
      simp only [List.length_cons, List.length_nil, List.getElem_cons_succ]
      rw [show (m + 1) * 5 + j - (0 + 1 + 1 + 1 + 1 + 1) = m * 5 + j by omega]
      exact this
theorem sess_of_own {w : World} {B n : Nat} {v : Value} {l : List Sess} (h : w.ownsRow B 35 5 v n (sCells l)) : ∃ a cap, v = .slice a l.length cap ∧ SIn w a l ∧ l.length ≤ cap := by
  have hn : l.length = n := by have := h.1; rw [sCells_length] at this; omega
  subst hn
  rcases h.2 with ⟨rfl, h0⟩ | ⟨g, cap, cur, rfl, hb, hg, hc, hm, hs, ht⟩
  · refine ⟨none, 0, by rw [h0], fun i hi => ?_, by omega⟩
    omega
  · refine ⟨some ⟨g, 0, none⟩, cap, rfl, fun i hi => ⟨g, 0, rfl, ?_⟩, hc⟩
    have at_ : ∀ j v, j < 5 → ([.int .i64 l[i].id, .int .i64 l[i].ses, .string l[i].cli, .int .u8 l[i].sco, .int .i64 l[i].nxt] : List Value)[j]? = some v → w.cell? ⟨g, 0 + i * 5 + j, none⟩ = some v := fun j v hj hv => by
      have := World.ownsRow.cellAt h (i * 5 + j) (by omega)
      rw [Nat.zero_add, this, sCells_get l i j hi hj]
      exact hv
    exact ⟨at_ 0 _ (by omega) rfl, at_ 1 _ (by omega) rfl, at_ 2 _ (by omega) rfl, at_ 3 _ (by omega) rfl, at_ 4 _ (by omega) rfl⟩
theorem sess_in {w : World} {B : Nat} {a : Option Addr} {cap : Nat} {l : List Sess} (h : w.ownsRow B 35 5 (.slice a l.length cap) l.length (sCells l)) : SIn w a l := by
  obtain ⟨a', cap', e, hs, _⟩ := sess_of_own h
  cases e
  exact hs
theorem own_block {w : World} {B : Nat} {v : Value} {l : List Sess} (h : w.ownsRow B 35 5 v l.length (sCells l)) (hl : 0 < l.length) : ∃ g cap, v = .slice (some ⟨g, 0, none⟩) l.length cap ∧ B ≤ g ∧ ∀ j, w.frozen? ⟨g, j, none⟩ = false := by
  rcases h.2 with ⟨_, h0⟩ | ⟨g, cap, cur, rfl, hg, hb, _⟩
  · omega
  · exact ⟨g, cap, rfl, hg, fun j => frozen_of_row _ _ j _ _ hb⟩
theorem sCells_cons (x : Sess) (r : List Sess) : sCells (x :: r) = [.int .i64 x.id, .int .i64 x.ses, .string x.cli, .int .u8 x.sco, .int .i64 x.nxt] ++ sCells r := by simp [sCells]
theorem sCells_set (l : List Sess) (i : Nat) (s : Sess) (hi : i < l.length) :
    (((((sCells l).set (i * 5) (.int .i64 s.id)).set (i * 5 + 1) (.int .i64 s.ses)).set (i * 5 + 2) (.string s.cli)).set (i * 5 + 3) (.int .u8 s.sco)).set (i * 5 + 4) (.int .i64 s.nxt) = sCells (l.set i s) := by
  induction l generalizing i with
  | nil => simp at hi
  | cons x r ih =>
    cases i with
    | zero => simp [sCells]
    | succ m =>
      have hm : m < r.length := by simpa using hi
      have e := ih m hm
      rw [List.set_cons_succ]
      rw [sCells_cons, sCells_cons, ← e]
      rw [List.set_append_right _ _ (by simp; omega), List.set_append_right _ _ (by simp; omega), List.set_append_right _ _ (by simp; omega), List.set_append_right _ _ (by simp; omega), List.set_append_right _ _ (by simp; omega)]
      congr 1
      simp only [List.length_cons, List.length_nil]
      rw [show (m + 1) * 5 - (0 + 1 + 1 + 1 + 1 + 1) = m * 5 by omega, show (m + 1) * 5 + 1 - (0 + 1 + 1 + 1 + 1 + 1) = m * 5 + 1 by omega, show (m + 1) * 5 + 2 - (0 + 1 + 1 + 1 + 1 + 1) = m * 5 + 2 by omega, show (m + 1) * 5 + 3 - (0 + 1 + 1 + 1 + 1 + 1) = m * 5 + 3 by omega, show (m + 1) * 5 + 4 - (0 + 1 + 1 + 1 + 1 + 1) = m * 5 + 4 by omega]
/-- one of a row's things is laid anew -/
theorem own_set {w : World} {B g cap : Nat} {l : List Sess} (h : w.ownsRow B 35 5 (.slice (some ⟨g, 0, none⟩) l.length cap) l.length (sCells l)) (i : Nat) (hi : i < l.length) (s : Sess) :
    (((((w.setCell ⟨g, i * 5, none⟩ (.int .i64 s.id)).setCell ⟨g, i * 5 + 1, none⟩ (.int .i64 s.ses)).setCell ⟨g, i * 5 + 2, none⟩ (.string s.cli)).setCell ⟨g, i * 5 + 3, none⟩ (.int .u8 s.sco)).setCell ⟨g, i * 5 + 4, none⟩ (.int .i64 s.nxt)).ownsRow B 35 5 (.slice (some ⟨g, 0, none⟩) l.length cap) l.length (sCells (l.set i s)) := by
  refine ⟨by rw [sCells_length, List.length_set], ?_⟩
  rcases h.2 with ⟨h0, _⟩ | ⟨g', cap', cur, e, hg, hb, hc, hm, hs, ht⟩
  · cases h0
  · cases e
    refine .inr ⟨g, cap, (((((cur.setIfInBounds (i * 5) (.int .i64 s.id)).setIfInBounds (i * 5 + 1) (.int .i64 s.ses)).setIfInBounds (i * 5 + 2) (.string s.cli)).setIfInBounds (i * 5 + 3) (.int .u8 s.sco)).setIfInBounds (i * 5 + 4) (.int .i64 s.nxt)), rfl, hg, ?_, hc, hm, by simpa using hs, ?_⟩
    · have e0 := heap_setCell_same _ g (i * 5) _ _ (.int .i64 s.id) hb
      have e1 := heap_setCell_same _ g (i * 5 + 1) _ _ (.int .i64 s.ses) e0
      have e2 := heap_setCell_same _ g (i * 5 + 2) _ _ (.string s.cli) e1
      have e3 := heap_setCell_same _ g (i * 5 + 3) _ _ (.int .u8 s.sco) e2
      exact heap_setCell_same _ g (i * 5 + 4) _ _ (.int .i64 s.nxt) e3
    · simp only [Array.toList_setIfInBounds, List.take_set, ht]
      exact sCells_set l i s hi

/-- append(nil, x...), x a row of things -/
theorem app_all (w : World) {ops : Array Oper} {rest : List Oper} {o : Oper} {a : Act} {Q : Exit → Act → World → Prop} (hgd : o.guard = none) (sl x : Operand)
    (ho : o.op = .call { callee := .builtin .append, args := #[sl, x], argTypes := #[41, 41] }) (base : Nat) (hs : a.eval sl = .slice none 0 0) (B : Nat) (ad : Option Addr) (cap : Nat) (l : List Sess)
    (hown : w.ownsRow B 35 5 (.slice ad l.length cap) l.length (sCells l)) (hx : a.eval x = .slice ad l.length cap) (hb : l.length ≤ 2000000000) (hbase : base ≤ w.heap.size)
    (h : ∀ v' w', w'.ownsRow base 35 5 v' l.length (sCells l) → w.grownBy w' none → wpList Tryz.prog ops Q rest (a.put o.dst v') w') :
    wpList Tryz.prog ops Q (o :: rest) a w := by
  obtain ⟨i0, hi, hz0, hz1, hz2⟩ := info_parts Tryz.info35
  rcases hown.2 with ⟨h0, h1⟩ | ⟨g, cap', cur, e, hg, hbk, hc, hm, hsz, ht⟩
  · have e : l = [] := List.eq_nil_of_length_eq_zero h1
    subst e
    refine wpList_append_own_none hgd sl x 41 ho base 35 i0 5 Tryz.underlying41 hi (.slice none 0 0) 0 [] hs (World.ownsRow_nil _ _ _ _) (by rw [hx]; exact h0) ?_
    exact h _ _ (World.ownsRow_nil _ _ _ _) ⟨rfl, rfl, rfl, Nat.le_refl _, fun _ _ _ => rfl⟩
  · have e' : ad = some ⟨g, 0, none⟩ ∧ cap' = cap := by injection e with e1 e2 e3; exact ⟨e1, e3.symm⟩
    obtain ⟨rfl, rfl⟩ := e'
    refine wpList_append_own w hgd sl x 41 ho base 35 i0 (sessV sess0) 5 48 Tryz.underlying41 hi hz0 hz1 hz2 rfl (by decide) (.slice none 0 0) 0 [] hs (World.ownsRow_nil _ _ _ _) ⟨g, 0, none⟩ l.length cap' (sCells l) hx (sCells_length l) (fun j u hj => ?_) (fun u hu => ?_) (by unfold maxLen; omega) (by omega) hbase ?_
    · have hjl : j < (sCells l).length := (List.getElem?_eq_some_iff.1 hj).1
      rw [sCells_length] at hjl
      have := World.ownsRow.cellAt hown j hjl
      rw [addr_add', Nat.zero_add, this]
      exact hj
    · obtain ⟨s, _, hs'⟩ := List.mem_flatMap.1 hu
      simp at hs'
      rcases hs' with rfl | rfl | rfl | rfl | rfl <;> rfl
    · intro v' w' h1 h2 h3
      rw [Nat.zero_add, List.nil_append] at h1
      exact h v' w' h1 h2
end Go.Proofs.YtmnhhomkglffcaaGreatDoor.Fam
namespace Go.Proofs.YtmnhhomkglffcaaGreatDoor.Tok
open Go.RowKit Go.Maps Go.Sort Go.Shelf
set_option linter.unusedVariables false
set_option maxRecDepth 20000

/-- things that lie in a row of the world -/
def SIn (w : World) (a : Option Addr) (l : List Sess) : Prop := ∀ i (h : i < l.length), ∃ b o, a = some ⟨b, o, none⟩ ∧ w.cell? ⟨b, o + i * 4, none⟩ = some (.int .i64 l[i].id) ∧ w.cell? ⟨b, o + i * 4 + 1, none⟩ = some (.int .i64 l[i].fam) ∧ w.cell? ⟨b, o + i * 4 + 2, none⟩ = some (.int .u8 l[i].sco) ∧ w.cell? ⟨b, o + i * 4 + 3, none⟩ = some (.int .i64 l[i].unt)
theorem SIn.below {w w' : World} {a : Option Addr} {l : List Sess} (h : SIn w a l) (hb : Below w.heap.size w w') : SIn w' a l := fun i hi => by
  obtain ⟨b, o, e, h0, h1, h2, h3⟩ := h i hi
  exact ⟨b, o, e, (hb.cell (World.block_lt_of_cell? _ _ h0)).trans h0, (hb.cell (World.block_lt_of_cell? _ _ h1)).trans h1, (hb.cell (World.block_lt_of_cell? _ _ h2)).trans h2, (hb.cell (World.block_lt_of_cell? _ _ h3)).trans h3⟩
theorem SIn.at {w : World} {a : Option Addr} {l : List Sess} (h : SIn w a l) {i : Nat} {s : Sess} (hi : l[i]? = some s) : i < l.length ∧ ∃ b o, a = some ⟨b, o, none⟩ ∧ w.cell? ⟨b, o + i * 4, none⟩ = some (.int .i64 s.id) ∧ w.cell? ⟨b, o + i * 4 + 1, none⟩ = some (.int .i64 s.fam) ∧ w.cell? ⟨b, o + i * 4 + 2, none⟩ = some (.int .u8 s.sco) ∧ w.cell? ⟨b, o + i * 4 + 3, none⟩ = some (.int .i64 s.unt) := by
  obtain ⟨h1, h2⟩ := List.getElem?_eq_some_iff.1 hi
  have := h i h1
  rw [h2] at this
  exact ⟨h1, this⟩
theorem sCells_get (l : List Sess) (i j : Nat) (hi : i < l.length) (hj : j < 4) : (sCells l)[i * 4 + j]? = ([.int .i64 l[i].id, .int .i64 l[i].fam, .int .u8 l[i].sco, .int .i64 l[i].unt] : List Value)[j]? := by
  induction l generalizing i with
  | nil => simp at hi
  | cons x r ih =>
    rw [sCells, List.flatMap_cons, ← sCells]
    cases i with
    | zero =>
      rw [List.getElem?_append_left (by simp; omega)]
      simp
    | succ m =>
      rw [List.getElem?_append_right (by simp; omega)]
      have hm : m < r.length := by simpa using hi
      have := ih m hm
      simp only [List.length_cons, List.length_nil, List.getElem_cons_succ]
      rw [show (m + 1) * 4 + j - (0 + 1 + 1 + 1 + 1) = m * 4 + j by omega]
      exact this
theorem sess_of_own {w : World} {B n : Nat} {v : Value} {l : List Sess} (h : w.ownsRow B 55 4 v n (sCells l)) : ∃ a cap, v = .slice a l.length cap ∧ SIn w a l ∧ l.length ≤ cap := by
  have hn : l.length = n := by have := h.1; rw [sCells_length] at this; omega
  subst hn
  rcases h.2 with ⟨rfl, h0⟩ | ⟨g, cap, cur, rfl, hb, hg, hc, hm, hs, ht⟩
  · refine ⟨none, 0, by rw [h0], fun i hi => ?_, by omega⟩
    omega
  · refine ⟨some ⟨g, 0, none⟩, cap, rfl, fun i hi => ⟨g, 0, rfl, ?_⟩, hc⟩
    have at_ : ∀ j v, j < 4 → ([.int .i64 l[i].id, .int .i64 l[i].fam, .int .u8 l[i].sco, .int .i64 l[i].unt] : List Value)[j]? = some v → w.cell? ⟨g, 0 + i * 4 + j, none⟩ = some v := fun j v hj hv => by
      have := World.ownsRow.cellAt h (i * 4 + j) (by omega)
      rw [Nat.zero_add, this, sCells_get l i j hi hj]
      exact hv
    exact ⟨at_ 0 _ (by omega) rfl, at_ 1 _ (by omega) rfl, at_ 2 _ (by omega) rfl, at_ 3 _ (by omega) rfl⟩
theorem sess_in {w : World} {B : Nat} {a : Option Addr} {cap : Nat} {l : List Sess} (h : w.ownsRow B 55 4 (.slice a l.length cap) l.length (sCells l)) : SIn w a l := by
  obtain ⟨a', cap', e, hs, _⟩ := sess_of_own h
  cases e
  exact hs
theorem own_block {w : World} {B : Nat} {v : Value} {l : List Sess} (h : w.ownsRow B 55 4 v l.length (sCells l)) (hl : 0 < l.length) : ∃ g cap, v = .slice (some ⟨g, 0, none⟩) l.length cap ∧ B ≤ g ∧ ∀ j, w.frozen? ⟨g, j, none⟩ = false := by
  rcases h.2 with ⟨_, h0⟩ | ⟨g, cap, cur, rfl, hg, hb, _⟩
  · omega
  · exact ⟨g, cap, rfl, hg, fun j => frozen_of_row _ _ j _ _ hb⟩
theorem sCells_cons (x : Sess) (r : List Sess) : sCells (x :: r) = [.int .i64 x.id, .int .i64 x.fam, .int .u8 x.sco, .int .i64 x.unt] ++ sCells r := by simp [sCells]
theorem sCells_set (l : List Sess) (i : Nat) (s : Sess) (hi : i < l.length) :
    ((((sCells l).set (i * 4) (.int .i64 s.id)).set (i * 4 + 1) (.int .i64 s.fam)).set (i * 4 + 2) (.int .u8 s.sco)).set (i * 4 + 3) (.int .i64 s.unt) = sCells (l.set i s) := by
  induction l generalizing i with
  | nil => simp at hi
  | cons x r ih =>
    cases i with
    | zero => simp [sCells]
    | succ m =>
      have hm : m < r.length := by simpa using hi
      have e := ih m hm
      rw [List.set_cons_succ]
      rw [sCells_cons, sCells_cons, ← e]
      rw [List.set_append_right _ _ (by simp; omega), List.set_append_right _ _ (by simp; omega), List.set_append_right _ _ (by simp; omega), List.set_append_right _ _ (by simp; omega)]
      congr 1
      simp only [List.length_cons, List.length_nil]
      rw [show (m + 1) * 4 - (0 + 1 + 1 + 1 + 1) = m * 4 by omega, show (m + 1) * 4 + 1 - (0 + 1 + 1 + 1 + 1) = m * 4 + 1 by omega, show (m + 1) * 4 + 2 - (0 + 1 + 1 + 1 + 1) = m * 4 + 2 by omega, show (m + 1) * 4 + 3 - (0 + 1 + 1 + 1 + 1) = m * 4 + 3 by omega]
/-- one of a row's things is laid anew -/
theorem own_set {w : World} {B g cap : Nat} {l : List Sess} (h : w.ownsRow B 55 4 (.slice (some ⟨g, 0, none⟩) l.length cap) l.length (sCells l)) (i : Nat) (hi : i < l.length) (s : Sess) :
    ((((w.setCell ⟨g, i * 4, none⟩ (.int .i64 s.id)).setCell ⟨g, i * 4 + 1, none⟩ (.int .i64 s.fam)).setCell ⟨g, i * 4 + 2, none⟩ (.int .u8 s.sco)).setCell ⟨g, i * 4 + 3, none⟩ (.int .i64 s.unt)).ownsRow B 55 4 (.slice (some ⟨g, 0, none⟩) l.length cap) l.length (sCells (l.set i s)) := by
  refine ⟨by rw [sCells_length, List.length_set], ?_⟩
  rcases h.2 with ⟨h0, _⟩ | ⟨g', cap', cur, e, hg, hb, hc, hm, hs, ht⟩
  · cases h0
  · cases e
    refine .inr ⟨g, cap, ((((cur.setIfInBounds (i * 4) (.int .i64 s.id)).setIfInBounds (i * 4 + 1) (.int .i64 s.fam)).setIfInBounds (i * 4 + 2) (.int .u8 s.sco)).setIfInBounds (i * 4 + 3) (.int .i64 s.unt)), rfl, hg, ?_, hc, hm, by simpa using hs, ?_⟩
    · have e0 := heap_setCell_same _ g (i * 4) _ _ (.int .i64 s.id) hb
      have e1 := heap_setCell_same _ g (i * 4 + 1) _ _ (.int .i64 s.fam) e0
      have e2 := heap_setCell_same _ g (i * 4 + 2) _ _ (.int .u8 s.sco) e1
      exact heap_setCell_same _ g (i * 4 + 3) _ _ (.int .i64 s.unt) e2
    · simp only [Array.toList_setIfInBounds, List.take_set, ht]
      exact sCells_set l i s hi

/-- append(nil, x...), x a row of things -/
theorem app_all (w : World) {ops : Array Oper} {rest : List Oper} {o : Oper} {a : Act} {Q : Exit → Act → World → Prop} (hgd : o.guard = none) (sl x : Operand)
    (ho : o.op = .call { callee := .builtin .append, args := #[sl, x], argTypes := #[39, 39] }) (base : Nat) (hs : a.eval sl = .slice none 0 0) (B : Nat) (ad : Option Addr) (cap : Nat) (l : List Sess)
    (hown : w.ownsRow B 55 4 (.slice ad l.length cap) l.length (sCells l)) (hx : a.eval x = .slice ad l.length cap) (hb : l.length ≤ 2000000000) (hbase : base ≤ w.heap.size)
    (h : ∀ v' w', w'.ownsRow base 55 4 v' l.length (sCells l) → w.grownBy w' none → wpList Tryz.prog ops Q rest (a.put o.dst v') w') :
    wpList Tryz.prog ops Q (o :: rest) a w := by
  obtain ⟨i0, hi, hz0, hz1, hz2⟩ := info_parts Tryz.info55
  rcases hown.2 with ⟨h0, h1⟩ | ⟨g, cap', cur, e, hg, hbk, hc, hm, hsz, ht⟩
  · have e : l = [] := List.eq_nil_of_length_eq_zero h1
    subst e
    refine wpList_append_own_none hgd sl x 39 ho base 55 i0 4 Tryz.underlying39 hi (.slice none 0 0) 0 [] hs (World.ownsRow_nil _ _ _ _) (by rw [hx]; exact h0) ?_
    exact h _ _ (World.ownsRow_nil _ _ _ _) ⟨rfl, rfl, rfl, Nat.le_refl _, fun _ _ _ => rfl⟩
  · have e' : ad = some ⟨g, 0, none⟩ ∧ cap' = cap := by injection e with e1 e2 e3; exact ⟨e1, e3.symm⟩
    obtain ⟨rfl, rfl⟩ := e'
    refine wpList_append_own w hgd sl x 39 ho base 55 i0 (sessV sess0) 4 32 Tryz.underlying39 hi hz0 hz1 hz2 rfl (by decide) (.slice none 0 0) 0 [] hs (World.ownsRow_nil _ _ _ _) ⟨g, 0, none⟩ l.length cap' (sCells l) hx (sCells_length l) (fun j u hj => ?_) (fun u hu => ?_) (by unfold maxLen; omega) (by omega) hbase ?_
    · have hjl : j < (sCells l).length := (List.getElem?_eq_some_iff.1 hj).1
      rw [sCells_length] at hjl
      have := World.ownsRow.cellAt hown j hjl
      rw [addr_add', Nat.zero_add, this]
      exact hj
    · obtain ⟨s, _, hs'⟩ := List.mem_flatMap.1 hu
      simp at hs'
      rcases hs' with rfl | rfl | rfl | rfl <;> rfl
    · intro v' w' h1 h2 h3
      rw [Nat.zero_add, List.nil_append] at h1
      exact h v' w' h1 h2
end Go.Proofs.YtmnhhomkglffcaaGreatDoor.Tok
