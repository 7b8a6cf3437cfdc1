/- The reference's table of sessions in memory; its New, time, over, find, each by a contract. -/
import Derived.Test.YtcchlcbonfdhpaaDoorSUntil
import Derived.Test.YtcchlcbonfdhpaaDoorSEnd
namespace Go.Proofs.YtcchlcbonfdhpaaDoor
open Go.RowKit Go.Maps Go.Sort Go.Shelf
set_option linter.unusedVariables false
set_option maxRecDepth 20000

/-- sessions that lie in a row of the world -/
def SIn (w : World) (a : Option Addr) (l : List Sess) : Prop := ∀ i (h : i < l.length), ∃ b o, a = some ⟨b, o, none⟩ ∧ w.cell? ⟨b, o + i * 5, none⟩ = some (.int .i64 l[i].id) ∧ w.cell? ⟨b, o + i * 5 + 1, none⟩ = some (.string l[i].ten) ∧ w.cell? ⟨b, o + i * 5 + 2, none⟩ = some (.string l[i].usr) ∧ w.cell? ⟨b, o + i * 5 + 3, none⟩ = some (.int .i64 l[i].since) ∧ w.cell? ⟨b, o + i * 5 + 4, none⟩ = some (.int .i64 l[i].used)
theorem SIn.below {w w' : World} {a : Option Addr} {l : List Sess} (h : SIn w a l) (hb : Below w.heap.size w w') : SIn w' a l := fun i hi => by
  obtain ⟨b, o, e, h0, h1, h2, h3, h4⟩ := h i hi
  exact ⟨b, o, e, (hb.cell (World.block_lt_of_cell? _ _ h0)).trans h0, (hb.cell (World.block_lt_of_cell? _ _ h1)).trans h1, (hb.cell (World.block_lt_of_cell? _ _ h2)).trans h2, (hb.cell (World.block_lt_of_cell? _ _ h3)).trans h3, (hb.cell (World.block_lt_of_cell? _ _ h4)).trans h4⟩
theorem sCells_get (l : List Sess) (i j : Nat) (hi : i < l.length) (hj : j < 5) : (sCells l)[i * 5 + j]? = ([.int .i64 l[i].id, .string l[i].ten, .string l[i].usr, .int .i64 l[i].since, .int .i64 l[i].used] : List Value)[j]? := by
  induction l generalizing i with
  | nil => simp at hi
  | cons x r ih =>
    rw [sCells, List.flatMap_cons, ← sCells]
    cases i with
    | zero =>
      rw [List.getElem?_append_left (by simp; omega)]
      simp
    | succ m =>
      rw [List.getElem?_append_right (by simp; omega)]
      have hm : m < r.length := by simpa using hi
      have := ih m hm
      simp only [List.length_cons, List.length_nil, List.getElem_cons_succ]
      rw [show (m + 1) * 5 + j - (0 + 1 + 1 + 1 + 1 + 1) = m * 5 + j by omega]
      exact this
theorem sess_of_own {w : World} {B n : Nat} {v : Value} {l : List Sess} (h : w.ownsRow B 42 5 v n (sCells l)) : ∃ a cap, v = .slice a l.length cap ∧ SIn w a l ∧ l.length ≤ cap := by
  have hn : l.length = n := by have := h.1; rw [sCells_length] at this; omega
  subst hn
  rcases h.2 with ⟨rfl, h0⟩ | ⟨g, cap, cur, rfl, hb, hg, hc, hm, hs, ht⟩
  · refine ⟨none, 0, by rw [h0], fun i hi => ?_, by omega⟩
    omega
  · refine ⟨some ⟨g, 0, none⟩, cap, rfl, fun i hi => ⟨g, 0, rfl, ?_⟩, hc⟩
    have at_ : ∀ j v, j < 5 → ([.int .i64 l[i].id, .string l[i].ten, .string l[i].usr, .int .i64 l[i].since, .int .i64 l[i].used] : List Value)[j]? = some v → w.cell? ⟨g, 0 + i * 5 + j, none⟩ = some v := fun j v hj hv => by
      have := World.ownsRow.cellAt h (i * 5 + j) (by omega)
      rw [Nat.zero_add, this, sCells_get l i j hi hj]
      exact hv
    exact ⟨at_ 0 _ (by omega) rfl, at_ 1 _ (by omega) rfl, at_ 2 _ (by omega) rfl, at_ 3 _ (by omega) rfl, at_ 4 _ (by omega) rfl⟩

/-- the reference's table in memory -/
structure RTab (w : World) (B r : Nat) (a : Option Addr) (cap : Nat) (T : Tab) : Prop where
  obj : w.heap[r]? = some (.cells #[.int .i64 T.next, .int .i64 T.noted, .slice a T.l.length cap] 49 (0, 0))
  row : w.ownsRow B 42 5 (.slice a T.l.length cap) T.l.length (sCells T.l)
  br : B ≤ r
  ne : (Value.slice a T.l.length cap).ownBlock ≠ some r
theorem RTab.c0 {w : World} {B r : Nat} {a : Option Addr} {cap : Nat} {T : Tab} (h : RTab w B r a cap T) : w.cell? ⟨r, 0, none⟩ = some (.int .i64 T.next) := cell_of_row _ _ 0 _ _ _ h.obj
theorem RTab.c1 {w : World} {B r : Nat} {a : Option Addr} {cap : Nat} {T : Tab} (h : RTab w B r a cap T) : w.cell? ⟨r, 1, none⟩ = some (.int .i64 T.noted) := cell_of_row _ _ 1 _ _ _ h.obj
theorem RTab.c2 {w : World} {B r : Nat} {a : Option Addr} {cap : Nat} {T : Tab} (h : RTab w B r a cap T) : w.cell? ⟨r, 2, none⟩ = some (.slice a T.l.length cap) := cell_of_row _ _ 2 _ _ _ h.obj
theorem RTab.z {w : World} {B r : Nat} {a : Option Addr} {cap : Nat} {T : Tab} (h : RTab w B r a cap T) (j : Nat) : w.frozen? ⟨r, j, none⟩ = false := frozen_of_row _ _ j _ _ h.obj
theorem RTab.lt {w : World} {B r : Nat} {a : Option Addr} {cap : Nat} {T : Tab} (h : RTab w B r a cap T) : r < w.heap.size := (Array.getElem?_eq_some_iff.1 h.obj).1
theorem RTab.sin {w : World} {B r : Nat} {a : Option Addr} {cap : Nat} {T : Tab} (h : RTab w B r a cap T) : SIn w a T.l := by
  obtain ⟨a', cap', e, hs, _⟩ := sess_of_own h.row
  cases e
  exact hs
/-- a block that the table leans on -/
def rBlock (r : Nat) (a : Option Addr) (k : Nat) : Prop := k = r ∨ ∃ ad, a = some ad ∧ k = ad.block
theorem RTab.keep {w w' : World} {B r : Nat} {a : Option Addr} {cap : Nat} {T : Tab} (h : RTab w B r a cap T) (hk : ∀ k, rBlock r a k → w'.heap[k]? = w.heap[k]?) : RTab w' B r a cap T := by
  refine ⟨(hk r (.inl rfl)).trans h.obj, ⟨h.row.1, ?_⟩, h.br, h.ne⟩
  rcases h.row.2 with h0 | ⟨g, cap', cur, e, hg, hb, rest⟩
  · exact .inl h0
  · refine .inr ⟨g, cap', cur, e, hg, ?_, rest⟩
    injection e with e1 e2 e3
    exact (hk g (.inr ⟨_, e1, rfl⟩)).trans hb
theorem RTab.lts {w : World} {B r : Nat} {a : Option Addr} {cap : Nat} {T : Tab} (h : RTab w B r a cap T) : ∀ k, rBlock r a k → B ≤ k ∧ k < w.heap.size := by
  rintro k (rfl | ⟨ad, rfl, rfl⟩)
  · exact ⟨h.br, h.lt⟩
  · exact h.row.lt _ rfl
theorem RTab.below {w w' : World} {B r : Nat} {a : Option Addr} {cap : Nat} {T : Tab} (h : RTab w B r a cap T) (hb : Below w.heap.size w w') : RTab w' B r a cap T := h.keep fun k hk => hb.block k (h.lts k hk).2
theorem RTab.mono {w : World} {B B' r : Nat} {a : Option Addr} {cap : Nat} {T : Tab} (h : RTab w B r a cap T) (hB : B' ≤ B) : RTab w B' r a cap T := ⟨h.obj, h.row.mono hB, Nat.le_trans hB h.br, h.ne⟩

set_option maxHeartbeats 800000 in
theorem rNew_any (w : World) : Calls Tryd.prog 5 #[] w fun e w' => ∃ r, e = .returned (.pointer (some ⟨r, 0, none⟩)) ∧ RTab w' w.heap.size r none 0 tab0 ∧ Below w.heap.size w w' := by
  go_enter Tryd.func5, Tryd.ntmps5
  go_wp2
  go_ret
  exact ⟨_, rfl, ⟨(MapKept.heap_alloc w _).1, World.ownsRow_nil _ _ _ _, Nat.le_refl _, by simp [Value.ownBlock]⟩, (Below.refl _ w).alloc (Nat.le_refl _) _⟩

set_option maxHeartbeats 800000 in
theorem rTime_any {w : World} {B r : Nat} {a : Option Addr} {cap : Nat} {T : Tab} (h : RTab w B r a cap T) (now : Int) :
    Calls Tryd.prog 43 #[.pointer (some ⟨r, 0, none⟩), .int .i64 now] w fun e w' => e = .returned (.int .i64 (timeErr now T.noted)) ∧ w' = w := by
  have c1 := h.c1
  clear h
  by_cases h1 : now < 0
  · have g1 : decide (now < 0) = true := by simpa using h1
    go_enter Tryd.func43, Tryd.ntmps43
    go_wp2
    go_ret
    exact ⟨ret_int (by unfold timeErr; rw [if_pos (by omega)]), rfl⟩
  · have g1 : decide (now < 0) = false := by simpa using h1
    by_cases h2 : 1099511627776 < now
    · have g2 : decide (1099511627776 < now) = true := by simpa using h2
      go_enter Tryd.func43, Tryd.ntmps43
      go_wp2
      go_ret
      exact ⟨ret_int (by unfold timeErr; rw [if_pos (by omega)]), rfl⟩
    · have g2 : decide (1099511627776 < now) = false := by simpa using h2
      by_cases h3 : now < T.noted
      all_goals
        go_enter Tryd.func43, Tryd.ntmps43
        go_wp2
        go_ret
        exact ⟨ret_int (by unfold timeErr; rw [if_neg (by omega)]; first | rw [if_pos (by omega)] | rw [if_neg (by omega)]), rfl⟩

set_option maxHeartbeats 800000 in
theorem rOver_any (s : Sess) (now : Int) (w : World) (h : TimesOk s) : Calls Tryd.prog 44 #[.agg #[.int .i64 s.id, .string s.ten, .string s.usr, .int .i64 s.since, .int .i64 s.used], .int .i64 now] w fun e w' => e = .returned (.bool (overB s now)) ∧ Below w.heap.size w w' := by
  have h0 := fun w => refUntil_any s w h
  clear h
  generalize hu : untilOf s = u at h0
  have Hu : Hid (untilOf s = u) := hu
  clear hu
  go_enter Tryd.func44, Tryd.ntmps44
  go_wp2_with (go_at_call 62; refine (h0 _).mono ?_; rintro e w1 ⟨rfl, hb1⟩)
  all_goals go_ret
  all_goals refine ⟨ret_bool (by unfold overB; rw [Hu.out]), ((Below.refl _ _).alloc (Nat.le_refl _) _).trans (hb1.mono (by simp))⟩

set_option maxHeartbeats 800000 in
theorem rFind_none {w : World} {B r : Nat} {a : Option Addr} {cap : Nat} {T : Tab} (h : RTab w B r a cap T) (x : Int) (hx : x < 1 ∨ T.next ≤ x) :
    Calls Tryd.prog 45 #[.pointer (some ⟨r, 0, none⟩), .int .i64 x] w fun e w' => e = .returned (.tuple #[.int .i64 (-1), .int .i64 4]) ∧ w' = w := by
  have c0 := h.c0
  clear h
  by_cases h1 : x < 1
  · have g1 : decide (x < 1) = true := by simpa using h1
    go_enter Tryd.func45, Tryd.ntmps45
    go_wp2
    go_ret2
    exact ⟨rfl, rfl⟩
  · have g1 : decide (x < 1) = false := by simpa using h1
    have h2 : T.next ≤ x := by omega
    have g2 : decide (T.next ≤ x) = true := by simpa using h2
    go_enter Tryd.func45, Tryd.ntmps45
    go_wp2
    go_ret2
    exact ⟨rfl, rfl⟩

set_option maxHeartbeats 1600000 in
theorem rFind_any {w : World} {B r : Nat} {a : Option Addr} {cap : Nat} {T : Tab} (h : RTab w B r a cap T) (hl : T.l.length ≤ 1000000000) (x : Int) (hx : 1 ≤ x ∧ x < T.next) :
    Calls Tryd.prog 45 #[.pointer (some ⟨r, 0, none⟩), .int .i64 x] w fun e w' => ((e = .returned (.tuple #[.int .i64 (-1), .int .i64 12]) ∧ ∀ s ∈ T.l, s.id ≠ x) ∨ ∃ (i : Nat) (s : Sess), e = .returned (.tuple #[.int .i64 (i : Int), .int .i64 0]) ∧ T.l[i]? = some s ∧ s.id = x) ∧ w' = w := by
  have c0 := h.c0
  have c2 := h.c2
  have Hs := hid h.sin
  have g1 : decide (x < 1) = false := by simp; omega
  have g2 : decide (T.next ≤ x) = false := by simp; omega
  clear h
  generalize hN : T.l.length = N at *
  have HN := hid hN
  clear hN
  go_enter Tryd.func45, Tryd.ntmps45
  go_wp2
  go_loop [6] (fun i => ∃ k : Nat, k ≤ N ∧ i = .int .i64 k ∧ ∀ j s, j < k → T.l[j]? = some s → s.id ≠ x) (fun i => N - (intOf i).toNat)
  case atStart => exact ⟨0, Nat.zero_le _, rfl, fun j s hj => absurd hj (by omega)⟩
  case round =>
    obtain ⟨k, hk, rfl, hno⟩ := hrel
    have Hno := hid hno
    clear hno
    by_cases hlt : k < N
    · obtain ⟨b, o, ea, h0, _⟩ := Hs.out k (by rw [HN.out]; exact hlt)
      cases ea
      have Hg : Hid (T.l[k]? = some (T.l[k]'(by rw [HN.out]; exact hlt))) := List.getElem?_eq_getElem _
      generalize T.l[k]'(by rw [HN.out]; exact hlt) = s at *
      by_cases he : s.id = x
      · have b1 : (s.id == x) = true := by simpa using he
        go_wp2
        go_ret2
        exact ⟨.inr ⟨k, rfl, s, Hg.out, he⟩, rfl⟩
      · have b1 : (s.id == x) = false := by simpa using he
        go_wp2
        go_round
        case rel => exact ⟨k + 1, by omega, by go_num, fun j t hj ht => by
          by_cases e : j = k
          · subst e
            rw [Hg.out] at ht
            cases ht
            exact he
          · exact Hno.out j t (by omega) ht⟩
        case measure => simp [intOf]; omega
    · have e : k = N := by omega
      subst e
      go_wp2
      go_ret2
      refine ⟨.inl ⟨rfl, fun s hs => ?_⟩, rfl⟩
      obtain ⟨j, hj, e⟩ := List.getElem_of_mem hs
      exact Hno.out j s (by rw [← HN.out]; exact hj) (by rw [List.getElem?_eq_getElem hj, e])
end Go.Proofs.YtcchlcbonfdhpaaDoor
