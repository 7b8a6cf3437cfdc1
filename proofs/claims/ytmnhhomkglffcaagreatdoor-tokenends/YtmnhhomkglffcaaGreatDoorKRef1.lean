/- familyAt and spendError of package token, each by a contract; what Refresh does. -/
import Derived.Test.YtmnhhomkglffcaaGreatDoorKEnd2
namespace Go.Proofs.YtmnhhomkglffcaaGreatDoor
open Go.RowKit Go.Maps Go.Sort Go.Shelf
set_option linter.unusedVariables false
set_option maxRecDepth 20000

/-- a family at a time -/
def fAt (T : Sto) (id now : Int) : Fam.Sess × Int := if timeErr now T.noted ≠ 0 then (Fam.sess0, timeErr now T.noted) else fFind T.nf T.fs id
theorem fAt_ok {T : Sto} {id now : Int} (h : (fAt T id now).2 = 0) : timeErr now T.noted = 0 ∧ fAt T id now = fFind T.nf T.fs id := by
  unfold fAt at h ⊢
  by_cases e : timeErr now T.noted ≠ 0
  · rw [if_pos e] at h; exact absurd h e
  · rw [if_neg e]; exact ⟨by simpa using e, rfl⟩

set_option maxHeartbeats 1600000 in
theorem familyAt_any {w : World} {B p mf mt n1 n2 : Nat} {T : Sto} (h : StoAt w B p mf mt n1 n2 T) (ok : StoOk T) (id now : Int) :
    Calls Tryz.prog 50 #[.pointer (some ⟨p, 0, none⟩), .int .i64 id, .int .i64 now] w fun e w' => e = .returned (.tuple #[Fam.sessV (fAt T id now).1, .int .i64 (fAt T id now).2]) ∧ Below w.heap.size w w' := by
  have hb1 : Below w.heap.size w (w.alloc (.cells #[.int .i64 0, .int .i64 0, .string ⟨#[]⟩, .int .u8 0, .int .i64 0] 35)) := (Below.refl _ w).alloc (Nat.le_refl _) _
  have h1 := h.below hb1
  have Ht := hid (timeError_any h1 now)
  have Hf := hid (fam_find h1.numf ok.idf ok.nf.2 id)
  obtain ⟨te, hte⟩ : ∃ te, te = timeErr now T.noted := ⟨_, rfl⟩
  rw [← hte] at Ht
  by_cases h0 : te = 0
  · have e1 : fAt T id now = fFind T.nf T.fs id := by unfold fAt; rw [if_neg (by rw [← hte]; simp [h0])]
    rw [e1]
    obtain ⟨x, hx⟩ : ∃ x, x = fFind T.nf T.fs id := ⟨_, rfl⟩
    rw [← hx] at Hf ⊢
    obtain ⟨⟨a, b, c, d, e⟩, z⟩ := x
    rw [h0] at Ht
    clear h h1 ok hx hte e1 h0
    unfold Fam.sessV at Hf ⊢
    dsimp only at Hf ⊢
    go_enter Tryz.func50, Tryz.ntmps50
    go_wp2_with (first
      | (go_at_call 52; refine Ht.out.mono ?_; rintro e9 w1 ⟨rfl, rfl⟩)
      | (go_at_call 37; refine Hf.out.mono ?_; rintro e9 w2 ⟨rfl, hb2⟩; have f1 := own5 hb2; have q0 : w2.cell? ⟨w.heap.size, 0, none⟩ = some (.int .i64 0) := cell_of_row _ _ 0 _ _ _ f1; have v0 : w2.frozen? ⟨w.heap.size, 0, none⟩ = false := frozen_of_row _ _ 0 _ _ f1; have q1 : w2.cell? ⟨w.heap.size, 1, none⟩ = some (.int .i64 0) := cell_of_row _ _ 1 _ _ _ f1; have v1 : w2.frozen? ⟨w.heap.size, 1, none⟩ = false := frozen_of_row _ _ 1 _ _ f1; have q2 : w2.cell? ⟨w.heap.size, 2, none⟩ = some (.string ⟨#[]⟩) := cell_of_row _ _ 2 _ _ _ f1; have v2 : w2.frozen? ⟨w.heap.size, 2, none⟩ = false := frozen_of_row _ _ 2 _ _ f1; have q3 : w2.cell? ⟨w.heap.size, 3, none⟩ = some (.int .u8 0) := cell_of_row _ _ 3 _ _ _ f1; have v3 : w2.frozen? ⟨w.heap.size, 3, none⟩ = false := frozen_of_row _ _ 3 _ _ f1; have q4 : w2.cell? ⟨w.heap.size, 4, none⟩ = some (.int .i64 0) := cell_of_row _ _ 4 _ _ _ f1; have v4 : w2.frozen? ⟨w.heap.size, 4, none⟩ = false := frozen_of_row _ _ 4 _ _ f1; have hd := (Array.getElem?_eq_some_iff.1 f1).1; have F1 := hid f1; have HB2 := hid hb2; clear f1 hb2))
    obtain ⟨w7, hw7⟩ : ∃ w7, w7 = set5 w2 w.heap.size (.int .i64 a) (.int .i64 b) (.string c) (.int .u8 d) (.int .i64 e) := ⟨_, rfl⟩
    have f7 := set5_same F1.out (a := .int .i64 a) (b := .int .i64 b) (c := .string c) (d := .int .u8 d) (e := .int .i64 e)
    rw [← hw7] at f7
    show bodyPost _ _ _ _ _ (set5 w2 w.heap.size (.int .i64 a) (.int .i64 b) (.string c) (.int .u8 d) (.int .i64 e))
    rw [← hw7]
    obtain ⟨c0, c1, c2, c3, c4⟩ := row5 f7
    refine bodyPost_ret (v := .tuple #[.agg #[.int .i64 a, .int .i64 b, .string c, .int .u8 d, .int .i64 e], .int .i64 z]) (by simp [results, Tryz.results50, go_sem, c0, c1, c2, c3, c4]) rfl ⟨rfl, ?_⟩
    rw [hw7]
    exact below_set5 (hb1.trans (HB2.out.mono (by simp))) (Nat.le_refl _) (Nat.le_refl _) _ _ _ _ _
  · have e1 : fAt T id now = (Fam.sess0, te) := by unfold fAt; rw [if_pos (by rw [← hte]; exact h0), hte]
    rw [e1]
    have q4 : (te != 0) = true := by simpa using h0
    clear h h1 ok hte e1 h0 Hf
    go_enter Tryz.func50, Tryz.ntmps50
    go_wp2_with (go_at_call 52; refine Ht.out.mono ?_; rintro e9 w1 ⟨rfl, rfl⟩)
    refine bodyPost_ret (v := .tuple #[Fam.sessV Fam.sess0, .int .i64 te]) (by simp [results, Tryz.results50, go_sem, Fam.sessV, Fam.sess0]) rfl ⟨rfl, ?_⟩
    exact (Below.refl _ w).alloc (Nat.le_refl _) _

/-- the error of a refresh token -/
def spendErr (T : Sto) (s : Fam.Sess) (num : Int) : Int :=
  if num < 1 ∨ s.nxt < num then 10
  else if num < s.nxt then 13
  else if 1099511627777 ≤ T.nt ∨ 1099511627776 ≤ s.nxt then 7 else 0

set_option maxHeartbeats 1600000 in
theorem spendError_any {w : World} {B p mf mt n1 n2 : Nat} {T : Sto} (h : StoAt w B p mf mt n1 n2 T) (s : Fam.Sess) (num : Int) :
    Calls Tryz.prog 51 #[.pointer (some ⟨p, 0, none⟩), .agg #[.int .i64 s.id, .int .i64 s.ses, .string s.cli, .int .u8 s.sco, .int .i64 s.nxt], .int .i64 num] w fun e w' => e = .returned (.int .i64 (spendErr T s num)) ∧ Below w.heap.size w w' := by
  have hb1 : Below w.heap.size w (w.alloc (.cells #[.int .i64 s.id, .int .i64 s.ses, .string s.cli, .int .u8 s.sco, .int .i64 s.nxt] 35)) := (Below.refl _ w).alloc (Nat.le_refl _) _
  have Hff := hid (Tok.full_any (h.below hb1).numt)
  clear h
  by_cases h1 : num < 1
  · have e1 : spendErr T s num = 10 := by unfold spendErr; rw [if_pos (.inl h1)]
    rw [e1]
    have g1 : decide (num < 1) = true := by simpa using h1
    clear e1
    go_enter Tryz.func51, Tryz.ntmps51
    go_wp2
    go_ret
    exact ⟨rfl, (Below.refl _ w).alloc (Nat.le_refl _) _⟩
  · have g1 : decide (num < 1) = false := by simpa using h1
    by_cases h2 : s.nxt < num
    · have e1 : spendErr T s num = 10 := by unfold spendErr; rw [if_pos (.inr h2)]
      rw [e1]
      have g2 : decide (s.nxt < num) = true := by simpa using h2
      clear e1 h1
      go_enter Tryz.func51, Tryz.ntmps51
      go_wp2
      go_ret
      exact ⟨rfl, (Below.refl _ w).alloc (Nat.le_refl _) _⟩
    · have g2 : decide (s.nxt < num) = false := by simpa using h2
      by_cases h3 : num < s.nxt
      · have e1 : spendErr T s num = 13 := by unfold spendErr; rw [if_neg (by omega), if_pos h3]
        rw [e1]
        have g3 : decide (num < s.nxt) = true := by simpa using h3
        clear e1 h1 h2
        go_enter Tryz.func51, Tryz.ntmps51
        go_wp2
        go_ret
        exact ⟨rfl, (Below.refl _ w).alloc (Nat.le_refl _) _⟩
      · have g3 : decide (num < s.nxt) = false := by simpa using h3
        by_cases h4 : 1099511627777 ≤ T.nt
        · have e1 : spendErr T s num = 7 := by unfold spendErr; rw [if_neg (by omega), if_neg h3, if_pos (.inl h4)]
          rw [e1]
          clear e1 h1 h2 h3
          go_enter Tryz.func51, Tryz.ntmps51
          go_wp2_with (go_at_call 62; refine Hff.out.mono ?_; rintro e9 w1 ⟨rfl, rfl⟩; rw [decide_eq_true h4])
          go_ret
          exact ⟨rfl, (Below.refl _ w).alloc (Nat.le_refl _) _⟩
        · have H4 : Hid (decide (1099511627777 ≤ T.nt) = false) := decide_eq_false h4
          have e1 : spendErr T s num = if 1099511627776 ≤ s.nxt then 7 else 0 := by unfold spendErr; rw [if_neg (by omega), if_neg h3]; simp [h4]
          rw [e1]
          clear e1 h1 h2 h3 h4
          go_enter Tryz.func51, Tryz.ntmps51
          go_wp2_with (go_at_call 62; refine Hff.out.mono ?_; rintro e9 w1 ⟨rfl, rfl⟩; rw [H4.out])
          all_goals go_ret
          all_goals exact ⟨by simp [*], (Below.refl _ w).alloc (Nat.le_refl _) _⟩
end Go.Proofs.YtmnhhomkglffcaaGreatDoor
