/- Access of package token, by a contract. (Printed by gen/kacc.py.) -/
import Derived.Test.YtmnhhomkglffcaaGreatDoorKRef4
namespace Go.Proofs.YtmnhhomkglffcaaGreatDoor
open Go.RowKit Go.Maps Go.Sort Go.Shelf
set_option linter.unusedVariables false
set_option maxRecDepth 20000

/-- what Find tells of tokens -/
def kFind (next : Int) (l : List Tok.Sess) (id : Int) : Tok.Sess × Int :=
  if id < 1 ∨ next ≤ id then (Tok.sess0, 4)
  else match l.find? (fun s => s.id == id) with
    | none => (Tok.sess0, 12)
    | some s => (s, 0)
theorem kFind_ok {next : Int} {l : List Tok.Sess} {id : Int} (h : (kFind next l id).2 = 0) : (kFind next l id).1 ∈ l ∧ (kFind next l id).1.id = id := by
  unfold kFind at h ⊢
  split at h
  · cases h
  · rename_i h1
    rw [if_neg h1]
    cases hfd : l.find? (fun s => s.id == id) with
    | none => rw [hfd] at h; cases h
    | some s => exact ⟨List.mem_of_find?_eq_some hfd, by have := List.find?_some hfd; simpa using this⟩
theorem tok_find {w : World} {p o mb n : Nat} {next : Int} {l : List Tok.Sess} (h : Tok.NumAt w p o mb n next l) (hids : ∀ s ∈ l, 1 ≤ s.id ∧ s.id < next) (hn : next ≤ 1099511627777) (id : Int) :
    Calls Tryz.prog 53 #[.pointer (some ⟨p, o, none⟩), .int .i64 id] w fun e w' => e = .returned (.tuple #[Tok.sessV (kFind next l id).1, .int .i64 (kFind next l id).2]) ∧ Below w.heap.size w w' := by
  unfold kFind
  by_cases e1 : id < 1 ∨ next ≤ id
  · rw [if_pos e1]; exact Tok.find_none h id e1
  · rw [if_neg e1]
    cases hfd : l.find? (fun s => s.id == id) with
    | none => exact Tok.find_gone h id (by omega) hn (fun s hs e => by have := List.find?_eq_none.1 hfd s hs; simp [e] at this)
    | some s =>
      have hs : s ∈ l := List.mem_of_find?_eq_some hfd
      have hsid : s.id = id := by have := List.find?_some hfd; simpa using this
      subst hsid
      exact Tok.find_ok h s hs (hids s hs) hn

set_option maxHeartbeats 800000 in
theorem isGood_any (a b c d now : Int) (w : World) :
    Calls Tryz.prog 54 #[.agg #[.int .i64 a, .int .i64 b, .int .u8 c, .int .i64 d], .int .i64 now] w fun e w' => e = .returned (.bool (decide (now < d))) ∧ Below w.heap.size w w' := by
  go_enter Tryz.func54, Tryz.ntmps54
  go_wp2
  all_goals go_ret
  all_goals exact ⟨by simp [*], (Below.refl _ _).alloc (Nat.le_refl _) _⟩

/-- what Access answers -/
def tAccess (T : Sto) (id now : Int) : Tok.Sess × Int :=
  if timeErr now T.noted ≠ 0 then (Tok.sess0, timeErr now T.noted)
  else if (kFind T.nt T.ts id).2 ≠ 0 then (Tok.sess0, (kFind T.nt T.ts id).2)
  else if now < (kFind T.nt T.ts id).1.unt then ((kFind T.nt T.ts id).1, 0) else (Tok.sess0, 12)

set_option maxHeartbeats 1600000 in
theorem access_any {w : World} {B p mf mt n1 n2 : Nat} {T : Sto} (h : StoAt w B p mf mt n1 n2 T) (ok : StoOk T) (id now : Int) :
    Calls Tryz.prog 18 #[.pointer (some ⟨p, 0, none⟩), .int .i64 id, .int .i64 now] w fun e w' => e = .returned (.tuple #[Tok.sessV (tAccess T id now).1, .int .i64 (tAccess T id now).2]) ∧ Below w.heap.size w w' := by
  have hb1 : Below w.heap.size w (w.alloc (.cells #[.int .i64 0, .int .i64 0, .int .u8 0, .int .i64 0] 55)) := (Below.refl _ w).alloc (Nat.le_refl _) _
  have h1 := h.below hb1
  have Ht := hid (timeError_any h1 now)
  have Hf := hid (tok_find h1.numt ok.idt ok.nt.2 id)
  obtain ⟨te, hte⟩ : ∃ te, te = timeErr now T.noted := ⟨_, rfl⟩
  rw [← hte] at Ht
  have hp := h.lts.1
  by_cases h0 : te = 0
  · obtain ⟨x, hx⟩ : ∃ x, x = kFind T.nt T.ts id := ⟨_, rfl⟩
    have e1 : tAccess T id now = if x.2 ≠ 0 then (Tok.sess0, x.2) else if now < x.1.unt then (x.1, 0) else (Tok.sess0, 12) := by unfold tAccess; rw [if_neg (by rw [← hte]; simp [h0]), hx]
    rw [e1]
    rw [← hx] at Hf
    obtain ⟨⟨a, b, c, d⟩, z⟩ := x
    rw [h0] at Ht
    clear h h1 ok hx hte e1 h0
    unfold Tok.sessV at Hf
    dsimp only at Hf ⊢
    by_cases hz : z = 0
    · subst hz
      rw [if_neg (by simp)]
      by_cases hu : now < d
      · rw [if_pos hu]
        have Hu : Hid (decide (now < d) = true) := decide_eq_true hu
        clear hu
        go_enter Tryz.func18, Tryz.ntmps18
        go_wp2_with (first
          | (go_at_call 52; refine Ht.out.mono ?_; rintro e9 w1 ⟨rfl, rfl⟩)
          | (go_at_call 53; refine Hf.out.mono ?_; rintro e9 w2 ⟨rfl, hb2⟩; have f1 := own4 hb2; have q0 : w2.cell? ⟨w.heap.size, 0, none⟩ = some (.int .i64 0) := cell_of_row _ _ 0 _ _ _ f1; have v0 : w2.frozen? ⟨w.heap.size, 0, none⟩ = false := frozen_of_row _ _ 0 _ _ f1; have q1 : w2.cell? ⟨w.heap.size, 1, none⟩ = some (.int .i64 0) := cell_of_row _ _ 1 _ _ _ f1; have v1 : w2.frozen? ⟨w.heap.size, 1, none⟩ = false := frozen_of_row _ _ 1 _ _ f1; have q2 : w2.cell? ⟨w.heap.size, 2, none⟩ = some (.int .u8 0) := cell_of_row _ _ 2 _ _ _ f1; have v2 : w2.frozen? ⟨w.heap.size, 2, none⟩ = false := frozen_of_row _ _ 2 _ _ f1; have q3 : w2.cell? ⟨w.heap.size, 3, none⟩ = some (.int .i64 0) := cell_of_row _ _ 3 _ _ _ f1; have v3 : w2.frozen? ⟨w.heap.size, 3, none⟩ = false := frozen_of_row _ _ 3 _ _ f1; have hd := (Array.getElem?_eq_some_iff.1 f1).1; have F1 := hid f1; have HB2 := hid (hb1.trans (hb2.mono (by simp))); clear f1 hb2)
          | (go_at_call 54; refine (isGood_any _ _ _ _ _ _).mono ?_; rintro e9 w3 ⟨rfl, hb3⟩; rw [Hu.out]; have f3 := (hb3.block w.heap.size (by simp; omega)).trans ((Below.heap_alloc w2 _ _ hd).trans F1.out); have t3 : w3.heap[w2.heap.size]? = some (.cells #[.int .i64 a, .int .i64 b, .int .u8 c, .int .i64 d] 55 (0, 0)) := (hb3.block w2.heap.size (by simp)).trans (MapKept.heap_alloc w2 _).1; clear q0 q1 q2 q3 v0 v1 v2 v3; have q0 : w3.cell? ⟨w.heap.size, 0, none⟩ = some (.int .i64 0) := cell_of_row _ _ 0 _ _ _ f3; have v0 : w3.frozen? ⟨w.heap.size, 0, none⟩ = false := frozen_of_row _ _ 0 _ _ f3; have q1 : w3.cell? ⟨w.heap.size, 1, none⟩ = some (.int .i64 0) := cell_of_row _ _ 1 _ _ _ f3; have v1 : w3.frozen? ⟨w.heap.size, 1, none⟩ = false := frozen_of_row _ _ 1 _ _ f3; have q2 : w3.cell? ⟨w.heap.size, 2, none⟩ = some (.int .u8 0) := cell_of_row _ _ 2 _ _ _ f3; have v2 : w3.frozen? ⟨w.heap.size, 2, none⟩ = false := frozen_of_row _ _ 2 _ _ f3; have q3 : w3.cell? ⟨w.heap.size, 3, none⟩ = some (.int .i64 0) := cell_of_row _ _ 3 _ _ _ f3; have v3 : w3.frozen? ⟨w.heap.size, 3, none⟩ = false := frozen_of_row _ _ 3 _ _ f3; have y0 : w3.cell? ⟨w2.heap.size, 0, none⟩ = some (.int .i64 a) := cell_of_row _ _ 0 _ _ _ t3; have y1 : w3.cell? ⟨w2.heap.size, 1, none⟩ = some (.int .i64 b) := cell_of_row _ _ 1 _ _ _ t3; have y2 : w3.cell? ⟨w2.heap.size, 2, none⟩ = some (.int .u8 c) := cell_of_row _ _ 2 _ _ _ t3; have y3 : w3.cell? ⟨w2.heap.size, 3, none⟩ = some (.int .i64 d) := cell_of_row _ _ 3 _ _ _ t3; have hd3 := (Array.getElem?_eq_some_iff.1 f3).1; have F3 := hid f3; have HB3 := hid (HB2.out.trans ((((Below.refl _ w2).alloc (Nat.le_refl _) _).trans (hb3.mono (by simp))).mono (by omega))); clear f3 t3 hb3))
        obtain ⟨w7, hw7⟩ : ∃ w7, w7 = set4 w3 w.heap.size (.int .i64 a) (.int .i64 b) (.int .u8 c) (.int .i64 d) := ⟨_, rfl⟩
        have f7 : w7.heap[w.heap.size]? = some (.cells #[.int .i64 a, .int .i64 b, .int .u8 c, .int .i64 d] 55 (0, 0)) := by rw [hw7]; exact set4_same F3.out
        show bodyPost _ _ _ _ _ (set4 w3 w.heap.size (.int .i64 a) (.int .i64 b) (.int .u8 c) (.int .i64 d))
        rw [← hw7]
        obtain ⟨c0, c1, c2, c3⟩ := row4 f7
        have b7 : Below w.heap.size w w7 := by rw [hw7]; exact below_set4 HB3.out (Nat.le_refl _) (Nat.le_refl _) _ _ _ _
        exact bodyPost_ret (v := .tuple #[Tok.sessV ⟨a, b, c, d⟩, .int .i64 0]) (by simp [results, Tryz.results18, go_sem, Tok.sessV, c0, c1, c2, c3]) rfl ⟨rfl, b7⟩
      · rw [if_neg hu]
        have Hu : Hid (decide (now < d) = false) := decide_eq_false hu
        clear hu
        go_enter Tryz.func18, Tryz.ntmps18
        go_wp2_with (first
          | (go_at_call 52; refine Ht.out.mono ?_; rintro e9 w1 ⟨rfl, rfl⟩)
          | (go_at_call 53; refine Hf.out.mono ?_; rintro e9 w2 ⟨rfl, hb2⟩; have f1 := own4 hb2; have q0 : w2.cell? ⟨w.heap.size, 0, none⟩ = some (.int .i64 0) := cell_of_row _ _ 0 _ _ _ f1; have v0 : w2.frozen? ⟨w.heap.size, 0, none⟩ = false := frozen_of_row _ _ 0 _ _ f1; have q1 : w2.cell? ⟨w.heap.size, 1, none⟩ = some (.int .i64 0) := cell_of_row _ _ 1 _ _ _ f1; have v1 : w2.frozen? ⟨w.heap.size, 1, none⟩ = false := frozen_of_row _ _ 1 _ _ f1; have q2 : w2.cell? ⟨w.heap.size, 2, none⟩ = some (.int .u8 0) := cell_of_row _ _ 2 _ _ _ f1; have v2 : w2.frozen? ⟨w.heap.size, 2, none⟩ = false := frozen_of_row _ _ 2 _ _ f1; have q3 : w2.cell? ⟨w.heap.size, 3, none⟩ = some (.int .i64 0) := cell_of_row _ _ 3 _ _ _ f1; have v3 : w2.frozen? ⟨w.heap.size, 3, none⟩ = false := frozen_of_row _ _ 3 _ _ f1; have hd := (Array.getElem?_eq_some_iff.1 f1).1; have F1 := hid f1; have HB2 := hid (hb1.trans (hb2.mono (by simp))); clear f1 hb2)
          | (go_at_call 54; refine (isGood_any _ _ _ _ _ _).mono ?_; rintro e9 w3 ⟨rfl, hb3⟩; rw [Hu.out]; have f3 := (hb3.block w.heap.size (by simp; omega)).trans ((Below.heap_alloc w2 _ _ hd).trans F1.out); have t3 : w3.heap[w2.heap.size]? = some (.cells #[.int .i64 a, .int .i64 b, .int .u8 c, .int .i64 d] 55 (0, 0)) := (hb3.block w2.heap.size (by simp)).trans (MapKept.heap_alloc w2 _).1; clear q0 q1 q2 q3 v0 v1 v2 v3; have q0 : w3.cell? ⟨w.heap.size, 0, none⟩ = some (.int .i64 0) := cell_of_row _ _ 0 _ _ _ f3; have v0 : w3.frozen? ⟨w.heap.size, 0, none⟩ = false := frozen_of_row _ _ 0 _ _ f3; have q1 : w3.cell? ⟨w.heap.size, 1, none⟩ = some (.int .i64 0) := cell_of_row _ _ 1 _ _ _ f3; have v1 : w3.frozen? ⟨w.heap.size, 1, none⟩ = false := frozen_of_row _ _ 1 _ _ f3; have q2 : w3.cell? ⟨w.heap.size, 2, none⟩ = some (.int .u8 0) := cell_of_row _ _ 2 _ _ _ f3; have v2 : w3.frozen? ⟨w.heap.size, 2, none⟩ = false := frozen_of_row _ _ 2 _ _ f3; have q3 : w3.cell? ⟨w.heap.size, 3, none⟩ = some (.int .i64 0) := cell_of_row _ _ 3 _ _ _ f3; have v3 : w3.frozen? ⟨w.heap.size, 3, none⟩ = false := frozen_of_row _ _ 3 _ _ f3; have y0 : w3.cell? ⟨w2.heap.size, 0, none⟩ = some (.int .i64 a) := cell_of_row _ _ 0 _ _ _ t3; have y1 : w3.cell? ⟨w2.heap.size, 1, none⟩ = some (.int .i64 b) := cell_of_row _ _ 1 _ _ _ t3; have y2 : w3.cell? ⟨w2.heap.size, 2, none⟩ = some (.int .u8 c) := cell_of_row _ _ 2 _ _ _ t3; have y3 : w3.cell? ⟨w2.heap.size, 3, none⟩ = some (.int .i64 d) := cell_of_row _ _ 3 _ _ _ t3; have hd3 := (Array.getElem?_eq_some_iff.1 f3).1; have F3 := hid f3; have HB3 := hid (HB2.out.trans ((((Below.refl _ w2).alloc (Nat.le_refl _) _).trans (hb3.mono (by simp))).mono (by omega))); clear f3 t3 hb3))
        obtain ⟨w7, hw7⟩ : ∃ w7, w7 = set4 w3 w.heap.size (.int .i64 0) (.int .i64 0) (.int .u8 0) (.int .i64 0) := ⟨_, rfl⟩
        have f7 : w7.heap[w.heap.size]? = some (.cells #[.int .i64 0, .int .i64 0, .int .u8 0, .int .i64 0] 55 (0, 0)) := by rw [hw7]; exact set4_same F3.out
        show bodyPost _ _ _ _ _ (set4 w3 w.heap.size (.int .i64 0) (.int .i64 0) (.int .u8 0) (.int .i64 0))
        rw [← hw7]
        obtain ⟨c0, c1, c2, c3⟩ := row4 f7
        have b7 : Below w.heap.size w w7 := by rw [hw7]; exact below_set4 HB3.out (Nat.le_refl _) (Nat.le_refl _) _ _ _ _
        exact bodyPost_ret (v := .tuple #[Tok.sessV Tok.sess0, .int .i64 12]) (by simp [results, Tryz.results18, go_sem, Tok.sessV, Tok.sess0, c0, c1, c2, c3]) rfl ⟨rfl, b7⟩
    · rw [if_pos hz]
      have qz : (z != 0) = true := by simpa using hz
      clear hz
      go_enter Tryz.func18, Tryz.ntmps18
      go_wp2_with (first
        | (go_at_call 52; refine Ht.out.mono ?_; rintro e9 w1 ⟨rfl, rfl⟩)
        | (go_at_call 53; refine Hf.out.mono ?_; rintro e9 w2 ⟨rfl, hb2⟩; have f1 := own4 hb2; have q0 : w2.cell? ⟨w.heap.size, 0, none⟩ = some (.int .i64 0) := cell_of_row _ _ 0 _ _ _ f1; have v0 : w2.frozen? ⟨w.heap.size, 0, none⟩ = false := frozen_of_row _ _ 0 _ _ f1; have q1 : w2.cell? ⟨w.heap.size, 1, none⟩ = some (.int .i64 0) := cell_of_row _ _ 1 _ _ _ f1; have v1 : w2.frozen? ⟨w.heap.size, 1, none⟩ = false := frozen_of_row _ _ 1 _ _ f1; have q2 : w2.cell? ⟨w.heap.size, 2, none⟩ = some (.int .u8 0) := cell_of_row _ _ 2 _ _ _ f1; have v2 : w2.frozen? ⟨w.heap.size, 2, none⟩ = false := frozen_of_row _ _ 2 _ _ f1; have q3 : w2.cell? ⟨w.heap.size, 3, none⟩ = some (.int .i64 0) := cell_of_row _ _ 3 _ _ _ f1; have v3 : w2.frozen? ⟨w.heap.size, 3, none⟩ = false := frozen_of_row _ _ 3 _ _ f1; have hd := (Array.getElem?_eq_some_iff.1 f1).1; have F1 := hid f1; have HB2 := hid (hb1.trans (hb2.mono (by simp))); clear f1 hb2))
      obtain ⟨w7, hw7⟩ : ∃ w7, w7 = set4 w2 w.heap.size (.int .i64 0) (.int .i64 0) (.int .u8 0) (.int .i64 0) := ⟨_, rfl⟩
      have f7 : w7.heap[w.heap.size]? = some (.cells #[.int .i64 0, .int .i64 0, .int .u8 0, .int .i64 0] 55 (0, 0)) := by rw [hw7]; exact set4_same F1.out
      show bodyPost _ _ _ _ _ ((set4 w2 w.heap.size (.int .i64 0) (.int .i64 0) (.int .u8 0) (.int .i64 0)).alloc (.cells #[.int .i64 a, .int .i64 b, .int .u8 c, .int .i64 d] 55))
      rw [← hw7]
      obtain ⟨c0, c1, c2, c3⟩ := row4 f7
      have l0 := World.block_lt_of_cell? _ _ c0
      have b7 : Below w.heap.size w w7 := by rw [hw7]; exact below_set4 HB2.out (Nat.le_refl _) (Nat.le_refl _) _ _ _ _
      exact bodyPost_ret (v := .tuple #[Tok.sessV Tok.sess0, .int .i64 z]) (by simp [results, Tryz.results18, go_sem, Tok.sessV, Tok.sess0, c0, c1, c2, c3, l0]) rfl ⟨rfl, b7.alloc b7.size _⟩
  · have e1 : tAccess T id now = (Tok.sess0, te) := by unfold tAccess; rw [if_pos (by rw [← hte]; exact h0), hte]
    rw [e1]
    have q4 : (te != 0) = true := by simpa using h0
    clear h h1 ok hte e1 h0 Hf
    go_enter Tryz.func18, Tryz.ntmps18
    go_wp2_with (go_at_call 52; refine Ht.out.mono ?_; rintro e9 w1 ⟨rfl, rfl⟩)
    refine bodyPost_ret (v := .tuple #[Tok.sessV Tok.sess0, .int .i64 te]) (by simp [results, Tryz.results18, go_sem, Tok.sessV, Tok.sess0]) rfl ⟨rfl, ?_⟩
    exact (Below.refl _ w).alloc (Nat.le_refl _) _
end Go.Proofs.YtmnhhomkglffcaaGreatDoor
