/- The reference's Access and Exchange: that they end, and what they leave. (Printed by gen/kr6.py.) -/
import Derived.Test.YtmnhhomkglffcaaGreatDoorKR5
namespace Go.Proofs.YtmnhhomkglffcaaGreatDoor
open Go.RowKit Go.Maps Go.Sort Go.Shelf
set_option linter.unusedVariables false
set_option maxRecDepth 20000

/-- some token and some error; nothing that was there is changed -/
def AccPost (w : World) (e : Ending) (w' : World) : Prop := (∃ (t : Tok.Sess) (z : Int), e = .returned (.tuple #[Tok.sessV t, .int .i64 z])) ∧ Below w.heap.size w w'
theorem tok_results {w w' : World} {g : Nat} {a b c d : Value} {w1 : World} (h : w1.heap[g]? = some (.cells #[a, b, c, d] 55 (0, 0))) (x0 x1 x2 x3 : Value) (hb : Below w.heap.size w w1) (hg : g = w.heap.size) : (set4 w1 g x0 x1 x2 x3).heap[g]? = some (.cells #[x0, x1, x2, x3] 55 (0, 0)) ∧ Below w.heap.size w (set4 w1 g x0 x1 x2 x3) := ⟨set4_same h, below_set4 hb (Nat.le_refl _) (Nat.le_of_eq hg.symm) _ _ _ _⟩

set_option maxHeartbeats 3200000 in
theorem rAccess_any {w : World} {B r : Nat} {a : Option Addr} {c : Nat} {a' : Option Addr} {c' : Nat} {U : Sto} (h : RAt w B r a c a' c' U) (hl : U.ts.length ≤ 1000000000) (id now : Int) :
    Calls Tryz.prog 21 #[.pointer (some ⟨r, 0, none⟩), .int .i64 id, .int .i64 now] w (AccPost w) := by
  have hr := h.lt
  obtain ⟨W, hW⟩ : ∃ W, W = w.alloc (.cells #[.int .i64 0, .int .i64 0, .int .u8 0, .int .i64 0] 55) := ⟨_, rfl⟩
  have hbW : Below w.heap.size w W := by rw [hW]; exact (Below.refl _ w).alloc (Nat.le_refl _) _
  have t0 : W.heap[w.heap.size]? = some (.cells #[.int .i64 0, .int .i64 0, .int .u8 0, .int .i64 0] 55 (0, 0)) := by rw [hW]; exact (MapKept.heap_alloc w _).1
  have h1 := h.below hbW
  have c1 := h1.c1
  have c4 := h1.c4
  have Ht := hid (rTime_any h1 now)
  have Hs := hid h1.sint
  have dW := (Array.getElem?_eq_some_iff.1 t0).1
  have q0 : W.cell? ⟨w.heap.size, 0, none⟩ = some (.int .i64 0) := cell_of_row _ _ 0 _ _ _ t0
  have q1 : W.cell? ⟨w.heap.size, 1, none⟩ = some (.int .i64 0) := cell_of_row _ _ 1 _ _ _ t0
  have q2 : W.cell? ⟨w.heap.size, 2, none⟩ = some (.int .u8 0) := cell_of_row _ _ 2 _ _ _ t0
  have q3 : W.cell? ⟨w.heap.size, 3, none⟩ = some (.int .i64 0) := cell_of_row _ _ 3 _ _ _ t0
  have f0 : W.frozen? ⟨w.heap.size, 0, none⟩ = false := frozen_of_row _ _ 0 _ _ t0
  have f1 : W.frozen? ⟨w.heap.size, 1, none⟩ = false := frozen_of_row _ _ 1 _ _ t0
  have f2 : W.frozen? ⟨w.heap.size, 2, none⟩ = false := frozen_of_row _ _ 2 _ _ t0
  have f3 : W.frozen? ⟨w.heap.size, 3, none⟩ = false := frozen_of_row _ _ 3 _ _ t0
  have T0 := hid t0
  have HB := hid hbW
  have HW := hid hW
  clear h h1 t0 hbW hW
  have Hend : Hid (∀ (x : Tok.Sess), (set4 W w.heap.size (.int .i64 x.id) (.int .i64 x.fam) (.int .u8 x.sco) (.int .i64 x.unt)).heap[w.heap.size]? = some (.cells #[.int .i64 x.id, .int .i64 x.fam, .int .u8 x.sco, .int .i64 x.unt] 55 (0, 0)) ∧ Below w.heap.size w (set4 W w.heap.size (.int .i64 x.id) (.int .i64 x.fam) (.int .u8 x.sco) (.int .i64 x.unt))) := fun x => tok_results (w' := W) T0.out _ _ _ _ HB.out rfl
  generalize hM : U.ts.length = M at *
  have HM := hid hM
  clear hM
  by_cases g1 : id < 1
  · have g1' : decide (id < 1) = true := by simpa using g1
    go_enter Tryz.func21, Tryz.ntmps21
    go_wp2_with (go_at_call 58; rw [← HW.out]; refine Ht.out.mono ?_; rintro e9 w2 ⟨z, rfl, rfl⟩)
    · show bodyPost _ _ _ _ _ (set4 w2 w.heap.size (.int .i64 0) (.int .i64 0) (.int .u8 0) (.int .i64 0))
      obtain ⟨f7, b7⟩ := Hend.out Tok.sess0
      obtain ⟨w7, hw7⟩ : ∃ w7, w7 = set4 w2 w.heap.size (.int .i64 0) (.int .i64 0) (.int .u8 0) (.int .i64 0) := ⟨_, rfl⟩
      have f7' : w7.heap[w.heap.size]? = some (.cells #[.int .i64 0, .int .i64 0, .int .u8 0, .int .i64 0] 55 (0, 0)) := by rw [hw7]; exact f7
      have b7' : Below w.heap.size w w7 := by rw [hw7]; exact b7
      rw [← hw7]
      obtain ⟨k0, k1, k2, k3⟩ := row4 f7'
      exact bodyPost_ret (v := .tuple #[Tok.sessV Tok.sess0, .int .i64 z]) (by simp [results, Tryz.results21, go_sem, Tok.sessV, Tok.sess0, k0, k1, k2, k3]) rfl ⟨⟨_, _, rfl⟩, b7'⟩
    · show bodyPost _ _ _ _ _ (set4 w2 w.heap.size (.int .i64 0) (.int .i64 0) (.int .u8 0) (.int .i64 0))
      obtain ⟨f7, b7⟩ := Hend.out Tok.sess0
      obtain ⟨w7, hw7⟩ : ∃ w7, w7 = set4 w2 w.heap.size (.int .i64 0) (.int .i64 0) (.int .u8 0) (.int .i64 0) := ⟨_, rfl⟩
      have f7' : w7.heap[w.heap.size]? = some (.cells #[.int .i64 0, .int .i64 0, .int .u8 0, .int .i64 0] 55 (0, 0)) := by rw [hw7]; exact f7
      have b7' : Below w.heap.size w w7 := by rw [hw7]; exact b7
      rw [← hw7]
      obtain ⟨k0, k1, k2, k3⟩ := row4 f7'
      exact bodyPost_ret (v := .tuple #[Tok.sessV Tok.sess0, .int .i64 4]) (by simp [results, Tryz.results21, go_sem, Tok.sessV, Tok.sess0, k0, k1, k2, k3]) rfl ⟨⟨_, _, rfl⟩, b7'⟩
  have g1' : decide (id < 1) = false := by simpa using g1
  by_cases g2 : U.nt ≤ id
  · have g2' : decide (U.nt ≤ id) = true := by simpa using g2
    go_enter Tryz.func21, Tryz.ntmps21
    go_wp2_with (go_at_call 58; rw [← HW.out]; refine Ht.out.mono ?_; rintro e9 w2 ⟨z, rfl, rfl⟩)
    · show bodyPost _ _ _ _ _ (set4 w2 w.heap.size (.int .i64 0) (.int .i64 0) (.int .u8 0) (.int .i64 0))
      obtain ⟨f7, b7⟩ := Hend.out Tok.sess0
      obtain ⟨w7, hw7⟩ : ∃ w7, w7 = set4 w2 w.heap.size (.int .i64 0) (.int .i64 0) (.int .u8 0) (.int .i64 0) := ⟨_, rfl⟩
      have f7' : w7.heap[w.heap.size]? = some (.cells #[.int .i64 0, .int .i64 0, .int .u8 0, .int .i64 0] 55 (0, 0)) := by rw [hw7]; exact f7
      have b7' : Below w.heap.size w w7 := by rw [hw7]; exact b7
      rw [← hw7]
      obtain ⟨k0, k1, k2, k3⟩ := row4 f7'
      exact bodyPost_ret (v := .tuple #[Tok.sessV Tok.sess0, .int .i64 z]) (by simp [results, Tryz.results21, go_sem, Tok.sessV, Tok.sess0, k0, k1, k2, k3]) rfl ⟨⟨_, _, rfl⟩, b7'⟩
    · show bodyPost _ _ _ _ _ (set4 w2 w.heap.size (.int .i64 0) (.int .i64 0) (.int .u8 0) (.int .i64 0))
      obtain ⟨f7, b7⟩ := Hend.out Tok.sess0
      obtain ⟨w7, hw7⟩ : ∃ w7, w7 = set4 w2 w.heap.size (.int .i64 0) (.int .i64 0) (.int .u8 0) (.int .i64 0) := ⟨_, rfl⟩
      have f7' : w7.heap[w.heap.size]? = some (.cells #[.int .i64 0, .int .i64 0, .int .u8 0, .int .i64 0] 55 (0, 0)) := by rw [hw7]; exact f7
      have b7' : Below w.heap.size w w7 := by rw [hw7]; exact b7
      rw [← hw7]
      obtain ⟨k0, k1, k2, k3⟩ := row4 f7'
      exact bodyPost_ret (v := .tuple #[Tok.sessV Tok.sess0, .int .i64 4]) (by simp [results, Tryz.results21, go_sem, Tok.sessV, Tok.sess0, k0, k1, k2, k3]) rfl ⟨⟨_, _, rfl⟩, b7'⟩
  have g2' : decide (U.nt ≤ id) = false := by simpa using g2
  go_enter Tryz.func21, Tryz.ntmps21
  go_wp2_with (go_at_call 58; rw [← HW.out]; refine Ht.out.mono ?_; rintro e9 w2 ⟨z, rfl, rfl⟩)
  · show bodyPost _ _ _ _ _ (set4 w2 w.heap.size (.int .i64 0) (.int .i64 0) (.int .u8 0) (.int .i64 0))
    obtain ⟨f7, b7⟩ := Hend.out Tok.sess0
    obtain ⟨w7, hw7⟩ : ∃ w7, w7 = set4 w2 w.heap.size (.int .i64 0) (.int .i64 0) (.int .u8 0) (.int .i64 0) := ⟨_, rfl⟩
    have f7' : w7.heap[w.heap.size]? = some (.cells #[.int .i64 0, .int .i64 0, .int .u8 0, .int .i64 0] 55 (0, 0)) := by rw [hw7]; exact f7
    have b7' : Below w.heap.size w w7 := by rw [hw7]; exact b7
    rw [← hw7]
    obtain ⟨k0, k1, k2, k3⟩ := row4 f7'
    exact bodyPost_ret (v := .tuple #[Tok.sessV Tok.sess0, .int .i64 z]) (by simp [results, Tryz.results21, go_sem, Tok.sessV, Tok.sess0, k0, k1, k2, k3]) rfl ⟨⟨_, _, rfl⟩, b7'⟩
  go_loop [9] (fun i => ∃ k : Nat, k ≤ M ∧ i = .int .i64 k) (fun i => M - (intOf i).toNat)
  case atStart => exact ⟨0, Nat.zero_le _, rfl⟩
  case round =>
    obtain ⟨k, hk, rfl⟩ := hrel
    by_cases hlt : k < M
    · obtain ⟨b, o, ea, h0, h1, h2, h3⟩ := Hs.out k (by rw [HM.out]; exact hlt)
      cases ea
      have Hg : Hid (U.ts[k]? = some (U.ts[k]'(by rw [HM.out]; exact hlt))) := List.getElem?_eq_getElem _
      generalize U.ts[k]'(by rw [HM.out]; exact hlt) = s at *
      cases b1 : (s.id == id)
      · go_wp2
        go_round
        case rel => exact ⟨k + 1, by omega, by go_num⟩
        case measure => simp [intOf]; omega
      · by_cases he : now < s.unt
        · have b2 : decide (now < s.unt) = true := by simpa using he
          go_wp2
          show bodyPost _ _ _ _ _ (set4 w2 w.heap.size (.int .i64 s.id) (.int .i64 s.fam) (.int .u8 s.sco) (.int .i64 s.unt))
          obtain ⟨f7, b7⟩ := Hend.out s
          obtain ⟨w7, hw7⟩ : ∃ w7, w7 = set4 w2 w.heap.size (.int .i64 s.id) (.int .i64 s.fam) (.int .u8 s.sco) (.int .i64 s.unt) := ⟨_, rfl⟩
          have f7' : w7.heap[w.heap.size]? = some (.cells #[.int .i64 s.id, .int .i64 s.fam, .int .u8 s.sco, .int .i64 s.unt] 55 (0, 0)) := by rw [hw7]; exact f7
          have b7' : Below w.heap.size w w7 := by rw [hw7]; exact b7
          rw [← hw7]
          obtain ⟨k0, k1, k2, k3⟩ := row4 f7'
          exact bodyPost_ret (v := .tuple #[Tok.sessV s, .int .i64 0]) (by simp [results, Tryz.results21, go_sem, Tok.sessV, k0, k1, k2, k3]) rfl ⟨⟨_, _, rfl⟩, b7'⟩
        · have b2 : decide (now < s.unt) = false := by simpa using he
          go_wp2
          go_round
          case rel => exact ⟨k + 1, by omega, by go_num⟩
          case measure => simp [intOf]; omega
    · have e : k = M := by omega
      subst e
      go_wp2
      show bodyPost _ _ _ _ _ (set4 w2 w.heap.size (.int .i64 0) (.int .i64 0) (.int .u8 0) (.int .i64 0))
      obtain ⟨f7, b7⟩ := Hend.out Tok.sess0
      obtain ⟨w7, hw7⟩ : ∃ w7, w7 = set4 w2 w.heap.size (.int .i64 0) (.int .i64 0) (.int .u8 0) (.int .i64 0) := ⟨_, rfl⟩
      have f7' : w7.heap[w.heap.size]? = some (.cells #[.int .i64 0, .int .i64 0, .int .u8 0, .int .i64 0] 55 (0, 0)) := by rw [hw7]; exact f7
      have b7' : Below w.heap.size w w7 := by rw [hw7]; exact b7
      rw [← hw7]
      obtain ⟨k0, k1, k2, k3⟩ := row4 f7'
      exact bodyPost_ret (v := .tuple #[Tok.sessV Tok.sess0, .int .i64 12]) (by simp [results, Tryz.results21, go_sem, Tok.sessV, Tok.sess0, k0, k1, k2, k3]) rfl ⟨⟨_, _, rfl⟩, b7'⟩
end Go.Proofs.YtmnhhomkglffcaaGreatDoor
