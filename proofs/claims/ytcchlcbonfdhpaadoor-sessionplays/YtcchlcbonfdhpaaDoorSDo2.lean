/- do of the laws on sessions, kinds 5 and above. (Printed by gen/sdo2.py.) -/
import Derived.Test.YtcchlcbonfdhpaaDoorSDo
namespace Go.Proofs.YtcchlcbonfdhpaaDoor
open Go.RowKit Go.Maps Go.Sort Go.Shelf
set_option linter.unusedVariables false
set_option maxRecDepth 20000

set_option maxHeartbeats 6400000 in
theorem do_5 {w : World} {B p mb r n : Nat} {T : Tab} (h : Both w B p mb r n T) (ok : TabOk T) (hn : n ≤ 1000) (hl : T.l.length ≤ 1000) (hB : B ≤ w.heap.size) (x : SDeed) (ht : x.ten.size ≤ maxLen) (hu : x.usr.size ≤ maxLen) (hk : x.kind = 5) :
    Calls Tryd.prog 9 #[.pointer (some ⟨p, 0, none⟩), .pointer (some ⟨r, 0, none⟩), .agg #[.int .i64 x.kind, .string x.ten, .string x.usr, .int .i64 x.id, .int .i64 x.now]] w fun e w' => e = .returned (.bool true) ∧ Both w' B p mb r (n + 1) (tDo T x) ∧ Out (DOut p mb r) w w' := by
  obtain ⟨lp, lm, lr, nrp, nrm, bp, bm, br⟩ := h.lts
  have hb1 : Below w.heap.size w (w.alloc (.cells #[.int .i64 x.kind, .string x.ten, .string x.usr, .int .i64 x.id, .int .i64 x.now] 32)) := (Below.refl _ w).alloc (Nat.le_refl _) _
  have h1 := h.below hb1
  obtain ⟨hT1, a, cap, hR1⟩ := h1
  have Htd : Hid (tDo T x = tSweep T x.now) := by show _ = _; unfold tDo; rw [if_neg (by rw [hk]; decide), if_neg (by rw [hk]; decide), if_neg (by rw [hk]; decide), if_neg (by rw [hk]; decide), if_neg (by rw [hk]; decide), if_pos hk]
  have HP := sweep_any hT1 ok (by omega) x.now
  have HR := hid (fun W (hW : RTab W B r a cap T) (hBW : B ≤ W.heap.size) => rSweep_any hW ok (by omega) hBW x.now)
  have hil : (sweepIds T x.now).length ≤ 1000 := by
    unfold sweepIds
    split
    · simp
    · unfold wantedIds
      rw [List.length_map]
      have := List.length_filter_le (fun s : Sess => overB s x.now) T.l
      omega
  generalize sweepIds T x.now = zs at *
  generalize timeErr x.now T.noted = z at *
  have HR1 := hid hR1
  have HT1 := hid hT1
  clear h hT1 hR1 ok
  have hkv : x.kind = 5 := hk
  obtain ⟨kd, xt, xu, xi, xn⟩ := x
  dsimp only at *
  subst hkv
  go_enter Tryd.func9, Tryd.ntmps9
  go_wp2_with (first
    | (go_at_call 27; refine HP.mono ?_; rintro e w2 ⟨v1, rfl, hrow1, hT2, ho2⟩; obtain ⟨a1, c1, rfl, _, _⟩ := ints_of_own hrow1; have z2 : w.heap.size < w2.heap.size := (by have := ho2.size; simp at this; omega); have hR2 := hid (HR1.out.outP HT1.out ho2); have y4 : w2.cell? ⟨w.heap.size, 4, none⟩ = some (.int .i64 xn) := ((ho2.cells w.heap.size (by simp) (by omega)).1 4).trans ((World.cell?_alloc_at _ _ _ _ rfl).trans rfl))
    | (go_at_call 28; refine (HR.out _ hR2.out (by omega)).mono ?_; rintro e w3 ⟨v2, rfl, hrow2, hR3, ho3⟩; have hrow1' := hrow1.kept (grown_of_out ho3) (.inr (Ne.symm (row_ne_low hrow1 (by simp; omega)))); obtain ⟨a2, c2, rfl, hi2, _⟩ := ints_of_own hrow2; obtain ⟨a1', c1', e1, hi1, _⟩ := ints_of_own hrow1'; cases e1)
    | (go_at_call 24; refine (sameInts_any hi1 hi2 _ _ (by omega)).mono ?_; rintro e w4 ⟨rfl, hb4⟩))
  go_ret
  rw [Htd.out]
  have hT3 := hT2.outR hR2.out ho3
  obtain ⟨a3, c3, hR3⟩ := hR3
  refine ⟨rfl, ⟨(hT3.below hb4).more (by omega), a3, c3, hR3.below hb4⟩, ?_⟩
  have o1 : Out (DOut p mb r) w w2 := (Out.of_below hb1).trans (ho2.imp (Q := DOut p mb r) (fun _ _ e => by rcases e with e | e; exact .inl e; exact .inr (.inl e))) (fun _ _ e => e)
  have o3 := o1.trans (ho3.imp (Q := DOut p mb r) (fun _ _ e => .inr (.inr e))) (fun _ _ e => e)
  exact o3.trans (Out.of_below (P := DOut p mb r) hb4) (fun _ _ e => e)

set_option maxHeartbeats 6400000 in
theorem do_6 {w : World} {B p mb r n : Nat} {T : Tab} (h : Both w B p mb r n T) (ok : TabOk T) (hn : n ≤ 1000) (hl : T.l.length ≤ 1000) (hB : B ≤ w.heap.size) (x : SDeed) (ht : x.ten.size ≤ maxLen) (hu : x.usr.size ≤ maxLen) (hk : x.kind ≠ 0 ∧ x.kind ≠ 1 ∧ x.kind ≠ 2 ∧ x.kind ≠ 3 ∧ x.kind ≠ 4 ∧ x.kind ≠ 5) :
    Calls Tryd.prog 9 #[.pointer (some ⟨p, 0, none⟩), .pointer (some ⟨r, 0, none⟩), .agg #[.int .i64 x.kind, .string x.ten, .string x.usr, .int .i64 x.id, .int .i64 x.now]] w fun e w' => e = .returned (.bool true) ∧ Both w' B p mb r (n + 1) (tDo T x) ∧ Out (DOut p mb r) w w' := by
  obtain ⟨lp, lm, lr, nrp, nrm, bp, bm, br⟩ := h.lts
  have hb1 : Below w.heap.size w (w.alloc (.cells #[.int .i64 x.kind, .string x.ten, .string x.usr, .int .i64 x.id, .int .i64 x.now] 32)) := (Below.refl _ w).alloc (Nat.le_refl _) _
  have h1 := h.below hb1
  obtain ⟨hT1, a, cap, hR1⟩ := h1
  obtain ⟨k0, k1, k2, k3, k4, k5⟩ := hk
  have Htd : Hid (tDo T x = T) := by show _ = _; unfold tDo; rw [if_neg k0, if_neg k1, if_neg k2, if_neg k3, if_neg k4, if_neg k5]
  have HP := tabLive_any hT1 ok (by omega) x.ten x.usr x.now
  have HR := hid (fun W (hW : RTab W B r a cap T) => rLive_any hW ok (by omega) x.ten x.usr x.now)
  have hil : (tLive T x.ten x.usr x.now).length ≤ 1000 := by
    unfold tLive
    split
    · simp
    · have := List.length_filter_le (liveB x.ten x.usr x.now) T.l
      omega
  generalize tLive T x.ten x.usr x.now = ls at *
  generalize timeErr x.now T.noted = z at *
  have HR1 := hid hR1
  have HT1 := hid hT1
  clear h hT1 hR1 ok
  obtain ⟨kd, xt, xu, xi, xn⟩ := x
  dsimp only at *
  have b0 : (kd == 0) = false := by simpa using k0
  have b1 : (kd == 1) = false := by simpa using k1
  have b2 : (kd == 2) = false := by simpa using k2
  have b3 : (kd == 3) = false := by simpa using k3
  have b4 : (kd == 4) = false := by simpa using k4
  have b5 : (kd == 5) = false := by simpa using k5
  have g1 : decide ((ls.length : Int) ≤ 1048576) = true := by simp; omega
  clear k0 k1 k2 k3 k4 k5
  go_enter Tryd.func9, Tryd.ntmps9
  go_wp2_with (first
    | (go_at_call 29; refine HP.mono ?_; rintro e w2 ⟨v1, rfl, hrow1, hb2⟩; obtain ⟨a1, c1, rfl, hi1, _⟩ := sess_of_own hrow1; have z2 : w.heap.size < w2.heap.size := (by have := hb2.size; simp at this; omega); have y1 : w2.cell? ⟨w.heap.size, 1, none⟩ = some (.string xt) := (hb2.cell (p := ⟨w.heap.size, 1, none⟩) (by simp)).trans ((World.cell?_alloc_at _ _ _ _ rfl).trans rfl); have y2 : w2.cell? ⟨w.heap.size, 2, none⟩ = some (.string xu) := (hb2.cell (p := ⟨w.heap.size, 2, none⟩) (by simp)).trans ((World.cell?_alloc_at _ _ _ _ rfl).trans rfl); have y4 : w2.cell? ⟨w.heap.size, 4, none⟩ = some (.int .i64 xn) := (hb2.cell (p := ⟨w.heap.size, 4, none⟩) (by simp)).trans ((World.cell?_alloc_at _ _ _ _ rfl).trans rfl))
    | (go_at_call 30; refine (HR.out _ (HR1.out.below hb2)).mono ?_; rintro e w3 ⟨v2, rfl, hrow2, hb3⟩; obtain ⟨a2, c2, rfl, hi2, _⟩ := sess_of_own hrow2)
    | (go_at_call 31; refine (sameSess_any (hi1.below hb3) hi2 _ _ (by omega)).mono ?_; rintro e w4 ⟨rfl, hb4⟩))
  go_ret
  rw [Htd.out]
  have hb14 := Below.on' (Below.on' hb2 hb3) hb4
  refine ⟨rfl, ⟨(HT1.out.below hb14).more (by omega), a, cap, HR1.out.below hb14⟩, ?_⟩
  exact Out.of_below (hb1.trans (hb14.mono (by simp)))
end Go.Proofs.YtcchlcbonfdhpaaDoor
