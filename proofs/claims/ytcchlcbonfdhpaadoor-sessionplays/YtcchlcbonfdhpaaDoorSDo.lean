/- do of the laws on sessions, kind by kind. (Printed by gen/sdo.py.) -/
import Derived.Test.YtcchlcbonfdhpaaDoorSSame
namespace Go.Proofs.YtcchlcbonfdhpaaDoor
open Go.RowKit Go.Maps Go.Sort Go.Shelf
set_option linter.unusedVariables false
set_option maxRecDepth 20000

def DOut (p mb r : Nat) (k : Nat) : Prop := k = p ∨ k = mb ∨ k = r

set_option maxHeartbeats 6400000 in
theorem do_0 {w : World} {B p mb r n : Nat} {T : Tab} (h : Both w B p mb r n T) (ok : TabOk T) (hn : n ≤ 1000) (hl : T.l.length ≤ 1000) (hB : B ≤ w.heap.size) (x : SDeed) (ht : x.ten.size ≤ maxLen) (hu : x.usr.size ≤ maxLen) (hk : x.kind = 0) :
    Calls Tryd.prog 9 #[.pointer (some ⟨p, 0, none⟩), .pointer (some ⟨r, 0, none⟩), .agg #[.int .i64 x.kind, .string x.ten, .string x.usr, .int .i64 x.id, .int .i64 x.now]] w fun e w' => e = .returned (.bool true) ∧ Both w' B p mb r (n + 1) (tDo T x) ∧ Out (DOut p mb r) w w' := by
  obtain ⟨lp, lm, lr, nrp, nrm, bp, bm, br⟩ := h.lts
  have hb1 : Below w.heap.size w (w.alloc (.cells #[.int .i64 x.kind, .string x.ten, .string x.usr, .int .i64 x.id, .int .i64 x.now] 32)) := (Below.refl _ w).alloc (Nat.le_refl _) _
  have h1 := h.below hb1
  obtain ⟨hT1, a, cap, hR1⟩ := h1
  have Htd : Hid (tDo T x = (tBegin T x.ten x.usr x.now).1) := by show _ = _; unfold tDo; rw [if_pos hk]
  have HP := begin_any hT1 ok (by omega) (by omega) x.ten x.usr x.now ht hu
  have HR := hid (fun W (hW : RTab W B r a cap T) (hBW : B ≤ W.heap.size) => rBegin_any hW ok (by omega) hBW x.ten x.usr x.now ht hu)
  obtain ⟨s, hs⟩ : ∃ s, s = (tBegin T x.ten x.usr x.now).2.1 := ⟨_, rfl⟩
  obtain ⟨z, hz⟩ : ∃ z, z = (tBegin T x.ten x.usr x.now).2.2 := ⟨_, rfl⟩
  rw [← hs, ← hz] at HP HR
  have HR1 := hid hR1
  have HT1 := hid hT1
  clear h hT1 hR1 ok hs hz
  have hkv : x.kind = 0 := hk
  obtain ⟨kd, xt, xu, xi, xn⟩ := x
  dsimp only at *
  subst hkv
  go_enter Tryd.func9, Tryd.ntmps9
  go_wp2_with (first
    | (go_at_call 14; refine HP.mono ?_; rintro e w2 ⟨rfl, hT2, ho2⟩; unfold sessV; have z2 : w.heap.size < w2.heap.size := (by have := ho2.size; simp at this; omega); have hR2 := hid ((HR1.out.outP HT1.out ho2).below ((Below.refl _ w2).alloc (Nat.le_refl _) (.cells #[.int .i64 s.id, .string s.ten, .string s.usr, .int .i64 s.since, .int .i64 s.used] 42))); have y1 : w2.cell? ⟨w.heap.size, 1, none⟩ = some (.string xt) := ((ho2.cells w.heap.size (by simp) (by omega)).1 1).trans ((World.cell?_alloc_at _ _ _ _ rfl).trans rfl); have y2 : w2.cell? ⟨w.heap.size, 2, none⟩ = some (.string xu) := ((ho2.cells w.heap.size (by simp) (by omega)).1 2).trans ((World.cell?_alloc_at _ _ _ _ rfl).trans rfl); have y3 : w2.cell? ⟨w.heap.size, 3, none⟩ = some (.int .i64 xi) := ((ho2.cells w.heap.size (by simp) (by omega)).1 3).trans ((World.cell?_alloc_at _ _ _ _ rfl).trans rfl); have y4 : w2.cell? ⟨w.heap.size, 4, none⟩ = some (.int .i64 xn) := ((ho2.cells w.heap.size (by simp) (by omega)).1 4).trans ((World.cell?_alloc_at _ _ _ _ rfl).trans rfl))
    | (go_at_call 18; refine (HR.out _ hR2.out (by simp; omega)).mono ?_; rintro e w3 ⟨rfl, hR3, ho3⟩; unfold sessV; have z3 : w2.heap.size < w3.heap.size := (by have := ho3.size; simp at this; omega); have v0 : w3.cell? ⟨w2.heap.size, 0, none⟩ = some (.int .i64 s.id) := ((ho3.cells w2.heap.size (by simp) (by omega)).1 0).trans ((World.cell?_alloc_at _ _ _ _ rfl).trans rfl); have v1 : w3.cell? ⟨w2.heap.size, 1, none⟩ = some (.string s.ten) := ((ho3.cells w2.heap.size (by simp) (by omega)).1 1).trans ((World.cell?_alloc_at _ _ _ _ rfl).trans rfl); have v2 : w3.cell? ⟨w2.heap.size, 2, none⟩ = some (.string s.usr) := ((ho3.cells w2.heap.size (by simp) (by omega)).1 2).trans ((World.cell?_alloc_at _ _ _ _ rfl).trans rfl); have v3 : w3.cell? ⟨w2.heap.size, 3, none⟩ = some (.int .i64 s.since) := ((ho3.cells w2.heap.size (by simp) (by omega)).1 3).trans ((World.cell?_alloc_at _ _ _ _ rfl).trans rfl); have v4 : w3.cell? ⟨w2.heap.size, 4, none⟩ = some (.int .i64 s.used) := ((ho3.cells w2.heap.size (by simp) (by omega)).1 4).trans ((World.cell?_alloc_at _ _ _ _ rfl).trans rfl)))
  go_ret
  rw [Htd.out]
  have hT3 := (hT2.below ((Below.refl _ w2).alloc (Nat.le_refl _) (.cells #[.int .i64 s.id, .string s.ten, .string s.usr, .int .i64 s.since, .int .i64 s.used] 42))).outR hR2.out ho3
  have hbF : Below w3.heap.size w3 (w3.alloc (.cells #[.int .i64 s.id, .string s.ten, .string s.usr, .int .i64 s.since, .int .i64 s.used] 42)) := (Below.refl _ w3).alloc (Nat.le_refl _) _
  obtain ⟨a3, c3, hR3⟩ := hR3
  refine ⟨rfl, ⟨hT3.below hbF, a3, c3, hR3.below hbF⟩, ?_⟩
  have o1 : Out (DOut p mb r) w w2 := (Out.of_below hb1).trans (ho2.imp (Q := DOut p mb r) (fun _ _ e => by rcases e with e | e; exact .inl e; exact .inr (.inl e))) (fun _ _ e => e)
  have o2 := o1.trans (Out.of_below (P := DOut p mb r) ((Below.refl _ w2).alloc (Nat.le_refl _) (.cells #[.int .i64 s.id, .string s.ten, .string s.usr, .int .i64 s.since, .int .i64 s.used] 42))) (fun _ _ e => e)
  have o3 := o2.trans (ho3.imp (Q := DOut p mb r) (fun _ _ e => .inr (.inr e))) (fun _ _ e => e)
  exact o3.trans (Out.of_below (P := DOut p mb r) hbF) (fun _ _ e => e)

set_option maxHeartbeats 6400000 in
theorem do_1 {w : World} {B p mb r n : Nat} {T : Tab} (h : Both w B p mb r n T) (ok : TabOk T) (hn : n ≤ 1000) (hl : T.l.length ≤ 1000) (hB : B ≤ w.heap.size) (x : SDeed) (ht : x.ten.size ≤ maxLen) (hu : x.usr.size ≤ maxLen) (hk : x.kind = 1) :
    Calls Tryd.prog 9 #[.pointer (some ⟨p, 0, none⟩), .pointer (some ⟨r, 0, none⟩), .agg #[.int .i64 x.kind, .string x.ten, .string x.usr, .int .i64 x.id, .int .i64 x.now]] w fun e w' => e = .returned (.bool true) ∧ Both w' B p mb r (n + 1) (tDo T x) ∧ Out (DOut p mb r) w w' := by
  obtain ⟨lp, lm, lr, nrp, nrm, bp, bm, br⟩ := h.lts
  have hb1 : Below w.heap.size w (w.alloc (.cells #[.int .i64 x.kind, .string x.ten, .string x.usr, .int .i64 x.id, .int .i64 x.now] 32)) := (Below.refl _ w).alloc (Nat.le_refl _) _
  have h1 := h.below hb1
  obtain ⟨hT1, a, cap, hR1⟩ := h1
  have Htd : Hid (tDo T x = (tTouch T x.id x.now).1) := by show _ = _; unfold tDo; rw [if_neg (by rw [hk]; decide), if_pos hk]
  have HP := touch_any hT1 ok (by omega) x.id x.now
  have HR := hid (fun W (hW : RTab W B r a cap T) (hBW : B ≤ W.heap.size) => rTouch_any hW ok (by omega) hBW x.id x.now)
  obtain ⟨s, hs⟩ : ∃ s, s = (tTouch T x.id x.now).2.1 := ⟨_, rfl⟩
  obtain ⟨z, hz⟩ : ∃ z, z = (tTouch T x.id x.now).2.2 := ⟨_, rfl⟩
  rw [← hs, ← hz] at HP HR
  have HR1 := hid hR1
  have HT1 := hid hT1
  clear h hT1 hR1 ok hs hz
  have hkv : x.kind = 1 := hk
  obtain ⟨kd, xt, xu, xi, xn⟩ := x
  dsimp only at *
  subst hkv
  go_enter Tryd.func9, Tryd.ntmps9
  go_wp2_with (first
    | (go_at_call 15; refine HP.mono ?_; rintro e w2 ⟨rfl, hT2, ho2⟩; unfold sessV; have z2 : w.heap.size < w2.heap.size := (by have := ho2.size; simp at this; omega); have hR2 := hid ((HR1.out.outP HT1.out ho2).below ((Below.refl _ w2).alloc (Nat.le_refl _) (.cells #[.int .i64 s.id, .string s.ten, .string s.usr, .int .i64 s.since, .int .i64 s.used] 42))); have y1 : w2.cell? ⟨w.heap.size, 1, none⟩ = some (.string xt) := ((ho2.cells w.heap.size (by simp) (by omega)).1 1).trans ((World.cell?_alloc_at _ _ _ _ rfl).trans rfl); have y2 : w2.cell? ⟨w.heap.size, 2, none⟩ = some (.string xu) := ((ho2.cells w.heap.size (by simp) (by omega)).1 2).trans ((World.cell?_alloc_at _ _ _ _ rfl).trans rfl); have y3 : w2.cell? ⟨w.heap.size, 3, none⟩ = some (.int .i64 xi) := ((ho2.cells w.heap.size (by simp) (by omega)).1 3).trans ((World.cell?_alloc_at _ _ _ _ rfl).trans rfl); have y4 : w2.cell? ⟨w.heap.size, 4, none⟩ = some (.int .i64 xn) := ((ho2.cells w.heap.size (by simp) (by omega)).1 4).trans ((World.cell?_alloc_at _ _ _ _ rfl).trans rfl))
    | (go_at_call 19; refine (HR.out _ hR2.out (by simp; omega)).mono ?_; rintro e w3 ⟨rfl, hR3, ho3⟩; unfold sessV; have z3 : w2.heap.size < w3.heap.size := (by have := ho3.size; simp at this; omega); have v0 : w3.cell? ⟨w2.heap.size, 0, none⟩ = some (.int .i64 s.id) := ((ho3.cells w2.heap.size (by simp) (by omega)).1 0).trans ((World.cell?_alloc_at _ _ _ _ rfl).trans rfl); have v1 : w3.cell? ⟨w2.heap.size, 1, none⟩ = some (.string s.ten) := ((ho3.cells w2.heap.size (by simp) (by omega)).1 1).trans ((World.cell?_alloc_at _ _ _ _ rfl).trans rfl); have v2 : w3.cell? ⟨w2.heap.size, 2, none⟩ = some (.string s.usr) := ((ho3.cells w2.heap.size (by simp) (by omega)).1 2).trans ((World.cell?_alloc_at _ _ _ _ rfl).trans rfl); have v3 : w3.cell? ⟨w2.heap.size, 3, none⟩ = some (.int .i64 s.since) := ((ho3.cells w2.heap.size (by simp) (by omega)).1 3).trans ((World.cell?_alloc_at _ _ _ _ rfl).trans rfl); have v4 : w3.cell? ⟨w2.heap.size, 4, none⟩ = some (.int .i64 s.used) := ((ho3.cells w2.heap.size (by simp) (by omega)).1 4).trans ((World.cell?_alloc_at _ _ _ _ rfl).trans rfl)))
  go_ret
  rw [Htd.out]
  have hT3 := (hT2.below ((Below.refl _ w2).alloc (Nat.le_refl _) (.cells #[.int .i64 s.id, .string s.ten, .string s.usr, .int .i64 s.since, .int .i64 s.used] 42))).outR hR2.out ho3
  have hbF : Below w3.heap.size w3 (w3.alloc (.cells #[.int .i64 s.id, .string s.ten, .string s.usr, .int .i64 s.since, .int .i64 s.used] 42)) := (Below.refl _ w3).alloc (Nat.le_refl _) _
  obtain ⟨a3, c3, hR3⟩ := hR3
  refine ⟨rfl, ⟨hT3.below hbF, a3, c3, hR3.below hbF⟩, ?_⟩
  have o1 : Out (DOut p mb r) w w2 := (Out.of_below hb1).trans (ho2.imp (Q := DOut p mb r) (fun _ _ e => by rcases e with e | e; exact .inl e; exact .inr (.inl e))) (fun _ _ e => e)
  have o2 := o1.trans (Out.of_below (P := DOut p mb r) ((Below.refl _ w2).alloc (Nat.le_refl _) (.cells #[.int .i64 s.id, .string s.ten, .string s.usr, .int .i64 s.since, .int .i64 s.used] 42))) (fun _ _ e => e)
  have o3 := o2.trans (ho3.imp (Q := DOut p mb r) (fun _ _ e => .inr (.inr e))) (fun _ _ e => e)
  exact o3.trans (Out.of_below (P := DOut p mb r) hbF) (fun _ _ e => e)

set_option maxHeartbeats 6400000 in
theorem do_2 {w : World} {B p mb r n : Nat} {T : Tab} (h : Both w B p mb r n T) (ok : TabOk T) (hn : n ≤ 1000) (hl : T.l.length ≤ 1000) (hB : B ≤ w.heap.size) (x : SDeed) (ht : x.ten.size ≤ maxLen) (hu : x.usr.size ≤ maxLen) (hk : x.kind = 2) :
    Calls Tryd.prog 9 #[.pointer (some ⟨p, 0, none⟩), .pointer (some ⟨r, 0, none⟩), .agg #[.int .i64 x.kind, .string x.ten, .string x.usr, .int .i64 x.id, .int .i64 x.now]] w fun e w' => e = .returned (.bool true) ∧ Both w' B p mb r (n + 1) (tDo T x) ∧ Out (DOut p mb r) w w' := by
  obtain ⟨lp, lm, lr, nrp, nrm, bp, bm, br⟩ := h.lts
  have hb1 : Below w.heap.size w (w.alloc (.cells #[.int .i64 x.kind, .string x.ten, .string x.usr, .int .i64 x.id, .int .i64 x.now] 32)) := (Below.refl _ w).alloc (Nat.le_refl _) _
  have h1 := h.below hb1
  obtain ⟨hT1, a, cap, hR1⟩ := h1
  have Htd : Hid (tDo T x = T) := by show _ = _; unfold tDo; rw [if_neg (by rw [hk]; decide), if_neg (by rw [hk]; decide), if_pos hk]
  have HP := get_any hT1 ok x.id x.now
  have HR := hid (fun W (hW : RTab W B r a cap T) (hBW : B ≤ W.heap.size) => rGet_any hW ok (by omega) x.id x.now)
  obtain ⟨s, hs⟩ : ∃ s, s = (tGet T x.id x.now).1 := ⟨_, rfl⟩
  obtain ⟨z, hz⟩ : ∃ z, z = (tGet T x.id x.now).2 := ⟨_, rfl⟩
  rw [← hs, ← hz] at HP HR
  have HR1 := hid hR1
  have HT1 := hid hT1
  clear h hT1 hR1 ok hs hz
  have hkv : x.kind = 2 := hk
  obtain ⟨kd, xt, xu, xi, xn⟩ := x
  dsimp only at *
  subst hkv
  go_enter Tryd.func9, Tryd.ntmps9
  go_wp2_with (first
    | (go_at_call 20; refine HP.mono ?_; rintro e w2 ⟨rfl, hb2⟩; unfold sessV; have ho2 : Out (fun k => k = p ∨ k = mb) _ w2 := Out.of_below hb2; have hT2 := HT1.out.below hb2; have z2 : w.heap.size < w2.heap.size := (by have := ho2.size; simp at this; omega); have hR2 := hid ((HR1.out.outP HT1.out ho2).below ((Below.refl _ w2).alloc (Nat.le_refl _) (.cells #[.int .i64 s.id, .string s.ten, .string s.usr, .int .i64 s.since, .int .i64 s.used] 42))); have y1 : w2.cell? ⟨w.heap.size, 1, none⟩ = some (.string xt) := ((ho2.cells w.heap.size (by simp) (by omega)).1 1).trans ((World.cell?_alloc_at _ _ _ _ rfl).trans rfl); have y2 : w2.cell? ⟨w.heap.size, 2, none⟩ = some (.string xu) := ((ho2.cells w.heap.size (by simp) (by omega)).1 2).trans ((World.cell?_alloc_at _ _ _ _ rfl).trans rfl); have y3 : w2.cell? ⟨w.heap.size, 3, none⟩ = some (.int .i64 xi) := ((ho2.cells w.heap.size (by simp) (by omega)).1 3).trans ((World.cell?_alloc_at _ _ _ _ rfl).trans rfl); have y4 : w2.cell? ⟨w.heap.size, 4, none⟩ = some (.int .i64 xn) := ((ho2.cells w.heap.size (by simp) (by omega)).1 4).trans ((World.cell?_alloc_at _ _ _ _ rfl).trans rfl))
    | (go_at_call 21; refine (HR.out _ hR2.out (by simp; omega)).mono ?_; rintro e w3 ⟨rfl, hb3⟩; unfold sessV; have ho3 : Out (fun k => k = r) _ w3 := Out.of_below hb3; have hR3 : ∃ a' cap', RTab w3 B r a' cap' T := ⟨a, cap, hR2.out.below hb3⟩; have z3 : w2.heap.size < w3.heap.size := (by have := ho3.size; simp at this; omega); have v0 : w3.cell? ⟨w2.heap.size, 0, none⟩ = some (.int .i64 s.id) := ((ho3.cells w2.heap.size (by simp) (by omega)).1 0).trans ((World.cell?_alloc_at _ _ _ _ rfl).trans rfl); have v1 : w3.cell? ⟨w2.heap.size, 1, none⟩ = some (.string s.ten) := ((ho3.cells w2.heap.size (by simp) (by omega)).1 1).trans ((World.cell?_alloc_at _ _ _ _ rfl).trans rfl); have v2 : w3.cell? ⟨w2.heap.size, 2, none⟩ = some (.string s.usr) := ((ho3.cells w2.heap.size (by simp) (by omega)).1 2).trans ((World.cell?_alloc_at _ _ _ _ rfl).trans rfl); have v3 : w3.cell? ⟨w2.heap.size, 3, none⟩ = some (.int .i64 s.since) := ((ho3.cells w2.heap.size (by simp) (by omega)).1 3).trans ((World.cell?_alloc_at _ _ _ _ rfl).trans rfl); have v4 : w3.cell? ⟨w2.heap.size, 4, none⟩ = some (.int .i64 s.used) := ((ho3.cells w2.heap.size (by simp) (by omega)).1 4).trans ((World.cell?_alloc_at _ _ _ _ rfl).trans rfl)))
  go_ret
  rw [Htd.out]
  have hT3 := (hT2.below ((Below.refl _ w2).alloc (Nat.le_refl _) (.cells #[.int .i64 s.id, .string s.ten, .string s.usr, .int .i64 s.since, .int .i64 s.used] 42))).outR hR2.out ho3
  have hbF : Below w3.heap.size w3 (w3.alloc (.cells #[.int .i64 s.id, .string s.ten, .string s.usr, .int .i64 s.since, .int .i64 s.used] 42)) := (Below.refl _ w3).alloc (Nat.le_refl _) _
  obtain ⟨a3, c3, hR3⟩ := hR3
  refine ⟨rfl, ⟨(hT3.below hbF).more (by omega), a3, c3, hR3.below hbF⟩, ?_⟩
  have o1 : Out (DOut p mb r) w w2 := (Out.of_below hb1).trans (ho2.imp (Q := DOut p mb r) (fun _ _ e => by rcases e with e | e; exact .inl e; exact .inr (.inl e))) (fun _ _ e => e)
  have o2 := o1.trans (Out.of_below (P := DOut p mb r) ((Below.refl _ w2).alloc (Nat.le_refl _) (.cells #[.int .i64 s.id, .string s.ten, .string s.usr, .int .i64 s.since, .int .i64 s.used] 42))) (fun _ _ e => e)
  have o3 := o2.trans (ho3.imp (Q := DOut p mb r) (fun _ _ e => .inr (.inr e))) (fun _ _ e => e)
  exact o3.trans (Out.of_below (P := DOut p mb r) hbF) (fun _ _ e => e)
end Go.Proofs.YtcchlcbonfdhpaaDoor
