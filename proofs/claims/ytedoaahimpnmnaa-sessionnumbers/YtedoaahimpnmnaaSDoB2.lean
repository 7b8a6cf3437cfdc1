/- do of the laws on sessions, where the two tables have parted: kinds 3 and above; all kinds together. (Printed by gen/sdob2.py.) -/
import Derived.Test.YtedoaahimpnmnaaSSame2
import Derived.Test.YtedoaahimpnmnaaSDo3
namespace Go.Proofs.Ytedoaahimpnmnaa
open Go.RowKit Go.Maps Go.Sort Go.Shelf
set_option linter.unusedVariables false
set_option maxRecDepth 20000

set_option maxHeartbeats 6400000 in
theorem dob_3 {w : World} {B p mb r n : Nat} {T U : Tab} (h : Two w B p mb r n T U) (ok : TabOk T) (ok2 : TabOk U) (hn : n ≤ 1000) (hl : T.l.length ≤ 1000) (hl2 : U.l.length ≤ 1000) (hB : B ≤ w.heap.size) (x : SDeed) (ht : x.ten.size ≤ maxLen) (hu : x.usr.size ≤ maxLen) (hk : x.kind = 3) :
    Calls Try.prog 14 #[.pointer (some ⟨p, 0, none⟩), .pointer (some ⟨r, 0, none⟩), .agg #[.int .i64 x.kind, .string x.ten, .string x.usr, .int .i64 x.id, .int .i64 x.now]] w fun e w' => ∃ bb, e = .returned (.bool bb) ∧ Two w' B p mb r (n + 1) (tDo T x) (tDo U x) ∧ Out (DOut p mb r) w w' := by
  obtain ⟨lp, lm, lr, nrp, nrm, bp, bm, br⟩ := h.lts
  have hb1 : Below w.heap.size w (w.alloc (.cells #[.int .i64 x.kind, .string x.ten, .string x.usr, .int .i64 x.id, .int .i64 x.now] 36)) := (Below.refl _ w).alloc (Nat.le_refl _) _
  have h1 := h.below hb1
  obtain ⟨hT1, a, cap, hR1⟩ := h1
  have Htd : Hid (tDo T x = (tEnd T x.id).1) := by show _ = _; unfold tDo; rw [if_neg (by rw [hk]; decide), if_neg (by rw [hk]; decide), if_neg (by rw [hk]; decide), if_pos hk]
  have Hud : Hid (tDo U x = (tEnd U x.id).1) := by show _ = _; unfold tDo; rw [if_neg (by rw [hk]; decide), if_neg (by rw [hk]; decide), if_neg (by rw [hk]; decide), if_pos hk]
  have HP := hid (fun W (hW : TabAt W B p mb n T) => end_any hW ok x.id)
  have HR := hid (fun W (hW : RTab W B r a cap U) (hBW : B ≤ W.heap.size) => rEnd_any hW ok2 (by omega) hBW x.id)
  obtain ⟨z, hz⟩ : ∃ z, z = (tEnd T x.id).2 := ⟨_, rfl⟩
  obtain ⟨T', hT'⟩ : ∃ T', T' = (tEnd T x.id).1 := ⟨_, rfl⟩
  obtain ⟨z', hz'⟩ : ∃ z, z = (tEnd U x.id).2 := ⟨_, rfl⟩
  obtain ⟨U', hU'⟩ : ∃ T', T' = (tEnd U x.id).1 := ⟨_, rfl⟩
  rw [← hz, ← hT'] at HP
  rw [← hz', ← hU'] at HR
  rw [← hT'] at Htd
  rw [← hU'] at Hud
  have HR1 := hid hR1
  have HT1 := hid hT1
  clear h hT1 hR1 ok ok2 hz hT' hz' hU'
  have hkv : x.kind = 3 := hk
  obtain ⟨kd, xt, xu, xi, xn⟩ := x
  dsimp only at *
  subst hkv
  have q0 : (w.alloc (.cells #[.int .i64 3, .string xt, .string xu, .int .i64 xi, .int .i64 xn] 36)).cell? ⟨w.heap.size, 3, none⟩ = some (.int .i64 xi) := (World.cell?_alloc_at _ _ _ _ rfl).trans rfl
  have hlt1 : w.heap.size < (w.alloc (.cells #[.int .i64 3, .string xt, .string xu, .int .i64 xi, .int .i64 xn] 36)).heap.size := by simp
  have np : ¬ (w.heap.size = p ∨ w.heap.size = mb) := by omega
  have nr : ¬ w.heap.size = r := by omega
  have hB1 : B ≤ (w.alloc (.cells #[.int .i64 3, .string xt, .string xu, .int .i64 xi, .int .i64 xn] 36)).heap.size := by simp; omega
  go_enter Try.func14, Try.ntmps14
  go_wp2
  go_region_held3 (fun w9 => w9.cell? ⟨w.heap.size, 3, none⟩ = some (.int .i64 xi)) (first
      | (simp only [World.cell?_drew, q0]; done)
      | (simp only [yB]; done)
      | (simp only [yD]; done)
      | (simp only [yA]; done)
      | (simp only [yC]; done)) (first
      | (go_at_call 15; refine (HP.out _ hTC).mono ?_; rintro e wD ⟨rfl, hTD, hoD⟩; have yD := ((hoD.cells w.heap.size (Nat.lt_of_lt_of_le hlt1 hoC.size) np).1 3).trans yC)
      | (go_at_call 24; refine (HR.out _ hRA (Nat.le_trans hB1 hoA.size)).mono ?_; rintro e wB ⟨rfl, hRB, hoB⟩; have yB := ((hoB.cells w.heap.size (Nat.lt_of_lt_of_le hlt1 hoA.size) nr).1 3).trans yA)
      | (go_at_call 15; refine (HP.out _ (HT1.out.below (below_drewN _ _ 1))).mono ?_; rintro e wA ⟨rfl, hTA, hoA⟩; have yA := ((hoA.cells w.heap.size hlt1 np).1 3).trans q0; have hRA := (HR1.out.below (below_drewN _ _ 1)).outP (HT1.out.below (below_drewN _ _ 1)) hoA)
      | (go_at_call 24; refine (HR.out _ (HR1.out.below (below_drewN _ _ 1)) hB1).mono ?_; rintro e wC ⟨rfl, hRC, hoC⟩; have yC := ((hoC.cells w.heap.size hlt1 nr).1 3).trans q0; have hTC := (HT1.out.below (below_drewN _ _ 1)).outR (HR1.out.below (below_drewN _ _ 1)) hoC))
  all_goals go_wp2
  all_goals go_ret
  all_goals rw [Htd.out, Hud.out]
  all_goals
    first
      | (have o1 : Out (DOut p mb r) w wA := (Out.of_below hb1).trans ((hoA.imp (Q := DOut p mb r) (fun _ _ e => by rcases e with e | e; exact .inl e; exact .inr (.inl e))).undrew) (fun _ _ e => e)
         have o3 := o1.trans (hoB.imp (Q := DOut p mb r) (fun _ _ e => .inr (.inr e))) (fun _ _ e => e)
         obtain ⟨a3, c3, hRB⟩ := hRB
         exact ⟨_, rfl, ⟨(hTA.outR hRA hoB).more (by omega), a3, c3, hRB⟩, o3⟩)
      | (have o1 : Out (DOut p mb r) w wC := (Out.of_below hb1).trans ((hoC.imp (Q := DOut p mb r) (fun _ _ e => .inr (.inr e))).undrew) (fun _ _ e => e)
         have o3 := o1.trans (hoD.imp (Q := DOut p mb r) (fun _ _ e => by rcases e with e | e; exact .inl e; exact .inr (.inl e))) (fun _ _ e => e)
         obtain ⟨a3, c3, hRC⟩ := hRC
         exact ⟨_, rfl, ⟨hTD.more (by omega), a3, c3, hRC.outP hTC hoD⟩, o3⟩)

set_option maxHeartbeats 6400000 in
theorem dob_4 {w : World} {B p mb r n : Nat} {T U : Tab} (h : Two w B p mb r n T U) (ok : TabOk T) (ok2 : TabOk U) (hn : n ≤ 1000) (hl : T.l.length ≤ 1000) (hl2 : U.l.length ≤ 1000) (hB : B ≤ w.heap.size) (x : SDeed) (ht : x.ten.size ≤ maxLen) (hu : x.usr.size ≤ maxLen) (hk : x.kind = 4) :
    Calls Try.prog 14 #[.pointer (some ⟨p, 0, none⟩), .pointer (some ⟨r, 0, none⟩), .agg #[.int .i64 x.kind, .string x.ten, .string x.usr, .int .i64 x.id, .int .i64 x.now]] w fun e w' => ∃ bb, e = .returned (.bool bb) ∧ Two w' B p mb r (n + 1) (tDo T x) (tDo U x) ∧ Out (DOut p mb r) w w' := by
  obtain ⟨lp, lm, lr, nrp, nrm, bp, bm, br⟩ := h.lts
  have hb1 : Below w.heap.size w (w.alloc (.cells #[.int .i64 x.kind, .string x.ten, .string x.usr, .int .i64 x.id, .int .i64 x.now] 36)) := (Below.refl _ w).alloc (Nat.le_refl _) _
  have h1 := h.below hb1
  obtain ⟨hT1, a, cap, hR1⟩ := h1
  have Htd : Hid (tDo T x = ⟨T.next, T.noted, T.l.filter fun s => !ownB x.ten x.usr s⟩) := by show _ = _; unfold tDo; rw [if_neg (by rw [hk]; decide), if_neg (by rw [hk]; decide), if_neg (by rw [hk]; decide), if_neg (by rw [hk]; decide), if_pos hk]
  have Hud : Hid (tDo U x = ⟨U.next, U.noted, U.l.filter fun s => !ownB x.ten x.usr s⟩) := by show _ = _; unfold tDo; rw [if_neg (by rw [hk]; decide), if_neg (by rw [hk]; decide), if_neg (by rw [hk]; decide), if_neg (by rw [hk]; decide), if_pos hk]
  have hwl : (wantedIds T.l (ownB x.ten x.usr)).length = (T.l.filter (ownB x.ten x.usr)).length := by simp [wantedIds]
  have hwl2 : (wantedIds U.l (ownB x.ten x.usr)).length = (U.l.filter (ownB x.ten x.usr)).length := by simp [wantedIds]
  have HP := hid (fun W (hW : TabAt W B p mb n T) => endAll_any hW ok (by omega) x.ten x.usr)
  have HR := hid (fun W (hW : RTab W B r a cap U) (hBW : B ≤ W.heap.size) => rEndAll_any hW ok2 (by omega) hBW x.ten x.usr)
  rw [← hwl] at HP
  have hil : (wantedIds T.l (ownB x.ten x.usr)).length ≤ 1000 := by
    rw [hwl]
    have := List.length_filter_le (ownB x.ten x.usr) T.l
    omega
  have hil2 : (wantedIds U.l (ownB x.ten x.usr)).length ≤ 1000 := by
    rw [hwl2]
    have := List.length_filter_le (ownB x.ten x.usr) U.l
    omega
  clear hwl hwl2
  obtain ⟨T', hT'⟩ : ∃ T', T' = (⟨T.next, T.noted, T.l.filter fun s => !ownB x.ten x.usr s⟩ : Tab) := ⟨_, rfl⟩
  obtain ⟨U', hU'⟩ : ∃ T', T' = (⟨U.next, U.noted, U.l.filter fun s => !ownB x.ten x.usr s⟩ : Tab) := ⟨_, rfl⟩
  rw [← hT'] at HP Htd
  rw [← hU'] at HR Hud
  generalize wantedIds T.l (ownB x.ten x.usr) = zs at *
  generalize wantedIds U.l (ownB x.ten x.usr) = ys at *
  have HR1 := hid hR1
  have HT1 := hid hT1
  clear h hT1 hR1 ok ok2 hT' hU'
  have hkv : x.kind = 4 := hk
  obtain ⟨kd, xt, xu, xi, xn⟩ := x
  dsimp only at *
  subst hkv
  have q0 : (w.alloc (.cells #[.int .i64 4, .string xt, .string xu, .int .i64 xi, .int .i64 xn] 36)).cell? ⟨w.heap.size, 1, none⟩ = some (.string xt) := (World.cell?_alloc_at _ _ _ _ rfl).trans rfl
  have q1 : (w.alloc (.cells #[.int .i64 4, .string xt, .string xu, .int .i64 xi, .int .i64 xn] 36)).cell? ⟨w.heap.size, 2, none⟩ = some (.string xu) := (World.cell?_alloc_at _ _ _ _ rfl).trans rfl
  have hlt1 : w.heap.size < (w.alloc (.cells #[.int .i64 4, .string xt, .string xu, .int .i64 xi, .int .i64 xn] 36)).heap.size := by simp
  have np : ¬ (w.heap.size = p ∨ w.heap.size = mb) := by omega
  have nr : ¬ w.heap.size = r := by omega
  have hB1 : B ≤ (w.alloc (.cells #[.int .i64 4, .string xt, .string xu, .int .i64 xi, .int .i64 xn] 36)).heap.size := by simp; omega
  have lr1 : r < (w.alloc (.cells #[.int .i64 4, .string xt, .string xu, .int .i64 xi, .int .i64 xn] 36)).heap.size := by simp; omega
  have lp1 : p < (w.alloc (.cells #[.int .i64 4, .string xt, .string xu, .int .i64 xi, .int .i64 xn] 36)).heap.size := by simp; omega
  have lm1 : mb < (w.alloc (.cells #[.int .i64 4, .string xt, .string xu, .int .i64 xi, .int .i64 xn] 36)).heap.size := by simp; omega
  go_enter Try.func14, Try.ntmps14
  go_wp2
  go_region_held3 (fun w9 => w9.cell? ⟨w.heap.size, 1, none⟩ = some (.string xt) ∧ w9.cell? ⟨w.heap.size, 2, none⟩ = some (.string xu)) (first
      | (constructor <;> (simp only [World.cell?_drew, q0, q1]; done))
      | (constructor <;> (simp only [yE, yE']; done))
      | (constructor <;> (simp only [yB, yB']; done))
      | (constructor <;> (simp only [yD, yD']; done))
      | (constructor <;> (simp only [yA, yA']; done))
      | (constructor <;> (simp only [yC, yC']; done))) (first
      | (go_at_call 25; refine (sameInts_two hiA hiB _ _ (by omega) (by omega)).mono ?_; rintro e wE ⟨rfl, hbE⟩; have yE := (hbE.cell (p := ⟨w.heap.size, 1, none⟩) hltB).trans yB; have yE' := (hbE.cell (p := ⟨w.heap.size, 2, none⟩) hltB).trans yB')
      | (go_at_call 25; refine (sameInts_two hiD hiC _ _ (by omega) (by omega)).mono ?_; rintro e wE ⟨rfl, hbE⟩; have yE := (hbE.cell (p := ⟨w.heap.size, 1, none⟩) hltD).trans yD; have yE' := (hbE.cell (p := ⟨w.heap.size, 2, none⟩) hltD).trans yD')
      | (go_at_call 26; refine (HP.out _ hTC).mono ?_; rintro e wD ⟨v2, rfl, hrowD, hTD, hoD⟩; have yD := ((hoD.cells w.heap.size (Nat.lt_of_lt_of_le hlt1 hoC.size) np).1 1).trans yC; have yD' := ((hoD.cells w.heap.size (Nat.lt_of_lt_of_le hlt1 hoC.size) np).1 2).trans yC'; have hltD := Nat.lt_of_lt_of_le hlt1 (Nat.le_trans hoC.size hoD.size); have hrowC' := own_out2 hrowC hoD (fun k hk => by rcases hk with e | e; exact e ▸ lp1; exact e ▸ lm1); obtain ⟨aD, cD, rfl, hiD, _⟩ := ints_of_own hrowD; obtain ⟨aC, cC, eC, hiC, _⟩ := ints_of_own hrowC'; cases eC)
      | (go_at_call 27; refine (HR.out _ hRA (Nat.le_trans hB1 hoA.size)).mono ?_; rintro e wB ⟨v2, rfl, hrowB, hRB, hoB⟩; have yB := ((hoB.cells w.heap.size (Nat.lt_of_lt_of_le hlt1 hoA.size) nr).1 1).trans yA; have yB' := ((hoB.cells w.heap.size (Nat.lt_of_lt_of_le hlt1 hoA.size) nr).1 2).trans yA'; have hltB := Nat.lt_of_lt_of_le hlt1 (Nat.le_trans hoA.size hoB.size); have hrowA' := own_out2 hrowA hoB (fun k hk => hk ▸ lr1); obtain ⟨aB, cB, rfl, hiB, _⟩ := ints_of_own hrowB; obtain ⟨aA, cA, eA, hiA, _⟩ := ints_of_own hrowA'; cases eA)
      | (go_at_call 26; refine (HP.out _ (HT1.out.below (below_drewN _ _ 1))).mono ?_; rintro e wA ⟨v1, rfl, hrowA, hTA, hoA⟩; have yA := ((hoA.cells w.heap.size hlt1 np).1 1).trans q0; have yA' := ((hoA.cells w.heap.size hlt1 np).1 2).trans q1; have hRA := (HR1.out.below (below_drewN _ _ 1)).outP (HT1.out.below (below_drewN _ _ 1)) hoA)
      | (go_at_call 27; refine (HR.out _ (HR1.out.below (below_drewN _ _ 1)) hB1).mono ?_; rintro e wC ⟨v1, rfl, hrowC, hRC, hoC⟩; have yC := ((hoC.cells w.heap.size hlt1 nr).1 1).trans q0; have yC' := ((hoC.cells w.heap.size hlt1 nr).1 2).trans q1; have hTC := (HT1.out.below (below_drewN _ _ 1)).outR (HR1.out.below (below_drewN _ _ 1)) hoC))
  all_goals go_wp2
  all_goals go_ret
  all_goals rw [Htd.out, Hud.out]
  all_goals
    first
      | (have o1 : Out (DOut p mb r) w wA := (Out.of_below hb1).trans ((hoA.imp (Q := DOut p mb r) (fun _ _ e => by rcases e with e | e; exact .inl e; exact .inr (.inl e))).undrew) (fun _ _ e => e)
         have o3 := o1.trans (hoB.imp (Q := DOut p mb r) (fun _ _ e => .inr (.inr e))) (fun _ _ e => e)
         obtain ⟨a3, c3, hRB⟩ := hRB
         exact ⟨_, rfl, ⟨((hTA.outR hRA hoB).below hbE).more (by omega), a3, c3, hRB.below hbE⟩, o3.trans (Out.of_below (P := DOut p mb r) hbE) (fun _ _ e => e)⟩)
      | (have o1 : Out (DOut p mb r) w wC := (Out.of_below hb1).trans ((hoC.imp (Q := DOut p mb r) (fun _ _ e => .inr (.inr e))).undrew) (fun _ _ e => e)
         have o3 := o1.trans (hoD.imp (Q := DOut p mb r) (fun _ _ e => by rcases e with e | e; exact .inl e; exact .inr (.inl e))) (fun _ _ e => e)
         obtain ⟨a3, c3, hRC⟩ := hRC
         exact ⟨_, rfl, ⟨(hTD.below hbE).more (by omega), a3, c3, (hRC.outP hTC hoD).below hbE⟩, o3.trans (Out.of_below (P := DOut p mb r) hbE) (fun _ _ e => e)⟩)

set_option maxHeartbeats 6400000 in
theorem dob_5 {w : World} {B p mb r n : Nat} {T U : Tab} (h : Two w B p mb r n T U) (ok : TabOk T) (ok2 : TabOk U) (hn : n ≤ 1000) (hl : T.l.length ≤ 1000) (hl2 : U.l.length ≤ 1000) (hB : B ≤ w.heap.size) (x : SDeed) (ht : x.ten.size ≤ maxLen) (hu : x.usr.size ≤ maxLen) (hk : x.kind = 5) :
    Calls Try.prog 14 #[.pointer (some ⟨p, 0, none⟩), .pointer (some ⟨r, 0, none⟩), .agg #[.int .i64 x.kind, .string x.ten, .string x.usr, .int .i64 x.id, .int .i64 x.now]] w fun e w' => ∃ bb, e = .returned (.bool bb) ∧ Two w' B p mb r (n + 1) (tDo T x) (tDo U x) ∧ Out (DOut p mb r) w w' := by
  obtain ⟨lp, lm, lr, nrp, nrm, bp, bm, br⟩ := h.lts
  have hb1 : Below w.heap.size w (w.alloc (.cells #[.int .i64 x.kind, .string x.ten, .string x.usr, .int .i64 x.id, .int .i64 x.now] 36)) := (Below.refl _ w).alloc (Nat.le_refl _) _
  have h1 := h.below hb1
  obtain ⟨hT1, a, cap, hR1⟩ := h1
  have Htd : Hid (tDo T x = tSweep T x.now) := by show _ = _; unfold tDo; rw [if_neg (by rw [hk]; decide), if_neg (by rw [hk]; decide), if_neg (by rw [hk]; decide), if_neg (by rw [hk]; decide), if_neg (by rw [hk]; decide), if_pos hk]
  have Hud : Hid (tDo U x = tSweep U x.now) := by show _ = _; unfold tDo; rw [if_neg (by rw [hk]; decide), if_neg (by rw [hk]; decide), if_neg (by rw [hk]; decide), if_neg (by rw [hk]; decide), if_neg (by rw [hk]; decide), if_pos hk]
  have HP := sweep_any hT1 ok (by omega) x.now
  have HR := hid (fun W (hW : RTab W B r a cap U) (hBW : B ≤ W.heap.size) => rSweep_any hW ok2 (by omega) hBW x.now)
  have hil : (sweepIds T x.now).length ≤ 1000 := by
    unfold sweepIds
    split
    · simp
    · unfold wantedIds
      rw [List.length_map]
      have := List.length_filter_le (fun s : Sess => overB s x.now) T.l
      omega
  have hil2 : (sweepIds U x.now).length ≤ 1000 := by
    unfold sweepIds
    split
    · simp
    · unfold wantedIds
      rw [List.length_map]
      have := List.length_filter_le (fun s : Sess => overB s x.now) U.l
      omega
  generalize sweepIds T x.now = zs at *
  generalize timeErr x.now T.noted = z at *
  generalize sweepIds U x.now = ys at *
  generalize timeErr x.now U.noted = z' at *
  have HR1 := hid hR1
  have HT1 := hid hT1
  clear h hT1 hR1 ok ok2
  have hkv : x.kind = 5 := hk
  obtain ⟨kd, xt, xu, xi, xn⟩ := x
  dsimp only at *
  subst hkv
  cases hlk : likeB eqI zs ys
  all_goals
    go_enter Try.func14, Try.ntmps14
    go_wp2_with (first
      | (go_at_call 28; refine HP.mono ?_; rintro e w2 ⟨v1, rfl, hrow1, hT2, ho2⟩; obtain ⟨a1, c1, rfl, _, _⟩ := ints_of_own hrow1; have z2 : w.heap.size < w2.heap.size := (by have := ho2.size; simp at this; omega); have hR2 := hid (HR1.out.outP HT1.out ho2); have y4 : w2.cell? ⟨w.heap.size, 4, none⟩ = some (.int .i64 xn) := ((ho2.cells w.heap.size (by simp) (by omega)).1 4).trans ((World.cell?_alloc_at _ _ _ _ rfl).trans rfl))
      | (go_at_call 29; refine (HR.out _ hR2.out (by omega)).mono ?_; rintro e w3 ⟨v2, rfl, hrow2, hR3, ho3⟩; have hrow1' := hrow1.kept (grown_of_out ho3) (.inr (Ne.symm (row_ne_low hrow1 (by simp; omega)))); obtain ⟨a2, c2, rfl, hi2, _⟩ := ints_of_own hrow2; obtain ⟨a1', c1', e1, hi1, _⟩ := ints_of_own hrow1'; cases e1)
      | (go_at_call 25; refine (sameInts_two hi1 hi2 _ _ (by omega) (by omega)).mono ?_; rintro e w4 ⟨he4, hb4⟩; rw [hlk] at he4; subst he4))
    go_ret
    rw [Htd.out, Hud.out]
    have hT3 := hT2.outR hR2.out ho3
    obtain ⟨a3, c3, hR3⟩ := hR3
    refine ⟨_, rfl, ⟨(hT3.below hb4).more (by omega), a3, c3, hR3.below hb4⟩, ?_⟩
    have o1 : Out (DOut p mb r) w w2 := (Out.of_below hb1).trans (ho2.imp (Q := DOut p mb r) (fun _ _ e => by rcases e with e | e; exact .inl e; exact .inr (.inl e))) (fun _ _ e => e)
    have o3 := o1.trans (ho3.imp (Q := DOut p mb r) (fun _ _ e => .inr (.inr e))) (fun _ _ e => e)
    exact o3.trans (Out.of_below (P := DOut p mb r) hb4) (fun _ _ e => e)

set_option maxHeartbeats 6400000 in
theorem dob_6 {w : World} {B p mb r n : Nat} {T U : Tab} (h : Two w B p mb r n T U) (ok : TabOk T) (ok2 : TabOk U) (hn : n ≤ 1000) (hl : T.l.length ≤ 1000) (hl2 : U.l.length ≤ 1000) (hB : B ≤ w.heap.size) (x : SDeed) (ht : x.ten.size ≤ maxLen) (hu : x.usr.size ≤ maxLen) (hk : x.kind ≠ 0 ∧ x.kind ≠ 1 ∧ x.kind ≠ 2 ∧ x.kind ≠ 3 ∧ x.kind ≠ 4 ∧ x.kind ≠ 5) :
    Calls Try.prog 14 #[.pointer (some ⟨p, 0, none⟩), .pointer (some ⟨r, 0, none⟩), .agg #[.int .i64 x.kind, .string x.ten, .string x.usr, .int .i64 x.id, .int .i64 x.now]] w fun e w' => ∃ bb, e = .returned (.bool bb) ∧ Two w' B p mb r (n + 1) (tDo T x) (tDo U x) ∧ Out (DOut p mb r) w w' := by
  obtain ⟨lp, lm, lr, nrp, nrm, bp, bm, br⟩ := h.lts
  have hb1 : Below w.heap.size w (w.alloc (.cells #[.int .i64 x.kind, .string x.ten, .string x.usr, .int .i64 x.id, .int .i64 x.now] 36)) := (Below.refl _ w).alloc (Nat.le_refl _) _
  have h1 := h.below hb1
  obtain ⟨hT1, a, cap, hR1⟩ := h1
  obtain ⟨k0, k1, k2, k3, k4, k5⟩ := hk
  have Htd : Hid (tDo T x = T) := by show _ = _; unfold tDo; rw [if_neg k0, if_neg k1, if_neg k2, if_neg k3, if_neg k4, if_neg k5]
  have Hud : Hid (tDo U x = U) := by show _ = _; unfold tDo; rw [if_neg k0, if_neg k1, if_neg k2, if_neg k3, if_neg k4, if_neg k5]
  have HP := tabLive_any hT1 ok (by omega) x.ten x.usr x.now
  have HR := hid (fun W (hW : RTab W B r a cap U) => rLive_any hW ok2 (by omega) x.ten x.usr x.now)
  have hil : (tLive T x.ten x.usr x.now).length ≤ 1000 := by
    unfold tLive
    split
    · simp
    · have := List.length_filter_le (liveB x.ten x.usr x.now) T.l
      omega
  have hil2 : (tLive U x.ten x.usr x.now).length ≤ 1000 := by
    unfold tLive
    split
    · simp
    · have := List.length_filter_le (liveB x.ten x.usr x.now) U.l
      omega
  generalize tLive T x.ten x.usr x.now = ls at *
  generalize timeErr x.now T.noted = z at *
  generalize tLive U x.ten x.usr x.now = ms at *
  generalize timeErr x.now U.noted = z' at *
  have HR1 := hid hR1
  have HT1 := hid hT1
  clear h hT1 hR1 ok ok2
  obtain ⟨kd, xt, xu, xi, xn⟩ := x
  dsimp only at *
  have b0 : (kd == 0) = false := by simpa using k0
  have b1 : (kd == 1) = false := by simpa using k1
  have b2 : (kd == 2) = false := by simpa using k2
  have b3 : (kd == 3) = false := by simpa using k3
  have b4 : (kd == 4) = false := by simpa using k4
  have b5 : (kd == 5) = false := by simpa using k5
  have g1 : decide ((ls.length : Int) ≤ 1048576) = true := by simp; omega
  clear k0 k1 k2 k3 k4 k5
  cases hlk : likeB eqS ls ms
  all_goals cases hzz : (z == z')
  all_goals
    go_enter Try.func14, Try.ntmps14
    go_wp2_with (first
      | (go_at_call 18; refine HP.mono ?_; rintro e w2 ⟨v1, rfl, hrow1, hb2⟩; obtain ⟨a1, c1, rfl, hi1, _⟩ := sess_of_own hrow1; have z2 : w.heap.size < w2.heap.size := (by have := hb2.size; simp at this; omega); have y1 : w2.cell? ⟨w.heap.size, 1, none⟩ = some (.string xt) := (hb2.cell (p := ⟨w.heap.size, 1, none⟩) (by simp)).trans ((World.cell?_alloc_at _ _ _ _ rfl).trans rfl); have y2 : w2.cell? ⟨w.heap.size, 2, none⟩ = some (.string xu) := (hb2.cell (p := ⟨w.heap.size, 2, none⟩) (by simp)).trans ((World.cell?_alloc_at _ _ _ _ rfl).trans rfl); have y4 : w2.cell? ⟨w.heap.size, 4, none⟩ = some (.int .i64 xn) := (hb2.cell (p := ⟨w.heap.size, 4, none⟩) (by simp)).trans ((World.cell?_alloc_at _ _ _ _ rfl).trans rfl))
      | (go_at_call 30; refine (HR.out _ (HR1.out.below hb2)).mono ?_; rintro e w3 ⟨v2, rfl, hrow2, hb3⟩; obtain ⟨a2, c2, rfl, hi2, _⟩ := sess_of_own hrow2)
      | (go_at_call 31; refine (sameSess_two (hi1.below hb3) hi2 _ _ (by omega) (by omega)).mono ?_; rintro e w4 ⟨he4, hb4⟩; rw [hlk] at he4; subst he4))
    go_ret
    rw [Htd.out, Hud.out]
    have hb14 := Below.on' (Below.on' hb2 hb3) hb4
    refine ⟨_, rfl, ⟨(HT1.out.below hb14).more (by omega), a, cap, HR1.out.below hb14⟩, ?_⟩
    exact Out.of_below (hb1.trans (hb14.mono (by simp)))

theorem dob_any {w : World} {B p mb r n : Nat} {T U : Tab} (h : Two w B p mb r n T U) (ok : TabOk T) (ok2 : TabOk U) (hn : n ≤ 1000) (hl : T.l.length ≤ 1000) (hl2 : U.l.length ≤ 1000) (hB : B ≤ w.heap.size) (x : SDeed) (ht : x.ten.size ≤ maxLen) (hu : x.usr.size ≤ maxLen)  :
    Calls Try.prog 14 #[.pointer (some ⟨p, 0, none⟩), .pointer (some ⟨r, 0, none⟩), .agg #[.int .i64 x.kind, .string x.ten, .string x.usr, .int .i64 x.id, .int .i64 x.now]] w fun e w' => ∃ bb, e = .returned (.bool bb) ∧ Two w' B p mb r (n + 1) (tDo T x) (tDo U x) ∧ Out (DOut p mb r) w w' := by
  by_cases k0 : x.kind = 0
  · exact dob_0 h ok ok2 hn hl hl2 hB x ht hu k0
  by_cases k1 : x.kind = 1
  · exact dob_1 h ok ok2 hn hl hl2 hB x ht hu k1
  by_cases k2 : x.kind = 2
  · exact dob_2 h ok ok2 hn hl hl2 hB x ht hu k2
  by_cases k3 : x.kind = 3
  · exact dob_3 h ok ok2 hn hl hl2 hB x ht hu k3
  by_cases k4 : x.kind = 4
  · exact dob_4 h ok ok2 hn hl hl2 hB x ht hu k4
  by_cases k5 : x.kind = 5
  · exact dob_5 h ok ok2 hn hl hl2 hB x ht hu k5
  exact dob_6 h ok ok2 hn hl hl2 hB x ht hu ⟨k0, k1, k2, k3, k4, k5⟩
end Go.Proofs.Ytedoaahimpnmnaa
