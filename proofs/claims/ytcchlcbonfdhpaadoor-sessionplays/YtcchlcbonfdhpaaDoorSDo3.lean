/- do of the laws on sessions, kinds 3 and 4; all kinds together. (Printed by gen/sdo3.py.) -/
import Derived.Test.YtcchlcbonfdhpaaDoorSDo2
namespace Go.Proofs.YtcchlcbonfdhpaaDoor
open Go.RowKit Go.Maps Go.Sort Go.Shelf
set_option linter.unusedVariables false
set_option maxRecDepth 20000

theorem own_out2 {w w' : World} {P : Nat → Prop} {B : Nat} {e : TypeId} {size : Nat} {v : Value} {n : Nat} {xs : List Value} (h : w.ownsRow B e size v n xs) (ho : Out P w w') (hp : ∀ k, P k → k < B) : w'.ownsRow B e size v n xs := by
  refine ⟨h.1, ?_⟩
  rcases h.2 with h0 | ⟨g, cap, cur, ev, hg, hb, rest⟩
  · exact .inl h0
  · refine .inr ⟨g, cap, cur, ev, hg, ?_, rest⟩
    exact (ho.block g (Array.getElem?_eq_some_iff.1 hb).1 (fun e => by have := hp g e; omega)).trans hb

set_option maxHeartbeats 6400000 in
theorem do_3 {w : World} {B p mb r n : Nat} {T : Tab} (h : Both w B p mb r n T) (ok : TabOk T) (hn : n ≤ 1000) (hl : T.l.length ≤ 1000) (hB : B ≤ w.heap.size) (x : SDeed) (ht : x.ten.size ≤ maxLen) (hu : x.usr.size ≤ maxLen) (hk : x.kind = 3) :
    Calls Tryd.prog 9 #[.pointer (some ⟨p, 0, none⟩), .pointer (some ⟨r, 0, none⟩), .agg #[.int .i64 x.kind, .string x.ten, .string x.usr, .int .i64 x.id, .int .i64 x.now]] w fun e w' => e = .returned (.bool true) ∧ Both w' B p mb r (n + 1) (tDo T x) ∧ Out (DOut p mb r) w w' := by
  obtain ⟨lp, lm, lr, nrp, nrm, bp, bm, br⟩ := h.lts
  have hb1 : Below w.heap.size w (w.alloc (.cells #[.int .i64 x.kind, .string x.ten, .string x.usr, .int .i64 x.id, .int .i64 x.now] 32)) := (Below.refl _ w).alloc (Nat.le_refl _) _
  have h1 := h.below hb1
  obtain ⟨hT1, a, cap, hR1⟩ := h1
  have Htd : Hid (tDo T x = (tEnd T x.id).1) := by show _ = _; unfold tDo; rw [if_neg (by rw [hk]; decide), if_neg (by rw [hk]; decide), if_neg (by rw [hk]; decide), if_pos hk]
  have HP := hid (fun W (hW : TabAt W B p mb n T) => end_any hW ok x.id)
  have HR := hid (fun W (hW : RTab W B r a cap T) (hBW : B ≤ W.heap.size) => rEnd_any hW ok (by omega) hBW x.id)
  obtain ⟨z, hz⟩ : ∃ z, z = (tEnd T x.id).2 := ⟨_, rfl⟩
  obtain ⟨T', hT'⟩ : ∃ T', T' = (tEnd T x.id).1 := ⟨_, rfl⟩
  rw [← hz, ← hT'] at HP HR
  rw [← hT'] at Htd
  have HR1 := hid hR1
  have HT1 := hid hT1
  clear h hT1 hR1 ok hz hT'
  have hkv : x.kind = 3 := hk
  obtain ⟨kd, xt, xu, xi, xn⟩ := x
  dsimp only at *
  subst hkv
  have q0 : (w.alloc (.cells #[.int .i64 3, .string xt, .string xu, .int .i64 xi, .int .i64 xn] 32)).cell? ⟨w.heap.size, 3, none⟩ = some (.int .i64 xi) := (World.cell?_alloc_at _ _ _ _ rfl).trans rfl
  have hlt1 : w.heap.size < (w.alloc (.cells #[.int .i64 3, .string xt, .string xu, .int .i64 xi, .int .i64 xn] 32)).heap.size := by simp
  have np : ¬ (w.heap.size = p ∨ w.heap.size = mb) := by omega
  have nr : ¬ w.heap.size = r := by omega
  have hB1 : B ≤ (w.alloc (.cells #[.int .i64 3, .string xt, .string xu, .int .i64 xi, .int .i64 xn] 32)).heap.size := by simp; omega
  go_enter Tryd.func9, Tryd.ntmps9
  go_wp2
  go_region_held3 (fun w9 => w9.cell? ⟨w.heap.size, 3, none⟩ = some (.int .i64 xi)) (first
      | (simp only [World.cell?_drew, q0]; done)
      | (simp only [yB]; done)
      | (simp only [yD]; done)
      | (simp only [yA]; done)
      | (simp only [yC]; done)) (first
      | (go_at_call 22; refine (HP.out _ hTC).mono ?_; rintro e wD ⟨rfl, hTD, hoD⟩; have yD := ((hoD.cells w.heap.size (Nat.lt_of_lt_of_le hlt1 hoC.size) np).1 3).trans yC)
      | (go_at_call 23; refine (HR.out _ hRA (Nat.le_trans hB1 hoA.size)).mono ?_; rintro e wB ⟨rfl, hRB, hoB⟩; have yB := ((hoB.cells w.heap.size (Nat.lt_of_lt_of_le hlt1 hoA.size) nr).1 3).trans yA)
      | (go_at_call 22; refine (HP.out _ (HT1.out.below (below_drewN _ _ 1))).mono ?_; rintro e wA ⟨rfl, hTA, hoA⟩; have yA := ((hoA.cells w.heap.size hlt1 np).1 3).trans q0; have hRA := (HR1.out.below (below_drewN _ _ 1)).outP (HT1.out.below (below_drewN _ _ 1)) hoA)
      | (go_at_call 23; refine (HR.out _ (HR1.out.below (below_drewN _ _ 1)) hB1).mono ?_; rintro e wC ⟨rfl, hRC, hoC⟩; have yC := ((hoC.cells w.heap.size hlt1 nr).1 3).trans q0; have hTC := (HT1.out.below (below_drewN _ _ 1)).outR (HR1.out.below (below_drewN _ _ 1)) hoC))
  all_goals go_wp2
  all_goals go_ret
  all_goals rw [Htd.out]
  all_goals
    first
      | (have o1 : Out (DOut p mb r) w wA := (Out.of_below hb1).trans ((hoA.imp (Q := DOut p mb r) (fun _ _ e => by rcases e with e | e; exact .inl e; exact .inr (.inl e))).undrew) (fun _ _ e => e)
         have o3 := o1.trans (hoB.imp (Q := DOut p mb r) (fun _ _ e => .inr (.inr e))) (fun _ _ e => e)
         obtain ⟨a3, c3, hRB⟩ := hRB
         exact ⟨rfl, ⟨(hTA.outR hRA hoB).more (by omega), a3, c3, hRB⟩, o3⟩)
      | (have o1 : Out (DOut p mb r) w wC := (Out.of_below hb1).trans ((hoC.imp (Q := DOut p mb r) (fun _ _ e => .inr (.inr e))).undrew) (fun _ _ e => e)
         have o3 := o1.trans (hoD.imp (Q := DOut p mb r) (fun _ _ e => by rcases e with e | e; exact .inl e; exact .inr (.inl e))) (fun _ _ e => e)
         obtain ⟨a3, c3, hRC⟩ := hRC
         exact ⟨rfl, ⟨hTD.more (by omega), a3, c3, hRC.outP hTC hoD⟩, o3⟩)

set_option maxHeartbeats 6400000 in
theorem do_4 {w : World} {B p mb r n : Nat} {T : Tab} (h : Both w B p mb r n T) (ok : TabOk T) (hn : n ≤ 1000) (hl : T.l.length ≤ 1000) (hB : B ≤ w.heap.size) (x : SDeed) (ht : x.ten.size ≤ maxLen) (hu : x.usr.size ≤ maxLen) (hk : x.kind = 4) :
    Calls Tryd.prog 9 #[.pointer (some ⟨p, 0, none⟩), .pointer (some ⟨r, 0, none⟩), .agg #[.int .i64 x.kind, .string x.ten, .string x.usr, .int .i64 x.id, .int .i64 x.now]] w fun e w' => e = .returned (.bool true) ∧ Both w' B p mb r (n + 1) (tDo T x) ∧ Out (DOut p mb r) w w' := by
  obtain ⟨lp, lm, lr, nrp, nrm, bp, bm, br⟩ := h.lts
  have hb1 : Below w.heap.size w (w.alloc (.cells #[.int .i64 x.kind, .string x.ten, .string x.usr, .int .i64 x.id, .int .i64 x.now] 32)) := (Below.refl _ w).alloc (Nat.le_refl _) _
  have h1 := h.below hb1
  obtain ⟨hT1, a, cap, hR1⟩ := h1
  have Htd : Hid (tDo T x = ⟨T.next, T.noted, T.l.filter fun s => !ownB x.ten x.usr s⟩) := by show _ = _; unfold tDo; rw [if_neg (by rw [hk]; decide), if_neg (by rw [hk]; decide), if_neg (by rw [hk]; decide), if_neg (by rw [hk]; decide), if_pos hk]
  have hwl : (wantedIds T.l (ownB x.ten x.usr)).length = (T.l.filter (ownB x.ten x.usr)).length := by simp [wantedIds]
  have HP := hid (fun W (hW : TabAt W B p mb n T) => endAll_any hW ok (by omega) x.ten x.usr)
  have HR := hid (fun W (hW : RTab W B r a cap T) (hBW : B ≤ W.heap.size) => rEndAll_any hW ok (by omega) hBW x.ten x.usr)
  rw [← hwl] at HP
  have hil : (wantedIds T.l (ownB x.ten x.usr)).length ≤ 1000 := by
    rw [hwl]
    have := List.length_filter_le (ownB x.ten x.usr) T.l
    omega
  clear hwl
  obtain ⟨T', hT'⟩ : ∃ T', T' = (⟨T.next, T.noted, T.l.filter fun s => !ownB x.ten x.usr s⟩ : Tab) := ⟨_, rfl⟩
  rw [← hT'] at HP HR Htd
  generalize wantedIds T.l (ownB x.ten x.usr) = zs at *
  have HR1 := hid hR1
  have HT1 := hid hT1
  clear h hT1 hR1 ok hT'
  have hkv : x.kind = 4 := hk
  obtain ⟨kd, xt, xu, xi, xn⟩ := x
  dsimp only at *
  subst hkv
  have q0 : (w.alloc (.cells #[.int .i64 4, .string xt, .string xu, .int .i64 xi, .int .i64 xn] 32)).cell? ⟨w.heap.size, 1, none⟩ = some (.string xt) := (World.cell?_alloc_at _ _ _ _ rfl).trans rfl
  have q1 : (w.alloc (.cells #[.int .i64 4, .string xt, .string xu, .int .i64 xi, .int .i64 xn] 32)).cell? ⟨w.heap.size, 2, none⟩ = some (.string xu) := (World.cell?_alloc_at _ _ _ _ rfl).trans rfl
  have hlt1 : w.heap.size < (w.alloc (.cells #[.int .i64 4, .string xt, .string xu, .int .i64 xi, .int .i64 xn] 32)).heap.size := by simp
  have np : ¬ (w.heap.size = p ∨ w.heap.size = mb) := by omega
  have nr : ¬ w.heap.size = r := by omega
  have hB1 : B ≤ (w.alloc (.cells #[.int .i64 4, .string xt, .string xu, .int .i64 xi, .int .i64 xn] 32)).heap.size := by simp; omega
  have lr1 : r < (w.alloc (.cells #[.int .i64 4, .string xt, .string xu, .int .i64 xi, .int .i64 xn] 32)).heap.size := by simp; omega
  have lp1 : p < (w.alloc (.cells #[.int .i64 4, .string xt, .string xu, .int .i64 xi, .int .i64 xn] 32)).heap.size := by simp; omega
  have lm1 : mb < (w.alloc (.cells #[.int .i64 4, .string xt, .string xu, .int .i64 xi, .int .i64 xn] 32)).heap.size := by simp; omega
  go_enter Tryd.func9, Tryd.ntmps9
  go_wp2
  go_region_held3 (fun w9 => w9.cell? ⟨w.heap.size, 1, none⟩ = some (.string xt) ∧ w9.cell? ⟨w.heap.size, 2, none⟩ = some (.string xu)) (first
      | (constructor <;> (simp only [World.cell?_drew, q0, q1]; done))
      | (constructor <;> (simp only [yE, yE']; done))
      | (constructor <;> (simp only [yB, yB']; done))
      | (constructor <;> (simp only [yD, yD']; done))
      | (constructor <;> (simp only [yA, yA']; done))
      | (constructor <;> (simp only [yC, yC']; done))) (first
      | (go_at_call 24; refine (sameInts_any hiA hiB _ _ (by omega)).mono ?_; rintro e wE ⟨rfl, hbE⟩; have yE := (hbE.cell (p := ⟨w.heap.size, 1, none⟩) hltB).trans yB; have yE' := (hbE.cell (p := ⟨w.heap.size, 2, none⟩) hltB).trans yB')
      | (go_at_call 24; refine (sameInts_any hiD hiC _ _ (by omega)).mono ?_; rintro e wE ⟨rfl, hbE⟩; have yE := (hbE.cell (p := ⟨w.heap.size, 1, none⟩) hltD).trans yD; have yE' := (hbE.cell (p := ⟨w.heap.size, 2, none⟩) hltD).trans yD')
      | (go_at_call 25; refine (HP.out _ hTC).mono ?_; rintro e wD ⟨v2, rfl, hrowD, hTD, hoD⟩; have yD := ((hoD.cells w.heap.size (Nat.lt_of_lt_of_le hlt1 hoC.size) np).1 1).trans yC; have yD' := ((hoD.cells w.heap.size (Nat.lt_of_lt_of_le hlt1 hoC.size) np).1 2).trans yC'; have hltD := Nat.lt_of_lt_of_le hlt1 (Nat.le_trans hoC.size hoD.size); have hrowC' := own_out2 hrowC hoD (fun k hk => by rcases hk with e | e; exact e ▸ lp1; exact e ▸ lm1); obtain ⟨aD, cD, rfl, hiD, _⟩ := ints_of_own hrowD; obtain ⟨aC, cC, eC, hiC, _⟩ := ints_of_own hrowC'; cases eC)
      | (go_at_call 26; refine (HR.out _ hRA (Nat.le_trans hB1 hoA.size)).mono ?_; rintro e wB ⟨v2, rfl, hrowB, hRB, hoB⟩; have yB := ((hoB.cells w.heap.size (Nat.lt_of_lt_of_le hlt1 hoA.size) nr).1 1).trans yA; have yB' := ((hoB.cells w.heap.size (Nat.lt_of_lt_of_le hlt1 hoA.size) nr).1 2).trans yA'; have hltB := Nat.lt_of_lt_of_le hlt1 (Nat.le_trans hoA.size hoB.size); have hrowA' := own_out2 hrowA hoB (fun k hk => hk ▸ lr1); obtain ⟨aB, cB, rfl, hiB, _⟩ := ints_of_own hrowB; obtain ⟨aA, cA, eA, hiA, _⟩ := ints_of_own hrowA'; cases eA)
      | (go_at_call 25; refine (HP.out _ (HT1.out.below (below_drewN _ _ 1))).mono ?_; rintro e wA ⟨v1, rfl, hrowA, hTA, hoA⟩; have yA := ((hoA.cells w.heap.size hlt1 np).1 1).trans q0; have yA' := ((hoA.cells w.heap.size hlt1 np).1 2).trans q1; have hRA := (HR1.out.below (below_drewN _ _ 1)).outP (HT1.out.below (below_drewN _ _ 1)) hoA)
      | (go_at_call 26; refine (HR.out _ (HR1.out.below (below_drewN _ _ 1)) hB1).mono ?_; rintro e wC ⟨v1, rfl, hrowC, hRC, hoC⟩; have yC := ((hoC.cells w.heap.size hlt1 nr).1 1).trans q0; have yC' := ((hoC.cells w.heap.size hlt1 nr).1 2).trans q1; have hTC := (HT1.out.below (below_drewN _ _ 1)).outR (HR1.out.below (below_drewN _ _ 1)) hoC))
  all_goals go_wp2
  all_goals go_ret
  all_goals rw [Htd.out]
  all_goals
    first
      | (have o1 : Out (DOut p mb r) w wA := (Out.of_below hb1).trans ((hoA.imp (Q := DOut p mb r) (fun _ _ e => by rcases e with e | e; exact .inl e; exact .inr (.inl e))).undrew) (fun _ _ e => e)
         have o3 := o1.trans (hoB.imp (Q := DOut p mb r) (fun _ _ e => .inr (.inr e))) (fun _ _ e => e)
         obtain ⟨a3, c3, hRB⟩ := hRB
         exact ⟨rfl, ⟨((hTA.outR hRA hoB).below hbE).more (by omega), a3, c3, hRB.below hbE⟩, o3.trans (Out.of_below (P := DOut p mb r) hbE) (fun _ _ e => e)⟩)
      | (have o1 : Out (DOut p mb r) w wC := (Out.of_below hb1).trans ((hoC.imp (Q := DOut p mb r) (fun _ _ e => .inr (.inr e))).undrew) (fun _ _ e => e)
         have o3 := o1.trans (hoD.imp (Q := DOut p mb r) (fun _ _ e => by rcases e with e | e; exact .inl e; exact .inr (.inl e))) (fun _ _ e => e)
         obtain ⟨a3, c3, hRC⟩ := hRC
         exact ⟨rfl, ⟨(hTD.below hbE).more (by omega), a3, c3, (hRC.outP hTC hoD).below hbE⟩, o3.trans (Out.of_below (P := DOut p mb r) hbE) (fun _ _ e => e)⟩)

theorem do_any {w : World} {B p mb r n : Nat} {T : Tab} (h : Both w B p mb r n T) (ok : TabOk T) (hn : n ≤ 1000) (hl : T.l.length ≤ 1000) (hB : B ≤ w.heap.size) (x : SDeed) (ht : x.ten.size ≤ maxLen) (hu : x.usr.size ≤ maxLen)  :
    Calls Tryd.prog 9 #[.pointer (some ⟨p, 0, none⟩), .pointer (some ⟨r, 0, none⟩), .agg #[.int .i64 x.kind, .string x.ten, .string x.usr, .int .i64 x.id, .int .i64 x.now]] w fun e w' => e = .returned (.bool true) ∧ Both w' B p mb r (n + 1) (tDo T x) ∧ Out (DOut p mb r) w w' := by
  by_cases k0 : x.kind = 0
  · exact do_0 h ok hn hl hB x ht hu k0
  by_cases k1 : x.kind = 1
  · exact do_1 h ok hn hl hB x ht hu k1
  by_cases k2 : x.kind = 2
  · exact do_2 h ok hn hl hB x ht hu k2
  by_cases k3 : x.kind = 3
  · exact do_3 h ok hn hl hB x ht hu k3
  by_cases k4 : x.kind = 4
  · exact do_4 h ok hn hl hB x ht hu k4
  by_cases k5 : x.kind = 5
  · exact do_5 h ok hn hl hB x ht hu k5
  exact do_6 h ok hn hl hB x ht hu ⟨k0, k1, k2, k3, k4, k5⟩
end Go.Proofs.YtcchlcbonfdhpaaDoor
