/- SessionNumbers: numbers are given one after another, and at the greatest time no session lives. -/
import Derived.Test.YtedoaahimpnmnaaSDoB2
import Derived.Test.YtedoaahimpnmnaaSFew
namespace Go.Proofs.Ytedoaahimpnmnaa
open Go.RowKit Go.Maps Go.Sort Go.Shelf
set_option linter.unusedVariables false
set_option maxRecDepth 20000

theorem tDo_next {T : Tab} {x : SDeed} (h : x.kind ≠ 0) : (tDo T x).next = T.next := by
  unfold tDo
  rw [if_neg h]
  split
  · unfold tTouch
    split <;> rfl
  · split
    · rfl
    · split
      · unfold tEnd
        split
        · rfl
        · split <;> rfl
      · split
        · rfl
        · split
          · unfold tSweep
            split <;> rfl
          · rfl
theorem live_end {T : Tab} (ok : TabOk T) (t u : ByteArray) : (tLive T t u 1099511627776).length = 0 := by
  have hn := ok.nt
  unfold tLive
  rw [if_neg (by simp [timeErr]; omega)]
  rw [List.length_eq_zero_iff, List.filter_eq_nil_iff]
  intro s hs
  unfold liveB overB untilOf
  simp
  intro _
  omega

/-- a step of the program's table alone -/
theorem two_step {V wr v wF : World} {p mb r n n' : Nat} {T T' U : Tab} (h : Two wr V.heap.size p mb r n T U) (hV : Below V.heap.size V wr) (hT : TabAt v V.heap.size p mb n' T') (ho : Out (fun k => k = p ∨ k = mb) wr v) (hF : Below wr.heap.size v wF) : Two wF V.heap.size p mb r n' T' U ∧ Below V.heap.size V wF := by
  have hl := h.lts
  obtain ⟨h1, a, cap, h2⟩ := h
  have h3 := h2.outP h1 ho
  exact ⟨⟨hT.keep (hF.block p hl.1) (hF.block mb hl.2.1), a, cap, h3.keep fun k hk => hF.block k (h2.lts k hk).2⟩, (hV.trans (ho.below hV.size (fun k hk => by rcases hk with e | e <;> omega))).trans (hF.mono hV.size)⟩

/-- what a round of SessionNumbers finds -/
def NRel (V : World) (p mb r : Nat) (k : Nat) (m : Int) (wr : World) : Prop := ∃ T U n, Two wr V.heap.size p mb r n T U ∧ TabOk T ∧ TabOk U ∧ m + 1 = T.next ∧ n ≤ k ∧ T.l.length ≤ k ∧ U.l.length ≤ k ∧ Below V.heap.size V wr

set_option maxHeartbeats 6400000 in
theorem sessionNumbers_walk {w : World} (l : List SDeed) (a : Option Addr) (cap : Nat) (hl : DIn w a l) (t u : ByteArray) (ht : t.size ≤ maxLen) (hu : u.size ≤ maxLen) :
    Calls Try.prog 8 #[.slice a l.length cap, .agg #[.string t, .string u]] w fun e w' => e = .returned (.bool true) ∧ Below w.heap.size w w' := by
  have hll := hl.length
  unfold maxLen at hll
  have HL := hid lawLive_any
  have HN := hid new_any
  have HRN := hid rNew_any
  have hb1 : Below w.heap.size w (w.alloc (.cells #[.string t, .string u] 23)) := (Below.refl _ w).alloc (Nat.le_refl _) _
  have Hl := hid (hl.below hb1)
  have q0 : (w.alloc (.cells #[.string t, .string u] 23)).cell? ⟨w.heap.size, 0, none⟩ = some (.string t) := (World.cell?_alloc_at _ _ _ _ rfl).trans rfl
  have q1 : (w.alloc (.cells #[.string t, .string u] 23)).cell? ⟨w.heap.size, 1, none⟩ = some (.string u) := (World.cell?_alloc_at _ _ _ _ rfl).trans rfl
  have hsz : (w.alloc (.cells #[.string t, .string u] 23)).heap.size = w.heap.size + 1 := by simp
  have Q0 := hid q0
  have Q1 := hid q1
  have Hsz := hid hsz
  have Hb1 := hid hb1
  obtain ⟨V, hV⟩ : ∃ V, V = (w.alloc (.cells #[.string t, .string u] 23)) := ⟨_, rfl⟩
  have HV := hid hV
  clear hl ht hu q0 q1 hsz hb1 hV
  go_enter Try.func8, Try.ntmps8
  go_wp2_with (first
    | (go_at_call 12; rw [← HV.out]; refine (HN.out V).mono ?_; rintro e w1 ⟨p, mb, rfl, hT1, hbl1⟩)
    | (go_at_call 13; refine (HRN.out w1).mono ?_; rintro e w2 ⟨r, rfl, hR2, hbl2⟩)
    | (go_at_call 9; refine (HL.out w2).mono ?_; rintro e w3 ⟨rfl, hbl3⟩))
  rw [← HV.out] at Hl Q0 Q1 Hsz Hb1
  have hBo : Two w3 V.heap.size p mb r 0 tab0 tab0 := ⟨(hT1.below hbl2).below hbl3, none, 0, (hR2.below hbl3).mono hbl1.size⟩
  have HR0 : Hid (NRel V p mb r 0 0 w3) := ⟨tab0, tab0, 0, hBo, tab0_ok, tab0_ok, rfl, Nat.le_refl _, Nat.le_refl _, Nat.le_refl _, Below.on' (Below.on' hbl1 hbl2) hbl3⟩
  clear hT1 hR2 hbl1 hbl2 hbl3 hBo
  go_loopw [7, 8] (fun la i wr => ∃ (k : Nat) (m : Int), k ≤ l.length ∧ k ≤ 60 ∧ i = .int .i64 k ∧ la = .int .i64 m ∧ NRel V p mb r k m wr) (fun _ i _ => 60 - (intOf i).toNat)
  case atStart => exact ⟨0, 0, Nat.zero_le _, Nat.zero_le _, rfl, rfl, HR0.out⟩
  case round =>
    obtain ⟨k, m, hk, hk60, rfl, rfl, T, U, n, hBo, ok, ok2, hm, hn, hlen, hlen2, hb⟩ := hrel
    have HBo := hid hBo
    have Hok := hid ok
    have Hok2 := hid ok2
    have Hb := hid hb
    have hnx := ok.nx
    have hzr : w.heap.size < wr.heap.size := by have := hb.size; have := Hsz.out; omega
    have y0 := (hb.cell (p := ⟨w.heap.size, 0, none⟩) (by have := Hsz.out; show w.heap.size < V.heap.size; omega)).trans Q0.out
    have y1 := (hb.cell (p := ⟨w.heap.size, 1, none⟩) (by have := Hsz.out; show w.heap.size < V.heap.size; omega)).trans Q1.out
    have hlts := hBo.lts
    clear hBo ok ok2 hb HR0
    by_cases hall : k < l.length ∧ k < 60
    · obtain ⟨hlt, hlt2⟩ := hall
      have g1 : decide ((k : Int) < (l.length : Int)) = true := by simp; omega
      have g2 : decide ((k : Int) < 60) = true := by simp; omega
      obtain ⟨b, o, ea, d0, d1, d2, d3, d4⟩ := (Hl.out.below Hb.out).cells k hlt
      cases ea
      have hxs := Hl.out.sizes _ (List.getElem_mem hlt)
      generalize l[k] = x at *
      by_cases hx0 : x.kind = 0
      · have g3 : (x.kind != 0) = false := by simp [hx0]
        have Hbe := hid (fun W (h : TabAt W V.heap.size p mb n T) => begin_any h Hok.out (by omega) (by omega) x.ten x.usr x.now hxs.1 hxs.2)
        have hbV : b < V.heap.size := by
          obtain ⟨b', o', e', d', _⟩ := Hl.out.cells k hlt
          injection e' with e'
          injection e' with e1 e2
          rw [e1]
          exact World.block_lt_of_cell? _ _ d'
        have hbr : b < wr.heap.size := Nat.lt_of_lt_of_le hbV Hb.out.size
        have hbp : ¬ (b = p ∨ b = mb) := by omega
        have hbn : wr.heap.size ≠ b := by omega
        have r1 : ∀ ob : Obj, (wr.alloc ob).cell? ⟨b, o + k * 5 + 1, none⟩ = some (.string x.ten) := fun ob => (World.cell?_alloc_past _ _ _ hbr).trans d1
        have r2 : ∀ ob : Obj, (wr.alloc ob).cell? ⟨b, o + k * 5 + 2, none⟩ = some (.string x.usr) := fun ob => (World.cell?_alloc_past _ _ _ hbr).trans d2
        have r4 : ∀ ob : Obj, (wr.alloc ob).cell? ⟨b, o + k * 5 + 4, none⟩ = some (.int .i64 x.now) := fun ob => (World.cell?_alloc_past _ _ _ hbr).trans d4
        have hbA : b < (wr.alloc (.cells #[.int .i64 0, .string ⟨#[]⟩, .string ⟨#[]⟩, .int .i64 0, .int .i64 0] 25)).heap.size := by simp; omega
        have hbx : ¬ (wr.heap.size = p ∨ wr.heap.size = mb) := by omega
        by_cases e0 : tBeginErr T x.ten x.usr x.now = 0
        · have e2 : tBegin T x.ten x.usr x.now = (⟨T.next + 1, x.now, T.l ++ [begun T x.ten x.usr x.now]⟩, begun T x.ten x.usr x.now, 0) := by unfold tBegin; rw [if_neg (by simp [e0])]
          have HokN := hid (tBegin_ok Hok.out x.ten x.usr x.now)
          rw [e2] at Hbe HokN
          have g4 : (T.next != m + 1) = false := by simp [hm]
          have g5 : (T.next == m + 1) = true := by simp [hm]
          clear e0 e2 hx0
          go_wp2
          go_region_held3 (fun w9 => w9.cell? ⟨b, o + k * 5 + 1, none⟩ = some (.string x.ten) ∧ w9.cell? ⟨b, o + k * 5 + 2, none⟩ = some (.string x.usr) ∧ w9.cell? ⟨b, o + k * 5 + 4, none⟩ = some (.int .i64 x.now)) (first
              | (refine ⟨?_, ?_, ?_⟩ <;> (simp only [World.cell?_drew, d1, d2, d4]; done))
              | (refine ⟨?_, ?_, ?_⟩ <;> (simp only [t1, t2, t4]; done))
              | (refine ⟨?_, ?_, ?_⟩ <;> (simp only [s1, s2, s4]; done))
              | (refine ⟨?_, ?_, ?_⟩ <;> (simp only [World.cell?_drew, r1, r2, r4]; done))
              | (refine ⟨?_, ?_, ?_⟩ <;> (simp only [t1', t2', t4']; done))
              | (refine ⟨?_, ?_, ?_⟩ <;> (simp [hbn, t1', t2', t4', World.cell?_setCell_far]; done))) (first
              | (go_at_call 19; refine (Hbe.out _ ((HBo.out.tab.below ((Below.refl _ wr).alloc (Nat.le_refl _) (.cells #[.int .i64 0, .string ⟨#[]⟩, .string ⟨#[]⟩, .int .i64 0, .int .i64 0] 25))).below (below_drewN _ _ 1))).mono ?_; rintro e w5 ⟨rfl, hT5, ho5⟩; unfold sessV begun; have bx := ho5.cells wr.heap.size (by simp) hbx; have f0 : w5.cell? ⟨wr.heap.size, 0, none⟩ = some (.int .i64 0) := (bx.1 0).trans ((World.cell?_alloc_at _ _ _ _ rfl).trans rfl); have fz0 : w5.frozen? ⟨wr.heap.size, 0, none⟩ = false := (bx.2 0).trans (by simp [World.frozen?_alloc_at]); have f1 : w5.cell? ⟨wr.heap.size, 1, none⟩ = some (.string ⟨#[]⟩) := (bx.1 1).trans ((World.cell?_alloc_at _ _ _ _ rfl).trans rfl); have fz1 : w5.frozen? ⟨wr.heap.size, 1, none⟩ = false := (bx.2 1).trans (by simp [World.frozen?_alloc_at]); have f2 : w5.cell? ⟨wr.heap.size, 2, none⟩ = some (.string ⟨#[]⟩) := (bx.1 2).trans ((World.cell?_alloc_at _ _ _ _ rfl).trans rfl); have fz2 : w5.frozen? ⟨wr.heap.size, 2, none⟩ = false := (bx.2 2).trans (by simp [World.frozen?_alloc_at]); have f3 : w5.cell? ⟨wr.heap.size, 3, none⟩ = some (.int .i64 0) := (bx.1 3).trans ((World.cell?_alloc_at _ _ _ _ rfl).trans rfl); have fz3 : w5.frozen? ⟨wr.heap.size, 3, none⟩ = false := (bx.2 3).trans (by simp [World.frozen?_alloc_at]); have f4 : w5.cell? ⟨wr.heap.size, 4, none⟩ = some (.int .i64 0) := (bx.1 4).trans ((World.cell?_alloc_at _ _ _ _ rfl).trans rfl); have fz4 : w5.frozen? ⟨wr.heap.size, 4, none⟩ = false := (bx.2 4).trans (by simp [World.frozen?_alloc_at]); have t1' := ((ho5.cells b hbA hbp).1 (o + k * 5 + 1)).trans (r1 _); have t2' := ((ho5.cells b hbA hbp).1 (o + k * 5 + 2)).trans (r2 _); have t4' := ((ho5.cells b hbA hbp).1 (o + k * 5 + 4)).trans (r4 _); have z5 := ho5.size)
              | (go_at_call 19; refine (Hbe.out _ (HBo.out.tab.below (below_drewN _ _ 1))).mono ?_; rintro e w4 ⟨rfl, hT4, ho4⟩; unfold sessV begun; have t1 := ((ho4.cells b hbr hbp).1 (o + k * 5 + 1)).trans d1; have t2 := ((ho4.cells b hbr hbp).1 (o + k * 5 + 2)).trans d2; have t4 := ((ho4.cells b hbr hbp).1 (o + k * 5 + 4)).trans d4; have z4 := ho4.size; have hb4 : b < w4.heap.size := Nat.lt_of_lt_of_le hbr z4; have s1 : ∀ ob : Obj, (w4.alloc ob).cell? ⟨b, o + k * 5 + 1, none⟩ = some (.string x.ten) := fun ob => (World.cell?_alloc_past _ _ _ hb4).trans t1; have s2 : ∀ ob : Obj, (w4.alloc ob).cell? ⟨b, o + k * 5 + 2, none⟩ = some (.string x.usr) := fun ob => (World.cell?_alloc_past _ _ _ hb4).trans t2; have s4 : ∀ ob : Obj, (w4.alloc ob).cell? ⟨b, o + k * 5 + 4, none⟩ = some (.int .i64 x.now) := fun ob => (World.cell?_alloc_past _ _ _ hb4).trans t4))
          all_goals go_wp2
          all_goals
            first
            | (obtain ⟨hTw, hBl⟩ := two_step HBo.out Hb.out hT4 ho4.undrew (((Below.refl _ w4).alloc z4 _))
               go_roundw
               case rel => exact ⟨k + 1, T.next, by omega, by omega, by go_num, rfl, _, U, n + 1, hTw, HokN.out, Hok2.out, rfl, by omega, by simp; omega, by omega, hBl⟩
               case measure => simp [intOf]; omega)
            | (obtain ⟨hTw, hBl⟩ := two_step HBo.out Hb.out hT5 ((Out.of_below ((Below.refl _ wr).alloc (Nat.le_refl _) (.cells #[.int .i64 0, .string ⟨#[]⟩, .string ⟨#[]⟩, .int .i64 0, .int .i64 0] 25))).trans ho5.undrew (fun _ _ e => e)) (below5 (Below.refl _ w5) (Nat.le_refl wr.heap.size) _ _ _ _ _)
               go_roundw
               case rel => exact ⟨k + 1, T.next, by omega, by omega, by go_num, rfl, _, U, n + 1, hTw, HokN.out, Hok2.out, rfl, by omega, by simp; omega, by omega, hBl⟩
               case measure => simp [intOf]; omega)
        · have e2 : tBegin T x.ten x.usr x.now = (T, sess0, tBeginErr T x.ten x.usr x.now) := by unfold tBegin; rw [if_pos (by simpa using e0)]
          rw [e2] at Hbe
          generalize tBeginErr T x.ten x.usr x.now = z at *
          have g4 : (z == 0) = false := by simpa using e0
          clear e0 e2 hx0
          go_wp2
          go_region_held3 (fun w9 => w9.cell? ⟨b, o + k * 5 + 1, none⟩ = some (.string x.ten) ∧ w9.cell? ⟨b, o + k * 5 + 2, none⟩ = some (.string x.usr) ∧ w9.cell? ⟨b, o + k * 5 + 4, none⟩ = some (.int .i64 x.now)) (first
              | (refine ⟨?_, ?_, ?_⟩ <;> (simp only [World.cell?_drew, d1, d2, d4]; done))
              | (refine ⟨?_, ?_, ?_⟩ <;> (simp only [t1, t2, t4]; done))
              | (refine ⟨?_, ?_, ?_⟩ <;> (simp only [s1, s2, s4]; done))
              | (refine ⟨?_, ?_, ?_⟩ <;> (simp only [World.cell?_drew, r1, r2, r4]; done))
              | (refine ⟨?_, ?_, ?_⟩ <;> (simp only [t1', t2', t4']; done))
              | (refine ⟨?_, ?_, ?_⟩ <;> (simp [hbn, t1', t2', t4', World.cell?_setCell_far]; done))) (first
              | (go_at_call 19; refine (Hbe.out _ ((HBo.out.tab.below ((Below.refl _ wr).alloc (Nat.le_refl _) (.cells #[.int .i64 0, .string ⟨#[]⟩, .string ⟨#[]⟩, .int .i64 0, .int .i64 0] 25))).below (below_drewN _ _ 1))).mono ?_; rintro e w5 ⟨rfl, hT5, ho5⟩; unfold sessV sess0; have bx := ho5.cells wr.heap.size (by simp) hbx; have f0 : w5.cell? ⟨wr.heap.size, 0, none⟩ = some (.int .i64 0) := (bx.1 0).trans ((World.cell?_alloc_at _ _ _ _ rfl).trans rfl); have fz0 : w5.frozen? ⟨wr.heap.size, 0, none⟩ = false := (bx.2 0).trans (by simp [World.frozen?_alloc_at]); have f1 : w5.cell? ⟨wr.heap.size, 1, none⟩ = some (.string ⟨#[]⟩) := (bx.1 1).trans ((World.cell?_alloc_at _ _ _ _ rfl).trans rfl); have fz1 : w5.frozen? ⟨wr.heap.size, 1, none⟩ = false := (bx.2 1).trans (by simp [World.frozen?_alloc_at]); have f2 : w5.cell? ⟨wr.heap.size, 2, none⟩ = some (.string ⟨#[]⟩) := (bx.1 2).trans ((World.cell?_alloc_at _ _ _ _ rfl).trans rfl); have fz2 : w5.frozen? ⟨wr.heap.size, 2, none⟩ = false := (bx.2 2).trans (by simp [World.frozen?_alloc_at]); have f3 : w5.cell? ⟨wr.heap.size, 3, none⟩ = some (.int .i64 0) := (bx.1 3).trans ((World.cell?_alloc_at _ _ _ _ rfl).trans rfl); have fz3 : w5.frozen? ⟨wr.heap.size, 3, none⟩ = false := (bx.2 3).trans (by simp [World.frozen?_alloc_at]); have f4 : w5.cell? ⟨wr.heap.size, 4, none⟩ = some (.int .i64 0) := (bx.1 4).trans ((World.cell?_alloc_at _ _ _ _ rfl).trans rfl); have fz4 : w5.frozen? ⟨wr.heap.size, 4, none⟩ = false := (bx.2 4).trans (by simp [World.frozen?_alloc_at]); have t1' := ((ho5.cells b hbA hbp).1 (o + k * 5 + 1)).trans (r1 _); have t2' := ((ho5.cells b hbA hbp).1 (o + k * 5 + 2)).trans (r2 _); have t4' := ((ho5.cells b hbA hbp).1 (o + k * 5 + 4)).trans (r4 _); have z5 := ho5.size)
              | (go_at_call 19; refine (Hbe.out _ (HBo.out.tab.below (below_drewN _ _ 1))).mono ?_; rintro e w4 ⟨rfl, hT4, ho4⟩; unfold sessV sess0; have t1 := ((ho4.cells b hbr hbp).1 (o + k * 5 + 1)).trans d1; have t2 := ((ho4.cells b hbr hbp).1 (o + k * 5 + 2)).trans d2; have t4 := ((ho4.cells b hbr hbp).1 (o + k * 5 + 4)).trans d4; have z4 := ho4.size; have hb4 : b < w4.heap.size := Nat.lt_of_lt_of_le hbr z4; have s1 : ∀ ob : Obj, (w4.alloc ob).cell? ⟨b, o + k * 5 + 1, none⟩ = some (.string x.ten) := fun ob => (World.cell?_alloc_past _ _ _ hb4).trans t1; have s2 : ∀ ob : Obj, (w4.alloc ob).cell? ⟨b, o + k * 5 + 2, none⟩ = some (.string x.usr) := fun ob => (World.cell?_alloc_past _ _ _ hb4).trans t2; have s4 : ∀ ob : Obj, (w4.alloc ob).cell? ⟨b, o + k * 5 + 4, none⟩ = some (.int .i64 x.now) := fun ob => (World.cell?_alloc_past _ _ _ hb4).trans t4))
          all_goals go_wp2
          all_goals
            first
            | (obtain ⟨hTw, hBl⟩ := two_step HBo.out Hb.out hT4 ho4.undrew (((Below.refl _ w4).alloc z4 _))
               go_roundw
               case rel => exact ⟨k + 1, m, by omega, by omega, by go_num, rfl, T, U, n + 1, hTw, Hok.out, Hok2.out, hm, by omega, by omega, by omega, hBl⟩
               case measure => simp [intOf]; omega)
            | (obtain ⟨hTw, hBl⟩ := two_step HBo.out Hb.out hT5 ((Out.of_below ((Below.refl _ wr).alloc (Nat.le_refl _) (.cells #[.int .i64 0, .string ⟨#[]⟩, .string ⟨#[]⟩, .int .i64 0, .int .i64 0] 25))).trans ho5.undrew (fun _ _ e => e)) (below5 (Below.refl _ w5) (Nat.le_refl wr.heap.size) _ _ _ _ _)
               go_roundw
               case rel => exact ⟨k + 1, m, by omega, by omega, by go_num, rfl, T, U, n + 1, hTw, Hok.out, Hok2.out, hm, by omega, by omega, by omega, hBl⟩
               case measure => simp [intOf]; omega)
      · have g3 : (x.kind != 0) = true := by simp [hx0]
        have Hdo := hid (dob_any HBo.out Hok.out Hok2.out (by omega) (by omega) (by omega) Hb.out.size x hxs.1 hxs.2)
        go_wp2_with (go_at_call 14; refine Hdo.out.mono ?_; rintro e w4 ⟨bb, rfl, hBo4, ho4⟩)
        go_roundw
        case rel => exact ⟨k + 1, m, by omega, by omega, by go_num, rfl, tDo T x, tDo U x, n + 1, hBo4, tDo_ok Hok.out x, tDo_ok Hok2.out x, by rw [tDo_next hx0]; exact hm, by omega, Nat.le_trans (tDo_len T x) (by omega), Nat.le_trans (tDo_len U x) (by omega), Hb.out.trans (ho4.below Hb.out.size (fun k hk => by rcases hk with e | e | e <;> omega))⟩
        case measure => simp [intOf]; omega
    · have HLv := hid (tabLive_any HBo.out.tab Hok.out (by omega) t u 1099511627776)
      have hle := live_end Hok.out t u
      generalize (tLive T t u 1099511627776).length = N at *
      generalize timeErr 1099511627776 T.noted = z at *
      subst hle
      by_cases c : k < l.length
      · have g1 : decide ((k : Int) < (l.length : Int)) = true := by simp; omega
        have g2 : decide ((k : Int) < 60) = false := by simp; omega
        go_wp2_with (go_at_call 18; refine HLv.out.mono ?_; rintro e w5 ⟨v5, rfl, hrow5, hb5⟩; obtain ⟨a5, c5, rfl⟩ := slice_of_own hrow5)
        go_ret
        exact ⟨rfl, Below.on' (Hb1.out.trans (Hb.out.mono (by have := Hsz.out; omega))) hb5⟩
      · have g1 : decide ((k : Int) < (l.length : Int)) = false := by simp; omega
        go_wp2_with (go_at_call 18; refine HLv.out.mono ?_; rintro e w5 ⟨v5, rfl, hrow5, hb5⟩; obtain ⟨a5, c5, rfl⟩ := slice_of_own hrow5)
        go_ret
        exact ⟨rfl, Below.on' (Hb1.out.trans (Hb.out.mono (by have := Hsz.out; omega))) hb5⟩
end Go.Proofs.Ytedoaahimpnmnaa
