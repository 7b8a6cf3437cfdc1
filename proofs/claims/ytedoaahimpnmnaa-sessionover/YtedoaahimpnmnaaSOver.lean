/- SessionOver: a session that is over is so for ever. -/
import Derived.Test.YtedoaahimpnmnaaSNumb
namespace Go.Proofs.Ytedoaahimpnmnaa
open Go.RowKit Go.Maps Go.Sort Go.Shelf
set_option linter.unusedVariables false
set_option maxRecDepth 20000

/-- a number that was given and is over -/
def Gone (T : Tab) (id : Int) : Prop := 1 ≤ id ∧ id < T.next ∧ ∀ s ∈ T.l, s.id ≠ id
theorem Gone.find {T : Tab} {id : Int} (h : Gone T id) : T.l.find? (fun s => s.id == id) = none := by
  rw [List.find?_eq_none]
  intro s hs
  have := h.2.2 s hs
  simpa using this
theorem Gone.tend {T : Tab} {id : Int} (h : Gone T id) : tEnd T id = (T, 12) := by
  unfold tEnd
  rw [if_neg (by have := h.1; have := h.2.1; omega), h.find]
theorem Gone.tget {T : Tab} {id : Int} (h : Gone T id) (now : Int) : tGet T id now = (sess0, if timeErr now T.noted ≠ 0 then timeErr now T.noted else 12) := by
  unfold tGet
  by_cases e : timeErr now T.noted ≠ 0
  · rw [if_pos e, if_pos e]
  · rw [if_neg e, if_neg (by have := h.1; have := h.2.1; omega), h.find, if_neg e]
theorem Gone.tgetEnd {T : Tab} {id : Int} (h : Gone T id) (ok : TabOk T) : tGet T id 1099511627776 = (sess0, 12) := by
  have hn := ok.nt
  rw [h.tget, if_neg (by simp [timeErr]; omega)]
theorem Gone.ttouch {T : Tab} {id : Int} (h : Gone T id) (now : Int) : ∃ z, z ≠ 0 ∧ tTouch T id now = (T, sess0, z) := by
  have e := h.tget now
  refine ⟨if timeErr now T.noted ≠ 0 then timeErr now T.noted else 12, ?_, ?_⟩
  · split
    · assumption
    · decide
  · unfold tTouch
    rw [e]
    rw [if_pos]
    split
    · assumption
    · decide
theorem Gone.sub {T : Tab} {id : Int} (h : Gone T id) {l' : List Sess} (hs : l'.Sublist T.l) (noted : Int) : Gone ⟨T.next, noted, l'⟩ id := ⟨h.1, h.2.1, fun s hs' => h.2.2 s (hs.subset hs')⟩
theorem end_gone {T : Tab} (ok : TabOk T) {id : Int} (h : (tEnd T id).2 ≠ 4) : Gone (tEnd T id).1 id := by
  by_cases c : id < 1 ∨ T.next ≤ id
  · exact absurd (by unfold tEnd; rw [if_pos c]) h
  · cases hf : T.l.find? (fun s => s.id == id) with
    | none =>
      have e : tEnd T id = (T, 12) := by unfold tEnd; rw [if_neg c, hf]
      rw [e]
      show Gone T id
      refine ⟨by omega, by omega, fun s hs hi => ?_⟩
      have := List.find?_eq_none.1 hf s hs
      simp [hi] at this
    | some q =>
      have e : tEnd T id = (⟨T.next, T.noted, butId T.l id⟩, 0) := by unfold tEnd; rw [if_neg c, hf]
      rw [e]
      refine ⟨by omega, by show id < T.next; omega, fun s hs hi => ?_⟩
      have hs' : s ∈ T.l.filter (fun s => !(s.id == id)) := hs
      have := (List.mem_filter.1 hs').2
      simp [hi] at this
theorem gone_do {T : Tab} {id : Int} (h : Gone T id) (x : SDeed) : Gone (tDo T x) id := by
  unfold tDo
  split
  · unfold tBegin
    split
    · exact h
    · refine ⟨h.1, by have := h.2.1; show id < T.next + 1; omega, fun s hs => ?_⟩
      have hs' : s ∈ T.l ++ [begun T x.ten x.usr x.now] := hs
      rcases List.mem_append.1 hs' with hs' | hs'
      · exact h.2.2 s hs'
      · rw [List.mem_singleton.1 hs']
        have := h.2.1
        show T.next ≠ id
        omega
  · split
    · unfold tTouch
      split
      · exact h
      · rename_i h0
        obtain ⟨g1, g2, g3, g4⟩ := tGet_ok (show (tGet T x.id x.now).2 = 0 by simpa using h0)
        refine ⟨h.1, h.2.1, fun s hs => ?_⟩
        have hs' : s ∈ T.l.map fun y => if y.id = x.id then usedAt (tGet T x.id x.now).1 x.now else y := hs
        obtain ⟨y, hy, rfl⟩ := List.mem_map.1 hs'
        split
        · show (tGet T x.id x.now).1.id ≠ id
          exact h.2.2 _ g1
        · exact h.2.2 y hy
    · split
      · exact h
      · split
        · unfold tEnd
          split
          · exact h
          · split
            · exact h
            · exact h.sub List.filter_sublist _
        · split
          · exact h.sub List.filter_sublist _
          · split
            · unfold tSweep
              split
              · exact h
              · exact h.sub List.filter_sublist _
            · exact h

/-- what a round of SessionOver's first loop finds -/
def ORel (V : World) (p mb r : Nat) (k : Nat) (wr : World) : Prop := ∃ T U n, Two wr V.heap.size p mb r n T U ∧ TabOk T ∧ TabOk U ∧ n ≤ k ∧ T.l.length ≤ k ∧ U.l.length ≤ k ∧ Below V.heap.size V wr
/-- .. and of its second -/
def PRel (V : World) (p mb r : Nat) (id : Int) (k : Nat) (wr : World) : Prop := ∃ T U n, Two wr V.heap.size p mb r n T U ∧ TabOk T ∧ TabOk U ∧ Gone T id ∧ n ≤ 2 * k + 50 ∧ T.l.length ≤ k + 50 ∧ U.l.length ≤ k + 50 ∧ Below V.heap.size V wr

set_option maxHeartbeats 12800000 in
theorem sessionOver_walk {w : World} (l : List SDeed) (a : Option Addr) (cap : Nat) (hl : DIn w a l) (id : Int) (hid' : (Lit.int .i64 id).wf = true) (q : List SDeed) (qa : Option Addr) (qcap : Nat) (hq : DIn w qa q) :
    Calls Try.prog 4 #[.slice a l.length cap, .int .i64 id, .slice qa q.length qcap] w fun e w' => e = .returned (.bool true) ∧ Below w.heap.size w w' := by
  have hll := hl.length
  have hql := hq.length
  unfold maxLen at hll hql
  have HL := hid lawLive_any
  have HN := hid new_any
  have HRN := hid rNew_any
  have Hl := hid hl
  have Hq := hid hq
  clear hl hq hid'
  go_enter Try.func4, Try.ntmps4
  go_wp2_with (first
    | (go_at_call 12; refine (HN.out w).mono ?_; rintro e w1 ⟨p, mb, rfl, hT1, hbl1⟩)
    | (go_at_call 13; refine (HRN.out w1).mono ?_; rintro e w2 ⟨r, rfl, hR2, hbl2⟩)
    | (go_at_call 9; refine (HL.out w2).mono ?_; rintro e w3 ⟨rfl, hbl3⟩))
  have hBo : Two w3 w.heap.size p mb r 0 tab0 tab0 := ⟨(hT1.below hbl2).below hbl3, none, 0, (hR2.below hbl3).mono hbl1.size⟩
  have HR0 : Hid (ORel w p mb r 0 w3) := ⟨tab0, tab0, 0, hBo, tab0_ok, tab0_ok, Nat.le_refl _, Nat.le_refl _, Nat.le_refl _, Below.on' (Below.on' hbl1 hbl2) hbl3⟩
  clear hT1 hR2 hbl1 hbl2 hbl3 hBo
  go_loopw [9] (fun i wr => ∃ k : Nat, k ≤ l.length ∧ k ≤ 40 ∧ i = .int .i64 k ∧ ORel w p mb r k wr) (fun i _ => 40 - (intOf i).toNat)
  case atStart => exact ⟨0, Nat.zero_le _, Nat.zero_le _, rfl, HR0.out⟩
  case round =>
    obtain ⟨k, hk, hk40, rfl, T, U, n, hBo, ok, ok2, hn, hlen, hlen2, hb⟩ := hrel
    have HBo := hid hBo
    have Hok := hid ok
    have Hok2 := hid ok2
    have Hb := hid hb
    have hlts := hBo.lts
    clear hBo ok ok2 hb HR0
    by_cases hall : k < l.length ∧ k < 40
    · obtain ⟨hlt, hlt2⟩ := hall
      have g1 : decide ((k : Int) < (l.length : Int)) = true := by simp; omega
      have g2 : decide ((k : Int) < 40) = true := by simp; omega
      obtain ⟨b, o, ea, d0, d1, d2, d3, d4⟩ := (Hl.out.below Hb.out).cells k hlt
      cases ea
      have hxs := Hl.out.sizes _ (List.getElem_mem hlt)
      generalize l[k] = x at *
      have Hdo := hid (dob_any HBo.out Hok.out Hok2.out (by omega) (by omega) (by omega) Hb.out.size x hxs.1 hxs.2)
      go_wp2_with (go_at_call 14; refine Hdo.out.mono ?_; rintro e w4 ⟨bb, rfl, hBo4, ho4⟩)
      go_roundw
      case rel => exact ⟨k + 1, by omega, by omega, by go_num, tDo T x, tDo U x, n + 1, hBo4, tDo_ok Hok.out x, tDo_ok Hok2.out x, by omega, Nat.le_trans (tDo_len T x) (by omega), Nat.le_trans (tDo_len U x) (by omega), Hb.out.trans (ho4.below Hb.out.size (fun k hk => by rcases hk with e | e | e <;> omega))⟩
      case measure => simp [intOf]; omega
    · have Hen := hid (end_any HBo.out.tab Hok.out id)
      have Hg := hid (fun h => end_gone Hok.out (id := id) h)
      have HokE := hid (tEnd_ok Hok.out id)
      have hlE : (tEnd T id).1.l.length ≤ T.l.length := by
        unfold tEnd
        split
        · exact Nat.le_refl _
        · split
          · exact Nat.le_refl _
          · exact List.length_filter_le _ _
      generalize (tEnd T id).1 = T' at *
      generalize (tEnd T id).2 = z at *
      by_cases hz : z = 4
      · subst hz
        clear Hg
        by_cases c : k < l.length
        · have g1 : decide ((k : Int) < (l.length : Int)) = true := by simp; omega
          have g2 : decide ((k : Int) < 40) = false := by simp; omega
          go_wp2_with (go_at_call 15; refine Hen.out.mono ?_; rintro e w4 ⟨rfl, hT4, ho4⟩)
          go_ret
          exact ⟨rfl, Hb.out.trans (ho4.below Hb.out.size (fun k hk => by rcases hk with e | e <;> omega))⟩
        · have g1 : decide ((k : Int) < (l.length : Int)) = false := by simp; omega
          go_wp2_with (go_at_call 15; refine Hen.out.mono ?_; rintro e w4 ⟨rfl, hT4, ho4⟩)
          go_ret
          exact ⟨rfl, Hb.out.trans (ho4.below Hb.out.size (fun k hk => by rcases hk with e | e <;> omega))⟩
      · have hg := Hg.out hz
        have HG := hid hg
        have b4 : (z == 4) = false := by simpa using hz
        clear Hg hg hz
        by_cases c : k < l.length
        · have g1 : decide ((k : Int) < (l.length : Int)) = true := by simp; omega
          have g2 : decide ((k : Int) < 40) = false := by simp; omega
          go_wp2_with (go_at_call 15; refine Hen.out.mono ?_; rintro e w4 ⟨rfl, hT4, ho4⟩)
          obtain ⟨hTw, hBl⟩ := two_step HBo.out Hb.out hT4 ho4 (Below.refl _ w4)
          have HP0 : Hid (PRel w p mb r id 0 w4) := ⟨T', U, n, hTw, HokE.out, Hok2.out, HG.out, by omega, by omega, by omega, hBl⟩
          clear hTw hBl hT4 ho4 HBo Hok Hok2 Hb Hen HokE HG hlE hlts b4
          go_loopw [10, 11] (fun nv i wr => ∃ (j : Nat) (y : Int), j ≤ q.length ∧ j ≤ 40 ∧ i = .int .i64 j ∧ nv = .int .i64 y ∧ PRel w p mb r id j wr) (fun _ i _ => 40 - (intOf i).toNat)
          case atStart => exact ⟨0, 0, Nat.zero_le _, Nat.zero_le _, rfl, rfl, HP0.out⟩
          case round =>
            obtain ⟨j, y, hj, hj40, rfl, rfl, T2, U2, n2, hBo2, ok, ok2, hg, hn2, hlT, hlU, hb⟩ := hrel
            have HBo := hid hBo2
            have Hok := hid ok
            have Hok2 := hid ok2
            have HG := hid hg
            have Hb := hid hb
            have hlts := hBo2.lts
            clear hBo2 ok ok2 hg hb HP0
            by_cases hall2 : j < q.length ∧ j < 40
            · obtain ⟨hlt, hlt2⟩ := hall2
              have g3 : decide ((j : Int) < (q.length : Int)) = true := by simp; omega
              have g4 : decide ((j : Int) < 40) = true := by simp; omega
              obtain ⟨b, o, ea, d0, d1, d2, d3, d4⟩ := (Hq.out.below Hb.out).cells j hlt
              cases ea
              have hbV : b < w.heap.size := by
                obtain ⟨b', o', e', d', _⟩ := Hq.out.cells j hlt
                injection e' with e'
                injection e' with e1 e2
                rw [e1]
                exact World.block_lt_of_cell? _ _ d'
              have hbr : b < wr.heap.size := Nat.lt_of_lt_of_le hbV Hb.out.size
              have hbp : ¬ DOut p mb r b := by unfold DOut; omega
              have hbp2 : ¬ (b = p ∨ b = mb) := by omega
              have hxs := Hq.out.sizes _ (List.getElem_mem hlt)
              generalize q[j] = x at *
              have Hdo := hid (dob_any HBo.out Hok.out Hok2.out (by omega) (by omega) (by omega) Hb.out.size x hxs.1 hxs.2)
              have Hok3 := hid (tDo_ok Hok.out x)
              have Hok4 := hid (tDo_ok Hok2.out x)
              have HG3 := hid (gone_do HG.out x)
              have hl3 := tDo_len T2 x
              have hl4 := tDo_len U2 x
              generalize tDo T2 x = T3 at *
              generalize tDo U2 x = U3 at *
              have Hget := hid (fun W (h : TabAt W w.heap.size p mb (n2 + 1) T3) => by have := get_any h Hok3.out id 1099511627776; rw [HG3.out.tgetEnd Hok3.out] at this; exact this)
              obtain ⟨z2, hz2, ht2⟩ := HG3.out.ttouch x.now
              have Htou := hid (fun W (h : TabAt W w.heap.size p mb (n2 + 1) T3) => by have := touch_any h Hok3.out (by omega) id x.now; rw [ht2] at this; exact this)
              have Hend := hid (fun W (h : TabAt W w.heap.size p mb (n2 + 1 + 1) T3) => by have := end_any h Hok3.out id; rw [HG3.out.tend] at this; exact this)
              have b2 : (z2 == 0) = false := by simpa using hz2
              clear hz2 ht2 HG Hok Hok2
              by_cases c1 : y < x.now
              · have g5 : decide (y < x.now) = true := by simpa using c1
                by_cases c2 : x.now ≤ 1099511627776
                · have g6 : decide (x.now ≤ 1099511627776) = true := by simpa using c2
                  go_wp2_with (first
                    | (go_at_call 14; refine Hdo.out.mono ?_; rintro e w5 ⟨bb, rfl, hBo5, ho5⟩; have hb5 := Nat.lt_of_lt_of_le hbr ho5.size; have y4 := ((ho5.cells b hbr hbp).1 (o + j * 5 + 4)).trans d4)
                    | (go_at_call 16; refine (Hget.out _ hBo5.tab).mono ?_; rintro e w6 ⟨rfl, hb6⟩; unfold sessV sess0; have x4 := (hb6.cell (p := ⟨b, o + j * 5 + 4, none⟩) hb5).trans y4; have z6 : b < w6.heap.size := Nat.lt_of_lt_of_le hb5 hb6.size; have k6 := Below.on' hb6 ((Below.refl _ w6).alloc (Nat.le_refl _) (.cells #[.int .i64 0, .string ⟨#[]⟩, .string ⟨#[]⟩, .int .i64 0, .int .i64 0] 25)))
                    | (go_at_call 17; refine (Htou.out _ (hBo5.tab.below k6)).mono ?_; rintro e w7 ⟨rfl, hT7, ho7⟩; unfold sessV sess0; have k7 := (Below.refl _ w7).alloc (Nat.le_refl _) (.cells #[.int .i64 0, .string ⟨#[]⟩, .string ⟨#[]⟩, .int .i64 0, .int .i64 0] 25))
                    | (go_at_call 15; refine (Hend.out _ (hT7.below k7)).mono ?_; rintro e w8 ⟨rfl, hT8, ho8⟩))
                  have k5 : Below w.heap.size w w5 := Hb.out.trans (ho5.below Hb.out.size (fun k hk => by rcases hk with e | e | e <;> omega))
                  have ho58 : Out (fun k => k = p ∨ k = mb) w5 w8 := (((Out.of_below k6).trans ho7 (fun _ _ e => e)).trans (Out.of_below k7) (fun _ _ e => e)).trans ho8 (fun _ _ e => e)
                  obtain ⟨hTw, hBl⟩ := two_step hBo5 k5 hT8 ho58 (Below.refl _ w8)
                  go_roundw
                  case rel => exact ⟨j + 1, x.now, by omega, by omega, by go_num, rfl, T3, U3, n2 + 1 + 1, hTw, Hok3.out, Hok4.out, HG3.out, by omega, by omega, by omega, hBl⟩
                  case measure => simp [intOf]; omega
                · have g6 : decide (x.now ≤ 1099511627776) = false := by simpa using c2
                  go_wp2_with (first
                    | (go_at_call 14; refine Hdo.out.mono ?_; rintro e w5 ⟨bb, rfl, hBo5, ho5⟩; have hb5 := Nat.lt_of_lt_of_le hbr ho5.size; have y4 := ((ho5.cells b hbr hbp).1 (o + j * 5 + 4)).trans d4)
                    | (go_at_call 16; refine (Hget.out _ hBo5.tab).mono ?_; rintro e w6 ⟨rfl, hb6⟩; unfold sessV sess0; have x4 := (hb6.cell (p := ⟨b, o + j * 5 + 4, none⟩) hb5).trans y4; have z6 : b < w6.heap.size := Nat.lt_of_lt_of_le hb5 hb6.size; have k6 := Below.on' hb6 ((Below.refl _ w6).alloc (Nat.le_refl _) (.cells #[.int .i64 0, .string ⟨#[]⟩, .string ⟨#[]⟩, .int .i64 0, .int .i64 0] 25)))
                    | (go_at_call 17; refine (Htou.out _ (hBo5.tab.below k6)).mono ?_; rintro e w7 ⟨rfl, hT7, ho7⟩; unfold sessV sess0; have k7 := (Below.refl _ w7).alloc (Nat.le_refl _) (.cells #[.int .i64 0, .string ⟨#[]⟩, .string ⟨#[]⟩, .int .i64 0, .int .i64 0] 25))
                    | (go_at_call 15; refine (Hend.out _ (hT7.below k7)).mono ?_; rintro e w8 ⟨rfl, hT8, ho8⟩))
                  have k5 : Below w.heap.size w w5 := Hb.out.trans (ho5.below Hb.out.size (fun k hk => by rcases hk with e | e | e <;> omega))
                  have ho58 : Out (fun k => k = p ∨ k = mb) w5 w8 := (((Out.of_below k6).trans ho7 (fun _ _ e => e)).trans (Out.of_below k7) (fun _ _ e => e)).trans ho8 (fun _ _ e => e)
                  obtain ⟨hTw, hBl⟩ := two_step hBo5 k5 hT8 ho58 (Below.refl _ w8)
                  go_roundw
                  case rel => exact ⟨j + 1, y, by omega, by omega, by go_num, rfl, T3, U3, n2 + 1 + 1, hTw, Hok3.out, Hok4.out, HG3.out, by omega, by omega, by omega, hBl⟩
                  case measure => simp [intOf]; omega
              · have g5 : decide (y < x.now) = false := by simpa using c1
                go_wp2_with (first
                  | (go_at_call 14; refine Hdo.out.mono ?_; rintro e w5 ⟨bb, rfl, hBo5, ho5⟩; have hb5 := Nat.lt_of_lt_of_le hbr ho5.size; have y4 := ((ho5.cells b hbr hbp).1 (o + j * 5 + 4)).trans d4)
                  | (go_at_call 16; refine (Hget.out _ hBo5.tab).mono ?_; rintro e w6 ⟨rfl, hb6⟩; unfold sessV sess0; have x4 := (hb6.cell (p := ⟨b, o + j * 5 + 4, none⟩) hb5).trans y4; have z6 : b < w6.heap.size := Nat.lt_of_lt_of_le hb5 hb6.size; have k6 := Below.on' hb6 ((Below.refl _ w6).alloc (Nat.le_refl _) (.cells #[.int .i64 0, .string ⟨#[]⟩, .string ⟨#[]⟩, .int .i64 0, .int .i64 0] 25)))
                  | (go_at_call 17; refine (Htou.out _ (hBo5.tab.below k6)).mono ?_; rintro e w7 ⟨rfl, hT7, ho7⟩; unfold sessV sess0; have k7 := (Below.refl _ w7).alloc (Nat.le_refl _) (.cells #[.int .i64 0, .string ⟨#[]⟩, .string ⟨#[]⟩, .int .i64 0, .int .i64 0] 25))
                  | (go_at_call 15; refine (Hend.out _ (hT7.below k7)).mono ?_; rintro e w8 ⟨rfl, hT8, ho8⟩))
                have k5 : Below w.heap.size w w5 := Hb.out.trans (ho5.below Hb.out.size (fun k hk => by rcases hk with e | e | e <;> omega))
                have ho58 : Out (fun k => k = p ∨ k = mb) w5 w8 := (((Out.of_below k6).trans ho7 (fun _ _ e => e)).trans (Out.of_below k7) (fun _ _ e => e)).trans ho8 (fun _ _ e => e)
                obtain ⟨hTw, hBl⟩ := two_step hBo5 k5 hT8 ho58 (Below.refl _ w8)
                go_roundw
                case rel => exact ⟨j + 1, y, by omega, by omega, by go_num, rfl, T3, U3, n2 + 1 + 1, hTw, Hok3.out, Hok4.out, HG3.out, by omega, by omega, by omega, hBl⟩
                case measure => simp [intOf]; omega
            · by_cases c3 : j < q.length
              · have g3 : decide ((j : Int) < (q.length : Int)) = true := by simp; omega
                have g4 : decide ((j : Int) < 40) = false := by simp; omega
                go_wp2
                go_ret
                exact ⟨rfl, Hb.out⟩
              · have g3 : decide ((j : Int) < (q.length : Int)) = false := by simp; omega
                go_wp2
                go_ret
                exact ⟨rfl, Hb.out⟩
        · have g1 : decide ((k : Int) < (l.length : Int)) = false := by simp; omega
          go_wp2_with (go_at_call 15; refine Hen.out.mono ?_; rintro e w4 ⟨rfl, hT4, ho4⟩)
          obtain ⟨hTw, hBl⟩ := two_step HBo.out Hb.out hT4 ho4 (Below.refl _ w4)
          have HP0 : Hid (PRel w p mb r id 0 w4) := ⟨T', U, n, hTw, HokE.out, Hok2.out, HG.out, by omega, by omega, by omega, hBl⟩
          clear hTw hBl hT4 ho4 HBo Hok Hok2 Hb Hen HokE HG hlE hlts b4
          go_loopw [10, 11] (fun nv i wr => ∃ (j : Nat) (y : Int), j ≤ q.length ∧ j ≤ 40 ∧ i = .int .i64 j ∧ nv = .int .i64 y ∧ PRel w p mb r id j wr) (fun _ i _ => 40 - (intOf i).toNat)
          case atStart => exact ⟨0, 0, Nat.zero_le _, Nat.zero_le _, rfl, rfl, HP0.out⟩
          case round =>
            obtain ⟨j, y, hj, hj40, rfl, rfl, T2, U2, n2, hBo2, ok, ok2, hg, hn2, hlT, hlU, hb⟩ := hrel
            have HBo := hid hBo2
            have Hok := hid ok
            have Hok2 := hid ok2
            have HG := hid hg
            have Hb := hid hb
            have hlts := hBo2.lts
            clear hBo2 ok ok2 hg hb HP0
            by_cases hall2 : j < q.length ∧ j < 40
            · obtain ⟨hlt, hlt2⟩ := hall2
              have g3 : decide ((j : Int) < (q.length : Int)) = true := by simp; omega
              have g4 : decide ((j : Int) < 40) = true := by simp; omega
              obtain ⟨b, o, ea, d0, d1, d2, d3, d4⟩ := (Hq.out.below Hb.out).cells j hlt
              cases ea
              have hbV : b < w.heap.size := by
                obtain ⟨b', o', e', d', _⟩ := Hq.out.cells j hlt
                injection e' with e'
                injection e' with e1 e2
                rw [e1]
                exact World.block_lt_of_cell? _ _ d'
              have hbr : b < wr.heap.size := Nat.lt_of_lt_of_le hbV Hb.out.size
              have hbp : ¬ DOut p mb r b := by unfold DOut; omega
              have hbp2 : ¬ (b = p ∨ b = mb) := by omega
              have hxs := Hq.out.sizes _ (List.getElem_mem hlt)
              generalize q[j] = x at *
              have Hdo := hid (dob_any HBo.out Hok.out Hok2.out (by omega) (by omega) (by omega) Hb.out.size x hxs.1 hxs.2)
              have Hok3 := hid (tDo_ok Hok.out x)
              have Hok4 := hid (tDo_ok Hok2.out x)
              have HG3 := hid (gone_do HG.out x)
              have hl3 := tDo_len T2 x
              have hl4 := tDo_len U2 x
              generalize tDo T2 x = T3 at *
              generalize tDo U2 x = U3 at *
              have Hget := hid (fun W (h : TabAt W w.heap.size p mb (n2 + 1) T3) => by have := get_any h Hok3.out id 1099511627776; rw [HG3.out.tgetEnd Hok3.out] at this; exact this)
              obtain ⟨z2, hz2, ht2⟩ := HG3.out.ttouch x.now
              have Htou := hid (fun W (h : TabAt W w.heap.size p mb (n2 + 1) T3) => by have := touch_any h Hok3.out (by omega) id x.now; rw [ht2] at this; exact this)
              have Hend := hid (fun W (h : TabAt W w.heap.size p mb (n2 + 1 + 1) T3) => by have := end_any h Hok3.out id; rw [HG3.out.tend] at this; exact this)
              have b2 : (z2 == 0) = false := by simpa using hz2
              clear hz2 ht2 HG Hok Hok2
              by_cases c1 : y < x.now
              · have g5 : decide (y < x.now) = true := by simpa using c1
                by_cases c2 : x.now ≤ 1099511627776
                · have g6 : decide (x.now ≤ 1099511627776) = true := by simpa using c2
                  go_wp2_with (first
                    | (go_at_call 14; refine Hdo.out.mono ?_; rintro e w5 ⟨bb, rfl, hBo5, ho5⟩; have hb5 := Nat.lt_of_lt_of_le hbr ho5.size; have y4 := ((ho5.cells b hbr hbp).1 (o + j * 5 + 4)).trans d4)
                    | (go_at_call 16; refine (Hget.out _ hBo5.tab).mono ?_; rintro e w6 ⟨rfl, hb6⟩; unfold sessV sess0; have x4 := (hb6.cell (p := ⟨b, o + j * 5 + 4, none⟩) hb5).trans y4; have z6 : b < w6.heap.size := Nat.lt_of_lt_of_le hb5 hb6.size; have k6 := Below.on' hb6 ((Below.refl _ w6).alloc (Nat.le_refl _) (.cells #[.int .i64 0, .string ⟨#[]⟩, .string ⟨#[]⟩, .int .i64 0, .int .i64 0] 25)))
                    | (go_at_call 17; refine (Htou.out _ (hBo5.tab.below k6)).mono ?_; rintro e w7 ⟨rfl, hT7, ho7⟩; unfold sessV sess0; have k7 := (Below.refl _ w7).alloc (Nat.le_refl _) (.cells #[.int .i64 0, .string ⟨#[]⟩, .string ⟨#[]⟩, .int .i64 0, .int .i64 0] 25))
                    | (go_at_call 15; refine (Hend.out _ (hT7.below k7)).mono ?_; rintro e w8 ⟨rfl, hT8, ho8⟩))
                  have k5 : Below w.heap.size w w5 := Hb.out.trans (ho5.below Hb.out.size (fun k hk => by rcases hk with e | e | e <;> omega))
                  have ho58 : Out (fun k => k = p ∨ k = mb) w5 w8 := (((Out.of_below k6).trans ho7 (fun _ _ e => e)).trans (Out.of_below k7) (fun _ _ e => e)).trans ho8 (fun _ _ e => e)
                  obtain ⟨hTw, hBl⟩ := two_step hBo5 k5 hT8 ho58 (Below.refl _ w8)
                  go_roundw
                  case rel => exact ⟨j + 1, x.now, by omega, by omega, by go_num, rfl, T3, U3, n2 + 1 + 1, hTw, Hok3.out, Hok4.out, HG3.out, by omega, by omega, by omega, hBl⟩
                  case measure => simp [intOf]; omega
                · have g6 : decide (x.now ≤ 1099511627776) = false := by simpa using c2
                  go_wp2_with (first
                    | (go_at_call 14; refine Hdo.out.mono ?_; rintro e w5 ⟨bb, rfl, hBo5, ho5⟩; have hb5 := Nat.lt_of_lt_of_le hbr ho5.size; have y4 := ((ho5.cells b hbr hbp).1 (o + j * 5 + 4)).trans d4)
                    | (go_at_call 16; refine (Hget.out _ hBo5.tab).mono ?_; rintro e w6 ⟨rfl, hb6⟩; unfold sessV sess0; have x4 := (hb6.cell (p := ⟨b, o + j * 5 + 4, none⟩) hb5).trans y4; have z6 : b < w6.heap.size := Nat.lt_of_lt_of_le hb5 hb6.size; have k6 := Below.on' hb6 ((Below.refl _ w6).alloc (Nat.le_refl _) (.cells #[.int .i64 0, .string ⟨#[]⟩, .string ⟨#[]⟩, .int .i64 0, .int .i64 0] 25)))
                    | (go_at_call 17; refine (Htou.out _ (hBo5.tab.below k6)).mono ?_; rintro e w7 ⟨rfl, hT7, ho7⟩; unfold sessV sess0; have k7 := (Below.refl _ w7).alloc (Nat.le_refl _) (.cells #[.int .i64 0, .string ⟨#[]⟩, .string ⟨#[]⟩, .int .i64 0, .int .i64 0] 25))
                    | (go_at_call 15; refine (Hend.out _ (hT7.below k7)).mono ?_; rintro e w8 ⟨rfl, hT8, ho8⟩))
                  have k5 : Below w.heap.size w w5 := Hb.out.trans (ho5.below Hb.out.size (fun k hk => by rcases hk with e | e | e <;> omega))
                  have ho58 : Out (fun k => k = p ∨ k = mb) w5 w8 := (((Out.of_below k6).trans ho7 (fun _ _ e => e)).trans (Out.of_below k7) (fun _ _ e => e)).trans ho8 (fun _ _ e => e)
                  obtain ⟨hTw, hBl⟩ := two_step hBo5 k5 hT8 ho58 (Below.refl _ w8)
                  go_roundw
                  case rel => exact ⟨j + 1, y, by omega, by omega, by go_num, rfl, T3, U3, n2 + 1 + 1, hTw, Hok3.out, Hok4.out, HG3.out, by omega, by omega, by omega, hBl⟩
                  case measure => simp [intOf]; omega
              · have g5 : decide (y < x.now) = false := by simpa using c1
                go_wp2_with (first
                  | (go_at_call 14; refine Hdo.out.mono ?_; rintro e w5 ⟨bb, rfl, hBo5, ho5⟩; have hb5 := Nat.lt_of_lt_of_le hbr ho5.size; have y4 := ((ho5.cells b hbr hbp).1 (o + j * 5 + 4)).trans d4)
                  | (go_at_call 16; refine (Hget.out _ hBo5.tab).mono ?_; rintro e w6 ⟨rfl, hb6⟩; unfold sessV sess0; have x4 := (hb6.cell (p := ⟨b, o + j * 5 + 4, none⟩) hb5).trans y4; have z6 : b < w6.heap.size := Nat.lt_of_lt_of_le hb5 hb6.size; have k6 := Below.on' hb6 ((Below.refl _ w6).alloc (Nat.le_refl _) (.cells #[.int .i64 0, .string ⟨#[]⟩, .string ⟨#[]⟩, .int .i64 0, .int .i64 0] 25)))
                  | (go_at_call 17; refine (Htou.out _ (hBo5.tab.below k6)).mono ?_; rintro e w7 ⟨rfl, hT7, ho7⟩; unfold sessV sess0; have k7 := (Below.refl _ w7).alloc (Nat.le_refl _) (.cells #[.int .i64 0, .string ⟨#[]⟩, .string ⟨#[]⟩, .int .i64 0, .int .i64 0] 25))
                  | (go_at_call 15; refine (Hend.out _ (hT7.below k7)).mono ?_; rintro e w8 ⟨rfl, hT8, ho8⟩))
                have k5 : Below w.heap.size w w5 := Hb.out.trans (ho5.below Hb.out.size (fun k hk => by rcases hk with e | e | e <;> omega))
                have ho58 : Out (fun k => k = p ∨ k = mb) w5 w8 := (((Out.of_below k6).trans ho7 (fun _ _ e => e)).trans (Out.of_below k7) (fun _ _ e => e)).trans ho8 (fun _ _ e => e)
                obtain ⟨hTw, hBl⟩ := two_step hBo5 k5 hT8 ho58 (Below.refl _ w8)
                go_roundw
                case rel => exact ⟨j + 1, y, by omega, by omega, by go_num, rfl, T3, U3, n2 + 1 + 1, hTw, Hok3.out, Hok4.out, HG3.out, by omega, by omega, by omega, hBl⟩
                case measure => simp [intOf]; omega
            · by_cases c3 : j < q.length
              · have g3 : decide ((j : Int) < (q.length : Int)) = true := by simp; omega
                have g4 : decide ((j : Int) < 40) = false := by simp; omega
                go_wp2
                go_ret
                exact ⟨rfl, Hb.out⟩
              · have g3 : decide ((j : Int) < (q.length : Int)) = false := by simp; omega
                go_wp2
                go_ret
                exact ⟨rfl, Hb.out⟩
end Go.Proofs.Ytedoaahimpnmnaa
