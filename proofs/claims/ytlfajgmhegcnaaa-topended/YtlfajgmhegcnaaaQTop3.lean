/- TopEnded, walked. (Printed by gen/qtop3.py.) -/
import Derived.Test.YtlfajgmhegcnaaaQTop2
namespace Go.Proofs.Ytlfajgmhegcnaaa
open Go.RowKit Go.Maps Go.Sort Go.Shelf
set_option linter.unusedVariables false
set_option maxRecDepth 20000

/-- what stands behind each round -/
def PNow (W : World) (p mb q mf mt n g0 : Nat) (now : Int) (V : World) : Prop := ∃ S T, Pair V W.heap.size p mb q mf mt n S T ∧ Fits S T ∧ S.noted ≤ now ∧ Below W.heap.size W V ∧ V.heap[g0]? = some (.cells #[.string ⟨#[116]⟩, .string ⟨#[117]⟩] 28 (0, 0))
/-- .. and ahead of the look at the tokens -/
def PAll (W : World) (p mb q mf mt n g0 : Nat) (now : Int) (V : World) : Prop := ∃ S T, Pair V W.heap.size p mb q mf mt n S T ∧ Fits S T ∧ AllLive S now ∧ S.noted ≤ now ∧ Below W.heap.size W V ∧ V.heap[g0]? = some (.cells #[.string ⟨#[116]⟩, .string ⟨#[117]⟩] 28 (0, 0))
theorem po_below {W w w' : World} {p mb q mf mt n : Nat} {S : Ses.Tab} {T : Sto} (h : Pair w W.heap.size p mb q mf mt n S T) (hb : Below W.heap.size W w) (o : Out (PO p mb q mf mt) w w') : Below W.heap.size W w' := by
  have l := h.lts
  exact hb.trans (o.below hb.size (fun k hk => by unfold PO at hk; omega))
theorem po_keep {w w' : World} {B p mb q mf mt n g0 : Nat} {S : Ses.Tab} {T : Sto} {x : Option Obj} (h : Pair w B p mb q mf mt n S T) (hg : g0 < w.heap.size) (hgl : p < g0 ∧ mb < g0 ∧ q < g0 ∧ mf < g0 ∧ mt < g0) (o : Out (PO p mb q mf mt) w w') (hx : w.heap[g0]? = x) : w'.heap[g0]? = x := (o.block g0 hg (by unfold PO; omega)).trans hx
theorem noted_touch {S : Ses.Tab} {id now : Int} (h : S.noted ≤ now) : (Ses.tTouch S id now).1.noted ≤ now := by
  unfold Ses.tTouch
  split
  · exact h
  · exact Int.le_refl _
theorem noted_begin {S : Ses.Tab} {t u : ByteArray} {now : Int} (h : S.noted ≤ now) : (Ses.tBegin S t u now).1.noted ≤ now := by
  unfold Ses.tBegin
  split
  · exact h
  · exact Int.le_refl _
theorem live_in {S : Ses.Tab} {t u : ByteArray} {now : Int} {i : Nat} {s : Ses.Sess} (h : (Ses.tLive S t u now)[i]? = some s) : s ∈ S.l := by
  have := List.mem_of_getElem? h
  unfold Ses.tLive at this
  split at this
  · cases this
  · exact (List.mem_filter.1 this).1
theorem wrap_id9 {x : Int} (h1 : -9223372036854775808 ≤ x) (h2 : x ≤ 9223372036854775807) : IntKind.i64.wrap x = x := by
  simp [IntKind.wrap, IntKind.signed, IntKind.bits]
  omega
set_option maxHeartbeats 12800000 in
theorem topEnded_walk (W : World) {a : Option Addr} {l : List Int} (hl : U16s W a l) (cap : Nat) :
    Calls Try.prog 3 #[.slice a l.length cap] W fun e w' => e = .returned (.bool true) ∧ Below W.heap.size W w' := by
  have Hl := hid hl
  have hN2 : l.length ≤ 9223372036854775807 := by simpa [maxLen] using hl.length
  have HN := hid (Ses.new_any W)
  have HT := hid new_any
  clear hl
  generalize hN : l.length = N at *
  have HLen := hid hN
  clear hN
  go_enter Try.func3, Try.ntmps3
  go_wp2_with (first
    | (go_at_call 4; refine HN.out.mono ?_; rintro e w1 ⟨p, mb, rfl, hS1, hb1⟩; have H1 := hid hS1; have B1 := hid hb1; clear hS1 hb1)
    | (go_at_call 5; refine (HT.out _).mono ?_; rintro e w2 ⟨q, mf, mt, rfl, hT2, hb2⟩; have H2 := hid hT2; have B2 := hid hb2; clear hT2 hb2))
  obtain ⟨V1, hV1⟩ : ∃ V1, V1 = w2.alloc (.cells #[.string ⟨#[116]⟩, .string ⟨#[117]⟩] 28) := ⟨_, rfl⟩
  rw [← hV1]
  obtain ⟨g0, hg0⟩ : ∃ g0, g0 = w2.heap.size := ⟨_, rfl⟩
  rw [← hg0]
  have o1 : V1.heap[g0]? = some (.cells #[.string ⟨#[116]⟩, .string ⟨#[117]⟩] 28 (0, 0)) := by rw [hV1, hg0]; exact (MapKept.heap_alloc w2 _).1
  have bV1 : Below w2.heap.size w2 V1 := by rw [hV1]; exact (Below.refl _ w2).alloc (Nat.le_refl _) _
  have hP1 : Pair V1 W.heap.size p mb q mf mt 0 Ses.tab0 sto0 := by
    have l1 := H1.out.lts
    have hm := H2.out
    exact ⟨⟨0, Nat.le_refl _, (H1.out.below B2.out).below bV1⟩, Ses.tab0_ok, ⟨0, 0, Nat.le_refl _, Nat.le_refl _, (H2.out.below bV1).mono B1.out.size⟩, sto0_ok, Nat.le_refl _, Nat.le_refl _, Nat.le_refl _, by have := hm.bf; omega, by have := hm.bt; omega⟩
  have GG : Hid (p < g0 ∧ mb < g0 ∧ q < g0 ∧ mf < g0 ∧ mt < g0) := by
    have l1 := H1.out.lts
    have l2 := H2.out.lts
    have := B2.out.size
    show _ ∧ _
    omega
  have bW1 : Below W.heap.size W V1 := (B1.out.trans (B2.out.mono B1.out.size)).trans (bV1.mono (by have := B1.out.size; have := B2.out.size; omega))
  have HS1 : Hid (PNow W p mb q mf mt 0 g0 0 V1) := ⟨_, _, hP1, fun f hf => (by cases hf), (by decide), bW1, o1⟩
  clear o1 bV1 hP1 bW1 hV1 hg0
  go_loopw [6, 7] (fun nw i wr => ∃ (k : Nat) (now : Int), k ≤ N ∧ k ≤ 40 ∧ nw = .int .i64 now ∧ 0 ≤ now ∧ now ≤ 120 * k ∧ i = .int .i64 k ∧ PNow W p mb q mf mt (4 * k) g0 now wr) (fun _ i _ => N - (intOf i).toNat)
  case atStart => exact ⟨0, 0, Nat.zero_le _, Nat.zero_le _, rfl, Int.le_refl _, by decide, rfl, HS1.out⟩
  case round =>
    obtain ⟨k, now, hk, hk8, rfl, hn0, hn1, rfl, S, T, hP, hF, hS, hB, hO⟩ := hrel
    obtain ⟨V0, hV0⟩ : ∃ V0, V0 = wr := ⟨_, rfl⟩
    rw [← hV0] at hP hB hO ⊢
    clear hV0
    have HP := hid hP
    have HF := hid hF
    have HB := hid hB
    have HO := hid hO
    have GL : Hid (g0 < V0.heap.size ∧ (p < g0 ∧ mb < g0 ∧ q < g0 ∧ mf < g0 ∧ mt < g0)) := ⟨(Array.getElem?_eq_some_iff.1 hO).1, GG.out⟩
    clear hP hF hB hO
    have hstop : (k < N ∧ k < 40) ∨ (¬ k < N) ∨ (k < N ∧ k = 40) := by omega
    rcases hstop with ⟨hlt, h8⟩ | hstop
    · have g1 : decide ((k : Int) < (N : Int)) = true := by simpa using hlt
      have g2 : decide ((k : Int) < 40) = true := by simp; omega
      obtain ⟨b, o, ea, cc⟩ := Hl.out.cells k (by rw [HLen.out]; exact hlt)
      cases ea
      have hx := Hl.out.wf _ (List.getElem_mem (l := l) (n := k) (by rw [HLen.out]; exact hlt))
      generalize l[k]'(by rw [HLen.out]; exact hlt) = x at *
      have c0 : Hid (∀ X, Below W.heap.size W X → X.cell? ⟨b, o + k, none⟩ = some (.int .u16 x)) := fun X hX => (hX.cell (World.block_lt_of_cell? _ _ cc)).trans cc
      have cV := c0.out _ HB.out
      have hxm : 0 ≤ x % 120 ∧ x % 120 ≤ 119 := by omega
      have HTE : Hid (Ses.timeErr (now + x % 120) S.noted = 0) := te_ok (by omega) (by omega) (by omega)
      clear cc hS
      have hx3 : x % 3 = 0 ∨ x % 3 = 1 ∨ x % 3 = 2 := by omega
      rcases hx3 with h3 | h3 | h3
      · have m0 : (x % 3 == 0) = true := by simp; omega
        go_wp2_with (first
          | (go_at_call 7; refine (pair_endS P3.out (by omega) I3.out sc L3.out).mono ?_; rintro e w4 ⟨⟨v4, rfl⟩, hP4, ho4⟩; have B4 := hid (po_below P3.out B3.out ho4); have O4 := hid (po_keep P3.out (Nat.lt_of_lt_of_le GL.out.1 Z3.out) GL.out.2 ho4 O3.out); have P4 := hid hP4; have c4 := c0.out _ B4.out; have oc0 : w4.cell? ⟨g0, 0, none⟩ = some (.string ⟨#[116]⟩) := cell_of_row _ _ 0 _ _ _ O4.out; have oc1 : w4.cell? ⟨g0, 1, none⟩ = some (.string ⟨#[117]⟩) := cell_of_row _ _ 1 _ _ _ O4.out; have og := (Array.getElem?_eq_some_iff.1 O4.out).1; clear hP4 ho4)
          | (go_at_call 6; refine (pair_sweep HP.out (by omega) (now + x % 120)).mono ?_; rintro e w3 ⟨sa, sc, rfl, hi3, hl3, hP3, ho3⟩; rw [HTE.out]; have B3 := hid (po_below HP.out HB.out ho3); have O3 := hid (po_keep HP.out GL.out.1 GL.out.2 ho3 HO.out); have P3 := hid hP3; have I3 := hid hi3; have L3 := hid hl3; have Z3 := hid ho3.size; clear hi3 hl3 hP3 ho3)
          | (go_at_call 8; refine (pair_begin P4.out (by omega) ⟨#[116]⟩ ⟨#[117]⟩ (now + x % 120) (by decide) (by decide)).mono ?_; rintro e w5 ⟨⟨v5, rfl⟩, hP5, ho5⟩; have HI : Hid (PAll W p mb q mf mt (4 * k + 4) g0 (now + x % 120) w5) := (by have fs := fits_sweep HF.out (now + x % 120) HTE.out; have fb := fits_begin fs.1 fs.2.1 ⟨#[116]⟩ ⟨#[117]⟩ (by omega); exact ⟨_, _, hP5.more (by omega), fb.1, fb.2, noted_begin (Int.le_of_eq fs.2.2), po_below P4.out B4.out ho5, po_keep P4.out og GL.out.2 ho5 O4.out⟩); clear hP5 ho5))
        obtain ⟨S9, T9, hP9, hF9, hA9, hN9, hB9, hO9⟩ := HI.out
        have HP9 := hid hP9
        have HF9 := hid hF9
        have HA9 := hid hA9
        have HB9 := hid hB9
        have HO9 := hid hO9
        have HN9 := hid hN9
        clear hP9 hF9 hA9 hB9 hO9 hN9 HI
        go_loopw [14] (fun i wr => ∃ j : Nat, 1 ≤ j ∧ j ≤ 20 ∧ i = .int .i64 j ∧ Below w5.heap.size w5 wr) (fun i _ => 20 - (intOf i).toNat)
        case atStart => exact ⟨1, Nat.le_refl _, by omega, rfl, Below.refl _ _⟩
        case round =>
          obtain ⟨j, hj1, hj2, rfl, hbj⟩ := hrel
          have HBj := hid hbj
          clear hbj
          by_cases h20 : j < 20
          · have g20 : decide ((j : Int) < 20) = true := by simp; omega
            obtain ⟨⟨m1, _, hs1⟩, sok, ⟨k1, k2, _, _, ht1⟩, ok, _, _, _, _⟩ := HP9.out.below HBj.out
            have Hac := access_any ht1 ok (j : Int) (now + x % 120)
            obtain ⟨y, hy⟩ : ∃ y, y = tAccess T9 (j : Int) (now + x % 120) := ⟨_, rfl⟩
            rw [← hy] at Hac
            obtain ⟨⟨ta, tb, tc, td⟩, z⟩ := y
            unfold Tok.sessV at Hac
            dsimp only at Hac
            have HAc := hid Hac
            clear Hac
            by_cases hz : z = 0
            · subst hz
              obtain ⟨⟨fa, fb, fc, fd, fe⟩, ⟨sa5, sb5, sc5, sd5, se5⟩, hf, hg⟩ := good_live sok ok HF9.out HA9.out (te_ok (by omega) (by omega) HN9.out) hy.symm
              dsimp only at hf hg
              have HFm := hid (fun (X : World) (hX : Below wr.heap.size wr X) => by
                have := family_any (ht1.below hX) ok tb
                rw [hf] at this
                unfold Fam.sessV at this
                exact this)
              have HGt := hid (fun (X : World) (hX : Below wr.heap.size wr X) => by
                have := Ses.get_any (hs1.below hX) sok fb (now + x % 120)
                rw [hg] at this
                unfold Ses.sessV at this
                exact this)
              clear hf hg hs1 ht1 sok ok hy
              go_wp2_with (first
                | (go_at_call 14; refine (HGt.out _ B8.out).mono ?_; rintro e w9 ⟨rfl, hb9⟩; have b9 : Below wr.heap.size wr (w9.alloc (.cells #[.int .i64 sa5, .string sb5, .string sc5, .int .i64 sd5, .int .i64 se5] 36)) := (B8.out.trans (hb9.mono B8.out.size)).alloc (Nat.le_trans B8.out.size hb9.size) _; have B9 := hid b9; clear b9 hb9)
                | (go_at_call 13; refine (HFm.out _ B7.out).mono ?_; rintro e w8 ⟨rfl, hb8⟩; have b8 : Below wr.heap.size wr (w8.alloc (.cells #[.int .i64 fa, .int .i64 fb, .string fc, .int .u8 fd, .int .i64 fe] 44)) := (B7.out.trans (hb8.mono B7.out.size)).alloc (Nat.le_trans B7.out.size hb8.size) _; have B8 := hid b8; clear b8 hb8)
                | (go_at_call 12; refine HAc.out.mono ?_; rintro e w7 ⟨rfl, hb7⟩; have b7 : Below wr.heap.size wr (w7.alloc (.cells #[.int .i64 ta, .int .i64 tb, .int .u8 tc, .int .i64 td] 46)) := hb7.alloc hb7.size _; have B7 := hid b7; clear b7 hb7))
              go_roundw
              case rel => exact ⟨j + 1, by omega, by omega, by go_num, HBj.out.trans (B9.out.mono HBj.out.size)⟩
              case measure => simp [intOf]; omega
            · have qz : (z != 0) = true := by simpa using hz
              clear hz hs1 ht1 sok ok hy
              go_wp2_with (go_at_call 12; refine HAc.out.mono ?_; rintro e w7 ⟨rfl, hb7⟩; have b7 : Below wr.heap.size wr (w7.alloc (.cells #[.int .i64 ta, .int .i64 tb, .int .u8 tc, .int .i64 td] 46)) := hb7.alloc hb7.size _; have B7 := hid b7; clear b7 hb7)
              go_roundw
              case rel => exact ⟨j + 1, by omega, by omega, by go_num, HBj.out.trans (B7.out.mono HBj.out.size)⟩
              case measure => simp [intOf]; omega
          · have e20 : j = 20 := by omega
            subst e20
            go_wp2
            go_roundw
            case rel => exact ⟨k + 1, (now + x % 120), by omega, by omega, rfl, by omega, by omega, by go_num, S9, T9, (HP9.out.below HBj.out).more (by omega), HF9.out, HN9.out, HB9.out.trans (HBj.out.mono HB9.out.size), (HBj.out.block g0 (Array.getElem?_eq_some_iff.1 HO9.out).1).trans HO9.out⟩
            case measure => simp [intOf]; omega
      · have m0 : (x % 3 == 0) = false := by simp; omega
        have m1 : (x % 3 == 1) = true := by simp; omega
        have HFs := hid (fits_sweep HF.out (now + x % 120) HTE.out)
        obtain ⟨Lv, hLv⟩ : ∃ Lv, Lv = Ses.tLive (Ses.tSweep S (now + x % 120)) ⟨#[116]⟩ ⟨#[117]⟩ (now + x % 120) := ⟨_, rfl⟩
        have HLv := hid hLv
        have hlen5 : Lv.length ≤ 1000 := by
          have h9 : Lv.length ≤ S.l.length := by
            rw [hLv]
            unfold Ses.tLive
            split
            · exact Nat.zero_le _
            · refine Nat.le_trans (List.length_filter_le _ _) ?_
              unfold Ses.tSweep
              split
              · exact Nat.le_refl _
              · exact List.length_filter_le _ _
          have := HP.out.ls
          omega
        by_cases hLv0 : 0 < Lv.length
        · obtain ⟨n5, hn5⟩ : ∃ n5, n5 = Lv.length := ⟨_, rfl⟩
          have Hn5 : Hid (Lv.length = n5) := hn5.symm
          obtain ⟨sx, hsx⟩ : ∃ sx, Lv[0]? = some sx := ⟨_, List.getElem?_eq_getElem (by omega)⟩
          have Hsx := hid hsx
          have Hsm : Hid (sx ∈ (Ses.tSweep S (now + x % 120)).l) := live_in (by rw [← hLv]; exact hsx)
          have g5 : 0 < n5 := by omega
          have g5' : decide (0 < (n5 : Int)) = true := by simp; omega
          clear hn5
          clear hLv hsx hLv0
          go_wp2_with (first
            | (go_at_call 7; refine (pair_endS P3.out (by omega) I3.out sc L3.out).mono ?_; rintro e w4 ⟨⟨v4, rfl⟩, hP4, ho4⟩; have B4 := hid (po_below P3.out B3.out ho4); have O4 := hid (po_keep P3.out (Nat.lt_of_lt_of_le GL.out.1 Z3.out) GL.out.2 ho4 O3.out); have P4 := hid hP4; have c4 := c0.out _ B4.out; have oc0 : w4.cell? ⟨g0, 0, none⟩ = some (.string ⟨#[116]⟩) := cell_of_row _ _ 0 _ _ _ O4.out; have oc1 : w4.cell? ⟨g0, 1, none⟩ = some (.string ⟨#[117]⟩) := cell_of_row _ _ 1 _ _ _ O4.out; have og := (Array.getElem?_eq_some_iff.1 O4.out).1; clear hP4 ho4)
            | (go_at_call 6; refine (pair_sweep HP.out (by omega) (now + x % 120)).mono ?_; rintro e w3 ⟨sa, sc, rfl, hi3, hl3, hP3, ho3⟩; rw [HTE.out]; have B3 := hid (po_below HP.out HB.out ho3); have O3 := hid (po_keep HP.out GL.out.1 GL.out.2 ho3 HO.out); have P3 := hid hP3; have I3 := hid hi3; have L3 := hid hl3; have Z3 := hid ho3.size; clear hi3 hl3 hP3 ho3)
            | (go_at_call 10; refine (pair_grant HP5.out (by omega) sx.id ⟨#[99]⟩ 7 (now + x % 120) (by decide) (by decide)).mono ?_; rintro e w6 ⟨⟨v6, rfl⟩, hP6, ho6⟩; have HI : Hid (PAll W p mb q mf mt (4 * k + 4) g0 (now + x % 120) w6) := ⟨_, _, hP6.more (by omega), fits_grant HFs.out.1 Hsm.out ⟨#[99]⟩ 7 (now + x % 120), HFs.out.2.1, Int.le_of_eq HFs.out.2.2, po_below HP5.out HB5.out ho6, po_keep HP5.out og5 GL.out.2 ho6 HO5.out⟩; clear hP6 ho6)
            | (go_at_call 9; refine (pair_live P4.out (by omega) ⟨#[116]⟩ ⟨#[117]⟩ (now + x % 120)).mono ?_; rintro e w5 ⟨xa, xc, rfl, hi5, hP5, ho5⟩; rw [← HLv.out] at hi5 ⊢; have HB5 := hid (po_below P4.out B4.out ho5); have o5 := po_keep P4.out og GL.out.2 ho5 O4.out; have og5 := (Array.getElem?_eq_some_iff.1 o5).1; have HO5 := hid o5; have HP5 := hid hP5; obtain ⟨hx5, ex5⟩ := List.getElem?_eq_some_iff.1 Hsx.out; obtain ⟨bx, ox, ea, cx⟩ := hi5 0 hx5; cases ea; rw [ex5] at cx; simp only [Nat.zero_mul, Nat.add_zero] at cx; clear hx5 ex5; rw [Hn5.out]; clear hi5 hP5 ho5 o5))
          obtain ⟨S9, T9, hP9, hF9, hA9, hN9, hB9, hO9⟩ := HI.out
          have HP9 := hid hP9
          have HF9 := hid hF9
          have HA9 := hid hA9
          have HB9 := hid hB9
          have HO9 := hid hO9
          have HN9 := hid hN9
          clear hP9 hF9 hA9 hB9 hO9 hN9 HI
          go_loopw [14] (fun i wr => ∃ j : Nat, 1 ≤ j ∧ j ≤ 20 ∧ i = .int .i64 j ∧ Below w6.heap.size w6 wr) (fun i _ => 20 - (intOf i).toNat)
          case atStart => exact ⟨1, Nat.le_refl _, by omega, rfl, Below.refl _ _⟩
          case round =>
            obtain ⟨j, hj1, hj2, rfl, hbj⟩ := hrel
            have HBj := hid hbj
            clear hbj
            by_cases h20 : j < 20
            · have g20 : decide ((j : Int) < 20) = true := by simp; omega
              obtain ⟨⟨m1, _, hs1⟩, sok, ⟨k1, k2, _, _, ht1⟩, ok, _, _, _, _⟩ := HP9.out.below HBj.out
              have Hac := access_any ht1 ok (j : Int) (now + x % 120)
              obtain ⟨y, hy⟩ : ∃ y, y = tAccess T9 (j : Int) (now + x % 120) := ⟨_, rfl⟩
              rw [← hy] at Hac
              obtain ⟨⟨ta, tb, tc, td⟩, z⟩ := y
              unfold Tok.sessV at Hac
              dsimp only at Hac
              have HAc := hid Hac
              clear Hac
              by_cases hz : z = 0
              · subst hz
                obtain ⟨⟨fa, fb, fc, fd, fe⟩, ⟨sa5, sb5, sc5, sd5, se5⟩, hf, hg⟩ := good_live sok ok HF9.out HA9.out (te_ok (by omega) (by omega) HN9.out) hy.symm
                dsimp only at hf hg
                have HFm := hid (fun (X : World) (hX : Below wr.heap.size wr X) => by
                  have := family_any (ht1.below hX) ok tb
                  rw [hf] at this
                  unfold Fam.sessV at this
                  exact this)
                have HGt := hid (fun (X : World) (hX : Below wr.heap.size wr X) => by
                  have := Ses.get_any (hs1.below hX) sok fb (now + x % 120)
                  rw [hg] at this
                  unfold Ses.sessV at this
                  exact this)
                clear hf hg hs1 ht1 sok ok hy
                go_wp2_with (first
                  | (go_at_call 14; refine (HGt.out _ B8.out).mono ?_; rintro e w9 ⟨rfl, hb9⟩; have b9 : Below wr.heap.size wr (w9.alloc (.cells #[.int .i64 sa5, .string sb5, .string sc5, .int .i64 sd5, .int .i64 se5] 36)) := (B8.out.trans (hb9.mono B8.out.size)).alloc (Nat.le_trans B8.out.size hb9.size) _; have B9 := hid b9; clear b9 hb9)
                  | (go_at_call 13; refine (HFm.out _ B7.out).mono ?_; rintro e w8 ⟨rfl, hb8⟩; have b8 : Below wr.heap.size wr (w8.alloc (.cells #[.int .i64 fa, .int .i64 fb, .string fc, .int .u8 fd, .int .i64 fe] 44)) := (B7.out.trans (hb8.mono B7.out.size)).alloc (Nat.le_trans B7.out.size hb8.size) _; have B8 := hid b8; clear b8 hb8)
                  | (go_at_call 12; refine HAc.out.mono ?_; rintro e w7 ⟨rfl, hb7⟩; have b7 : Below wr.heap.size wr (w7.alloc (.cells #[.int .i64 ta, .int .i64 tb, .int .u8 tc, .int .i64 td] 46)) := hb7.alloc hb7.size _; have B7 := hid b7; clear b7 hb7))
                go_roundw
                case rel => exact ⟨j + 1, by omega, by omega, by go_num, HBj.out.trans (B9.out.mono HBj.out.size)⟩
                case measure => simp [intOf]; omega
              · have qz : (z != 0) = true := by simpa using hz
                clear hz hs1 ht1 sok ok hy
                go_wp2_with (go_at_call 12; refine HAc.out.mono ?_; rintro e w7 ⟨rfl, hb7⟩; have b7 : Below wr.heap.size wr (w7.alloc (.cells #[.int .i64 ta, .int .i64 tb, .int .u8 tc, .int .i64 td] 46)) := hb7.alloc hb7.size _; have B7 := hid b7; clear b7 hb7)
                go_roundw
                case rel => exact ⟨j + 1, by omega, by omega, by go_num, HBj.out.trans (B7.out.mono HBj.out.size)⟩
                case measure => simp [intOf]; omega
            · have e20 : j = 20 := by omega
              subst e20
              go_wp2
              go_roundw
              case rel => exact ⟨k + 1, (now + x % 120), by omega, by omega, rfl, by omega, by omega, by go_num, S9, T9, (HP9.out.below HBj.out).more (by omega), HF9.out, HN9.out, HB9.out.trans (HBj.out.mono HB9.out.size), (HBj.out.block g0 (Array.getElem?_eq_some_iff.1 HO9.out).1).trans HO9.out⟩
              case measure => simp [intOf]; omega
        · have Hn5 : Hid (Lv.length = 0) := (by show _ = _; omega)
          clear hLv hLv0
          go_wp2_with (first
            | (go_at_call 7; refine (pair_endS P3.out (by omega) I3.out sc L3.out).mono ?_; rintro e w4 ⟨⟨v4, rfl⟩, hP4, ho4⟩; have B4 := hid (po_below P3.out B3.out ho4); have O4 := hid (po_keep P3.out (Nat.lt_of_lt_of_le GL.out.1 Z3.out) GL.out.2 ho4 O3.out); have P4 := hid hP4; have c4 := c0.out _ B4.out; have oc0 : w4.cell? ⟨g0, 0, none⟩ = some (.string ⟨#[116]⟩) := cell_of_row _ _ 0 _ _ _ O4.out; have oc1 : w4.cell? ⟨g0, 1, none⟩ = some (.string ⟨#[117]⟩) := cell_of_row _ _ 1 _ _ _ O4.out; have og := (Array.getElem?_eq_some_iff.1 O4.out).1; clear hP4 ho4)
            | (go_at_call 6; refine (pair_sweep HP.out (by omega) (now + x % 120)).mono ?_; rintro e w3 ⟨sa, sc, rfl, hi3, hl3, hP3, ho3⟩; rw [HTE.out]; have B3 := hid (po_below HP.out HB.out ho3); have O3 := hid (po_keep HP.out GL.out.1 GL.out.2 ho3 HO.out); have P3 := hid hP3; have I3 := hid hi3; have L3 := hid hl3; have Z3 := hid ho3.size; clear hi3 hl3 hP3 ho3)
            | (go_at_call 9; refine (pair_live P4.out (by omega) ⟨#[116]⟩ ⟨#[117]⟩ (now + x % 120)).mono ?_; rintro e w5 ⟨xa, xc, rfl, hi5, hP5, ho5⟩; rw [← HLv.out] at hi5 ⊢; have HB5 := hid (po_below P4.out B4.out ho5); have o5 := po_keep P4.out og GL.out.2 ho5 O4.out; have og5 := (Array.getElem?_eq_some_iff.1 o5).1; have HO5 := hid o5; have HP5 := hid hP5; skip; rw [Hn5.out]; clear hi5 hP5 ho5 o5))
          have HI : Hid (PAll W p mb q mf mt (4 * k + 4) g0 (now + x % 120) w5) := ⟨_, _, HP5.out.more (by omega), HFs.out.1, HFs.out.2.1, Int.le_of_eq HFs.out.2.2, HB5.out, HO5.out⟩
          obtain ⟨S9, T9, hP9, hF9, hA9, hN9, hB9, hO9⟩ := HI.out
          have HP9 := hid hP9
          have HF9 := hid hF9
          have HA9 := hid hA9
          have HB9 := hid hB9
          have HO9 := hid hO9
          have HN9 := hid hN9
          clear hP9 hF9 hA9 hB9 hO9 hN9 HI
          go_loopw [14] (fun i wr => ∃ j : Nat, 1 ≤ j ∧ j ≤ 20 ∧ i = .int .i64 j ∧ Below w5.heap.size w5 wr) (fun i _ => 20 - (intOf i).toNat)
          case atStart => exact ⟨1, Nat.le_refl _, by omega, rfl, Below.refl _ _⟩
          case round =>
            obtain ⟨j, hj1, hj2, rfl, hbj⟩ := hrel
            have HBj := hid hbj
            clear hbj
            by_cases h20 : j < 20
            · have g20 : decide ((j : Int) < 20) = true := by simp; omega
              obtain ⟨⟨m1, _, hs1⟩, sok, ⟨k1, k2, _, _, ht1⟩, ok, _, _, _, _⟩ := HP9.out.below HBj.out
              have Hac := access_any ht1 ok (j : Int) (now + x % 120)
              obtain ⟨y, hy⟩ : ∃ y, y = tAccess T9 (j : Int) (now + x % 120) := ⟨_, rfl⟩
              rw [← hy] at Hac
              obtain ⟨⟨ta, tb, tc, td⟩, z⟩ := y
              unfold Tok.sessV at Hac
              dsimp only at Hac
              have HAc := hid Hac
              clear Hac
              by_cases hz : z = 0
              · subst hz
                obtain ⟨⟨fa, fb, fc, fd, fe⟩, ⟨sa5, sb5, sc5, sd5, se5⟩, hf, hg⟩ := good_live sok ok HF9.out HA9.out (te_ok (by omega) (by omega) HN9.out) hy.symm
                dsimp only at hf hg
                have HFm := hid (fun (X : World) (hX : Below wr.heap.size wr X) => by
                  have := family_any (ht1.below hX) ok tb
                  rw [hf] at this
                  unfold Fam.sessV at this
                  exact this)
                have HGt := hid (fun (X : World) (hX : Below wr.heap.size wr X) => by
                  have := Ses.get_any (hs1.below hX) sok fb (now + x % 120)
                  rw [hg] at this
                  unfold Ses.sessV at this
                  exact this)
                clear hf hg hs1 ht1 sok ok hy
                go_wp2_with (first
                  | (go_at_call 14; refine (HGt.out _ B8.out).mono ?_; rintro e w9 ⟨rfl, hb9⟩; have b9 : Below wr.heap.size wr (w9.alloc (.cells #[.int .i64 sa5, .string sb5, .string sc5, .int .i64 sd5, .int .i64 se5] 36)) := (B8.out.trans (hb9.mono B8.out.size)).alloc (Nat.le_trans B8.out.size hb9.size) _; have B9 := hid b9; clear b9 hb9)
                  | (go_at_call 13; refine (HFm.out _ B7.out).mono ?_; rintro e w8 ⟨rfl, hb8⟩; have b8 : Below wr.heap.size wr (w8.alloc (.cells #[.int .i64 fa, .int .i64 fb, .string fc, .int .u8 fd, .int .i64 fe] 44)) := (B7.out.trans (hb8.mono B7.out.size)).alloc (Nat.le_trans B7.out.size hb8.size) _; have B8 := hid b8; clear b8 hb8)
                  | (go_at_call 12; refine HAc.out.mono ?_; rintro e w7 ⟨rfl, hb7⟩; have b7 : Below wr.heap.size wr (w7.alloc (.cells #[.int .i64 ta, .int .i64 tb, .int .u8 tc, .int .i64 td] 46)) := hb7.alloc hb7.size _; have B7 := hid b7; clear b7 hb7))
                go_roundw
                case rel => exact ⟨j + 1, by omega, by omega, by go_num, HBj.out.trans (B9.out.mono HBj.out.size)⟩
                case measure => simp [intOf]; omega
              · have qz : (z != 0) = true := by simpa using hz
                clear hz hs1 ht1 sok ok hy
                go_wp2_with (go_at_call 12; refine HAc.out.mono ?_; rintro e w7 ⟨rfl, hb7⟩; have b7 : Below wr.heap.size wr (w7.alloc (.cells #[.int .i64 ta, .int .i64 tb, .int .u8 tc, .int .i64 td] 46)) := hb7.alloc hb7.size _; have B7 := hid b7; clear b7 hb7)
                go_roundw
                case rel => exact ⟨j + 1, by omega, by omega, by go_num, HBj.out.trans (B7.out.mono HBj.out.size)⟩
                case measure => simp [intOf]; omega
            · have e20 : j = 20 := by omega
              subst e20
              go_wp2
              go_roundw
              case rel => exact ⟨k + 1, (now + x % 120), by omega, by omega, rfl, by omega, by omega, by go_num, S9, T9, (HP9.out.below HBj.out).more (by omega), HF9.out, HN9.out, HB9.out.trans (HBj.out.mono HB9.out.size), (HBj.out.block g0 (Array.getElem?_eq_some_iff.1 HO9.out).1).trans HO9.out⟩
              case measure => simp [intOf]; omega
      · have m0 : (x % 3 == 0) = false := by simp; omega
        have m1 : (x % 3 == 1) = false := by simp; omega
        have HFs := hid (fits_sweep HF.out (now + x % 120) HTE.out)
        obtain ⟨Lv, hLv⟩ : ∃ Lv, Lv = Ses.tLive (Ses.tSweep S (now + x % 120)) ⟨#[116]⟩ ⟨#[117]⟩ (now + x % 120) := ⟨_, rfl⟩
        have HLv := hid hLv
        have hlen5 : Lv.length ≤ 1000 := by
          have h9 : Lv.length ≤ S.l.length := by
            rw [hLv]
            unfold Ses.tLive
            split
            · exact Nat.zero_le _
            · refine Nat.le_trans (List.length_filter_le _ _) ?_
              unfold Ses.tSweep
              split
              · exact Nat.le_refl _
              · exact List.length_filter_le _ _
          have := HP.out.ls
          omega
        by_cases hLv0 : 0 < Lv.length
        · obtain ⟨j5, hj5⟩ : ∃ j5, Lv.length = j5 + 1 := ⟨Lv.length - 1, by omega⟩
          have Hn5 : Hid (Lv.length = j5 + 1) := hj5
          obtain ⟨sx, hsx⟩ : ∃ sx, Lv[j5]? = some sx := ⟨_, List.getElem?_eq_getElem (by omega)⟩
          have Hsx := hid hsx
          have Hsm : Hid (sx ∈ (Ses.tSweep S (now + x % 120)).l) := live_in (by rw [← hLv]; exact hsx)
          have hj9 : j5 ≤ 1000 := by omega
          have g5' : decide (0 < ((j5 + 1 : Nat) : Int)) = true := decide_eq_true (by omega)
          have gw : IntKind.i64.wrap (((j5 + 1 : Nat) : Int) - 1) = (j5 : Int) := by rw [wrap_id9] <;> omega
          clear hj5
          clear hLv hsx hLv0
          go_wp2_with (first
            | (go_at_call 7; refine (pair_endS P3.out (by omega) I3.out sc L3.out).mono ?_; rintro e w4 ⟨⟨v4, rfl⟩, hP4, ho4⟩; have B4 := hid (po_below P3.out B3.out ho4); have O4 := hid (po_keep P3.out (Nat.lt_of_lt_of_le GL.out.1 Z3.out) GL.out.2 ho4 O3.out); have P4 := hid hP4; have c4 := c0.out _ B4.out; have oc0 : w4.cell? ⟨g0, 0, none⟩ = some (.string ⟨#[116]⟩) := cell_of_row _ _ 0 _ _ _ O4.out; have oc1 : w4.cell? ⟨g0, 1, none⟩ = some (.string ⟨#[117]⟩) := cell_of_row _ _ 1 _ _ _ O4.out; have og := (Array.getElem?_eq_some_iff.1 O4.out).1; clear hP4 ho4)
            | (go_at_call 6; refine (pair_sweep HP.out (by omega) (now + x % 120)).mono ?_; rintro e w3 ⟨sa, sc, rfl, hi3, hl3, hP3, ho3⟩; rw [HTE.out]; have B3 := hid (po_below HP.out HB.out ho3); have O3 := hid (po_keep HP.out GL.out.1 GL.out.2 ho3 HO.out); have P3 := hid hP3; have I3 := hid hi3; have L3 := hid hl3; have Z3 := hid ho3.size; clear hi3 hl3 hP3 ho3)
            | (go_at_call 11; refine (pair_touch HP5.out (by omega) sx.id (now + x % 120)).mono ?_; rintro e w6 ⟨⟨v6, rfl⟩, hP6, ho6⟩; have HI : Hid (PAll W p mb q mf mt (4 * k + 4) g0 (now + x % 120) w6) := (by have ft := fits_touch HP5.out.sok HFs.out.1 HFs.out.2.1 sx.id (Int.le_of_eq HFs.out.2.2); exact ⟨_, _, hP6.more (by omega), ft.1, ft.2, noted_touch (Int.le_of_eq HFs.out.2.2), po_below HP5.out HB5.out ho6, po_keep HP5.out og5 GL.out.2 ho6 HO5.out⟩); clear hP6 ho6)
            | (go_at_call 9; refine (pair_live P4.out (by omega) ⟨#[116]⟩ ⟨#[117]⟩ (now + x % 120)).mono ?_; rintro e w5 ⟨xa, xc, rfl, hi5, hP5, ho5⟩; rw [← HLv.out] at hi5 ⊢; have HB5 := hid (po_below P4.out B4.out ho5); have o5 := po_keep P4.out og GL.out.2 ho5 O4.out; have og5 := (Array.getElem?_eq_some_iff.1 o5).1; have HO5 := hid o5; have HP5 := hid hP5; obtain ⟨hx5, ex5⟩ := List.getElem?_eq_some_iff.1 Hsx.out; obtain ⟨bx, ox, ea, cx⟩ := hi5 j5 hx5; cases ea; rw [ex5] at cx; clear hx5 ex5; rw [Hn5.out]; clear hi5 hP5 ho5 o5))
          obtain ⟨S9, T9, hP9, hF9, hA9, hN9, hB9, hO9⟩ := HI.out
          have HP9 := hid hP9
          have HF9 := hid hF9
          have HA9 := hid hA9
          have HB9 := hid hB9
          have HO9 := hid hO9
          have HN9 := hid hN9
          clear hP9 hF9 hA9 hB9 hO9 hN9 HI
          go_loopw [14] (fun i wr => ∃ j : Nat, 1 ≤ j ∧ j ≤ 20 ∧ i = .int .i64 j ∧ Below w6.heap.size w6 wr) (fun i _ => 20 - (intOf i).toNat)
          case atStart => exact ⟨1, Nat.le_refl _, by omega, rfl, Below.refl _ _⟩
          case round =>
            obtain ⟨j, hj1, hj2, rfl, hbj⟩ := hrel
            have HBj := hid hbj
            clear hbj
            by_cases h20 : j < 20
            · have g20 : decide ((j : Int) < 20) = true := by simp; omega
              obtain ⟨⟨m1, _, hs1⟩, sok, ⟨k1, k2, _, _, ht1⟩, ok, _, _, _, _⟩ := HP9.out.below HBj.out
              have Hac := access_any ht1 ok (j : Int) (now + x % 120)
              obtain ⟨y, hy⟩ : ∃ y, y = tAccess T9 (j : Int) (now + x % 120) := ⟨_, rfl⟩
              rw [← hy] at Hac
              obtain ⟨⟨ta, tb, tc, td⟩, z⟩ := y
              unfold Tok.sessV at Hac
              dsimp only at Hac
              have HAc := hid Hac
              clear Hac
              by_cases hz : z = 0
              · subst hz
                obtain ⟨⟨fa, fb, fc, fd, fe⟩, ⟨sa5, sb5, sc5, sd5, se5⟩, hf, hg⟩ := good_live sok ok HF9.out HA9.out (te_ok (by omega) (by omega) HN9.out) hy.symm
                dsimp only at hf hg
                have HFm := hid (fun (X : World) (hX : Below wr.heap.size wr X) => by
                  have := family_any (ht1.below hX) ok tb
                  rw [hf] at this
                  unfold Fam.sessV at this
                  exact this)
                have HGt := hid (fun (X : World) (hX : Below wr.heap.size wr X) => by
                  have := Ses.get_any (hs1.below hX) sok fb (now + x % 120)
                  rw [hg] at this
                  unfold Ses.sessV at this
                  exact this)
                clear hf hg hs1 ht1 sok ok hy
                go_wp2_with (first
                  | (go_at_call 14; refine (HGt.out _ B8.out).mono ?_; rintro e w9 ⟨rfl, hb9⟩; have b9 : Below wr.heap.size wr (w9.alloc (.cells #[.int .i64 sa5, .string sb5, .string sc5, .int .i64 sd5, .int .i64 se5] 36)) := (B8.out.trans (hb9.mono B8.out.size)).alloc (Nat.le_trans B8.out.size hb9.size) _; have B9 := hid b9; clear b9 hb9)
                  | (go_at_call 13; refine (HFm.out _ B7.out).mono ?_; rintro e w8 ⟨rfl, hb8⟩; have b8 : Below wr.heap.size wr (w8.alloc (.cells #[.int .i64 fa, .int .i64 fb, .string fc, .int .u8 fd, .int .i64 fe] 44)) := (B7.out.trans (hb8.mono B7.out.size)).alloc (Nat.le_trans B7.out.size hb8.size) _; have B8 := hid b8; clear b8 hb8)
                  | (go_at_call 12; refine HAc.out.mono ?_; rintro e w7 ⟨rfl, hb7⟩; have b7 : Below wr.heap.size wr (w7.alloc (.cells #[.int .i64 ta, .int .i64 tb, .int .u8 tc, .int .i64 td] 46)) := hb7.alloc hb7.size _; have B7 := hid b7; clear b7 hb7))
                go_roundw
                case rel => exact ⟨j + 1, by omega, by omega, by go_num, HBj.out.trans (B9.out.mono HBj.out.size)⟩
                case measure => simp [intOf]; omega
              · have qz : (z != 0) = true := by simpa using hz
                clear hz hs1 ht1 sok ok hy
                go_wp2_with (go_at_call 12; refine HAc.out.mono ?_; rintro e w7 ⟨rfl, hb7⟩; have b7 : Below wr.heap.size wr (w7.alloc (.cells #[.int .i64 ta, .int .i64 tb, .int .u8 tc, .int .i64 td] 46)) := hb7.alloc hb7.size _; have B7 := hid b7; clear b7 hb7)
                go_roundw
                case rel => exact ⟨j + 1, by omega, by omega, by go_num, HBj.out.trans (B7.out.mono HBj.out.size)⟩
                case measure => simp [intOf]; omega
            · have e20 : j = 20 := by omega
              subst e20
              go_wp2
              go_roundw
              case rel => exact ⟨k + 1, (now + x % 120), by omega, by omega, rfl, by omega, by omega, by go_num, S9, T9, (HP9.out.below HBj.out).more (by omega), HF9.out, HN9.out, HB9.out.trans (HBj.out.mono HB9.out.size), (HBj.out.block g0 (Array.getElem?_eq_some_iff.1 HO9.out).1).trans HO9.out⟩
              case measure => simp [intOf]; omega
        · have Hn5 : Hid (Lv.length = 0) := (by show _ = _; omega)
          clear hLv hLv0
          go_wp2_with (first
            | (go_at_call 7; refine (pair_endS P3.out (by omega) I3.out sc L3.out).mono ?_; rintro e w4 ⟨⟨v4, rfl⟩, hP4, ho4⟩; have B4 := hid (po_below P3.out B3.out ho4); have O4 := hid (po_keep P3.out (Nat.lt_of_lt_of_le GL.out.1 Z3.out) GL.out.2 ho4 O3.out); have P4 := hid hP4; have c4 := c0.out _ B4.out; have oc0 : w4.cell? ⟨g0, 0, none⟩ = some (.string ⟨#[116]⟩) := cell_of_row _ _ 0 _ _ _ O4.out; have oc1 : w4.cell? ⟨g0, 1, none⟩ = some (.string ⟨#[117]⟩) := cell_of_row _ _ 1 _ _ _ O4.out; have og := (Array.getElem?_eq_some_iff.1 O4.out).1; clear hP4 ho4)
            | (go_at_call 6; refine (pair_sweep HP.out (by omega) (now + x % 120)).mono ?_; rintro e w3 ⟨sa, sc, rfl, hi3, hl3, hP3, ho3⟩; rw [HTE.out]; have B3 := hid (po_below HP.out HB.out ho3); have O3 := hid (po_keep HP.out GL.out.1 GL.out.2 ho3 HO.out); have P3 := hid hP3; have I3 := hid hi3; have L3 := hid hl3; have Z3 := hid ho3.size; clear hi3 hl3 hP3 ho3)
            | (go_at_call 9; refine (pair_live P4.out (by omega) ⟨#[116]⟩ ⟨#[117]⟩ (now + x % 120)).mono ?_; rintro e w5 ⟨xa, xc, rfl, hi5, hP5, ho5⟩; rw [← HLv.out] at hi5 ⊢; have HB5 := hid (po_below P4.out B4.out ho5); have o5 := po_keep P4.out og GL.out.2 ho5 O4.out; have og5 := (Array.getElem?_eq_some_iff.1 o5).1; have HO5 := hid o5; have HP5 := hid hP5; skip; rw [Hn5.out]; clear hi5 hP5 ho5 o5))
          have HI : Hid (PAll W p mb q mf mt (4 * k + 4) g0 (now + x % 120) w5) := ⟨_, _, HP5.out.more (by omega), HFs.out.1, HFs.out.2.1, Int.le_of_eq HFs.out.2.2, HB5.out, HO5.out⟩
          obtain ⟨S9, T9, hP9, hF9, hA9, hN9, hB9, hO9⟩ := HI.out
          have HP9 := hid hP9
          have HF9 := hid hF9
          have HA9 := hid hA9
          have HB9 := hid hB9
          have HO9 := hid hO9
          have HN9 := hid hN9
          clear hP9 hF9 hA9 hB9 hO9 hN9 HI
          go_loopw [14] (fun i wr => ∃ j : Nat, 1 ≤ j ∧ j ≤ 20 ∧ i = .int .i64 j ∧ Below w5.heap.size w5 wr) (fun i _ => 20 - (intOf i).toNat)
          case atStart => exact ⟨1, Nat.le_refl _, by omega, rfl, Below.refl _ _⟩
          case round =>
            obtain ⟨j, hj1, hj2, rfl, hbj⟩ := hrel
            have HBj := hid hbj
            clear hbj
            by_cases h20 : j < 20
            · have g20 : decide ((j : Int) < 20) = true := by simp; omega
              obtain ⟨⟨m1, _, hs1⟩, sok, ⟨k1, k2, _, _, ht1⟩, ok, _, _, _, _⟩ := HP9.out.below HBj.out
              have Hac := access_any ht1 ok (j : Int) (now + x % 120)
              obtain ⟨y, hy⟩ : ∃ y, y = tAccess T9 (j : Int) (now + x % 120) := ⟨_, rfl⟩
              rw [← hy] at Hac
              obtain ⟨⟨ta, tb, tc, td⟩, z⟩ := y
              unfold Tok.sessV at Hac
              dsimp only at Hac
              have HAc := hid Hac
              clear Hac
              by_cases hz : z = 0
              · subst hz
                obtain ⟨⟨fa, fb, fc, fd, fe⟩, ⟨sa5, sb5, sc5, sd5, se5⟩, hf, hg⟩ := good_live sok ok HF9.out HA9.out (te_ok (by omega) (by omega) HN9.out) hy.symm
                dsimp only at hf hg
                have HFm := hid (fun (X : World) (hX : Below wr.heap.size wr X) => by
                  have := family_any (ht1.below hX) ok tb
                  rw [hf] at this
                  unfold Fam.sessV at this
                  exact this)
                have HGt := hid (fun (X : World) (hX : Below wr.heap.size wr X) => by
                  have := Ses.get_any (hs1.below hX) sok fb (now + x % 120)
                  rw [hg] at this
                  unfold Ses.sessV at this
                  exact this)
                clear hf hg hs1 ht1 sok ok hy
                go_wp2_with (first
                  | (go_at_call 14; refine (HGt.out _ B8.out).mono ?_; rintro e w9 ⟨rfl, hb9⟩; have b9 : Below wr.heap.size wr (w9.alloc (.cells #[.int .i64 sa5, .string sb5, .string sc5, .int .i64 sd5, .int .i64 se5] 36)) := (B8.out.trans (hb9.mono B8.out.size)).alloc (Nat.le_trans B8.out.size hb9.size) _; have B9 := hid b9; clear b9 hb9)
                  | (go_at_call 13; refine (HFm.out _ B7.out).mono ?_; rintro e w8 ⟨rfl, hb8⟩; have b8 : Below wr.heap.size wr (w8.alloc (.cells #[.int .i64 fa, .int .i64 fb, .string fc, .int .u8 fd, .int .i64 fe] 44)) := (B7.out.trans (hb8.mono B7.out.size)).alloc (Nat.le_trans B7.out.size hb8.size) _; have B8 := hid b8; clear b8 hb8)
                  | (go_at_call 12; refine HAc.out.mono ?_; rintro e w7 ⟨rfl, hb7⟩; have b7 : Below wr.heap.size wr (w7.alloc (.cells #[.int .i64 ta, .int .i64 tb, .int .u8 tc, .int .i64 td] 46)) := hb7.alloc hb7.size _; have B7 := hid b7; clear b7 hb7))
                go_roundw
                case rel => exact ⟨j + 1, by omega, by omega, by go_num, HBj.out.trans (B9.out.mono HBj.out.size)⟩
                case measure => simp [intOf]; omega
              · have qz : (z != 0) = true := by simpa using hz
                clear hz hs1 ht1 sok ok hy
                go_wp2_with (go_at_call 12; refine HAc.out.mono ?_; rintro e w7 ⟨rfl, hb7⟩; have b7 : Below wr.heap.size wr (w7.alloc (.cells #[.int .i64 ta, .int .i64 tb, .int .u8 tc, .int .i64 td] 46)) := hb7.alloc hb7.size _; have B7 := hid b7; clear b7 hb7)
                go_roundw
                case rel => exact ⟨j + 1, by omega, by omega, by go_num, HBj.out.trans (B7.out.mono HBj.out.size)⟩
                case measure => simp [intOf]; omega
            · have e20 : j = 20 := by omega
              subst e20
              go_wp2
              go_roundw
              case rel => exact ⟨k + 1, (now + x % 120), by omega, by omega, rfl, by omega, by omega, by go_num, S9, T9, (HP9.out.below HBj.out).more (by omega), HF9.out, HN9.out, HB9.out.trans (HBj.out.mono HB9.out.size), (HBj.out.block g0 (Array.getElem?_eq_some_iff.1 HO9.out).1).trans HO9.out⟩
              case measure => simp [intOf]; omega
    · rcases hstop with h1 | ⟨h1, h2⟩
      · have g1 : decide ((k : Int) < (N : Int)) = false := by simpa using h1
        clear hk hk8
        go_wp2
        go_ret
        exact ⟨rfl, HB.out⟩
      · subst h2
        have g1 : decide (((40 : Nat) : Int) < (N : Int)) = true := by simp; omega
        have g2 : decide (((40 : Nat) : Int) < 40) = false := by decide
        go_wp2
        go_ret
        exact ⟨rfl, HB.out⟩
end Go.Proofs.Ytlfajgmhegcnaaa
