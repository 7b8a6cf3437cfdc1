/- TokenEnds, walked. (Printed by gen/kends.py.) -/
import Derived.Test.YtmnhhomkglffcaaGreatDoorKN
import Derived.Test.YtmnhhomkglffcaaGreatDoorKFork
import Derived.Test.YtmnhhomkglffcaaGreatDoorKEnds0
import Derived.Test.YtmnhhomkglffcaaGreatDoorKRows2
namespace Go.Proofs.YtmnhhomkglffcaaGreatDoor
open Go.RowKit Go.Maps Go.Sort Go.Shelf
set_option linter.unusedVariables false
set_option maxRecDepth 20000
set_option maxHeartbeats 51200000 in
theorem tokenEnds_walk (W : World) (hT : TabAt W) {a : Option Addr} {l : List KDeed} (hl : KDs W a l) (cap : Nat) {sa : Option Addr} {zs : List Int} (hs0 : Ints W sa zs) (sc : Nat) (hz0 : zs.length ≤ maxLen) :
    Calls Tryz.prog 3 #[.slice a l.length cap, .slice sa zs.length sc] W fun e w' => e = .returned (.bool true) ∧ Below W.heap.size W w' := by
  have Hl := hid hl
  have HT := hid hT
  have Hs0 := hid hs0
  have hN2 : l.length ≤ 9223372036854775807 := by simpa [maxLen] using hl.length
  have hz1 : zs.length ≤ 9223372036854775807 := by simpa [maxLen] using hz0
  have HN := hid (new_any W)
  have HR := hid rNew_any
  have HLv := hid lawLive_any
  have Hz0 := hid hz0
  clear hl hs0 hT hz0
  generalize hN : l.length = N at *
  have HLen := hid hN
  obtain ⟨Z, hZ⟩ : ∃ Z, Z = zs.length := ⟨_, rfl⟩
  rw [← hZ] at hz1 ⊢
  have HZ := hid hZ
  clear hN hZ
  go_enter Tryz.func3, Tryz.ntmps3
  go_wp2_with (first
    | (go_at_call 4; refine HN.out.mono ?_; rintro e w1 ⟨p, mf, mt, rfl, hT1, hb1⟩; have H1 := hid hT1; have B1 := hid hb1; clear hT1 hb1)
    | (go_at_call 5; refine (HR.out _).mono ?_; rintro e w2 ⟨r, rfl, hR2, hb2⟩; have H2 := hid hR2; have B2 := hid hb2; clear hR2 hb2)
    | (go_at_call 6; refine (HLv.out _).mono ?_; rintro e w3 ⟨rfl, hb3⟩; have H3 := hid (duo_start H1.out B1.out H2.out B2.out hb3); clear hb3))
  go_loopw [7] (fun i wr => ∃ k : Nat, k ≤ N ∧ k ≤ 60 ∧ i = .int .i64 k ∧ Did W p mf mt r k wr) (fun i _ => N - (intOf i).toNat)
  case atStart => exact ⟨0, Nat.zero_le _, Nat.zero_le _, rfl, sto0, H3.out.1, H3.out.2⟩
  case round =>
    obtain ⟨k, hk, hk8, rfl, T, hD, hb⟩ := hrel
    have HD := hid hD
    have HB := hid hb
    clear hD hb
    have hstop : (k < N ∧ k < 60) ∨ (¬ k < N) ∨ (k < N ∧ k = 60) := by omega
    rcases hstop with ⟨hlt, h8⟩ | hstop
    · have g1 : decide ((k : Int) < (N : Int)) = true := by simpa using hlt
      have g2 : decide ((k : Int) < 60) = true := by simp; omega
      have Hg : Hid (l[k]? = some (l[k]'(by rw [HLen.out]; exact hlt))) := List.getElem?_eq_getElem _
      generalize l[k]'(by rw [HLen.out]; exact hlt) = x at *
      obtain ⟨b, o, ea, c0, c1, c2, c3, c4, c5, c6, hok⟩ := Hl.out.at HB.out Hg.out
      cases ea
      have Hdo := hid (doK_any HD.out (by omega) HB.out.size x hok)
      clear hok
      unfold deedV at Hdo
      go_wp2_with (go_at_call 7; refine Hdo.out.mono ?_; rintro e w4 ⟨⟨bb, rfl⟩, hD4, ho4⟩)
      go_roundw
      case rel => exact ⟨k + 1, by omega, by omega, by go_num, tDo T x, hD4, dout_below HB.out HD.out ho4⟩
      case measure => simp [intOf]; omega
    · obtain ⟨n1, n2, hn1, hn2, hs⟩ := HD.out.sto
      have ok := HD.out.ok
      have lf := HD.out.lf
      have lt := HD.out.lt
      obtain ⟨V, hV⟩ : ∃ V, V = wr := ⟨_, rfl⟩
      rw [← hV] at hs HB HD ⊢
      clear hV
      have HS := hid hs
      have HIs := hid (Hs0.out.below HB.out)
      have HEc := hid (fun (X : World) (hX : StoAt X W.heap.size p mf mt n1 n2 T) (hi : Ints X sa zs) => endSessions_any hX ok (by omega) (by omega) hi sc Hz0.out)
      rw [← HZ.out] at HEc
      have HLs := hid (endsLess T zs)
      have HLt : Hid (T.fs.length ≤ 1000 ∧ T.ts.length ≤ 1000) := ⟨by omega, by omega⟩
      have HRT := hid (fun (p2 mf2 mt2 : Nat) (X : World) (hX : StoAt X V.heap.size p2 mf2 mt2 n1 n2 T) (ht : TabAt X) => rows_any hX ok (by omega) (by omega) ht)
      have HRD := hid (fun (X : World) (hX : StoAt X W.heap.size p mf mt n1 n2 (tDrop T (inS zs))) (ht : TabAt X) => rows_any hX (tDrop_ok ok _) (by have := HLs.out; omega) (by have := HLs.out; omega) ht)
      obtain ⟨ids, hids⟩ : ∃ ids, ids = Fam.wantedIds T.fs (inS zs) := ⟨_, rfl⟩
      have hld : ids.length = (T.fs.filter (inS zs)).length := by rw [hids]; simp [Fam.wantedIds]
      rw [← hids] at HEc
      have HLd := hid hld
      have HIds := hid hids
      have hL9 : ids.length ≤ 1000 := by have := List.length_filter_le (inS zs) T.fs; omega
      obtain ⟨L, hL⟩ : ∃ L, L = ids.length := ⟨_, rfl⟩
      rw [← hL] at hL9
      have HL5 : Hid (ids.length = L) := hL.symm
      have HLn : Hid (ids.length = L) := hL.symm
      clear hs hids hld hL lf lt
      rcases hstop with h1 | ⟨h1, h2⟩
      · have g1 : decide ((k : Int) < (N : Int)) = false := by simpa using h1
        clear hk hk8
        go_wp2_with (first
          | (go_at_call 9; refine (HEc.out w4 S4.out I4.out).mono ?_; rintro e w5 ⟨v5, rfl, hrow, hst, ho⟩; rw [← HLd.out] at hrow; obtain ⟨a5, c5, ev5, hi5, _⟩ := ints_of_own hrow; subst ev5; have HI5 := hid hi5; have HST := hid hst; have HO5 := hid ho; clear hrow hst ho hi5)
          | (go_at_call 8; refine (fork_any HS.out).mono ?_; rintro e w4 ⟨p2, mf2, mt2, rfl, h4, hb4⟩; have H4 := hid h4; have B4 := hid hb4; have S4 := hid (HS.out.below hb4); have I4 := hid (HIs.out.below hb4); clear h4 hb4))
        have HW5 : Hid (∀ X, Below w5.heap.size w5 X → StoAt X V.heap.size p2 mf2 mt2 n1 n2 T) := fun X hX => by
          have l4 := H4.out.lts
          have lv := HS.out.lts
          have g1 := H4.out.bp
          have g2 := H4.out.bf
          have g3 := H4.out.bt
          exact (H4.out.keep (HO5.out.block p2 l4.1 (by unfold Mine; omega)) (HO5.out.block mf2 l4.2.1 (by unfold Mine; omega)) (HO5.out.block mt2 l4.2.2 (by unfold Mine; omega))).below hX
        have HS5 : Hid (∀ X, Below w5.heap.size w5 X → StoAt X W.heap.size p mf mt n1 n2 (tDrop T (inS zs))) := fun X hX => HST.out.below hX
        have HB5 : Hid (Below W.heap.size W w5) := by
          have k4 := HB.out.trans (B4.out.mono HB.out.size)
          have l := HS.out
          exact k4.trans (HO5.out.below k4.size (fun k hk => by have := l.bp; have := l.bf; have := l.bt; unfold Mine at hk; omega))
        have HZn : Hid (∀ X, Below w5.heap.size w5 X → Ints X sa zs) := fun X hX => (Hs0.out.below HB5.out).below hX
        have HTn : Hid (∀ X, Below w5.heap.size w5 X → TabAt X) := fun X hX => (HT.out.below HB5.out).below hX
        rw [HLn.out]
        go_loopw [10] (fun i wr => ∃ q : Nat, q ≤ L ∧ i = .int .i64 q ∧ Below w5.heap.size w5 wr) (fun i _ => L - (intOf i).toNat)
        case atStart => exact ⟨0, Nat.zero_le _, rfl, Below.refl _ _⟩
        case round =>
          obtain ⟨q, hq1, rfl, hb6⟩ := hrel
          by_cases hq : q < L
          · have gq : (q : Int) < (L : Int) := by omega
            obtain ⟨b, o, ea, h0⟩ := (HI5.out.below hb6) q (by rw [HL5.out]; exact hq)
            cases ea
            have HXq : Hid (∀ X, Below w5.heap.size w5 X → X.cell? ⟨b, o + q, none⟩ = some (.int .i64 (ids[q]'(by rw [HL5.out]; exact hq)))) := fun X hX => by
              obtain ⟨b9, o9, ea9, h9⟩ := (HI5.out.below hX) q (by rw [HL5.out]; exact hq)
              cases ea9
              exact h9
            have hmem : ids[q]'(by rw [HL5.out]; exact hq) ∈ ids := List.getElem_mem _
            generalize ids[q]'(by rw [HL5.out]; exact hq) = x at *
            rw [HIds.out] at hmem
            obtain ⟨s, h1, h2, h3, h4⟩ := endsCase ok zs hmem
            have HF1 := hid (fun (X : World) (hX : StoAt X V.heap.size p2 mf2 mt2 n1 n2 T) => family_any hX ok x)
            have HF2 := hid (fun (X : World) (hX : StoAt X W.heap.size p mf mt n1 n2 (tDrop T (inS zs))) => family_any hX (tDrop_ok ok _) x)
            have HTk := hid (fun (X : World) (hX : StoAt X W.heap.size p mf mt n1 n2 (tDrop T (inS zs))) => tokens_any hX (tDrop_ok ok _) (by have := HLs.out; have := HLt.out; omega) x)
            rw [h1] at HF1
            rw [h2] at HF2
            rw [h4] at HTk
            obtain ⟨fa, fb, fc, fd, fe⟩ := s
            obtain ⟨⟨ga, gb, gc, gd, ge⟩, hgg⟩ : ∃ g : Fam.Sess, g = Fam.sess0 := ⟨_, rfl⟩
            rw [← hgg] at HF2
            unfold Fam.sessV at HF1 HF2
            dsimp only at HF1 HF2 h3
            have H3s := hid h3
            have HB6 := hid hb6
            have HI6 := hid (HI5.out.below hb6)
            clear h1 h2 h3 h4 hgg hmem hb6
            go_wp2_with (first
              | (go_at_call 10; refine (HF2.out _ (HS5.out _ (HB6.out.trans (K7.out.mono HB6.out.size)))).mono ?_; rintro e w8 ⟨rfl, hb8⟩; have t8 := (hb8.block w7.heap.size (by simp)).trans (MapKept.heap_alloc w7 (.cells #[.int .i64 fa, .int .i64 fb, .string fc, .int .u8 fd, .int .i64 fe] 35)).1; have d8 : w7.heap.size < w8.heap.size := (Array.getElem?_eq_some_iff.1 t8).1; have q2 : w8.cell? ⟨w7.heap.size, 1, none⟩ = some (.int .i64 fb) := cell_of_row _ _ 1 _ _ _ t8; have B8 := hid hb8; clear hb8 t8)
              | (go_at_call 10; refine (HF1.out _ (HW5.out _ HB6.out)).mono ?_; rintro e w7 ⟨rfl, hb7⟩; have B7 := hid hb7; have n7 := hb7.size; have b7a : Below w7.heap.size w7 (w7.alloc (.cells #[.int .i64 fa, .int .i64 fb, .string fc, .int .u8 fd, .int .i64 fe] 35)) := (Below.refl _ w7).alloc (Nat.le_refl _) _; have k7 := (hb7.trans (b7a.mono hb7.size)); have K7 := hid k7; have h0' : (w7.alloc (.cells #[.int .i64 fa, .int .i64 fb, .string fc, .int .u8 fd, .int .i64 fe] 35)).cell? ⟨b, o + q, none⟩ = some (.int .i64 x) := (k7.cell (p := ⟨b, o + q, none⟩) (World.block_lt_of_cell? _ _ h0)).trans h0; clear hb7 b7a k7))
            obtain ⟨V8, hV8⟩ : ∃ V8, V8 = w8.alloc (.cells #[.int .i64 ga, .int .i64 gb, .string gc, .int .u8 gd, .int .i64 ge] 35) := ⟨_, rfl⟩
            rw [← hV8]
            have b8 : Below w8.heap.size w8 V8 := by rw [hV8]; exact (Below.refl _ w8).alloc (Nat.le_refl _) _
            have bAll : Below w5.heap.size w5 V8 := (HB6.out.trans (K7.out.mono HB6.out.size)).trans ((B8.out.mono (by have := HB6.out.size; have := K7.out.size; omega)).trans (b8.mono (by have := HB6.out.size; have := K7.out.size; have := B8.out.size; omega)))
            have q2' : V8.cell? ⟨w7.heap.size, 1, none⟩ = some (.int .i64 fb) := (b8.cell (p := ⟨w7.heap.size, 1, none⟩) d8).trans q2
            have Q2 := hid q2'
            have BA := hid bAll
            clear hV8 b8 bAll q2 q2' h0 h0' d8
            go_loopw [15, 16] (fun g i wr => ∃ j : Nat, j ≤ Z ∧ g = .bool (hasB (zs.take j) fb) ∧ i = .int .i64 j ∧ Below V8.heap.size V8 wr) (fun _ i _ => Z - (intOf i).toNat)
            case atStart => exact ⟨0, Nat.zero_le _, rfl, rfl, Below.refl _ _⟩
            case round =>
              obtain ⟨j, hj, rfl, rfl, hb9⟩ := hrel
              have B9 := hid hb9
              clear hb9
              by_cases hjl : j < Z
              · have gj : (j : Int) < (Z : Int) := by omega
                obtain ⟨b', o', ea, c0⟩ := (HZn.out _ (BA.out.trans (B9.out.mono BA.out.size))) j (by have := HZ.out; omega)
                cases ea
                have Hg : Hid (zs[j]? = some (zs[j]'(by have := HZ.out; omega))) := List.getElem?_eq_getElem _
                generalize zs[j]'(by have := HZ.out; omega) = zz at *
                have Hn := hid (hasB_take (x := fb) Hg.out)
                have cf := (B9.out.cell (p := ⟨w7.heap.size, 1, none⟩) (World.block_lt_of_cell? _ _ Q2.out)).trans Q2.out
                cases hgn : hasB (zs.take j) fb
                · rw [hgn, Bool.false_or] at Hn
                  go_wp2
                  go_quiet (fail)
                  go_wp2
                  go_roundw
                  case rel => exact ⟨j + 1, by omega, by rw [Hn.out], by go_num, B9.out.trans (below_drewN _ _ _)⟩
                  case measure => simp [intOf]; omega
                · rw [hgn, Bool.true_or] at Hn
                  go_wp2
                  go_quiet (fail)
                  go_wp2
                  go_roundw
                  case rel => exact ⟨j + 1, by omega, by rw [Hn.out], by go_num, B9.out.trans (below_drewN _ _ _)⟩
                  case measure => simp [intOf]; omega
              · have e : j = Z := by omega
                have hfull : hasB (zs.take j) fb = true := by rw [e, HZ.out, List.take_length]; exact H3s.out
                rw [hfull]
                clear hfull
                subst e
                have Bn := hid (BA.out.trans (B9.out.mono BA.out.size))
                have h0 := HXq.out _ Bn.out
                go_wp2_with (go_at_call 11; refine (HTk.out _ (HS5.out _ Bn.out)).mono ?_; rintro e w9 ⟨v9, rfl, hr9, hb9⟩; obtain ⟨a9, c9, e9⟩ := slice_of_own hr9; subst e9; have Bp := hid (Below.on' Bn.out hb9); clear hr9 hb9)
                go_roundw
                case rel => exact ⟨q + 1, by omega, by go_num, Bp.out⟩
                case measure => simp [intOf]; omega
          · have eq : q = L := by omega
            subst eq
            have BQ := hid hb6
            clear hb6
            go_wp2
            go_loopw [17] (fun i wr => ∃ q2 : Nat, q2 ≤ Z ∧ q2 ≤ 20 ∧ i = .int .i64 q2 ∧ Below w5.heap.size w5 wr) (fun i _ => 20 - (intOf i).toNat)
            case atStart => exact ⟨0, Nat.zero_le _, Nat.zero_le _, rfl, BQ.out⟩
            case round =>
              obtain ⟨q2, hq2, hq20, rfl, hb7⟩ := hrel
              have Bn := hid hb7
              clear hb7
              have hstop : (q2 < Z ∧ q2 < 20) ∨ (¬ q2 < Z) ∨ (q2 < Z ∧ q2 = 20) := by omega
              rcases hstop with ⟨hlt2, h20⟩ | hn2 | ⟨hlt2, h20⟩
              · have g1 : decide ((q2 : Int) < (Z : Int)) = true := by simpa using hlt2
                have g2 : decide ((q2 : Int) < 20) = true := by simp; omega
                obtain ⟨b', o', ea, c0⟩ := (HZn.out _ Bn.out) q2 (by have := HZ.out; omega)
                cases ea
                have hmem : zs[q2]'(by have := HZ.out; omega) ∈ zs := List.getElem_mem _
                generalize zs[q2]'(by have := HZ.out; omega) = zz at *
                have HFm := hid (fun (X : World) (hX : StoAt X W.heap.size p mf mt n1 n2 (tDrop T (inS zs))) => families_any hX (tDrop_ok ok _) (by have := HLs.out; have := HLt.out; omega) zz)
                rw [endsNone zs hmem] at HFm
                clear hmem
                go_wp2_with (go_at_call 12; refine (HFm.out _ (HS5.out _ Bn.out)).mono ?_; rintro e w9 ⟨v9, rfl, hr9, hb9⟩; obtain ⟨a9, c9, e9⟩ := slice_of_own hr9; subst e9; have Bp := hid (Below.on' Bn.out hb9); clear hr9 hb9)
                go_roundw
                case rel => exact ⟨q2 + 1, by omega, by omega, by go_num, Bp.out⟩
                case measure => simp [intOf]; omega
              · have g1 : decide ((q2 : Int) < (Z : Int)) = false := by simpa using hn2
                go_wp2_with (first
                  | (go_at_call 13; refine (HRD.out _ (HS5.out _ Bn.out) (HTn.out _ Bn.out)).mono ?_; rintro e wA ⟨⟨aA, cA, rfl⟩, hbA⟩; have Bm := hid (Below.on' Bn.out hbA); clear hbA Bn)
                  | (go_at_call 13; refine (HRT.out _ _ _ _ (HW5.out _ Bm.out) (HTn.out _ Bm.out)).mono ?_; rintro e wB ⟨⟨aB, cB, rfl⟩, hbB⟩; have Bo := hid (Below.on' Bm.out hbB); clear hbB))
                go_ret
                exact ⟨ret_bool (decide_eq_true (by have := HLs.out; omega)), HB5.out.trans (Bo.out.mono HB5.out.size)⟩
              · subst h20
                have g1 : decide (((20 : Nat) : Int) < (Z : Int)) = true := by simp; omega
                have g2 : decide (((20 : Nat) : Int) < 20) = false := by decide
                go_wp2_with (first
                  | (go_at_call 13; refine (HRD.out _ (HS5.out _ Bn.out) (HTn.out _ Bn.out)).mono ?_; rintro e wA ⟨⟨aA, cA, rfl⟩, hbA⟩; have Bm := hid (Below.on' Bn.out hbA); clear hbA Bn)
                  | (go_at_call 13; refine (HRT.out _ _ _ _ (HW5.out _ Bm.out) (HTn.out _ Bm.out)).mono ?_; rintro e wB ⟨⟨aB, cB, rfl⟩, hbB⟩; have Bo := hid (Below.on' Bm.out hbB); clear hbB))
                go_ret
                exact ⟨ret_bool (decide_eq_true (by have := HLs.out; omega)), HB5.out.trans (Bo.out.mono HB5.out.size)⟩
      · subst h2
        have g1 : decide (((60 : Nat) : Int) < (N : Int)) = true := by simp; omega
        have g2 : decide (((60 : Nat) : Int) < 60) = false := by decide
        go_wp2_with (first
          | (go_at_call 9; refine (HEc.out w4 S4.out I4.out).mono ?_; rintro e w5 ⟨v5, rfl, hrow, hst, ho⟩; rw [← HLd.out] at hrow; obtain ⟨a5, c5, ev5, hi5, _⟩ := ints_of_own hrow; subst ev5; have HI5 := hid hi5; have HST := hid hst; have HO5 := hid ho; clear hrow hst ho hi5)
          | (go_at_call 8; refine (fork_any HS.out).mono ?_; rintro e w4 ⟨p2, mf2, mt2, rfl, h4, hb4⟩; have H4 := hid h4; have B4 := hid hb4; have S4 := hid (HS.out.below hb4); have I4 := hid (HIs.out.below hb4); clear h4 hb4))
        have HW5 : Hid (∀ X, Below w5.heap.size w5 X → StoAt X V.heap.size p2 mf2 mt2 n1 n2 T) := fun X hX => by
          have l4 := H4.out.lts
          have lv := HS.out.lts
          have g1 := H4.out.bp
          have g2 := H4.out.bf
          have g3 := H4.out.bt
          exact (H4.out.keep (HO5.out.block p2 l4.1 (by unfold Mine; omega)) (HO5.out.block mf2 l4.2.1 (by unfold Mine; omega)) (HO5.out.block mt2 l4.2.2 (by unfold Mine; omega))).below hX
        have HS5 : Hid (∀ X, Below w5.heap.size w5 X → StoAt X W.heap.size p mf mt n1 n2 (tDrop T (inS zs))) := fun X hX => HST.out.below hX
        have HB5 : Hid (Below W.heap.size W w5) := by
          have k4 := HB.out.trans (B4.out.mono HB.out.size)
          have l := HS.out
          exact k4.trans (HO5.out.below k4.size (fun k hk => by have := l.bp; have := l.bf; have := l.bt; unfold Mine at hk; omega))
        have HZn : Hid (∀ X, Below w5.heap.size w5 X → Ints X sa zs) := fun X hX => (Hs0.out.below HB5.out).below hX
        have HTn : Hid (∀ X, Below w5.heap.size w5 X → TabAt X) := fun X hX => (HT.out.below HB5.out).below hX
        rw [HLn.out]
        go_loopw [10] (fun i wr => ∃ q : Nat, q ≤ L ∧ i = .int .i64 q ∧ Below w5.heap.size w5 wr) (fun i _ => L - (intOf i).toNat)
        case atStart => exact ⟨0, Nat.zero_le _, rfl, Below.refl _ _⟩
        case round =>
          obtain ⟨q, hq1, rfl, hb6⟩ := hrel
          by_cases hq : q < L
          · have gq : (q : Int) < (L : Int) := by omega
            obtain ⟨b, o, ea, h0⟩ := (HI5.out.below hb6) q (by rw [HL5.out]; exact hq)
            cases ea
            have HXq : Hid (∀ X, Below w5.heap.size w5 X → X.cell? ⟨b, o + q, none⟩ = some (.int .i64 (ids[q]'(by rw [HL5.out]; exact hq)))) := fun X hX => by
              obtain ⟨b9, o9, ea9, h9⟩ := (HI5.out.below hX) q (by rw [HL5.out]; exact hq)
              cases ea9
              exact h9
            have hmem : ids[q]'(by rw [HL5.out]; exact hq) ∈ ids := List.getElem_mem _
            generalize ids[q]'(by rw [HL5.out]; exact hq) = x at *
            rw [HIds.out] at hmem
            obtain ⟨s, h1, h2, h3, h4⟩ := endsCase ok zs hmem
            have HF1 := hid (fun (X : World) (hX : StoAt X V.heap.size p2 mf2 mt2 n1 n2 T) => family_any hX ok x)
            have HF2 := hid (fun (X : World) (hX : StoAt X W.heap.size p mf mt n1 n2 (tDrop T (inS zs))) => family_any hX (tDrop_ok ok _) x)
            have HTk := hid (fun (X : World) (hX : StoAt X W.heap.size p mf mt n1 n2 (tDrop T (inS zs))) => tokens_any hX (tDrop_ok ok _) (by have := HLs.out; have := HLt.out; omega) x)
            rw [h1] at HF1
            rw [h2] at HF2
            rw [h4] at HTk
            obtain ⟨fa, fb, fc, fd, fe⟩ := s
            obtain ⟨⟨ga, gb, gc, gd, ge⟩, hgg⟩ : ∃ g : Fam.Sess, g = Fam.sess0 := ⟨_, rfl⟩
            rw [← hgg] at HF2
            unfold Fam.sessV at HF1 HF2
            dsimp only at HF1 HF2 h3
            have H3s := hid h3
            have HB6 := hid hb6
            have HI6 := hid (HI5.out.below hb6)
            clear h1 h2 h3 h4 hgg hmem hb6
            go_wp2_with (first
              | (go_at_call 10; refine (HF2.out _ (HS5.out _ (HB6.out.trans (K7.out.mono HB6.out.size)))).mono ?_; rintro e w8 ⟨rfl, hb8⟩; have t8 := (hb8.block w7.heap.size (by simp)).trans (MapKept.heap_alloc w7 (.cells #[.int .i64 fa, .int .i64 fb, .string fc, .int .u8 fd, .int .i64 fe] 35)).1; have d8 : w7.heap.size < w8.heap.size := (Array.getElem?_eq_some_iff.1 t8).1; have q2 : w8.cell? ⟨w7.heap.size, 1, none⟩ = some (.int .i64 fb) := cell_of_row _ _ 1 _ _ _ t8; have B8 := hid hb8; clear hb8 t8)
              | (go_at_call 10; refine (HF1.out _ (HW5.out _ HB6.out)).mono ?_; rintro e w7 ⟨rfl, hb7⟩; have B7 := hid hb7; have n7 := hb7.size; have b7a : Below w7.heap.size w7 (w7.alloc (.cells #[.int .i64 fa, .int .i64 fb, .string fc, .int .u8 fd, .int .i64 fe] 35)) := (Below.refl _ w7).alloc (Nat.le_refl _) _; have k7 := (hb7.trans (b7a.mono hb7.size)); have K7 := hid k7; have h0' : (w7.alloc (.cells #[.int .i64 fa, .int .i64 fb, .string fc, .int .u8 fd, .int .i64 fe] 35)).cell? ⟨b, o + q, none⟩ = some (.int .i64 x) := (k7.cell (p := ⟨b, o + q, none⟩) (World.block_lt_of_cell? _ _ h0)).trans h0; clear hb7 b7a k7))
            obtain ⟨V8, hV8⟩ : ∃ V8, V8 = w8.alloc (.cells #[.int .i64 ga, .int .i64 gb, .string gc, .int .u8 gd, .int .i64 ge] 35) := ⟨_, rfl⟩
            rw [← hV8]
            have b8 : Below w8.heap.size w8 V8 := by rw [hV8]; exact (Below.refl _ w8).alloc (Nat.le_refl _) _
            have bAll : Below w5.heap.size w5 V8 := (HB6.out.trans (K7.out.mono HB6.out.size)).trans ((B8.out.mono (by have := HB6.out.size; have := K7.out.size; omega)).trans (b8.mono (by have := HB6.out.size; have := K7.out.size; have := B8.out.size; omega)))
            have q2' : V8.cell? ⟨w7.heap.size, 1, none⟩ = some (.int .i64 fb) := (b8.cell (p := ⟨w7.heap.size, 1, none⟩) d8).trans q2
            have Q2 := hid q2'
            have BA := hid bAll
            clear hV8 b8 bAll q2 q2' h0 h0' d8
            go_loopw [15, 16] (fun g i wr => ∃ j : Nat, j ≤ Z ∧ g = .bool (hasB (zs.take j) fb) ∧ i = .int .i64 j ∧ Below V8.heap.size V8 wr) (fun _ i _ => Z - (intOf i).toNat)
            case atStart => exact ⟨0, Nat.zero_le _, rfl, rfl, Below.refl _ _⟩
            case round =>
              obtain ⟨j, hj, rfl, rfl, hb9⟩ := hrel
              have B9 := hid hb9
              clear hb9
              by_cases hjl : j < Z
              · have gj : (j : Int) < (Z : Int) := by omega
                obtain ⟨b', o', ea, c0⟩ := (HZn.out _ (BA.out.trans (B9.out.mono BA.out.size))) j (by have := HZ.out; omega)
                cases ea
                have Hg : Hid (zs[j]? = some (zs[j]'(by have := HZ.out; omega))) := List.getElem?_eq_getElem _
                generalize zs[j]'(by have := HZ.out; omega) = zz at *
                have Hn := hid (hasB_take (x := fb) Hg.out)
                have cf := (B9.out.cell (p := ⟨w7.heap.size, 1, none⟩) (World.block_lt_of_cell? _ _ Q2.out)).trans Q2.out
                cases hgn : hasB (zs.take j) fb
                · rw [hgn, Bool.false_or] at Hn
                  go_wp2
                  go_quiet (fail)
                  go_wp2
                  go_roundw
                  case rel => exact ⟨j + 1, by omega, by rw [Hn.out], by go_num, B9.out.trans (below_drewN _ _ _)⟩
                  case measure => simp [intOf]; omega
                · rw [hgn, Bool.true_or] at Hn
                  go_wp2
                  go_quiet (fail)
                  go_wp2
                  go_roundw
                  case rel => exact ⟨j + 1, by omega, by rw [Hn.out], by go_num, B9.out.trans (below_drewN _ _ _)⟩
                  case measure => simp [intOf]; omega
              · have e : j = Z := by omega
                have hfull : hasB (zs.take j) fb = true := by rw [e, HZ.out, List.take_length]; exact H3s.out
                rw [hfull]
                clear hfull
                subst e
                have Bn := hid (BA.out.trans (B9.out.mono BA.out.size))
                have h0 := HXq.out _ Bn.out
                go_wp2_with (go_at_call 11; refine (HTk.out _ (HS5.out _ Bn.out)).mono ?_; rintro e w9 ⟨v9, rfl, hr9, hb9⟩; obtain ⟨a9, c9, e9⟩ := slice_of_own hr9; subst e9; have Bp := hid (Below.on' Bn.out hb9); clear hr9 hb9)
                go_roundw
                case rel => exact ⟨q + 1, by omega, by go_num, Bp.out⟩
                case measure => simp [intOf]; omega
          · have eq : q = L := by omega
            subst eq
            have BQ := hid hb6
            clear hb6
            go_wp2
            go_loopw [17] (fun i wr => ∃ q2 : Nat, q2 ≤ Z ∧ q2 ≤ 20 ∧ i = .int .i64 q2 ∧ Below w5.heap.size w5 wr) (fun i _ => 20 - (intOf i).toNat)
            case atStart => exact ⟨0, Nat.zero_le _, Nat.zero_le _, rfl, BQ.out⟩
            case round =>
              obtain ⟨q2, hq2, hq20, rfl, hb7⟩ := hrel
              have Bn := hid hb7
              clear hb7
              have hstop : (q2 < Z ∧ q2 < 20) ∨ (¬ q2 < Z) ∨ (q2 < Z ∧ q2 = 20) := by omega
              rcases hstop with ⟨hlt2, h20⟩ | hn2 | ⟨hlt2, h20⟩
              · have g1 : decide ((q2 : Int) < (Z : Int)) = true := by simpa using hlt2
                have g2 : decide ((q2 : Int) < 20) = true := by simp; omega
                obtain ⟨b', o', ea, c0⟩ := (HZn.out _ Bn.out) q2 (by have := HZ.out; omega)
                cases ea
                have hmem : zs[q2]'(by have := HZ.out; omega) ∈ zs := List.getElem_mem _
                generalize zs[q2]'(by have := HZ.out; omega) = zz at *
                have HFm := hid (fun (X : World) (hX : StoAt X W.heap.size p mf mt n1 n2 (tDrop T (inS zs))) => families_any hX (tDrop_ok ok _) (by have := HLs.out; have := HLt.out; omega) zz)
                rw [endsNone zs hmem] at HFm
                clear hmem
                go_wp2_with (go_at_call 12; refine (HFm.out _ (HS5.out _ Bn.out)).mono ?_; rintro e w9 ⟨v9, rfl, hr9, hb9⟩; obtain ⟨a9, c9, e9⟩ := slice_of_own hr9; subst e9; have Bp := hid (Below.on' Bn.out hb9); clear hr9 hb9)
                go_roundw
                case rel => exact ⟨q2 + 1, by omega, by omega, by go_num, Bp.out⟩
                case measure => simp [intOf]; omega
              · have g1 : decide ((q2 : Int) < (Z : Int)) = false := by simpa using hn2
                go_wp2_with (first
                  | (go_at_call 13; refine (HRD.out _ (HS5.out _ Bn.out) (HTn.out _ Bn.out)).mono ?_; rintro e wA ⟨⟨aA, cA, rfl⟩, hbA⟩; have Bm := hid (Below.on' Bn.out hbA); clear hbA Bn)
                  | (go_at_call 13; refine (HRT.out _ _ _ _ (HW5.out _ Bm.out) (HTn.out _ Bm.out)).mono ?_; rintro e wB ⟨⟨aB, cB, rfl⟩, hbB⟩; have Bo := hid (Below.on' Bm.out hbB); clear hbB))
                go_ret
                exact ⟨ret_bool (decide_eq_true (by have := HLs.out; omega)), HB5.out.trans (Bo.out.mono HB5.out.size)⟩
              · subst h20
                have g1 : decide (((20 : Nat) : Int) < (Z : Int)) = true := by simp; omega
                have g2 : decide (((20 : Nat) : Int) < 20) = false := by decide
                go_wp2_with (first
                  | (go_at_call 13; refine (HRD.out _ (HS5.out _ Bn.out) (HTn.out _ Bn.out)).mono ?_; rintro e wA ⟨⟨aA, cA, rfl⟩, hbA⟩; have Bm := hid (Below.on' Bn.out hbA); clear hbA Bn)
                  | (go_at_call 13; refine (HRT.out _ _ _ _ (HW5.out _ Bm.out) (HTn.out _ Bm.out)).mono ?_; rintro e wB ⟨⟨aB, cB, rfl⟩, hbB⟩; have Bo := hid (Below.on' Bm.out hbB); clear hbB))
                go_ret
                exact ⟨ret_bool (decide_eq_true (by have := HLs.out; omega)), HB5.out.trans (Bo.out.mono HB5.out.size)⟩
end Go.Proofs.YtmnhhomkglffcaaGreatDoor
