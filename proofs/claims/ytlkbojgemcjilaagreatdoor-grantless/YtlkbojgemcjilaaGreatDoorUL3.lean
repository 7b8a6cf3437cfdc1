/- GrantLess walked. -/
import Derived.Test.YtlkbojgemcjilaaGreatDoorUL2
namespace Go.Proofs.YtlkbojgemcjilaaGreatDoor
open Go.RowKit Go.Maps Go.Shelf Go.Sort Go.Lib
set_option linter.unusedVariables false
set_option maxRecDepth 20000
set_option maxHeartbeats 16000000 in
theorem grantLess_walk (W : World) (hT : TabAt W) {a : Option Addr} {l : List GDeed} (hl : GDs W a l) (cap : Nat) (x : GDeed) (hx : x.Ok) (more : Nat) (hmo : more ≤ 255) :
    Calls Tryz.prog 5 #[.slice a l.length cap, .agg (gdC x), .int .u8 (more : Int)] W fun e w' => e = .returned (.bool true) ∧ Below W.heap.size W w' := by
  have Hl := hid hl
  have hN2 : l.length ≤ 9223372036854775807 := by simpa [maxLen] using hl.length
  have HN := hid (gNew_any (W.alloc (.cells (gdC x) 33)) W.heap.size (by simp))
  have HR := hid rNew13_any
  have HLv := hid liveG_any
  have HX := hid hx
  have HT := hid hT
  have Hmo := hid hmo
  have HSt := hid (fun (w1 w2 w3 : World) (g gr : Nat) (X : Nat → Prop) => @gdk_start W w1 w2 w3 x g gr X)
  clear hl hx hT hmo
  generalize hN : l.length = N at *
  have HLen := hid hN
  clear hN
  obtain ⟨W1, hW1⟩ : ∃ W1, W1 = W.alloc (.cells (gdC x) 33) := ⟨_, rfl⟩
  have bW := hid (show Below W.heap.size W W1 by rw [hW1]; exact (Below.refl _ W).alloc (Nat.le_refl _) _)
  rw [← hW1] at HN HSt
  have HW := hid hW1.symm
  clear hW1
  obtain ⟨kd, t, u, n, r, sc⟩ := x
  unfold gdC at HW ⊢
  dsimp only at HW ⊢
  go_enter Tryz.func5, Tryz.ntmps5
  go_wp2_with (first
    | (go_at_call 6; rw [HW.out]; refine HN.out.mono ?_; rintro _ w1 ⟨g, X1, rfl, b1, g1, _⟩; have B1 := hid b1; have G1 := hid g1; clear b1 g1 HN)
    | (go_at_call 7; refine (HR.out _).mono ?_; rintro _ w2 ⟨gr, rfl, hR2, hb2⟩; have H2 := hid hR2; have B2 := hid hb2; clear hR2 hb2 HR)
    | (go_at_call 8; refine (HLv.out _).mono ?_; rintro _ w3 ⟨rfl, hb3⟩; have H3 := hid (HSt.out _ _ w3 _ _ _ B1.out G1.out B2.out H2.out hb3); clear hb3 HLv G1 H2 B1 B2 HSt))
  go_loopw [9] (fun i wr => ∃ k : Nat, k ≤ N ∧ k ≤ 60 ∧ i = .int .i64 (k : Int) ∧ ∃ T, GDk NoK W ⟨kd, t, u, n, r, sc⟩ g gr k T wr) (fun i _ => N - (intOf i).toNat)
  case atStart => exact ⟨0, Nat.zero_le _, Nat.zero_le _, rfl, s0U, H3.out⟩
  case round =>
    obtain ⟨k, hk, hk8, rfl, T, hD⟩ := hrel
    have HD := hid hD
    clear hD
    have hstop : (k < N ∧ k < 60) ∨ (¬ k < N) ∨ (k < N ∧ k = 60) := by omega
    rcases hstop with ⟨hlt, h8⟩ | hstop
    · have g1 : decide ((k : Int) < (N : Int)) = true := by simpa using hlt
      have g2 : decide ((k : Int) < 60) = true := by simp; omega
      have Hg : Hid (l[k]? = some (l[k]'(by rw [HLen.out]; exact hlt))) := List.getElem?_eq_getElem _
      generalize l[k]'(by rw [HLen.out]; exact hlt) = y at *
      obtain ⟨b, off, ea, c0, c1, c2, c3, c4, c5, hok⟩ := Hl.out.at HD.out.be Hg.out
      cases ea
      have Hdo := hid (doG_any HD.out.pr (by omega) (by omega) y hok)
      clear hok
      unfold gdC at Hdo
      go_wp2_with (go_at_call 11; refine Hdo.out.mono ?_; intro e4 w4 ht4; have T4 := hid (HD.out.told ht4); obtain ⟨rfl, _⟩ := ht4)
      go_roundw
      case rel => exact ⟨k + 1, by omega, by omega, by go_num, _, T4.out⟩
      case measure => exact measG hlt
    · -- the end
      obtain ⟨q, hq⟩ : ∃ q, q = sc &&& more := ⟨_, rfl⟩
      have hq9 : q ≤ 255 := by rw [hq]; exact Nat.le_trans Nat.and_le_right Hmo.out
      have hb0 : bits BinOp.and IntKind.u8 (sc : Int) (more : Int) = (q : Int) := by rw [hq]; exact and_bits _ _ (by have := HX.out.sc; dsimp only at this; omega) (by have := Hmo.out; omega)
      obtain ⟨a1, b1, e1, S', f1, f2, f3, f4, f5, f6, f7, f8, f9, f10, f11, f12⟩ := less_facts T t n sc more HX.out.sc Hmo.out
      rw [← hq] at f5 f12
      have hb1 : bits BinOp.and IntKind.u8 (a1 : Int) (b1 : Int) = (b1 : Int) := by rw [and_bits _ _ (by omega) (by omega), f10]
      have f13 : findC T t n = findC T t n := rfl
      have hk9 : Hid (k ≤ 60) := by show k ≤ 60; exact hk8
      have HFk : Hid (Calls Tryz.prog 9 #[.pointer (some ⟨g, 0, none⟩)] wr fun e w' => ∃ g2, e = .returned (.pointer (some ⟨g2, 0, none⟩)) ∧ TD W w' ⟨kd, t, u, n, r, sc⟩ g g2 T T k) := by
        obtain ⟨X, h1, _⟩ := HD.out.pr.gp
        refine (Two.of_fork h1 (by have := hk9.out; omega)).mono ?_
        rintro _ w' ⟨g2, rfl, hb, h2⟩
        exact ⟨g2, rfl, h2, Below.on' HD.out.be hb, (hb.block _ (heap_lt HD.out.ob)).trans HD.out.ob⟩
      have HN1 := hid (fun (V : World) (g2 : Nat) (hV : TD W V ⟨kd, t, u, n, r, sc⟩ g g2 T T k) => (show Calls Tryz.prog 18 #[.pointer (some ⟨g, 0, none⟩), .string t, .string n, .int .u8 (sc : Int)] V fun e w' => e = .returned (.tuple #[.int .u8 (a1 : Int), .int .i64 e1]) ∧ TD W w' ⟨kd, t, u, n, r, sc⟩ g g2 (T.nar t n sc) T k from by
        have h9 := hV.nar1 (by have := hk9.out; omega) HX.out sc HX.out.sc
        dsimp only at h9
        rw [f1, f2] at h9
        exact h9))
      have HN2 := hid (fun (V : World) (g2 : Nat) (hV : TD W V ⟨kd, t, u, n, r, sc⟩ g g2 (T.nar t n sc) T k) => (show Calls Tryz.prog 18 #[.pointer (some ⟨g, 0, none⟩), .string t, .string n, .int .u8 (more : Int)] V fun e w' => e = .returned (.tuple #[.int .u8 (b1 : Int), .int .i64 e1]) ∧ TD W w' ⟨kd, t, u, n, r, sc⟩ g g2 ((T.nar t n sc).nar t n more) T k from by
        have h9 := hV.nar1 (by have := hk9.out; omega) HX.out more Hmo.out
        dsimp only at h9
        rw [f3, f4] at h9
        exact h9))
      have HN3 := hid (fun (V : World) (g2 : Nat) (hV : TD W V ⟨kd, t, u, n, r, sc⟩ g g2 ((T.nar t n sc).nar t n more) T k) => (show Calls Tryz.prog 18 #[.pointer (some ⟨g2, 0, none⟩), .string t, .string n, .int .u8 (q : Int)] V fun e w' => e = .returned (.tuple #[.int .u8 (b1 : Int), .int .i64 e1]) ∧ TD W w' ⟨kd, t, u, n, r, sc⟩ g g2 ((T.nar t n sc).nar t n more) S' k from by
        have h9 := hV.nar2 (by have := hk9.out; omega) HX.out q hq9
        dsimp only at h9
        rw [f5, f2, f12] at h9
        exact h9))
      have HN4 := hid (fun (V : World) (g2 : Nat) (hV : TD W V ⟨kd, t, u, n, r, sc⟩ g g2 ((T.nar t n sc).nar t n more) S' k) => (show Calls Tryz.prog 18 #[.pointer (some ⟨g, 0, none⟩), .string t, .string n, .int .u8 255] V fun e w' => e = .returned (.tuple #[.int .u8 (b1 : Int), .int .i64 e1]) ∧ TD W w' ⟨kd, t, u, n, r, sc⟩ g g2 S' S' k from by
        have h9 := hV.nar1 (by have := hk9.out; omega) HX.out 255 (Nat.le_refl _)
        dsimp only at h9
        rw [f6, f7, f11] at h9
        exact h9))
      have HR1 := hid (fun (V : World) (g2 : Nat) (hV : TD W V ⟨kd, t, u, n, r, sc⟩ g g2 S' S' k) => hV.two.rows1 (by have := hk9.out; omega) (HT.out.belowJ hV.be))
      have HR2 := hid (fun (V : World) (g2 : Nat) (hV : TD W V ⟨kd, t, u, n, r, sc⟩ g g2 S' S' k) => hV.two.rows2 (by have := hk9.out; omega) (HT.out.belowJ hV.be))
      have HXc := hid (fun (V : World) (g2 : Nat) (s5 s6 : GS) (hV : TD W V ⟨kd, t, u, n, r, sc⟩ g g2 s5 s6 k) => lcells hV.ob)
      dsimp only at HXc
      clear hq f1 f2 f3 f4 f5 f6 f7 f8 f9 f10 f11 f12 f13
      rcases hstop with h1 | ⟨h1, h2⟩
      · have g1 : decide ((k : Int) < (N : Int)) = false := by simpa using h1
        clear hk hk8
        go_wp2_with (first
          | (go_at_call 9; refine HFk.out.mono ?_; rintro _ w4 ⟨g2, rfl, d4⟩; have D4 := hid d4; obtain ⟨x1, x2, x3, x4⟩ := HXc.out _ _ _ _ d4; clear d4 HFk)
          | (go_at_call 18; refine (HN1.out _ _ D4.out).mono ?_; rintro _ w5 ⟨rfl, d5⟩; have D5 := hid d5; clear x1 x2 x3 x4; obtain ⟨x1, x2, x3, x4⟩ := HXc.out _ _ _ _ d5; clear d5 D4 HN1)
          | (go_at_call 18; refine (HN2.out _ _ D5.out).mono ?_; rintro _ w6 ⟨rfl, d6⟩; have D6 := hid d6; clear x1 x2 x3 x4; obtain ⟨x1, x2, x3, x4⟩ := HXc.out _ _ _ _ d6; clear d6 D5 HN2)
          | (go_at_call 18; refine (HN3.out _ _ D6.out).mono ?_; rintro _ w7 ⟨rfl, d7⟩; have D7 := hid d7; clear x1 x2 x3 x4; obtain ⟨x1, x2, x3, x4⟩ := HXc.out _ _ _ _ d7; clear d7 D6 HN3)
          | (go_at_call 18; refine (HN4.out _ _ D7.out).mono ?_; rintro _ w8 ⟨rfl, d8⟩; have D8 := hid d8; clear d8 D7 HN4)
          | (go_at_call 14; refine (HR1.out _ _ D8.out).mono ?_; rintro _ w9 ⟨v1, rs1, m1, rfl, o1, i1, p1, q1, b9⟩; have D9 := hid (D8.out.below b9); have O1 := hid o1; have I1 := hid i1; have P1 := hid (And.intro p1 q1); clear o1 i1 p1 q1 b9 D8 HR1)
          | (go_at_call 14; refine (HR2.out _ _ D9.out).mono ?_; rintro _ w10 ⟨v2, rs2, m2, rfl, o2, i2, p2, q2, b10⟩; have D10 := hid (D9.out.below b10); have HSame := hid (less_same D9.out.two.ok1 (by have := hk9.out; omega) D9.out.two.len1 b10 O1.out I1.out P1.out.1 P1.out.2 o2 i2 p2 q2); clear o2 i2 p2 q2 b10 D9 O1 I1 P1 HR2)
          | (go_at_call 13; refine HSame.out.mono ?_; rintro _ w11 ⟨rfl, b11⟩; have B11 := hid (Below.on' D10.out.be b11); clear b11 HSame))
        go_ret
        exact ⟨ret_bool (by simp), B11.out⟩
      · subst h2
        have g1 : decide (((60 : Nat) : Int) < (N : Int)) = true := by simp; omega
        have g2 : decide (((60 : Nat) : Int) < 60) = false := by decide
        go_wp2_with (first
          | (go_at_call 9; refine HFk.out.mono ?_; rintro _ w4 ⟨g2, rfl, d4⟩; have D4 := hid d4; obtain ⟨x1, x2, x3, x4⟩ := HXc.out _ _ _ _ d4; clear d4 HFk)
          | (go_at_call 18; refine (HN1.out _ _ D4.out).mono ?_; rintro _ w5 ⟨rfl, d5⟩; have D5 := hid d5; clear x1 x2 x3 x4; obtain ⟨x1, x2, x3, x4⟩ := HXc.out _ _ _ _ d5; clear d5 D4 HN1)
          | (go_at_call 18; refine (HN2.out _ _ D5.out).mono ?_; rintro _ w6 ⟨rfl, d6⟩; have D6 := hid d6; clear x1 x2 x3 x4; obtain ⟨x1, x2, x3, x4⟩ := HXc.out _ _ _ _ d6; clear d6 D5 HN2)
          | (go_at_call 18; refine (HN3.out _ _ D6.out).mono ?_; rintro _ w7 ⟨rfl, d7⟩; have D7 := hid d7; clear x1 x2 x3 x4; obtain ⟨x1, x2, x3, x4⟩ := HXc.out _ _ _ _ d7; clear d7 D6 HN3)
          | (go_at_call 18; refine (HN4.out _ _ D7.out).mono ?_; rintro _ w8 ⟨rfl, d8⟩; have D8 := hid d8; clear d8 D7 HN4)
          | (go_at_call 14; refine (HR1.out _ _ D8.out).mono ?_; rintro _ w9 ⟨v1, rs1, m1, rfl, o1, i1, p1, q1, b9⟩; have D9 := hid (D8.out.below b9); have O1 := hid o1; have I1 := hid i1; have P1 := hid (And.intro p1 q1); clear o1 i1 p1 q1 b9 D8 HR1)
          | (go_at_call 14; refine (HR2.out _ _ D9.out).mono ?_; rintro _ w10 ⟨v2, rs2, m2, rfl, o2, i2, p2, q2, b10⟩; have D10 := hid (D9.out.below b10); have HSame := hid (less_same D9.out.two.ok1 (by have := hk9.out; omega) D9.out.two.len1 b10 O1.out I1.out P1.out.1 P1.out.2 o2 i2 p2 q2); clear o2 i2 p2 q2 b10 D9 O1 I1 P1 HR2)
          | (go_at_call 13; refine HSame.out.mono ?_; rintro _ w11 ⟨rfl, b11⟩; have B11 := hid (Below.on' D10.out.be b11); clear b11 HSame))
        go_ret
        exact ⟨ret_bool (by simp), B11.out⟩
end Go.Proofs.YtlkbojgemcjilaaGreatDoor
