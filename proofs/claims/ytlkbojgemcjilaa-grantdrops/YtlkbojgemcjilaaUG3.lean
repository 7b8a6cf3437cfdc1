/- GrantDrops walked. (Printed by gen/ug3.py.) -/
import Derived.Test.YtlkbojgemcjilaaUG3a
namespace Go.Proofs.Ytlkbojgemcjilaa
open Go.RowKit Go.Maps Go.Shelf Go.Sort Go.Lib
set_option linter.unusedVariables false
set_option maxRecDepth 20000
/-- a block of a consent stays -/
theorem kept_cells {V V' : World} {b : Nat} {cs : Array Value} (h : V.heap[b]? = some (.cells cs 35 (0, 0))) (k : Kept V V' b) : V'.heap[b]? = some (.cells cs 35 (0, 0)) := k cs h
set_option maxHeartbeats 16000000 in
theorem grantDrops_walk (W : World) {a : Option Addr} {l : List GDeed} (hl : GDs W a l) (cap : Nat) (x : GDeed) (hx : x.Ok) (o : ByteArray) (ho : o.size ≤ 9223372036854775807) :
    Calls Try.prog 4 #[.slice a l.length cap, .agg (gdC x), .string o] W fun e w' => e = .returned (.bool true) ∧ Below W.heap.size W w' := by
  have Hl := hid hl
  have hN2 : l.length ≤ 9223372036854775807 := by simpa [maxLen] using hl.length
  have HN := hid (gNew_any (W.alloc (.cells (gdC x) 27)) W.heap.size (by simp))
  have HR := hid rNew13_any
  have HLv := hid liveG_any
  have HX := hid hx
  have Ho := hid ho
  have HSt := hid (fun (w1 w2 w3 : World) (g gr : Nat) (X : Nat → Prop) => @gdid_start W w1 w2 w3 x g gr X)
  clear hl hx ho
  generalize hN : l.length = N at *
  have HLen := hid hN
  clear hN
  obtain ⟨W1, hW1⟩ : ∃ W1, W1 = W.alloc (.cells (gdC x) 27) := ⟨_, rfl⟩
  have bW := hid (show Below W.heap.size W W1 by rw [hW1]; exact (Below.refl _ W).alloc (Nat.le_refl _) _)
  rw [← hW1] at HN HSt
  have HW := hid hW1.symm
  clear hW1
  obtain ⟨kd, t, u, n, r, sc⟩ := x
  unfold gdC at HW ⊢
  dsimp only at HW ⊢
  go_enter Try.func4, Try.ntmps4
  go_wp2_with (first
    | (go_at_call 6; rw [HW.out]; refine HN.out.mono ?_; rintro _ w1 ⟨g, X1, rfl, b1, g1, _⟩; have B1 := hid b1; have G1 := hid g1; clear b1 g1 HN)
    | (go_at_call 7; refine (HR.out _).mono ?_; rintro _ w2 ⟨gr, rfl, hR2, hb2⟩; have H2 := hid hR2; have B2 := hid hb2; clear hR2 hb2 HR)
    | (go_at_call 8; refine (HLv.out _).mono ?_; rintro _ w3 ⟨rfl, hb3⟩; have H3 := hid (HSt.out _ _ w3 _ _ _ B1.out G1.out B2.out H2.out hb3); clear hb3 HLv G1 H2 B1 B2 HSt))
  go_loopw [9] (fun i wr => ∃ k : Nat, k ≤ N ∧ k ≤ 60 ∧ i = .int .i64 (k : Int) ∧ ∃ T, GDid W ⟨kd, t, u, n, r, sc⟩ g gr k T wr) (fun i _ => N - (intOf i).toNat)
  case atStart => exact ⟨0, Nat.zero_le _, Nat.zero_le _, rfl, s0U, H3.out⟩
  case round =>
    obtain ⟨k, hk, hk8, rfl, T, hD⟩ := hrel
    have HD := hid hD
    clear hD
    have hstop : (k < N ∧ k < 60) ∨ (¬ k < N) ∨ (k < N ∧ k = 60) := by omega
    rcases hstop with ⟨hlt, h8⟩ | hstop
    · have g1 : decide ((k : Int) < (N : Int)) = true := by simpa using hlt
      have g2 : decide ((k : Int) < 60) = true := by simp; omega
      have Hg : Hid (l[k]? = some (l[k]'(by rw [HLen.out]; exact hlt))) := List.getElem?_eq_getElem _
      generalize l[k]'(by rw [HLen.out]; exact hlt) = y at *
      obtain ⟨b, off, ea, c0, c1, c2, c3, c4, c5, hok⟩ := Hl.out.at HD.out.be Hg.out
      cases ea
      have Hdo := hid (doG_any HD.out.pr (by omega) (by omega) y hok)
      clear hok
      unfold gdC at Hdo
      go_wp2_with (go_at_call 9; refine Hdo.out.mono ?_; intro e4 w4 ht4; have T4 := hid (HD.out.told ht4); obtain ⟨rfl, _⟩ := ht4)
      go_roundw
      case rel => exact ⟨k + 1, by omega, by omega, by go_num, _, T4.out⟩
      case measure => exact measG hlt
    · -- the end
      obtain ⟨a1, e1, d1, hf1, hf2, hf3, hf⟩ := drop_facts T t u n o
      have HDi := hid HD.out.di
      have HC := hid (fun (V : World) (hV : GDi W ⟨kd, t, u, n, r, sc⟩ g gr k T T V) => (show Calls Try.prog 10 #[.pointer (some ⟨g, 0, none⟩), .agg #[.string t, .string u], .string o] V fun e w' => e = .returned (.tuple #[.agg #[.string a1.t, .string a1.u, .string a1.n, .int .u8 (a1.sc : Int)], .int .i64 e1]) ∧ Below V.heap.size V w' from by
        obtain ⟨X, h1⟩ := hV.pr.gp
        have h9 := gConsent_any h1 t u o HX.out.t HX.out.u Ho.out
        rw [hf1, hf2] at h9
        exact h9))
      have HDr := hid (fun (V : World) (hV : GDi W ⟨kd, t, u, n, r, sc⟩ g gr k T T V) => (show Calls Try.prog 13 #[.pointer (some ⟨g, 0, none⟩), .string t, .string n] V fun e w' => e = .returned (.int .i64 d1) ∧ GDi W ⟨kd, t, u, n, r, sc⟩ g gr k (T.dropC t n) T w' ∧ (∀ b, Kept V w' b) ∧ V.heap.size ≤ w'.heap.size from by
        have h9 := gdi_drop hV HX.out
        dsimp only at h9
        rw [hf3] at h9
        exact h9))
      have HC2 := hid (fun (V : World) (hV : GDi W ⟨kd, t, u, n, r, sc⟩ g gr k (T.dropC t n) T V) => (show Calls Try.prog 10 #[.pointer (some ⟨g, 0, none⟩), .agg #[.string t, .string u], .string n] V fun e w' => e = .returned (.tuple #[.agg #[.string ⟨#[]⟩, .string ⟨#[]⟩, .string ⟨#[]⟩, .int .u8 0], .int .i64 4]) ∧ Below V.heap.size V w' from by
        obtain ⟨X, h1⟩ := hV.pr.gp
        have h9 := gConsent_any h1 t u n HX.out.t HX.out.u HX.out.n
        rw [dropC_a] at h9
        exact h9))
      have HCl := hid (fun (V : World) (hV : GDi W ⟨kd, t, u, n, r, sc⟩ g gr k (T.dropC t n) T V) => (show Calls Try.prog 11 #[.pointer (some ⟨g, 0, none⟩), .string t, .string n] V fun e w' => e = .returned (.tuple #[.agg #[.string ⟨#[]⟩, .string ⟨#[]⟩, .string ⟨#[]⟩, .int .u8 0], .int .i64 4]) ∧ Below V.heap.size V w' from by
        obtain ⟨X, h1⟩ := hV.pr.gp
        have h9 := gClient_any h1 t n HX.out.t HX.out.n
        rw [dropC_c] at h9
        exact h9))
      have HDr2 := hid (fun (V : World) (hV : GDi W ⟨kd, t, u, n, r, sc⟩ g gr k (T.dropC t n) T V) => (show Calls Try.prog 13 #[.pointer (some ⟨g, 0, none⟩), .string t, .string n] V fun e w' => e = .returned (.int .i64 4) ∧ GDi W ⟨kd, t, u, n, r, sc⟩ g gr k ((T.dropC t n).dropC t n) T w' ∧ (∀ b, Kept V w' b) ∧ V.heap.size ≤ w'.heap.size from by
        have h9 := gdi_drop hV HX.out
        dsimp only at h9
        rw [dropC_c] at h9
        exact h9))
      have HXc := hid (fun (V : World) (s5 : GS) (hV : GDi W ⟨kd, t, u, n, r, sc⟩ g gr k s5 T V) => (show V.cell? ⟨W.heap.size, 0, none⟩ = some (.int .i64 kd) ∧ V.cell? ⟨W.heap.size, 1, none⟩ = some (.string t) ∧ V.cell? ⟨W.heap.size, 2, none⟩ = some (.string u) ∧ V.cell? ⟨W.heap.size, 3, none⟩ = some (.string n) ∧ V.cell? ⟨W.heap.size, 4, none⟩ = some (.string r) ∧ V.cell? ⟨W.heap.size, 5, none⟩ = some (.int .u8 (sc : Int)) from xcells hV.ob))
      obtain ⟨x0, x1, x2, x3, x4, x5⟩ := HXc.out _ _ HDi.out
      have HE1 := hid hf2
      clear hf2 hf3
      obtain ⟨s9, hs9⟩ : ∃ s9, s9 = T.dropC t n := ⟨_, rfl⟩
      have HS9 := hid hs9
      rw [← hs9] at HDr HC2 HCl HDr2
      rcases hf with rfl | rfl
      · clear hf1 hs9
        rcases hstop with h1 | ⟨h1, h2⟩
        · have g1 : decide ((k : Int) < (N : Int)) = false := by simpa using h1
          clear hk hk8
          go_wp2_with (first
            | (go_at_call 10; refine (HC.out _ HDi.out).mono ?_; rintro _ w4 ⟨rfl, b4⟩; have D4 := HDi.out.below b4; obtain ⟨y0, y1, y2, y3, y4, y5⟩ := HXc.out _ _ D4; have l4 := heap_lt D4.ob; have B4 := hid (D4.below ((Below.refl _ w4).alloc (Nat.le_refl _) (.cells #[.string a1.t, .string a1.u, .string a1.n, .int .u8 (a1.sc : Int)] 35))); have Q4 := hid (heap_allocN w4 (.cells #[.string a1.t, .string a1.u, .string a1.n, .int .u8 (a1.sc : Int)] 35)); have B4e := hid D4.be; clear b4 D4 HC HDi)
            | (go_at_call 13; refine (HDr.out _ B4.out).mono ?_; rintro _ w5 ⟨rfl, d5, k5, s5⟩; have D5 := hid d5; obtain ⟨z0, z1, z2, z3, z4, z5⟩ := HXc.out _ _ d5; have Q5 := hid (kept_cells Q4.out (k5 _)); clear d5 k5 s5 B4 HDr))
          go_ret
          exact ⟨rfl, D5.out.be⟩
        · subst h2
          have g1 : decide (((60 : Nat) : Int) < (N : Int)) = true := by simp; omega
          have g2 : decide (((60 : Nat) : Int) < 60) = false := by decide
          go_wp2_with (first
            | (go_at_call 10; refine (HC.out _ HDi.out).mono ?_; rintro _ w4 ⟨rfl, b4⟩; have D4 := HDi.out.below b4; obtain ⟨y0, y1, y2, y3, y4, y5⟩ := HXc.out _ _ D4; have l4 := heap_lt D4.ob; have B4 := hid (D4.below ((Below.refl _ w4).alloc (Nat.le_refl _) (.cells #[.string a1.t, .string a1.u, .string a1.n, .int .u8 (a1.sc : Int)] 35))); have Q4 := hid (heap_allocN w4 (.cells #[.string a1.t, .string a1.u, .string a1.n, .int .u8 (a1.sc : Int)] 35)); have B4e := hid D4.be; clear b4 D4 HC HDi)
            | (go_at_call 13; refine (HDr.out _ B4.out).mono ?_; rintro _ w5 ⟨rfl, d5, k5, s5⟩; have D5 := hid d5; obtain ⟨z0, z1, z2, z3, z4, z5⟩ := HXc.out _ _ d5; have Q5 := hid (kept_cells Q4.out (k5 _)); clear d5 k5 s5 B4 HDr))
          go_ret
          exact ⟨rfl, D5.out.be⟩
      · by_cases eo : o = n
        · subst eo
          clear hf1 hs9
          rcases hstop with h1 | ⟨h1, h2⟩
          · have g1 : decide ((k : Int) < (N : Int)) = false := by simpa using h1
            clear hk hk8
            go_wp2_with (first
              | (go_at_call 10; refine (HC.out _ HDi.out).mono ?_; rintro _ w4 ⟨rfl, b4⟩; have D4 := HDi.out.below b4; obtain ⟨y0, y1, y2, y3, y4, y5⟩ := HXc.out _ _ D4; have l4 := heap_lt D4.ob; have B4 := hid (D4.below ((Below.refl _ w4).alloc (Nat.le_refl _) (.cells #[.string a1.t, .string a1.u, .string a1.n, .int .u8 (a1.sc : Int)] 35))); have Q4 := hid (heap_allocN w4 (.cells #[.string a1.t, .string a1.u, .string a1.n, .int .u8 (a1.sc : Int)] 35)); have B4e := hid D4.be; clear b4 D4 HC HDi)
              | (go_at_call 13; refine (HDr.out _ B4.out).mono ?_; rintro _ w5 ⟨rfl, d5, k5, s5⟩; have D5 := hid d5; obtain ⟨z0, z1, z2, z3, z4, z5⟩ := HXc.out _ _ d5; have Q5 := hid (kept_cells Q4.out (k5 _)); clear d5 k5 s5 B4 HDr)
              | (go_at_call 10; refine (HC2.out _ D5.out).mono ?_; rintro _ w6 ⟨rfl, b6⟩; have D6 := D5.out.below b6; obtain ⟨v0, v1, v2, v3, v4, v5⟩ := HXc.out _ _ D6; have l6 := heap_lt D6.ob; have q6 := (b6.block _ (heap_lt Q5.out)).trans Q5.out; have a6 := (Below.refl _ w6).alloc (Nat.le_refl _) (.cells #[.string ⟨#[]⟩, .string ⟨#[]⟩, .string ⟨#[]⟩, .int .u8 0] 35); have B6 := hid (D6.below a6); have Q6 := hid ((a6.block _ (heap_lt q6)).trans q6); clear b6 D6 q6 a6 D5 Q5)
              | (go_at_call 11; refine (HCl.out _ B6.out).mono ?_; rintro _ w7 ⟨rfl, b7⟩; have D7 := B6.out.below b7; obtain ⟨r0, r1, r2, r3, r4, r5⟩ := HXc.out _ _ D7; have l7 := heap_lt D7.ob; have q7 := (b7.block _ (heap_lt Q6.out)).trans Q6.out; have a7 := (Below.refl _ w7).alloc (Nat.le_refl _) (.cells #[.string ⟨#[]⟩, .string ⟨#[]⟩, .string ⟨#[]⟩, .int .u8 0] 40); have B7 := hid (D7.below a7); have Q7 := hid ((a7.block _ (heap_lt q7)).trans q7); clear b7 D7 q7 a7)
              | (go_at_call 10; refine (HC2.out _ B7.out).mono ?_; rintro _ w8 ⟨rfl, b8⟩; have D8 := B7.out.below b8; obtain ⟨s0, s1, s2, s3, s4, s5⟩ := HXc.out _ _ D8; have l8 := heap_lt D8.ob; have q8 := (b8.block _ (heap_lt Q7.out)).trans Q7.out; have a8 := (Below.refl _ w8).alloc (Nat.le_refl _) (.cells #[.string ⟨#[]⟩, .string ⟨#[]⟩, .string ⟨#[]⟩, .int .u8 0] 35); have B8 := hid (D8.below a8); have Q8 := hid ((a8.block _ (heap_lt q8)).trans q8); have R8 := hid (heap_allocN w8 (.cells #[.string ⟨#[]⟩, .string ⟨#[]⟩, .string ⟨#[]⟩, .int .u8 0] 35)); clear b8 D8 q8 a8)
              | (go_at_call 13; refine (HDr2.out _ B8.out).mono ?_; rintro _ w9 ⟨rfl, d9, k9, _⟩; have D9 := hid d9; obtain ⟨t0, t1, t2, t3, t4, t5⟩ := HXc.out _ _ d9; obtain ⟨p0, p1, p2, p3⟩ := pcells (kept_cells Q8.out (k9 _)); obtain ⟨o0, o1, o2, o3⟩ := pcells (kept_cells R8.out (k9 _)); clear d9 k9))
            go_ret
            exact ⟨ret_bool (by simp), D9.out.be⟩
          · subst h2
            have g1 : decide (((60 : Nat) : Int) < (N : Int)) = true := by simp; omega
            have g2 : decide (((60 : Nat) : Int) < 60) = false := by decide
            go_wp2_with (first
              | (go_at_call 10; refine (HC.out _ HDi.out).mono ?_; rintro _ w4 ⟨rfl, b4⟩; have D4 := HDi.out.below b4; obtain ⟨y0, y1, y2, y3, y4, y5⟩ := HXc.out _ _ D4; have l4 := heap_lt D4.ob; have B4 := hid (D4.below ((Below.refl _ w4).alloc (Nat.le_refl _) (.cells #[.string a1.t, .string a1.u, .string a1.n, .int .u8 (a1.sc : Int)] 35))); have Q4 := hid (heap_allocN w4 (.cells #[.string a1.t, .string a1.u, .string a1.n, .int .u8 (a1.sc : Int)] 35)); have B4e := hid D4.be; clear b4 D4 HC HDi)
              | (go_at_call 13; refine (HDr.out _ B4.out).mono ?_; rintro _ w5 ⟨rfl, d5, k5, s5⟩; have D5 := hid d5; obtain ⟨z0, z1, z2, z3, z4, z5⟩ := HXc.out _ _ d5; have Q5 := hid (kept_cells Q4.out (k5 _)); clear d5 k5 s5 B4 HDr)
              | (go_at_call 10; refine (HC2.out _ D5.out).mono ?_; rintro _ w6 ⟨rfl, b6⟩; have D6 := D5.out.below b6; obtain ⟨v0, v1, v2, v3, v4, v5⟩ := HXc.out _ _ D6; have l6 := heap_lt D6.ob; have q6 := (b6.block _ (heap_lt Q5.out)).trans Q5.out; have a6 := (Below.refl _ w6).alloc (Nat.le_refl _) (.cells #[.string ⟨#[]⟩, .string ⟨#[]⟩, .string ⟨#[]⟩, .int .u8 0] 35); have B6 := hid (D6.below a6); have Q6 := hid ((a6.block _ (heap_lt q6)).trans q6); clear b6 D6 q6 a6 D5 Q5)
              | (go_at_call 11; refine (HCl.out _ B6.out).mono ?_; rintro _ w7 ⟨rfl, b7⟩; have D7 := B6.out.below b7; obtain ⟨r0, r1, r2, r3, r4, r5⟩ := HXc.out _ _ D7; have l7 := heap_lt D7.ob; have q7 := (b7.block _ (heap_lt Q6.out)).trans Q6.out; have a7 := (Below.refl _ w7).alloc (Nat.le_refl _) (.cells #[.string ⟨#[]⟩, .string ⟨#[]⟩, .string ⟨#[]⟩, .int .u8 0] 40); have B7 := hid (D7.below a7); have Q7 := hid ((a7.block _ (heap_lt q7)).trans q7); clear b7 D7 q7 a7)
              | (go_at_call 10; refine (HC2.out _ B7.out).mono ?_; rintro _ w8 ⟨rfl, b8⟩; have D8 := B7.out.below b8; obtain ⟨s0, s1, s2, s3, s4, s5⟩ := HXc.out _ _ D8; have l8 := heap_lt D8.ob; have q8 := (b8.block _ (heap_lt Q7.out)).trans Q7.out; have a8 := (Below.refl _ w8).alloc (Nat.le_refl _) (.cells #[.string ⟨#[]⟩, .string ⟨#[]⟩, .string ⟨#[]⟩, .int .u8 0] 35); have B8 := hid (D8.below a8); have Q8 := hid ((a8.block _ (heap_lt q8)).trans q8); have R8 := hid (heap_allocN w8 (.cells #[.string ⟨#[]⟩, .string ⟨#[]⟩, .string ⟨#[]⟩, .int .u8 0] 35)); clear b8 D8 q8 a8)
              | (go_at_call 13; refine (HDr2.out _ B8.out).mono ?_; rintro _ w9 ⟨rfl, d9, k9, _⟩; have D9 := hid d9; obtain ⟨t0, t1, t2, t3, t4, t5⟩ := HXc.out _ _ d9; obtain ⟨p0, p1, p2, p3⟩ := pcells (kept_cells Q8.out (k9 _)); obtain ⟨o0, o1, o2, o3⟩ := pcells (kept_cells R8.out (k9 _)); clear d9 k9))
            go_ret
            exact ⟨ret_bool (by simp), D9.out.be⟩
        · have q0 : (o.toList == n.toList) = false := by rw [beq_eq_false_iff_ne]; exact fun e => eo ((str_eqU _ _).2 e)
          have HC3 := hid (fun (V : World) (hV : GDi W ⟨kd, t, u, n, r, sc⟩ g gr k s9 T V) => (show Calls Try.prog 10 #[.pointer (some ⟨g, 0, none⟩), .agg #[.string t, .string u], .string o] V fun e w' => e = .returned (.tuple #[.agg #[.string a1.t, .string a1.u, .string a1.n, .int .u8 (a1.sc : Int)], .int .i64 e1]) ∧ Below V.heap.size V w' from by
            obtain ⟨X, h1⟩ := hV.pr.gp
            have h9 := gConsent_any h1 t u o HX.out.t HX.out.u Ho.out
            rw [HS9.out, dropC_o _ _ _ _ _ eo, hf1, HE1.out] at h9
            exact h9))
          clear hf1 hs9 eo
          rcases hstop with h1 | ⟨h1, h2⟩
          · have g1 : decide ((k : Int) < (N : Int)) = false := by simpa using h1
            clear hk hk8
            go_wp2_with (first
              | (go_at_call 10; refine (HC.out _ HDi.out).mono ?_; rintro _ w4 ⟨rfl, b4⟩; have D4 := HDi.out.below b4; obtain ⟨y0, y1, y2, y3, y4, y5⟩ := HXc.out _ _ D4; have l4 := heap_lt D4.ob; have B4 := hid (D4.below ((Below.refl _ w4).alloc (Nat.le_refl _) (.cells #[.string a1.t, .string a1.u, .string a1.n, .int .u8 (a1.sc : Int)] 35))); have Q4 := hid (heap_allocN w4 (.cells #[.string a1.t, .string a1.u, .string a1.n, .int .u8 (a1.sc : Int)] 35)); have B4e := hid D4.be; clear b4 D4 HC HDi)
              | (go_at_call 13; refine (HDr.out _ B4.out).mono ?_; rintro _ w5 ⟨rfl, d5, k5, s5⟩; have D5 := hid d5; obtain ⟨z0, z1, z2, z3, z4, z5⟩ := HXc.out _ _ d5; have Q5 := hid (kept_cells Q4.out (k5 _)); clear d5 k5 s5 B4 HDr)
              | (go_at_call 10; refine (HC2.out _ D5.out).mono ?_; rintro _ w6 ⟨rfl, b6⟩; have D6 := D5.out.below b6; obtain ⟨v0, v1, v2, v3, v4, v5⟩ := HXc.out _ _ D6; have l6 := heap_lt D6.ob; have q6 := (b6.block _ (heap_lt Q5.out)).trans Q5.out; have a6 := (Below.refl _ w6).alloc (Nat.le_refl _) (.cells #[.string ⟨#[]⟩, .string ⟨#[]⟩, .string ⟨#[]⟩, .int .u8 0] 35); have B6 := hid (D6.below a6); have Q6 := hid ((a6.block _ (heap_lt q6)).trans q6); clear b6 D6 q6 a6 D5 Q5)
              | (go_at_call 11; refine (HCl.out _ B6.out).mono ?_; rintro _ w7 ⟨rfl, b7⟩; have D7 := B6.out.below b7; obtain ⟨r0, r1, r2, r3, r4, r5⟩ := HXc.out _ _ D7; have l7 := heap_lt D7.ob; have q7 := (b7.block _ (heap_lt Q6.out)).trans Q6.out; have a7 := (Below.refl _ w7).alloc (Nat.le_refl _) (.cells #[.string ⟨#[]⟩, .string ⟨#[]⟩, .string ⟨#[]⟩, .int .u8 0] 40); have B7 := hid (D7.below a7); have Q7 := hid ((a7.block _ (heap_lt q7)).trans q7); clear b7 D7 q7 a7)
              | (go_at_call 10; refine (HC3.out _ B7.out).mono ?_; rintro _ w8 ⟨rfl, b8⟩; have D8 := B7.out.below b8; obtain ⟨s0, s1, s2, s3, s4, s5⟩ := HXc.out _ _ D8; have l8 := heap_lt D8.ob; have q8 := (b8.block _ (heap_lt Q7.out)).trans Q7.out; have a8 := (Below.refl _ w8).alloc (Nat.le_refl _) (.cells #[.string a1.t, .string a1.u, .string a1.n, .int .u8 (a1.sc : Int)] 35); have B8 := hid (D8.below a8); have Q8 := hid ((a8.block _ (heap_lt q8)).trans q8); have R8 := hid (heap_allocN w8 (.cells #[.string a1.t, .string a1.u, .string a1.n, .int .u8 (a1.sc : Int)] 35)); clear b8 D8 q8 a8)
              | (go_at_call 13; refine (HDr2.out _ B8.out).mono ?_; rintro _ w9 ⟨rfl, d9, k9, _⟩; have D9 := hid d9; obtain ⟨t0, t1, t2, t3, t4, t5⟩ := HXc.out _ _ d9; obtain ⟨p0, p1, p2, p3⟩ := pcells (kept_cells Q8.out (k9 _)); obtain ⟨o0, o1, o2, o3⟩ := pcells (kept_cells R8.out (k9 _)); clear d9 k9))
            go_ret
            exact ⟨ret_bool (by simp), D9.out.be⟩
          · subst h2
            have g1 : decide (((60 : Nat) : Int) < (N : Int)) = true := by simp; omega
            have g2 : decide (((60 : Nat) : Int) < 60) = false := by decide
            go_wp2_with (first
              | (go_at_call 10; refine (HC.out _ HDi.out).mono ?_; rintro _ w4 ⟨rfl, b4⟩; have D4 := HDi.out.below b4; obtain ⟨y0, y1, y2, y3, y4, y5⟩ := HXc.out _ _ D4; have l4 := heap_lt D4.ob; have B4 := hid (D4.below ((Below.refl _ w4).alloc (Nat.le_refl _) (.cells #[.string a1.t, .string a1.u, .string a1.n, .int .u8 (a1.sc : Int)] 35))); have Q4 := hid (heap_allocN w4 (.cells #[.string a1.t, .string a1.u, .string a1.n, .int .u8 (a1.sc : Int)] 35)); have B4e := hid D4.be; clear b4 D4 HC HDi)
              | (go_at_call 13; refine (HDr.out _ B4.out).mono ?_; rintro _ w5 ⟨rfl, d5, k5, s5⟩; have D5 := hid d5; obtain ⟨z0, z1, z2, z3, z4, z5⟩ := HXc.out _ _ d5; have Q5 := hid (kept_cells Q4.out (k5 _)); clear d5 k5 s5 B4 HDr)
              | (go_at_call 10; refine (HC2.out _ D5.out).mono ?_; rintro _ w6 ⟨rfl, b6⟩; have D6 := D5.out.below b6; obtain ⟨v0, v1, v2, v3, v4, v5⟩ := HXc.out _ _ D6; have l6 := heap_lt D6.ob; have q6 := (b6.block _ (heap_lt Q5.out)).trans Q5.out; have a6 := (Below.refl _ w6).alloc (Nat.le_refl _) (.cells #[.string ⟨#[]⟩, .string ⟨#[]⟩, .string ⟨#[]⟩, .int .u8 0] 35); have B6 := hid (D6.below a6); have Q6 := hid ((a6.block _ (heap_lt q6)).trans q6); clear b6 D6 q6 a6 D5 Q5)
              | (go_at_call 11; refine (HCl.out _ B6.out).mono ?_; rintro _ w7 ⟨rfl, b7⟩; have D7 := B6.out.below b7; obtain ⟨r0, r1, r2, r3, r4, r5⟩ := HXc.out _ _ D7; have l7 := heap_lt D7.ob; have q7 := (b7.block _ (heap_lt Q6.out)).trans Q6.out; have a7 := (Below.refl _ w7).alloc (Nat.le_refl _) (.cells #[.string ⟨#[]⟩, .string ⟨#[]⟩, .string ⟨#[]⟩, .int .u8 0] 40); have B7 := hid (D7.below a7); have Q7 := hid ((a7.block _ (heap_lt q7)).trans q7); clear b7 D7 q7 a7)
              | (go_at_call 10; refine (HC3.out _ B7.out).mono ?_; rintro _ w8 ⟨rfl, b8⟩; have D8 := B7.out.below b8; obtain ⟨s0, s1, s2, s3, s4, s5⟩ := HXc.out _ _ D8; have l8 := heap_lt D8.ob; have q8 := (b8.block _ (heap_lt Q7.out)).trans Q7.out; have a8 := (Below.refl _ w8).alloc (Nat.le_refl _) (.cells #[.string a1.t, .string a1.u, .string a1.n, .int .u8 (a1.sc : Int)] 35); have B8 := hid (D8.below a8); have Q8 := hid ((a8.block _ (heap_lt q8)).trans q8); have R8 := hid (heap_allocN w8 (.cells #[.string a1.t, .string a1.u, .string a1.n, .int .u8 (a1.sc : Int)] 35)); clear b8 D8 q8 a8)
              | (go_at_call 13; refine (HDr2.out _ B8.out).mono ?_; rintro _ w9 ⟨rfl, d9, k9, _⟩; have D9 := hid d9; obtain ⟨t0, t1, t2, t3, t4, t5⟩ := HXc.out _ _ d9; obtain ⟨p0, p1, p2, p3⟩ := pcells (kept_cells Q8.out (k9 _)); obtain ⟨o0, o1, o2, o3⟩ := pcells (kept_cells R8.out (k9 _)); clear d9 k9))
            go_ret
            exact ⟨ret_bool (by simp), D9.out.be⟩
end Go.Proofs.Ytlkbojgemcjilaa
