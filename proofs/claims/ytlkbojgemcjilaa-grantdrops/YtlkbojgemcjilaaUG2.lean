/- GrantNarrow walked. -/
import Derived.Test.YtlkbojgemcjilaaUG1
namespace Go.Proofs.Ytlkbojgemcjilaa
open Go.RowKit Go.Maps Go.Shelf Go.Sort Go.Lib
set_option linter.unusedVariables false
set_option maxRecDepth 20000
theorem xcells {V : World} {b : Nat} {x : GDeed} (hV : V.heap[b]? = some (.cells (gdC x) 27 (0, 0))) : V.cell? ⟨b, 0, none⟩ = some (.int .i64 x.kind) ∧ V.cell? ⟨b, 1, none⟩ = some (.string x.t) ∧ V.cell? ⟨b, 2, none⟩ = some (.string x.u) ∧ V.cell? ⟨b, 3, none⟩ = some (.string x.n) ∧ V.cell? ⟨b, 4, none⟩ = some (.string x.r) ∧ V.cell? ⟨b, 5, none⟩ = some (.int .u8 (x.sc : Int)) :=
  ⟨(cell_of_rowU _ _ 0 _ _ _ hV).trans rfl, (cell_of_rowU _ _ 1 _ _ _ hV).trans rfl, (cell_of_rowU _ _ 2 _ _ _ hV).trans rfl, (cell_of_rowU _ _ 3 _ _ _ hV).trans rfl, (cell_of_rowU _ _ 4 _ _ _ hV).trans rfl, (cell_of_rowU _ _ 5 _ _ _ hV).trans rfl⟩
theorem pcells {V : World} {b : Nat} {T : TypeId} {v0 v1 v2 v3 : Value} (hV : V.heap[b]? = some (.cells #[v0, v1, v2, v3] T (0, 0))) : V.cell? ⟨b, 0, none⟩ = some v0 ∧ V.cell? ⟨b, 1, none⟩ = some v1 ∧ V.cell? ⟨b, 2, none⟩ = some v2 ∧ V.cell? ⟨b, 3, none⟩ = some v3 :=
  ⟨(cell_of_rowU _ _ 0 _ _ _ hV).trans rfl, (cell_of_rowU _ _ 1 _ _ _ hV).trans rfl, (cell_of_rowU _ _ 2 _ _ _ hV).trans rfl, (cell_of_rowU _ _ 3 _ _ _ hV).trans rfl⟩
/-- what the loop over deeds keeps -/
structure GDid (w0 : World) (x : GDeed) (g gr k : Nat) (T : GS) (wr : World) : Prop where
  pr : PR wr w0.heap.size g gr T T k k
  be : Below w0.heap.size w0 wr
  ob : wr.heap[w0.heap.size]? = some (.cells (gdC x) 27 (0, 0))
theorem GDid.below {w0 wr w' : World} {x : GDeed} {g gr k : Nat} {T : GS} (h : GDid w0 x g gr k T wr) (hb : Below wr.heap.size wr w') : GDid w0 x g gr k T w' :=
  ⟨h.pr.below hb, Below.on' h.be hb, (hb.block _ (heap_lt h.ob)).trans h.ob⟩
theorem GDid.told {w0 wr w' : World} {x : GDeed} {g gr k : Nat} {T T' : GS} {v : Value} {e : Ending} (h : GDid w0 x g gr k T wr) (t : Told wr w0.heap.size g gr v T' T' (k + 1) (k + 1) e w') : GDid w0 x g gr (k + 1) T' w' :=
  ⟨t.2.1, h.be.trans t.2.2.2, t.2.2.1 _ _ _ h.ob (by decide) (by decide) (by decide)⟩
theorem gdid_start {w0 w1 w2 w3 : World} {x : GDeed} {g gr : Nat} {X : Nat → Prop} (b1 : Below (w0.alloc (.cells (gdC x) 27)).heap.size (w0.alloc (.cells (gdC x) 27)) w1) (h1 : GP w1 w0.heap.size g s0U 0 0 X) (b2 : Below w1.heap.size w1 w2) (h2 : RG w2 w1.heap.size gr s0U) (b3 : Below w2.heap.size w2 w3) : GDid w0 x g gr 0 s0U w3 := by
  have b0 : Below w0.heap.size w0 (w0.alloc (.cells (gdC x) 27)) := (Below.refl _ w0).alloc (Nat.le_refl _) _
  have k1 := Below.on' b0 b1
  refine (GDid.below ⟨⟨⟨X, h1.below b2⟩, h2.mono k1.size⟩, Below.on' k1 b2, ?_⟩ b3)
  have o1 : w1.heap[w0.heap.size]? = some (.cells (gdC x) 27 (0, 0)) := (b1.block _ (by simp)).trans (heap_allocN w0 _)
  exact (b2.block _ (heap_lt o1)).trans o1
/-- what the last questions answer -/
theorem narrow_facts {s : GS} (ok : s.Ok) (t u n r : ByteArray) (sc : Nat) (hsc : sc ≤ 255) : ∃ (a : Co) (c : Cl) (e1 e2 m : Int), ((fA s t u n).map coC).getD clC0 = coC a ∧ noneE (fA s t u n).isSome = e1 ∧ ((findC s t n).map clC).getD clC0 = clC c ∧ noneE (findC s t n).isSome = e2 ∧ ((mayRs s t u n r sc : Nat) : Int) = m ∧ ((e1 = 4 ∧ m = 4) ∨ (e1 = 0 ∧ e2 = 0 ∧ (bits BinOp.and IntKind.u8 (a.sc : Int) (c.sc : Int) == (a.sc : Int)) = true ∧ ((m = 10 ∨ m = 14) ∨ (m = 0 ∧ r = c.r ∧ (bits BinOp.and IntKind.u8 (sc : Int) (a.sc : Int) == (sc : Int)) = true ∧ (bits BinOp.and IntKind.u8 (sc : Int) (c.sc : Int) == (sc : Int)) = true)))) := by
  cases ha : fA s t u n with
  | none =>
    have hc0 : ∃ c, ((findC s t n).map clC).getD clC0 = clC c := by
      cases findC s t n with
      | none => exact ⟨⟨⟨#[]⟩, ⟨#[]⟩, ⟨#[]⟩, 0⟩, rfl⟩
      | some c => exact ⟨c, rfl⟩
    obtain ⟨c, hc⟩ := hc0
    refine ⟨⟨⟨#[]⟩, ⟨#[]⟩, ⟨#[]⟩, 0⟩, c, _, _, _, rfl, rfl, hc, rfl, rfl, .inl ⟨rfl, ?_⟩⟩
    unfold mayRs
    rw [ha]
    cases findC s t n <;> rfl
  | some a =>
    obtain ⟨c, hc, h1, h2, h3⟩ := gok_find ok ha
    rw [hc]
    refine ⟨a, c, _, _, _, rfl, rfl, rfl, rfl, rfl, .inr ⟨rfl, rfl, ?_, ?_⟩⟩
    · rw [and_bits _ _ (by omega) (by omega), h3]
      simp
    · unfold mayRs
      rw [ha, hc]
      dsimp only
      by_cases e : r = c.r
      · rw [if_pos e]
        cases hn : nar sc a.sc
        · exact .inl (.inr rfl)
        · have h5 : sc &&& a.sc = sc := by unfold nar at hn; exact of_decide_eq_true hn
          refine .inr ⟨rfl, e, ?_, ?_⟩
          · rw [and_bits _ _ (by omega) (by omega), h5]
            simp
          · rw [and_bits _ _ (by omega) (by omega), nar_trans h5 h3]
            simp
      · rw [if_neg e]
        exact .inl (.inl rfl)
set_option maxHeartbeats 16000000 in
theorem grantNarrow_walk (W : World) {a : Option Addr} {l : List GDeed} (hl : GDs W a l) (cap : Nat) (x : GDeed) (hx : x.Ok) :
    Calls Try.prog 3 #[.slice a l.length cap, .agg (gdC x)] W fun e w' => e = .returned (.bool true) ∧ Below W.heap.size W w' := by
  have Hl := hid hl
  have hN2 : l.length ≤ 9223372036854775807 := by simpa [maxLen] using hl.length
  have HN := hid (gNew_any (W.alloc (.cells (gdC x) 27)) W.heap.size (by simp))
  have HR := hid rNew13_any
  have HLv := hid liveG_any
  have HX := hid hx
  have HSt := hid (fun (w1 w2 w3 : World) (g gr : Nat) (X : Nat → Prop) => @gdid_start W w1 w2 w3 x g gr X)
  clear hl hx
  generalize hN : l.length = N at *
  have HLen := hid hN
  clear hN
  obtain ⟨W1, hW1⟩ : ∃ W1, W1 = W.alloc (.cells (gdC x) 27) := ⟨_, rfl⟩
  have bW := hid (show Below W.heap.size W W1 by rw [hW1]; exact (Below.refl _ W).alloc (Nat.le_refl _) _)
  rw [← hW1] at HN HSt
  have HW := hid hW1.symm
  clear hW1
  obtain ⟨kd, t, u, n, r, sc⟩ := x
  unfold gdC at HW ⊢
  dsimp only at HW ⊢
  go_enter Try.func3, Try.ntmps3
  go_wp2_with (first
    | (go_at_call 6; rw [HW.out]; refine HN.out.mono ?_; rintro _ w1 ⟨g, X1, rfl, b1, g1, _⟩; have B1 := hid b1; have G1 := hid g1; clear b1 g1 HN)
    | (go_at_call 7; refine (HR.out _).mono ?_; rintro _ w2 ⟨gr, rfl, hR2, hb2⟩; have H2 := hid hR2; have B2 := hid hb2; clear hR2 hb2 HR)
    | (go_at_call 8; refine (HLv.out _).mono ?_; rintro _ w3 ⟨rfl, hb3⟩; have H3 := hid (HSt.out _ _ w3 _ _ _ B1.out G1.out B2.out H2.out hb3); clear hb3 HLv G1 H2 B1 B2 HSt))
  go_loopw [7] (fun i wr => ∃ k : Nat, k ≤ N ∧ k ≤ 80 ∧ i = .int .i64 (k : Int) ∧ ∃ T, GDid W ⟨kd, t, u, n, r, sc⟩ g gr k T wr) (fun i _ => N - (intOf i).toNat)
  case atStart => exact ⟨0, Nat.zero_le _, Nat.zero_le _, rfl, s0U, H3.out⟩
  case round =>
    obtain ⟨k, hk, hk8, rfl, T, hD⟩ := hrel
    have HD := hid hD
    clear hD
    have hstop : (k < N ∧ k < 80) ∨ (¬ k < N) ∨ (k < N ∧ k = 80) := by omega
    rcases hstop with ⟨hlt, h8⟩ | hstop
    · have g1 : decide ((k : Int) < (N : Int)) = true := by simpa using hlt
      have g2 : decide ((k : Int) < 80) = true := by simp; omega
      have Hg : Hid (l[k]? = some (l[k]'(by rw [HLen.out]; exact hlt))) := List.getElem?_eq_getElem _
      generalize l[k]'(by rw [HLen.out]; exact hlt) = y at *
      obtain ⟨b, o, ea, c0, c1, c2, c3, c4, c5, hok⟩ := Hl.out.at HD.out.be Hg.out
      cases ea
      have Hdo := hid (doG_any HD.out.pr (by omega) (by omega) y hok)
      clear hok
      unfold gdC at Hdo
      go_wp2_with (go_at_call 9; refine Hdo.out.mono ?_; intro e4 w4 ht4; have T4 := hid (HD.out.told ht4); obtain ⟨rfl, _⟩ := ht4)
      go_roundw
      case rel => exact ⟨k + 1, by omega, by omega, by go_num, _, T4.out⟩
      case measure => exact measG hlt
    · -- the end
      obtain ⟨V, hV⟩ : ∃ V, V = wr := ⟨_, rfl⟩
      obtain ⟨a1, c1, e1, e2, m, hf1, hf2, hf3, hf4, hf5, hf⟩ := narrow_facts HD.out.pr.ok t u n r sc HX.out.sc
      have HC := hid (fun (V : World) (hV : GDid W ⟨kd, t, u, n, r, sc⟩ g gr k T V) => (show Calls Try.prog 10 #[.pointer (some ⟨g, 0, none⟩), .agg #[.string t, .string u], .string n] V fun e w' => e = .returned (.tuple #[.agg #[.string a1.t, .string a1.u, .string a1.n, .int .u8 (a1.sc : Int)], .int .i64 e1]) ∧ Below V.heap.size V w' from by
        obtain ⟨X, h1⟩ := hV.pr.gp
        have h9 := gConsent_any h1 t u n HX.out.t HX.out.u HX.out.n
        rw [hf1, hf2] at h9
        exact h9))
      have HCl := hid (fun (V : World) (hV : GDid W ⟨kd, t, u, n, r, sc⟩ g gr k T V) => (show Calls Try.prog 11 #[.pointer (some ⟨g, 0, none⟩), .string t, .string n] V fun e w' => e = .returned (.tuple #[.agg #[.string c1.t, .string c1.n, .string c1.r, .int .u8 (c1.sc : Int)], .int .i64 e2]) ∧ Below V.heap.size V w' from by
        obtain ⟨X, h1⟩ := hV.pr.gp
        have h9 := gClient_any h1 t n HX.out.t HX.out.n
        rw [hf3, hf4] at h9
        exact h9))
      have HM := hid (fun (V : World) (hV : GDid W ⟨kd, t, u, n, r, sc⟩ g gr k T V) => (show Calls Try.prog 12 #[.pointer (some ⟨g, 0, none⟩), .agg #[.string t, .string u], .string n, .string r, .int .u8 (sc : Int)] V fun e w' => e = .returned (.int .i64 m) ∧ Below V.heap.size V w' from by
        obtain ⟨X, h1⟩ := hV.pr.gp
        have h9 := gMay_any h1 t u n r sc HX.out.t HX.out.u HX.out.n HX.out.sc
        rw [hf5] at h9
        exact h9))
      have HXc := hid (fun (V : World) (hV : GDid W ⟨kd, t, u, n, r, sc⟩ g gr k T V) => (show V.cell? ⟨W.heap.size, 0, none⟩ = some (.int .i64 kd) ∧ V.cell? ⟨W.heap.size, 1, none⟩ = some (.string t) ∧ V.cell? ⟨W.heap.size, 2, none⟩ = some (.string u) ∧ V.cell? ⟨W.heap.size, 3, none⟩ = some (.string n) ∧ V.cell? ⟨W.heap.size, 4, none⟩ = some (.string r) ∧ V.cell? ⟨W.heap.size, 5, none⟩ = some (.int .u8 (sc : Int)) from xcells hV.ob))
      obtain ⟨x0, x1, x2, x3, x4, x5⟩ := HXc.out _ HD.out
      clear hV hf1 hf2 hf3 hf4 hf5
      rcases hf with ⟨rfl, rfl⟩ | ⟨rfl, rfl, hand, ⟨rfl | rfl⟩ | ⟨rfl, hr, hand2, hand3⟩⟩
      · rcases hstop with h1 | ⟨h1, h2⟩
        · have g1 : decide ((k : Int) < (N : Int)) = false := by simpa using h1
          clear hk hk8
          go_wp2_with (first
            | (go_at_call 10; refine (HC.out _ HD.out).mono ?_; rintro _ w4 ⟨rfl, b4⟩; have D4 := HD.out.below b4; obtain ⟨y0, y1, y2, y3, y4, y5⟩ := HXc.out _ D4; have l4 := heap_lt D4.ob; have B4 := hid (D4.below ((Below.refl _ w4).alloc (Nat.le_refl _) (.cells #[.string a1.t, .string a1.u, .string a1.n, .int .u8 (a1.sc : Int)] 35))); have b4' := hid b4; clear b4 D4)
            | (go_at_call 11; refine (HCl.out _ B4.out).mono ?_; rintro _ w5 ⟨rfl, b5⟩; have D5 := B4.out.below b5; obtain ⟨z0, z1, z2, z3, z4, z5⟩ := HXc.out _ D5; have l5 := heap_lt D5.ob; have q5 := (b5.block w4.heap.size (by simp)).trans (heap_allocN w4 (.cells #[.string a1.t, .string a1.u, .string a1.n, .int .u8 (a1.sc : Int)] 35)); have m5 := heap_lt q5; obtain ⟨p0, p1, p2, p3⟩ := pcells q5; have B5 := hid (D5.below ((Below.refl _ w5).alloc (Nat.le_refl _) (.cells #[.string c1.t, .string c1.n, .string c1.r, .int .u8 (c1.sc : Int)] 40))); have Q5 := hid (((Below.refl _ w5).alloc (Nat.le_refl _) (.cells #[.string c1.t, .string c1.n, .string c1.r, .int .u8 (c1.sc : Int)] 40)).block _ m5 |>.trans q5); clear b5 D5 q5)
            | (go_at_call 12; refine (HM.out _ B5.out).mono ?_; rintro _ w6 ⟨rfl, b6⟩; have D6 := B5.out.below b6; obtain ⟨v0, v1, v2, v3, v4, v5⟩ := HXc.out _ D6; have q6 := (b6.block _ (heap_lt Q5.out)).trans Q5.out; obtain ⟨r0, r1, r2, r3⟩ := pcells q6; have q7 := (b6.block w5.heap.size (by simp)).trans (heap_allocN w5 (.cells #[.string c1.t, .string c1.n, .string c1.r, .int .u8 (c1.sc : Int)] 40)); obtain ⟨s0, s1, s2, s3⟩ := pcells q7; have B6 := hid D6; clear b6 D6 q6 q7))
          go_ret
          exact ⟨ret_bool (by simp), B6.out.be⟩
        · subst h2
          have g1 : decide (((80 : Nat) : Int) < (N : Int)) = true := by simp; omega
          have g2 : decide (((80 : Nat) : Int) < 80) = false := by decide
          go_wp2_with (first
            | (go_at_call 10; refine (HC.out _ HD.out).mono ?_; rintro _ w4 ⟨rfl, b4⟩; have D4 := HD.out.below b4; obtain ⟨y0, y1, y2, y3, y4, y5⟩ := HXc.out _ D4; have l4 := heap_lt D4.ob; have B4 := hid (D4.below ((Below.refl _ w4).alloc (Nat.le_refl _) (.cells #[.string a1.t, .string a1.u, .string a1.n, .int .u8 (a1.sc : Int)] 35))); have b4' := hid b4; clear b4 D4)
            | (go_at_call 11; refine (HCl.out _ B4.out).mono ?_; rintro _ w5 ⟨rfl, b5⟩; have D5 := B4.out.below b5; obtain ⟨z0, z1, z2, z3, z4, z5⟩ := HXc.out _ D5; have l5 := heap_lt D5.ob; have q5 := (b5.block w4.heap.size (by simp)).trans (heap_allocN w4 (.cells #[.string a1.t, .string a1.u, .string a1.n, .int .u8 (a1.sc : Int)] 35)); have m5 := heap_lt q5; obtain ⟨p0, p1, p2, p3⟩ := pcells q5; have B5 := hid (D5.below ((Below.refl _ w5).alloc (Nat.le_refl _) (.cells #[.string c1.t, .string c1.n, .string c1.r, .int .u8 (c1.sc : Int)] 40))); have Q5 := hid (((Below.refl _ w5).alloc (Nat.le_refl _) (.cells #[.string c1.t, .string c1.n, .string c1.r, .int .u8 (c1.sc : Int)] 40)).block _ m5 |>.trans q5); clear b5 D5 q5)
            | (go_at_call 12; refine (HM.out _ B5.out).mono ?_; rintro _ w6 ⟨rfl, b6⟩; have D6 := B5.out.below b6; obtain ⟨v0, v1, v2, v3, v4, v5⟩ := HXc.out _ D6; have q6 := (b6.block _ (heap_lt Q5.out)).trans Q5.out; obtain ⟨r0, r1, r2, r3⟩ := pcells q6; have q7 := (b6.block w5.heap.size (by simp)).trans (heap_allocN w5 (.cells #[.string c1.t, .string c1.n, .string c1.r, .int .u8 (c1.sc : Int)] 40)); obtain ⟨s0, s1, s2, s3⟩ := pcells q7; have B6 := hid D6; clear b6 D6 q6 q7))
          go_ret
          exact ⟨ret_bool (by simp), B6.out.be⟩
      · rcases hstop with h1 | ⟨h1, h2⟩
        · have g1 : decide ((k : Int) < (N : Int)) = false := by simpa using h1
          clear hk hk8
          go_wp2_with (first
            | (go_at_call 10; refine (HC.out _ HD.out).mono ?_; rintro _ w4 ⟨rfl, b4⟩; have D4 := HD.out.below b4; obtain ⟨y0, y1, y2, y3, y4, y5⟩ := HXc.out _ D4; have l4 := heap_lt D4.ob; have B4 := hid (D4.below ((Below.refl _ w4).alloc (Nat.le_refl _) (.cells #[.string a1.t, .string a1.u, .string a1.n, .int .u8 (a1.sc : Int)] 35))); have b4' := hid b4; clear b4 D4)
            | (go_at_call 11; refine (HCl.out _ B4.out).mono ?_; rintro _ w5 ⟨rfl, b5⟩; have D5 := B4.out.below b5; obtain ⟨z0, z1, z2, z3, z4, z5⟩ := HXc.out _ D5; have l5 := heap_lt D5.ob; have q5 := (b5.block w4.heap.size (by simp)).trans (heap_allocN w4 (.cells #[.string a1.t, .string a1.u, .string a1.n, .int .u8 (a1.sc : Int)] 35)); have m5 := heap_lt q5; obtain ⟨p0, p1, p2, p3⟩ := pcells q5; have B5 := hid (D5.below ((Below.refl _ w5).alloc (Nat.le_refl _) (.cells #[.string c1.t, .string c1.n, .string c1.r, .int .u8 (c1.sc : Int)] 40))); have Q5 := hid (((Below.refl _ w5).alloc (Nat.le_refl _) (.cells #[.string c1.t, .string c1.n, .string c1.r, .int .u8 (c1.sc : Int)] 40)).block _ m5 |>.trans q5); clear b5 D5 q5)
            | (go_at_call 12; refine (HM.out _ B5.out).mono ?_; rintro _ w6 ⟨rfl, b6⟩; have D6 := B5.out.below b6; obtain ⟨v0, v1, v2, v3, v4, v5⟩ := HXc.out _ D6; have q6 := (b6.block _ (heap_lt Q5.out)).trans Q5.out; obtain ⟨r0, r1, r2, r3⟩ := pcells q6; have q7 := (b6.block w5.heap.size (by simp)).trans (heap_allocN w5 (.cells #[.string c1.t, .string c1.n, .string c1.r, .int .u8 (c1.sc : Int)] 40)); obtain ⟨s0, s1, s2, s3⟩ := pcells q7; have B6 := hid D6; clear b6 D6 q6 q7))
          go_ret
          exact ⟨ret_bool (by simp), B6.out.be⟩
        · subst h2
          have g1 : decide (((80 : Nat) : Int) < (N : Int)) = true := by simp; omega
          have g2 : decide (((80 : Nat) : Int) < 80) = false := by decide
          go_wp2_with (first
            | (go_at_call 10; refine (HC.out _ HD.out).mono ?_; rintro _ w4 ⟨rfl, b4⟩; have D4 := HD.out.below b4; obtain ⟨y0, y1, y2, y3, y4, y5⟩ := HXc.out _ D4; have l4 := heap_lt D4.ob; have B4 := hid (D4.below ((Below.refl _ w4).alloc (Nat.le_refl _) (.cells #[.string a1.t, .string a1.u, .string a1.n, .int .u8 (a1.sc : Int)] 35))); have b4' := hid b4; clear b4 D4)
            | (go_at_call 11; refine (HCl.out _ B4.out).mono ?_; rintro _ w5 ⟨rfl, b5⟩; have D5 := B4.out.below b5; obtain ⟨z0, z1, z2, z3, z4, z5⟩ := HXc.out _ D5; have l5 := heap_lt D5.ob; have q5 := (b5.block w4.heap.size (by simp)).trans (heap_allocN w4 (.cells #[.string a1.t, .string a1.u, .string a1.n, .int .u8 (a1.sc : Int)] 35)); have m5 := heap_lt q5; obtain ⟨p0, p1, p2, p3⟩ := pcells q5; have B5 := hid (D5.below ((Below.refl _ w5).alloc (Nat.le_refl _) (.cells #[.string c1.t, .string c1.n, .string c1.r, .int .u8 (c1.sc : Int)] 40))); have Q5 := hid (((Below.refl _ w5).alloc (Nat.le_refl _) (.cells #[.string c1.t, .string c1.n, .string c1.r, .int .u8 (c1.sc : Int)] 40)).block _ m5 |>.trans q5); clear b5 D5 q5)
            | (go_at_call 12; refine (HM.out _ B5.out).mono ?_; rintro _ w6 ⟨rfl, b6⟩; have D6 := B5.out.below b6; obtain ⟨v0, v1, v2, v3, v4, v5⟩ := HXc.out _ D6; have q6 := (b6.block _ (heap_lt Q5.out)).trans Q5.out; obtain ⟨r0, r1, r2, r3⟩ := pcells q6; have q7 := (b6.block w5.heap.size (by simp)).trans (heap_allocN w5 (.cells #[.string c1.t, .string c1.n, .string c1.r, .int .u8 (c1.sc : Int)] 40)); obtain ⟨s0, s1, s2, s3⟩ := pcells q7; have B6 := hid D6; clear b6 D6 q6 q7))
          go_ret
          exact ⟨ret_bool (by simp), B6.out.be⟩
      · rcases hstop with h1 | ⟨h1, h2⟩
        · have g1 : decide ((k : Int) < (N : Int)) = false := by simpa using h1
          clear hk hk8
          go_wp2_with (first
            | (go_at_call 10; refine (HC.out _ HD.out).mono ?_; rintro _ w4 ⟨rfl, b4⟩; have D4 := HD.out.below b4; obtain ⟨y0, y1, y2, y3, y4, y5⟩ := HXc.out _ D4; have l4 := heap_lt D4.ob; have B4 := hid (D4.below ((Below.refl _ w4).alloc (Nat.le_refl _) (.cells #[.string a1.t, .string a1.u, .string a1.n, .int .u8 (a1.sc : Int)] 35))); have b4' := hid b4; clear b4 D4)
            | (go_at_call 11; refine (HCl.out _ B4.out).mono ?_; rintro _ w5 ⟨rfl, b5⟩; have D5 := B4.out.below b5; obtain ⟨z0, z1, z2, z3, z4, z5⟩ := HXc.out _ D5; have l5 := heap_lt D5.ob; have q5 := (b5.block w4.heap.size (by simp)).trans (heap_allocN w4 (.cells #[.string a1.t, .string a1.u, .string a1.n, .int .u8 (a1.sc : Int)] 35)); have m5 := heap_lt q5; obtain ⟨p0, p1, p2, p3⟩ := pcells q5; have B5 := hid (D5.below ((Below.refl _ w5).alloc (Nat.le_refl _) (.cells #[.string c1.t, .string c1.n, .string c1.r, .int .u8 (c1.sc : Int)] 40))); have Q5 := hid (((Below.refl _ w5).alloc (Nat.le_refl _) (.cells #[.string c1.t, .string c1.n, .string c1.r, .int .u8 (c1.sc : Int)] 40)).block _ m5 |>.trans q5); clear b5 D5 q5)
            | (go_at_call 12; refine (HM.out _ B5.out).mono ?_; rintro _ w6 ⟨rfl, b6⟩; have D6 := B5.out.below b6; obtain ⟨v0, v1, v2, v3, v4, v5⟩ := HXc.out _ D6; have q6 := (b6.block _ (heap_lt Q5.out)).trans Q5.out; obtain ⟨r0, r1, r2, r3⟩ := pcells q6; have q7 := (b6.block w5.heap.size (by simp)).trans (heap_allocN w5 (.cells #[.string c1.t, .string c1.n, .string c1.r, .int .u8 (c1.sc : Int)] 40)); obtain ⟨s0, s1, s2, s3⟩ := pcells q7; have B6 := hid D6; clear b6 D6 q6 q7))
          go_ret
          exact ⟨ret_bool (by simp), B6.out.be⟩
        · subst h2
          have g1 : decide (((80 : Nat) : Int) < (N : Int)) = true := by simp; omega
          have g2 : decide (((80 : Nat) : Int) < 80) = false := by decide
          go_wp2_with (first
            | (go_at_call 10; refine (HC.out _ HD.out).mono ?_; rintro _ w4 ⟨rfl, b4⟩; have D4 := HD.out.below b4; obtain ⟨y0, y1, y2, y3, y4, y5⟩ := HXc.out _ D4; have l4 := heap_lt D4.ob; have B4 := hid (D4.below ((Below.refl _ w4).alloc (Nat.le_refl _) (.cells #[.string a1.t, .string a1.u, .string a1.n, .int .u8 (a1.sc : Int)] 35))); have b4' := hid b4; clear b4 D4)
            | (go_at_call 11; refine (HCl.out _ B4.out).mono ?_; rintro _ w5 ⟨rfl, b5⟩; have D5 := B4.out.below b5; obtain ⟨z0, z1, z2, z3, z4, z5⟩ := HXc.out _ D5; have l5 := heap_lt D5.ob; have q5 := (b5.block w4.heap.size (by simp)).trans (heap_allocN w4 (.cells #[.string a1.t, .string a1.u, .string a1.n, .int .u8 (a1.sc : Int)] 35)); have m5 := heap_lt q5; obtain ⟨p0, p1, p2, p3⟩ := pcells q5; have B5 := hid (D5.below ((Below.refl _ w5).alloc (Nat.le_refl _) (.cells #[.string c1.t, .string c1.n, .string c1.r, .int .u8 (c1.sc : Int)] 40))); have Q5 := hid (((Below.refl _ w5).alloc (Nat.le_refl _) (.cells #[.string c1.t, .string c1.n, .string c1.r, .int .u8 (c1.sc : Int)] 40)).block _ m5 |>.trans q5); clear b5 D5 q5)
            | (go_at_call 12; refine (HM.out _ B5.out).mono ?_; rintro _ w6 ⟨rfl, b6⟩; have D6 := B5.out.below b6; obtain ⟨v0, v1, v2, v3, v4, v5⟩ := HXc.out _ D6; have q6 := (b6.block _ (heap_lt Q5.out)).trans Q5.out; obtain ⟨r0, r1, r2, r3⟩ := pcells q6; have q7 := (b6.block w5.heap.size (by simp)).trans (heap_allocN w5 (.cells #[.string c1.t, .string c1.n, .string c1.r, .int .u8 (c1.sc : Int)] 40)); obtain ⟨s0, s1, s2, s3⟩ := pcells q7; have B6 := hid D6; clear b6 D6 q6 q7))
          go_ret
          exact ⟨ret_bool (by simp), B6.out.be⟩
      · have hr2 : (r.toList == c1.r.toList) = true := by rw [hr]; simp
        clear hr
        rcases hstop with h1 | ⟨h1, h2⟩
        · have g1 : decide ((k : Int) < (N : Int)) = false := by simpa using h1
          clear hk hk8
          go_wp2_with (first
            | (go_at_call 10; refine (HC.out _ HD.out).mono ?_; rintro _ w4 ⟨rfl, b4⟩; have D4 := HD.out.below b4; obtain ⟨y0, y1, y2, y3, y4, y5⟩ := HXc.out _ D4; have l4 := heap_lt D4.ob; have B4 := hid (D4.below ((Below.refl _ w4).alloc (Nat.le_refl _) (.cells #[.string a1.t, .string a1.u, .string a1.n, .int .u8 (a1.sc : Int)] 35))); have b4' := hid b4; clear b4 D4)
            | (go_at_call 11; refine (HCl.out _ B4.out).mono ?_; rintro _ w5 ⟨rfl, b5⟩; have D5 := B4.out.below b5; obtain ⟨z0, z1, z2, z3, z4, z5⟩ := HXc.out _ D5; have l5 := heap_lt D5.ob; have q5 := (b5.block w4.heap.size (by simp)).trans (heap_allocN w4 (.cells #[.string a1.t, .string a1.u, .string a1.n, .int .u8 (a1.sc : Int)] 35)); have m5 := heap_lt q5; obtain ⟨p0, p1, p2, p3⟩ := pcells q5; have B5 := hid (D5.below ((Below.refl _ w5).alloc (Nat.le_refl _) (.cells #[.string c1.t, .string c1.n, .string c1.r, .int .u8 (c1.sc : Int)] 40))); have Q5 := hid (((Below.refl _ w5).alloc (Nat.le_refl _) (.cells #[.string c1.t, .string c1.n, .string c1.r, .int .u8 (c1.sc : Int)] 40)).block _ m5 |>.trans q5); clear b5 D5 q5)
            | (go_at_call 12; refine (HM.out _ B5.out).mono ?_; rintro _ w6 ⟨rfl, b6⟩; have D6 := B5.out.below b6; obtain ⟨v0, v1, v2, v3, v4, v5⟩ := HXc.out _ D6; have q6 := (b6.block _ (heap_lt Q5.out)).trans Q5.out; obtain ⟨r0, r1, r2, r3⟩ := pcells q6; have q7 := (b6.block w5.heap.size (by simp)).trans (heap_allocN w5 (.cells #[.string c1.t, .string c1.n, .string c1.r, .int .u8 (c1.sc : Int)] 40)); obtain ⟨s0, s1, s2, s3⟩ := pcells q7; have B6 := hid D6; clear b6 D6 q6 q7))
          go_ret
          exact ⟨ret_bool (by simp), B6.out.be⟩
        · subst h2
          have g1 : decide (((80 : Nat) : Int) < (N : Int)) = true := by simp; omega
          have g2 : decide (((80 : Nat) : Int) < 80) = false := by decide
          go_wp2_with (first
            | (go_at_call 10; refine (HC.out _ HD.out).mono ?_; rintro _ w4 ⟨rfl, b4⟩; have D4 := HD.out.below b4; obtain ⟨y0, y1, y2, y3, y4, y5⟩ := HXc.out _ D4; have l4 := heap_lt D4.ob; have B4 := hid (D4.below ((Below.refl _ w4).alloc (Nat.le_refl _) (.cells #[.string a1.t, .string a1.u, .string a1.n, .int .u8 (a1.sc : Int)] 35))); have b4' := hid b4; clear b4 D4)
            | (go_at_call 11; refine (HCl.out _ B4.out).mono ?_; rintro _ w5 ⟨rfl, b5⟩; have D5 := B4.out.below b5; obtain ⟨z0, z1, z2, z3, z4, z5⟩ := HXc.out _ D5; have l5 := heap_lt D5.ob; have q5 := (b5.block w4.heap.size (by simp)).trans (heap_allocN w4 (.cells #[.string a1.t, .string a1.u, .string a1.n, .int .u8 (a1.sc : Int)] 35)); have m5 := heap_lt q5; obtain ⟨p0, p1, p2, p3⟩ := pcells q5; have B5 := hid (D5.below ((Below.refl _ w5).alloc (Nat.le_refl _) (.cells #[.string c1.t, .string c1.n, .string c1.r, .int .u8 (c1.sc : Int)] 40))); have Q5 := hid (((Below.refl _ w5).alloc (Nat.le_refl _) (.cells #[.string c1.t, .string c1.n, .string c1.r, .int .u8 (c1.sc : Int)] 40)).block _ m5 |>.trans q5); clear b5 D5 q5)
            | (go_at_call 12; refine (HM.out _ B5.out).mono ?_; rintro _ w6 ⟨rfl, b6⟩; have D6 := B5.out.below b6; obtain ⟨v0, v1, v2, v3, v4, v5⟩ := HXc.out _ D6; have q6 := (b6.block _ (heap_lt Q5.out)).trans Q5.out; obtain ⟨r0, r1, r2, r3⟩ := pcells q6; have q7 := (b6.block w5.heap.size (by simp)).trans (heap_allocN w5 (.cells #[.string c1.t, .string c1.n, .string c1.r, .int .u8 (c1.sc : Int)] 40)); obtain ⟨s0, s1, s2, s3⟩ := pcells q7; have B6 := hid D6; clear b6 D6 q6 q7))
          go_ret
          exact ⟨ret_bool (by simp), B6.out.be⟩
end Go.Proofs.Ytlkbojgemcjilaa
