/- Grants: Allow, the walk. -/
import Derived.Test.YtlkbojgemcjilaaGreatDoorU20
namespace Go.Proofs.YtlkbojgemcjilaaGreatDoor
open Go.RowKit Go.Maps Go.Shelf Go.Sort Go.Lib
set_option linter.unusedVariables false
set_option maxRecDepth 20000
section
variable {w w' : World} {B g mc d : Nat} {L : List Reg} {s : GS}
theorem SAt.putA (h : SAt w B g mc L s d) {p : Reg} (hp : p ∈ L) (a : Co) (ht : p.c.t = a.t) (hn : p.c.n = a.n) (h1 : okN a.t = true) (h2 : okN a.u = true) (h3 : a.sc ≤ 255) (h6 : a.sc &&& p.c.sc = a.sc) (k : Nat) (D : DataW Unit) (hk : k ≤ d) (hD : ARel D (s.al.filter (ofC a.t a.n)))
    (hm : w'.ownsMap Tryz.prog 9 (plainElem Tryz.prog 31) p.m (k + 1) (D.put (.string a.u.data.toList) (.lit (.int .u8 (a.sc : Int))))) (hg : w.grownBy w' (some p.m)) : SAt w' B g mc L (s.putA a) (d + 1) := by
  have hok := h.ok.putA h1 h2 h3 (h.mem_cs hp) ht hn h6
  refine h.turnA hp (Nat.le_succ d) hok (k + 1) _ (by omega) ?_ (fun q hq hne => ?_) hm hg
  · rw [ht, hn]
    exact hD.putA h.ok
  · show (s.al.filter (fun x => !isA a.t a.u a.n x) ++ [a]).filter _ = _
    have hne' : ofC q.c.t q.c.n a = false := by
      cases h9 : ofC q.c.t q.c.n a with
      | false => rfl
      | true =>
        obtain ⟨e1, e2⟩ := ofC_iff.1 h9
        exact absurd (h.key_inj hq hp (by rw [← e1, ← e2, ht, hn])) hne
    rw [List.filter_append, List.filter_cons_of_neg (by rw [hne']; simp), List.filter_nil, List.append_nil, List.filter_filter]
    refine List.filter_congr fun x hx => ?_
    cases h9 : ofC q.c.t q.c.n x with
    | false => rfl
    | true =>
      obtain ⟨e1, e2⟩ := ofC_iff.1 h9
      have : isA a.t a.u a.n x = false := by
        cases h8 : isA a.t a.u a.n x with
        | false => rfl
        | true =>
          obtain ⟨e3, _, e4⟩ := isA_iff.1 h8
          rw [ofC_iff.2 ⟨by rw [← e1, e3], by rw [← e2, e4]⟩] at hne'
          cases hne'
      rw [this]
      rfl
set_option maxHeartbeats 8000000 in
theorem allow_any (h : SAt w B g mc L s d) (hd : d ≤ 17592186044416) (hl9 : L.length ≤ 100000) (hB : B ≤ w.heap.size) (a : Co) (ht : a.t.size ≤ maxLen) (hu : a.u.size ≤ maxLen) (hn : a.n.size ≤ maxLen) (hsc : a.sc ≤ 255) :
    Calls Tryz.prog 20 #[.pointer (some ⟨g, 0, none⟩), .agg (coC a)] w fun e w' => e = .returned (.int .i64 (allE L s a : Nat)) ∧ OutJ (MineU g mc L) w w' ∧ SAt w' B g mc L (s.allow L a) (d + 1) := by
  obtain ⟨W, hW⟩ : ∃ W, W = w.alloc (.cells (coC a) 59) := ⟨_, rfl⟩
  have b0 : Below w.heap.size w W := by rw [hW]; exact (Below.refl _ w).alloc (Nat.le_refl _) _
  have x0 : W.heap[w.heap.size]? = some (.cells (coC a) 59 (0, 0)) := by rw [hW]; exact heap_allocN w _
  have h0 := h.below b0
  have HX := hid (fun (V : World) (hV : Below W.heap.size W V) => (hV.block _ (heap_lt x0)).trans x0)
  have HP := hid (fun (V : World) (hV : V.heap[w.heap.size]? = some (.cells (coC a) 59 (0, 0))) => (show V.cell? ⟨w.heap.size, 0, none⟩ = some (.string a.t) ∧ V.cell? ⟨w.heap.size, 1, none⟩ = some (.string a.u) ∧ V.cell? ⟨w.heap.size, 2, none⟩ = some (.string a.n) ∧ V.cell? ⟨w.heap.size, 3, none⟩ = some (.int .u8 (a.sc : Int)) from
    ⟨(cell_of_rowU _ _ 0 _ _ _ hV).trans rfl, (cell_of_rowU _ _ 1 _ _ _ hV).trans rfl, (cell_of_rowU _ _ 2 _ _ _ hV).trans rfl, (cell_of_rowU _ _ 3 _ _ _ hV).trans rfl⟩))
  obtain ⟨y0, y1, y2, y3⟩ := HP.out W x0
  have HO := hid (isOwner_any a.t a.u W ht hu)
  have HF := hid (fun (V : World) (hV : Below W.heap.size W V) => find_any (h0.below hV) a.t a.n ht hn)
  have HW : Hid (w.alloc (.cells (coC a) 59) = W) := hid hW.symm
  have B0 := hid b0
  have H := hid h
  have H0 := hid h0
  have HZ := hid (And.intro hd (And.intro hl9 (And.intro hB (And.intro ht (And.intro hu (And.intro hn hsc))))))
  obtain ⟨E, hE⟩ : ∃ E, E = allE L s a := ⟨_, rfl⟩
  obtain ⟨s9, hs9⟩ : ∃ s9, s9 = s.allow L a := ⟨_, rfl⟩
  rw [← hE, ← hs9]
  unfold GS.allow at hs9
  rw [← hE] at hs9
  unfold allE at hE
  have hbk : ∀ V, Below W.heap.size W V → Below w.heap.size w V := fun V hV => Below.on' b0 hV
  have HB := hid hbk
  unfold coC at HW HX HP ⊢
  rw [← HW.out] at y0 y1 y2 y3
  cases ho : okN a.t && okN a.u with
  | false =>
    rw [ho] at HO
    rw [if_pos ho] at hE
    subst hE
    rw [if_neg (by decide)] at hs9
    subst hs9
    clear h h0 hW b0 x0 ho ht hu hn hsc hd hl9 hB hbk
    go_enter Tryz.func20, Tryz.ntmps20
    go_wp2_with (go_at_call 54; rw [HW.out]; refine HO.out.mono ?_; rintro _ w1 ⟨rfl, b1⟩; have B1 := hid (HB.out _ b1); clear b1)
    go_ret
    exact ⟨rfl, OutJ.of_below B1.out, (H.out.below B1.out).mono (Nat.le_succ d)⟩
  | true =>
    rw [ho] at HO
    rw [if_neg (by rw [ho]; simp)] at hE
    obtain ⟨ok1, ok2⟩ : okN a.t = true ∧ okN a.u = true := by simpa using ho
    have HK := hid (And.intro ok1 ok2)
    cases hf : fC L a.t a.n with
    | none =>
      rw [hf] at HF hE
      simp only at hE
      subst hE
      rw [if_neg (by decide)] at hs9
      subst hs9
      clear h h0 hW b0 x0 ho ht hu hn hsc hd hl9 hB hbk hf ok1 ok2
      go_enter Tryz.func20, Tryz.ntmps20
      go_wp2_with (first
        | (go_at_call 54; rw [HW.out]; refine HO.out.mono ?_; rintro _ w1 ⟨rfl, b1⟩; have BW := hid b1; obtain ⟨z0, z1, z2, z3⟩ := HP.out w1 (HX.out w1 b1); clear b1)
        | (go_at_call 52; refine (HF.out _ BW.out).mono ?_; rintro _ w2 ⟨rfl, e2⟩; subst w2; unfold noneE; simp only [Option.isSome_none, Bool.false_eq_true, if_false]))
      go_ret
      exact ⟨rfl, OutJ.of_below (HB.out _ BW.out), (H.out.below (HB.out _ BW.out)).mono (Nat.le_succ d)⟩
    | some p =>
      rw [hf] at HF hE
      obtain ⟨hp, hpt, hpn⟩ := fC_some hf
      simp only [Option.map_some, Option.isSome_some] at HF hE
      have Hp := hid (And.intro hp (And.intro hpt hpn))
      have hps := (h.ok.names _ (h.mem_cs hp)).2.2.2
      have HN := hid (fun (V : World) => isNarrower_any a.sc p.c.sc hsc hps V)
      have HR := hid (fun (V : World) (hV : Below W.heap.size W V) => ((h0.below hV).regs p hp).c)
      cases hnr : nar a.sc p.c.sc with
      | false =>
        rw [hnr] at HN
        rw [if_pos hnr] at hE
        subst hE
        rw [if_neg (by decide)] at hs9
        subst hs9
        clear h h0 hW b0 x0 ho ht hu hn hsc hd hl9 hB hbk hf ok1 ok2 hp hpt hpn hps hnr
        go_enter Tryz.func20, Tryz.ntmps20
        go_wp2_with (first
          | (go_at_call 54; rw [HW.out]; refine HO.out.mono ?_; rintro _ w1 ⟨rfl, b1⟩; have BW := hid b1; obtain ⟨z0, z1, z2, z3⟩ := HP.out w1 (HX.out w1 b1); obtain ⟨r0, r1, r2⟩ := HR.out w1 b1; clear b1)
          | (go_at_call 52; refine (HF.out _ BW.out).mono ?_; rintro _ w2 ⟨rfl, e2⟩; subst w2; unfold noneE; simp only [if_true]))
        go_quiet ((go_at_call 55; refine Calls.quiet_of_same (HN.out _)))
        go_wp2
        go_ret
        have b9 : Below w.heap.size w (w1.drewN nq) := (HB.out _ BW.out).trans (below_dN _ _ _)
        exact ⟨rfl, OutJ.of_below b9, (H.out.below b9).mono (Nat.le_succ d)⟩
      | true =>
        rw [hnr] at HN
        rw [if_neg (by rw [hnr]; simp)] at hE
        have hand : a.sc &&& p.c.sc = a.sc := by unfold nar at hnr; exact of_decide_eq_true hnr
        have Hand := hid hand
        have HLk := hid (fun (V : World) (hV : Below W.heap.size W V) (q : Nat) => (((h0.below hV).regs p hp).below (below_dN _ V q)).look a.u hu)
        have HC := hid (fun (V : World) (hV : Below W.heap.size W V) => consents_any (h0.below hV) hl9 a.t a.u ht hu)
        have HCn := hid (fun (S : List Cl) (hS : S.Perm (s.cs.filter (inT a.t))) => consF_cnt h a.t a.u hS)
        have Hkl := hid (Go.WideMaps.keyOf_string_mk Tryz.underlying9 (s := a.u) hu)
        have hfa : s.al.find? (isA p.c.t a.u p.c.n) = fA s a.t a.u a.n := by rw [hpt, hpn]; rfl
        rw [hfa] at HLk
        cases hg : fA s a.t a.u a.n with
        | some b =>
          rw [hg] at HLk hE
          rw [if_neg (by simp)] at hE
          subst hE
          rw [if_pos rfl] at hs9
          subst hs9
          simp only [Option.map_some, Option.getD_some, Option.isSome_some] at HLk
          clear h h0 hW b0 x0 ho ht hu hn hsc hd hl9 hB hbk hf ok1 ok2 hp hpt hpn hps hnr hand hfa hg HC HCn
          go_enter Tryz.func20, Tryz.ntmps20
          go_wp2_with (first
            | (go_at_call 54; rw [HW.out]; refine HO.out.mono ?_; rintro _ w1 ⟨rfl, b1⟩; have BW := hid b1; obtain ⟨z0, z1, z2, z3⟩ := HP.out w1 (HX.out w1 b1); obtain ⟨r0, r1, r2⟩ := HR.out w1 b1; clear b1)
            | (go_at_call 52; refine (HF.out _ BW.out).mono ?_; rintro _ w2 ⟨rfl, e2⟩; subst w2; unfold noneE; simp only [if_true]))
          go_quiet ((go_at_call 55; refine Calls.quiet_of_same (HN.out _)))
          go_wp2
          obtain ⟨V, hV⟩ : ∃ V, V = w1.drewN nq := ⟨_, rfl⟩
          have bV : Below W.heap.size W V := by rw [hV]; exact Below.on' BW.out (below_dN _ _ _)
          rw [← hV]
          clear z0 z1 z2 z3 r0 r1 r2
          obtain ⟨z0, z1, z2, z3⟩ := HP.out V (HX.out V bV)
          obtain ⟨r0, r1, r2⟩ := HR.out V bV
          have hlk := HLk.out V bV
          have BV := hid bV
          clear bV hV HLk
          go_quiet (fail)
          go_wp2
          clear z0 z1 z2 z3 r0 r1 r2 hlk
          obtain ⟨U, hU⟩ : ∃ U, U = V.drewN nq := ⟨_, rfl⟩
          have bU : Below W.heap.size W U := by rw [hU]; exact Below.on' BV.out (below_dN _ _ _)
          rw [← hU]
          have BU := hid bU
          clear bU hU
          obtain ⟨z0, z1, z2, z3⟩ := HP.out U (HX.out U BU.out)
          have bUd : Below W.heap.size W U.drew := Below.on' BU.out (below_dN _ _ 1)
          have H1 := hid (H0.out.below bUd)
          obtain ⟨r0, r1, r2⟩ := HR.out U BU.out
          obtain ⟨hp, hpt, hpn⟩ := Hp.out
          obtain ⟨_, _, _, k, D, hmm, hk, hD⟩ := H1.out.regs p hp
          rw [hpt, hpn] at hD
          have hwf : (Lit.int .u8 (a.sc : Int)).wf = true := by have := HZ.out.2.2.2.2.2.2; simp [Lit.wf, IntKind.min, IntKind.max, IntKind.signed, IntKind.bits]; omega
          obtain ⟨w2, hrun, hown2, ht2⟩ := hmm.store (key := .string a.u) (val := .int .u8 (a.sc : Int)) (d := .lit (.int .u8 (a.sc : Int))) (ps := []) lawStr Tryz.underlying64 (by have := HZ.out.1; unfold maxLen; omega) Hkl.out (plainElem_int Tryz.underlying31 hwf)
          have hg2 := ht2.grown
          have xU := HX.out U.drew bUd
          have x2 := (hg2.block w.heap.size (heap_lt xU) (fun e => cells_ne_map hmm xU (Option.some.inj e))).trans xU
          obtain ⟨q0, q1, q2, q3⟩ := HP.out _ x2
          have hS := H1.out.putA hp a hpt hpn HK.out.1 HK.out.2 HZ.out.2.2.2.2.2.2 Hand.out k D hk hD hown2 hg2
          have s2 := (hS.regs p hp).c.2.2
          have H2 := hid hS
          have O2 := hid ((OutJ.of_below (P := MineU g mc L) (HB.out _ bUd)).trans (OutJ.of_grown (P := MineU g mc L) hg2 (.inr (.inr ⟨p, hp, .inr rfl⟩))))
          clear z0 z2 r0 r1 q0 q2 hmm hk hD hwf hown2 hg2 ht2 xU x2 hS bUd hp hpt hpn
          go_region_held3 (fun w9 => w9.cell? ⟨w.heap.size, 1, none⟩ = some (.string a.u) ∧ w9.cell? ⟨w.heap.size, 3, none⟩ = some (.int .u8 (a.sc : Int)) ∧ w9.cell? ⟨p.r, 2, none⟩ = some (.map (some p.m)))
            (first
              | exact ⟨z1, z3, r2⟩
              | exact ⟨q1, q3, s2⟩)
            (fail)
          go_wp2
          go_ret
          exact ⟨rfl, O2.out, H2.out⟩
        | none =>
          rw [hg] at HLk hE
          simp only [Option.isSome_none, true_and] at hE
          simp only [Option.map_none, Option.getD_none, Option.isSome_none] at HLk
          have Hcn9 := hid (show consN s a.t a.u ≤ 100000 from by
            have h9 := consents_len h hl9 a.t a.u
            exact h9)
          clear h h0 hW b0 x0 ho ht hu hn hsc hd hl9 hB hbk hf ok1 ok2 hp hpt hpn hps hnr hand hfa hg
          obtain ⟨m, hm⟩ : ∃ m, m = consN s a.t a.u := ⟨_, rfl⟩
          rw [← hm] at hE HCn
          have Hm := hid hm
          clear hm
          by_cases h4 : 4 ≤ m
          · rw [if_pos h4] at hE
            subst hE
            rw [if_neg (by decide)] at hs9
            subst hs9
            have d4 : decide ((4 : Int) ≤ (m : Int)) = true := by simp; omega
            clear h4
            go_enter Tryz.func20, Tryz.ntmps20
            go_wp2_with (first
              | (go_at_call 54; rw [HW.out]; refine HO.out.mono ?_; rintro _ w1 ⟨rfl, b1⟩; have BW := hid b1; obtain ⟨z0, z1, z2, z3⟩ := HP.out w1 (HX.out w1 b1); obtain ⟨r0, r1, r2⟩ := HR.out w1 b1; clear b1)
              | (go_at_call 52; refine (HF.out _ BW.out).mono ?_; rintro _ w2 ⟨rfl, e2⟩; subst w2; unfold noneE; simp only [if_true]))
            go_quiet ((go_at_call 55; refine Calls.quiet_of_same (HN.out _)))
            go_wp2
            obtain ⟨V, hV⟩ : ∃ V, V = w1.drewN nq := ⟨_, rfl⟩
            have bV : Below W.heap.size W V := by rw [hV]; exact Below.on' BW.out (below_dN _ _ _)
            rw [← hV]
            clear z0 z1 z2 z3 r0 r1 r2
            obtain ⟨z0, z1, z2, z3⟩ := HP.out V (HX.out V bV)
            obtain ⟨r0, r1, r2⟩ := HR.out V bV
            have hlk := HLk.out V bV
            have BV := hid bV
            clear bV hV HLk
            go_quiet (fail)
            clear z0 z1 z2 z3 r0 r1 r2 hlk
            obtain ⟨T, hT⟩ : ∃ T, T = V.drewN nq := ⟨_, rfl⟩
            have bT : Below W.heap.size W T := by rw [hT]; exact Below.on' BV.out (below_dN _ _ _)
            rw [← hT]
            obtain ⟨z0, z1, z2, z3⟩ := HP.out T (HX.out T bT)
            have BT := hid bT
            clear bT hT
            go_wp2_with (go_at_call 39; refine (HC.out _ BT.out).mono ?_; rintro _ U ⟨v, S, c, rfl, p1, p2, p3, p4⟩; rw [HCn.out S p1]; have BU := hid (Below.on' BT.out p4); clear p1 p2 p3 p4)
            clear z0 z1 z2 z3
            go_ret
            exact ⟨rfl, OutJ.of_below (HB.out _ BU.out), (H.out.below (HB.out _ BU.out)).mono (Nat.le_succ d)⟩
          · rw [if_neg h4] at hE
            subst hE
            rw [if_pos rfl] at hs9
            subst hs9
            have d4 : decide ((4 : Int) ≤ (m : Int)) = false := by simp; omega
            clear h4
            go_enter Tryz.func20, Tryz.ntmps20
            go_wp2_with (first
              | (go_at_call 54; rw [HW.out]; refine HO.out.mono ?_; rintro _ w1 ⟨rfl, b1⟩; have BW := hid b1; obtain ⟨z0, z1, z2, z3⟩ := HP.out w1 (HX.out w1 b1); obtain ⟨r0, r1, r2⟩ := HR.out w1 b1; clear b1)
              | (go_at_call 52; refine (HF.out _ BW.out).mono ?_; rintro _ w2 ⟨rfl, e2⟩; subst w2; unfold noneE; simp only [if_true]))
            go_quiet ((go_at_call 55; refine Calls.quiet_of_same (HN.out _)))
            go_wp2
            obtain ⟨V, hV⟩ : ∃ V, V = w1.drewN nq := ⟨_, rfl⟩
            have bV : Below W.heap.size W V := by rw [hV]; exact Below.on' BW.out (below_dN _ _ _)
            rw [← hV]
            clear z0 z1 z2 z3 r0 r1 r2
            obtain ⟨z0, z1, z2, z3⟩ := HP.out V (HX.out V bV)
            obtain ⟨r0, r1, r2⟩ := HR.out V bV
            have hlk := HLk.out V bV
            have BV := hid bV
            clear bV hV HLk
            go_quiet (fail)
            clear z0 z1 z2 z3 r0 r1 r2 hlk
            obtain ⟨T, hT⟩ : ∃ T, T = V.drewN nq := ⟨_, rfl⟩
            have bT : Below W.heap.size W T := by rw [hT]; exact Below.on' BV.out (below_dN _ _ _)
            rw [← hT]
            obtain ⟨z0, z1, z2, z3⟩ := HP.out T (HX.out T bT)
            have BT := hid bT
            clear bT hT
            go_wp2_with (go_at_call 39; refine (HC.out _ BT.out).mono ?_; rintro _ U ⟨v, S, c, rfl, p1, p2, p3, p4⟩; rw [HCn.out S p1]; have BU := hid (Below.on' BT.out p4); clear p1 p2 p3 p4)
            clear z0 z1 z2 z3
            obtain ⟨z0, z1, z2, z3⟩ := HP.out U (HX.out U BU.out)
            have bUd : Below W.heap.size W U.drew := Below.on' BU.out (below_dN _ _ 1)
            have H1 := hid (H0.out.below bUd)
            obtain ⟨r0, r1, r2⟩ := HR.out U BU.out
            obtain ⟨hp, hpt, hpn⟩ := Hp.out
            obtain ⟨_, _, _, k, D, hmm, hk, hD⟩ := H1.out.regs p hp
            rw [hpt, hpn] at hD
            have hwf : (Lit.int .u8 (a.sc : Int)).wf = true := by have := HZ.out.2.2.2.2.2.2; simp [Lit.wf, IntKind.min, IntKind.max, IntKind.signed, IntKind.bits]; omega
            obtain ⟨w2, hrun, hown2, ht2⟩ := hmm.store (key := .string a.u) (val := .int .u8 (a.sc : Int)) (d := .lit (.int .u8 (a.sc : Int))) (ps := []) lawStr Tryz.underlying64 (by have := HZ.out.1; unfold maxLen; omega) Hkl.out (plainElem_int Tryz.underlying31 hwf)
            have hg2 := ht2.grown
            have xU := HX.out U.drew bUd
            have x2 := (hg2.block w.heap.size (heap_lt xU) (fun e => cells_ne_map hmm xU (Option.some.inj e))).trans xU
            obtain ⟨q0, q1, q2, q3⟩ := HP.out _ x2
            have hS := H1.out.putA hp a hpt hpn HK.out.1 HK.out.2 HZ.out.2.2.2.2.2.2 Hand.out k D hk hD hown2 hg2
            have s2 := (hS.regs p hp).c.2.2
            have H2 := hid hS
            have O2 := hid ((OutJ.of_below (P := MineU g mc L) (HB.out _ bUd)).trans (OutJ.of_grown (P := MineU g mc L) hg2 (.inr (.inr ⟨p, hp, .inr rfl⟩))))
            clear z0 z2 r0 r1 q0 q2 hmm hk hD hwf hown2 hg2 ht2 xU x2 hS bUd hp hpt hpn
            go_region_held3 (fun w9 => w9.cell? ⟨w.heap.size, 1, none⟩ = some (.string a.u) ∧ w9.cell? ⟨w.heap.size, 3, none⟩ = some (.int .u8 (a.sc : Int)) ∧ w9.cell? ⟨p.r, 2, none⟩ = some (.map (some p.m)))
              (first
                | exact ⟨z1, z3, r2⟩
                | exact ⟨q1, q3, s2⟩)
              (fail)
            go_wp2
            go_ret
            exact ⟨rfl, O2.out, H2.out⟩
end
end Go.Proofs.YtlkbojgemcjilaaGreatDoor
