/- The reference's Load of any rows: the walk. -/
import Derived.Test.YthfmpebgmojcaaaDoorQRl1
namespace Go.Proofs.YthfmpebgmojcaaaDoor
open Go.RowKit
set_option linter.unusedVariables false
set_option maxRecDepth 20000
attribute [local go_sem ↓] loadH_fold storeH_fold buildR14_fold
set_option maxHeartbeats 16000000 in
theorem rload_long {w : World} (b o cap : Nat) (p q s : ByteArray) (r1 r2 r3 : TR) (l : List TR) (hR : TxIn w b o ((⟨#[35]⟩, [p, q, s]) :: r1 :: r2 :: r3 :: l)) (hS : ∀ r ∈ (⟨#[35]⟩, [p, q, s]) :: r1 :: r2 :: r3 :: l, ∀ x ∈ r.2, x.size ≤ maxLen) (hl : l.length ≤ 64) (hcap : 4 + l.length ≤ cap) :
    Calls Tryd.prog 7 #[.slice (some ⟨b, o, none⟩) (4 + l.length) cap] w (RLoadAny w (loadC ((⟨#[35]⟩, [p, q, s]) :: r1 :: r2 :: r3 :: l))) := by
  obtain ⟨a0, p0, u0, v0, s0⟩ := hR 0 (by simp)
  obtain ⟨a1, p1, u1, v1, s1⟩ := hR 1 (by simp)
  obtain ⟨a2, p2, u2, v2, s2⟩ := hR 2 (by simp)
  obtain ⟨a3, p3, u3, v3, s3⟩ := hR 3 (by simp)
  have x0 : w.cell? ⟨b, o, none⟩ = some (.string ⟨#[35]⟩) := u0
  have y0 : w.cell? ⟨b, o + 1, none⟩ = some (.slice a0 3 p0) := v0
  have t0 : Texts w a0 [p, q, s] := s0
  have x1 : w.cell? ⟨b, o + 2, none⟩ = some (.string r1.1) := u1
  have y1 : w.cell? ⟨b, o + 2 + 1, none⟩ = some (.slice a1 r1.2.length p1) := v1
  have t1 : Texts w a1 r1.2 := s1
  have x2 : w.cell? ⟨b, o + 4, none⟩ = some (.string r2.1) := u2
  have y2 : w.cell? ⟨b, o + 4 + 1, none⟩ = some (.slice a2 r2.2.length p2) := v2
  have t2 : Texts w a2 r2.2 := s2
  have x3 : w.cell? ⟨b, o + 6, none⟩ = some (.string r3.1) := u3
  have y3 : w.cell? ⟨b, o + 6 + 1, none⟩ = some (.slice a3 r3.2.length p3) := v3
  have t3 : Texts w a3 r3.2 := s3
  obtain ⟨b0, o0, rfl, j0⟩ := t0 0 (by simp)
  obtain ⟨b1, o1, e1, j1⟩ := t0 1 (by simp)
  cases e1
  obtain ⟨b2, o2, e2, j2⟩ := t0 2 (by simp)
  cases e2
  have k0 : w.cell? ⟨b0, o0, none⟩ = some (.string p) := j0
  have k1 : w.cell? ⟨b0, o0 + 1, none⟩ = some (.string q) := j1
  have k2 : w.cell? ⟨b0, o0 + 2, none⟩ = some (.string s) := j2
  clear u0 v0 s0 u1 v1 s1 u2 v2 s2 u3 v3 s3 j0 j1 j2 t0
  have z1 := hS r1 (by simp)
  have z2 := hS r2 (by simp)
  have z3 := hS r3 (by simp)
  have zp := hS (⟨#[35]⟩, [p, q, s]) (by simp) p (by simp)
  have zq := hS (⟨#[35]⟩, [p, q, s]) (by simp) q (by simp)
  have zs := hS (⟨#[35]⟩, [p, q, s]) (by simp) s (by simp)
  have C1 := fun W => refToNumber_any p W zp
  have C2 := fun W => refToNumber_any q W zq
  have C3 := fun W => refToNumber_any s W zs
  have HG := fun (ha hb hh : List UInt8) => loadC_go (p := p) (q := q) (s := s) (r1 := r1) (r2 := r2) (r3 := r3) (l := l) (ha := ha) (hb := hb) (hh := hh) hl
  have HH := fun (c : Ch) => loadC_hd (k0 := ⟨#[35]⟩) (p := p) (q := q) (s := s) (r1 := r1) (r2 := r2) (r3 := r3) (l := l) (c := c)
  generalize loadC ((⟨#[35]⟩, [p, q, s]) :: r1 :: r2 :: r3 :: l) = X at *
  generalize (toNum p.data.toList).1 = V1 at *
  generalize (toNum q.data.toList).1 = V2 at *
  generalize (toNum s.data.toList).1 = V3 at *
  generalize (toNum p.data.toList).2 = E1 at *
  generalize (toNum q.data.toList).2 = E2 at *
  generalize (toNum s.data.toList).2 = E3 at *
  obtain ⟨F1, hF1⟩ : ∃ F : Int, F = (E1 : Int) := ⟨_, rfl⟩
  obtain ⟨F2, hF2⟩ : ∃ F : Int, F = (E2 : Int) := ⟨_, rfl⟩
  obtain ⟨F3, hF3⟩ : ∃ F : Int, F = (E3 : Int) := ⟨_, rfl⟩
  rw [← hF1] at C1
  rw [← hF2] at C2
  rw [← hF3] at C3
  have HF1 := hid hF1
  have HF2 := hid hF2
  have HF3 := hid hF3
  have C1 := hid C1
  have C2 := hid C2
  have C3 := hid C3
  have D1 := rhash_any w ⟨#[97]⟩ r1 a1 p1 t1 z1
  have D2 := fun (W : World) (hb : Below w.heap.size w W) => rhash_any W ⟨#[98]⟩ r2 a2 p2 (t2.below hb) z2
  have D3 := fun (W : World) (hb : Below w.heap.size w W) => rhash_any W ⟨#[104]⟩ r3 a3 p3 (t3.below hb) z3
  have hq1 := hashIn_len ⟨#[97]⟩ r1
  have hq2 := hashIn_len ⟨#[98]⟩ r2
  have hq3 := hashIn_len ⟨#[104]⟩ r3
  have HI := hid (And.intro (@rfl _ (hashIn ⟨#[97]⟩ r1)) (And.intro (@rfl _ (hashIn ⟨#[98]⟩ r2)) (@rfl _ (hashIn ⟨#[104]⟩ r3))))
  obtain ⟨la, hla⟩ : ∃ la, la = (hashIn ⟨#[97]⟩ r1).getD zero32 := ⟨_, rfl⟩
  obtain ⟨lb, hlb⟩ : ∃ lb, lb = (hashIn ⟨#[98]⟩ r2).getD zero32 := ⟨_, rfl⟩
  obtain ⟨lh, hlh⟩ : ∃ lh, lh = (hashIn ⟨#[104]⟩ r3).getD zero32 := ⟨_, rfl⟩
  rw [← hla] at D1 hq1
  rw [← hlb] at D2 hq2
  rw [← hlh] at D3 hq3
  have HLa := hid hla
  have HLb := hid hlb
  have HLh := hid hlh
  have HG := hid HG
  obtain ⟨f1, hf1⟩ : ∃ f, f = (hashIn ⟨#[97]⟩ r1).isSome := ⟨_, rfl⟩
  obtain ⟨f2, hf2⟩ : ∃ f, f = (hashIn ⟨#[98]⟩ r2).isSome := ⟨_, rfl⟩
  obtain ⟨f3, hf3⟩ : ∃ f, f = (hashIn ⟨#[104]⟩ r3).isSome := ⟨_, rfl⟩
  rw [← hf1] at D1 HH
  rw [← hf2] at D2 HH
  rw [← hf3] at D3 HH
  have Hf1 := hid hf1
  have Hf2 := hid hf2
  have Hf3 := hid hf3
  obtain ⟨O1, hO1⟩ : ∃ O, O = bvs la := ⟨_, rfl⟩
  obtain ⟨O2, hO2⟩ : ∃ O, O = bvs lb := ⟨_, rfl⟩
  obtain ⟨O3, hO3⟩ : ∃ O, O = bvs lh := ⟨_, rfl⟩
  rw [← hO1] at D1
  rw [← hO2] at D2
  rw [← hO3] at D3
  have D1 := hid D1
  have D2 := hid D2
  have D3 := hid D3
  obtain ⟨Z, hZ⟩ : ∃ Z, Z = bvs zero32 := ⟨_, rfl⟩
  have zh := (zero_of_info zero_hash).1
  rw [show bvs (List.replicate 32 0) = Z from hZ.symm] at zh
  have hSt : ∀ (h : List UInt8), h.length = 32 → ∀ W : World, (storeH (.pointer (some ⟨W.heap.size, 0, none⟩)) (.agg (bvs h))).run Tryd.prog (W.alloc (.cells Z 69)) = .ok () (W.alloc (.cells (bvs h) 69)) := fun h hl W => by
    have := storeH_new W h zero32 hl (by decide)
    rw [show bvs zero32 = Z from hZ.symm] at this
    exact this
  have st1 := hSt la hq1
  have st2 := hSt lb hq2
  have st3 := hSt lh hq3
  rw [← hO1] at st1
  rw [← hO2] at st2
  rw [← hO3] at st3
  have HO1 := hid hO1
  have HO2 := hid hO2
  have HO3 := hid hO3
  have Hq := hid (And.intro hq1 (And.intro hq2 hq3))
  obtain ⟨L, hL⟩ : ∃ L, L = l.length := ⟨_, rfl⟩
  rw [← hL] at HH hcap hl ⊢
  have HH := hid HH
  have HLl := hid hL
  have HR := hid hR
  have HS := hid hS
  have Hl := hid hl
  obtain ⟨N, hN⟩ : ∃ N, N = 4 + L := ⟨_, rfl⟩
  rw [← hN] at hcap ⊢
  have HN := hid hN
  have g4 : ¬ (N : Int) < 4 := by omega
  have g68 : ¬ (68 : Int) < (N : Int) := by omega
  have hn0 : 0 < N := by omega
  have hn1 : 1 < N := by omega
  have hn2 : 2 < N := by omega
  have hn3 : 3 < N := by omega
  clear hN hL hl hZ hSt hO1 hO2 hO3 hR hS hF1 hF2 hF3 hf1 hf2 hf3 hla hlb hlh hq1 hq2 hq3 t1 t2 t3 z1 z2 z3 zp zq zs
  go_enter Tryd.func7, Tryd.ntmps7
  go_wp2_with (first
    | (go_at_call 34; refine (C1.out _).mono ?_; rintro _ w9 ⟨rfl, e9⟩; subst w9; clear C1)
    | (go_at_call 34; refine (C2.out _).mono ?_; rintro _ w9 ⟨rfl, e9⟩; subst w9; clear C2)
    | (go_at_call 34; refine (C3.out _).mono ?_; rintro _ w9 ⟨rfl, e9⟩; subst w9; clear C3)
    | (go_at_call 35; refine D1.out.mono ?_; rintro _ w1 ⟨rfl, hb1⟩; have ha1 := (Below.refl _ w1).alloc (Nat.le_refl _) (.cells O1 69); have B1 := hid (Below.on' hb1 ha1); have X1 := hid (heap_alloc_new w1 (.cells O1 69)); have x2 := (B1.out.cell (World.block_lt_of_cell? _ _ x2)).trans x2; have y2 := (B1.out.cell (World.block_lt_of_cell? _ _ y2)).trans y2; clear hb1 ha1 D1)
    | (go_at_call 35; refine (D2.out _ B1.out).mono ?_; rintro _ w2 ⟨rfl, hb2⟩; have ha2 := (Below.refl _ w2).alloc (Nat.le_refl _) (.cells O2 69); have B2 := hid (Below.on' B1.out (Below.on' hb2 ha2)); have X12 := hid (((Below.on' hb2 ha2).block _ (heap_lt X1.out)).trans X1.out); have X2 := hid (heap_alloc_new w2 (.cells O2 69)); have x3 := (B2.out.cell (World.block_lt_of_cell? _ _ x3)).trans x3; have y3 := (B2.out.cell (World.block_lt_of_cell? _ _ y3)).trans y3; clear hb2 ha2 D2))
  refine (D3.out _ B2.out).mono ?_
  rintro _ w3 ⟨rfl, hb3⟩
  have ha3 := (Below.refl _ w3).alloc (Nat.le_refl _) (.cells O3 69)
  have B3 := hid (Below.on' B2.out (Below.on' hb3 ha3))
  have X13 := hid (((Below.on' hb3 ha3).block _ (heap_lt X12.out)).trans X12.out)
  have X23 := hid (((Below.on' hb3 ha3).block _ (heap_lt X2.out)).trans X2.out)
  have X3 := hid (heap_alloc_new w3 (.cells O3 69))
  clear hb3 ha3 D3
  by_cases hz1 : F1 = 0
  · subst hz1
    by_cases hz2 : F2 = 0
    · subst hz2
      by_cases hz3 : F3 = 0
      · subst hz3
        cases hf1 : f1 with
        | false =>
          have hX0 : Hid (X = none) := by
            show X = none
            cases hc : X with
            | none => rfl
            | some c => exact False.elim (by have h9 := (HH.out c hc).2.2.2.1; rw [hf1] at h9; cases h9)
          go_wp2_with fail
          go_ret2
          exact RLoadAny.no hX0.out B3.out
        | true =>
          cases hf2 : f2 with
          | false =>
            have hX0 : Hid (X = none) := by
              show X = none
              cases hc : X with
              | none => rfl
              | some c => exact False.elim (by have h9 := (HH.out c hc).2.2.2.2.1; rw [hf2] at h9; cases h9)
            go_wp2_with fail
            go_ret2
            exact RLoadAny.no hX0.out B3.out
          | true =>
            cases hf3 : f3 with
            | false =>
              have hX0 : Hid (X = none) := by
                show X = none
                cases hc : X with
                | none => rfl
                | some c => exact False.elim (by have h9 := (HH.out c hc).2.2.2.2.2.1; rw [hf3] at h9; cases h9)
              go_wp2_with fail
              go_ret2
              exact RLoadAny.no hX0.out B3.out
            | true =>
              by_cases hv1 : V1 ≤ 1099511627776
              · have g7 : ¬ (1099511627776 : Int) < (V1 : Int) := by omega
                by_cases hv2 : V2 ≤ 1099511627776
                · have g8 : ¬ (1099511627776 : Int) < (V2 : Int) := by omega
                  by_cases hv3 : V2 ≤ V1 + L
                  · have g9 : ¬ (V1 : Int) + (N : Int) - 4 < (V2 : Int) := by have := HN.out; omega
                    by_cases hv4 : V3 ≤ 1099511627776
                    · have g10 : ¬ (1099511627776 : Int) < (V3 : Int) := by omega
                      have hc0 : ∃ c0 : Ch, c0 = ⟨V1, lb, V2, la, [], lh, V3⟩ := ⟨_, rfl⟩
                      obtain ⟨c0, hc0⟩ := hc0
                      have hq := Hq.out
                      have OK0 := hid (show Lens c0 by rw [hc0]; exact ⟨hq.2.1, hq.1, hq.2.2⟩)
                      have He0 := hid (show c0.ev = [] by rw [hc0])
                      have Hn0 := hid (show c0.bn = V1 ∧ c0.an = V2 ∧ c0.la = V3 by rw [hc0]; exact ⟨rfl, rfl, rfl⟩)
                      have hX2 : X = evsIn c0 l := by
                        obtain ⟨ha, e1⟩ := Option.isSome_iff_exists.1 (Hf1.out.symm.trans hf1)
                        obtain ⟨hb, e2⟩ := Option.isSome_iff_exists.1 (Hf2.out.symm.trans hf2)
                        obtain ⟨hh, e3⟩ := Option.isSome_iff_exists.1 (Hf3.out.symm.trans hf3)
                        have w1 : la = ha := by rw [HLa.out, e1]; rfl
                        have w2 : lb = hb := by rw [HLb.out, e2]; rfl
                        have w3 : lh = hh := by rw [HLh.out, e3]; rfl
                        rw [hc0, w1, w2, w3]
                        exact HG.out ha hb hh (by have := HF1.out; omega) (by have := HF2.out; omega) (by have := HF3.out; omega) e1 e2 e3 hv1 hv2 (by rw [← HLl.out]; exact hv3) hv4
                      have HX2 := hid hX2
                      have hbl : Hid (Tryd.prog.built 93 [(0, .int .i64 (V1 : Int)), (1, .int .i64 (V2 : Int)), (2, .int .i64 (V3 : Int)), (3, .agg (bvs lb)), (4, .agg (bvs la)), (5, .agg (bvs lh))] = some (rfcells c0 (.slice none 0 0)).toArray) := by
                        show _ = _
                        rw [hc0]
                        exact built_r6 (V1 : Int) (V2 : Int) (V3 : Int) lb la lh hq.2.1 hq.1 hq.2.2
                      rw [← HO1.out, ← HO2.out, ← HO3.out] at hbl
                      obtain ⟨RC, hRC⟩ : ∃ RC, RC = (rfcells c0 (.slice none 0 0)).toArray := ⟨_, rfl⟩
                      rw [← hRC] at hbl
                      have HRC := hid hRC
                      have hB6 : ∀ W : World, (buildR14 #[(0, .int .i64 (V1 : Int)), (1, .int .i64 (V2 : Int)), (2, .int .i64 (V3 : Int)), (3, .agg O2), (4, .agg O1), (5, .agg O3)]).run Tryd.prog W = .ok (.agg RC) W := fun W => run_build (P := Tryd.prog) W 93 #[(0, .int .i64 (V1 : Int)), (1, .int .i64 (V2 : Int)), (2, .int .i64 (V3 : Int)), (3, .agg O2), (4, .agg O1), (5, .agg O3)] _ hbl.out
                      have hL1 : (loadH (.pointer (some ⟨w1.heap.size, 0, none⟩))).run Tryd.prog (w3.alloc (.cells O3 69)) = .ok (.agg O1) (w3.alloc (.cells O3 69)) := loadH_run (l := la) ⟨HO1.out, hq.1⟩ X13.out
                      have hL2 : (loadH (.pointer (some ⟨w2.heap.size, 0, none⟩))).run Tryd.prog (w3.alloc (.cells O3 69)) = .ok (.agg O2) (w3.alloc (.cells O3 69)) := loadH_run (l := lb) ⟨HO2.out, hq.2.1⟩ X23.out
                      have hL3 : (loadH (.pointer (some ⟨w3.heap.size, 0, none⟩))).run Tryd.prog (w3.alloc (.cells O3 69)) = .ok (.agg O3) (w3.alloc (.cells O3 69)) := loadH_run (l := lh) ⟨HO3.out, hq.2.2⟩ X3.out
                      clear hRC hq hc0 hX2 hv1 hv2 hv3 hv4 hf1 hf2 hf3
                      go_wp2_with fail
                      obtain ⟨g, hg⟩ : ∃ g, g = w3.heap.size + 1 := ⟨_, rfl⟩
                      obtain ⟨W4, hW4⟩ : ∃ W4, W4 = (w3.alloc (.cells O3 69)).alloc (.cells RC 93) := ⟨_, rfl⟩
                      have hz3 : (w3.alloc (.cells O3 69)).heap.size = w3.heap.size + 1 := by simp
                      have b4 : Below w.heap.size w W4 := by rw [hW4]; exact Below.on' B3.out ((Below.refl _ _).alloc (Nat.le_refl _) _)
                      have o4 : W4.heap[g]? = some (.cells (rfcells c0 (.slice none 0 0)).toArray 93 (0, 0)) := by
                        rw [hW4, hg, ← hz3, ← HRC.out]
                        exact heap_alloc_new _ _
                      have hgw : w.heap.size ≤ g := by rw [hg, ← hz3]; exact B3.out.size
                      have h4 : RAt W4 w.heap.size g (.slice none 0 0) c0 := ⟨o4, by rw [He0.out]; exact World.ownsRow_nil _ _ _ _, hgw⟩
                      rw [← hg, ← hW4]
                      have H4 := hid h4
                      have B4 := hid b4
                      have hl0 : lastT c0 = 0 := by unfold lastT; rw [He0.out]; rfl
                      have Hl0 := hid hl0
                      clear h4 b4 o4 hW4 hz3 hL1 hL2 hL3 x0 x1 x2 x3 y0 y1 y2 y3 k0 k1 k2 hg hl0
                      go_loopw [17, 18] (fun bf i wr => ∃ m : Nat, 4 ≤ m ∧ m ≤ N ∧ i = .int .i64 (m : Int) ∧ ∃ ck v, bf = .int .i64 (lastT ck : Int) ∧ evsIn c0 (l.take (m - 4)) = some ck ∧ RAt wr w.heap.size g v ck ∧ Below w.heap.size w wr) (fun _ i _ => N - (intOf i).toNat)
                      case atStart => exact ⟨4, Nat.le_refl _, by have := HN.out; omega, rfl, c0, _, by rw [Hl0.out]; rfl, rfl, H4.out, B4.out⟩
                      case round =>
                        obtain ⟨m, hm4, hmN, rfl, ck, v, rfl, hev, hch, hbel⟩ := hrel
                        obtain ⟨av, cv, rfl⟩ := hch.val
                        have Hch := hid hch
                        have Hbel := hid hbel
                        clear hch hbel H4 B4
                        by_cases hlt : m < N
                        · have g1 : decide ((m : Int) < (N : Int)) = true := by simp; omega
                          obtain ⟨k, hk⟩ : ∃ k, k = m - 4 := ⟨_, rfl⟩
                          have hkl : k < l.length := by have := HN.out; have := HLl.out; omega
                          rw [← hk] at hev
                          have F := evsIn_facts hev He0.out OK0.out
                          have hlen : ck.ev.length = k := by rw [F.2.2.2.2, List.length_take]; omega
                          have hbn : ck.bn = V1 := F.2.1.trans Hn0.out.1
                          have hcla : ck.la = V3 := F.2.2.2.1.trans Hn0.out.2.2
                          obtain ⟨nn, hnn⟩ : ∃ nn, nn = ck.cnt + 1 := ⟨_, rfl⟩
                          have hcnt : nn + 3 = V1 + m := by rw [hnn]; unfold Ch.cnt; omega
                          obtain ⟨a, cp, u9, v9, t9⟩ := HR.out (4 + k) (by simp; omega)
                          have el : ((⟨#[35]⟩, [p, q, s]) :: r1 :: r2 :: r3 :: l)[4 + k]'(by simp; omega) = l[k] := by
                            have e1 : ((⟨#[35]⟩, [p, q, s]) :: r1 :: r2 :: r3 :: l)[4 + k]? = l[k]? := by rw [show 4 + k = k + 1 + 1 + 1 + 1 by omega]; simp
                            rw [List.getElem?_eq_getElem (by simp; omega), List.getElem?_eq_getElem hkl] at e1
                            exact Option.some.inj e1
                          rw [el] at u9 v9 t9
                          have hst := evsIn_step hkl hev
                          have zz := HS.out l[k] (by simp [List.getElem_mem hkl])
                          obtain ⟨rk, hrk⟩ : ∃ rk, rk = l[k] := ⟨_, rfl⟩
                          rw [← hrk] at u9 v9 t9 hst zz
                          clear el hrk
                          obtain ⟨key, cols⟩ := rk
                          obtain ⟨n, hn⟩ : ∃ n, n = cols.length := ⟨_, rfl⟩
                          rw [show 4 + k = m by omega] at u9 v9
                          have d0 : wr.cell? ⟨b, o + m * 2, none⟩ = some (.string key) := (Hbel.out.cell (World.block_lt_of_cell? _ _ u9)).trans u9
                          have d1 : wr.cell? ⟨b, o + m * 2 + 1, none⟩ = some (.slice a n cp) := by rw [hn]; exact (Hbel.out.cell (World.block_lt_of_cell? _ _ v9)).trans v9
                          have hst := hid hst
                          have zz := hid zz
                          have t9 := hid t9
                          have Hk := hid hk
                          have Hn := hid hn
                          have Hnn := hid hnn
                          have Hcnt := hid hcnt
                          have Hlen := hid hlen
                          have Hcla := hid hcla
                          have OKk := hid F.1
                          have Hkl := hid hkl
                          clear u9 v9 hk hn hnn hcnt hlen hbn hcla F hkl hev
                          go_wp2_with fail
                          obtain ⟨W5, hW5⟩ : ∃ W5, W5 = wr.alloc (.cells #[.string key, .slice a n cp] 75) := ⟨_, rfl⟩
                          have b5 : Below wr.heap.size wr W5 := by rw [hW5]; exact (Below.refl _ wr).alloc (Nat.le_refl _) _
                          have r5 : W5.heap[wr.heap.size]? = some (.cells #[.string key, .slice a n cp] 75 (0, 0)) := by rw [hW5]; exact heap_alloc_new wr _
                          rw [← hW5]
                          obtain ⟨V0, hV0⟩ : ∃ V0, V0 = W5.drew := ⟨_, rfl⟩
                          have b6 : Below wr.heap.size wr V0 := by rw [hV0]; exact b5.drew
                          have r6 : V0.heap[wr.heap.size]? = some (.cells #[.string key, .slice a n cp] 75 (0, 0)) := by rw [hV0]; exact r5
                          have bw6 : Below w.heap.size w V0 := Below.on' Hbel.out b6
                          have hsm : IntKind.i64.wrap ((V1 : Int) + (m : Int)) = ((V1 + m : Nat) : Int) := by rw [IntKind.wrap_i64]; have := HN.out; have := Hl.out; omega
                          have hmm : IntKind.i64.wrap (((V1 + m : Nat) : Int) - 3) = (nn : Int) := by have := Hcnt.out; have := HN.out; have := Hl.out; rw [IntKind.wrap_i64]; omega
                          have n4 : nn ≤ 4611686018427387904 := by have := Hcnt.out; have := HN.out; have := Hl.out; omega
                          refine wp_act _ fun A hA => ?_
                          have sz : A.tmps.size = 233 := by rw [hA]; rfl
                          have e4 : A.eval (.tmp 4) = .int .i64 (V1 : Int) := by rw [hA]; rfl
                          have e18 : A.eval (.tmp 18) = .int .i64 (m : Int) := by rw [hA]; rfl
                          have e19 : A.eval (.tmp 19) = .pointer (some ⟨wr.heap.size, 0, none⟩) := by rw [hA]; rfl
                          have ta0 : TA wr.heap.size a n cp key V0 := ⟨cell_of_row _ _ 0 _ _ _ r6, cell_of_row _ _ 1 _ _ _ r6⟩
                          clear d0 d1 g1
                          cases hev2 : evIn ck (key, cols) with
                          | none =>
                            have hX0 : Hid (X = none) := by
                              have h := hst.out
                              rw [hev2] at h
                              exact HX2.out.trans (evsIn_no h)
                            rcases evIn_none hev2 with h | ⟨rfl, h⟩ | ⟨t, c1, c2, rfl, rfl, h⟩
                            · refine wp_split _ (rld_keyNo sz e4 e18 e19 hsm hmm n4 (by rw [eqQ, Hnn.out]; exact decide_eq_false h) hV0 ta0) ?_
                              rintro _ U1 ⟨rfl, _, b7⟩
                              rw [hA]
                              simp only [Act.put, List.setIfInBounds_toArray, List.set_cons_succ, List.set_cons_zero]
                              have BwV := hid (Below.on' bw6 b7)
                              clear sz e4 e18 e19 hA A ta0 b5 b6 b7 bw6 r5 r6 hW5 hV0 h hev2
                              go_wp2_with fail
                              go_ret2
                              exact RLoadAny.no hX0.out BwV.out
                            · rw [← Hnn.out] at ta0
                              have h3 : ((n : Int) != 3) = true := by rw [bne, beq_eq_false_iff_ne.2 (by have := Hn.out; omega)]; rfl
                              refine wp_split _ (rld_colsNo sz e4 e18 e19 hsm hmm n4 h3 hV0 ta0) ?_
                              rintro _ U1 ⟨rfl, _, b7⟩
                              rw [hA]
                              simp only [Act.put, List.setIfInBounds_toArray, List.set_cons_succ, List.set_cons_zero]
                              have BwV := hid (Below.on' bw6 b7)
                              clear sz e4 e18 e19 hA A ta0 b5 b6 b7 bw6 r5 r6 hW5 hV0 h h3 hev2
                              go_wp2_with fail
                              go_ret2
                              exact RLoadAny.no hX0.out BwV.out
                            · obtain ⟨bb, oo, rfl, j0⟩ := t9.out 0 (by simp)
                              obtain ⟨bb1, oo1, e1, j1⟩ := t9.out 1 (by simp)
                              cases e1
                              obtain ⟨bb2, oo2, e2, j2⟩ := t9.out 2 (by simp)
                              cases e2
                              have f0 : w.cell? ⟨bb, oo, none⟩ = some (.string t) := j0
                              have f1 : w.cell? ⟨bb, oo + 1, none⟩ = some (.string c1) := j1
                              have f2 : w.cell? ⟨bb, oo + 2, none⟩ = some (.string c2) := j2
                              have hbb : bb < w.heap.size := World.block_lt_of_cell? _ _ f0
                              have hn3 : n = 3 := Hn.out
                              rw [hn3, ← Hnn.out] at r6
                              have te0 : TE wr.heap.size bb oo cp (evKey nn) t c1 c2 (fun _ => True) V0 := ⟨r6, ⟨(bw6.cell (p := ⟨bb, oo, none⟩) hbb).trans f0, (bw6.cell (p := ⟨bb, oo + 1, none⟩) hbb).trans f1, (bw6.cell (p := ⟨bb, oo + 2, none⟩) hbb).trans f2⟩, trivial⟩
                              rcases h with h | ⟨hs1, hs2, hnum⟩
                              · by_cases hs1 : c1.size ≤ 12
                                · have hs2 : (30 : Int) < (c2.size : Int) := by omega
                                  refine wp_split _ (rld_whoNo sz e4 e18 e19 hsm hmm n4 (by omega) hs2 hV0 te0) ?_
                                  rintro _ U1 ⟨rfl, _, b7⟩
                                  rw [hA]
                                  simp only [Act.put, List.setIfInBounds_toArray, List.set_cons_succ, List.set_cons_zero]
                                  have BwV := hid (Below.on' bw6 b7)
                                  clear sz e4 e18 e19 hA A ta0 b5 b6 b7 bw6 r5 r6 hW5 hV0 h hs1 hs2 te0 f0 f1 f2 j0 j1 j2 hev2
                                  go_wp2_with fail
                                  go_ret2
                                  exact RLoadAny.no hX0.out BwV.out
                                · have hs2 : (12 : Int) < (c1.size : Int) := by omega
                                  refine wp_split _ (rld_whatNo sz e4 e18 e19 hsm hmm n4 hs2 hV0 te0) ?_
                                  rintro _ U1 ⟨rfl, _, b7⟩
                                  rw [hA]
                                  simp only [Act.put, List.setIfInBounds_toArray, List.set_cons_succ, List.set_cons_zero]
                                  have BwV := hid (Below.on' bw6 b7)
                                  clear sz e4 e18 e19 hA A ta0 b5 b6 b7 bw6 r5 r6 hW5 hV0 h hs1 hs2 te0 f0 f1 f2 j0 j1 j2 hev2
                                  go_wp2_with fail
                                  go_ret2
                                  exact RLoadAny.no hX0.out BwV.out
                              · have CT := hid (fun W => refToNumber_any t W (zz.out t (by simp)))
                                obtain ⟨vt, hvt⟩ : ∃ v, v = (toNum t.data.toList).1 := ⟨_, rfl⟩
                                obtain ⟨et, het⟩ : ∃ v : Int, v = ((toNum t.data.toList).2 : Int) := ⟨_, rfl⟩
                                rw [← hvt, ← het] at CT
                                have hbad : et ≠ 0 ∨ (et = 0 ∧ vt < lastT ck) ∨ (et = 0 ∧ lastT ck ≤ vt ∧ V3 < vt) := by
                                  by_cases hz : et = 0
                                  · right
                                    by_cases h1 : vt < lastT ck
                                    · exact Or.inl ⟨hz, h1⟩
                                    · refine Or.inr ⟨hz, by omega, ?_⟩
                                      unfold numR at hnum
                                      split at hnum
                                      · cases hnum
                                      · rename_i h9
                                        rw [← hvt, Hcla.out] at h9
                                        rcases Nat.lt_or_ge V3 vt with h8 | h8
                                        · exact h8
                                        · exact absurd ⟨by omega, by omega, h8⟩ h9
                                  · exact Or.inl hz
                                have hbad := hid hbad
                                refine wp_split _ (rld_region17 (B := 0) (g := 0) (c := ck) sz e4 e18 e19 hsm hmm n4 (by omega) (by omega) (fun _ _ => trivial) hV0 te0) ?_
                                rintro _ U1 ⟨rfl, te1, b7⟩
                                rw [hA]
                                simp only [Act.put, List.setIfInBounds_toArray, List.set_cons_succ, List.set_cons_zero]
                                have BwV := hid (Below.on' bw6 b7)
                                have z1 := te1.k1
                                have z0 := te1.2.1.1
                                clear sz e4 e18 e19 hA A ta0 b5 b6 b7 bw6 r5 r6 hW5 hV0 hs1 hs2 hnum te0 te1 f0 f1 f2 j0 j1 j2 hev2 hvt het hbb hn3 zz t9
                                go_wp2_with fail
                                refine (CT.out _).mono ?_
                                rintro _ w9 ⟨rfl, e9⟩
                                subst w9
                                clear CT
                                rcases hbad.out with h | ⟨h0, h⟩ | ⟨h0, h, h1⟩
                                · have gE : (et != 0) = true := by rw [bne, beq_eq_false_iff_ne.2 h]; rfl
                                  clear hbad h
                                  go_wp2_with fail
                                  go_ret2
                                  exact RLoadAny.no hX0.out BwV.out
                                · subst h0
                                  have gA : (vt : Int) < (lastT ck : Int) := by omega
                                  clear hbad h
                                  go_wp2_with fail
                                  go_ret2
                                  exact RLoadAny.no hX0.out BwV.out
                                · subst h0
                                  have gA : ¬ (vt : Int) < (lastT ck : Int) := by omega
                                  have gB : (V3 : Int) < (vt : Int) := by omega
                                  clear hbad h h1
                                  go_wp2_with fail
                                  go_ret2
                                  exact RLoadAny.no hX0.out BwV.out
                          | some e =>
                            obtain ⟨hre, n9, s9, s8, l9, m9⟩ := evIn_some hev2
                            cases hre
                            have hne : nn = e.num := Hnn.out.trans n9.symm
                            subst hne
                            have hst' := hst.out
                            rw [hev2] at hst'
                            have Hst := hid hst'
                            have hn3 : n = 3 := Hn.out
                            subst hn3
                            obtain ⟨bb, oo, rfl, j0⟩ := t9.out 0 (by simp)
                            obtain ⟨bb1, oo1, e1, j1⟩ := t9.out 1 (by simp)
                            cases e1
                            obtain ⟨bb2, oo2, e2, j2⟩ := t9.out 2 (by simp)
                            cases e2
                            have f0 : w.cell? ⟨bb, oo, none⟩ = some (.string (txt e.tim)) := j0
                            have f1 : w.cell? ⟨bb, oo + 1, none⟩ = some (.string e.what) := j1
                            have f2 : w.cell? ⟨bb, oo + 2, none⟩ = some (.string e.who) := j2
                            have hbb : bb < w.heap.size := World.block_lt_of_cell? _ _ f0
                            have t4 : e.tim ≤ 4611686018427387904 := by have := Hcla.out; omega
                            have CT : Hid (∀ W : World, Calls Tryd.prog 34 #[.string (txt e.tim)] W fun x w' => x = .returned (.tuple #[.int .i64 (e.tim : Int), .int .i64 0]) ∧ w' = W) := fun W => by
                              have h := refToNumber_any (txt e.tim) W (txt_len e.tim t4)
                              have e1 : (txt e.tim).data.toList = numT e.tim := rfl
                              rw [e1, toNum_numT e.tim t4] at h
                              exact h
                            obtain ⟨tt, htt⟩ : ∃ t, t = txt e.tim := ⟨_, rfl⟩
                            rw [← htt] at f0 CT
                            have te0 : TE wr.heap.size bb oo cp (evKey e.num) tt e.what e.who (fun V => RAt V w.heap.size g (.slice av ck.ev.length cv) ck) V0 :=
                              ⟨r6, ⟨(bw6.cell (p := ⟨bb, oo, none⟩) hbb).trans f0, (bw6.cell (p := ⟨bb, oo + 1, none⟩) hbb).trans f1, (bw6.cell (p := ⟨bb, oo + 2, none⟩) hbb).trans f2⟩, Hch.out.below b6⟩
                            refine wp_split _ (rld_region17 (B := 0) (g := 0) (c := ck) sz e4 e18 e19 hsm hmm n4 (by omega) (by omega) (fun hb h => h.below hb) hV0 te0) ?_
                            rintro _ U1 ⟨rfl, te1, b7⟩
                            rw [hA]
                            simp only [Act.put, List.setIfInBounds_toArray, List.set_cons_succ, List.set_cons_zero]
                            have z1 := te1.k1
                            have z0 := te1.2.1.1
                            have gA : ¬ (e.tim : Int) < (lastT ck : Int) := by omega
                            have gB : ¬ (V3 : Int) < (e.tim : Int) := by have := Hcla.out; omega
                            have Hte := hid te1
                            have BwV := hid (Below.on' bw6 b7)
                            have Rlt := hid (heap_lt te1.1)
                            clear sz e4 e18 e19 hA A te0 te1 b5 b6 b7 bw6 r5 r6 hW5 hV0 ta0 f0 f1 f2 j0 j1 j2 htt hev2 n9 s9 s8 l9 m9 zz t9 hst hst' t4
                            go_wp2_with (go_at_call 34; refine (CT.out _).mono ?_; rintro _ w9 ⟨rfl, e9⟩; subst w9)
                            obtain ⟨U3, hU3⟩ : ∃ V3, V3 = U1.drew := ⟨_, rfl⟩
                            have b3 : Below U1.heap.size U1 U3 := by rw [hU3]; exact (Below.refl _ U1).drew
                            have te3 := Hte.out.keep b3 (Hte.out.2.2.below b3)
                            refine wp_act _ fun A hA => ?_
                            have sz : A.tmps.size = 233 := by rw [hA]; rfl
                            have e4 : A.eval (.tmp 4) = .int .i64 (V1 : Int) := by rw [hA]; rfl
                            have e18 : A.eval (.tmp 18) = .int .i64 (m : Int) := by rw [hA]; rfl
                            have e19 : A.eval (.tmp 19) = .pointer (some ⟨wr.heap.size, 0, none⟩) := by rw [hA]; rfl
                            have e16 : A.eval (.tmp 16) = .pointer (some ⟨g, 0, none⟩) := by rw [hA]; rfl
                            have e20 : A.eval (.tmp 20) = .int .i64 (e.tim : Int) := by rw [hA]; rfl
                            refine wp_split _ (rld_region23 (e := e) sz e4 e18 e19 hsm hmm e16 e20 OKk.out (by have := Hlen.out; have := HN.out; have := Hl.out; have := Hk.out; omega) te3.2.2 (Nat.le_trans BwV.out.size b3.size) (fun x => by have := (Hch.out.lts _ x).2; omega) (fun x => by have := (Hch.out.lts _ x).1; omega) hU3 ⟨te3.1, te3.2.1, te3.2.2.obj⟩) ?_
                            rintro _ V6 ⟨kk, cap6, rfl, h6, b6⟩
                            rw [hA]
                            simp only [Act.put, List.setIfInBounds_toArray, List.set_cons_succ, List.set_cons_zero]
                            have H6 := hid h6
                            have B6 := hid ((Below.on' BwV.out b3).trans b6)
                            clear sz e4 e18 e19 e16 e20 hA A te3 b3 b6 hU3 h6 z0 z1
                            go_wp2_with fail
                            go_roundw
                            case rel =>
                              have hk9 := Hk.out
                              refine ⟨m + 1, by omega, by omega, by go_num, { ck with ev := ck.ev ++ [e] }, .slice (some ⟨kk, 0, none⟩) (ck.ev ++ [e]).length cap6, ?_, ?_, H6.out, B6.out⟩
                              · unfold lastT; simp
                              · rw [show m + 1 - 4 = k + 1 by omega]
                                exact Hst.out
                            case measure => simp [intOf]; omega
                        · have g1 : decide ((m : Int) < (N : Int)) = false := by simp; omega
                          have hmm : m - 4 = l.length := by have := HN.out; have := HLl.out; omega
                          rw [hmm, List.take_length] at hev
                          have hXc : Hid (X = some ck) := HX2.out.trans hev
                          clear hmm hev
                          go_wp2_with fail
                          go_ret2
                          exact RLoadAny.yes hXc.out Hbel.out Hch.out
                    · have hX0 : Hid (X = none) := by
                        show X = none
                        cases hc : X with
                        | none => rfl
                        | some c => exact False.elim (hv4 (HH.out c hc).2.2.2.2.2.2.2.2.2)
                      have g10 : (1099511627776 : Int) < (V3 : Int) := by omega
                      go_wp2_with fail
                      go_ret2
                      exact RLoadAny.no hX0.out B3.out
                  · have hX0 : Hid (X = none) := by
                      show X = none
                      cases hc : X with
                      | none => rfl
                      | some c => exact False.elim (hv3 (HH.out c hc).2.2.2.2.2.2.2.2.1)
                    have g9 : (V1 : Int) + (N : Int) - 4 < (V2 : Int) := by have := HN.out; omega
                    go_wp2_with fail
                    go_ret2
                    exact RLoadAny.no hX0.out B3.out
                · have hX0 : Hid (X = none) := by
                    show X = none
                    cases hc : X with
                    | none => rfl
                    | some c => exact False.elim (hv2 (HH.out c hc).2.2.2.2.2.2.2.1)
                  have g8 : (1099511627776 : Int) < (V2 : Int) := by omega
                  go_wp2_with fail
                  go_ret2
                  exact RLoadAny.no hX0.out B3.out
              · have hX0 : Hid (X = none) := by
                  show X = none
                  cases hc : X with
                  | none => rfl
                  | some c => exact False.elim (hv1 (HH.out c hc).2.2.2.2.2.2.1)
                have g7 : (1099511627776 : Int) < (V1 : Int) := by omega
                go_wp2_with fail
                go_ret2
                exact RLoadAny.no hX0.out B3.out
      · have hX0 : Hid (X = none) := by
          show X = none
          cases hc : X with
          | none => rfl
          | some c => exact False.elim (hz3 (by have h8 := HF3.out; have h9 := (HH.out c hc).2.2.1; rw [h8, h9]; rfl))
        have g3 : (F3 != 0) = true := by rw [bne, beq_eq_false_iff_ne.2 hz3]; rfl
        go_wp2_with fail
        go_ret2
        exact RLoadAny.no hX0.out B3.out
    · have hX0 : Hid (X = none) := by
        show X = none
        cases hc : X with
        | none => rfl
        | some c => exact False.elim (hz2 (by have h8 := HF2.out; have h9 := (HH.out c hc).2.1; rw [h8, h9]; rfl))
      have g2 : (F2 != 0) = true := by rw [bne, beq_eq_false_iff_ne.2 hz2]; rfl
      go_wp2_with fail
      go_ret2
      exact RLoadAny.no hX0.out B3.out
  · have hX0 : Hid (X = none) := by
      show X = none
      cases hc : X with
      | none => rfl
      | some c => exact False.elim (hz1 (by have h8 := HF1.out; have h9 := (HH.out c hc).1; rw [h8, h9]; rfl))
    have g1 : (F1 != 0) = true := by rw [bne, beq_eq_false_iff_ne.2 hz1]; rfl
    go_wp2_with fail
    go_ret2
    exact RLoadAny.no hX0.out B3.out
end Go.Proofs.YthfmpebgmojcaaaDoor
