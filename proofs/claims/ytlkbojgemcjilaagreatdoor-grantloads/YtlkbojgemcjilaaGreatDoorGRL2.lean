/- Load of grants by the reference, walked. (Printed by gen/grl2.py.) -/
import Derived.Test.YtlkbojgemcjilaaGreatDoorGRL1
import Derived.BigQuiet
namespace Go.Proofs.YtlkbojgemcjilaaGreatDoor.Xr
open Go.RowKit Go.Maps
set_option linter.unusedVariables false
set_option maxRecDepth 20000
def TurnI (w wr : World) (g n : Nat) (m : List Rw) (j : Nat) (s : GS) : Prop := (j = 0 ∧ s = s0U ∧ RdI w wr g 0 s) ∨ (j = 1 ∧ foldO rT0 s0U m = some s ∧ RdI w wr g 0 s) ∨ (j = 2 ∧ loadR m = some s ∧ RdI w wr g n s)
set_option maxHeartbeats 32000000 in
theorem rloadG_any {w : World} {m : List Rw} (a : Option Addr) (n cap : Nat) (hn : n = m.length) (h : RIn w a m) (hs : SmallG m) :
    Calls Tryz.prog 17 #[.slice a n cap] w (RLPost w n (loadR m)) := by
  have H := hid h
  have Hn := hid hn
  have HSm := hid hs
  have hn9 : n ≤ 4000000 := by have := hs.1; omega
  have HR := hid (rNew13_any w)
  clear h hn hs
  go_enter Tryz.func17, Tryz.ntmps17
  go_wp2_with (go_at_call 7; refine HR.out.mono ?_; rintro _ w1 ⟨g, rfl, h1, b1⟩; have I0 := hid (show RdI w w1 g 0 s0U from ⟨h1, b1, empty_ok, few0, Nat.zero_le _⟩); clear h1 b1 HR)
  go_loopw [5] (fun i wr => ∃ k : Nat, k ≤ n ∧ i = .int .i64 (k : Int) ∧ riseB (m.take k) = true ∧ RdI w wr g 0 s0U) (fun i _ => n - (intOf i).toNat)
  case atStart => exact ⟨0, Nat.zero_le _, rfl, rfl, I0.out⟩
  case round =>
    obtain ⟨k, hk, rfl, hpre, hI⟩ := hrel
    have Hpre := hid hpre
    have HI := hid hI
    clear hpre hI
    by_cases hlt : k < n
    · have g1 : (k : Int) < (n : Int) := by omega
      have hkm : k < m.length := by have := Hn.out; omega
      by_cases hk0 : k = 0
      · subst hk0
        go_wp2
        go_quiet (fail)
        go_wp2
        go_roundw
        case rel => exact ⟨1, by omega, rfl, (by cases m with
          | nil => rfl
          | cons x m => rfl), HI.out.below (below_drewN _ _ _)⟩
        case measure => simp [intOf]; omega
      · obtain ⟨j, rfl⟩ : ∃ j, k = j + 1 := ⟨k - 1, by omega⟩
        obtain ⟨b, o, ad, cp, rfl, c1, _⟩ := H.out.below HI.out.be j (by omega)
        obtain ⟨b2, o2, ad2, cp2, e2, c2, _⟩ := H.out.below HI.out.be (j + 1) hkm
        injection e2 with e3
        injection e3 with e3 e4
        subst e3 e4
        have Hst := hid (riseB_take (k := j + 1) (by omega) hkm)
        simp only [Nat.add_sub_cancel] at Hst
        generalize m[j].key = x at *
        generalize m[j + 1].key = y at *
        have g2 : IntKind.i64.wrap ((j + 1 : Nat) - 1 : Int) = (j : Int) := by rw [IntKind.wrap_i64]; omega
        have g3 : (j : Int) < (n : Int) := by omega
        have g4 : (0 : Int) ≤ (j : Int) := by omega
        have g5 : (0 : Int) ≤ ((j + 1 : Nat) : Int) := by omega
        have g6 : decide (0 < ((j + 1 : Nat) : Int)) = true := by simp
        have g7 : (0 : Int) < ((j + 1 : Nat) : Int) := by omega
        by_cases hxy : x.toList < y.toList
        · have e5 : Go.Op.bytesLess x.toList y.toList = true := by rw [bytesLess_eq]; exact decide_eq_true hxy
          have Hlt := hid hxy
          clear hxy hk0
          go_wp2
          go_quiet (fail)
          go_wp2
          go_roundw
          case rel => exact ⟨j + 1 + 1, by omega, by go_num, by rw [Hst.out, Hpre.out, decide_eq_true Hlt.out]; rfl, HI.out.below (below_drewN _ _ _)⟩
          case measure => simp [intOf]; omega
        · have e5 : Go.Op.bytesLess x.toList y.toList = false := by rw [bytesLess_eq]; exact decide_eq_false hxy
          have Hlt := hid hxy
          clear hxy hk0
          go_wp2
          go_quiet (fail)
          go_wp2
          go_ret2
          have : riseB m = false := by
            cases hr : riseB m with
            | false => rfl
            | true =>
              have h9 := riseB_pre (j + 1 + 1) hr
              rw [Hst.out, Hpre.out, decide_eq_false Hlt.out] at h9
              cases h9
          rw [loadR_fail0 this]
          exact ⟨(HI.out.below (below_drewN _ _ _)).be, rfl⟩
    · have e : k = n := by omega
      subst e
      have g1 : ¬ (k : Int) < (k : Int) := by omega
      have Hri : Hid (riseB m = true) := by
        have h9 := Hpre.out
        rw [List.take_of_length_le (by have := Hn.out; omega)] at h9
        exact h9
      obtain ⟨VL, hVL⟩ : ∃ VL, VL = wr := ⟨_, rfl⟩
      subst hVL
      generalize hnk : k = n at *
      clear hnk Hpre I0
      go_wp2_with go_in
      clear g1
      go_loopw [6] (fun i wr => ∃ (j : Nat) (s : GS), j ≤ 2 ∧ i = .int .i64 (j : Int) ∧ TurnI w wr g n m j s) (fun i _ => 2 - (intOf i).toNat)
      case atStart => exact ⟨0, s0U, by omega, rfl, .inl ⟨rfl, rfl, HI.out⟩⟩
      case round =>
        obtain ⟨j, s1, hj, rfl, hTI⟩ := hrel
        clear HI
        rcases hTI with ⟨rfl, rfl, hI⟩ | ⟨rfl, hf1, hI⟩ | ⟨rfl, hl, hI⟩
        · have HI0 := hid hI
          clear hI
          obtain ⟨VM, hVM⟩ : ∃ VM, VM = wr := ⟨_, rfl⟩
          subst hVM
          go_wp2_with go_in
          go_loopw [7] (fun i wr => ∃ (k : Nat) (s : GS), k ≤ n ∧ i = .int .i64 (k : Int) ∧ foldO rT0 s0U (m.take k) = some s ∧ RdI w wr g 0 s) (fun i _ => n - (intOf i).toNat)
          case atStart => exact ⟨0, s0U, Nat.zero_le _, rfl, by rw [List.take_zero]; rfl, HI0.out⟩
          case round =>
            obtain ⟨k, s, hk, rfl, hf, hI⟩ := hrel
            have Hf := hid hf
            have HI := hid hI
            clear hf hI
            by_cases hlt : k < n
            · have g1 : (k : Int) < (n : Int) := by omega
              have g2 : decide ((k : Int) < (n : Int)) = true := by simpa using hlt
              have g0 : (0 : Int) ≤ (k : Int) := by omega
              have hkm : k < m.length := by have := Hn.out; omega
              obtain ⟨b, o, ad, cp, rfl, c1, c2, hT⟩ := H.out k hkm
              have c1' := cell_on HI.out.be c1
              have c2' := cell_on HI.out.be c2
              rw [← Nat.add_assoc] at c2'
              obtain ⟨hz1, hz2, hz3⟩ := HSm.out.2 m[k] (List.getElem_mem hkm)
              have hft := foldO_take hkm Hf.out
              clear c1 c2
              obtain ⟨x, hx⟩ : ∃ x, x = m[k] := ⟨_, rfl⟩
              rw [← hx] at c1' c2' hT hft hz1 hz2 hz3
              clear hx
              obtain ⟨key, cols⟩ := x
              dsimp only at c1' c2' hT hz1 hz2 hz3
              obtain ⟨W9, hW9⟩ : ∃ W9, W9 = wr.alloc (.cells #[.string key, .slice ad cols.length cp] 79) := ⟨_, rfl⟩
              have b9 : Below wr.heap.size wr W9 := by rw [hW9]; exact (Below.refl _ _).alloc (Nat.le_refl _) _
              have x9 : W9.heap[wr.heap.size]? = some (.cells #[.string key, .slice ad cols.length cp] 79 (0, 0)) := by rw [hW9]; exact heap_allocN wr _
              have y0 : W9.cell? ⟨wr.heap.size, 0, none⟩ = some (.string key) := (cell_of_row _ _ 0 _ _ _ x9).trans rfl
              have y1 : W9.cell? ⟨wr.heap.size, 1, none⟩ = some (.slice ad cols.length cp) := (cell_of_row _ _ 1 _ _ _ x9).trans rfl
              have HSp1 := hid (rsplit_any key (by omega) W9)
              have HW9 := hid hW9.symm
              have B9 := hid b9
              have HTx := hid (fun (V : World) (hV : Below W9.heap.size W9 V) => ((hT.below HI.out.be).below b9).below hV)
              obtain ⟨cl, hcl⟩ : ∃ cl, cl = cols.length := ⟨_, rfl⟩
              rw [← hcl] at y1 c2' hz2 HW9
              have HY := hid (fun (V : World) (hV : Below W9.heap.size W9 V) => And.intro (cell_on hV y0) (cell_on hV y1))
              cases hA : cutS key with
              | none =>
                have HSp2 := hid (fun (V : World) => rsplit_any (cutP key).2 (by have := (cutP_size key).2; omega) V)
                have HZ := hid (fun (V : World) (hV : Below W9.heap.size W9 V) => trivial)
                have HZ0 := HZ
                have e9 : rT0 s ⟨key, cols⟩ = none := by unfold rT0 chk; dsimp only; rw [hA]; rfl
                rw [e9] at hft
                have hq := hid hft
                rw [hA] at HSp1
                generalize (cutP key).1 = t at *
                generalize (cutP key).2 = rest at *
                generalize (cutP rest).1 = u at *
                generalize (cutP rest).2 = cn at *
                generalize (cutS rest).isSome = more at *
                clear hW9 b9 x9 hA e9 hft hcl hT hz3
                go_wp2_with (first
                  | (go_at_call 50; rw [HW9.out]; refine HSp1.out.mono ?_; rintro _ w5 ⟨rfl, b5⟩; have B5 := hid b5; clear y0 y1; obtain ⟨y0, y1⟩ := HY.out w5 b5; clear b5 HSp1)
                  | (go_at_call 50; refine (HSp2.out w5).mono ?_; rintro _ w6 ⟨rfl, b6⟩; have B6 := hid (Below.on' B5.out b6); clear y0 y1; obtain ⟨y0, y1⟩ := HY.out w6 (Below.on' B5.out b6); have cz := HZ.out w6 (Below.on' B5.out b6); have cz0 := HZ0.out w6 (Below.on' B5.out b6); clear b6 HSp2 B5)
                  | go_in)
                go_ret2
                rw [loadR_fail1 (hq.out)]
                exact ⟨(HI.out.below B9.out).be.trans (B6.out.mono (HI.out.below B9.out).be.size), rfl⟩
              | some p =>
                obtain ⟨t, rest⟩ := p
                have zs := cut_size hA
                dsimp only at zs
                have hP : cutP key = (t, rest) := by unfold cutP; rw [hA]; rfl
                rw [hA, hP] at HSp1
                have HSp2 := hid (fun (V : World) => rsplit_any rest (by omega) V)
                by_cases h0 : cl = 0
                · have HZ := hid (fun (V : World) (hV : Below W9.heap.size W9 V) => trivial)
                  have HZ0 := HZ
                  have e9 : rT0 s ⟨key, cols⟩ = none := by
                    unfold rT0 chk
                    dsimp only
                    rw [hA, Option.bind_some, if_neg (by rw [← hcl, h0]; simp)]
                    rfl
                  rw [e9] at hft
                  have hq := hid hft
                  subst h0
                  generalize (cutP rest).1 = u at *
                  generalize (cutP rest).2 = cn at *
                  generalize (cutS rest).isSome = more at *
                  clear hW9 b9 x9 hA e9 hft hcl hT hz3 hP zs
                  go_wp2_with (first
                    | (go_at_call 50; rw [HW9.out]; refine HSp1.out.mono ?_; rintro _ w5 ⟨rfl, b5⟩; have B5 := hid b5; clear y0 y1; obtain ⟨y0, y1⟩ := HY.out w5 b5; clear b5 HSp1)
                    | (go_at_call 50; refine (HSp2.out w5).mono ?_; rintro _ w6 ⟨rfl, b6⟩; have B6 := hid (Below.on' B5.out b6); clear y0 y1; obtain ⟨y0, y1⟩ := HY.out w6 (Below.on' B5.out b6); have cz := HZ.out w6 (Below.on' B5.out b6); have cz0 := HZ0.out w6 (Below.on' B5.out b6); clear b6 HSp2 B5)
                    | go_in)
                  go_ret2
                  rw [loadR_fail1 (hq.out)]
                  exact ⟨(HI.out.below B9.out).be.trans (B6.out.mono (HI.out.below B9.out).be.size), rfl⟩
                · obtain ⟨q, rfl⟩ : ∃ q, cl = q + 1 := ⟨cl - 1, by omega⟩
                  have hls := last_snoc hcl.symm
                  obtain ⟨lst, hlst⟩ : ∃ lst, lst = lastC cols := ⟨_, rfl⟩
                  rw [← hlst] at hls
                  have hz4 := hz3 lst (List.mem_of_getElem? hls)
                  have HNum := hid (fun (V : World) => refToNumber_any lst V (by unfold maxLen; omega))
                  obtain ⟨b2, o2, rfl, _⟩ := texts_one hT hls
                  have HZ := hid (fun (V : World) (hV : Below W9.heap.size W9 V) => (show V.cell? ⟨b2, o2 + q, none⟩ = some (.string lst) from by
                    obtain ⟨b3, o3, e3, hc3⟩ := texts_one (HTx.out V hV) hls
                    cases e3
                    exact hc3))
                  have g3 : IntKind.i64.wrap (((q + 1 : Nat) : Int) - 1) = (q : Int) := by rw [IntKind.wrap_i64]; omega
                  have g4 : (0 : Int) ≤ (q : Int) := by omega
                  have g5 : (q : Int) < ((q + 1 : Nat) : Int) := by omega
                  have g6 : (((q + 1 : Nat) : Int) == 0) = false := by rw [beq_eq_false_iff_ne]; omega
                  obtain ⟨N, E, hNE⟩ : ∃ N E, toNum lst.data.toList = (N, E) := ⟨_, _, rfl⟩
                  rw [hNE] at HNum
                  dsimp only at HNum
                  by_cases hE : E = 0 ∧ N ≤ 255
                  · obtain ⟨rfl, hN⟩ := hE
                    have hchk : chk ⟨key, cols⟩ = some (t, cutP rest, (cutS rest).isSome, N) := by
                      unfold chk
                      dsimp only
                      rw [hA, Option.bind_some, ← hlst, hNE, if_pos ⟨by omega, rfl, hN⟩]
                    have g7 : decide (255 < (N : Int)) = false := by simp; omega
                    have g8 : IntKind.u8.wrap (N : Int) = (N : Int) := by rw [IntKind.wrap_u8]; omega
                    have zs2 := cutP_size rest
                    cases hm2 : (cutS rest).isSome with
                    | true =>
                      rw [hm2] at hchk HSp2
                      have e9 : rT0 s ⟨key, cols⟩ = some s := by unfold rT0; rw [hchk]; rfl
                      rw [e9] at hft
                      have hq := hid hft
                      have HZ0 := hid (fun (V : World) (hV : Below W9.heap.size W9 V) => trivial)
                      generalize (cutP rest).1 = u at *
                      generalize (cutP rest).2 = cn at *
                      clear hm2 e9
                      clear hW9 b9 x9 hA hft hcl hT hz3 hP zs hls hlst hNE hchk zs2
                      go_wp2_with (first
                        | (go_at_call 50; rw [HW9.out]; refine HSp1.out.mono ?_; rintro _ w5 ⟨rfl, b5⟩; have B5 := hid b5; clear y0 y1; obtain ⟨y0, y1⟩ := HY.out w5 b5; clear b5 HSp1)
                        | (go_at_call 50; refine (HSp2.out w5).mono ?_; rintro _ w6 ⟨rfl, b6⟩; have B6 := hid (Below.on' B5.out b6); clear y0 y1; obtain ⟨y0, y1⟩ := HY.out w6 (Below.on' B5.out b6); have cz := HZ.out w6 (Below.on' B5.out b6); have cz0 := HZ0.out w6 (Below.on' B5.out b6); clear b6 HSp2 B5)
                        | (go_at_call 51; refine (HNum.out w6).mono ?_; rintro _ w7 ⟨rfl, e7⟩; subst w7)
                        | go_in)
                      go_roundw
                      case rel =>
                        refine ⟨_, _, _, _, _, _, _, _, _, _, _, _, _, _, _, _, _, _, _, _, _, _, _, _, _, _, _, _, _, _, _, _, _, _, _, _, _, _, _, _, _, _, _, _, _, _, _, _, _, _, _, _, _, _, _, _, _, _, _, _, _, _, _, _, _, _, _, _, _, _, _, _, _, _, _, _, _, _, _, _, _, _, _, _, _, _, _, _, _, _, _, _, _, _, _, _, _, _, _, _, _, _, _, _, _, _, ?_, rfl⟩
                        exact ⟨k + 1, s, by omega, by go_num, hq.out, ((HI.out.below B9.out).below B6.out)⟩
                      case measure => simp [intOf]; omega
                    | false =>
                      rw [hm2] at hchk HSp2
                      by_cases h2 : q = 1
                      · subst h2
                        obtain ⟨rd, hrd⟩ : ∃ rd, cols[0]? = some rd := ⟨_, List.getElem?_eq_getElem (by omega)⟩
                        have hz5 := hz3 rd (List.mem_of_getElem? hrd)
                        have hhd : cols.headD ⟨#[]⟩ = rd := by
                          cases cols with
                          | nil => simp at hrd
                          | cons a l => simpa using hrd
                        have HZ0 := hid (fun (V : World) (hV : Below W9.heap.size W9 V) => (show V.cell? ⟨b2, o2, none⟩ = some (.string rd) from by
                          obtain ⟨b3, o3, e3, hc3⟩ := texts_one (HTx.out V hV) hrd
                          cases e3
                          exact hc3))
                        have e9 : rT0 s ⟨key, cols⟩ = if regEs s ⟨t, (cutP rest).1, rd, N⟩ = 0 then some (s.reg ⟨t, (cutP rest).1, rd, N⟩) else none := by
                          unfold rT0
                          rw [hchk]
                          dsimp only [Option.bind_some]
                          rw [hhd]
                          by_cases hr : regEs s ⟨t, (cutP rest).1, rd, N⟩ = 0
                          · rw [if_neg (by decide), if_pos ⟨hcl.symm, hr⟩, if_pos hr]
                          · rw [if_neg (by decide), if_neg (fun h => hr h.2), if_neg hr]
                        have HReg := hid (fun (V : World) (hV : Below W9.heap.size W9 V) => (show Calls Tryz.prog 23 #[.pointer (some ⟨g, 0, none⟩), .agg #[.string t, .string (cutP rest).1, .string rd, .int .u8 (N : Int)]] V fun e w' => e = .returned (.int .i64 (regEs s ⟨t, (cutP rest).1, rd, N⟩ : Nat)) ∧ RdI w w' g 0 (s.reg ⟨t, (cutP rest).1, rd, N⟩) ∧ OutJ (fun k => k = g) V w' from
                          ((HI.out.below B9.out).below hV).register ⟨t, (cutP rest).1, rd, N⟩ ⟨by show t.size ≤ _; omega, by show (cutP rest).1.size ≤ _; omega, by show rd.size ≤ _; omega, hN⟩))
                        rw [e9] at hft
                        obtain ⟨Eg, hEg⟩ : ∃ Eg, Eg = regEs s ⟨t, (cutP rest).1, rd, N⟩ := ⟨_, rfl⟩
                        rw [← hEg] at hft HReg
                        generalize (cutP rest).1 = u at *
                        generalize (cutP rest).2 = cn at *
                        by_cases h3 : Eg = 0
                        · subst h3
                          rw [if_pos rfl] at hft
                          have hq := hid hft
                          clear hm2 e9 hrd hz5 hhd hEg
                          clear hW9 b9 x9 hA hft hcl hT hz3 hP zs hls hlst hNE hchk zs2
                          go_wp2_with (first
                            | (go_at_call 50; rw [HW9.out]; refine HSp1.out.mono ?_; rintro _ w5 ⟨rfl, b5⟩; have B5 := hid b5; clear y0 y1; obtain ⟨y0, y1⟩ := HY.out w5 b5; clear b5 HSp1)
                            | (go_at_call 50; refine (HSp2.out w5).mono ?_; rintro _ w6 ⟨rfl, b6⟩; have B6 := hid (Below.on' B5.out b6); clear y0 y1; obtain ⟨y0, y1⟩ := HY.out w6 (Below.on' B5.out b6); have cz := HZ.out w6 (Below.on' B5.out b6); have cz0 := HZ0.out w6 (Below.on' B5.out b6); clear b6 HSp2 B5)
                            | (go_at_call 51; refine (HNum.out w6).mono ?_; rintro _ w7 ⟨rfl, e7⟩; subst w7)
                            | (go_at_call 23; refine (HReg.out w6 B6.out).mono ?_; rintro _ w8 ⟨rfl, i8, _⟩; have I8 := hid i8; clear i8 HReg)
                            | go_in)
                          go_roundw
                          case rel =>
                            refine ⟨_, _, _, _, _, _, _, _, _, _, _, _, _, _, _, _, _, _, _, _, _, _, _, _, _, _, _, _, _, _, _, _, _, _, _, _, _, _, _, _, _, _, _, _, _, _, _, _, _, _, _, _, _, _, _, _, _, _, _, _, _, _, _, _, _, _, _, _, _, _, _, _, _, _, _, _, _, _, _, _, _, _, _, _, _, _, _, _, _, _, _, _, _, _, _, _, _, _, _, _, _, _, _, _, _, _, ?_, rfl⟩
                            exact ⟨k + 1, _, by omega, by go_num, hq.out, I8.out⟩
                          case measure => simp [intOf]; omega
                        · rw [if_neg h3] at hft
                          have hq := hid hft
                          have g9 : ((Eg : Int) == 0) = false := by rw [beq_eq_false_iff_ne]; omega
                          clear hm2 e9 hrd hz5 hhd hEg
                          clear hW9 b9 x9 hA hft hcl hT hz3 hP zs hls hlst hNE hchk zs2
                          go_wp2_with (first
                            | (go_at_call 50; rw [HW9.out]; refine HSp1.out.mono ?_; rintro _ w5 ⟨rfl, b5⟩; have B5 := hid b5; clear y0 y1; obtain ⟨y0, y1⟩ := HY.out w5 b5; clear b5 HSp1)
                            | (go_at_call 50; refine (HSp2.out w5).mono ?_; rintro _ w6 ⟨rfl, b6⟩; have B6 := hid (Below.on' B5.out b6); clear y0 y1; obtain ⟨y0, y1⟩ := HY.out w6 (Below.on' B5.out b6); have cz := HZ.out w6 (Below.on' B5.out b6); have cz0 := HZ0.out w6 (Below.on' B5.out b6); clear b6 HSp2 B5)
                            | (go_at_call 51; refine (HNum.out w6).mono ?_; rintro _ w7 ⟨rfl, e7⟩; subst w7)
                            | (go_at_call 23; refine (HReg.out w6 B6.out).mono ?_; rintro _ w8 ⟨rfl, i8, _⟩; have I8 := hid i8; clear i8 HReg)
                            | go_in)
                          go_ret2
                          rw [loadR_fail1 (hq.out)]
                          exact ⟨I8.out.be, rfl⟩
                      · have e9 : rT0 s ⟨key, cols⟩ = none := by
                          unfold rT0
                          rw [hchk]
                          dsimp only [Option.bind_some]
                          rw [if_neg (by decide), if_neg (fun h => h2 (by have := h.1; omega))]
                        rw [e9] at hft
                        have hq := hid hft
                        have HZ0 := hid (fun (V : World) (hV : Below W9.heap.size W9 V) => trivial)
                        have g9 : (((q + 1 : Nat) : Int) == 2) = false := by rw [beq_eq_false_iff_ne]; omega
                        have g10 : ((q : Int) + 1 == 2) = false := by rw [beq_eq_false_iff_ne]; omega
                        have g11 : ¬ ((q : Int) + 1 = 2) := by omega
                        generalize (cutP rest).1 = u at *
                        generalize (cutP rest).2 = cn at *
                        clear hm2 e9
                        clear hW9 b9 x9 hA hft hcl hT hz3 hP zs hls hlst hNE hchk zs2
                        go_wp2_with (first
                          | (go_at_call 50; rw [HW9.out]; refine HSp1.out.mono ?_; rintro _ w5 ⟨rfl, b5⟩; have B5 := hid b5; clear y0 y1; obtain ⟨y0, y1⟩ := HY.out w5 b5; clear b5 HSp1)
                          | (go_at_call 50; refine (HSp2.out w5).mono ?_; rintro _ w6 ⟨rfl, b6⟩; have B6 := hid (Below.on' B5.out b6); clear y0 y1; obtain ⟨y0, y1⟩ := HY.out w6 (Below.on' B5.out b6); have cz := HZ.out w6 (Below.on' B5.out b6); have cz0 := HZ0.out w6 (Below.on' B5.out b6); clear b6 HSp2 B5)
                          | (go_at_call 51; refine (HNum.out w6).mono ?_; rintro _ w7 ⟨rfl, e7⟩; subst w7)
                          | go_in)
                        go_ret2
                        rw [loadR_fail1 (hq.out)]
                        exact ⟨(HI.out.below B9.out).be.trans (B6.out.mono (HI.out.below B9.out).be.size), rfl⟩
                  · have e9 : rT0 s ⟨key, cols⟩ = none := by
                      unfold rT0 chk
                      dsimp only
                      rw [hA, Option.bind_some, ← hlst, hNE, if_neg (fun h => hE h.2)]
                      rfl
                    rw [e9] at hft
                    have hq := hid hft
                    have HZ0 := hid (fun (V : World) (hV : Below W9.heap.size W9 V) => trivial)
                    generalize (cutP rest).1 = u at *
                    generalize (cutP rest).2 = cn at *
                    generalize (cutS rest).isSome = more at *
                    by_cases hE0 : E = 0
                    · subst hE0
                      have g7 : decide (255 < (N : Int)) = true := by simp; omega
                      clear hW9 b9 x9 hA e9 hft hcl hT hz3 hP zs hls hlst hNE hE
                      go_wp2_with (first
                        | (go_at_call 50; rw [HW9.out]; refine HSp1.out.mono ?_; rintro _ w5 ⟨rfl, b5⟩; have B5 := hid b5; clear y0 y1; obtain ⟨y0, y1⟩ := HY.out w5 b5; clear b5 HSp1)
                        | (go_at_call 50; refine (HSp2.out w5).mono ?_; rintro _ w6 ⟨rfl, b6⟩; have B6 := hid (Below.on' B5.out b6); clear y0 y1; obtain ⟨y0, y1⟩ := HY.out w6 (Below.on' B5.out b6); have cz := HZ.out w6 (Below.on' B5.out b6); have cz0 := HZ0.out w6 (Below.on' B5.out b6); clear b6 HSp2 B5)
                        | (go_at_call 51; refine (HNum.out w6).mono ?_; rintro _ w7 ⟨rfl, e7⟩; subst w7)
                        | go_in)
                      go_ret2
                      rw [loadR_fail1 (hq.out)]
                      exact ⟨(HI.out.below B9.out).be.trans (B6.out.mono (HI.out.below B9.out).be.size), rfl⟩
                    · have g7 : ((E : Int) == 0) = false := by rw [beq_eq_false_iff_ne]; omega
                      clear hW9 b9 x9 hA e9 hft hcl hT hz3 hP zs hls hlst hNE hE
                      go_wp2_with (first
                        | (go_at_call 50; rw [HW9.out]; refine HSp1.out.mono ?_; rintro _ w5 ⟨rfl, b5⟩; have B5 := hid b5; clear y0 y1; obtain ⟨y0, y1⟩ := HY.out w5 b5; clear b5 HSp1)
                        | (go_at_call 50; refine (HSp2.out w5).mono ?_; rintro _ w6 ⟨rfl, b6⟩; have B6 := hid (Below.on' B5.out b6); clear y0 y1; obtain ⟨y0, y1⟩ := HY.out w6 (Below.on' B5.out b6); have cz := HZ.out w6 (Below.on' B5.out b6); have cz0 := HZ0.out w6 (Below.on' B5.out b6); clear b6 HSp2 B5)
                        | (go_at_call 51; refine (HNum.out w6).mono ?_; rintro _ w7 ⟨rfl, e7⟩; subst w7)
                        | go_in)
                      go_ret2
                      rw [loadR_fail1 (hq.out)]
                      exact ⟨(HI.out.below B9.out).be.trans (B6.out.mono (HI.out.below B9.out).be.size), rfl⟩
            · have e : k = n := by omega
              have g1 : ¬ (k : Int) < (n : Int) := by omega
              have hf1 : Hid (foldO rT0 s0U m = some s) := by
                have h9 := Hf.out
                rw [List.take_of_length_le (by have := Hn.out; omega)] at h9
                exact h9
              clear Hf e
              go_wp2_with go_in
              go_roundw
              case rel => exact ⟨1, s, by omega, by go_num, .inr (.inl ⟨rfl, hf1.out, HI.out⟩)⟩
              case measure => simp [intOf]
        · have HI0 := hid hI
          have hf1 := hid hf1
          clear hI
          obtain ⟨VM, hVM⟩ : ∃ VM, VM = wr := ⟨_, rfl⟩
          subst hVM
          go_wp2_with go_in
          go_loopw [7] (fun i wr => ∃ (j2 : Nat) (s2 : GS), j2 ≤ n ∧ i = .int .i64 (j2 : Int) ∧ foldO rT1 s1 (m.take j2) = some s2 ∧ RdI w wr g j2 s2) (fun i _ => n - (intOf i).toNat)
          case atStart => exact ⟨0, s1, Nat.zero_le _, rfl, by rw [List.take_zero]; rfl, HI0.out⟩
          case round =>
            obtain ⟨j2, s2, hk, rfl, hf, hI⟩ := hrel
            have Hf := hid hf
            have HI := hid hI
            clear hf hI
            by_cases hlt : j2 < n
            · have g1 : (j2 : Int) < (n : Int) := by omega
              have g2 : decide ((j2 : Int) < (n : Int)) = true := by simpa using hlt
              have g0 : (0 : Int) ≤ (j2 : Int) := by omega
              have hkm : j2 < m.length := by have := Hn.out; omega
              obtain ⟨b, o, ad, cp, rfl, c1, c2, hT⟩ := H.out j2 hkm
              have c1' := cell_on HI.out.be c1
              have c2' := cell_on HI.out.be c2
              rw [← Nat.add_assoc] at c2'
              obtain ⟨hz1, hz2, hz3⟩ := HSm.out.2 m[j2] (List.getElem_mem hkm)
              have hft := foldO_take hkm Hf.out
              clear c1 c2
              obtain ⟨x, hx⟩ : ∃ x, x = m[j2] := ⟨_, rfl⟩
              rw [← hx] at c1' c2' hT hft hz1 hz2 hz3
              clear hx
              obtain ⟨key, cols⟩ := x
              dsimp only at c1' c2' hT hz1 hz2 hz3
              obtain ⟨W9, hW9⟩ : ∃ W9, W9 = wr.alloc (.cells #[.string key, .slice ad cols.length cp] 79) := ⟨_, rfl⟩
              have b9 : Below wr.heap.size wr W9 := by rw [hW9]; exact (Below.refl _ _).alloc (Nat.le_refl _) _
              have x9 : W9.heap[wr.heap.size]? = some (.cells #[.string key, .slice ad cols.length cp] 79 (0, 0)) := by rw [hW9]; exact heap_allocN wr _
              have y0 : W9.cell? ⟨wr.heap.size, 0, none⟩ = some (.string key) := (cell_of_row _ _ 0 _ _ _ x9).trans rfl
              have y1 : W9.cell? ⟨wr.heap.size, 1, none⟩ = some (.slice ad cols.length cp) := (cell_of_row _ _ 1 _ _ _ x9).trans rfl
              have HSp1 := hid (rsplit_any key (by omega) W9)
              have HW9 := hid hW9.symm
              have B9 := hid b9
              have HTx := hid (fun (V : World) (hV : Below W9.heap.size W9 V) => ((hT.below HI.out.be).below b9).below hV)
              obtain ⟨cl, hcl⟩ : ∃ cl, cl = cols.length := ⟨_, rfl⟩
              rw [← hcl] at y1 c2' hz2 HW9
              have HY := hid (fun (V : World) (hV : Below W9.heap.size W9 V) => And.intro (cell_on hV y0) (cell_on hV y1))
              cases hA : cutS key with
              | none =>
                have HSp2 := hid (fun (V : World) => rsplit_any (cutP key).2 (by have := (cutP_size key).2; omega) V)
                have HZ := hid (fun (V : World) (hV : Below W9.heap.size W9 V) => trivial)
                have HZ0 := HZ
                have e9 : rT1 s2 ⟨key, cols⟩ = none := by unfold rT1 chk; dsimp only; rw [hA]; rfl
                rw [e9] at hft
                have hq := hid hft
                rw [hA] at HSp1
                generalize (cutP key).1 = t at *
                generalize (cutP key).2 = rest at *
                generalize (cutP rest).1 = u at *
                generalize (cutP rest).2 = cn at *
                generalize (cutS rest).isSome = more at *
                clear hW9 b9 x9 hA e9 hft hcl hT hz3
                go_wp2_with (first
                  | (go_at_call 50; rw [HW9.out]; refine HSp1.out.mono ?_; rintro _ w5 ⟨rfl, b5⟩; have B5 := hid b5; clear y0 y1; obtain ⟨y0, y1⟩ := HY.out w5 b5; clear b5 HSp1)
                  | (go_at_call 50; refine (HSp2.out w5).mono ?_; rintro _ w6 ⟨rfl, b6⟩; have B6 := hid (Below.on' B5.out b6); clear y0 y1; obtain ⟨y0, y1⟩ := HY.out w6 (Below.on' B5.out b6); have cz := HZ.out w6 (Below.on' B5.out b6); have cz0 := HZ0.out w6 (Below.on' B5.out b6); clear b6 HSp2 B5)
                  | go_in)
                go_ret2
                rw [loadR_fail2 hf1.out (hq.out)]
                exact ⟨(HI.out.below B9.out).be.trans (B6.out.mono (HI.out.below B9.out).be.size), rfl⟩
              | some p =>
                obtain ⟨t, rest⟩ := p
                have zs := cut_size hA
                dsimp only at zs
                have hP : cutP key = (t, rest) := by unfold cutP; rw [hA]; rfl
                rw [hA, hP] at HSp1
                have HSp2 := hid (fun (V : World) => rsplit_any rest (by omega) V)
                by_cases h0 : cl = 0
                · have HZ := hid (fun (V : World) (hV : Below W9.heap.size W9 V) => trivial)
                  have HZ0 := HZ
                  have e9 : rT1 s2 ⟨key, cols⟩ = none := by
                    unfold rT1 chk
                    dsimp only
                    rw [hA, Option.bind_some, if_neg (by rw [← hcl, h0]; simp)]
                    rfl
                  rw [e9] at hft
                  have hq := hid hft
                  subst h0
                  generalize (cutP rest).1 = u at *
                  generalize (cutP rest).2 = cn at *
                  generalize (cutS rest).isSome = more at *
                  clear hW9 b9 x9 hA e9 hft hcl hT hz3 hP zs
                  go_wp2_with (first
                    | (go_at_call 50; rw [HW9.out]; refine HSp1.out.mono ?_; rintro _ w5 ⟨rfl, b5⟩; have B5 := hid b5; clear y0 y1; obtain ⟨y0, y1⟩ := HY.out w5 b5; clear b5 HSp1)
                    | (go_at_call 50; refine (HSp2.out w5).mono ?_; rintro _ w6 ⟨rfl, b6⟩; have B6 := hid (Below.on' B5.out b6); clear y0 y1; obtain ⟨y0, y1⟩ := HY.out w6 (Below.on' B5.out b6); have cz := HZ.out w6 (Below.on' B5.out b6); have cz0 := HZ0.out w6 (Below.on' B5.out b6); clear b6 HSp2 B5)
                    | go_in)
                  go_ret2
                  rw [loadR_fail2 hf1.out (hq.out)]
                  exact ⟨(HI.out.below B9.out).be.trans (B6.out.mono (HI.out.below B9.out).be.size), rfl⟩
                · obtain ⟨q, rfl⟩ : ∃ q, cl = q + 1 := ⟨cl - 1, by omega⟩
                  have hls := last_snoc hcl.symm
                  obtain ⟨lst, hlst⟩ : ∃ lst, lst = lastC cols := ⟨_, rfl⟩
                  rw [← hlst] at hls
                  have hz4 := hz3 lst (List.mem_of_getElem? hls)
                  have HNum := hid (fun (V : World) => refToNumber_any lst V (by unfold maxLen; omega))
                  obtain ⟨b2, o2, rfl, _⟩ := texts_one hT hls
                  have HZ := hid (fun (V : World) (hV : Below W9.heap.size W9 V) => (show V.cell? ⟨b2, o2 + q, none⟩ = some (.string lst) from by
                    obtain ⟨b3, o3, e3, hc3⟩ := texts_one (HTx.out V hV) hls
                    cases e3
                    exact hc3))
                  have g3 : IntKind.i64.wrap (((q + 1 : Nat) : Int) - 1) = (q : Int) := by rw [IntKind.wrap_i64]; omega
                  have g4 : (0 : Int) ≤ (q : Int) := by omega
                  have g5 : (q : Int) < ((q + 1 : Nat) : Int) := by omega
                  have g6 : (((q + 1 : Nat) : Int) == 0) = false := by rw [beq_eq_false_iff_ne]; omega
                  obtain ⟨N, E, hNE⟩ : ∃ N E, toNum lst.data.toList = (N, E) := ⟨_, _, rfl⟩
                  rw [hNE] at HNum
                  dsimp only at HNum
                  by_cases hE : E = 0 ∧ N ≤ 255
                  · obtain ⟨rfl, hN⟩ := hE
                    have hchk : chk ⟨key, cols⟩ = some (t, cutP rest, (cutS rest).isSome, N) := by
                      unfold chk
                      dsimp only
                      rw [hA, Option.bind_some, ← hlst, hNE, if_pos ⟨by omega, rfl, hN⟩]
                    have g7 : decide (255 < (N : Int)) = false := by simp; omega
                    have g8 : IntKind.u8.wrap (N : Int) = (N : Int) := by rw [IntKind.wrap_u8]; omega
                    have zs2 := cutP_size rest
                    cases hm2 : (cutS rest).isSome with
                    | false =>
                      rw [hm2] at hchk HSp2
                      have e9 : rT1 s2 ⟨key, cols⟩ = some s2 := by unfold rT1; rw [hchk]; rfl
                      rw [e9] at hft
                      have hq := hid hft
                      have HZ0 := hid (fun (V : World) (hV : Below W9.heap.size W9 V) => trivial)
                      generalize (cutP rest).1 = u at *
                      generalize (cutP rest).2 = cn at *
                      clear hm2 e9
                      clear hW9 b9 x9 hA hft hcl hT hz3 hP zs hls hlst hNE hchk zs2
                      go_wp2_with (first
                        | (go_at_call 50; rw [HW9.out]; refine HSp1.out.mono ?_; rintro _ w5 ⟨rfl, b5⟩; have B5 := hid b5; clear y0 y1; obtain ⟨y0, y1⟩ := HY.out w5 b5; clear b5 HSp1)
                        | (go_at_call 50; refine (HSp2.out w5).mono ?_; rintro _ w6 ⟨rfl, b6⟩; have B6 := hid (Below.on' B5.out b6); clear y0 y1; obtain ⟨y0, y1⟩ := HY.out w6 (Below.on' B5.out b6); have cz := HZ.out w6 (Below.on' B5.out b6); have cz0 := HZ0.out w6 (Below.on' B5.out b6); clear b6 HSp2 B5)
                        | (go_at_call 51; refine (HNum.out w6).mono ?_; rintro _ w7 ⟨rfl, e7⟩; subst w7)
                        | go_in)
                      go_roundw
                      case rel =>
                        refine ⟨_, _, _, _, _, _, _, _, _, _, _, _, _, _, _, _, _, _, _, _, _, _, _, _, _, _, _, _, _, _, _, _, _, _, _, _, _, _, _, _, _, _, _, _, _, _, _, _, _, _, _, _, _, _, _, _, _, _, _, _, _, _, _, _, _, _, _, _, _, _, _, _, _, _, _, _, _, _, _, _, _, _, _, _, _, _, _, _, _, _, _, _, _, _, _, _, _, _, _, _, _, _, _, _, _, _, ?_, rfl⟩
                        exact ⟨j2 + 1, s2, by omega, by go_num, hq.out, ((HI.out.below B9.out).below B6.out).mono (Nat.le_succ _)⟩
                      case measure => simp [intOf]; omega
                    | true =>
                      rw [hm2] at hchk HSp2
                      by_cases h2 : q = 0
                      · subst h2
                        have HZ0 := hid (fun (V : World) (hV : Below W9.heap.size W9 V) => (show V.cell? ⟨b2, o2, none⟩ = some (.string lst) from by
                          have h9 := HZ.out V hV
                          rw [Nat.add_zero] at h9
                          exact h9))
                        have e9 : rT1 s2 ⟨key, cols⟩ = if allEs s2 ⟨t, (cutP rest).1, (cutP rest).2, N⟩ = 0 then some (s2.alw ⟨t, (cutP rest).1, (cutP rest).2, N⟩) else none := by
                          unfold rT1
                          rw [hchk]
                          dsimp only [Option.bind_some]
                          by_cases hr : allEs s2 ⟨t, (cutP rest).1, (cutP rest).2, N⟩ = 0
                          · rw [if_pos rfl, if_pos ⟨hcl.symm, hr⟩, if_pos hr]
                          · rw [if_pos rfl, if_neg (fun h => hr h.2), if_neg hr]
                        have HReg := hid (fun (V : World) (hV : Below W9.heap.size W9 V) => (show Calls Tryz.prog 27 #[.pointer (some ⟨g, 0, none⟩), .agg #[.string t, .string (cutP rest).1, .string (cutP rest).2, .int .u8 (N : Int)]] V fun e w' => e = .returned (.int .i64 (allEs s2 ⟨t, (cutP rest).1, (cutP rest).2, N⟩ : Nat)) ∧ RdI w w' g (j2 + 1) (s2.alw ⟨t, (cutP rest).1, (cutP rest).2, N⟩) ∧ OutJ (fun k => k = g) V w' from
                          ((HI.out.below B9.out).below hV).allow (by omega) ⟨t, (cutP rest).1, (cutP rest).2, N⟩ (by show t.size ≤ _; omega) (by show (cutP rest).1.size ≤ _; omega) hN))
                        rw [e9] at hft
                        obtain ⟨Eg, hEg⟩ : ∃ Eg, Eg = allEs s2 ⟨t, (cutP rest).1, (cutP rest).2, N⟩ := ⟨_, rfl⟩
                        rw [← hEg] at hft HReg
                        generalize (cutP rest).1 = u at *
                        generalize (cutP rest).2 = cn at *
                        by_cases h3 : Eg = 0
                        · subst h3
                          rw [if_pos rfl] at hft
                          have hq := hid hft
                          clear hm2 e9 hEg
                          clear hW9 b9 x9 hA hft hcl hT hz3 hP zs hls hlst hNE hchk zs2
                          go_wp2_with (first
                            | (go_at_call 50; rw [HW9.out]; refine HSp1.out.mono ?_; rintro _ w5 ⟨rfl, b5⟩; have B5 := hid b5; clear y0 y1; obtain ⟨y0, y1⟩ := HY.out w5 b5; clear b5 HSp1)
                            | (go_at_call 50; refine (HSp2.out w5).mono ?_; rintro _ w6 ⟨rfl, b6⟩; have B6 := hid (Below.on' B5.out b6); clear y0 y1; obtain ⟨y0, y1⟩ := HY.out w6 (Below.on' B5.out b6); have cz := HZ.out w6 (Below.on' B5.out b6); have cz0 := HZ0.out w6 (Below.on' B5.out b6); clear b6 HSp2 B5)
                            | (go_at_call 51; refine (HNum.out w6).mono ?_; rintro _ w7 ⟨rfl, e7⟩; subst w7)
                            | (go_at_call 27; refine (HReg.out w6 B6.out).mono ?_; rintro _ w8 ⟨rfl, i8, _⟩; have I8 := hid i8; clear i8 HReg)
                            | go_in)
                          go_roundw
                          case rel =>
                            refine ⟨_, _, _, _, _, _, _, _, _, _, _, _, _, _, _, _, _, _, _, _, _, _, _, _, _, _, _, _, _, _, _, _, _, _, _, _, _, _, _, _, _, _, _, _, _, _, _, _, _, _, _, _, _, _, _, _, _, _, _, _, _, _, _, _, _, _, _, _, _, _, _, _, _, _, _, _, _, _, _, _, _, _, _, _, _, _, _, _, _, _, _, _, _, _, _, _, _, _, _, _, _, _, _, _, _, _, ?_, rfl⟩
                            exact ⟨j2 + 1, _, by omega, by go_num, hq.out, I8.out⟩
                          case measure => simp [intOf]; omega
                        · rw [if_neg h3] at hft
                          have hq := hid hft
                          have g9 : ((Eg : Int) == 0) = false := by rw [beq_eq_false_iff_ne]; omega
                          clear hm2 e9 hEg
                          clear hW9 b9 x9 hA hft hcl hT hz3 hP zs hls hlst hNE hchk zs2
                          go_wp2_with (first
                            | (go_at_call 50; rw [HW9.out]; refine HSp1.out.mono ?_; rintro _ w5 ⟨rfl, b5⟩; have B5 := hid b5; clear y0 y1; obtain ⟨y0, y1⟩ := HY.out w5 b5; clear b5 HSp1)
                            | (go_at_call 50; refine (HSp2.out w5).mono ?_; rintro _ w6 ⟨rfl, b6⟩; have B6 := hid (Below.on' B5.out b6); clear y0 y1; obtain ⟨y0, y1⟩ := HY.out w6 (Below.on' B5.out b6); have cz := HZ.out w6 (Below.on' B5.out b6); have cz0 := HZ0.out w6 (Below.on' B5.out b6); clear b6 HSp2 B5)
                            | (go_at_call 51; refine (HNum.out w6).mono ?_; rintro _ w7 ⟨rfl, e7⟩; subst w7)
                            | (go_at_call 27; refine (HReg.out w6 B6.out).mono ?_; rintro _ w8 ⟨rfl, i8, _⟩; have I8 := hid i8; clear i8 HReg)
                            | go_in)
                          go_ret2
                          rw [loadR_fail2 hf1.out (hq.out)]
                          exact ⟨I8.out.be, rfl⟩
                      · have e9 : rT1 s2 ⟨key, cols⟩ = none := by
                          unfold rT1
                          rw [hchk]
                          dsimp only [Option.bind_some]
                          rw [if_pos rfl, if_neg (fun h => h2 (by have := h.1; omega))]
                        rw [e9] at hft
                        have hq := hid hft
                        have HZ0 := hid (fun (V : World) (hV : Below W9.heap.size W9 V) => trivial)
                        have g9 : (((q + 1 : Nat) : Int) == 1) = false := by rw [beq_eq_false_iff_ne]; omega
                        have g10 : ((q : Int) + 1 == 1) = false := by rw [beq_eq_false_iff_ne]; omega
                        have g11 : ¬ ((q : Int) + 1 = 1) := by omega
                        generalize (cutP rest).1 = u at *
                        generalize (cutP rest).2 = cn at *
                        clear hm2 e9
                        clear hW9 b9 x9 hA hft hcl hT hz3 hP zs hls hlst hNE hchk zs2
                        go_wp2_with (first
                          | (go_at_call 50; rw [HW9.out]; refine HSp1.out.mono ?_; rintro _ w5 ⟨rfl, b5⟩; have B5 := hid b5; clear y0 y1; obtain ⟨y0, y1⟩ := HY.out w5 b5; clear b5 HSp1)
                          | (go_at_call 50; refine (HSp2.out w5).mono ?_; rintro _ w6 ⟨rfl, b6⟩; have B6 := hid (Below.on' B5.out b6); clear y0 y1; obtain ⟨y0, y1⟩ := HY.out w6 (Below.on' B5.out b6); have cz := HZ.out w6 (Below.on' B5.out b6); have cz0 := HZ0.out w6 (Below.on' B5.out b6); clear b6 HSp2 B5)
                          | (go_at_call 51; refine (HNum.out w6).mono ?_; rintro _ w7 ⟨rfl, e7⟩; subst w7)
                          | go_in)
                        go_ret2
                        rw [loadR_fail2 hf1.out (hq.out)]
                        exact ⟨(HI.out.below B9.out).be.trans (B6.out.mono (HI.out.below B9.out).be.size), rfl⟩
                  · have e9 : rT1 s2 ⟨key, cols⟩ = none := by
                      unfold rT1 chk
                      dsimp only
                      rw [hA, Option.bind_some, ← hlst, hNE, if_neg (fun h => hE h.2)]
                      rfl
                    rw [e9] at hft
                    have hq := hid hft
                    have HZ0 := hid (fun (V : World) (hV : Below W9.heap.size W9 V) => trivial)
                    generalize (cutP rest).1 = u at *
                    generalize (cutP rest).2 = cn at *
                    generalize (cutS rest).isSome = more at *
                    by_cases hE0 : E = 0
                    · subst hE0
                      have g7 : decide (255 < (N : Int)) = true := by simp; omega
                      clear hW9 b9 x9 hA e9 hft hcl hT hz3 hP zs hls hlst hNE hE
                      go_wp2_with (first
                        | (go_at_call 50; rw [HW9.out]; refine HSp1.out.mono ?_; rintro _ w5 ⟨rfl, b5⟩; have B5 := hid b5; clear y0 y1; obtain ⟨y0, y1⟩ := HY.out w5 b5; clear b5 HSp1)
                        | (go_at_call 50; refine (HSp2.out w5).mono ?_; rintro _ w6 ⟨rfl, b6⟩; have B6 := hid (Below.on' B5.out b6); clear y0 y1; obtain ⟨y0, y1⟩ := HY.out w6 (Below.on' B5.out b6); have cz := HZ.out w6 (Below.on' B5.out b6); have cz0 := HZ0.out w6 (Below.on' B5.out b6); clear b6 HSp2 B5)
                        | (go_at_call 51; refine (HNum.out w6).mono ?_; rintro _ w7 ⟨rfl, e7⟩; subst w7)
                        | go_in)
                      go_ret2
                      rw [loadR_fail2 hf1.out (hq.out)]
                      exact ⟨(HI.out.below B9.out).be.trans (B6.out.mono (HI.out.below B9.out).be.size), rfl⟩
                    · have g7 : ((E : Int) == 0) = false := by rw [beq_eq_false_iff_ne]; omega
                      clear hW9 b9 x9 hA e9 hft hcl hT hz3 hP zs hls hlst hNE hE
                      go_wp2_with (first
                        | (go_at_call 50; rw [HW9.out]; refine HSp1.out.mono ?_; rintro _ w5 ⟨rfl, b5⟩; have B5 := hid b5; clear y0 y1; obtain ⟨y0, y1⟩ := HY.out w5 b5; clear b5 HSp1)
                        | (go_at_call 50; refine (HSp2.out w5).mono ?_; rintro _ w6 ⟨rfl, b6⟩; have B6 := hid (Below.on' B5.out b6); clear y0 y1; obtain ⟨y0, y1⟩ := HY.out w6 (Below.on' B5.out b6); have cz := HZ.out w6 (Below.on' B5.out b6); have cz0 := HZ0.out w6 (Below.on' B5.out b6); clear b6 HSp2 B5)
                        | (go_at_call 51; refine (HNum.out w6).mono ?_; rintro _ w7 ⟨rfl, e7⟩; subst w7)
                        | go_in)
                      go_ret2
                      rw [loadR_fail2 hf1.out (hq.out)]
                      exact ⟨(HI.out.below B9.out).be.trans (B6.out.mono (HI.out.below B9.out).be.size), rfl⟩
            · have e : j2 = n := by omega
              have g1 : ¬ (j2 : Int) < (n : Int) := by omega
              have hf2 : foldO rT1 s1 m = some s2 := by
                have h9 := Hf.out
                rw [List.take_of_length_le (by have := Hn.out; omega)] at h9
                exact h9
              have HL := hid (loadR_ok Hri.out hf1.out hf2)
              have hj3 := hk
              clear Hf hf2
              go_wp2_with go_in
              go_roundw
              case rel => exact ⟨2, s2, by omega, by go_num, .inr (.inr ⟨rfl, HL.out, HI.out.mono hj3⟩)⟩
              case measure => simp [intOf]
        · have HL := hid hl
          have HI0 := hid hI
          clear hl hI
          go_wp2_with go_in
          go_ret2
          rw [HL.out]
          exact ⟨HI0.out.be, g, rfl, HI0.out.rg⟩
end Go.Proofs.YtlkbojgemcjilaaGreatDoor.Xr
