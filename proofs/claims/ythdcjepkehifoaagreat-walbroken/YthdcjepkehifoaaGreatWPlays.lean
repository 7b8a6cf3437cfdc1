/- YthdcjepkehifoaaGreatWPl1 + YthdcjepkehifoaaGreatWPl2 + YthdcjepkehifoaaGreatWPlays -/
import Derived.Test.YthdcjepkehifoaaGreatWLaw
/- Small questions to both logs, to nil ones too. -/
namespace Go.Proofs.YthdcjepkehifoaaGreat
open Go.RowKit Go.Maps
set_option linter.unusedVariables false
set_option maxRecDepth 20000

theorem touchedNil' (w : World) : Calls Tryz.prog 26 #[.pointer none] w fun e w' => e = .returned (.slice none 0 0) ∧ w' = w := by
  go_enter Tryz.func26, Tryz.ntmps26
  go_wp2
  go_ret
  exact ⟨rfl, rfl⟩
theorem checkNil' (w : World) : Calls Tryz.prog 50 #[.pointer none] w fun e w' => e = .returned (.int .i64 1) ∧ w' = w := by
  go_enter Tryz.func50, Tryz.ntmps50
  go_wp2
  go_ret
  exact ⟨rfl, rfl⟩
theorem rpages_nil (w : World) : Calls Tryz.prog 18 #[.pointer none] w fun e w' => e = .returned (.int .i64 0) ∧ w' = w := by
  go_enter Tryz.func18, Tryz.ntmps18
  go_wp2
  go_ret
  exact ⟨rfl, rfl⟩
theorem rused_nil (w : World) : Calls Tryz.prog 20 #[.pointer none] w fun e w' => e = .returned (.int .i64 0) ∧ w' = w := by
  go_enter Tryz.func20, Tryz.ntmps20
  go_wp2
  go_ret
  exact ⟨rfl, rfl⟩
theorem rfree_nil (w : World) : Calls Tryz.prog 22 #[.pointer none] w fun e w' => e = .returned (.int .i64 0) ∧ w' = w := by
  go_enter Tryz.func22, Tryz.ntmps22
  go_wp2
  go_ret
  exact ⟨rfl, rfl⟩
theorem rgroups_nil (w : World) : Calls Tryz.prog 24 #[.pointer none] w fun e w' => e = .returned (.int .i64 0) ∧ w' = w := by
  go_enter Tryz.func24, Tryz.ntmps24
  go_wp2
  go_ret
  exact ⟨rfl, rfl⟩
theorem rdisk_nil (w : World) : Calls Tryz.prog 33 #[.pointer none] w fun e w' => e = .returned (.pointer none) ∧ w' = w := by
  go_enter Tryz.func33, Tryz.ntmps33
  go_wp2
  go_ret
  exact ⟨rfl, rfl⟩
theorem rread_nil (n : Int) (w : World) : Calls Tryz.prog 29 #[.pointer none, .int .i64 n] w fun e w' => e = .returned (.tuple #[.slice none 0 0, .int .i64 1]) ∧ w' = w := by
  go_enter Tryz.func29, Tryz.ntmps29
  go_wp2
  go_ret2
  exact ⟨rfl, rfl⟩
theorem rcommit_nil (a : Option Addr) (n c : Nat) (w : World) : Calls Tryz.prog 75 #[.pointer none, .slice a n c] w fun e w' => e = .returned (.int .i64 1) ∧ w' = w := by
  go_enter Tryz.func75, Tryz.ntmps75
  go_wp2
  go_ret
  exact ⟨rfl, rfl⟩
theorem rcheck_nil (w : World) : Calls Tryz.prog 74 #[.pointer none] w fun e w' => e = .returned (.int .i64 1) ∧ w' = w := by
  go_enter Tryz.func74, Tryz.ntmps74
  go_wp2
  go_ret
  exact ⟨rfl, rfl⟩
theorem refOpen_nil (S : Int) (w : World) : Calls Tryz.prog 44 #[.pointer none, .int .i64 S] w fun e w' => e = .returned (.tuple #[.pointer none, .int .i64 1]) ∧ w' = w := by
  go_enter Tryz.func44, Tryz.ntmps44
  go_wp2
  go_ret2
  exact ⟨rfl, rfl⟩
theorem rtouched_nil (w : World) : Calls Tryz.prog 27 #[.pointer none] w fun e w' => e = .returned (.slice none 0 0) ∧ w' = w := by
  go_enter Tryz.func27, Tryz.ntmps27
  go_wp2
  go_loopw [3, 4] (fun v i wr => v = .slice none 0 0 ∧ i = .int .i64 0 ∧ wr = w) (fun _ _ _ => 0)
  case atStart => exact ⟨rfl, rfl, rfl⟩
  case round =>
    obtain ⟨rfl, rfl, rfl⟩ := hrel
    go_wp2_with (fail)
    refine (rpages_nil _).mono ?_
    rintro e u ⟨rfl, hu⟩
    subst u
    go_wp2
    go_ret
    exact ⟨rfl, rfl⟩
set_option maxHeartbeats 400000 in
theorem rfree_any {w : World} {B m r : Nat} {F L : Value} {vs us : List Value} {S G U : Nat} {fs : List (List UInt8)} {ls : List (Nat × List UInt8)} (h : RefLog w B m r F L vs us S G U fs ls) (hS : S ≤ 65536) (hU : U ≤ S) :
    Calls Tryz.prog 22 #[.pointer (some ⟨m, 0, none⟩)] w fun e w' => e = .returned (.int .i64 ((S : Int) - (U : Int))) ∧ Below w.heap.size w w' := by
  have c1 := h.c1
  have c3 := h.c3
  have g1 : IntKind.i64.wrap ((S : Int) - (U : Int)) = (S : Int) - (U : Int) := by rw [IntKind.wrap_i64]; omega
  clear h
  go_enter Tryz.func22, Tryz.ntmps22
  go_wp2
  go_quiet (fail)
  go_wp2
  go_ret
  exact ⟨rfl, below_drewN _ _ _⟩
set_option maxHeartbeats 400000 in
theorem rread_far {w : World} {B m r : Nat} {F L : Value} {vs us : List Value} {S G U : Nat} {fs : List (List UInt8)} {ls : List (Nat × List UInt8)} (h : RefLog w B m r F L vs us S G U fs ls) (P : Nat) (hl : fs.length = S + 1 + P) (hm : fs.length ≤ 1024) (p : Int) (hp : p < 0 ∨ (P : Int) ≤ p) :
    Calls Tryz.prog 29 #[.pointer (some ⟨m, 0, none⟩), .int .i64 p] w fun e w' => e = .returned (.tuple #[.slice none 0 0, .int .i64 2]) ∧ Below w.heap.size w w' := by
  have Hpg := hid (rpages_any h P hl hm)
  clear h
  rcases (show p < 0 ∨ (¬ p < 0 ∧ (P : Int) ≤ p) by omega) with h1 | ⟨h1, h2⟩
  · clear hp
    go_enter Tryz.func29, Tryz.ntmps29
    go_wp2
    go_ret2
    exact ⟨rfl, Below.refl _ _⟩
  · clear hp
    go_enter Tryz.func29, Tryz.ntmps29
    go_wp2_with (fail)
    refine Hpg.out.mono ?_
    rintro e w1 ⟨rfl, hb1⟩
    have HB := hid hb1
    clear hb1
    go_wp2
    go_ret2
    exact ⟨rfl, HB.out⟩
set_option maxHeartbeats 400000 in
theorem refFork_ok {w : World} {B r : Nat} {F L : Value} {vs us : List Value} {fs : List (List UInt8)} {ls : List (Nat × List UInt8)} (h : RefAt w B r F L vs us fs ls) (hB : B ≤ w.heap.size) :
    Calls Tryz.prog 84 #[.pointer (some ⟨r, 0, none⟩)] w fun e w' => ∃ f, e = .returned (.pointer (some ⟨f, 0, none⟩)) ∧ RefAt w' B f F L vs us fs ls ∧ Below w.heap.size w w' := by
  have H := hid h
  have c0 := cell_of_row _ _ 0 _ _ _ h.obj
  have c1 := cell_of_row _ _ 1 _ _ _ h.obj
  simp only [List.getElem?_toArray, List.getElem?_cons_zero, List.getElem?_cons_succ] at c0 c1
  obtain ⟨fa, fn, fc, rfl⟩ : ∃ fa fn fc, F = .slice fa fn fc := by
    rcases h.first.2 with ⟨hv, h0⟩ | ⟨g, cap, cur, hv, _⟩
    · exact ⟨none, 0, 0, hv⟩
    · exact ⟨_, _, _, hv⟩
  obtain ⟨la, ln, lc, rfl⟩ : ∃ la ln lc, L = .slice la ln lc := by
    rcases h.log.2 with ⟨hv, h0⟩ | ⟨g, cap, cur, hv, _⟩
    · exact ⟨none, 0, 0, hv⟩
    · exact ⟨_, _, _, hv⟩
  clear h
  go_enter Tryz.func84, Tryz.ntmps84
  go_wp2
  go_region
  all_goals
    go_wp2
    go_ret
    refine ⟨_, rfl, ?_, ?_⟩
    · have hlt := H.out.lts
      have hb : Below w.heap.size w (w.alloc (.cells #[.slice fa fn fc, .slice la ln lc] 125)).drew := ((Below.refl _ w).alloc (Nat.le_refl _) _).trans (below_drewN _ _ 1)
      have h1 := H.out.below hb
      exact ⟨heap_alloc_new w _, h1.first, h1.vlen, h1.rows, h1.log, h1.ulen, h1.lrows, h1.lnil, hB, fun k hk => by have := (hlt.2 k hk).2; omega⟩
    · exact ((Below.refl _ w).alloc (Nat.le_refl _) _).trans (below_drewN _ _ 1)
set_option maxHeartbeats 400000 in
theorem rdisk_any {w : World} {B m r : Nat} {F L : Value} {vs us : List Value} {S G U : Nat} {fs : List (List UInt8)} {ls : List (Nat × List UInt8)} (h : RefLog w B m r F L vs us S G U fs ls) (hB : B ≤ w.heap.size) :
    Calls Tryz.prog 33 #[.pointer (some ⟨m, 0, none⟩)] w fun e w' => ∃ f, e = .returned (.pointer (some ⟨f, 0, none⟩)) ∧ RefAt w' B f F L vs us fs ls ∧ Below w.heap.size w w' := by
  have Hf := hid (refFork_ok h.disk hB)
  have c0 := h.c0
  clear h
  go_enter Tryz.func33, Tryz.ntmps33
  go_wp2_with (fail)
  refine Hf.out.mono ?_
  rintro e w1 ⟨f, rfl, hR, hb⟩
  have HR := hid hR
  have HB := hid hb
  clear hR hb
  go_wp2
  go_ret
  exact ⟨f, rfl, HR.out, HB.out⟩
set_option maxHeartbeats 800000 in
theorem refOpen_range {w : World} {B r : Nat} {F L : Value} {vs us : List Value} {fs : List (List UInt8)} {ls : List (Nat × List UInt8)} (h : RefAt w B r F L vs us fs ls) (hm : fs.length ≤ 1024) (S : Int) (hS : S < 2 ∨ (fs.length : Int) - 2 < S) :
    Calls Tryz.prog 44 #[.pointer (some ⟨r, 0, none⟩), .int .i64 S] w fun e w' => e = .returned (.tuple #[.pointer none, .int .i64 2]) ∧ Below w.heap.size w w' := by
  have Hbl := hid (refBlocks_any h)
  have f1 : IntKind.i64.wrap ((fs.length : Int) - 2) = (fs.length : Int) - 2 := by rw [IntKind.wrap_i64]; omega
  generalize fs.length = n at *
  clear h
  rcases (show S < 2 ∨ (¬ S < 2 ∧ (n : Int) - 2 < S) by omega) with h1 | ⟨h1, h2⟩
  · clear hS
    go_enter Tryz.func44, Tryz.ntmps44
    go_wp2
    go_ret2
    exact ⟨rfl, Below.refl _ _⟩
  · clear hS
    go_enter Tryz.func44, Tryz.ntmps44
    go_wp2_with (fail)
    refine Hbl.out.mono ?_
    rintro e w1 ⟨rfl, hu⟩
    subst w1
    go_wp2
    go_ret2
    exact ⟨rfl, Below.refl _ _⟩
end Go.Proofs.YthdcjepkehifoaaGreat

/- do of law 3 on nil logs; open that gives none. -/
namespace Go.Proofs.YthdcjepkehifoaaGreat
open Go.RowKit Go.Maps
set_option linter.unusedVariables false
set_option maxRecDepth 20000
set_option maxHeartbeats 3200000 in
theorem do_nil {w : World} (ck sh : Bool) (a : Option Addr) (q : List Int) (c : Nat) (y : UInt8) (hq : IntsAt w a q) :
    Calls Tryz.prog 16 #[.pointer none, .pointer none, .agg #[.bool ck, .bool sh, .slice a q.length c, .int .u8 (y.toNat : Int)]] w fun e w' => e = .returned (.bool true) ∧ Below w.heap.size w w' := by
  have Hb0 := hid ((Below.refl _ w).alloc (Nat.le_refl _) (.cells #[.bool ck, .bool sh, .slice a q.length c, .int .u8 (y.toNat : Int)] 32))
  have hd0 := heap_alloc_new w (.cells #[.bool ck, .bool sh, .slice a q.length c, .int .u8 (y.toNat : Int)] 32)
  have hs0 := World.size_alloc w (.cells #[.bool ck, .bool sh, .slice a q.length c, .int .u8 (y.toNat : Int)] 32)
  have Hq := hid hq
  have k0 := cell_of_row _ _ 0 _ _ _ hd0
  have k1 := cell_of_row _ _ 1 _ _ _ hd0
  have k2 := cell_of_row _ _ 2 _ _ _ hd0
  have k3 := cell_of_row _ _ 3 _ _ _ hd0
  clear hq hd0
  go_enter Tryz.func16, Tryz.ntmps16
  cases ck with
  | true =>
    go_wp2_with (first | (go_at_call 50; refine (checkNil' _).mono ?_; rintro e u ⟨rfl, hu⟩; subst u) | (go_at_call 74; refine (rcheck_nil _).mono ?_; rintro e u ⟨rfl, hu⟩; subst u))
    go_ret
    exact ⟨rfl, Hb0.out⟩
  | false =>
    go_wp2_with (fail)
    generalize w.alloc (.cells #[.bool false, .bool sh, .slice a q.length c, .int .u8 (y.toNat : Int)] 32) = W0 at *
    refine (pages_deed false sh a q c y W0 (Hq.out.below Hb0.out)).mono ?_
    rintro e u1 ⟨vp, lp, rfl, hlen, hdp, hrow, hap, hb1⟩
    obtain ⟨va, vc, rfl, hpg⟩ := pg_form hrow
    have Hor := hid (fun (u' : World) => orel_start (w := W0) (u := u1) (u' := u') rfl hdp hrow hap)
    have hl102 : lp.length ≤ 102 := by omega
    have hs1 := hb1.size
    have Hb1 := hid (Hb0.out.trans (hb1.mono (by omega)))
    have c0 := (hb1.cell (World.block_lt_of_cell? _ _ k0)).trans k0
    have c1 := (hb1.cell (World.block_lt_of_cell? _ _ k1)).trans k1
    have c2 := (hb1.cell (World.block_lt_of_cell? _ _ k2)).trans k2
    have c3 := (hb1.cell (World.block_lt_of_cell? _ _ k3)).trans k3
    clear k0 k1 k2 k3 hdp hrow hap hpg hb1 hlen
    go_wp2
    go_region_held3 (fun w9 => w9.cell? ⟨w.heap.size, 0, none⟩ = some (.bool false) ∧ w9.cell? ⟨w.heap.size, 1, none⟩ = some (.bool sh) ∧ w9.cell? ⟨w.heap.size, 2, none⟩ = some (.slice a q.length c) ∧ w9.cell? ⟨w.heap.size, 3, none⟩ = some (.int .u8 (y.toNat : Int))) (first | exact ⟨c0, c1, c2, c3⟩ | exact q2.out)
      (first
        | ((go_at_call 75; refine (rcommit_nil _ _ _ _).mono ?_; rintro e u ⟨rfl, hu⟩; subst u))
        | ((go_at_call 47; refine (pages_deed false sh a q c y _ ((Hq.out.below Hb1.out).below (w' := u1.drew) ⟨rfl, rfl, rfl, Nat.le_refl _, fun _ _ => rfl⟩)).mono ?_; rintro e u3 ⟨vp2, lp2, rfl, hlen2, hdp2, hrow2, _, hb3'⟩; obtain ⟨va2, vc2, rfl, hpg2⟩ := pg_form hrow2; have hb3 := undrew1 hb3'; have hs3 := hb3.size; have q2 := hid (And.intro ((hb3.cell (World.block_lt_of_cell? _ _ c0)).trans c0) (And.intro ((hb3.cell (World.block_lt_of_cell? _ _ c1)).trans c1) (And.intro ((hb3.cell (World.block_lt_of_cell? _ _ c2)).trans c2) ((hb3.cell (World.block_lt_of_cell? _ _ c3)).trans c3)))); have Hb3 := hid hb3; clear hdp2 hrow2 hpg2 hb3 hb3' hlen2))
        | ((go_at_call 48; refine (commit_nil _ _ _ _).mono ?_; rintro e u ⟨rfl, hu⟩; subst u)))
    clear c0 c1 c2 c3 q2
    have HO4 : Hid (ORel W0.heap.size u1.heap.size u3 va lp u3) := Hor.out u3 (Out.of_below Hb3.out)
    have Hb4 := hid (Hb1.out.trans (Hb3.out.mono (by show w.heap.size ≤ u1.heap.size; omega)))
    clear Hor
    go_wp2
    go_loopw [9] (fun i wr => ∃ n : Nat, n ≤ lp.length ∧ i = .int .i64 n ∧ ORel W0.heap.size u1.heap.size u3 va lp wr) (fun i _ => lp.length - (intOf i).toNat)
    case atStart => exact ⟨0, Nat.zero_le _, rfl, HO4.out⟩
    case round =>
      obtain ⟨n, hn, rfl, hO⟩ := hrel
      have HO := hid hO
      clear hO HO4
      by_cases hlt : n < lp.length
      · have g1 : (n : Int) < (lp.length : Int) := by omega
        have g0 : (0 : Int) ≤ (n : Int) := by omega
        go_wp2
        go_loopw [10] (fun i wr => ∃ z : Nat, z ≤ lp[n].2.2.1 ∧ i = .int .i64 z ∧ ORel W0.heap.size u1.heap.size u3 va lp wr) (fun i _ => lp[n].2.2.1 - (intOf i).toNat)
        case atStart => exact ⟨0, Nat.zero_le _, rfl, HO.out⟩
        case round =>
          obtain ⟨z, hz, rfl, hO⟩ := hrel
          have HO2 := hid hO
          clear hO HO
          obtain ⟨g, b, x, rfl, hgb, hpg, hb, hl, hx, hbU, how⟩ := HO2.out.1 n hlt
          have c1 := (hpg n hlt).2
          rw [Nat.zero_add, hb] at c1
          have Hst := hid (HO2.out.step n hlt b hb z)
          generalize lp[n].2.2.1 = ln at *
          generalize lp[n].2.2.2 = lc at *
          by_cases hzl : z < ln
          · have g2 : (z : Int) < (ln : Int) := by omega
            have g3 : (0 : Int) ≤ (z : Int) := by omega
            have c2 := (how.cellAt z (by omega)).trans (cellsOf_get x z (by omega))
            have z2 := how.frozenAt z
            generalize (x[z]'(by omega)).toNat = xz at c2
            clear how hb hgb hpg hx
            go_wp2
            go_roundw
            case rel => exact ⟨z + 1, by omega, by go_num, Hst.out⟩
            case measure => simp [intOf]; omega
          · obtain rfl : z = ln := by omega
            have g2 : ¬ (z : Int) < (z : Int) := by omega
            clear how hb hgb hpg hx Hst
            go_wp2
            go_roundw
            case rel => exact ⟨n + 1, by omega, by go_num, HO2.out⟩
            case measure => simp [intOf]; omega
      · obtain rfl : n = lp.length := by omega
        have g1 : ¬ (lp.length : Int) < (lp.length : Int) := by omega
        go_wp2
        go_ret
        exact ⟨rfl, Hb4.out.trans (HO.out.2.below (by have := Hb4.out.size; omega) (fun j hj => by omega))⟩
/-- open that gives none -/
def OpenNil (w : World) (e : Ending) (w' : World) : Prop := e = .returned (.tuple #[.pointer none, .pointer none, .bool true]) ∧ Below w.heap.size w w'
set_option maxHeartbeats 800000 in
theorem lawOpen_far (n S : Int) (w : World) (h : n < 1 ∨ 1024 < n) : Calls Tryz.prog 13 #[.int .i64 n, .int .i64 S] w (OpenNil w) := by
  unfold OpenNil
  go_enter Tryz.func13, Tryz.ntmps13
  go_wp2_with (fail)
  refine (new_bad n w h).mono ?_
  rintro e u ⟨rfl, hu⟩
  subst u
  go_wp2_with (fail)
  refine (refNew_bad n w h).mono ?_
  rintro e u ⟨rfl, hu⟩
  subst u
  go_wp2_with (fail)
  refine (open_nil S w).mono ?_
  rintro e u ⟨rfl, hu⟩
  subst u
  go_wp2_with (fail)
  refine (refOpen_nil S w).mono ?_
  rintro e u ⟨rfl, hu⟩
  subst u
  go_wp2
  go_ret3
  exact ⟨by simp, Below.refl _ _⟩
set_option maxHeartbeats 800000 in
theorem lawOpen_bad (n : Nat) (S : Int) (w : World) (h1 : 1 ≤ n) (h2 : n ≤ 1024) (h64 : S ≤ 9223372036854775807) (hS : S < 2 ∨ (n : Int) - 2 < S) : Calls Tryz.prog 13 #[.int .i64 (n : Int), .int .i64 S] w (OpenNil w) := by
  unfold OpenNil
  go_enter Tryz.func13, Tryz.ntmps13
  go_wp2_with (fail)
  refine (new_ok n w h1 h2).mono ?_
  rintro e w1 ⟨d0, g0, cap0, rfl, hD, hb1⟩
  have HD := hid hD
  have Hb1 := hid hb1
  clear hD hb1
  go_wp2_with (fail)
  refine (refNew_ok n w1 h1 h2).mono ?_
  rintro e w2 ⟨r, F, vs, rfl, hR, hb2⟩
  have HR := hid hR
  have HD2 := hid (HD.out.below hb2)
  have Hb2 := hid (Hb1.out.trans (hb2.mono Hb1.out.size))
  clear hR hb2 HD Hb1
  have Hn : Hid ((List.replicate n zpage).length = n) := List.length_replicate
  have Ho := hid (open_range HD2.out (by rw [Hn.out]; exact h2) S h64 (by rw [Hn.out]; omega))
  go_wp2_with (fail)
  refine Ho.out.mono ?_
  rintro e w3 ⟨rfl, hb3⟩
  have Hro := hid (refOpen_range (HR.out.below hb3) (by rw [Hn.out]; exact h2) S (by rw [Hn.out]; omega))
  have Hb3 := hid (Hb2.out.trans (hb3.mono Hb2.out.size))
  clear hb3 Ho Hb2 HR HD2
  go_wp2_with (fail)
  refine Hro.out.mono ?_
  rintro e w4 ⟨rfl, hb4⟩
  have Hb4 := hid (Hb3.out.trans (hb4.mono Hb3.out.size))
  clear hb4 Hro
  go_wp2
  go_ret3
  exact ⟨by simp, Hb4.out⟩
set_option maxHeartbeats 400000 in
theorem small_any (n : Int) (w : World) : Calls Tryz.prog 14 #[.int .i64 n] w fun e w' => e = .returned (.int .i64 (if 30 < n ∧ n ≤ 1024 then n % 30 + 1 else n)) ∧ w' = w := by
  rcases (show ¬ 30 < n ∨ (30 < n ∧ ¬ n ≤ 1024) ∨ (30 < n ∧ n ≤ 1024) by omega) with h | ⟨h1, h2⟩ | ⟨h1, h2⟩
  · go_enter Tryz.func14, Tryz.ntmps14
    go_wp2
    go_ret
    exact ⟨rfl, rfl⟩
  · go_enter Tryz.func14, Tryz.ntmps14
    go_wp2
    go_ret
    exact ⟨rfl, rfl⟩
  · go_enter Tryz.func14, Tryz.ntmps14
    go_wp2
    go_ret
    exact ⟨rfl, rfl⟩
end Go.Proofs.YthdcjepkehifoaaGreat

/- WalPlays' walk. -/
namespace Go.Proofs.YthdcjepkehifoaaGreat
open Go.RowKit Go.Maps
set_option linter.unusedVariables false
set_option maxRecDepth 20000
theorem own_none (w : World) (B : Nat) : w.ownsRow B 3 1 (.slice none 0 0) ([] : List Nat).length (nums []) := World.ownsRow_nil _ _ _ _
theorem bytes_none (w : World) (a : Option Addr) : Bytes w a [] := fun i hi => by simp at hi
theorem sameB_nil (w : World) : Calls Tryz.prog 30 #[.slice none 0 0, .slice none 0 0] w fun e w' => e = .returned (.bool true) ∧ Below w.heap.size w w' := by
  have h := sameBytes_any [] [] none none 0 0 w (bytes_none _ _) (bytes_none _ _) (by simp) (by simp)
  rw [decide_eq_true (rfl : ([] : List UInt8) = [])] at h
  exact h
/-- between two rounds -/
def VRelP (w : World) (S P la m k : Nat) (wr : World) : Prop := ∃ G gs ls, Duo wr w.heap.size S P k la m G gs ls ∧ Below w.heap.size w wr
/-- both logs while they are asked -/
def PlK (w : World) (B S P k la m G : Nat) (gs : List (List Nat)) (ls : List (Nat × List UInt8)) (r : Nat) (F L : Value) (vs us : List Value) (wr : World) : Prop := Duo wr B S P k la m G gs ls ∧ RW wr B m r F L vs us S G (usedOf gs) (fresh S P) ls ∧ Below w.heap.size w wr
theorem PlK.below {w wr w' : World} {B S P k la m G : Nat} {gs : List (List Nat)} {ls : List (Nat × List UInt8)} {r : Nat} {F L : Value} {vs us : List Value} (h : PlK w B S P k la m G gs ls r F L vs us wr) (hb : Below wr.heap.size wr w') : PlK w B S P k la m G gs ls r F L vs us w' := ⟨h.1.below hb, h.2.1.below hb, h.2.2.trans (hb.mono h.2.2.size)⟩
/-- both logs, as their questions want them -/
theorem Duo.parts {w : World} {B S P k la m G : Nat} {gs : List (List Nat)} {ls : List (Nat × List UInt8)} (h : Duo w B S P k la m G gs ls) : ∃ r F L vs us, RW w B m r F L vs us S G (usedOf gs) (fresh S P) ls := by
  obtain ⟨Q, R, _, ⟨r, F, L, vs, us, h, _⟩, _⟩ := h
  exact ⟨r, F, L, vs, us, h⟩
theorem a_pages {w : World} {B S P k l G : Nat} {gs : List (List Nat)} {ls : List (Nat × List UInt8)} (h : LogAt w B S P k l G gs ls) :
    Calls Tryz.prog 17 #[.pointer (some ⟨l, 0, none⟩)] w fun e w' => e = .returned (.int .i64 (P : Int)) ∧ Below w.heap.size w w' := by
  obtain ⟨d, g, c, m, n, v, h⟩ := h
  exact logPages_any h.mem P h.inv.len h.inv.most
theorem a_far {w : World} {B S P k l G : Nat} {gs : List (List Nat)} {ls : List (Nat × List UInt8)} (h : LogAt w B S P k l G gs ls) (p : Int) (hp : p < 0 ∨ (P : Int) ≤ p) :
    Calls Tryz.prog 28 #[.pointer (some ⟨l, 0, none⟩), .int .i64 p] w fun e w' => e = .returned (.tuple #[.slice none 0 0, .int .i64 2]) ∧ Below w.heap.size w w' := by
  obtain ⟨d, g, c, m, n, v, h⟩ := h
  exact logRead_far h.mem P h.inv.len h.inv.most p hp
theorem a_read {w : World} {B S P k l G : Nat} {gs : List (List Nat)} {ls : List (Nat × List UInt8)} (h : LogAt w B S P k l G gs ls) (p : Nat) (hp : p < P) :
    Calls Tryz.prog 28 #[.pointer (some ⟨l, 0, none⟩), .int .i64 (p : Int)] w fun e w' => ∃ g c, e = .returned (.tuple #[.slice (some ⟨g, 0, none⟩) 256 c, .int .i64 0]) ∧ w'.ownsRow w.heap.size 5 1 (.slice (some ⟨g, 0, none⟩) 256 c) 256 (cellsOf (pageNow (psOf (fresh S P) ls) S gs p)) ∧ Below w.heap.size w w' := by
  obtain ⟨d, g, c, m, n, v, h⟩ := h
  have hl := placeOf_lt h.inv p hp
  refine (logRead_ok h.mem P h.inv.len h.inv.most p hp (pageNow (psOf (fresh S P) ls) S gs p) ?_).mono ?_
  · show (psOf (fresh S P) ls)[placeOf S gs p]? = _
    unfold pageNow
    rw [List.getElem?_eq_getElem hl]
    simp [List.getD, List.getElem?_eq_getElem hl]
  · rintro e w' ⟨g, c, rfl, ho, _, hb⟩
    exact ⟨g, c, rfl, ho, hb⟩

set_option maxHeartbeats 3200000 in
theorem plays_nil {F0 : Prop} (hF : F0) (n S : Int) (a : Option Addr) (l : List Dd) (c : Nat) (w : World) (hl : DdsAt w a l)
    (hop : Calls Tryz.prog 13 #[.int .i64 (if 30 < n ∧ n ≤ 1024 then n % 30 + 1 else n), .int .i64 S] w (OpenNil w)) :
    Calls Tryz.prog 3 #[.int .i64 n, .int .i64 S, .slice a l.length c] w fun e w' => e = .returned (.bool true) ∧ Below w.heap.size w w' := by
  have Hl := hid hl
  have Hop := hid hop
  have Hsm := hid (small_any n w)
  generalize (if 30 < n ∧ n ≤ 1024 then n % 30 + 1 else n) = n2 at *
  clear hl hop hF
  go_enter Tryz.func3, Tryz.ntmps3
  go_wp2_with (fail)
  refine Hsm.out.mono ?_
  rintro e u ⟨rfl, hu⟩
  subst u
  go_wp2_with (fail)
  refine Hop.out.mono ?_
  rintro e w1 ⟨rfl, hb1⟩
  have Hb1 := hid hb1
  clear hb1 Hop Hsm
  go_wp2_with (fail)
  refine (walLive_any w1).mono ?_
  rintro e w3 ⟨rfl, hb3⟩
  have HB3 := hid (Hb1.out.trans (hb3.mono Hb1.out.size))
  clear hb3 Hb1
  go_wp2
  go_loopw [10] (fun i wr => ∃ k : Nat, k ≤ l.length ∧ k ≤ 20 ∧ i = .int .i64 k ∧ Below w.heap.size w wr) (fun i _ => 20 - (intOf i).toNat)
  case atStart => exact ⟨0, Nat.zero_le _, Nat.zero_le _, rfl, HB3.out⟩
  case round =>
    obtain ⟨k, hk, hk2, rfl, hB⟩ := hrel
    have HB := hid hB
    clear hB HB3
    by_cases hend : k < l.length ∧ k < 20
    · obtain ⟨hkl, hk20⟩ := hend
      have d1 : (k : Int) < (l.length : Int) := by omega
      have d2 : (k : Int) < 20 := by omega
      have d0 : (0 : Int) ≤ (k : Int) := by omega
      obtain ⟨b, o, rfl, c0, c1, c2, c3, hq⟩ := deed_at Hl.out HB.out k hkl
      have Hdo := hid (do_nil (w := wr) l[k].ck l[k].sh l[k].a l[k].q l[k].c l[k].y (hq wr (Below.refl _ _)))
      clear hq
      generalize l[k].ck = xk at *
      generalize l[k].sh = xs at *
      generalize l[k].a = xa at *
      generalize l[k].q = xq at *
      generalize l[k].c = xc at *
      generalize l[k].y = xy at *
      go_wp2_with (fail)
      refine Hdo.out.mono ?_
      rintro e u1 ⟨rfl, hb⟩
      have HR := hid (HB.out.trans (hb.mono HB.out.size))
      clear hb Hdo c0 c1 c2 c3
      go_wp2
      go_roundw
      case rel => exact ⟨k + 1, by omega, by omega, by go_num, HR.out⟩
      case measure => simp [intOf]; omega
    · clear Hl
      obtain ⟨V, rfl⟩ : ∃ V, V = wr := ⟨_, rfl⟩
      rcases (show (¬ (k : Int) < (l.length : Int)) ∨ ((k : Int) < (l.length : Int) ∧ ¬ (k : Int) < 20) by omega) with g1 | ⟨g1, g2⟩
      all_goals
        clear hend
        go_wp2_with (first
          | (go_at_call 17; refine (logPages_nil _).mono ?_; rintro e u ⟨rfl, hu⟩; subst u)
          | (go_at_call 18; refine (rpages_nil _).mono ?_; rintro e u ⟨rfl, hu⟩; subst u)
          | (go_at_call 19; refine (used_nil _).mono ?_; rintro e u ⟨rfl, hu⟩; subst u)
          | (go_at_call 20; refine (rused_nil _).mono ?_; rintro e u ⟨rfl, hu⟩; subst u)
          | (go_at_call 21; refine (free_nil _).mono ?_; rintro e u ⟨rfl, hu⟩; subst u)
          | (go_at_call 22; refine (rfree_nil _).mono ?_; rintro e u ⟨rfl, hu⟩; subst u)
          | (go_at_call 23; refine (groups_nil _).mono ?_; rintro e u ⟨rfl, hu⟩; subst u)
          | (go_at_call 24; refine (rgroups_nil _).mono ?_; rintro e u ⟨rfl, hu⟩; subst u)
          | (go_at_call 26; refine (touchedNil' _).mono ?_; rintro e u ⟨rfl, hu⟩; subst u)
          | (go_at_call 27; refine (rtouched_nil _).mono ?_; rintro e u ⟨rfl, hu⟩; subst u)
          | (go_at_call 25; refine (sameInts_eq (own_none _ 0) (own_none _ 0) (by simp)).mono ?_; rintro e u2 ⟨rfl, hb2⟩; have Hb2 := hid hb2; clear hb2))
        have HBV := hid (HB.out.trans (Hb2.out.mono HB.out.size))
        clear HB Hb2
        go_loopw [11] (fun i wr => ∃ j : Nat, j ≤ 2 ∧ i = .int .i64 ((j : Int) - 1) ∧ Below w.heap.size w wr) (fun i _ => 2 - (intOf i + 1).toNat)
        case atStart => exact ⟨0, by omega, rfl, HBV.out⟩
        case round =>
          obtain ⟨j, hj, rfl, hB⟩ := hrel
          have HB := hid hB
          clear hB HBV
          by_cases hlt : j < 2
          · have e1 : (j : Int) - 1 ≤ 0 := by omega
            have e2 : (j : Int) - 1 < 40 := by omega
            have e3 : IntKind.i64.wrap ((j : Int) - 1 + 1) = (j : Int) := by rw [IntKind.wrap_i64]; omega
            go_wp2_with (first
              | (go_at_call 18; refine (rpages_nil _).mono ?_; rintro e u ⟨rfl, hu⟩; subst u)
              | (go_at_call 28; refine (logRead_nil _ _).mono ?_; rintro e u ⟨rfl, hu⟩; subst u)
              | (go_at_call 29; refine (rread_nil _ _).mono ?_; rintro e u ⟨rfl, hu⟩; subst u)
              | (go_at_call 30; refine (sameB_nil _).mono ?_; rintro e u2 ⟨rfl, hb2⟩; have Hb2 := hid hb2; clear hb2))
            go_roundw
            case rel => exact ⟨j + 1, by omega, by go_num, HB.out.trans (Hb2.out.mono HB.out.size)⟩
            case measure => simp [intOf]; omega
          · obtain rfl : j = 2 := by omega
            go_wp2_with (first
              | (go_at_call 18; refine (rpages_nil _).mono ?_; rintro e u ⟨rfl, hu⟩; subst u)
              | (go_at_call 31; refine (logDisk_nil _).mono ?_; rintro e u ⟨rfl, hu⟩; subst u)
              | (go_at_call 33; refine (rdisk_nil _).mono ?_; rintro e u ⟨rfl, hu⟩; subst u)
              | (go_at_call 32; refine (writes_nil _).mono ?_; rintro e u ⟨rfl, hu⟩; subst u)
              | (go_at_call 34; refine (refWrites_nil _).mono ?_; rintro e u ⟨rfl, hu⟩; subst u)
              | (go_at_call 36; refine (image_nil _).mono ?_; rintro e u ⟨rfl, hu⟩; subst u)
              | (go_at_call 37; refine (refImage_nil _).mono ?_; rintro e u ⟨rfl, hu⟩; subst u)
              | (go_at_call 25; refine (sameInts_eq (own_none _ 0) (own_none _ 0) (by simp)).mono ?_; rintro e u2 ⟨rfl, hb2⟩; have Hb2 := hid hb2; clear hb2)
              | (go_at_call 35; refine (sameAll_nil _).mono ?_; rintro e u ⟨rfl, hu⟩; subst u))
            go_ret
            exact ⟨ret_bool (by simp), HB.out.trans (Hb2.out.mono HB.out.size)⟩

set_option maxHeartbeats 6400000 in
theorem plays_two (n : Int) (S P : Nat) (hS : 2 ≤ S) (hP : 1 ≤ P) (h30 : S + 1 + P ≤ 30) (hn : (if 30 < n ∧ n ≤ 1024 then n % 30 + 1 else n) = ((S + 1 + P : Nat) : Int)) (a : Option Addr) (l : List Dd) (c : Nat) (w : World) (hl : DdsAt w a l) :
    Calls Tryz.prog 3 #[.int .i64 n, .int .i64 (S : Int), .slice a l.length c] w fun e w' => e = .returned (.bool true) ∧ Below w.heap.size w w' := by
  have Hl := hid hl
  have Hop := hid (lawOpen_two w S P hS hP (by omega))
  have Hsm := hid (small_any n w)
  rw [hn] at Hsm
  generalize ((S + 1 + P : Nat) : Int) = n2 at *
  clear hl hn
  go_enter Tryz.func3, Tryz.ntmps3
  go_wp2_with (fail)
  refine Hsm.out.mono ?_
  rintro e u ⟨rfl, hu⟩
  subst u
  go_wp2_with (fail)
  refine Hop.out.mono ?_
  rintro e w1 ⟨la, m, rfl, hD, hb1⟩
  have HT1 := hid hD
  have Hb1 := hid hb1
  clear hb1 hD Hop Hsm
  go_wp2_with (fail)
  refine (walLive_any w1).mono ?_
  rintro e w3 ⟨rfl, hb3⟩
  have HR3 : Hid (VRelP w S P la m 0 w3) := ⟨0, [], [], HT1.out.below hb3, Hb1.out.trans (hb3.mono Hb1.out.size)⟩
  clear hb3 Hb1 HT1
  go_wp2
  go_loopw [10] (fun i wr => ∃ k : Nat, k ≤ l.length ∧ k ≤ 20 ∧ i = .int .i64 k ∧ VRelP w S P la m k wr) (fun i _ => 20 - (intOf i).toNat)
  case atStart => exact ⟨0, Nat.zero_le _, Nat.zero_le _, rfl, HR3.out⟩
  case round =>
    obtain ⟨k, hk, hk2, rfl, G, gs, ls, hT, hB⟩ := hrel
    have HT := hid hT
    have HB := hid hB
    clear hT hB HR3
    by_cases hend : k < l.length ∧ k < 20
    · obtain ⟨hkl, hk20⟩ := hend
      have d1 : (k : Int) < (l.length : Int) := by omega
      have d2 : (k : Int) < 20 := by omega
      have d0 : (0 : Int) ≤ (k : Int) := by omega
      obtain ⟨b, o, rfl, c0, c1, c2, c3, hq⟩ := deed_at Hl.out HB.out k hkl
      have Hdo := hid (do_any HT.out (by omega) (by omega) HB.out.size l[k].ck l[k].sh l[k].a l[k].q l[k].c l[k].y hq)
      clear hq
      generalize l[k].ck = xk at *
      generalize l[k].sh = xs at *
      generalize l[k].a = xa at *
      generalize l[k].q = xq at *
      generalize l[k].c = xc at *
      generalize l[k].y = xy at *
      go_wp2_with (fail)
      refine Hdo.out.mono ?_
      rintro e u1 ⟨rfl, ⟨G', gs', ls', hD, _⟩, hb⟩
      have HR : Hid (VRelP w S P la m (k + 1) u1) := ⟨G', gs', ls', hD, HB.out.trans hb⟩
      clear hD hb Hdo c0 c1 c2 c3
      go_wp2
      go_roundw
      case rel => exact ⟨k + 1, by omega, by omega, by go_num, HR.out⟩
      case measure => simp [intOf]; omega
    · clear Hl
      obtain ⟨V, rfl⟩ : ∃ V, V = wr := ⟨_, rfl⟩
      obtain ⟨hinv, hgr, hlsl⟩ := (show LogInv (psOf (fresh S P) ls) S G gs P ∧ G ≤ k ∧ ls.length ≤ 102 * k by obtain ⟨_, _, _, _, _, _, h⟩ := HT.out.log; exact ⟨h.inv, h.gr, h.lsl⟩)
      have Hinv := hid hinv
      have hus := hinv.used
      have H256 := hid (fun p hp => pageNow_length hinv p hp)
      have hfl : (fresh S P).length ≤ 1024 := by rw [fresh_length]; omega
      have hpsl : Hid ((psOf (fresh S P) ls).length = S + 1 + P) := hinv.len
      clear hinv
      rcases (show (¬ (k : Int) < (l.length : Int)) ∨ ((k : Int) < (l.length : Int) ∧ ¬ (k : Int) < 20) by omega) with g1 | ⟨g1, g2⟩
      all_goals
        clear hend
        go_wp2_with (fail)
        refine (a_pages HT.out.log).mono ?_
        rintro e w1 ⟨rfl, hb1⟩
        have HT1 := hid (HT.out.below hb1)
        have HB1 := hid (HB.out.trans (hb1.mono HB.out.size))
        clear hb1 HT HB
        obtain ⟨r, F, L, vs, us, hW1⟩ := HT1.out.parts
        have HW1 := hid hW1
        clear hW1
        go_wp2_with (fail)
        refine (rpages_any HW1.out.mem P (fresh_length S P) hfl).mono ?_
        rintro e w2 ⟨rfl, hb2⟩
        have HT2 := hid (HT1.out.below hb2)
        have HW2 := hid (HW1.out.below hb2)
        have HB2 := hid (HB1.out.trans (hb2.mono HB1.out.size))
        clear hb2 HT1 HW1 HB1
        go_wp2_with (fail)
        refine (a_used HT2.out.log).mono ?_
        rintro e u ⟨rfl, hu⟩
        subst u
        go_wp2_with (fail)
        refine (rused_any HW2.out.mem).mono ?_
        rintro e u ⟨rfl, hu⟩
        subst u
        go_wp2_with (fail)
        refine (a_free HT2.out.log).mono ?_
        rintro e w3 ⟨rfl, hb3⟩
        have HT3 := hid (HT2.out.below hb3)
        have HW3 := hid (HW2.out.below hb3)
        have HB3 := hid (HB2.out.trans (hb3.mono HB2.out.size))
        clear hb3 HT2 HW2 HB2
        go_wp2_with (fail)
        refine (rfree_any HW3.out.mem (by omega) hus).mono ?_
        rintro e w4 ⟨rfl, hb4⟩
        have HT4 := hid (HT3.out.below hb4)
        have HW4 := hid (HW3.out.below hb4)
        have HB4 := hid (HB3.out.trans (hb4.mono HB3.out.size))
        clear hb4 HT3 HW3 HB3
        go_wp2_with (fail)
        refine (a_groups HT4.out.log (by omega)).mono ?_
        rintro e u ⟨rfl, hu⟩
        subst u
        go_wp2_with (fail)
        refine (rgroups_any HW4.out.mem).mono ?_
        rintro e u ⟨rfl, hu⟩
        subst u
        go_wp2_with (fail)
        refine (one_touched HT4.out.log (by omega)).mono ?_
        rintro e w5 ⟨v5, rfl, hr5, hb5⟩
        have Hr5 := hid hr5
        have HT5 := hid (HT4.out.below hb5)
        have HW5 := hid (HW4.out.below hb5)
        have HB5 := hid (HB4.out.trans (hb5.mono HB4.out.size))
        clear hr5 hb5 HT4 HW4 HB4
        go_wp2_with (fail)
        refine (rtouched_any (HW5.out.refOk Hinv.out (by omega))).mono ?_
        rintro e w6 ⟨v6, rfl, hr6, hb6⟩
        have Hsi := hid (sameInts_eq (own_below Hr5.out hb6) hr6 (by have := touched_len P gs; omega))
        have HT6 := hid (HT5.out.below hb6)
        have HW6 := hid (HW5.out.below hb6)
        have HB6 := hid (HB5.out.trans (hb6.mono HB5.out.size))
        clear hr6 hb6 Hr5 HT5 HW5 HB5
        go_wp2_with (fail)
        refine Hsi.out.mono ?_
        rintro e w7 ⟨rfl, hb7⟩
        have HK7 : Hid (PlK w w.heap.size S P k la m G gs ls r F L vs us w7) := ⟨HT6.out.below hb7, HW6.out.below hb7, HB6.out.trans (hb7.mono HB6.out.size)⟩
        clear hb7 Hsi HT6 HW6 HB6
        go_wp2
        go_loopw [11] (fun i wr => ∃ j : Nat, j ≤ P + 2 ∧ i = .int .i64 ((j : Int) - 1) ∧ PlK w w.heap.size S P k la m G gs ls r F L vs us wr) (fun i _ => P + 2 - (intOf i + 1).toNat)
        case atStart => exact ⟨0, by omega, rfl, HK7.out⟩
        case round =>
          obtain ⟨j, hj, rfl, hK⟩ := hrel
          have HK := hid hK
          clear hK HK7
          by_cases hlt : j < P + 2
          · have e1 : (j : Int) - 1 ≤ (P : Int) := by omega
            have e2 : (j : Int) - 1 < 40 := by omega
            have e3 : IntKind.i64.wrap ((j : Int) - 1 + 1) = (j : Int) := by rw [IntKind.wrap_i64]; omega
            go_wp2_with (fail)
            refine (rpages_any HK.out.2.1.mem P (fresh_length S P) hfl).mono ?_
            rintro e u1 ⟨rfl, hb1⟩
            have HK1 := hid (HK.out.below hb1)
            clear hb1 HK
            by_cases hin : 1 ≤ j ∧ j < P + 1
            · obtain ⟨p, hp⟩ : ∃ p : Nat, (j : Int) - 1 = (p : Int) := ⟨j - 1, by omega⟩
              have Hjp := hid hp
              have hpP : p < P := by omega
              rw [hp] at e1 e2 e3 ⊢
              clear hp
              go_wp2_with (fail)
              refine (a_read HK1.out.1.log p hpP).mono ?_
              rintro e u2 ⟨gx, cx, rfl, hx, hb2⟩
              have Hx := hid hx
              have HK2 := hid (HK1.out.below hb2)
              clear hx hb2 HK1
              go_wp2_with (fail)
              refine (rread_ok (HK2.out.2.1.refOk Hinv.out (by omega)) p hpP).mono ?_
              rintro e u3 ⟨vy, rfl, hy, hb3⟩
              obtain ⟨gy, cy, rfl, _, _, _⟩ := row_form hy (by omega)
              have hx3 := own_below Hx.out hb3
              have Hsb : Hid (Calls Tryz.prog 30 #[.slice (some ⟨gx, 0, none⟩) 256 cx, .slice (some ⟨gy, 0, none⟩) 256 cy] u3 fun e w' => e = .returned (.bool true) ∧ Below u3.heap.size u3 w') := by
                have h := sameBytes_any _ _ (some ⟨gx, 0, none⟩) (some ⟨gy, 0, none⟩) cx cy u3 (bytes_of_row hx3 (H256.out p hpP)) (bytes_of_row hy (H256.out p hpP)) (by rw [H256.out p hpP]; omega) (by rw [H256.out p hpP]; omega)
                rw [decide_eq_true (rfl : pageNow (psOf (fresh S P) ls) S gs p = pageNow (psOf (fresh S P) ls) S gs p), H256.out p hpP] at h
                exact h
              have HK3 := hid (HK2.out.below hb3)
              clear hy hx3 hb3 Hx HK2
              go_wp2_with (fail)
              refine Hsb.out.mono ?_
              rintro e u4 ⟨rfl, hb4⟩
              have HK4 := hid (HK3.out.below hb4)
              clear hb4 Hsb HK3
              go_wp2
              go_roundw
              case rel => exact ⟨j + 1, by omega, by have := Hjp.out; go_num, HK4.out⟩
              case measure => have := Hjp.out; simp [intOf]; omega
            · have hfar : (j : Int) - 1 < 0 ∨ (P : Int) ≤ (j : Int) - 1 := by omega
              go_wp2_with (fail)
              refine (a_far HK1.out.1.log _ hfar).mono ?_
              rintro e u2 ⟨rfl, hb2⟩
              have HK2 := hid (HK1.out.below hb2)
              clear hb2 HK1
              go_wp2_with (fail)
              refine (rread_far HK2.out.2.1.mem P (fresh_length S P) hfl _ hfar).mono ?_
              rintro e u3 ⟨rfl, hb3⟩
              have HK3 := hid (HK2.out.below hb3)
              clear hb3 HK2
              go_wp2_with (fail)
              refine (sameB_nil _).mono ?_
              rintro e u4 ⟨rfl, hb4⟩
              have HK4 := hid (HK3.out.below hb4)
              clear hb4 HK3
              go_wp2
              go_roundw
              case rel => exact ⟨j + 1, by omega, by go_num, HK4.out⟩
              case measure => simp [intOf]; omega
          · have hj2 : (j : Int) - 1 = (P : Int) + 1 := by omega
            have e1 : ¬ (P : Int) + 1 ≤ (P : Int) := by omega
            rw [hj2]
            clear hj2
            go_wp2_with (fail)
            refine (rpages_any HK.out.2.1.mem P (fresh_length S P) hfl).mono ?_
            rintro e u1 ⟨rfl, hb1⟩
            have HK1 := hid (HK.out.below hb1)
            clear hb1 HK
            go_wp2_with (fail)
            refine (one_disk HK1.out.1.log (by omega)).mono ?_
            rintro e u2 ⟨d2, g2', cap2, v2, rfl, hD2, hb2⟩
            have Hwr := hid (writes_ok hD2 (by rw [chOf_length]; omega))
            rw [chOf_fst, chOf_length] at Hwr
            have HK2 := hid (HK1.out.below hb2)
            clear hD2 hb2 HK1
            go_wp2_with (fail)
            refine Hwr.out.mono ?_
            rintro e u3 ⟨b3, rfl, hr3, hb3⟩
            have Hr3 := hid hr3
            have HK3 := hid (HK2.out.below hb3)
            clear hr3 hb3 HK2 Hwr
            go_wp2_with (fail)
            refine (rdisk_any HK3.out.2.1.mem HK3.out.2.2.size).mono ?_
            rintro e u4 ⟨f4, rfl, hR4, hb4⟩
            have Hrw := hid (refWrites_ok hR4 (by omega))
            have Hr4 := hid (own_below Hr3.out hb4)
            have HK4 := hid (HK3.out.below hb4)
            clear hR4 hb4 HK3 Hr3
            go_wp2_with (fail)
            refine Hrw.out.mono ?_
            rintro e u5 ⟨v5, rfl, hr5, hb5⟩
            have Hsi := hid (sameInts_eq (l := ls.map (·.1)) (by rw [List.length_map]; exact own_below Hr4.out hb5) (by rw [List.length_map]; exact hr5) (by rw [List.length_map]; omega))
            have HK5 := hid (HK4.out.below hb5)
            clear hr5 hb5 HK4 Hr4 Hrw
            go_wp2_with (fail)
            refine Hsi.out.mono ?_
            rintro e u6 ⟨rfl, hb6⟩
            have HK6 := hid (HK5.out.below hb6)
            clear hb6 HK5 Hsi
            go_wp2_with (fail)
            refine (one_disk HK6.out.1.log (by omega)).mono ?_
            rintro e u7 ⟨d7, g7, cap7, v7, rfl, hD7, hb7⟩
            have Him := hid (image_ok hD7 (by rw [hpsl.out]; omega) (by rw [hpsl.out]; omega))
            have HK7 := hid (HK6.out.below hb7)
            clear hD7 hb7 HK6
            go_wp2_with (fail)
            refine Him.out.mono ?_
            rintro e u8 ⟨b8, vs8, rfl, hI8, hb8⟩
            have HI8 := hid hI8
            have HK8 := hid (HK7.out.below hb8)
            clear hI8 hb8 HK7 Him
            go_wp2_with (fail)
            refine (rdisk_any HK8.out.2.1.mem HK8.out.2.2.size).mono ?_
            rintro e u9 ⟨f9, rfl, hR9, hb9⟩
            have Hri := hid (refImage_ok hR9 HK8.out.2.1.ok HK8.out.2.1.full (by rw [fresh_length]; omega) hfl (by omega))
            have HI9 := hid (HI8.out.below hb9)
            have HK9 := hid (HK8.out.below hb9)
            clear hR9 hb9 HK8 HI8
            go_wp2_with (fail)
            refine Hri.out.mono ?_
            rintro e u10 ⟨b10, c10, vs10, rfl, hI10, hb10⟩
            have Hsa : Hid (Calls Tryz.prog 35 #[.slice (some ⟨b8, 0, none⟩) (psOf (fresh S P) ls).length (psOf (fresh S P) ls).length, .slice (some ⟨b10, 0, none⟩) (fresh S P).length c10] u10 fun e w' => e = .returned (.bool true) ∧ Below u10.heap.size u10 w') := by
              have h := sameAll_eq (n := (psOf (fresh S P) ls).length) rfl (HI9.out.below hb10) (by rw [psOf_length]; exact hI10) (by rw [hpsl.out]; omega) (fun p hp => by rw [Hinv.out.full p hp]; omega)
              rw [psOf_length] at h ⊢
              exact h
            have HK10 := hid (HK9.out.below hb10)
            clear hI10 hb10 HK9 HI9 Hri
            go_wp2_with (fail)
            refine Hsa.out.mono ?_
            rintro e u11 ⟨rfl, hb11⟩
            have HK11 := hid (HK10.out.below hb11)
            clear hb11 HK10 Hsa
            go_wp2
            go_ret
            exact ⟨ret_bool (by simp), HK11.out.2.2⟩

theorem walPlays_walk (n s : Int) (hs : s ≤ 9223372036854775807) (a : Option Addr) (l : List Dd) (c : Nat) (w : World) (hl : DdsAt w a l) :
    Calls Tryz.prog 3 #[.int .i64 n, .int .i64 s, .slice a l.length c] w fun e w' => e = .returned (.bool true) ∧ Below w.heap.size w w' := by
  obtain ⟨n2, hn2⟩ : ∃ n2, (if 30 < n ∧ n ≤ 1024 then n % 30 + 1 else n) = n2 := ⟨_, rfl⟩
  have hr : n2 ≤ 30 ∨ 1024 < n2 := by
    rw [← hn2]
    split
    · omega
    · omega
  by_cases hf : n2 < 1 ∨ 1024 < n2
  · exact plays_nil trivial n s a l c w hl (by rw [hn2]; exact lawOpen_far n2 s w hf)
  · obtain ⟨N, rfl⟩ : ∃ N : Nat, n2 = (N : Int) := ⟨n2.toNat, by omega⟩
    by_cases hb : s < 2 ∨ (N : Int) - 2 < s
    · exact plays_nil trivial n s a l c w hl (by rw [hn2]; exact lawOpen_bad N s w (by omega) (by omega) hs hb)
    · obtain ⟨S, rfl⟩ : ∃ S : Nat, s = (S : Int) := ⟨s.toNat, by omega⟩
      exact plays_two n S (N - S - 1) (by omega) (by omega) (by omega) (by rw [hn2]; omega) a l c w hl
end Go.Proofs.YthdcjepkehifoaaGreat
