/- YtomhcccjeadefaaGreatDoorCB11 + YtomhcccjeadefaaGreatDoorCB12 -/
import Derived.Test.YtomhcccjeadefaaGreatDoorCB10
import Derived.BigQuiet
/- A book of passwords, loaded: takeUser, take, Load. -/
namespace Go.Proofs.YtomhcccjeadefaaGreatDoor
open Go.RowKit Go.Maps
set_option linter.unusedVariables false
set_option maxRecDepth 20000
def cols2 (h : List UInt8) : Array Value := #[.string (mkH h), .string saltB, .string (txtJ 2), .string (txtJ 0), .string (txtJ 0)]
set_option maxHeartbeats 4000000 in
theorem takeUser_ok {w : World} {B g mb q : Nat} {h : List UInt8} (hb : BookAt w B g mb 0 none) (hB : B ≤ w.heap.size) (hq : w.heap[q]? = some (.cells (cols2 h) 9 (0, 0))) (hl : h.length = 32) :
    Calls Tryz.prog 54 #[.pointer (some ⟨g, 0, none⟩), .agg #[.string oT, .string oU], .slice (some ⟨q, 0, none⟩) 5 5] w fun e w' => e = .returned (.bool true) ∧ Below B w w' ∧ ∃ r, BookAt w' B g mb 1 (some r) ∧ RecAt w' r 0 0 h ∧ B ≤ r := by
  obtain ⟨W0, hW0⟩ : ∃ W0, W0 = w.alloc (.cells #[.string oT, .string oU] 31) := ⟨_, rfl⟩
  have b0 : Below w.heap.size w W0 := by rw [hW0]; exact (Below.refl _ w).alloc (Nat.le_refl _) _
  have x0 : W0.heap[w.heap.size]? = some (.cells #[.string oT, .string oU] 31 (0, 0)) := by rw [hW0]; exact heap_alloc_new w _
  have HD := hid (toRecord_ok (w := W0) (q := q) ((b0.block _ (heap_lt hq)).trans hq) hl)
  have H0 := hid (hb.below b0)
  have B0 := hid b0
  have X0 := hid x0
  have HW := hid hW0
  have hne : mb ≠ g := fun e => by
    obtain ⟨es, ck, h1⟩ := hb.mp.isMap
    rw [e, hb.obj] at h1
    cases h1
  have Hne := hid hne
  have hbx : w.heap.size ≠ g ∧ w.heap.size ≠ mb := ⟨by have := heap_lt hb.obj; omega, by have := hb.mp.lt; omega⟩
  have Hbx := hid hbx
  have Hb := hid hb
  clear hb b0 x0 hW0 hne hbx hq hl
  go_enter Tryz.func54, Tryz.ntmps54
  go_wp2_with fail
  rw [show w.alloc (.cells #[.string oT, .string oU] 31) = W0 from HW.out.symm]
  go_wp2_with fail
  refine HD.out.mono ?_
  rintro _ w1 ⟨r, rfl, hrec, hr, b1⟩
  have B1 := hid (Below.on' B0.out b1)
  have H1 := hid (H0.out.below b1)
  have X1 := hid ((b1.block _ (heap_lt X0.out)).trans X0.out)
  have Hrec := hid hrec
  have Hr := hid hr
  have y0 : w1.cell? ⟨w.heap.size, 0, none⟩ = some (.string oT) := cell_of_row _ _ 0 _ _ _ X1.out
  have y1 : w1.cell? ⟨w.heap.size, 1, none⟩ = some (.string oU) := cell_of_row _ _ 1 _ _ _ X1.out
  clear b1 hrec hr
  go_wp2_with (first
    | (go_at_call 38; refine (isOwnerO _).mono ?_; rintro _ w2 ⟨rfl, b2⟩; have B2 := hid b2; clear b2; have X2 := hid ((B2.out.block _ (heap_lt X1.out)).trans X1.out); have z0 : w2.cell? ⟨w.heap.size, 0, none⟩ = some (.string oT) := cell_of_row _ _ 0 _ _ _ X2.out; have H2 := hid (H1.out.below B2.out); clear y0 y1)
    | (go_at_call 20; refine (hasRoom0 H2.out oT).mono ?_; rintro _ w3 ⟨rfl, b3⟩; have B3 := hid (Below.on' B2.out b3); clear b3))
  have H3 := hid (H1.out.below B3.out)
  have X3 := hid ((B3.out.block _ (heap_lt X1.out)).trans X1.out)
  obtain ⟨w4, hrun, hm4, hg4⟩ := (H3.out.below (below_drewN w3.heap.size w3 1)).mp.put Tryz.underlying52 (by omega) (.pointer (some ⟨r, 0, none⟩))
  have hrun' : (Instr.mapUpdate 52 (.map (some mb)) (.agg #[.string oT, .string oU]) (.pointer (some ⟨r, 0, none⟩))).run Tryz.prog w3.drew = .ok () w4 := hrun
  have k0 : w3.cell? ⟨w.heap.size, 0, none⟩ = some (.string oT) := cell_of_row _ _ 0 _ _ _ X3.out
  have k1 : w3.cell? ⟨w.heap.size, 1, none⟩ = some (.string oU) := cell_of_row _ _ 1 _ _ _ X3.out
  have k2 := H3.out.c0
  have HM4 := hid hm4
  have HG4 := hid hg4
  clear hm4 hg4 hrun z0
  go_region
  all_goals (try go_wp2_with fail)
  go_ret
  have g4 : ∀ k, k < w3.heap.size → k ≠ mb → w4.heap[k]? = w3.heap[k]? := fun k hk hne => HG4.out.block k hk (fun e => hne (by cases e; rfl))
  have hb3 : Below w.heap.size w w3 := Below.on' B1.out B3.out
  have hmb := Hb.out.mp.lt
  have hr1 := heap_lt Hrec.out
  have hrw : w.heap.size ≤ r := Nat.le_trans B0.out.size Hr.out
  refine ⟨rfl, (hb3.mono hB).trans ⟨HG4.out.os, HG4.out.tape, HG4.out.output, HG4.out.size, fun k hk => g4 k (by have := hb3.size; omega) (by have := Hb.out.bm; omega)⟩, r, ⟨(g4 g (heap_lt H3.out.obj) (fun e => Hne.out e.symm)).trans H3.out.obj, HM4.out, Hb.out.bg, Hb.out.bm⟩, ?_, by omega⟩
  exact (g4 r (by have := B3.out.size; omega) (by omega)).trans ((B3.out.block _ hr1).trans Hrec.out)
set_option maxHeartbeats 4000000 in
theorem take_ok {w : World} {B g mb q : Nat} {h : List UInt8} (hb : BookAt w B g mb 0 none) (hB : B ≤ w.heap.size) (hq : w.heap[q]? = some (.cells (cols2 h) 9 (0, 0))) (hl : h.length = 32) :
    Calls Tryz.prog 30 #[.pointer (some ⟨g, 0, none⟩), .agg #[.string kTU, .slice (some ⟨q, 0, none⟩) 5 5]] w fun e w' => e = .returned (.bool true) ∧ Below B w w' ∧ ∃ r, BookAt w' B g mb 1 (some r) ∧ RecAt w' r 0 0 h ∧ B ≤ r := by
  obtain ⟨W0, hW0⟩ : ∃ W0, W0 = w.alloc (.cells #[.string kTU, .slice (some ⟨q, 0, none⟩) 5 5] 38) := ⟨_, rfl⟩
  have b0 : Below w.heap.size w W0 := by rw [hW0]; exact (Below.refl _ w).alloc (Nat.le_refl _) _
  have x0 : W0.heap[w.heap.size]? = some (.cells #[.string kTU, .slice (some ⟨q, 0, none⟩) 5 5] 38 (0, 0)) := by rw [hW0]; exact heap_alloc_new w _
  obtain ⟨W1, hW1⟩ : ∃ W1, W1 = W0.alloc (.cells #[.string oT, .string oU] 9) := ⟨_, rfl⟩
  have b1 : Below W0.heap.size W0 W1 := by rw [hW1]; exact (Below.refl _ W0).alloc (Nat.le_refl _) _
  have x1 : W1.heap[W0.heap.size]? = some (.cells #[.string oT, .string oU] 9 (0, 0)) := by rw [hW1]; exact heap_alloc_new W0 _
  obtain ⟨W2, hW2⟩ : ∃ W2, W2 = (W1.alloc (.cells #[.string oT, .string oU] 31)).drew := ⟨_, rfl⟩
  have b2 : Below W1.heap.size W1 W2 := by rw [hW2]; exact ((Below.refl _ W1).alloc (Nat.le_refl _) _).drew
  have x2 : W2.heap[W1.heap.size]? = some (.cells #[.string oT, .string oU] 31 (0, 0)) := by rw [hW2]; exact heap_alloc_new W1 _
  have X0 := hid x0
  have X1 := hid x1
  have X2 := hid x2
  have bw := Below.on' (Below.on' b0 b1) b2
  have Bw := hid bw
  have HT := hid (takeUser_ok (hb.below bw) (Nat.le_trans hB bw.size) ((bw.block _ (heap_lt hq)).trans hq) hl)
  have HW0 := hid hW0
  have HW1 := hid hW1
  have HW2 := hid hW2
  have HS := hid (splitTU W0)
  have XR := hid (((Below.on' b1 b2).block _ (heap_lt x0)).trans x0)
  have y0 : W0.cell? ⟨w.heap.size, 0, none⟩ = some (.string kTU) := cell_of_row _ _ 0 _ _ _ x0
  have hBx := hid hB
  clear hb hB hq x0 x1 x2 b0 b1 b2 bw hW0 hW1 hW2
  go_enter Tryz.func30, Tryz.ntmps30
  go_wp2_with fail
  rw [show w.alloc (.cells #[.string kTU, .slice (some ⟨q, 0, none⟩) 5 5] 38) = W0 from HW0.out.symm]
  go_wp2_with (go_at_call 53; refine HS.out.mono ?_; rintro _ v1 ⟨rfl, e1⟩; rw [← HW1.out] at e1; subst e1)
  have z0 : v1.cell? ⟨W0.heap.size, 0, none⟩ = some (.string oT) := cell_of_row _ _ 0 _ _ _ X1.out
  have z1 : v1.cell? ⟨W0.heap.size, 1, none⟩ = some (.string oU) := cell_of_row _ _ 1 _ _ _ X1.out
  have zl : W0.heap.size < v1.heap.size := heap_lt X1.out
  have b01 := Below.on' (Below.refl _ W0) (show Below W0.heap.size W0 v1 by rw [HW1.out]; exact (Below.refl _ W0).alloc (Nat.le_refl _) _)
  have zc : v1.cell? ⟨w.heap.size, 1, none⟩ = some (.slice (some ⟨q, 0, none⟩) 5 5) := cell_of_row _ _ 1 _ _ _ ((b01.block _ (heap_lt X0.out)).trans X0.out)
  have zl2 : w.heap.size < v1.heap.size := Nat.lt_of_lt_of_le (heap_lt X0.out) b01.size
  clear y0 b01
  go_region
  go_wp2_with (go_at_call 54; rw [← HW2.out]; refine HT.out.mono ?_; rintro _ v3 ⟨rfl, b3, r, h3⟩; have B3 := hid b3; have H3 := hid h3; clear b3 h3)
  go_ret
  exact ⟨rfl, (Bw.out.mono hBx.out).trans B3.out, r, H3.out⟩
set_option maxHeartbeats 4000000 in
theorem load_ok {w : World} {B p c : Nat} {h : List UInt8} (hr : RowC w B p kTU 0 0 2 h) (hl : h.length = 32) :
    Calls Tryz.prog 13 #[.slice (some ⟨p, 0, none⟩) 1 c] w fun e w' => ∃ g mb r, e = .returned (.tuple #[.pointer (some ⟨g, 0, none⟩), .int .i64 0]) ∧ BookAt w' w.heap.size g mb 1 (some r) ∧ RecAt w' r 0 0 h ∧ w.heap.size ≤ r ∧ Below w.heap.size w w' := by
  obtain ⟨q, cur, h1, h2, h3, h4, _, _⟩ := hr
  have Hq := hid h4
  have Hp := hid h1
  have Hc0 := hid h2
  have Hc1 := hid h3
  have Hl := hid hl
  clear h1 h2 h3 h4 hl
  go_enter Tryz.func13, Tryz.ntmps13
  go_wp2_with (first
    | (go_at_call 29; refine (rising1 _ _ w).mono ?_; rintro _ w9 ⟨rfl, e9⟩; subst w9)
    | (go_at_call 4; refine (newBook_any w).mono ?_; rintro _ w1 ⟨g, mb, rfl, hb, b1⟩; have HB := hid hb; have B1 := hid b1; clear hb b1))
  go_loopw [13] (fun i wr => (i = .int .i64 0 ∧ w1 = wr) ∨ (i = .int .i64 1 ∧ ∃ r, BookAt wr w.heap.size g mb 1 (some r) ∧ RecAt wr r 0 0 h ∧ w.heap.size ≤ r ∧ Below w.heap.size w wr)) (fun i _ => 1 - (intOf i).toNat)
  case atStart => exact .inl ⟨rfl, rfl⟩
  case round =>
    rcases hrel with ⟨rfl, rfl⟩ | ⟨rfl, r, k1, k2, k3, k4⟩
    · have c0 : w1.cell? ⟨p, 0, none⟩ = some (.string kTU) := (cell_of_row _ _ 0 _ _ _ ((B1.out.block _ (heap_lt Hp.out)).trans Hp.out)).trans Hc0.out
      have c1 : w1.cell? ⟨p, 1, none⟩ = some (.slice (some ⟨q, 0, none⟩) 5 5) := (cell_of_row _ _ 1 _ _ _ ((B1.out.block _ (heap_lt Hp.out)).trans Hp.out)).trans Hc1.out
      obtain ⟨W0, hW0⟩ : ∃ W0, W0 = w1.alloc (.cells #[.string kTU, .slice (some ⟨q, 0, none⟩) 5 5] 38) := ⟨_, rfl⟩
      have b0 : Below w1.heap.size w1 W0 := by rw [hW0]; exact (Below.refl _ w1).alloc (Nat.le_refl _) _
      have B0 := hid b0
      have HT := hid (take_ok (HB.out.below b0) (Nat.le_trans B1.out.size b0.size) ((Below.on' B1.out b0).block _ (heap_lt Hq.out) |>.trans Hq.out) Hl.out)
      have HW0 := hid hW0
      clear b0 hW0
      go_wp2_with (first
        | (go_at_call 30; rw [← HW0.out]; refine HT.out.mono ?_; rintro _ v3 ⟨rfl, b3, r, h3⟩; have B3 := hid b3; have H3 := hid h3; clear b3 h3))
      exact ⟨.inr ⟨rfl, r, H3.out.1, H3.out.2.1, H3.out.2.2, (Below.on' B1.out B0.out).trans B3.out⟩, by simp [intOf]⟩
    · have K1 := hid k1
      have K2 := hid k2
      have K3 := hid k3
      have K4 := hid k4
      clear k1 k2 k3 k4
      go_wp2_with fail
      go_ret2
      exact ⟨g, mb, r, rfl, K1.out, K2.out, K3.out, K4.out⟩
end Go.Proofs.YtomhcccjeadefaaGreatDoor
/- A book of passwords: a try is taken. -/
namespace Go.Proofs.YtomhcccjeadefaaGreatDoor
open Go.RowKit Go.Maps
set_option linter.unusedVariables false
set_option maxRecDepth 20000
section
variable {w : World} {B g mb n r tr un : Nat} {h : List UInt8}
theorem RecAt.c0 (s : RecAt w r tr un h) : w.cell? ⟨r, 0, none⟩ = some (.int .i64 (tr : Int)) := (cell_of_row _ _ 0 _ _ _ s).trans rfl
theorem RecAt.fz (s : RecAt w r tr un h) (o : Nat) : w.frozen? ⟨r, o, none⟩ = false := frozen_of_row _ _ _ _ _ s
theorem RecAt.set1 (s : RecAt w r tr un h) (t : Nat) : RecAt (w.setCell ⟨r, 0, none⟩ (.int .i64 (t : Int))) r t un h :=
  heap_setCells_same r 93 [.int .i64 (t : Int)] 0 w (recC tr un h 2) s (by simp [recC])
theorem RecAt.set2 (s : RecAt w r tr un h) (t u : Nat) : RecAt ((w.setCell ⟨r, 0, none⟩ (.int .i64 (t : Int))).setCell ⟨r, 1, none⟩ (.int .i64 (u : Int))) r t u h :=
  heap_setCells_same r 93 [.int .i64 (t : Int), .int .i64 (u : Int)] 0 w (recC tr un h 2) s (by simp [recC])
theorem RecAt.below {w' : World} (s : RecAt w r tr un h) (hb : Below w.heap.size w w') : RecAt w' r tr un h := (hb.block _ (heap_lt s)).trans s
theorem RecAt.c1 (s : RecAt w r tr un h) : w.cell? ⟨r, 1, none⟩ = some (.int .i64 (un : Int)) := (cell_of_row _ _ 1 _ _ _ s).trans rfl
end
set_option maxHeartbeats 2000000 in
theorem find_ok {w : World} {B g mb n r : Nat} (hb : BookAt w B g mb n (some r)) : Calls Tryz.prog 56 #[.pointer (some ⟨g, 0, none⟩), .agg #[.string oT, .string oU]] w fun e w' => e = .returned (.tuple #[.pointer (some ⟨r, 0, none⟩), .int .i64 0]) ∧ Below w.heap.size w w' := by
  obtain ⟨W0, hW0⟩ : ∃ W0, W0 = w.alloc (.cells #[.string oT, .string oU] 31) := ⟨_, rfl⟩
  have b0 : Below w.heap.size w W0 := by rw [hW0]; exact (Below.refl _ w).alloc (Nat.le_refl _) _
  have x0 : W0.heap[w.heap.size]? = some (.cells #[.string oT, .string oU] 31 (0, 0)) := by rw [hW0]; exact heap_alloc_new w _
  have H0 := hid (hb.below b0)
  have B0 := hid b0
  have HW := hid hW0
  have y0 : W0.cell? ⟨w.heap.size, 0, none⟩ = some (.string oT) := cell_of_row _ _ 0 _ _ _ x0
  have y1 : W0.cell? ⟨w.heap.size, 1, none⟩ = some (.string oU) := cell_of_row _ _ 1 _ _ _ x0
  have y2 := H0.out.c0
  have hlk : ∀ q, (Instr.lookup 52 (.map (some mb)) (.agg #[.string oT, .string oU]) true).run Tryz.prog (W0.drewN q) = .ok (.tuple #[.pointer (some ⟨r, 0, none⟩), .bool true]) (W0.drewN q) := fun q => (H0.out.below (below_drewN _ _ q)).mp.look Tryz.underlying52 (zeroPtr _)
  clear hb b0 x0 hW0
  go_enter Tryz.func56, Tryz.ntmps56
  go_wp2_with fail
  rw [show w.alloc (.cells #[.string oT, .string oU] 31) = W0 from HW.out.symm]
  go_wp2_with fail
  go_quiet (fail)
  go_wp2_with fail
  go_ret2
  exact ⟨rfl, B0.out.trans ((below_drewN _ _ _).mono B0.out.size)⟩
theorem isTime0 (w : World) : Calls Tryz.prog 57 #[.int .i64 0] w fun e w' => e = .returned (.bool true) ∧ w' = w := by
  go_enter Tryz.func57, Tryz.ntmps57
  go_wp2_with fail
  go_ret
  exact ⟨rfl, rfl⟩
set_option maxHeartbeats 2000000 in
theorem findAt_ok {w : World} {B g mb n r : Nat} (hb : BookAt w B g mb n (some r)) : Calls Tryz.prog 31 #[.pointer (some ⟨g, 0, none⟩), .agg #[.string oT, .string oU], .int .i64 0] w fun e w' => e = .returned (.tuple #[.pointer (some ⟨r, 0, none⟩), .int .i64 0]) ∧ Below w.heap.size w w' := by
  obtain ⟨W0, hW0⟩ : ∃ W0, W0 = w.alloc (.cells #[.string oT, .string oU] 31) := ⟨_, rfl⟩
  have b0 : Below w.heap.size w W0 := by rw [hW0]; exact (Below.refl _ w).alloc (Nat.le_refl _) _
  have x0 : W0.heap[w.heap.size]? = some (.cells #[.string oT, .string oU] 31 (0, 0)) := by rw [hW0]; exact heap_alloc_new w _
  have HF := hid (find_ok (hb.below b0))
  have B0 := hid b0
  have HW := hid hW0
  have y0 : W0.cell? ⟨w.heap.size, 0, none⟩ = some (.string oT) := cell_of_row _ _ 0 _ _ _ x0
  have y1 : W0.cell? ⟨w.heap.size, 1, none⟩ = some (.string oU) := cell_of_row _ _ 1 _ _ _ x0
  clear hb b0 x0 hW0
  go_enter Tryz.func31, Tryz.ntmps31
  go_wp2_with fail
  rw [show w.alloc (.cells #[.string oT, .string oU] 31) = W0 from HW.out.symm]
  go_wp2_with (first
    | (go_at_call 56; refine HF.out.mono ?_; rintro _ w1 ⟨rfl, b1⟩; have B1 := hid (Below.on' B0.out b1); clear b1)
    | (go_at_call 57; refine (isTime0 w1).mono ?_; rintro _ w9 ⟨rfl, e9⟩; subst w9))
  go_ret2
  exact ⟨rfl, B1.out⟩
set_option maxHeartbeats 2000000 in
theorem ctake_ok {w : World} {r : Nat} {h : List UInt8} (hr : RecAt w r 0 0 h) : Calls Tryz.prog 32 #[.pointer (some ⟨r, 0, none⟩), .int .i64 0] w fun e w' => e = .returned (.int .i64 0) ∧ w' = w.setCell ⟨r, 0, none⟩ (.int .i64 1) := by
  have c0 := hr.c0
  have c1 := hr.c1
  have f0 := hr.fz 0
  simp only [Int.natCast_zero] at c0 c1
  clear hr
  go_enter Tryz.func32, Tryz.ntmps32
  go_wp2_with fail
  go_ret
  exact ⟨rfl, rfl⟩
theorem cset_ok {w : World} {r : Nat} {h : List UInt8} {tr un : Nat} (hr : RecAt w r tr un h) (now : Int) : Calls Tryz.prog 34 #[.pointer (some ⟨r, 0, none⟩), .bool true, .int .i64 now] w fun e w' => e = .returned (.int .i64 0) ∧ w' = (w.setCell ⟨r, 0, none⟩ (.int .i64 0)).setCell ⟨r, 1, none⟩ (.int .i64 0) := by
  have c0 := hr.c0
  have c1 := hr.c1
  have f0 := hr.fz 0
  have f1 := hr.fz 1
  clear hr
  go_enter Tryz.func34, Tryz.ntmps34
  go_wp2_with fail
  go_ret
  exact ⟨rfl, rfl⟩
theorem mp_other {w w' : World} {B g mb n r : Nat} (hb : BookAt w B g mb n (some r)) (h : ∀ k, k ≠ r → w'.heap[k]? = w.heap[k]?) (hg : g ≠ r) (hm : mb ≠ r) : BookAt w' B g mb n (some r) :=
  ⟨(h g hg).trans hb.obj, hb.mp.keep (h mb hm), hb.bg, hb.bm⟩
theorem apart_rec {w : World} {B g mb n r tr un : Nat} {h : List UInt8} (hb : BookAt w B g mb n (some r)) (hr : RecAt w r tr un h) : g ≠ r ∧ mb ≠ r := by
  refine ⟨fun e => ?_, fun e => ?_⟩
  · subst e
    have h1 := hb.obj
    rw [hr] at h1
    injection h1 with h1
    injection h1 with h1
    exact absurd (congrArg Array.size h1) (by unfold recC; simp)
  · subst e
    obtain ⟨es, ck, h1⟩ := hb.mp.isMap
    rw [hr] at h1
    cases h1
set_option maxHeartbeats 2000000 in
theorem try_ok {w : World} {B g mb n r : Nat} {h : List UInt8} (hb : BookAt w B g mb n (some r)) (hr : RecAt w r 0 0 h) (hB : B ≤ w.heap.size) (hBr : B ≤ r) : Calls Tryz.prog 14 #[.pointer (some ⟨g, 0, none⟩), .agg #[.string oT, .string oU], .int .i64 0] w fun e w' => e = .returned (.int .i64 0) ∧ BookAt w' B g mb n (some r) ∧ RecAt w' r 1 0 h ∧ Below B w w' := by
  obtain ⟨W0, hW0⟩ : ∃ W0, W0 = w.alloc (.cells #[.string oT, .string oU] 31) := ⟨_, rfl⟩
  have b0 : Below w.heap.size w W0 := by rw [hW0]; exact (Below.refl _ w).alloc (Nat.le_refl _) _
  have x0 : W0.heap[w.heap.size]? = some (.cells #[.string oT, .string oU] 31 (0, 0)) := by rw [hW0]; exact heap_alloc_new w _
  have HF := hid (findAt_ok (hb.below b0))
  have B0 := hid b0
  have Hb := hid hb
  have Hr := hid hr
  have HW := hid hW0
  have y0 : W0.cell? ⟨w.heap.size, 0, none⟩ = some (.string oT) := cell_of_row _ _ 0 _ _ _ x0
  have y1 : W0.cell? ⟨w.heap.size, 1, none⟩ = some (.string oU) := cell_of_row _ _ 1 _ _ _ x0
  clear hb b0 x0 hW0 hr
  go_enter Tryz.func14, Tryz.ntmps14
  go_wp2_with fail
  rw [show w.alloc (.cells #[.string oT, .string oU] 31) = W0 from HW.out.symm]
  go_wp2_with (first
    | (go_at_call 31; refine HF.out.mono ?_; rintro _ w1 ⟨rfl, b1⟩; have B1 := hid (Below.on' B0.out b1); clear b1)
    | (go_at_call 32; refine (ctake_ok (Hr.out.below B1.out)).mono ?_; rintro _ w9 ⟨rfl, e9⟩; have E9 := hid e9; clear e9))
  go_ret
  have r1 := Hr.out.below B1.out
  have h1 := Hb.out.below B1.out
  obtain ⟨a1, a2⟩ := apart_rec h1 r1
  rw [E9.out]
  refine ⟨rfl, mp_other h1 (fun k hk => heap_setCell_other _ _ _ _ hk) a1 a2, r1.set1 1, (B1.out.mono hB).setCell hBr _⟩
end Go.Proofs.YtomhcccjeadefaaGreatDoor
