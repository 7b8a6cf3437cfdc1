/- YtlkbojgemcjilaaGreatDoorUP3 + YtlkbojgemcjilaaGreatDoorUP4 + YtlkbojgemcjilaaGreatDoorUPRow -/
import Derived.Test.YtlkbojgemcjilaaGreatDoorUP2
import Derived.Test.YtlkbojgemcjilaaGreatDoorUL2
import Derived.Test.YtlkbojgemcjilaaGreatDoorGRR
/- GrantPlays: what its loop keeps: both stores, and forks of both. -/
namespace Go.Proofs.YtlkbojgemcjilaaGreatDoor
open Go.RowKit Go.Maps Go.Shelf Go.Sort Go.Lib
set_option linter.unusedVariables false
set_option maxRecDepth 20000
section
variable {K : Nat → Prop} {w w' : World} {B g gr c d : Nat} {s r : GS} {X Y : Nat → Prop}
theorem GP.same (h : GP w B g s c d Y) (hb : Below B w w') (hs : ∀ k, Y k → w'.heap[k]? = w.heap[k]?) : GP w' B g s c d Y :=
  h.outJ (P := fun k => ¬ Y k) ⟨hb.os, hb.tape, hb.output, hb.size, fun k hk hn => hs k (Classical.not_not.1 hn)⟩ (fun k hk hn => hn hk)
theorem own_kpu {n sz : Nat} {e : TypeId} {v : Value} {xs : List Value} (h : w.ownsRow B e sz v n xs) (k : KpU K w w') (h1 : e ≠ 49) (h2 : e ≠ 66) (h3 : e ≠ 53) : w'.ownsRow B e sz v n xs := by
  refine ⟨h.1, ?_⟩
  rcases h.2 with h0 | ⟨g, cap, cur, e1, hb, hg, rest⟩
  · exact .inl h0
  · exact .inr ⟨g, cap, cur, e1, hb, k.1 _ _ _ hg h1 h2 h3, rest⟩
theorem RG.kpu (h : RG w B g s) (k : KpU K w w') (hg : K g) : RG w' B g s := by
  obtain ⟨cv, av, h⟩ := h
  exact ⟨cv, av, (k.2 g hg h.lt).trans h.obj, own_kpu h.cs k (by decide) (by decide) (by decide), own_kpu h.al k (by decide) (by decide) (by decide), h.bg⟩
end
/-- both stores, and forks of both -/
def PLY (w0 wr : World) (g gr g2 h2 : Nat) (T F : GS) (k c2 : Nat) : Prop := ∃ K Y, PR K wr w0.heap.size g gr T T k k ∧ GP wr w0.heap.size g2 F c2 c2 Y ∧ RG wr w0.heap.size h2 F ∧ (∀ j, K j ↔ Y j ∨ j = h2) ∧ Below w0.heap.size w0 wr
section
variable {w0 wr w' : World} {g gr g2 h2 k c2 : Nat} {T F T' : GS}
theorem PLY.below (h : PLY w0 wr g gr g2 h2 T F k c2) (hb : Below wr.heap.size wr w') : PLY w0 w' g gr g2 h2 T F k c2 := by
  obtain ⟨K, Y, q1, q2, q3, q4, q5⟩ := h
  exact ⟨K, Y, q1.below hb, q2.below hb, q3.below hb, q4, Below.on' q5 hb⟩
theorem PLY.be (h : PLY w0 wr g gr g2 h2 T F k c2) : Below w0.heap.size w0 wr := by
  obtain ⟨K, Y, q1, q2, q3, q4, q5⟩ := h
  exact q5
theorem PLY.ok (h : PLY w0 wr g gr g2 h2 T F k c2) : T.Ok := by
  obtain ⟨K, Y, q1, _⟩ := h
  exact q1.ok
theorem PLY.ok2 (h : PLY w0 wr g gr g2 h2 T F k c2) : F.Ok := by
  obtain ⟨K, Y, _, q2, _⟩ := h
  exact q2.ok
theorem PLY.len (h : PLY w0 wr g gr g2 h2 T F k c2) : T.cs.length + T.al.length ≤ 2 * k := by
  obtain ⟨K, Y, q1, _⟩ := h
  have := q1.cl
  have := q1.al
  omega
theorem PLY.len2 (h : PLY w0 wr g gr g2 h2 T F k c2) : F.cs.length + F.al.length ≤ 2 * c2 := by
  obtain ⟨K, Y, _, q2, _⟩ := h
  have := q2.cl
  have := q2.al
  omega
theorem PLY.did (h : PLY w0 wr g gr g2 h2 T F k c2) (hk : k ≤ 100000) (x : GDeed) (hx : x.Ok) :
    Calls Tryz.prog 11 #[.pointer (some ⟨g, 0, none⟩), .pointer (some ⟨gr, 0, none⟩), .agg (gdC x)] wr fun e w' => e = .returned (.bool true) ∧ PLY w0 w' g gr g2 h2 (stepG T x) F (k + 1) c2 := by
  obtain ⟨K, Y, q1, q2, q3, q4, q5⟩ := h
  refine (doG_any q1 hk (by omega) x hx).mono ?_
  rintro e w' ⟨rfl, p1, p2, p3⟩
  refine ⟨rfl, K, Y, p1, q2.same p3 (fun j hj => p2.2 j ((q4 j).2 (.inl hj)) (q2.lt j hj)), q3.kpu p2 ((q4 h2).2 (.inr rfl)), q4, q5.trans p3⟩
theorem PLY.asked (h : PLY w0 wr g gr g2 h2 T F k c2) (hk : k ≤ 100000) (x : GDeed) (hx : x.Ok) :
    Calls Tryz.prog 12 #[.pointer (some ⟨g, 0, none⟩), .pointer (some ⟨gr, 0, none⟩), .agg (gdC x)] wr fun e w' => e = .returned (.bool true) ∧ PLY w0 w' g gr g2 h2 T F k c2 := by
  have h0 := h
  obtain ⟨K, Y, q1, q2, q3, q4, q5⟩ := h
  refine (sameG_any q1 hk hk x hx).mono ?_
  rintro e w' ⟨rfl, hb⟩
  exact ⟨rfl, h0.below hb⟩
/-- a half: the program's store is forked, the reference's not yet -/
def PLH (w0 wr : World) (g gr g2 : Nat) (T : GS) (k : Nat) : Prop := ∃ X Y, GP wr w0.heap.size g T k k X ∧ GP wr w0.heap.size g2 T k k Y ∧ RG wr w0.heap.size gr T ∧ (∀ j, X j → ¬ Y j) ∧ ¬ Y gr ∧ Below w0.heap.size w0 wr
/-- both stores alone -/
def PL0 (w0 wr : World) (g gr : Nat) (T : GS) (k : Nat) : Prop := ∃ X, GP wr w0.heap.size g T k k X ∧ RG wr w0.heap.size gr T ∧ Below w0.heap.size w0 wr
theorem PLY.pl0 (h : PLY w0 wr g gr g2 h2 T F k c2) : PL0 w0 wr g gr T k := by
  obtain ⟨K, Y, q1, q2, q3, q4, q5⟩ := h
  obtain ⟨⟨X, p1, _⟩, p2, _⟩ := q1
  exact ⟨X, p1, p2, q5⟩
theorem PL0.fork (h : PL0 w0 wr g gr T k) (hk : k ≤ 100000) : Calls Tryz.prog 9 #[.pointer (some ⟨g, 0, none⟩)] wr fun e w' => ∃ g2, e = .returned (.pointer (some ⟨g2, 0, none⟩)) ∧ PLH w0 w' g gr g2 T k := by
  obtain ⟨X, p1, p2, p3⟩ := h
  refine (gFork_any p1 hk).mono ?_
  rintro _ w' ⟨g2, Y, rfl, hb, hY, hge⟩
  refine ⟨g2, rfl, X, Y, p1.below hb, hY, p2.below hb, fun j hx hy => ?_, fun hy => ?_, Below.on' p3 hb⟩
  · have h1 := p1.lt j hx
    have h2 := hge j hy
    omega
  · obtain ⟨_, _, q⟩ := p2
    have h1 := q.lt
    have h2 := hge gr hy
    omega
theorem PLH.fork (h : PLH w0 wr g gr g2 T k) : Calls Tryz.prog 10 #[.pointer (some ⟨gr, 0, none⟩)] wr fun e w' => ∃ h2, e = .returned (.pointer (some ⟨h2, 0, none⟩)) ∧ PLY w0 w' g gr g2 h2 T T k k := by
  obtain ⟨X, Y, p1, p2, p3, p4, p5, p6⟩ := h
  refine (rFork_any p3 p1.base).mono ?_
  rintro _ w' ⟨h2, rfl, hb, hR, hge, hlt⟩
  refine ⟨h2, rfl, fun j => Y j ∨ j = h2, Y, ⟨⟨X, p1.below hb, ?_⟩, p3.below hb, ?_, ?_⟩, p2.below hb, hR, fun j => Iff.rfl, Below.on' p6 hb⟩
  · rintro j (hy | rfl) hx
    · exact p4 j hx hy
    · have := p1.lt j hx
      omega
  · rintro j (hy | rfl)
    · exact Nat.lt_of_lt_of_le (p2.lt j hy) hb.size
    · exact hlt
  · rintro (hy | e)
    · exact p5 hy
    · obtain ⟨_, _, q⟩ := p3
      have := q.lt
      omega
theorem PLY.rowsS (h : PLY w0 wr g gr g2 h2 T F k c2) (hk : k ≤ 400) (hT : TabAt wr) : Calls Tryz.prog 14 #[.pointer (some ⟨g, 0, none⟩)] wr (Xr.PRowsG wr T) := by
  obtain ⟨X, p1, _⟩ := h.pl0
  exact gRows_any p1 hk hT
theorem PLY.rowsG (h : PLY w0 wr g gr g2 h2 T F k c2) (hk : c2 ≤ 400) (hT : TabAt wr) : Calls Tryz.prog 14 #[.pointer (some ⟨g2, 0, none⟩)] wr (Xr.PRowsG wr F) := by
  obtain ⟨K, Y, q1, q2, _⟩ := h
  exact gRows_any q2 hk hT
theorem PLY.rowsR (h : PLY w0 wr g gr g2 h2 T F k c2) (hk : k ≤ 400) : Calls Tryz.prog 15 #[.pointer (some ⟨gr, 0, none⟩)] wr (Xr.PRowsG wr T) := by
  obtain ⟨K, Y, q1, _⟩ := h
  exact Xr.rRowsG_any q1.rg q1.ok (by have := q1.cl; omega) (by have := q1.al; omega)
theorem PLY.rowsH (h : PLY w0 wr g gr g2 h2 T F k c2) (hk : c2 ≤ 400) : Calls Tryz.prog 15 #[.pointer (some ⟨h2, 0, none⟩)] wr (Xr.PRowsG wr F) := by
  obtain ⟨K, Y, q1, q2, q3, _⟩ := h
  exact Xr.rRowsG_any q3 q2.ok (by have := q2.cl; omega) (by have := q2.al; omega)
theorem pl0_start {w1 w2 w3 : World} {X : Nat → Prop} (b1 : Below w0.heap.size w0 w1) (h1 : GP w1 w0.heap.size g s0U 0 0 X) (b2 : Below w1.heap.size w1 w2) (h2 : RG w2 w1.heap.size gr s0U) (b3 : Below w2.heap.size w2 w3) : PL0 w0 w3 g gr s0U 0 :=
  ⟨X, (h1.below b2).below b3, (h2.mono b1.size).below b3, Below.on' (Below.on' b1 b2) b3⟩
end
end Go.Proofs.YtlkbojgemcjilaaGreatDoor

/- GrantPlays walked. -/
namespace Go.Proofs.YtlkbojgemcjilaaGreatDoor
open Go.RowKit Go.Maps Go.Shelf Go.Sort Go.Lib
set_option linter.unusedVariables false
set_option maxRecDepth 20000
set_option maxHeartbeats 16000000 in
theorem grantPlays_walk (W : World) (hT : TabAt W) {a : Option Addr} {l : List GDeed} (hl : GDs W a l) (cap : Nat) :
    Calls Tryz.prog 3 #[.slice a l.length cap] W fun e w' => e = .returned (.bool true) ∧ Below W.heap.size W w' := by
  have Hl := hid hl
  have hN2 : l.length ≤ 9223372036854775807 := by simpa [maxLen] using hl.length
  have HN := hid (gNew_any W W.heap.size (Nat.le_refl _))
  have HR := hid rNew13_any
  have HLv := hid liveG_any
  have HT := hid hT
  have HSt := hid (fun (w1 w2 w3 : World) (g gr : Nat) (X : Nat → Prop) => @pl0_start W g gr w1 w2 w3 X)
  have HF1 := hid (fun (V : World) (g gr : Nat) (T : GS) (k : Nat) (h : PL0 W V g gr T k) (hk : k ≤ 100000) => h.fork hk)
  have HF2 := hid (fun (V : World) (g gr g2 : Nat) (T : GS) (k : Nat) (h : PLH W V g gr g2 T k) => h.fork)
  clear hl hT
  generalize hN : l.length = N at *
  have HLen := hid hN
  clear hN
  go_enter Tryz.func3, Tryz.ntmps3
  go_wp2_with (first
    | (go_at_call 6; refine HN.out.mono ?_; rintro _ w1 ⟨g, X1, rfl, b1, g1, _⟩; have B1 := hid b1; have G1 := hid g1; clear b1 g1 HN)
    | (go_at_call 7; refine (HR.out _).mono ?_; rintro _ w2 ⟨gr, rfl, hR2, hb2⟩; have H2 := hid hR2; have B2 := hid hb2; clear hR2 hb2 HR)
    | (go_at_call 8; refine (HLv.out _).mono ?_; rintro _ w3 ⟨rfl, hb3⟩; have H3 := hid (HSt.out _ _ w3 _ _ _ B1.out G1.out B2.out H2.out hb3); clear hb3 HLv G1 H2 B1 B2 HSt)
    | (go_at_call 9; refine (HF1.out _ _ _ _ _ H3.out (by omega)).mono ?_; rintro _ w4 ⟨g20, rfl, hh4⟩; have H4 := hid hh4; clear hh4 H3)
    | (go_at_call 10; refine (HF2.out _ _ _ _ _ _ H4.out).mono ?_; rintro _ w5 ⟨h20, rfl, hh5⟩; have H5 := hid hh5; clear hh5 H4))
  go_loopw [5, 6, 7] (fun v5 v6 i wr => ∃ (k g2 h2 : Nat) (T F : GS) (c2 : Nat), k ≤ N ∧ k ≤ 80 ∧ c2 ≤ 80 ∧ i = .int .i64 (k : Int) ∧ v5 = .pointer (some ⟨g2, 0, none⟩) ∧ v6 = .pointer (some ⟨h2, 0, none⟩) ∧ PLY W wr g gr g2 h2 T F k c2) (fun _ _ i _ => N - (intOf i).toNat)
  case atStart => exact ⟨0, _, _, _, _, 0, Nat.zero_le _, Nat.zero_le _, Nat.zero_le _, rfl, rfl, rfl, H5.out⟩
  case round =>
    obtain ⟨k, g2, h2, T, F, c2, hk, hk8, hc8, rfl, rfl, rfl, hD⟩ := hrel
    have HD := hid hD
    clear hD
    have hstop : (k < N ∧ k < 80) ∨ (¬ k < N) ∨ (k < N ∧ k = 80) := by omega
    rcases hstop with ⟨hlt, h8⟩ | hstop
    · have g1 : decide ((k : Int) < (N : Int)) = true := by simpa using hlt
      have g3 : decide ((k : Int) < 80) = true := by simp; omega
      have Hg : Hid (l[k]? = some (l[k]'(by rw [HLen.out]; exact hlt))) := List.getElem?_eq_getElem _
      generalize l[k]'(by rw [HLen.out]; exact hlt) = y at *
      obtain ⟨b, off, ea, _, _, _, _, _, _, hok⟩ := Hl.out.at HD.out.be Hg.out
      cases ea
      have HC := hid (fun (V : World) (hV : Below W.heap.size W V) => (show V.cell? ⟨b, off + k * 6, none⟩ = some (.int .i64 y.kind) ∧ V.cell? ⟨b, off + k * 6 + 1, none⟩ = some (.string y.t) ∧ V.cell? ⟨b, off + k * 6 + 2, none⟩ = some (.string y.u) ∧ V.cell? ⟨b, off + k * 6 + 3, none⟩ = some (.string y.n) ∧ V.cell? ⟨b, off + k * 6 + 4, none⟩ = some (.string y.r) ∧ V.cell? ⟨b, off + k * 6 + 5, none⟩ = some (.int .u8 (y.sc : Int)) from by
        obtain ⟨b', o', e, c0, c1, c2, c3, c4, c5, _⟩ := Hl.out.at hV Hg.out
        cases e
        exact ⟨c0, c1, c2, c3, c4, c5⟩))
      have HDo := hid (fun (V : World) (g2 h2 : Nat) (F : GS) (c2 : Nat) (hV : PLY W V g gr g2 h2 T F k c2) => hV.did (by omega) y hok)
      have HSm := hid (fun (V : World) (g2 h2 : Nat) (F : GS) (c2 : Nat) (hV : PLY W V g gr g2 h2 (stepG T y) F (k + 1) c2) => hV.asked (by omega) y hok)
      unfold gdC at HDo HSm
      clear hok
      by_cases hq : k = N / 2
      · have g4 : ((k : Int) == (N : Int) / 2) = true := by simp; omega
        clear hq
        go_wp2_with (first
          | (go_at_call 9; refine (HF1.out _ _ _ _ _ HD.out.pl0 (by omega)).mono ?_; rintro _ w4 ⟨g30, rfl, hh4⟩; have H4 := hid hh4; clear hh4 HD)
          | (go_at_call 10; refine (HF2.out _ _ _ _ _ _ H4.out).mono ?_; rintro _ w5 ⟨h30, rfl, hh5⟩; have H5 := hid hh5; obtain ⟨c0, c1, c2', c3, c4, c5⟩ := HC.out _ hh5.be; clear hh5 H4)
          | (go_at_call 11; refine (HDo.out _ _ _ _ _ H5.out).mono ?_; rintro _ w6 ⟨rfl, q6⟩; have H6 := hid q6; clear c0 c1 c2' c3 c4 c5; obtain ⟨c0, c1, c2', c3, c4, c5⟩ := HC.out _ q6.be; clear q6 H5)
          | (go_at_call 12; refine (HSm.out _ _ _ _ _ H6.out).mono ?_; rintro _ w7 ⟨rfl, q7⟩; have H7 := hid q7; clear q7 H6))
        go_roundw
        case rel => exact ⟨k + 1, _, _, _, _, k, by omega, by omega, by omega, by go_num, rfl, rfl, H7.out⟩
        case measure => exact measG hlt
      · have g4 : ((k : Int) == (N : Int) / 2) = false := by simp; omega
        clear hq
        obtain ⟨c0, c1, c2', c3, c4, c5⟩ := HC.out _ HD.out.be
        go_wp2_with (first
          | (go_at_call 11; refine (HDo.out _ _ _ _ _ HD.out).mono ?_; rintro _ w6 ⟨rfl, q6⟩; have H6 := hid q6; clear c0 c1 c2' c3 c4 c5; obtain ⟨c0, c1, c2', c3, c4, c5⟩ := HC.out _ q6.be; clear q6 HD)
          | (go_at_call 12; refine (HSm.out _ _ _ _ _ H6.out).mono ?_; rintro _ w7 ⟨rfl, q7⟩; have H7 := hid q7; clear q7 H6))
        go_roundw
        case rel => exact ⟨k + 1, _, _, _, _, c2, by omega, by omega, by omega, by go_num, rfl, rfl, H7.out⟩
        case measure => exact measG hlt
    · -- the end
      have hkc : Hid (k ≤ 80 ∧ c2 ≤ 80) := ⟨hk8, hc8⟩
      have HR1 := hid (fun (V : World) (hV : PLY W V g gr g2 h2 T F k c2) => hV.rowsS (by have := hkc.out; omega) (HT.out.belowJ hV.be))
      have HR2 := hid (fun (V : World) (hV : PLY W V g gr g2 h2 T F k c2) => hV.rowsR (by have := hkc.out; omega))
      have HR3 := hid (fun (V : World) (hV : PLY W V g gr g2 h2 T F k c2) => hV.rowsG (by have := hkc.out; omega) (HT.out.belowJ hV.be))
      have HR4 := hid (fun (V : World) (hV : PLY W V g gr g2 h2 T F k c2) => hV.rowsH (by have := hkc.out; omega))
      clear hc8
      rcases hstop with h1 | ⟨h1, h2'⟩
      · have g1 : decide ((k : Int) < (N : Int)) = false := by simpa using h1
        clear hk hk8
        go_wp2_with (first
          | (go_at_call 14; refine (HR1.out _ HD.out).mono ?_; rintro _ w9 ⟨v1, rs1, m1, rfl, o1, i1, p1, q1, b9⟩; have D9 := hid (HD.out.below b9); have O1 := hid o1; have I1 := hid i1; have P1 := hid (And.intro p1 q1); clear o1 i1 p1 q1 b9 HD HR1)
          | (go_at_call 15; refine (HR2.out _ D9.out).mono ?_; rintro _ w10 ⟨v2, rs2, m2, rfl, o2, i2, p2, q2, b10⟩; have D10 := hid (D9.out.below b10); have HSame := hid (less_same D9.out.ok (by have := hkc.out; omega) D9.out.len b10 O1.out I1.out P1.out.1 P1.out.2 o2 i2 p2 q2); clear o2 i2 p2 q2 b10 D9 O1 I1 P1 HR2)
          | (go_at_call 13; refine HSame.out.mono ?_; rintro _ w11 ⟨rfl, b11⟩; have D11 := hid (D10.out.below b11); clear b11 HSame D10)
          | (go_at_call 14; refine (HR3.out _ D11.out).mono ?_; rintro _ w12 ⟨v3, rs3, m3, rfl, o1, i1, p1, q1, b12⟩; have D12 := hid (D11.out.below b12); have O3 := hid o1; have I3 := hid i1; have P3 := hid (And.intro p1 q1); clear o1 i1 p1 q1 b12 D11 HR3)
          | (go_at_call 15; refine (HR4.out _ D12.out).mono ?_; rintro _ w13 ⟨v4, rs4, m4, rfl, o2, i2, p2, q2, b13⟩; have D13 := hid (D12.out.below b13); have HSame2 := hid (less_same D12.out.ok2 (by have := hkc.out; omega) D12.out.len2 b13 O3.out I3.out P3.out.1 P3.out.2 o2 i2 p2 q2); clear o2 i2 p2 q2 b13 D12 O3 I3 P3 HR4)
          | (go_at_call 13; refine HSame2.out.mono ?_; rintro _ w14 ⟨rfl, b14⟩; have D14 := hid (D13.out.below b14); clear b14 HSame2 D13))
        go_ret
        exact ⟨rfl, D14.out.be⟩
      · subst h2'
        have g1 : decide (((80 : Nat) : Int) < (N : Int)) = true := by simp; omega
        have g3 : decide (((80 : Nat) : Int) < 80) = false := by decide
        go_wp2_with (first
          | (go_at_call 14; refine (HR1.out _ HD.out).mono ?_; rintro _ w9 ⟨v1, rs1, m1, rfl, o1, i1, p1, q1, b9⟩; have D9 := hid (HD.out.below b9); have O1 := hid o1; have I1 := hid i1; have P1 := hid (And.intro p1 q1); clear o1 i1 p1 q1 b9 HD HR1)
          | (go_at_call 15; refine (HR2.out _ D9.out).mono ?_; rintro _ w10 ⟨v2, rs2, m2, rfl, o2, i2, p2, q2, b10⟩; have D10 := hid (D9.out.below b10); have HSame := hid (less_same D9.out.ok (by have := hkc.out; omega) D9.out.len b10 O1.out I1.out P1.out.1 P1.out.2 o2 i2 p2 q2); clear o2 i2 p2 q2 b10 D9 O1 I1 P1 HR2)
          | (go_at_call 13; refine HSame.out.mono ?_; rintro _ w11 ⟨rfl, b11⟩; have D11 := hid (D10.out.below b11); clear b11 HSame D10)
          | (go_at_call 14; refine (HR3.out _ D11.out).mono ?_; rintro _ w12 ⟨v3, rs3, m3, rfl, o1, i1, p1, q1, b12⟩; have D12 := hid (D11.out.below b12); have O3 := hid o1; have I3 := hid i1; have P3 := hid (And.intro p1 q1); clear o1 i1 p1 q1 b12 D11 HR3)
          | (go_at_call 15; refine (HR4.out _ D12.out).mono ?_; rintro _ w13 ⟨v4, rs4, m4, rfl, o2, i2, p2, q2, b13⟩; have D13 := hid (D12.out.below b13); have HSame2 := hid (less_same D12.out.ok2 (by have := hkc.out; omega) D12.out.len2 b13 O3.out I3.out P3.out.1 P3.out.2 o2 i2 p2 q2); clear o2 i2 p2 q2 b13 D12 O3 I3 P3 HR4)
          | (go_at_call 13; refine HSame2.out.mono ?_; rintro _ w14 ⟨rfl, b14⟩; have D14 := hid (D13.out.below b14); clear b14 HSame2 D13))
        go_ret
        exact ⟨rfl, D14.out.be⟩
end Go.Proofs.YtlkbojgemcjilaaGreatDoor

/- GrantPlays, as its row asks. -/
namespace Go.Proofs.YtlkbojgemcjilaaGreatDoor
open Go.RowKit
theorem grantPlays_row {W : World} (l : List GDeed) (a : Option Addr) (cap : Nat) (hl : GDs W a l) (hT : TabAt W) :
    Calls Tryz.prog 3 #[.slice a l.length cap] W fun e w' => e = .returned (.bool true) ∧ Below W.heap.size W w' := grantPlays_walk W hT hl cap
end Go.Proofs.YtlkbojgemcjilaaGreatDoor
