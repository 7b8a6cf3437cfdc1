/- GrantLoads walked. -/
import Derived.Test.YtlkbojgemcjilaaGreatDoorGRL2
import Derived.Test.YtlkbojgemcjilaaGreatDoorGLd6
import Derived.Test.YtlkbojgemcjilaaGreatDoorGSI
import Derived.Test.YtlkbojgemcjilaaGreatDoorGRR
import Derived.Test.YtlkbojgemcjilaaGreatDoorUL2
namespace Go.Proofs.YtlkbojgemcjilaaGreatDoor
open Go.RowKit Go.Maps Go.Shelf Go.Sort Go.Lib Xr
set_option linter.unusedVariables false
set_option maxRecDepth 20000
/-- both stores -/
structure GLo (w0 wr : World) (g gr c d : Nat) (T : GS) : Prop where
  pr : PR NoK wr w0.heap.size g gr T T c d
  be : Below w0.heap.size w0 wr
theorem GLo.below {w0 wr w' : World} {g gr c d : Nat} {T : GS} (h : GLo w0 wr g gr c d T) (hb : Below wr.heap.size wr w') : GLo w0 w' g gr c d T := ⟨h.pr.below hb, Below.on' h.be hb⟩
theorem GLo.told {w0 wr w' : World} {g gr c d c' d' : Nat} {T T' : GS} {v : Value} {e : Ending} (h : GLo w0 wr g gr c d T) (t : Told NoK wr w0.heap.size g gr v T' T' c' d' e w') : GLo w0 w' g gr c' d' T' := ⟨t.2.1, h.be.trans t.2.2.2⟩
theorem GLo.rows {w0 wr : World} {g gr c d : Nat} {T : GS} (h : GLo w0 wr g gr c d T) (hc : c ≤ 400) (hd : d ≤ 900000) (hT : TabAt wr) : Calls Tryz.prog 14 #[.pointer (some ⟨g, 0, none⟩)] wr (PRowsG wr T) := by
  obtain ⟨X, h1, _⟩ := h.pr.gp
  exact gRows2_any h1 hc (by have := h1.al; omega) hT
theorem GLo.rrows {w0 wr : World} {g gr c d : Nat} {T : GS} (h : GLo w0 wr g gr c d T) (hc : c ≤ 400) (hd : d ≤ 900000) : Calls Tryz.prog 15 #[.pointer (some ⟨gr, 0, none⟩)] wr (PRowsG wr T) :=
  rRowsG_any h.pr.rg h.pr.ok (by have := h.pr.cl; omega) (by have := h.pr.al; omega)
theorem glo_start {w0 w1 w2 : World} {g gr n : Nat} {s : GS} {X : Nat → Prop} (b1 : Below w0.heap.size w0 w1) (h1 : GP w1 w0.heap.size g s 16 n X) (b2 : Below w1.heap.size w1 w2) (h2 : RG w2 w1.heap.size gr s) : GLo w0 w2 g gr 16 n s :=
  ⟨⟨⟨X, h1.below b2, fun k hk => hk.elim⟩, h2.mono b1.size, fun k hk => hk.elim, fun hk => hk⟩, Below.on' b1 b2⟩
theorem load_cols {m : List Rw} {s : GS} (h : loadP m = some s) : ∀ x ∈ m, x.cols.length ≤ 1000 := fun x hx => mOfG_cols x ((load_rows h).1.mem_iff.1 hx)
set_option maxHeartbeats 16000000 in
theorem grantLoads_walk (W : World) (hT : TabAt W) (m : List Rw) (a1 : Option Addr) (c1 : Nat) (hin : RIn W a1 m) (hs : SmallG m) (h3 : m.length ≤ 349525) {a2 : Option Addr} {l : List GDeed} (hl : GDs W a2 l) (c2 : Nat) :
    Calls Tryz.prog 4 #[.slice a1 m.length c1, .slice a2 l.length c2] W fun e w' => e = .returned (.bool true) ∧ Below W.heap.size W w' := by
  have Hl := hid hl
  have hN2 : l.length ≤ 9223372036854775807 := by simpa [maxLen] using hl.length
  have HT := hid hT
  have HLv := hid liveG_any
  have HIn := hid (fun (V : World) (hV : Below W.heap.size W V) => hin.below hV)
  obtain ⟨N1, hN1⟩ : ∃ N1, N1 = m.length := ⟨_, rfl⟩
  rw [← hN1] at h3 ⊢
  have HL := hid (loadG_any a1 N1 c1 hN1 hin hs)
  have HRL := hid (fun (V : World) (hV : Below W.heap.size W V) => (show Calls Tryz.prog 17 #[.slice a1 N1 c1] V (RLPost V N1 (loadP m)) from by
    rw [← load_same]
    exact rloadG_any a1 N1 c1 hN1 (hin.below hV) hs))
  have HN1 := hid hN1
  generalize hN : l.length = N at *
  have HLen := hid hN
  clear hN hl hT hin hs hN1
  cases hld : loadP m with
  | none =>
    rw [hld] at HL HRL
    clear hld
    go_enter Tryz.func4, Tryz.ntmps4
    go_wp2_with (first
      | (go_at_call 16; refine HL.out.mono ?_; rintro e w1 ⟨b1, h1⟩; have h1 : e = .returned (.tuple #[.pointer none, .int .i64 3]) := h1; subst h1; have B1 := hid b1; clear b1 HL)
      | (go_at_call 17; refine (HRL.out w1 B1.out).mono ?_; rintro e w2 ⟨b2, h2⟩; have h2 : e = .returned (.tuple #[.pointer none, .int .i64 3]) := h2; subst h2; have B2 := hid (Below.on' B1.out b2); clear b2 HRL)
      | (go_at_call 8; refine (HLv.out _).mono ?_; rintro _ w3 ⟨rfl, b3⟩; have B3 := hid (Below.on' B2.out b3); clear b3 HLv))
    go_ret
    exact ⟨rfl, B3.out⟩
  | some s =>
    have Hld := hid hld
    rw [hld] at HL HRL
    clear hld
    go_enter Tryz.func4, Tryz.ntmps4
    go_wp2_with (first
      | (go_at_call 16; refine HL.out.mono ?_; rintro _ w1 ⟨b1, g, X, rfl, t1⟩; have B1 := hid b1; have T1 := hid t1; clear b1 t1 HL)
      | (go_at_call 17; refine (HRL.out w1 B1.out).mono ?_; rintro _ w2 ⟨b2, gr, rfl, r2⟩; have K2 := hid (glo_start B1.out T1.out b2 r2); clear b2 r2 HRL)
      | (go_at_call 8; refine (HLv.out _).mono ?_; rintro _ w3 ⟨rfl, b3⟩; have K3 := hid (K2.out.below b3); clear b3 HLv K2)
      | (go_at_call 14; refine (K3.out.rows (by omega) (by omega) (HT.out.belowJ K3.out.be)).mono ?_; rintro _ w4 ⟨v4, r4, m4, rfl, o4, i4, p4, q4, b4⟩; have K4 := hid (K3.out.below b4); rw [load_rows_same Hld.out K3.out.pr.ok p4 q4] at i4; have HSm := hid (sameRows_in o4 a1 N1 c1 HN1.out (HIn.out w4 K4.out.be) i4 (by have := HN1.out; omega) (load_cols Hld.out)); clear o4 i4 p4 q4 b4 K3)
      | (go_at_call 13; refine HSm.out.mono ?_; rintro _ w5 ⟨rfl, b5⟩; have K5 := hid (K4.out.below b5); clear b5 K4 HSm))
    go_loopw [9] (fun i wr => ∃ (k : Nat) (T : GS), k ≤ N ∧ k ≤ 40 ∧ i = .int .i64 (k : Int) ∧ GLo W wr g gr (16 + k) (N1 + N1 + k) T) (fun i _ => N - (intOf i).toNat)
    case atStart => exact ⟨0, s, Nat.zero_le _, Nat.zero_le _, rfl, K5.out⟩
    case round =>
      obtain ⟨k, T, hk, hk8, rfl, hD⟩ := hrel
      have HD := hid hD
      clear hD
      have hstop : (k < N ∧ k < 40) ∨ (¬ k < N) ∨ (k < N ∧ k = 40) := by omega
      rcases hstop with ⟨hlt, h8⟩ | hstop
      · have g1 : decide ((k : Int) < (N : Int)) = true := by simpa using hlt
        have g3 : decide ((k : Int) < 40) = true := by simp; omega
        have Hg : Hid (l[k]? = some (l[k]'(by rw [HLen.out]; exact hlt))) := List.getElem?_eq_getElem _
        generalize l[k]'(by rw [HLen.out]; exact hlt) = y at *
        obtain ⟨b, off, ea, c0, c1', c2', c3, c4, c5, hok⟩ := Hl.out.at HD.out.be Hg.out
        cases ea
        have Hdo := hid (doG_any HD.out.pr (by omega) (by omega) y hok)
        clear hok
        unfold gdC at Hdo
        go_wp2_with (go_at_call 11; refine Hdo.out.mono ?_; intro e4 w4 ht4; have T4 := hid (HD.out.told ht4); obtain ⟨rfl, _⟩ := ht4)
        go_roundw
        case rel => exact ⟨k + 1, _, by omega, by omega, by go_num, T4.out⟩
        case measure => exact measG hlt
      · have hkc : Hid (k ≤ 40) := hk8
        have HR1 := hid (fun (V : World) (hV : GLo W V g gr (16 + k) (N1 + N1 + k) T) => hV.rows (by have := hkc.out; omega) (by have := hkc.out; omega) (HT.out.belowJ hV.be))
        have HR2 := hid (fun (V : World) (hV : GLo W V g gr (16 + k) (N1 + N1 + k) T) => hV.rrows (by have := hkc.out; omega) (by have := hkc.out; omega))
        have HLe : Hid (T.cs.length + T.al.length ≤ 1000000) := by
          have h1 := HD.out.pr.cl
          have h2 := HD.out.pr.al
          have := hkc.out
          show _ ≤ _
          omega
        rcases hstop with h1 | ⟨h1, h2⟩
        · have g1 : decide ((k : Int) < (N : Int)) = false := by simpa using h1
          clear hk hk8
          go_wp2_with (first
            | (go_at_call 14; refine (HR1.out _ HD.out).mono ?_; rintro _ w9 ⟨v1, rs1, m1, rfl, o1, i1, p1, q1, b9⟩; have D9 := hid (HD.out.below b9); have O1 := hid o1; have I1 := hid i1; have P1 := hid (And.intro p1 q1); clear o1 i1 p1 q1 b9 HD HR1)
            | (go_at_call 15; refine (HR2.out _ D9.out).mono ?_; rintro _ w10 ⟨v2, rs2, m2, rfl, o2, i2, p2, q2, b10⟩; have D10 := hid (D9.out.below b10); have HSame := hid (less_same2 D9.out.pr.ok HLe.out b10 O1.out I1.out P1.out.1 P1.out.2 o2 i2 p2 q2); clear o2 i2 p2 q2 b10 D9 O1 I1 P1 HR2)
            | (go_at_call 13; refine HSame.out.mono ?_; rintro _ w11 ⟨rfl, b11⟩; have D11 := hid (D10.out.below b11); clear b11 HSame D10))
          go_ret
          exact ⟨rfl, D11.out.be⟩
        · subst h2
          have g1 : decide (((40 : Nat) : Int) < (N : Int)) = true := by simp; omega
          have g3 : decide (((40 : Nat) : Int) < 40) = false := by decide
          go_wp2_with (first
            | (go_at_call 14; refine (HR1.out _ HD.out).mono ?_; rintro _ w9 ⟨v1, rs1, m1, rfl, o1, i1, p1, q1, b9⟩; have D9 := hid (HD.out.below b9); have O1 := hid o1; have I1 := hid i1; have P1 := hid (And.intro p1 q1); clear o1 i1 p1 q1 b9 HD HR1)
            | (go_at_call 15; refine (HR2.out _ D9.out).mono ?_; rintro _ w10 ⟨v2, rs2, m2, rfl, o2, i2, p2, q2, b10⟩; have D10 := hid (D9.out.below b10); have HSame := hid (less_same2 D9.out.pr.ok HLe.out b10 O1.out I1.out P1.out.1 P1.out.2 o2 i2 p2 q2); clear o2 i2 p2 q2 b10 D9 O1 I1 P1 HR2)
            | (go_at_call 13; refine HSame.out.mono ?_; rintro _ w11 ⟨rfl, b11⟩; have D11 := hid (D10.out.below b11); clear b11 HSame D10))
          go_ret
          exact ⟨rfl, D11.out.be⟩
end Go.Proofs.YtlkbojgemcjilaaGreatDoor
