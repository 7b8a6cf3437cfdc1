/- Grants: the reference's full. -/
import Derived.Test.YtlkbojgemcjilaaGreatDoorUR3
namespace Go.Proofs.YtlkbojgemcjilaaGreatDoor
open Go.RowKit Go.Maps Go.Shelf Go.Sort Go.Lib
set_option linter.unusedVariables false
set_option maxRecDepth 20000
theorem cnt_filter (l : List Cl) (t : ByteArray) : (l.filter (inT t)).length = cntT (l.map (·.t)) t := by
  unfold cntT
  rw [List.filter_map, List.length_map]
  rfl
theorem dist_snoc (l : List ByteArray) (x : ByteArray) : (dist (l ++ [x])).length = if l.any (fun y => decide (y = x)) = true then (dist l).length else (dist l).length + 1 := by
  rw [dist_perm (List.perm_append_singleton x l), dist_cons]
section
variable {w : World} {B g : Nat} {s : GS}
theorem len_slice {B n sz : Nat} {e : TypeId} {v : Value} {xs : List Value} (h : w.ownsRow B e sz v n xs) : ∃ a c, v = .slice a n c := by
  rcases h.2 with ⟨e, h1⟩ | ⟨g, cap, cur, e, _⟩
  · exact ⟨none, 0, by rw [e, h1]⟩
  · exact ⟨_, cap, e⟩
set_option maxHeartbeats 16000000 in
theorem rfull_any (h : RG w B g s) (hl : s.cs.length ≤ 1000000000000) (t : ByteArray) :
    Calls Tryz.prog 60 #[.pointer (some ⟨g, 0, none⟩), .string t] w fun e w' => e = .returned (.bool (!roomR (s.cs.map (·.t)) t)) ∧ Below w.heap.size w w' := by
  have HC := hid (rClients_any h hl t)
  obtain ⟨K, hK⟩ : ∃ K, K = cntT (s.cs.map (·.t)) t := ⟨_, rfl⟩
  obtain ⟨Q, hQ⟩ : ∃ Q, Q = (dist (s.cs.map (·.t))).length := ⟨_, rfl⟩
  obtain ⟨R, hR⟩ : ∃ R, R = !roomR (s.cs.map (·.t)) t := ⟨_, rfl⟩
  rw [← hR]
  unfold roomR at hR
  rw [← hK, ← hQ] at hR
  have HR := hid hR
  have HK := hid hK
  have HQ := hid hQ
  have hKb : K ≤ 1000000000000 := by
    rw [hK]
    refine Nat.le_trans (cntT_le _ _) ?_
    rw [List.length_map]
    exact hl
  obtain ⟨cv, av, h⟩ := h
  obtain ⟨a, cap, ecv, _⟩ := clAt h.cs
  obtain ⟨m, hm⟩ : ∃ m, m = s.cs.length := ⟨_, rfl⟩
  rw [← hm] at ecv hl
  have Hm := hid hm
  have Hx := hid (fun (V : World) (hV : Below w.heap.size w V) => (show V.cell? ⟨g, 0, none⟩ = some (.slice a m cap) ∧ ∀ i (hi : i < s.cs.length), ∃ b, a = some ⟨b, 0, none⟩ ∧ V.cell? ⟨b, i * 4, none⟩ = some (.string s.cs[i].t) from by
    refine ⟨by rw [← ecv]; exact (h.below hV).c0, fun i hi => ?_⟩
    obtain ⟨a9, c9, e9, h9⟩ := clAt (h.below hV).cs
    rw [ecv] at e9
    injection e9 with e1 _ _
    subst e1
    obtain ⟨b, q1, q2, _⟩ := h9 i hi
    exact ⟨b, q1, q2⟩))
  clear h ecv hm hK hQ hR
  go_enter Tryz.func60, Tryz.ntmps60
  go_wp2_with (go_at_call 38; refine HC.out.mono ?_; rintro _ w1 ⟨v, S, rfl, p1, p2, p3, p4⟩; have e1 : S.length = K := p1.length_eq.trans ((cnt_filter _ _).trans HK.out.symm); rw [e1] at p3; obtain ⟨a1, c1, rfl⟩ := len_slice p3; have B1 := hid p4; clear p1 p2 p3 p4 e1 HC)
  go_loopw [6, 7, 8, 9] (fun tn i _ _ wr => ∃ k q : Nat, k ≤ m ∧ i = .int .i64 (k : Int) ∧ tn = .int .i64 (q : Int) ∧ q = (dist ((s.cs.map (·.t)).take k)).length ∧ q ≤ k ∧ Below w.heap.size w wr) (fun _ i _ _ _ => m - (intOf i).toNat)
  case atStart => exact ⟨0, 0, Nat.zero_le _, rfl, rfl, rfl, Nat.le_refl _, B1.out⟩
  case round =>
    obtain ⟨k, q, hk, rfl, rfl, hq, hqk, hb⟩ := hrel
    have Hq := hid hq
    have Hqk := hid hqk
    have Hb := hid hb
    obtain ⟨c0, hat⟩ := Hx.out wr hb
    by_cases hlt : k < m
    · have g1 : decide ((k : Int) < (m : Int)) = true := by simp; omega
      have g2 : (k : Int) < (m : Int) := by omega
      have g0 : (0 : Int) ≤ (k : Int) := by omega
      have hkl : k < s.cs.length := by have := Hm.out; omega
      obtain ⟨bb, rfl, _⟩ := hat k hkl
      have Hkl := hid hkl
      have Hlt := hid hlt
      have hkb : (k : Int) ≤ 1000000000000 := by omega
      have hqb : (q : Int) ≤ 1000000000000 := by omega
      have hq0 : (0 : Int) ≤ (q : Int) := by omega
      clear hat hq hqk hb hlt hk
      obtain ⟨w3, hw3⟩ : ∃ w3, w3 = wr := ⟨_, rfl⟩
      rw [← hw3] at Hb c0 ⊢
      clear hw3
      go_wp2
      go_loopw [8, 9] (fun f j wr => ∃ (p : Nat) (fb : Bool), p ≤ k ∧ j = .int .i64 (p : Int) ∧ f = .bool fb ∧ fb = (!((s.cs.map (·.t)).take p).any fun y => decide (y = (s.cs[k]'Hkl.out).t)) ∧ Below w3.heap.size w3 wr) (fun _ j _ => k - (intOf j).toNat)
      case atStart => exact ⟨0, true, Nat.zero_le _, rfl, rfl, rfl, Below.refl _ _⟩
      case round =>
        obtain ⟨p, F, hp, rfl, rfl, hF, hb4⟩ := hrel
        have hbw := Hb.out.trans (hb4.mono Hb.out.size)
        obtain ⟨d0, hat⟩ := Hx.out wr hbw
        have Hb4 := hid hb4
        have HBw := hid hbw
        have hFs : Hid (((s.cs.map (·.t)).take p).any (fun y => decide (y = (s.cs[k]'Hkl.out).t)) = !F) := by
          show _ = _
          rw [hF, Bool.not_not]
        clear hF
        by_cases hpk : p < k
        · have g3 : decide ((p : Int) < (k : Int)) = true := by simp; omega
          have g4 : (p : Int) < (m : Int) := by omega
          have g5 : (0 : Int) ≤ (p : Int) := by omega
          have hpl : p < s.cs.length := by have := Hkl.out; omega
          obtain ⟨b1, eb1, x1⟩ := hat p hpl
          obtain ⟨b2, eb2, x2⟩ := hat k Hkl.out
          have eb1' : bb = b1 := by simpa using eb1
          have eb2' : bb = b2 := by simpa using eb2
          subst eb1' eb2'
          have hstep : Hid ((((s.cs.map (·.t)).take (p + 1)).any fun y => decide (y = (s.cs[k]'Hkl.out).t)) = ((!F) || decide (s.cs[p].t = (s.cs[k]'Hkl.out).t))) := by
            show _ = _
            rw [any_takeU (by rw [List.length_map]; exact hpl), hFs.out]
            simp
          obtain ⟨tp, htp⟩ : ∃ tp, tp = s.cs[p].t := ⟨_, rfl⟩
          obtain ⟨tk, htk⟩ : ∃ tk, tk = (s.cs[k]'Hkl.out).t := ⟨_, rfl⟩
          rw [← htp] at x1 hstep
          rw [← htk] at x2
          have Htk := hid htk
          have Hpk := hid hpk
          clear hat hb4 hbw hpl htp htk eb1 eb2 hp hpk
          cases F
          · have hd : Hid (false = (!(((s.cs.map (·.t)).take (p + 1)).any fun y => decide (y = (s.cs[k]'Hkl.out).t)))) := by
              show _ = _
              rw [hstep.out]; rfl
            go_wp2
            go_quiet (fail)
            go_wp2
            go_roundw
            case rel => exact ⟨p + 1, false, by have := Hpk.out; omega, by first | rfl | go_num, rfl, hd.out, Hb4.out.trans (below_dN _ _ _)⟩
            case measure => exact measU _ _ _ Hpk.out rfl
          · cases q0 : (tp.toList == tk.toList)
            · have hd : Hid (true = (!(((s.cs.map (·.t)).take (p + 1)).any fun y => decide (y = (s.cs[k]'Hkl.out).t)))) := by
                show _ = _
                rw [hstep.out, ← Htk.out, ← eqU, q0]; rfl
              go_wp2
              go_quiet (fail)
              go_wp2
              go_roundw
              case rel => exact ⟨p + 1, true, by have := Hpk.out; omega, by first | rfl | go_num, rfl, hd.out, Hb4.out.trans (below_dN _ _ _)⟩
              case measure => exact measU _ _ _ Hpk.out rfl
            · have hd : Hid (false = (!(((s.cs.map (·.t)).take (p + 1)).any fun y => decide (y = (s.cs[k]'Hkl.out).t)))) := by
                show _ = _
                rw [hstep.out, ← Htk.out, ← eqU, q0]; rfl
              go_wp2
              go_quiet (fail)
              go_wp2
              go_roundw
              case rel => exact ⟨p + 1, false, by have := Hpk.out; omega, by first | rfl | go_num, rfl, hd.out, Hb4.out.trans (below_dN _ _ _)⟩
              case measure => exact measU _ _ _ Hpk.out rfl
        · obtain rfl : p = k := by omega
          have g3 : decide ((p : Int) < (p : Int)) = false := by simp
          have g3' : ¬ (p : Int) < (p : Int) := by omega
          have hnext : Hid ((dist ((s.cs.map (·.t)).take (p + 1))).length = if F = false then q else q + 1) := by
            show _ = _
            rw [List.take_succ_eq_append_getElem (by rw [List.length_map]; exact Hkl.out), dist_snoc, ← Hq.out, List.getElem_map, hFs.out]
            cases F <;> rfl
          have gq : wrap64 ((q : Int) + 1) = (q : Int) + 1 := IntWalk.wrap64_in _ (by omega)
          clear hat hb4 hbw hp hpk
          cases F
          · go_wp2
            go_roundw
            case rel => exact ⟨p + 1, q, by have := Hlt.out; omega, by first | rfl | go_num, rfl, hnext.out.symm, by have := Hqk.out; omega, HBw.out⟩
            case measure => exact measU _ _ _ Hlt.out rfl
          · go_wp2
            go_roundw
            case rel => exact ⟨p + 1, q + 1, by have := Hlt.out; omega, by first | rfl | go_num, by first | rfl | go_num, hnext.out.symm, by have := Hqk.out; omega, HBw.out⟩
            case measure => exact measU _ _ _ Hlt.out rfl
    · obtain rfl : k = m := by omega
      have g1 : decide ((k : Int) < (k : Int)) = false := by simp
      have g1' : ¬ (k : Int) < (k : Int) := by omega
      have hqQ : q = Q := by
        rw [HQ.out, hq, List.take_of_length_le (by rw [List.length_map, ← Hm.out]; exact Nat.le_refl _)]
      subst hqQ
      clear hat hq hqk hlt hk
      have hRR : Hid (R = (decide ((4 : Int) ≤ (K : Int)) || (decide ((K : Int) = 0) && decide ((4 : Int) ≤ (q : Int))))) := by
        show R = _
        rw [HR.out]
        by_cases k0 : K = 0
        · subst k0
          by_cases q4 : q < 4
          · rw [if_pos rfl, decide_eq_true q4, show decide ((4 : Int) ≤ ((0 : Nat) : Int)) = false by decide, show decide (((0 : Nat) : Int) = 0) = true by decide, decide_eq_false (show ¬ (4 : Int) ≤ (q : Int) by omega)]
            rfl
          · rw [if_pos rfl, decide_eq_false q4, show decide ((4 : Int) ≤ ((0 : Nat) : Int)) = false by decide, show decide (((0 : Nat) : Int) = 0) = true by decide, decide_eq_true (show (4 : Int) ≤ (q : Int) by omega)]
            rfl
        · rw [if_neg k0, decide_eq_false (show ¬ (K : Int) = 0 by omega)]
          by_cases k4 : K < 4
          · rw [decide_eq_true k4, decide_eq_false (show ¬ (4 : Int) ≤ (K : Int) by omega)]
            rfl
          · rw [decide_eq_false k4, decide_eq_true (show (4 : Int) ≤ (K : Int) by omega)]
            rfl
      clear hb
      by_cases k4 : 4 ≤ K
      · have e1 : decide ((4 : Int) ≤ (K : Int)) = true := by simp; omega
        rw [e1] at hRR
        have hRt : Hid (R = true) := hRR.out.trans (Bool.true_or _)
        go_wp2
        go_ret
        exact ⟨(by have h9 := hRt.out; subst h9; rfl), Hb.out⟩
      · have e1 : decide ((4 : Int) ≤ (K : Int)) = false := by simp; omega
        rw [e1] at hRR
        by_cases k0 : K = 0
        · subst k0
          by_cases q4 : 4 ≤ q
          · have e2 : decide ((4 : Int) ≤ (q : Int)) = true := by simp; omega
            have hRt : Hid (R = true) := hRR.out.trans (by rw [e2]; rfl)
            go_wp2
            go_ret
            exact ⟨(by have h9 := hRt.out; subst h9; rfl), Hb.out⟩
          · have e2 : decide ((4 : Int) ≤ (q : Int)) = false := by simp; omega
            have hRt : Hid (R = false) := hRR.out.trans (by rw [e2]; rfl)
            go_wp2
            go_ret
            exact ⟨(by have h9 := hRt.out; subst h9; rfl), Hb.out⟩
        · have e3 : ((K : Int) == 0) = false := by simp; omega
          have hRt : Hid (R = false) := hRR.out.trans (by
            have : decide ((K : Int) = 0) = false := by simp; omega
            rw [this]; rfl)
          go_wp2
          go_ret
          exact ⟨(by have h9 := hRt.out; subst h9; rfl), Hb.out⟩
end
end Go.Proofs.YtlkbojgemcjilaaGreatDoor
