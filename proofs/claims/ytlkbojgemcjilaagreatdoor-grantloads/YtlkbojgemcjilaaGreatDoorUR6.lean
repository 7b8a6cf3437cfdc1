/- YtlkbojgemcjilaaGreatDoorUR4 + YtlkbojgemcjilaaGreatDoorUR5 + YtlkbojgemcjilaaGreatDoorUR6 -/
import Derived.Test.YtlkbojgemcjilaaGreatDoorUR3
/- Grants: the reference's full. -/
namespace Go.Proofs.YtlkbojgemcjilaaGreatDoor
open Go.RowKit Go.Maps Go.Shelf Go.Sort Go.Lib
set_option linter.unusedVariables false
set_option maxRecDepth 20000
theorem cnt_filter (l : List Cl) (t : ByteArray) : (l.filter (inT t)).length = cntT (l.map (·.t)) t := by
  unfold cntT
  rw [List.filter_map, List.length_map]
  rfl
theorem dist_snoc (l : List ByteArray) (x : ByteArray) : (dist (l ++ [x])).length = if l.any (fun y => decide (y = x)) = true then (dist l).length else (dist l).length + 1 := by
  rw [dist_perm (List.perm_append_singleton x l), dist_cons]
section
variable {w : World} {B g : Nat} {s : GS}
theorem len_slice {B n sz : Nat} {e : TypeId} {v : Value} {xs : List Value} (h : w.ownsRow B e sz v n xs) : ∃ a c, v = .slice a n c := by
  rcases h.2 with ⟨e, h1⟩ | ⟨g, cap, cur, e, _⟩
  · exact ⟨none, 0, by rw [e, h1]⟩
  · exact ⟨_, cap, e⟩
set_option maxHeartbeats 16000000 in
theorem rfull_any (h : RG w B g s) (hl : s.cs.length ≤ 1000000000000) (t : ByteArray) :
    Calls Tryz.prog 60 #[.pointer (some ⟨g, 0, none⟩), .string t] w fun e w' => e = .returned (.bool (!roomR (s.cs.map (·.t)) t)) ∧ Below w.heap.size w w' := by
  have HC := hid (rClients_any h hl t)
  obtain ⟨K, hK⟩ : ∃ K, K = cntT (s.cs.map (·.t)) t := ⟨_, rfl⟩
  obtain ⟨Q, hQ⟩ : ∃ Q, Q = (dist (s.cs.map (·.t))).length := ⟨_, rfl⟩
  obtain ⟨R, hR⟩ : ∃ R, R = !roomR (s.cs.map (·.t)) t := ⟨_, rfl⟩
  rw [← hR]
  unfold roomR at hR
  rw [← hK, ← hQ] at hR
  have HR := hid hR
  have HK := hid hK
  have HQ := hid hQ
  have hKb : K ≤ 1000000000000 := by
    rw [hK]
    refine Nat.le_trans (cntT_le _ _) ?_
    rw [List.length_map]
    exact hl
  obtain ⟨cv, av, h⟩ := h
  obtain ⟨a, cap, ecv, _⟩ := clAt h.cs
  obtain ⟨m, hm⟩ : ∃ m, m = s.cs.length := ⟨_, rfl⟩
  rw [← hm] at ecv hl
  have Hm := hid hm
  have Hx := hid (fun (V : World) (hV : Below w.heap.size w V) => (show V.cell? ⟨g, 0, none⟩ = some (.slice a m cap) ∧ ∀ i (hi : i < s.cs.length), ∃ b, a = some ⟨b, 0, none⟩ ∧ V.cell? ⟨b, i * 4, none⟩ = some (.string s.cs[i].t) from by
    refine ⟨by rw [← ecv]; exact (h.below hV).c0, fun i hi => ?_⟩
    obtain ⟨a9, c9, e9, h9⟩ := clAt (h.below hV).cs
    rw [ecv] at e9
    injection e9 with e1 _ _
    subst e1
    obtain ⟨b, q1, q2, _⟩ := h9 i hi
    exact ⟨b, q1, q2⟩))
  clear h ecv hm hK hQ hR
  go_enter Tryz.func60, Tryz.ntmps60
  go_wp2_with (go_at_call 38; refine HC.out.mono ?_; rintro _ w1 ⟨v, S, rfl, p1, p2, p3, p4⟩; have e1 : S.length = K := p1.length_eq.trans ((cnt_filter _ _).trans HK.out.symm); rw [e1] at p3; obtain ⟨a1, c1, rfl⟩ := len_slice p3; have B1 := hid p4; clear p1 p2 p3 p4 e1 HC)
  go_loopw [6, 7, 8, 9] (fun tn i _ _ wr => ∃ k q : Nat, k ≤ m ∧ i = .int .i64 (k : Int) ∧ tn = .int .i64 (q : Int) ∧ q = (dist ((s.cs.map (·.t)).take k)).length ∧ q ≤ k ∧ Below w.heap.size w wr) (fun _ i _ _ _ => m - (intOf i).toNat)
  case atStart => exact ⟨0, 0, Nat.zero_le _, rfl, rfl, rfl, Nat.le_refl _, B1.out⟩
  case round =>
    obtain ⟨k, q, hk, rfl, rfl, hq, hqk, hb⟩ := hrel
    have Hq := hid hq
    have Hqk := hid hqk
    have Hb := hid hb
    obtain ⟨c0, hat⟩ := Hx.out wr hb
    by_cases hlt : k < m
    · have g1 : decide ((k : Int) < (m : Int)) = true := by simp; omega
      have g2 : (k : Int) < (m : Int) := by omega
      have g0 : (0 : Int) ≤ (k : Int) := by omega
      have hkl : k < s.cs.length := by have := Hm.out; omega
      obtain ⟨bb, rfl, _⟩ := hat k hkl
      have Hkl := hid hkl
      have Hlt := hid hlt
      have hkb : (k : Int) ≤ 1000000000000 := by omega
      have hqb : (q : Int) ≤ 1000000000000 := by omega
      have hq0 : (0 : Int) ≤ (q : Int) := by omega
      clear hat hq hqk hb hlt hk
      obtain ⟨w3, hw3⟩ : ∃ w3, w3 = wr := ⟨_, rfl⟩
      rw [← hw3] at Hb c0 ⊢
      clear hw3
      go_wp2
      go_loopw [8, 9] (fun f j wr => ∃ (p : Nat) (fb : Bool), p ≤ k ∧ j = .int .i64 (p : Int) ∧ f = .bool fb ∧ fb = (!((s.cs.map (·.t)).take p).any fun y => decide (y = (s.cs[k]'Hkl.out).t)) ∧ Below w3.heap.size w3 wr) (fun _ j _ => k - (intOf j).toNat)
      case atStart => exact ⟨0, true, Nat.zero_le _, rfl, rfl, rfl, Below.refl _ _⟩
      case round =>
        obtain ⟨p, F, hp, rfl, rfl, hF, hb4⟩ := hrel
        have hbw := Hb.out.trans (hb4.mono Hb.out.size)
        obtain ⟨d0, hat⟩ := Hx.out wr hbw
        have Hb4 := hid hb4
        have HBw := hid hbw
        have hFs : Hid (((s.cs.map (·.t)).take p).any (fun y => decide (y = (s.cs[k]'Hkl.out).t)) = !F) := by
          show _ = _
          rw [hF, Bool.not_not]
        clear hF
        by_cases hpk : p < k
        · have g3 : decide ((p : Int) < (k : Int)) = true := by simp; omega
          have g4 : (p : Int) < (m : Int) := by omega
          have g5 : (0 : Int) ≤ (p : Int) := by omega
          have hpl : p < s.cs.length := by have := Hkl.out; omega
          obtain ⟨b1, eb1, x1⟩ := hat p hpl
          obtain ⟨b2, eb2, x2⟩ := hat k Hkl.out
          have eb1' : bb = b1 := by simpa using eb1
          have eb2' : bb = b2 := by simpa using eb2
          subst eb1' eb2'
          have hstep : Hid ((((s.cs.map (·.t)).take (p + 1)).any fun y => decide (y = (s.cs[k]'Hkl.out).t)) = ((!F) || decide (s.cs[p].t = (s.cs[k]'Hkl.out).t))) := by
            show _ = _
            rw [any_takeU (by rw [List.length_map]; exact hpl), hFs.out]
            simp
          obtain ⟨tp, htp⟩ : ∃ tp, tp = s.cs[p].t := ⟨_, rfl⟩
          obtain ⟨tk, htk⟩ : ∃ tk, tk = (s.cs[k]'Hkl.out).t := ⟨_, rfl⟩
          rw [← htp] at x1 hstep
          rw [← htk] at x2
          have Htk := hid htk
          have Hpk := hid hpk
          clear hat hb4 hbw hpl htp htk eb1 eb2 hp hpk
          cases F
          · have hd : Hid (false = (!(((s.cs.map (·.t)).take (p + 1)).any fun y => decide (y = (s.cs[k]'Hkl.out).t)))) := by
              show _ = _
              rw [hstep.out]; rfl
            go_wp2
            go_quiet (fail)
            go_wp2
            go_roundw
            case rel => exact ⟨p + 1, false, by have := Hpk.out; omega, by first | rfl | go_num, rfl, hd.out, Hb4.out.trans (below_dN _ _ _)⟩
            case measure => exact measU _ _ _ Hpk.out rfl
          · cases q0 : (tp.toList == tk.toList)
            · have hd : Hid (true = (!(((s.cs.map (·.t)).take (p + 1)).any fun y => decide (y = (s.cs[k]'Hkl.out).t)))) := by
                show _ = _
                rw [hstep.out, ← Htk.out, ← eqU, q0]; rfl
              go_wp2
              go_quiet (fail)
              go_wp2
              go_roundw
              case rel => exact ⟨p + 1, true, by have := Hpk.out; omega, by first | rfl | go_num, rfl, hd.out, Hb4.out.trans (below_dN _ _ _)⟩
              case measure => exact measU _ _ _ Hpk.out rfl
            · have hd : Hid (false = (!(((s.cs.map (·.t)).take (p + 1)).any fun y => decide (y = (s.cs[k]'Hkl.out).t)))) := by
                show _ = _
                rw [hstep.out, ← Htk.out, ← eqU, q0]; rfl
              go_wp2
              go_quiet (fail)
              go_wp2
              go_roundw
              case rel => exact ⟨p + 1, false, by have := Hpk.out; omega, by first | rfl | go_num, rfl, hd.out, Hb4.out.trans (below_dN _ _ _)⟩
              case measure => exact measU _ _ _ Hpk.out rfl
        · obtain rfl : p = k := by omega
          have g3 : decide ((p : Int) < (p : Int)) = false := by simp
          have g3' : ¬ (p : Int) < (p : Int) := by omega
          have hnext : Hid ((dist ((s.cs.map (·.t)).take (p + 1))).length = if F = false then q else q + 1) := by
            show _ = _
            rw [List.take_succ_eq_append_getElem (by rw [List.length_map]; exact Hkl.out), dist_snoc, ← Hq.out, List.getElem_map, hFs.out]
            cases F <;> rfl
          have gq : wrap64 ((q : Int) + 1) = (q : Int) + 1 := IntWalk.wrap64_in _ (by omega)
          clear hat hb4 hbw hp hpk
          cases F
          · go_wp2
            go_roundw
            case rel => exact ⟨p + 1, q, by have := Hlt.out; omega, by first | rfl | go_num, rfl, hnext.out.symm, by have := Hqk.out; omega, HBw.out⟩
            case measure => exact measU _ _ _ Hlt.out rfl
          · go_wp2
            go_roundw
            case rel => exact ⟨p + 1, q + 1, by have := Hlt.out; omega, by first | rfl | go_num, by first | rfl | go_num, hnext.out.symm, by have := Hqk.out; omega, HBw.out⟩
            case measure => exact measU _ _ _ Hlt.out rfl
    · obtain rfl : k = m := by omega
      have g1 : decide ((k : Int) < (k : Int)) = false := by simp
      have g1' : ¬ (k : Int) < (k : Int) := by omega
      have hqQ : q = Q := by
        rw [HQ.out, hq, List.take_of_length_le (by rw [List.length_map, ← Hm.out]; exact Nat.le_refl _)]
      subst hqQ
      clear hat hq hqk hlt hk
      have hRR : Hid (R = (decide ((4 : Int) ≤ (K : Int)) || (decide ((K : Int) = 0) && decide ((4 : Int) ≤ (q : Int))))) := by
        show R = _
        rw [HR.out]
        by_cases k0 : K = 0
        · subst k0
          by_cases q4 : q < 4
          · rw [if_pos rfl, decide_eq_true q4, show decide ((4 : Int) ≤ ((0 : Nat) : Int)) = false by decide, show decide (((0 : Nat) : Int) = 0) = true by decide, decide_eq_false (show ¬ (4 : Int) ≤ (q : Int) by omega)]
            rfl
          · rw [if_pos rfl, decide_eq_false q4, show decide ((4 : Int) ≤ ((0 : Nat) : Int)) = false by decide, show decide (((0 : Nat) : Int) = 0) = true by decide, decide_eq_true (show (4 : Int) ≤ (q : Int) by omega)]
            rfl
        · rw [if_neg k0, decide_eq_false (show ¬ (K : Int) = 0 by omega)]
          by_cases k4 : K < 4
          · rw [decide_eq_true k4, decide_eq_false (show ¬ (4 : Int) ≤ (K : Int) by omega)]
            rfl
          · rw [decide_eq_false k4, decide_eq_true (show (4 : Int) ≤ (K : Int) by omega)]
            rfl
      clear hb
      by_cases k4 : 4 ≤ K
      · have e1 : decide ((4 : Int) ≤ (K : Int)) = true := by simp; omega
        rw [e1] at hRR
        have hRt : Hid (R = true) := hRR.out.trans (Bool.true_or _)
        go_wp2
        go_ret
        exact ⟨(by have h9 := hRt.out; subst h9; rfl), Hb.out⟩
      · have e1 : decide ((4 : Int) ≤ (K : Int)) = false := by simp; omega
        rw [e1] at hRR
        by_cases k0 : K = 0
        · subst k0
          by_cases q4 : 4 ≤ q
          · have e2 : decide ((4 : Int) ≤ (q : Int)) = true := by simp; omega
            have hRt : Hid (R = true) := hRR.out.trans (by rw [e2]; rfl)
            go_wp2
            go_ret
            exact ⟨(by have h9 := hRt.out; subst h9; rfl), Hb.out⟩
          · have e2 : decide ((4 : Int) ≤ (q : Int)) = false := by simp; omega
            have hRt : Hid (R = false) := hRR.out.trans (by rw [e2]; rfl)
            go_wp2
            go_ret
            exact ⟨(by have h9 := hRt.out; subst h9; rfl), Hb.out⟩
        · have e3 : ((K : Int) == 0) = false := by simp; omega
          have hRt : Hid (R = false) := hRR.out.trans (by
            have : decide ((K : Int) = 0) = false := by simp; omega
            rw [this]; rfl)
          go_wp2
          go_ret
          exact ⟨(by have h9 := hRt.out; subst h9; rfl), Hb.out⟩
end
end Go.Proofs.YtlkbojgemcjilaaGreatDoor

/- Grants: the reference's Register. -/
namespace Go.Proofs.YtlkbojgemcjilaaGreatDoor
open Go.RowKit Go.Maps Go.Shelf Go.Sort Go.Lib
set_option linter.unusedVariables false
set_option maxRecDepth 20000
section
variable {w w5 : World} {B g : Nat} {s : GS} {cv av : Value}
theorem own_setG {w : World} {B n sz : Nat} {e : TypeId} {v : Value} {xs : List Value} (h : w.ownsRow B e sz v n xs) {g i : Nat} {x : Value} {cs : Array Value} (hg : w.heap[g]? = some (.cells cs 53 (0, 0))) (he : e ≠ 53) : (w.setCell ⟨g, i, none⟩ x).ownsRow B e sz v n xs := by
  refine ⟨h.1, ?_⟩
  rcases h.2 with h0 | ⟨g2, cap, cur, e1, hb, hg2, rest⟩
  · exact .inl h0
  · refine .inr ⟨g2, cap, cur, e1, hb, (heap_setCell_other _ _ _ _ (fun e9 => ?_)).trans hg2, rest⟩
    have e9' : g2 = g := e9
    rw [e9', hg] at hg2
    cases hg2
    exact he rfl
theorem RGA.setc (h : RGA w B g s cv av) (hb : Below w.heap.size w w5) {B' : Nat} (hB : B ≤ B') {v : Value} {l : List Cl} (hv : w5.ownsRow B' 56 4 v l.length (clCells l)) : RGA (w5.setCell ⟨g, 0, none⟩ v) B g ⟨l, s.al⟩ v av ∧ OutJ (fun k => k = g) w (w5.setCell ⟨g, 0, none⟩ v) := by
  have h5 := h.below hb
  refine ⟨⟨by rw [heap_setCell_same _ _ _ _ _ _ h5.obj]; rfl, own_setG (own_baseU hv hB) h5.obj (by decide), own_setG h5.al h5.obj (by decide), h.bg⟩, (OutJ.of_below hb).trans (OutJ.setCell _ _ _ rfl)⟩
theorem RGA.seta (h : RGA w B g s cv av) (hb : Below w.heap.size w w5) {B' : Nat} (hB : B ≤ B') {v : Value} {l : List Co} (hv : w5.ownsRow B' 59 4 v l.length (coCells l)) : RGA (w5.setCell ⟨g, 1, none⟩ v) B g ⟨s.cs, l⟩ cv v ∧ OutJ (fun k => k = g) w (w5.setCell ⟨g, 1, none⟩ v) := by
  have h5 := h.below hb
  refine ⟨⟨by rw [heap_setCell_same _ _ _ _ _ _ h5.obj]; rfl, own_setG h5.cs h5.obj (by decide), own_setG (own_baseU hv hB) h5.obj (by decide), h.bg⟩, (OutJ.of_below hb).trans (OutJ.setCell _ _ _ rfl)⟩
theorem srcCl_of {v : Value} {l : List Cl} (h : w.ownsRow B 56 4 v l.length (clCells l)) : SrcCl w v l := by
  have h' := h
  rcases h.2 with ⟨e, h1⟩ | ⟨g, cap, cur, e, _⟩
  · exact .inl ⟨e, List.eq_nil_of_length_eq_zero h1⟩
  · rw [e] at h'
    exact .inr ⟨g, 0, cap, e, fun j u hj => by rw [Nat.zero_add]; exact srcCl_cells h' j u hj⟩
theorem srcCo_of {v : Value} {l : List Co} (h : w.ownsRow B 59 4 v l.length (coCells l)) : SrcCo w v l := by
  have h' := h
  rcases h.2 with ⟨e, h1⟩ | ⟨g, cap, cur, e, _⟩
  · exact .inl ⟨e, List.eq_nil_of_length_eq_zero h1⟩
  · rw [e] at h'
    exact .inr ⟨g, 0, cap, e, fun j u hj => by rw [Nat.zero_add]; exact srcCo_cells h' j u hj⟩
theorem ixC_none {s : GS} {t n : ByteArray} {i : Int} (h : IxC s t n i) : (findC s t n).isSome = decide (0 ≤ i) := by
  rcases h with ⟨rfl, h⟩ | ⟨k, hk, rfl, h⟩
  · rw [h]; rfl
  · rw [h, decide_eq_true (by omega)]; rfl
theorem rIsName_q (t : ByteArray) (w : World) (ht : t.size ≤ 9223372036854775807) : Calls Tryz.prog 58 #[.string t] w fun e w' => e = .returned (.bool (okN t)) ∧ w' = w := refIsName_any t w (by unfold maxLen; omega)
set_option maxHeartbeats 16000000 in
theorem rregister_any (h : RG w B g s) (hB : B ≤ w.heap.size) (hl : s.cs.length ≤ 1000000000000) (c : Cl) (hc : ClIn c) :
    Calls Tryz.prog 23 #[.pointer (some ⟨g, 0, none⟩), .agg (clC c)] w fun e w' => e = .returned (.int .i64 (regEs s c : Nat)) ∧ OutJ (fun k => k = g) w w' ∧ RG w' B g (s.reg c) := by
  obtain ⟨W, hW⟩ : ∃ W, W = w.alloc (.cells (clC c) 56) := ⟨_, rfl⟩
  have b0 : Below w.heap.size w W := by rw [hW]; exact (Below.refl _ w).alloc (Nat.le_refl _) _
  have x0 : W.heap[w.heap.size]? = some (.cells (clC c) 56 (0, 0)) := by rw [hW]; exact heap_allocN w _
  have h0 := h.below b0
  have HX := hid (fun (V : World) (hV : Below W.heap.size W V) => (show V.cell? ⟨w.heap.size, 0, none⟩ = some (.string c.t) ∧ V.cell? ⟨w.heap.size, 1, none⟩ = some (.string c.n) ∧ V.cell? ⟨w.heap.size, 2, none⟩ = some (.string c.r) ∧ V.cell? ⟨w.heap.size, 3, none⟩ = some (.int .u8 (c.sc : Int)) from by
    have x9 := (hV.block _ (heap_lt x0)).trans x0
    exact ⟨(cell_of_rowU _ _ 0 _ _ _ x9).trans rfl, (cell_of_rowU _ _ 1 _ _ _ x9).trans rfl, (cell_of_rowU _ _ 2 _ _ _ x9).trans rfl, (cell_of_rowU _ _ 3 _ _ _ x9).trans rfl⟩))
  obtain ⟨y0, y1, y2, y3⟩ := HX.out W (Below.refl _ _)
  have HCl := hid (rclient_any h0 (by omega) c.t c.n)
  have HF := hid (rfull_any h0 hl c.t)
  have HN1 := hid (fun (V : World) => rIsName_q c.t V hc.t)
  have HN2 := hid (fun (V : World) => rIsName_q c.n V hc.n)
  have HW : Hid (w.alloc (.cells (clC c) 56) = W) := hid hW.symm
  have B0 := hid b0
  have H0 := hid h0
  have HB := hid hB
  have Hl := hid hl
  have hr9 := hc.r
  obtain ⟨E, hE⟩ : ∃ E, E = regEs s c := ⟨_, rfl⟩
  obtain ⟨s9, hs9⟩ : ∃ s9, s9 = s.reg c := ⟨_, rfl⟩
  rw [← hE, ← hs9]
  unfold GS.reg at hs9
  rw [← hE] at hs9
  unfold regEs at hE
  have HE := hid hE
  have HS9 := hid hs9
  have hbad : Hid (¬ E = 0 → ∀ V, Below w.heap.size w V → RG V B g s9) := fun he V hV => by
    have h9 := HS9.out
    rw [if_neg he] at h9
    rw [h9]
    exact h.below hV
  clear h h0 b0 x0 hB hl hE hs9
  unfold clC at HW ⊢
  rw [hW] at y0 y1 y2 y3
  unfold clC at y0 y1 y2 y3
  clear hW hc
  have hend : ∀ e9 : Nat, E = e9 → ¬ e9 = 0 → ∀ V : World, Below w.heap.size w V → Ending.returned (Value.int .i64 (e9 : Int)) = Ending.returned (Value.int .i64 (E : Int)) ∧ OutJ (fun k => k = g) w V ∧ RG V B g s9 := fun e9 he hn V hV => ⟨by rw [he], OutJ.of_below hV, hbad.out (by rw [he]; exact hn) V hV⟩
  have Hend := hid hend
  clear hend hbad
  cases o1 : okN c.t
  · rw [o1] at HN1
    have he : Hid (E = 8) := by show E = 8; rw [HE.out, o1]; rfl
    go_enter Tryz.func23, Tryz.ntmps23
    go_wp2_with (go_at_call 58; refine (HN1.out _).mono ?_; rintro _ w9 ⟨rfl, e9⟩; subst w9)
    go_ret
    rw [HW.out]
    exact Hend.out 8 he.out (by decide) W B0.out
  · cases o2 : okN c.n
    · rw [o1] at HN1
      rw [o2] at HN2
      have he : Hid (E = 8) := by show E = 8; rw [HE.out, o1, o2]; rfl
      go_enter Tryz.func23, Tryz.ntmps23
      go_wp2_with (first
        | (go_at_call 58; refine (HN1.out _).mono ?_; rintro _ w9 ⟨rfl, e9⟩; subst w9; clear HN1)
        | (go_at_call 58; refine (HN2.out _).mono ?_; rintro _ w9 ⟨rfl, e9⟩; subst w9; clear HN2))
      go_ret
      rw [HW.out]
      exact Hend.out 8 he.out (by decide) W B0.out
    · rw [o1] at HN1
      rw [o2] at HN2
      have hE1 := HE.out
      rw [o1, o2, if_neg (by decide)] at hE1
      by_cases hr : 24 < c.r.size
      · have d1 : decide ((24 : Int) < (c.r.size : Int)) = true := by simp; omega
        rw [if_pos hr] at hE1
        have he := hid hE1
        clear hr hE1
        go_enter Tryz.func23, Tryz.ntmps23
        go_wp2_with (first
          | (go_at_call 58; refine (HN1.out _).mono ?_; rintro _ w9 ⟨rfl, e9⟩; subst w9; clear HN1)
          | (go_at_call 58; refine (HN2.out _).mono ?_; rintro _ w9 ⟨rfl, e9⟩; subst w9; clear HN2))
        go_ret
        rw [HW.out]
        exact Hend.out 6 he.out (by decide) W B0.out
      · have d1 : decide ((24 : Int) < (c.r.size : Int)) = false := by simp; omega
        rw [if_neg hr] at hE1
        clear hr
        cases hf : (findC s c.t c.n).isSome
        · rw [hf, if_neg (by decide)] at hE1
          have hix : Hid (∀ i, IxC s c.t c.n i → decide ((0 : Int) ≤ i) = false) := fun i hi => by rw [← ixC_none hi, hf]
          cases hroom : roomR (s.cs.map (·.t)) c.t
          · rw [hroom, if_pos rfl] at hE1
            rw [hroom] at HF
            have he := hid hE1
            clear hE1
            go_enter Tryz.func23, Tryz.ntmps23
            go_wp2_with (first
              | (go_at_call 58; refine (HN1.out _).mono ?_; rintro _ w9 ⟨rfl, e9⟩; subst w9; clear HN1)
              | (go_at_call 58; refine (HN2.out _).mono ?_; rintro _ w9 ⟨rfl, e9⟩; subst w9; clear HN2)
              | (go_at_call 59; rw [HW.out]; refine HCl.out.mono ?_; rintro _ w9 ⟨i, rfl, hi, e9⟩; subst w9; have di := hix.out i hi; obtain ⟨z0, z1, z2, z3⟩ := HX.out W (Below.refl _ _); clear hi)
              | (go_at_call 60; refine HF.out.mono ?_; rintro _ w9 ⟨rfl, b9⟩; have B9 := hid (Below.on' B0.out b9); clear b9))
            go_ret
            exact Hend.out 24 he.out (by decide) w9 B9.out
          · rw [hroom, if_neg (by decide)] at hE1
            rw [hroom] at HF
            have hs10 : Hid (s9 = s.addC c) := by
              have h9 := HS9.out
              rw [if_pos hE1] at h9
              exact h9
            have he := hid hE1
            clear hE1
            go_enter Tryz.func23, Tryz.ntmps23
            go_wp2_with (first
              | (go_at_call 58; refine (HN1.out _).mono ?_; rintro _ w9 ⟨rfl, e9⟩; subst w9; clear HN1)
              | (go_at_call 58; refine (HN2.out _).mono ?_; rintro _ w9 ⟨rfl, e9⟩; subst w9; clear HN2)
              | (go_at_call 59; rw [HW.out]; refine HCl.out.mono ?_; rintro _ w9 ⟨i, rfl, hi, e9⟩; subst w9; have di := hix.out i hi; obtain ⟨z0, z1, z2, z3⟩ := HX.out W (Below.refl _ _); clear hi)
              | (go_at_call 60; refine HF.out.mono ?_; rintro _ w9 ⟨rfl, b9⟩; have B9 := hid b9; obtain ⟨cv, av, hr9'⟩ := H0.out.below b9; have HR9 := hid hr9'; have c9 := hr9'.c0; clear b9 hr9' z0 z1 z2 z3)
              | (at_builtin; refine app_clL rfl (.tmp 45) (.tmp 47) rfl w10 c rfl w9.heap.size v10 s.cs rfl O10.out rfl (by have := Hl.out; omega) B10.out.size ?_; intro v11 w11 ho11 hg11; have B11 := hid (B10.out.trans ((Below.refl _ _).grown hg11 B10.out.size (fun q hq => (O10.out.lt q hq).1))); obtain ⟨n11, hn11⟩ : ∃ n, n = (s.cs ++ [c]).length := ⟨_, rfl⟩; rw [← hn11] at ho11; obtain ⟨g11, m11, rfl⟩ := own_someU ho11 (by rw [hn11]; simp); have O11 := hid ho11; have HN11 := hid hn11; clear hn11; have c11 := (HR9.out.below B11.out).c0; have f11 : w11.frozen? ⟨g, 0, none⟩ = false := frozen_of_row _ _ _ _ _ (HR9.out.below B11.out).obj; clear ho11 hg11)
              | (at_builtin; refine app_clS rfl (.tmp 38) (.tmp 42) rfl w9.heap.size (.slice none 0 0) [] rfl (World.ownsRow_nil _ _ _ _) _ s.cs rfl (srcCl_of HR9.out.cs) (by have := Hl.out; simp; omega) (Nat.le_refl _) ?_; intro v10 w10 ho10 hg10; have B10 := hid ((Below.refl w9.heap.size w9).grown hg10 (Nat.le_refl _) (fun q hq => by cases hq)); have O10 : Hid (w10.ownsRow w9.heap.size 56 4 v10 s.cs.length (clCells s.cs)) := ho10; obtain ⟨z0, z1, z2, z3⟩ := HX.out w10 (Below.on' B9.out B10.out); have c10 := (HR9.out.below B10.out).c0; clear ho10 hg10 c9))
            go_ret
            have O12 := O11.out
            rw [HN11.out] at O12
            obtain ⟨k1, k2⟩ := HR9.out.setc B11.out (Nat.le_trans HB.out (Nat.le_trans B0.out.size B9.out.size)) O12
            rw [← HN11.out] at k1 k2
            exact ⟨by rw [he.out]; rfl, (OutJ.of_below (Below.on' B0.out B9.out)).trans k2, by rw [hs10.out]; exact ⟨_, _, k1⟩⟩
        · rw [hf, if_pos rfl] at hE1
          have he := hid hE1
          have hix : Hid (∀ i, IxC s c.t c.n i → decide ((0 : Int) ≤ i) = true) := fun i hi => by rw [← ixC_none hi, hf]
          clear hE1
          go_enter Tryz.func23, Tryz.ntmps23
          go_wp2_with (first
            | (go_at_call 58; refine (HN1.out _).mono ?_; rintro _ w9 ⟨rfl, e9⟩; subst w9; clear HN1)
            | (go_at_call 58; refine (HN2.out _).mono ?_; rintro _ w9 ⟨rfl, e9⟩; subst w9; clear HN2)
            | (go_at_call 59; rw [HW.out]; refine HCl.out.mono ?_; rintro _ w9 ⟨i, rfl, hi, e9⟩; subst w9; have di := hix.out i hi; clear hi))
          go_ret
          exact Hend.out 5 he.out (by decide) _ B0.out
end
end Go.Proofs.YtlkbojgemcjilaaGreatDoor

/- Grants: the reference's Drop. (Printed by gen/ur6.py.) -/
namespace Go.Proofs.YtlkbojgemcjilaaGreatDoor
open Go.RowKit Go.Maps Go.Shelf Go.Sort Go.Lib
set_option linter.unusedVariables false
set_option maxRecDepth 20000
section
variable {w : World} {B g : Nat} {s : GS} {cv av : Value}
theorem RGA.clRow (h : RGA w B g s cv av) : ∃ a0 N cap0, cv = .slice a0 N cap0 ∧ N = s.cs.length ∧ (∀ X, Below w.heap.size w X → X.cell? ⟨g, 0, none⟩ = some (.slice a0 N cap0)) ∧ ∀ k (hk : k < s.cs.length), ∃ b, a0 = some ⟨b, 0, none⟩ ∧ ∀ X, Below w.heap.size w X → AtCl g (.slice (some ⟨b, 0, none⟩) N cap0) b k s.cs[k] X := by
  obtain ⟨a0, cap0, ecv, h9⟩ := clAt h.cs
  refine ⟨a0, _, cap0, ecv, rfl, fun X hX => by rw [← ecv]; exact (h.below hX).c0, fun k hk => ?_⟩
  obtain ⟨b, eb, _⟩ := h9 k hk
  refine ⟨b, eb, fun X hX => ?_⟩
  obtain ⟨a8, c8, e8, h8⟩ := clAt (h.below hX).cs
  rw [ecv] at e8
  injection e8 with f1 f2 f3
  subst f1
  obtain ⟨b8, eb8, q0, q1, q2, q3⟩ := h8 k hk
  rw [eb] at eb8
  have : b = b8 := by simpa using eb8
  subst this
  refine ⟨?_, q0, q1, q2, q3⟩
  rw [← eb, ← ecv]
  exact (h.below hX).c0
theorem RGA.coRow (h : RGA w B g s cv av) : ∃ a0 N cap0, av = .slice a0 N cap0 ∧ N = s.al.length ∧ (∀ X, Below w.heap.size w X → X.cell? ⟨g, 1, none⟩ = some (.slice a0 N cap0)) ∧ ∀ k (hk : k < s.al.length), ∃ b, a0 = some ⟨b, 0, none⟩ ∧ ∀ X, Below w.heap.size w X → AtCo g (.slice (some ⟨b, 0, none⟩) N cap0) b k s.al[k] X := by
  obtain ⟨a0, cap0, ecv, h9⟩ := coAt h.al
  refine ⟨a0, _, cap0, ecv, rfl, fun X hX => by rw [← ecv]; exact (h.below hX).c1, fun k hk => ?_⟩
  obtain ⟨b, eb, _⟩ := h9 k hk
  refine ⟨b, eb, fun X hX => ?_⟩
  obtain ⟨a8, c8, e8, h8⟩ := coAt (h.below hX).al
  rw [ecv] at e8
  injection e8 with f1 f2 f3
  subst f1
  obtain ⟨b8, eb8, q0, q1, q2, q3⟩ := h8 k hk
  rw [eb] at eb8
  have : b = b8 := by simpa using eb8
  subst this
  refine ⟨?_, q0, q1, q2, q3⟩
  rw [← eb, ← ecv]
  exact (h.below hX).c1
end
theorem filt_keep {α : Type} {l : List α} {k : Nat} {x : α} {p : α → Bool} (h : l.take (k + 1) = l.take k ++ [x]) (hp : p x = true) : (l.take (k + 1)).filter p = (l.take k).filter p ++ [x] := by
  rw [h, List.filter_append, List.filter_cons_of_pos hp, List.filter_nil]
theorem filt_skip {α : Type} {l : List α} {k : Nat} {x : α} {p : α → Bool} (h : l.take (k + 1) = l.take k ++ [x]) (hp : p x = false) : (l.take (k + 1)).filter p = (l.take k).filter p := by
  rw [h, List.filter_append, List.filter_cons_of_neg (by rw [hp]; simp), List.filter_nil, List.append_nil]
/-- a slice that is written out -/
theorem slice_out {w : World} {B n sz : Nat} {e : TypeId} {v : Value} {xs : List Value} (h : w.ownsRow B e sz v n xs) : ∃ a c, v = .slice a n c := len_slice h
theorem ofC_eq (t n : ByteArray) (c : Co) : ofC t n c = ((c.t.toList == t.toList) && (c.n.toList == n.toList)) := by
  rw [eqU, eqU, Bool.eq_iff_iff, Bool.and_eq_true, ofC_iff, decide_eq_true_iff, decide_eq_true_iff]
theorem GS.Ok.dropC_none {s : GS} (h : s.Ok) {t n : ByteArray} (hf : findC s t n = none) : s.dropC t n = s := by
  have h1 : ∀ c ∈ s.cs, isC t n c = false := fun c hc => by
    have := List.find?_eq_none.1 hf c hc
    simpa using this
  unfold GS.dropC
  rw [List.filter_eq_self.2 (fun c hc => by rw [h1 c hc]; rfl), List.filter_eq_self.2 (fun a ha => by
    obtain ⟨_, _, _, c, hc, e1, e2, _⟩ := h.anames a ha
    have e : ofC t n a = isC t n c := by unfold ofC isC; rw [e1, e2]
    rw [e, h1 c hc]
    rfl)]
set_option maxHeartbeats 16000000 in
theorem rdrop_any {w : World} {B g : Nat} {s : GS} (h : RG w B g s) (hok : s.Ok) (hB : B ≤ w.heap.size) (hl : s.cs.length ≤ 1000000000000) (hl2 : s.al.length ≤ 1000000000000) (t n : ByteArray) :
    Calls Tryz.prog 26 #[.pointer (some ⟨g, 0, none⟩), .string t, .string n] w fun e w' => e = .returned (.int .i64 (noneE (findC s t n).isSome)) ∧ OutJ (fun k => k = g) w w' ∧ RG w' B g (s.dropC t n) := by
  have HCl := hid (rclient_any h (by omega) t n)
  cases hf : findC s t n with
  | none =>
    have hix : Hid (∀ i, IxC s t n i → decide (i < 0) = true) := fun i hi => by
      have h9 := ixC_none hi
      rw [hf] at h9
      have : decide ((0 : Int) ≤ i) = false := h9.symm
      rw [decide_eq_false_iff_not] at this
      simp; omega
    have hs := hid (hok.dropC_none hf)
    have H := hid h
    clear h hf hl hl2 hB
    go_enter Tryz.func26, Tryz.ntmps26
    go_wp2_with (go_at_call 59; refine HCl.out.mono ?_; rintro _ w9 ⟨i, rfl, hi, e9⟩; subst w9; have di := hix.out i hi; clear hi)
    go_ret
    exact ⟨rfl, OutJ.of_below (Below.refl _ _), by rw [hs.out]; exact H.out⟩
  | some c0 =>
    have hix : Hid (∀ i, IxC s t n i → decide (i < 0) = false) := fun i hi => by
      have h9 := ixC_none hi
      rw [hf] at h9
      have : decide ((0 : Int) ≤ i) = true := h9.symm
      rw [decide_eq_true_iff] at this
      simp; omega
    have Hne : Hid (noneE (some c0).isSome = 0) := rfl
    obtain ⟨E, hE⟩ : ∃ E, E = noneE (some c0).isSome := ⟨_, rfl⟩
    rw [← hE] at Hne ⊢
    obtain ⟨s9, hs9⟩ : ∃ s9, s9 = s.dropC t n := ⟨_, rfl⟩
    rw [← hs9]
    have HS9 : Hid (s9 = ⟨s.cs.filter (fun c => !isC t n c), s.al.filter (fun a => !ofC t n a)⟩) := hs9
    obtain ⟨cv, av, h⟩ := h
    obtain ⟨acl0, Ncl, capcl, ecv, hNcl, hccl, hrcl⟩ := h.clRow
    obtain ⟨aco0, Nco, capco, eav, hNco, hcco, hrco⟩ := h.coRow
    have HNcl := hid hNcl
    have HNco := hid hNco
    have Hccl := hid hccl
    have Hcco := hid hcco
    have HRcl := hid hrcl
    have HRco := hid hrco
    have HBVcl := hid (fun (X : World) (hX : Below w.heap.size w X) => hX)
    have HRA := hid h
    have HgB := hid hB
    have hNb : Ncl ≤ 1000000000000 := by omega
    have hNb2 : Nco ≤ 1000000000000 := by omega
    clear h hf hl hl2 hB hE hs9 ecv eav hNcl hNco hccl hcco hrcl hrco
    go_enter Tryz.func26, Tryz.ntmps26
    go_wp2_with (go_at_call 59; refine HCl.out.mono ?_; rintro _ w9 ⟨i, rfl, hi, e9⟩; subst w9; have di := hix.out i hi; clear hi)
    go_loopw [7, 8] (fun v i wr => ∃ k : Nat, k ≤ Ncl ∧ i = .int .i64 (k : Int) ∧ wr.ownsRow w.heap.size 56 4 v ((s.cs.take k).filter (fun c => !isC t n c)).length (clCells ((s.cs.take k).filter (fun c => !isC t n c))) ∧ Below w.heap.size w wr) (fun _ i _ => Ncl - (intOf i).toNat)
    case atStart => exact ⟨0, Nat.zero_le _, rfl, World.ownsRow_nil _ _ _ _, Below.refl _ _⟩
    case round =>
      obtain ⟨k, hk, rfl, ho, hb⟩ := hrel
      have HO := hid ho
      have HB9 := hid hb
      have hbV := HBVcl.out _ hb
      have HbV := hid hbV
      obtain ⟨Vr, hVr⟩ : ∃ Vr, Vr = wr := ⟨_, rfl⟩
      have hcell := Hccl.out wr hbV
      by_cases hlt : k < Ncl
      · have g1 : (k : Int) < (Ncl : Int) := by omega
        have g1' : decide ((k : Int) < (Ncl : Int)) = true := by simp; omega
        have g0 : (0 : Int) ≤ (k : Int) := by omega
        have hkr : k < s.cs.length := by have := HNcl.out; omega
        obtain ⟨x, hxk⟩ : ∃ x, s.cs[k]? = some x := ⟨_, List.getElem?_eq_getElem hkr⟩
        have Htk := hid (take_getU hxk)
        obtain ⟨b9, eb9, hat⟩ := HRcl.out k hkr
        obtain ⟨_, hxe⟩ := List.getElem?_eq_some_iff.1 hxk
        rw [hxe] at hat
        obtain ⟨d9, d0, d1, d2, d3⟩ := hat wr hbV
        have Hlt := hid hlt
        have hbound : Hid (((s.cs.take k).filter (fun c => !isC t n c)).length ≤ 1000000000000) := by
          refine Nat.le_trans (List.length_filter_le _ _) (Nat.le_trans (List.length_take_le _ _) ?_)
          omega
        subst eb9
        clear hxk hkr hat hxe hlt hk ho hb hbV hVr hcell
        obtain ⟨x1, x2, x3, x4⟩ := x
        dsimp only at d0 d1 d2 d3
        cases q0 : (x1.toList == t.toList)
        · skip
          have hf := hid (show (!isC t n ⟨x1, x2, x3, x4⟩) = true from by rw [isC_eq, q0]; rfl)
          go_wp2_with (at_builtin; refine app_clL rfl (.tmp 49) (.tmp 57) rfl wr ⟨x1, x2, x3, x4⟩ rfl w.heap.size u7 _ rfl HO.out rfl (by have := hbound.out; omega) HB9.out.size ?_; intro v5 w5 ho5 hg5; have C5 := hid (HB9.out.trans ((Below.refl _ _).grown hg5 HB9.out.size (fun q hq => (HO.out.lt q hq).1))); have O5 := hid ho5; clear ho5 hg5)
          go_roundw
          case rel => exact ⟨k + 1, by have := Hlt.out; omega, by first | rfl | go_num, by rw [filt_keep Htk.out hf.out]; exact O5.out, C5.out⟩
          case measure => exact measU _ _ _ Hlt.out rfl
        · cases q1 : (x2.toList == n.toList)
          · skip
            have hf := hid (show (!isC t n ⟨x1, x2, x3, x4⟩) = true from by rw [isC_eq, q0, q1]; rfl)
            go_wp2_with (at_builtin; refine app_clL rfl (.tmp 49) (.tmp 57) rfl wr ⟨x1, x2, x3, x4⟩ rfl w.heap.size u7 _ rfl HO.out rfl (by have := hbound.out; omega) HB9.out.size ?_; intro v5 w5 ho5 hg5; have C5 := hid (HB9.out.trans ((Below.refl _ _).grown hg5 HB9.out.size (fun q hq => (HO.out.lt q hq).1))); have O5 := hid ho5; clear ho5 hg5)
            go_roundw
            case rel => exact ⟨k + 1, by have := Hlt.out; omega, by first | rfl | go_num, by rw [filt_keep Htk.out hf.out]; exact O5.out, C5.out⟩
            case measure => exact measU _ _ _ Hlt.out rfl
          · skip
            have hf := hid (show (!isC t n ⟨x1, x2, x3, x4⟩) = false from by rw [isC_eq, q0, q1]; rfl)
            go_wp2
            go_roundw
            case rel => exact ⟨k + 1, by have := Hlt.out; omega, by first | rfl | go_num, by rw [filt_skip Htk.out hf.out]; exact HO.out, HB9.out⟩
            case measure => exact measU _ _ _ Hlt.out rfl
      · have e : k = Ncl := by omega
        subst e
        have g1 : ¬ (k : Int) < (k : Int) := by omega
        have g1' : decide ((k : Int) < (k : Int)) = false := by simp
        have hall : s.cs.take k = s.cs := List.take_of_length_le (by have := HNcl.out; omega)
        have ho' := HO.out
        rw [hall] at ho'
        obtain ⟨lcl, hlcl⟩ : ∃ l, l = s.cs.filter (fun c => !isC t n c) := ⟨_, rfl⟩
        rw [← hlcl] at ho'
        obtain ⟨ncl, hncl⟩ : ∃ n, n = lcl.length := ⟨_, rfl⟩
        rw [← hncl] at ho'
        obtain ⟨acl, ccl, ecl⟩ := slice_out ho'
        subst ecl
        have HLcl := hid ho'
        have Hlcl := hid hlcl
        have Hncl := hid hncl
        have HBcl := hid HB9.out
        have HbVcl := hid HbV.out
        clear ho hb hbV hall ho' hlt hk hlcl hncl HO HB9 HbV
        obtain ⟨wcl, hwcl⟩ : ∃ w9, w9 = wr := ⟨_, rfl⟩
        rw [← hwcl] at HLcl HBcl HbVcl hcell ⊢
        clear hwcl hVr
        have HBVco := hid (fun (X : World) (hX : Below wcl.heap.size wcl X) => Below.on' HbVcl.out hX)
        go_wp2
        clear hcell g1 g1'
        go_loopw [9, 10] (fun v i wr => ∃ k : Nat, k ≤ Nco ∧ i = .int .i64 (k : Int) ∧ wr.ownsRow wcl.heap.size 59 4 v ((s.al.take k).filter (fun a => !ofC t n a)).length (coCells ((s.al.take k).filter (fun a => !ofC t n a))) ∧ Below wcl.heap.size wcl wr) (fun _ i _ => Nco - (intOf i).toNat)
        case atStart => exact ⟨0, Nat.zero_le _, rfl, World.ownsRow_nil _ _ _ _, Below.refl _ _⟩
        case round =>
          obtain ⟨k, hk, rfl, ho, hb⟩ := hrel
          have HO := hid ho
          have HB9 := hid hb
          have hbV := HBVco.out _ hb
          have HbV := hid hbV
          obtain ⟨Vr, hVr⟩ : ∃ Vr, Vr = wr := ⟨_, rfl⟩
          have hcell := Hcco.out wr hbV
          by_cases hlt : k < Nco
          · have g1 : (k : Int) < (Nco : Int) := by omega
            have g1' : decide ((k : Int) < (Nco : Int)) = true := by simp; omega
            have g0 : (0 : Int) ≤ (k : Int) := by omega
            have hkr : k < s.al.length := by have := HNco.out; omega
            obtain ⟨x, hxk⟩ : ∃ x, s.al[k]? = some x := ⟨_, List.getElem?_eq_getElem hkr⟩
            have Htk := hid (take_getU hxk)
            obtain ⟨b9, eb9, hat⟩ := HRco.out k hkr
            obtain ⟨_, hxe⟩ := List.getElem?_eq_some_iff.1 hxk
            rw [hxe] at hat
            obtain ⟨d9, d0, d1, d2, d3⟩ := hat wr hbV
            have Hlt := hid hlt
            have hbound : Hid (((s.al.take k).filter (fun a => !ofC t n a)).length ≤ 1000000000000) := by
              refine Nat.le_trans (List.length_filter_le _ _) (Nat.le_trans (List.length_take_le _ _) ?_)
              omega
            subst eb9
            clear hxk hkr hat hxe hlt hk ho hb hbV hVr hcell
            obtain ⟨x1, x2, x3, x4⟩ := x
            dsimp only at d0 d1 d2 d3
            cases q0 : (x1.toList == t.toList)
            · skip
              have hf := hid (show (!ofC t n ⟨x1, x2, x3, x4⟩) = true from by rw [ofC_eq, q0]; rfl)
              go_wp2_with (at_builtin; refine app_coL rfl (.tmp 91) (.tmp 99) rfl wr ⟨x1, x2, x3, x4⟩ rfl wcl.heap.size u9 _ rfl HO.out rfl (by have := hbound.out; omega) HB9.out.size ?_; intro v5 w5 ho5 hg5; have C5 := hid (HB9.out.trans ((Below.refl _ _).grown hg5 HB9.out.size (fun q hq => (HO.out.lt q hq).1))); have O5 := hid ho5; clear ho5 hg5)
              go_roundw
              case rel => exact ⟨k + 1, by have := Hlt.out; omega, by first | rfl | go_num, by rw [filt_keep Htk.out hf.out]; exact O5.out, C5.out⟩
              case measure => exact measU _ _ _ Hlt.out rfl
            · cases q1 : (x3.toList == n.toList)
              · skip
                have hf := hid (show (!ofC t n ⟨x1, x2, x3, x4⟩) = true from by rw [ofC_eq, q0, q1]; rfl)
                go_wp2_with (at_builtin; refine app_coL rfl (.tmp 91) (.tmp 99) rfl wr ⟨x1, x2, x3, x4⟩ rfl wcl.heap.size u9 _ rfl HO.out rfl (by have := hbound.out; omega) HB9.out.size ?_; intro v5 w5 ho5 hg5; have C5 := hid (HB9.out.trans ((Below.refl _ _).grown hg5 HB9.out.size (fun q hq => (HO.out.lt q hq).1))); have O5 := hid ho5; clear ho5 hg5)
                go_roundw
                case rel => exact ⟨k + 1, by have := Hlt.out; omega, by first | rfl | go_num, by rw [filt_keep Htk.out hf.out]; exact O5.out, C5.out⟩
                case measure => exact measU _ _ _ Hlt.out rfl
              · skip
                have hf := hid (show (!ofC t n ⟨x1, x2, x3, x4⟩) = false from by rw [ofC_eq, q0, q1]; rfl)
                go_wp2
                go_roundw
                case rel => exact ⟨k + 1, by have := Hlt.out; omega, by first | rfl | go_num, by rw [filt_skip Htk.out hf.out]; exact HO.out, HB9.out⟩
                case measure => exact measU _ _ _ Hlt.out rfl
          · have e : k = Nco := by omega
            subst e
            have g1 : ¬ (k : Int) < (k : Int) := by omega
            have g1' : decide ((k : Int) < (k : Int)) = false := by simp
            have hall : s.al.take k = s.al := List.take_of_length_le (by have := HNco.out; omega)
            have ho' := HO.out
            rw [hall] at ho'
            obtain ⟨lco, hlco⟩ : ∃ l, l = s.al.filter (fun a => !ofC t n a) := ⟨_, rfl⟩
            rw [← hlco] at ho'
            obtain ⟨nco, hnco⟩ : ∃ n, n = lco.length := ⟨_, rfl⟩
            rw [← hnco] at ho'
            obtain ⟨aco, cco, eco⟩ := slice_out ho'
            subst eco
            have HLco := hid ho'
            have Hlco := hid hlco
            have Hnco := hid hnco
            have HBco := hid HB9.out
            have HbVco := hid HbV.out
            clear ho hb hbV hall ho' hlt hk hlco hnco HO HB9 HbV
            obtain ⟨wco, hwco⟩ : ∃ w9, w9 = wr := ⟨_, rfl⟩
            rw [← hwco] at HLco HBco HbVco hcell ⊢
            clear hwco hVr
            have hrF := hid (HRA.out.below HbVco.out)
            have Hall := hid (HBcl.out.trans (HBco.out.mono HBcl.out.size))
            have f0 : wco.frozen? ⟨g, 0, none⟩ = false := frozen_of_row _ _ _ _ _ hrF.out.obj
            have hcl9 := own_onU HLcl.out HBco.out
            rw [Hncl.out] at hcl9
            obtain ⟨k1, k2⟩ := HRA.out.setc (l := lcl) HbVco.out HgB.out hcl9
            have hco9 := own_setG (i := 0) (x := .slice acl ncl ccl) HLco.out hrF.out.obj (by decide)
            rw [Hnco.out] at hco9
            rw [← Hncl.out] at k1 k2
            obtain ⟨k3, k4⟩ := k1.seta (l := lco) (Below.refl _ _) (Nat.le_trans HgB.out HBcl.out.size) hco9
            rw [← Hnco.out] at k3 k4
            have f1 : (wco.setCell ⟨g, 0, none⟩ (.slice acl ncl ccl)).frozen? ⟨g, 1, none⟩ = false := frozen_of_row _ _ _ _ _ k1.obj
            have c1' := k1.c1
            have K3 := hid k3
            have K4 := hid (k2.trans k4)
            have c0' := hrF.out.c0
            clear k1 k2 k3 k4 hcl9 hco9
            go_wp2
            go_ret
            refine ⟨by rw [Hne.out]; rfl, K4.out, ?_⟩
            rw [HS9.out, ← Hlcl.out, ← Hlco.out]
            exact ⟨_, _, K3.out⟩
end Go.Proofs.YtlkbojgemcjilaaGreatDoor
