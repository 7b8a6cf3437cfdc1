/- A running hash goes on: (running).with. -/
import Derived.Test.YthfmpebgmojcaaaDoorHPart
namespace Go.Proofs.YthfmpebgmojcaaaDoor
open Go.RowKit
set_option linter.unusedVariables false
set_option maxRecDepth 20000
set_option maxRecDepth 20000

theorem Bytes.drop {w : World} {b o : Nat} {l : List UInt8} (h : Bytes w (some ⟨b, o, none⟩) l) (k : Nat) : Bytes w (some ⟨b, o + k, none⟩) (l.drop k) := fun i hi => by
  have hi' : k + i < l.length := by simp at hi; omega
  obtain ⟨b', o', e, hc⟩ := h (k + i) hi'
  cases e
  exact ⟨b, o + k, rfl, by rw [Nat.add_assoc, hc]; simp⟩
theorem rcells_size (s : S8) (bk : List UInt8) (n : Nat) (h : bk.length = 64) : (rcells s bk n)[72]? = some (.int .i64 (n : Int)) := by
  have h8 : (s.toL.map vw).length = 8 := rfl
  rw [rcells, List.getElem?_append_right (by omega), List.getElem?_append_right (by rw [cellsOf_length, h8]; omega), h8, cellsOf_length, h]
  rfl
theorem rcells_set (s : S8) (bk : List UInt8) (n m : Nat) (h : bk.length = 64) : (rcells s bk n).set 72 (.int .i64 (m : Int)) = rcells s bk m := by
  have h8 : (s.toL.map vw).length = 8 := rfl
  rw [rcells, List.set_append_right _ _ (by omega), List.set_append_right _ _ (by rw [cellsOf_length, h8]; omega), h8, cellsOf_length, h]
  rfl
theorem rcells_length (s : S8) (bk : List UInt8) (n : Nat) (h : bk.length = 64) : (rcells s bk n).length = 73 := by simp [rcells, S8.toL, cellsOf, h]

theorem size_byte : (Tryd.prog.info? 5).map (·.size) = some 1 := by kernel_rfl

set_option maxHeartbeats 1000000 in
theorem with_any {w : World} {D : List UInt8} {s : S8} {bk : List UInt8} {f : Nat} (hP : Part D s bk f) (l : List UInt8) (a : Option Addr) (cap : Nat) (hB : Bytes w a l) (hl : D.length + l.length < 4611686018427387904) (hcap : l.length ≤ cap) (hK : KAt w) :
    Calls Tryd.prog 65 #[.agg (rvals s bk D.length), .slice a l.length cap] w fun e w' => ∃ s' bk' f', e = .returned (.agg (rvals s' bk' (D ++ l).length)) ∧ Part (D ++ l) s' bk' f' ∧ Below w.heap.size w w' := by
  have HP := hid hP
  have HB := hid hB
  have HK := hid hK
  have lbk := hP.len
  have zr := hid (zero_of_info zero_running).1
  have q1 : ((D.length : Int).tmod 64) = (f : Int) := by rw [Int.tmod_eq_emod_of_nonneg (by omega)]; have := hP.fl; omega
  have q2 : IntKind.i64.wrap ((D.length : Int) + (l.length : Int)) = (((D ++ l).length : Nat) : Int) := by rw [IntKind.wrap_i64]; simp; omega
  obtain ⟨N, hN⟩ : ∃ N, N = D.length := ⟨_, rfl⟩
  obtain ⟨M, hM⟩ : ∃ M, M = (D ++ l).length := ⟨_, rfl⟩
  have HM := hid hM
  obtain ⟨R, hR⟩ : ∃ R, R = rcells s bk N := ⟨_, rfl⟩
  obtain ⟨Z, hZ⟩ : ∃ Z, Z = rvals ⟨0, 0, 0, 0, 0, 0, 0, 0⟩ (List.replicate 64 0) 0 := ⟨_, rfl⟩
  have HZs : Hid (Z.size = 73) := by
    show _ = _
    rw [hZ]; exact rvals_size _ _ _ (by simp)
  have hr : rvals s bk D.length = R.toArray := by rw [hR, hN]; rfl
  have r72 : R[72]? = some (.int .i64 (N : Int)) := by rw [hR]; exact rcells_size _ _ _ lbk
  have rset : Hid (R.set 72 (.int .i64 (M : Int)) = rcells s bk M) := by
    show _ = _
    rw [hR]; exact rcells_set _ _ _ _ lbk
  rw [← hZ] at zr
  rw [hr]
  rw [← hM]
  rw [← hN] at q1 q2 hl
  rw [← hM] at q2
  have g0 := hid (heap_alloc2_old w (.cells R.toArray 134) (.cells Z 134))
  have g1 := hid (heap_alloc2_new w (.cells R.toArray 134) (.cells Z 134))
  have c72 : ((w.alloc (.cells R.toArray 134)).alloc (.cells Z 134)).cell? ⟨w.heap.size, 72, none⟩ = some (.int .i64 (N : Int)) := by
    rw [cell_of_row _ _ 72 _ _ _ g0.out]; simpa using r72
  have z72 := frozen_of_row _ _ 72 _ _ g0.out
  clear hP hB hK lbk hM hR hZ hr r72 hN
  go_enter Tryd.func65, Tryd.ntmps65
  go_wp2_with (with_reducible show Go.wpList _ _ _ _ _ _; refine wpList_alloc_row rfl 134 rfl Z zr.out ?_)
  have hrow : Hid ((R.set 72 (.int .i64 (M : Int))).toArray = (rcells s bk M).toArray) := by
    show _ = _
    rw [rset.out]
  go_loopw [1, 5] (fun v1 v5 wr => ∃ (E rest : List UInt8) (s' : S8) (bk' : List UInt8) (f' : Nat) (a' : Option Addr) (cap' : Nat), v1 = .slice a' rest.length cap' ∧ v5 = .int .i64 f' ∧ E ++ rest = D ++ l ∧ Part E s' bk' f' ∧ wr.heap[w.heap.size]? = some (.cells (rcells s' bk' M).toArray 134 (0, 0)) ∧ wr.heap[w.heap.size + 1]? = some (.cells Z 134 (0, 0)) ∧ Bytes w a' rest ∧ rest.length ≤ cap' ∧ rest.length ≤ l.length ∧ Below w.heap.size w wr) (fun v1 _ _ => match v1 with | .slice _ n _ => n | _ => 0)
  case atStart => exact ⟨D, l, s, bk, f, a, cap, rfl, rfl, rfl, HP.out, by rw [hrow.out]; exact heap_alloc2_old w _ _, heap_alloc2_new w _ _, HB.out, hcap, Nat.le_refl _, ((Below.refl _ w).alloc (Nat.le_refl _) _).alloc (by simp) _⟩
  case round =>
    clear hrow c72 z72 g0 g1 HP HB q1 q2 rset zr hcap
    obtain ⟨E, rest, s', bk', f', a', cap', rfl, rfl, hE, hP, hW, hZ, hB, hc, hrl, hbel⟩ := hrel
    have HE := hid hE
    have HP := hid hP
    have HW := hid hW
    have HZ := hid hZ
    have HB := hid hB
    have Hbel := hid hbel
    have hf := hP.lt
    have lbk := hid hP.len
    clear hE hP hW hZ hB hbel
    by_cases hge : 64 ≤ f' + rest.length
    · have q1 : IntKind.i64.wrap ((f' : Int) + (rest.length : Int)) = (f' : Int) + (rest.length : Int) := by rw [IntKind.wrap_i64]; omega
      have q2 : (64 : Int) ≤ (f' : Int) + (rest.length : Int) := by omega
      have q3 : (0 : Int) ≤ (f' : Int) := by omega
      have q4 : (f' : Int) ≤ 64 := by omega
      have q5 : ¬ (64 = f') := by omega
      obtain ⟨c, hcc⟩ : ∃ c, c = rest.take (64 - f') := ⟨_, rfl⟩
      have lc : c.length = 64 - f' := by rw [hcc]; simp; omega
      have Hcc := hid hcc
      have pos : 0 < rest.length := by omega
      obtain ⟨b0, o0, ha0, _⟩ := HB.out 0 pos
      obtain rfl : a' = some ⟨b0, o0, none⟩ := ha0
      clear hcc
      obtain ⟨bk2, hbk2⟩ : ∃ bk2, bk2 = bk'.take f' ++ c := ⟨_, rfl⟩
      have lbk2 : bk2.length = 64 := by rw [hbk2]; simp [lbk.out, lc]; omega
      have Hstep : Hid (Part (E ++ c) (comp s' bk2) bk2 0) := by
        have := HP.out.step c lc
        rw [← hbk2] at this
        exact this
      have spl : ((rcells s' bk' M).toArray.toList.take (8 + f') ++ (cellsOf c ++ (rcells s' bk' M).toArray.toList.drop (8 + f' + (cellsOf c).length))).toArray = (rcells s' bk2 M).toArray := by
        have h := rcells_splice s' bk' M f' lbk.out c (by omega)
        rw [show bk'.drop (f' + c.length) = [] by apply List.drop_eq_nil_of_le; rw [lbk.out]; omega, List.append_nil, ← hbk2] at h
        rw [← h]
        rfl
      obtain ⟨sc, hsc⟩ : ∃ sc, sc = s'.toL.map vw := ⟨_, rfl⟩
      obtain ⟨tc, htc⟩ : ∃ tc, tc = (comp s' bk2).toL.map vw := ⟨_, rfl⟩
      obtain ⟨bc, hbc⟩ : ∃ bc, bc = cellsOf bk2 := ⟨_, rfl⟩
      have Hcall : Hid (∀ W, KAt W → Calls Tryd.prog 89 #[.agg sc.toArray, .agg bc.toArray] W fun e w' => e = .returned (.agg tc.toArray) ∧ Below W.heap.size W w') := fun W hW => by
        have h := swith_any s' bk2 lbk2 W hW
        rw [hsc, htc, hbc]
        exact h
      have hsl : sc.length = 8 := by rw [hsc]; rfl
      have htl : tc.length = 8 := by rw [htc]; rfl
      have hbl : bc.length = 64 := by rw [hbc, cellsOf_length, lbk2]
      have eW : ∀ X, rcells s' bk2 X = sc ++ (bc ++ [Value.int .i64 (X : Int)]) := fun X => by rw [hsc, hbc]; rfl
      have eT : Hid (rcells (comp s' bk2) bk2 M = tc ++ (bc ++ [Value.int .i64 (M : Int)])) := by
        show _ = _
        rw [htc, hbc]; rfl
      have hto : ∀ u ∈ tc, u.oneCell' = true := by
        intro u hu
        rw [htc] at hu
        obtain ⟨x, _, rfl⟩ := List.mem_map.1 hu
        rfl
      have Hs : Hid (∀ j v, (cellsOf c)[j]? = some v → wr.cell? ((⟨b0, o0, none⟩ : Addr).add j) = some v) := fun j v hj => by
        have hj' : j < c.length := by have := (List.getElem?_eq_some_iff.1 hj).1; simpa [cellsOf_length] using this
        have hj2 : j < rest.length := by omega
        obtain ⟨b', o', e', hcl⟩ := HB.out j hj2
        cases e'
        rw [cellsOf_get c j hj'] at hj
        have e2 : c[j] = rest[j] := by simp [Hcc.out]
        rw [Addr.add_mid, Hbel.out.cell (World.block_lt_of_cell? _ _ hcl), hcl, ← hj, e2]
      have Hn : Hid ((cellsOf c).length = Nat.min rest.length (64 - f')) := by
        show _ = _
        rw [cellsOf_length, lc]
        exact (Nat.min_eq_right (by omega)).symm
      have Hfit : Hid (8 + f' + (cellsOf c).length ≤ (rcells s' bk' M).toArray.size) := by
        show _ ≤ _
        rw [cellsOf_length, lc]
        simp only [List.size_toArray]
        rw [rcells_length _ _ _ lbk.out]; omega
      have H1 := hid (cellsOf_one c)
      have lcc : (cellsOf c).length = 64 - f' := by rw [cellsOf_length, lc]
      obtain ⟨cc, hccc⟩ : ∃ cc, cc = cellsOf c := ⟨_, rfl⟩
      rw [← hccc] at spl Hs Hn Hfit H1 lcc
      obtain ⟨RR, hRR⟩ : ∃ RR, RR = rcells s' bk' M := ⟨_, rfl⟩
      rw [← hRR] at spl Hfit HW
      rw [eW] at spl
      rw [List.toList_toArray] at spl
      have Spl := hid spl
      clear hbk2 hsc htc hbc hccc hRR spl eW lbk2 HP
      go_wp2_with fail
      rw [run_copy_row (P := Tryd.prog) wr 40 40 3 5 w.heap.size (8 + f') (64 - f') (64 - f') ⟨b0, o0, none⟩ rest.length cap' RR.toArray 134 cc Tryd.underlying40 size_byte HW.out Hn.out Hs.out Hfit.out H1.out]
      simp only [Result.andThen]
      rw [Oper.upon_value, List.append_assoc, Spl.out, lcc]
      obtain ⟨W2, hW2⟩ : ∃ W2, W2 = wr.setRow w.heap.size (sc ++ (bc ++ [Value.int .i64 (M : Int)])).toArray := ⟨_, rfl⟩
      have r2 : Hid (W2.heap[w.heap.size]? = some (.cells (sc ++ (bc ++ [Value.int .i64 (M : Int)])).toArray 134 (0, 0))) := by
        show _ = _
        rw [hW2]; exact setRow_heap _ _ _ _ _ _ HW.out
      have z2 : Hid (W2.heap[w.heap.size + 1]? = some (.cells Z 134 (0, 0))) := by
        show _ = _
        rw [hW2]; exact (setRow_other _ _ _ _ (by omega)).trans HZ.out
      have Hb2 : Hid (Below w.heap.size w W2) := by
        show Below _ _ _
        rw [hW2]; exact Hbel.out.setRow (Nat.le_refl _) _
      have m1 : Hid (W2.rangeAt w.heap.size 0 sc) := fun j v hj => by
        rw [Nat.zero_add, cell_of_row _ _ _ _ _ _ r2.out, List.getElem?_toArray, List.getElem?_append_left (List.getElem?_eq_some_iff.1 hj).1, hj]
      have m2 : Hid (W2.rangeAt w.heap.size 8 bc) := fun j v hj => by
        rw [cell_of_row _ _ _ _ _ _ r2.out, List.getElem?_toArray, List.getElem?_append_right (by omega), hsl, Nat.add_sub_cancel_left, List.getElem?_append_left (List.getElem?_eq_some_iff.1 hj).1, hj]
      have i1 : Hid ((Tryd.prog.info? 131).map (·.size) = some sc.length) := by
        show _ = _
        rw [hsl]; exact size_state
      have i2 : Hid ((Tryd.prog.info? 132).map (·.size) = some bc.length) := by
        show _ = _
        rw [hbl]; exact size_block
      rw [← hW2]
      clear hW2
      go_wp2_with (with_reducible show Go.wpList _ _ _ _ _ _; first
        | refine wpList_load_mid rfl 131 _ rfl w.heap.size 0 rfl sc _ m1.out Tryd.underlying131 rfl i1.out ?_
        | refine wpList_load_mid rfl 132 _ rfl w.heap.size 8 rfl bc _ m2.out Tryd.underlying132 rfl i2.out ?_)
      refine (Hcall.out _ (HK.out.below Hb2.out)).mono ?_
      rintro _ w3 ⟨rfl, hb3⟩
      have hlt2 : w.heap.size + 1 < W2.heap.size := (Array.getElem?_eq_some_iff.1 z2.out).1
      have r3 : Hid (w3.heap[w.heap.size]? = some (.cells (sc ++ (bc ++ [Value.int .i64 (M : Int)])).toArray 134 (0, 0))) := (hb3.block _ (by omega)).trans r2.out
      have z3 : Hid (w3.heap[w.heap.size + 1]? = some (.cells Z 134 (0, 0))) := (hb3.block _ (by omega)).trans z2.out
      have Hb3 : Hid (Below w.heap.size w w3) := Hb2.out.trans (hb3.mono (by omega))
      have th : Hid (w3.there w.heap.size 0 tc.toArray.size) := fun j hj => by
        have hj' : j < 8 := by simpa [htl] using hj
        rw [Nat.zero_add]
        refine ⟨?_, frozen_of_row _ _ _ _ _ r3.out⟩
        rw [cell_of_row _ _ _ _ _ _ r3.out, List.getElem?_toArray, List.getElem?_append_left (by omega), List.getElem?_eq_getElem (by omega)]
        rfl
      have i3 : Hid ((Tryd.prog.info? 131).map (·.size) = some tc.toArray.size) := by
        show _ = _
        rw [List.size_toArray, htl]; exact size_state
      have o3 : Hid (tc.toArray.all (·.oneCell') = true) := all_oneCell_toArray hto
      have n3 : Hid ((w3.setCells w.heap.size 0 tc).heap[w.heap.size]? = some (.cells (rcells (comp s' bk2) bk2 M).toArray 134 (0, 0))) := by
        show _ = _
        rw [heap_setCells_same _ _ tc 0 w3 _ r3.out (by simp; omega), eT.out]
        congr 3
        unfold splice
        rw [List.take_zero, List.nil_append, Nat.zero_add, htl, ← hsl, List.drop_left]
      have z4 : Hid ((w3.setCells w.heap.size 0 tc).heap[w.heap.size + 1]? = some (.cells Z 134 (0, 0))) := (other_setCells _ _ (by omega) tc 0 w3).trans z3.out
      have b4 : Hid (Below w.heap.size w (w3.setCells w.heap.size 0 tc)) := below_setCells _ (Nat.le_refl _) tc 0 w3 Hb3.out
      have t1 : (0 : Int) ≤ ((64 - f' : Nat) : Int) := by omega
      have t2 : ((64 - f' : Nat) : Int) ≤ (rest.length : Int) := by omega
      have t3 : ((64 - f' : Nat) : Int) ≤ (cap' : Int) := by omega
      clear hb3 hlt2 r2 z2 Hb2 m1 m2 i1 i2 HW HZ Hbel Hn Hs Hfit H1 Spl Hcall
      go_wp2_with (with_reducible show Go.wpList _ _ _ _ _ _; refine wpList_store_mid rfl 131 _ _ rfl w.heap.size 0 tc.toArray rfl rfl th.out i3.out o3.out ?_; rw [List.toList_toArray])
      go_roundw
      case rel =>
        refine ⟨E ++ c, rest.drop (64 - f'), comp s' bk2, bk2, 0, _, cap' - (64 - f'), by rw [List.length_drop], rfl, ?_, Hstep.out, n3.out, z4.out, ?_, by rw [List.length_drop]; omega, by rw [List.length_drop]; omega, b4.out⟩
        · rw [List.append_assoc, Hcc.out, List.take_append_drop]; exact HE.out
        · by_cases he : cap' = 64 - f'
          · rw [if_pos he]
            intro i hi
            rw [List.length_drop] at hi
            omega
          · rw [if_neg he]
            exact HB.out.drop _
      case measure => simp; omega
    · have q1 : IntKind.i64.wrap ((f' : Int) + (rest.length : Int)) = (f' : Int) + (rest.length : Int) := by rw [IntKind.wrap_i64]; omega
      have q2 : ¬ (64 : Int) ≤ (f' : Int) + (rest.length : Int) := by omega
      have q3 : (0 : Int) ≤ (f' : Int) := by omega
      have q4 : (f' : Int) ≤ 64 := by omega
      have q5 : ¬ (64 = f') := by omega
      have Hcopy : ∃ (v : Value) (W2 : World) (bk3 : List UInt8), Hid ((Builtin.copy_ #[40, 40] 3 #[.slice (some ⟨w.heap.size, 8 + f', none⟩) (64 - f') (64 - f'), .slice a' rest.length cap']).run Tryd.prog wr = .ok v W2) ∧ Hid (Part (D ++ l) s' bk3 (f' + rest.length)) ∧ Hid (W2.heap[w.heap.size]? = some (.cells (rcells s' bk3 M).toArray 134 (0, 0))) ∧ Hid (W2.heap[w.heap.size + 1]? = some (.cells Z 134 (0, 0))) ∧ Hid (Below w.heap.size w W2) := by
        have hmore := HP.out.more rest (by omega)
        rw [HE.out] at hmore
        by_cases h0 : rest.length = 0
        · have hr := run_copy_none (P := Tryd.prog) wr 40 40 3 5 (some ⟨w.heap.size, 8 + f', none⟩) a' (64 - f') (64 - f') rest.length cap' Tryd.underlying40 size_byte (by rw [h0]; exact Nat.min_eq_left (by omega))
          refine ⟨_, _, _, hr, hmore, ?_, HZ.out, Hbel.out⟩
          have hr0 : rest = [] := List.length_eq_zero_iff.1 h0
          have : bk'.take f' ++ (rest ++ bk'.drop (f' + rest.length)) = bk' := by rw [hr0]; simp
          rw [this]
          exact HW.out
        · obtain ⟨b0, o0, ha0, _⟩ := HB.out 0 (by omega)
          obtain rfl : a' = some ⟨b0, o0, none⟩ := ha0
          have hr := run_copy_row (P := Tryd.prog) wr 40 40 3 5 w.heap.size (8 + f') (64 - f') (64 - f') ⟨b0, o0, none⟩ rest.length cap' (rcells s' bk' M).toArray 134 (cellsOf rest) Tryd.underlying40 size_byte HW.out
            (by rw [cellsOf_length]; exact (Nat.min_eq_left (by omega)).symm)
            (fun j v hj => by
              have hj' : j < rest.length := by have := (List.getElem?_eq_some_iff.1 hj).1; simpa [cellsOf_length] using this
              obtain ⟨b', o', e', hcl⟩ := HB.out j hj'
              cases e'
              rw [cellsOf_get rest j hj'] at hj
              rw [Addr.add_mid, Hbel.out.cell (World.block_lt_of_cell? _ _ hcl), hcl, ← hj])
            (by rw [cellsOf_length]; simp only [List.size_toArray]; rw [rcells_length _ _ _ lbk.out]; omega) (cellsOf_one rest)
          refine ⟨_, _, _, hr, hmore, ?_, (setRow_other _ _ _ _ (by omega)).trans HZ.out, Hbel.out.setRow (Nat.le_refl _) _⟩
          have h := rcells_splice s' bk' M f' lbk.out rest (by omega)
          rw [← h]
          show (wr.setRow _ _).heap[w.heap.size]? = _
          rw [setRow_heap _ _ _ _ _ _ HW.out]
          congr 3
          unfold splice
          simp
      obtain ⟨v, W2, bk3, hrun, hPart, hrow2, hz2, hbel2⟩ := Hcopy
      have i5 : Hid ((Tryd.prog.info? 134).map (·.size) = some (rcells s' bk3 M).toArray.size) := by
        show _ = _
        rw [List.size_toArray, rcells_length _ _ _ hPart.out.len]; exact size_running
      have o5 : Hid (Z.size = (rcells s' bk3 M).toArray.size) := by
        show _ = _
        exact HZs.out.trans (by simp only [List.size_toArray]; rw [rcells_length _ _ _ hPart.out.len])
      have e5 : Hid ((rcells s' bk3 M).toArray.all (·.oneCell') = true) := rvals_one s' bk3 M
      have Hres : Hid ((rcells s' bk3 M).toArray = rvals s' bk3 M) := rfl
      generalize (rcells s' bk3 M).toArray = QQ at hrow2 i5 o5 e5 Hres
      clear HZs HW HZ Hbel HB HE HP lbk HK
      go_wp2_with fail
      rw [hrun.out]
      simp only [Result.andThen]
      rw [Oper.upon_value]
      clear hrun
      go_wp2_with (with_reducible show Go.wpList _ _ _ _ _ _; first
        | refine wpList_load_row rfl 134 _ rfl w.heap.size rfl 134 QQ (0, 0) _ hrow2.out Tryd.underlying134 rfl i5.out ?_
        | refine wpList_store_row rfl 134 _ _ rfl (w.heap.size + 1) QQ rfl rfl 134 Z hz2.out i5.out o5.out e5.out ?_)
      refine bodyPost_ret (results_cell_row rfl _ _ (w.heap.size + 1) 134 QQ (0, 0) _ rfl (setRow_heap _ _ _ _ _ _ hz2.out) Tryd.underlying134 rfl i5.out) rfl ⟨s', bk3, _, by rw [Hres.out], hPart.out, ?_⟩
      exact hbel2.out.setRow (by omega) _
end Go.Proofs.YthfmpebgmojcaaaDoor
