/- YtomhcccjeadefaaGreatDoorHWith + YtomhcccjeadefaaGreatDoorHEnd -/
import Derived.Test.YtomhcccjeadefaaGreatDoorHPart
/- A running hash goes on: (running).with. -/
namespace Go.Proofs.YtomhcccjeadefaaGreatDoor
open Go.RowKit
set_option linter.unusedVariables false
set_option maxRecDepth 20000
theorem Bytes.drop {w : World} {b o : Nat} {l : List UInt8} (h : Bytes w (some ⟨b, o, none⟩) l) (k : Nat) : Bytes w (some ⟨b, o + k, none⟩) (l.drop k) := fun i hi => by
  have hi' : k + i < l.length := by simp at hi; omega
  obtain ⟨b', o', e, hc⟩ := h (k + i) hi'
  cases e
  exact ⟨b, o + k, rfl, by rw [Nat.add_assoc, hc]; simp⟩
theorem rcells_size (s : S8) (bk : List UInt8) (n : Nat) (h : bk.length = 64) : (rcells s bk n)[72]? = some (.int .i64 (n : Int)) := by
  have h8 : (s.toL.map vw).length = 8 := rfl
  rw [rcells, List.getElem?_append_right (by omega), List.getElem?_append_right (by rw [cellsOf_length, h8]; omega), h8, cellsOf_length, h]
  rfl
theorem rcells_set (s : S8) (bk : List UInt8) (n m : Nat) (h : bk.length = 64) : (rcells s bk n).set 72 (.int .i64 (m : Int)) = rcells s bk m := by
  have h8 : (s.toL.map vw).length = 8 := rfl
  rw [rcells, List.set_append_right _ _ (by omega), List.set_append_right _ _ (by rw [cellsOf_length, h8]; omega), h8, cellsOf_length, h]
  rfl
theorem rcells_length (s : S8) (bk : List UInt8) (n : Nat) (h : bk.length = 64) : (rcells s bk n).length = 73 := by simp [rcells, S8.toL, cellsOf, h]
theorem size_byte : (Tryz.prog.info? 5).map (·.size) = some 1 := by kernel_rfl
set_option maxHeartbeats 1000000 in
theorem with_any {w : World} {D : List UInt8} {s : S8} {bk : List UInt8} {f : Nat} (hP : Part D s bk f) (l : List UInt8) (a : Option Addr) (cap : Nat) (hB : Bytes w a l) (hl : D.length + l.length < 4611686018427387904) (hcap : l.length ≤ cap) (hK : KAt w) :
    Calls Tryz.prog 17 #[.agg (rvals s bk D.length), .slice a l.length cap] w fun e w' => ∃ s' bk' f', e = .returned (.agg (rvals s' bk' (D ++ l).length)) ∧ Part (D ++ l) s' bk' f' ∧ Below w.heap.size w w' := by
  have HP := hid hP
  have HB := hid hB
  have HK := hid hK
  have lbk := hP.len
  have zr := hid (zero_of_info zero_running).1
  have q1 : ((D.length : Int).tmod 64) = (f : Int) := by rw [Int.tmod_eq_emod_of_nonneg (by omega)]; have := hP.fl; omega
  have q2 : IntKind.i64.wrap ((D.length : Int) + (l.length : Int)) = (((D ++ l).length : Nat) : Int) := by rw [IntKind.wrap_i64]; simp; omega
  obtain ⟨N, hN⟩ : ∃ N, N = D.length := ⟨_, rfl⟩
  obtain ⟨M, hM⟩ : ∃ M, M = (D ++ l).length := ⟨_, rfl⟩
  have HM := hid hM
  obtain ⟨R, hR⟩ : ∃ R, R = rcells s bk N := ⟨_, rfl⟩
  obtain ⟨Z, hZ⟩ : ∃ Z, Z = rvals ⟨0, 0, 0, 0, 0, 0, 0, 0⟩ (List.replicate 64 0) 0 := ⟨_, rfl⟩
  have HZs : Hid (Z.size = 73) := by
    show _ = _
    rw [hZ]; exact rvals_size _ _ _ (by simp)
  have hr : rvals s bk D.length = R.toArray := by rw [hR, hN]; rfl
  have r72 : R[72]? = some (.int .i64 (N : Int)) := by rw [hR]; exact rcells_size _ _ _ lbk
  have rset : Hid (R.set 72 (.int .i64 (M : Int)) = rcells s bk M) := by
    show _ = _
    rw [hR]; exact rcells_set _ _ _ _ lbk
  rw [← hZ] at zr
  rw [hr]
  rw [← hM]
  rw [← hN] at q1 q2 hl
  rw [← hM] at q2
  have g0 := hid (heap_alloc2_old w (.cells R.toArray 64) (.cells Z 64))
  have g1 := hid (heap_alloc2_new w (.cells R.toArray 64) (.cells Z 64))
  have c72 : ((w.alloc (.cells R.toArray 64)).alloc (.cells Z 64)).cell? ⟨w.heap.size, 72, none⟩ = some (.int .i64 (N : Int)) := by
    rw [cell_of_row _ _ 72 _ _ _ g0.out]; simpa using r72
  have z72 := frozen_of_row _ _ 72 _ _ g0.out
  clear hP hB hK lbk hM hR hZ hr r72 hN
  go_enter Tryz.func17, Tryz.ntmps17
  go_wp2_with (with_reducible show Go.wpList _ _ _ _ _ _; refine wpList_alloc_row rfl 64 rfl Z zr.out ?_)
  have hrow : Hid ((R.set 72 (.int .i64 (M : Int))).toArray = (rcells s bk M).toArray) := by
    show _ = _
    rw [rset.out]
  go_loopw [1, 5] (fun v1 v5 wr => ∃ (E rest : List UInt8) (s' : S8) (bk' : List UInt8) (f' : Nat) (a' : Option Addr) (cap' : Nat), v1 = .slice a' rest.length cap' ∧ v5 = .int .i64 f' ∧ E ++ rest = D ++ l ∧ Part E s' bk' f' ∧ wr.heap[w.heap.size]? = some (.cells (rcells s' bk' M).toArray 64 (0, 0)) ∧ wr.heap[w.heap.size + 1]? = some (.cells Z 64 (0, 0)) ∧ Bytes w a' rest ∧ rest.length ≤ cap' ∧ rest.length ≤ l.length ∧ Below w.heap.size w wr) (fun v1 _ _ => match v1 with | .slice _ n _ => n | _ => 0)
  case atStart => exact ⟨D, l, s, bk, f, a, cap, rfl, rfl, rfl, HP.out, by rw [hrow.out]; exact heap_alloc2_old w _ _, heap_alloc2_new w _ _, HB.out, hcap, Nat.le_refl _, ((Below.refl _ w).alloc (Nat.le_refl _) _).alloc (by simp) _⟩
  case round =>
    clear hrow c72 z72 g0 g1 HP HB q1 q2 rset zr hcap
    obtain ⟨E, rest, s', bk', f', a', cap', rfl, rfl, hE, hP, hW, hZ, hB, hc, hrl, hbel⟩ := hrel
    have HE := hid hE
    have HP := hid hP
    have HW := hid hW
    have HZ := hid hZ
    have HB := hid hB
    have Hbel := hid hbel
    have hf := hP.lt
    have lbk := hid hP.len
    clear hE hP hW hZ hB hbel
    by_cases hge : 64 ≤ f' + rest.length
    · have q1 : IntKind.i64.wrap ((f' : Int) + (rest.length : Int)) = (f' : Int) + (rest.length : Int) := by rw [IntKind.wrap_i64]; omega
      have q2 : (64 : Int) ≤ (f' : Int) + (rest.length : Int) := by omega
      have q3 : (0 : Int) ≤ (f' : Int) := by omega
      have q4 : (f' : Int) ≤ 64 := by omega
      have q5 : ¬ (64 = f') := by omega
      obtain ⟨c, hcc⟩ : ∃ c, c = rest.take (64 - f') := ⟨_, rfl⟩
      have lc : c.length = 64 - f' := by rw [hcc]; simp; omega
      have Hcc := hid hcc
      have pos : 0 < rest.length := by omega
      obtain ⟨b0, o0, ha0, _⟩ := HB.out 0 pos
      obtain rfl : a' = some ⟨b0, o0, none⟩ := ha0
      clear hcc
      obtain ⟨bk2, hbk2⟩ : ∃ bk2, bk2 = bk'.take f' ++ c := ⟨_, rfl⟩
      have lbk2 : bk2.length = 64 := by rw [hbk2]; simp [lbk.out, lc]; omega
      have Hstep : Hid (Part (E ++ c) (comp s' bk2) bk2 0) := by
        have := HP.out.step c lc
        rw [← hbk2] at this
        exact this
      have spl : ((rcells s' bk' M).toArray.toList.take (8 + f') ++ (cellsOf c ++ (rcells s' bk' M).toArray.toList.drop (8 + f' + (cellsOf c).length))).toArray = (rcells s' bk2 M).toArray := by
        have h := rcells_splice s' bk' M f' lbk.out c (by omega)
        rw [show bk'.drop (f' + c.length) = [] by apply List.drop_eq_nil_of_le; rw [lbk.out]; omega, List.append_nil, ← hbk2] at h
        rw [← h]
        rfl
      obtain ⟨sc, hsc⟩ : ∃ sc, sc = s'.toL.map vw := ⟨_, rfl⟩
      obtain ⟨tc, htc⟩ : ∃ tc, tc = (comp s' bk2).toL.map vw := ⟨_, rfl⟩
      obtain ⟨bc, hbc⟩ : ∃ bc, bc = cellsOf bk2 := ⟨_, rfl⟩
      have Hcall : Hid (∀ W, KAt W → Calls Tryz.prog 36 #[.agg sc.toArray, .agg bc.toArray] W fun e w' => e = .returned (.agg tc.toArray) ∧ Below W.heap.size W w') := fun W hW => by
        have h := swith_any s' bk2 lbk2 W hW
        rw [hsc, htc, hbc]
        exact h
      have hsl : sc.length = 8 := by rw [hsc]; rfl
      have htl : tc.length = 8 := by rw [htc]; rfl
      have hbl : bc.length = 64 := by rw [hbc, cellsOf_length, lbk2]
      have eW : ∀ X, rcells s' bk2 X = sc ++ (bc ++ [Value.int .i64 (X : Int)]) := fun X => by rw [hsc, hbc]; rfl
      have eT : Hid (rcells (comp s' bk2) bk2 M = tc ++ (bc ++ [Value.int .i64 (M : Int)])) := by
        show _ = _
        rw [htc, hbc]; rfl
      have hto : ∀ u ∈ tc, u.oneCell' = true := by
        intro u hu
        rw [htc] at hu
        obtain ⟨x, _, rfl⟩ := List.mem_map.1 hu
        rfl
      have Hs : Hid (∀ j v, (cellsOf c)[j]? = some v → wr.cell? ((⟨b0, o0, none⟩ : Addr).add j) = some v) := fun j v hj => by
        have hj' : j < c.length := by have := (List.getElem?_eq_some_iff.1 hj).1; simpa [cellsOf_length] using this
        have hj2 : j < rest.length := by omega
        obtain ⟨b', o', e', hcl⟩ := HB.out j hj2
        cases e'
        rw [cellsOf_get c j hj'] at hj
        have e2 : c[j] = rest[j] := by simp [Hcc.out]
        rw [Addr.add_mid, Hbel.out.cell (World.block_lt_of_cell? _ _ hcl), hcl, ← hj, e2]
      have Hn : Hid ((cellsOf c).length = Nat.min rest.length (64 - f')) := by
        show _ = _
        rw [cellsOf_length, lc]
        exact (Nat.min_eq_right (by omega)).symm
      have Hfit : Hid (8 + f' + (cellsOf c).length ≤ (rcells s' bk' M).toArray.size) := by
        show _ ≤ _
        rw [cellsOf_length, lc]
        simp only [List.size_toArray]
        rw [rcells_length _ _ _ lbk.out]; omega
      have H1 := hid (cellsOf_one c)
      have lcc : (cellsOf c).length = 64 - f' := by rw [cellsOf_length, lc]
      obtain ⟨cc, hccc⟩ : ∃ cc, cc = cellsOf c := ⟨_, rfl⟩
      rw [← hccc] at spl Hs Hn Hfit H1 lcc
      obtain ⟨RR, hRR⟩ : ∃ RR, RR = rcells s' bk' M := ⟨_, rfl⟩
      rw [← hRR] at spl Hfit HW
      rw [eW] at spl
      rw [List.toList_toArray] at spl
      have Spl := hid spl
      clear hbk2 hsc htc hbc hccc hRR spl eW lbk2 HP
      go_wp2_with fail
      rw [run_copy_row (P := Tryz.prog) wr 29 29 3 5 w.heap.size (8 + f') (64 - f') (64 - f') ⟨b0, o0, none⟩ rest.length cap' RR.toArray 64 cc Tryz.underlying29 size_byte HW.out Hn.out Hs.out Hfit.out H1.out]
      simp only [Result.andThen]
      rw [Oper.upon_value, List.append_assoc, Spl.out, lcc]
      obtain ⟨W2, hW2⟩ : ∃ W2, W2 = wr.setRow w.heap.size (sc ++ (bc ++ [Value.int .i64 (M : Int)])).toArray := ⟨_, rfl⟩
      have r2 : Hid (W2.heap[w.heap.size]? = some (.cells (sc ++ (bc ++ [Value.int .i64 (M : Int)])).toArray 64 (0, 0))) := by
        show _ = _
        rw [hW2]; exact setRow_heap _ _ _ _ _ _ HW.out
      have z2 : Hid (W2.heap[w.heap.size + 1]? = some (.cells Z 64 (0, 0))) := by
        show _ = _
        rw [hW2]; exact (setRow_other _ _ _ _ (by omega)).trans HZ.out
      have Hb2 : Hid (Below w.heap.size w W2) := by
        show Below _ _ _
        rw [hW2]; exact Hbel.out.setRow (Nat.le_refl _) _
      have m1 : Hid (W2.rangeAt w.heap.size 0 sc) := fun j v hj => by
        rw [Nat.zero_add, cell_of_row _ _ _ _ _ _ r2.out, List.getElem?_toArray, List.getElem?_append_left (List.getElem?_eq_some_iff.1 hj).1, hj]
      have m2 : Hid (W2.rangeAt w.heap.size 8 bc) := fun j v hj => by
        rw [cell_of_row _ _ _ _ _ _ r2.out, List.getElem?_toArray, List.getElem?_append_right (by omega), hsl, Nat.add_sub_cancel_left, List.getElem?_append_left (List.getElem?_eq_some_iff.1 hj).1, hj]
      have i1 : Hid ((Tryz.prog.info? 61).map (·.size) = some sc.length) := by
        show _ = _
        rw [hsl]; exact size_state
      have i2 : Hid ((Tryz.prog.info? 62).map (·.size) = some bc.length) := by
        show _ = _
        rw [hbl]; exact size_block
      rw [← hW2]
      clear hW2
      go_wp2_with (with_reducible show Go.wpList _ _ _ _ _ _; first
        | refine wpList_load_mid rfl 61 _ rfl w.heap.size 0 rfl sc _ m1.out Tryz.underlying61 rfl i1.out ?_
        | refine wpList_load_mid rfl 62 _ rfl w.heap.size 8 rfl bc _ m2.out Tryz.underlying62 rfl i2.out ?_)
      refine (Hcall.out _ (HK.out.below Hb2.out)).mono ?_
      rintro _ w3 ⟨rfl, hb3⟩
      have hlt2 : w.heap.size + 1 < W2.heap.size := (Array.getElem?_eq_some_iff.1 z2.out).1
      have r3 : Hid (w3.heap[w.heap.size]? = some (.cells (sc ++ (bc ++ [Value.int .i64 (M : Int)])).toArray 64 (0, 0))) := (hb3.block _ (by omega)).trans r2.out
      have z3 : Hid (w3.heap[w.heap.size + 1]? = some (.cells Z 64 (0, 0))) := (hb3.block _ (by omega)).trans z2.out
      have Hb3 : Hid (Below w.heap.size w w3) := Hb2.out.trans (hb3.mono (by omega))
      have th : Hid (w3.there w.heap.size 0 tc.toArray.size) := fun j hj => by
        have hj' : j < 8 := by simpa [htl] using hj
        rw [Nat.zero_add]
        refine ⟨?_, frozen_of_row _ _ _ _ _ r3.out⟩
        rw [cell_of_row _ _ _ _ _ _ r3.out, List.getElem?_toArray, List.getElem?_append_left (by omega), List.getElem?_eq_getElem (by omega)]
        rfl
      have i3 : Hid ((Tryz.prog.info? 61).map (·.size) = some tc.toArray.size) := by
        show _ = _
        rw [List.size_toArray, htl]; exact size_state
      have o3 : Hid (tc.toArray.all (·.oneCell') = true) := all_oneCell_toArray hto
      have n3 : Hid ((w3.setCells w.heap.size 0 tc).heap[w.heap.size]? = some (.cells (rcells (comp s' bk2) bk2 M).toArray 64 (0, 0))) := by
        show _ = _
        rw [heap_setCells_same _ _ tc 0 w3 _ r3.out (by simp; omega), eT.out]
        congr 3
        unfold splice
        rw [List.take_zero, List.nil_append, Nat.zero_add, htl, ← hsl, List.drop_left]
      have z4 : Hid ((w3.setCells w.heap.size 0 tc).heap[w.heap.size + 1]? = some (.cells Z 64 (0, 0))) := (other_setCells _ _ (by omega) tc 0 w3).trans z3.out
      have b4 : Hid (Below w.heap.size w (w3.setCells w.heap.size 0 tc)) := below_setCells _ (Nat.le_refl _) tc 0 w3 Hb3.out
      have t1 : (0 : Int) ≤ ((64 - f' : Nat) : Int) := by omega
      have t2 : ((64 - f' : Nat) : Int) ≤ (rest.length : Int) := by omega
      have t3 : ((64 - f' : Nat) : Int) ≤ (cap' : Int) := by omega
      clear hb3 hlt2 r2 z2 Hb2 m1 m2 i1 i2 HW HZ Hbel Hn Hs Hfit H1 Spl Hcall
      go_wp2_with (with_reducible show Go.wpList _ _ _ _ _ _; refine wpList_store_mid rfl 61 _ _ rfl w.heap.size 0 tc.toArray rfl rfl th.out i3.out o3.out ?_; rw [List.toList_toArray])
      go_roundw
      case rel =>
        refine ⟨E ++ c, rest.drop (64 - f'), comp s' bk2, bk2, 0, _, cap' - (64 - f'), by rw [List.length_drop], rfl, ?_, Hstep.out, n3.out, z4.out, ?_, by rw [List.length_drop]; omega, by rw [List.length_drop]; omega, b4.out⟩
        · rw [List.append_assoc, Hcc.out, List.take_append_drop]; exact HE.out
        · by_cases he : cap' = 64 - f'
          · rw [if_pos he]
            intro i hi
            rw [List.length_drop] at hi
            omega
          · rw [if_neg he]
            exact HB.out.drop _
      case measure => simp; omega
    · have q1 : IntKind.i64.wrap ((f' : Int) + (rest.length : Int)) = (f' : Int) + (rest.length : Int) := by rw [IntKind.wrap_i64]; omega
      have q2 : ¬ (64 : Int) ≤ (f' : Int) + (rest.length : Int) := by omega
      have q3 : (0 : Int) ≤ (f' : Int) := by omega
      have q4 : (f' : Int) ≤ 64 := by omega
      have q5 : ¬ (64 = f') := by omega
      have Hcopy : ∃ (v : Value) (W2 : World) (bk3 : List UInt8), Hid ((Builtin.copy_ #[29, 29] 3 #[.slice (some ⟨w.heap.size, 8 + f', none⟩) (64 - f') (64 - f'), .slice a' rest.length cap']).run Tryz.prog wr = .ok v W2) ∧ Hid (Part (D ++ l) s' bk3 (f' + rest.length)) ∧ Hid (W2.heap[w.heap.size]? = some (.cells (rcells s' bk3 M).toArray 64 (0, 0))) ∧ Hid (W2.heap[w.heap.size + 1]? = some (.cells Z 64 (0, 0))) ∧ Hid (Below w.heap.size w W2) := by
        have hmore := HP.out.more rest (by omega)
        rw [HE.out] at hmore
        by_cases h0 : rest.length = 0
        · have hr := run_copy_none (P := Tryz.prog) wr 29 29 3 5 (some ⟨w.heap.size, 8 + f', none⟩) a' (64 - f') (64 - f') rest.length cap' Tryz.underlying29 size_byte (by rw [h0]; exact Nat.min_eq_left (by omega))
          refine ⟨_, _, _, hr, hmore, ?_, HZ.out, Hbel.out⟩
          have hr0 : rest = [] := List.length_eq_zero_iff.1 h0
          have : bk'.take f' ++ (rest ++ bk'.drop (f' + rest.length)) = bk' := by rw [hr0]; simp
          rw [this]
          exact HW.out
        · obtain ⟨b0, o0, ha0, _⟩ := HB.out 0 (by omega)
          obtain rfl : a' = some ⟨b0, o0, none⟩ := ha0
          have hr := run_copy_row (P := Tryz.prog) wr 29 29 3 5 w.heap.size (8 + f') (64 - f') (64 - f') ⟨b0, o0, none⟩ rest.length cap' (rcells s' bk' M).toArray 64 (cellsOf rest) Tryz.underlying29 size_byte HW.out
            (by rw [cellsOf_length]; exact (Nat.min_eq_left (by omega)).symm)
            (fun j v hj => by
              have hj' : j < rest.length := by have := (List.getElem?_eq_some_iff.1 hj).1; simpa [cellsOf_length] using this
              obtain ⟨b', o', e', hcl⟩ := HB.out j hj'
              cases e'
              rw [cellsOf_get rest j hj'] at hj
              rw [Addr.add_mid, Hbel.out.cell (World.block_lt_of_cell? _ _ hcl), hcl, ← hj])
            (by rw [cellsOf_length]; simp only [List.size_toArray]; rw [rcells_length _ _ _ lbk.out]; omega) (cellsOf_one rest)
          refine ⟨_, _, _, hr, hmore, ?_, (setRow_other _ _ _ _ (by omega)).trans HZ.out, Hbel.out.setRow (Nat.le_refl _) _⟩
          have h := rcells_splice s' bk' M f' lbk.out rest (by omega)
          rw [← h]
          show (wr.setRow _ _).heap[w.heap.size]? = _
          rw [setRow_heap _ _ _ _ _ _ HW.out]
          congr 3
          unfold splice
          simp
      obtain ⟨v, W2, bk3, hrun, hPart, hrow2, hz2, hbel2⟩ := Hcopy
      have i5 : Hid ((Tryz.prog.info? 64).map (·.size) = some (rcells s' bk3 M).toArray.size) := by
        show _ = _
        rw [List.size_toArray, rcells_length _ _ _ hPart.out.len]; exact size_running
      have o5 : Hid (Z.size = (rcells s' bk3 M).toArray.size) := by
        show _ = _
        exact HZs.out.trans (by simp only [List.size_toArray]; rw [rcells_length _ _ _ hPart.out.len])
      have e5 : Hid ((rcells s' bk3 M).toArray.all (·.oneCell') = true) := rvals_one s' bk3 M
      have Hres : Hid ((rcells s' bk3 M).toArray = rvals s' bk3 M) := rfl
      generalize (rcells s' bk3 M).toArray = QQ at hrow2 i5 o5 e5 Hres
      clear HZs HW HZ Hbel HB HE HP lbk HK
      go_wp2_with fail
      rw [hrun.out]
      simp only [Result.andThen]
      rw [Oper.upon_value]
      clear hrun
      go_wp2_with (with_reducible show Go.wpList _ _ _ _ _ _; first
        | refine wpList_load_row rfl 64 _ rfl w.heap.size rfl 64 QQ (0, 0) _ hrow2.out Tryz.underlying64 rfl i5.out ?_
        | refine wpList_store_row rfl 64 _ _ rfl (w.heap.size + 1) QQ rfl rfl 64 Z hz2.out i5.out o5.out e5.out ?_)
      refine bodyPost_ret (results_cell_row rfl _ _ (w.heap.size + 1) 64 QQ (0, 0) _ rfl (setRow_heap _ _ _ _ _ _ hz2.out) Tryz.underlying64 rfl i5.out) rfl ⟨s', bk3, _, by rw [Hres.out], hPart.out, ?_⟩
      exact hbel2.out.setRow (by omega) _
end Go.Proofs.YtomhcccjeadefaaGreatDoor
/- The bytes by which those so far come to whole blocks: (running).end. -/
namespace Go.Proofs.YtomhcccjeadefaaGreatDoor
open Go.RowKit
set_option linter.unusedVariables false
set_option maxRecDepth 20000
theorem addr_add (b o j : Nat) : (⟨b, o, none⟩ : Addr).add j = ⟨b, o + j, none⟩ := by unfold Addr.add; split <;> simp_all
theorem Tryz.info5 : (Tryz.prog.info? 5).map (fun i => (i.zero, i.size, i.bytes)) = some (some (.int .u8 0), 1, 1) := by kernel_rfl
theorem app_bytes (w : World) {ops : Array Oper} {rest : List Oper} {o : Oper} {a : Act} {Q : Exit → Act → World → Prop} (hgd : o.guard = none) (s x : Operand)
    (ho : o.op = .call { callee := .builtin .append, args := #[s, x], argTypes := #[29, 29] }) (base : Nat) (v : Value) (xs : List UInt8) (hs : a.eval s = v)
    (hown : w.ownsRow base 5 1 v xs.length (cellsOf xs)) (ad : Addr) (m c : Nat) (news : List UInt8) (hm : news.length = m) (hx : a.eval x = .slice (some ad) m c)
    (hnews : ∀ j (h : j < news.length), w.cell? (ad.add j) = some (.int .u8 (news[j].toNat : Int))) (hb : xs.length + m ≤ 140737488355328) (hbase : base ≤ w.heap.size)
    (h : ∀ v' w', w'.ownsRow base 5 1 v' (xs ++ news).length (cellsOf (xs ++ news)) → Below base w w' → (0 < (xs ++ news).length → ∃ g cap, v' = .slice (some ⟨g, 0, none⟩) (xs ++ news).length cap) → wpList Tryz.prog ops Q rest (a.put o.dst v') w') :
    wpList Tryz.prog ops Q (o :: rest) a w := by
  obtain ⟨i0, hi, hz0, hz1, hz2⟩ := info_parts Tryz.info5
  subst hm
  refine wpList_append_own w hgd s x 29 ho base 5 i0 (.int .u8 0) 1 1 Tryz.underlying29 hi hz0 hz1 hz2 rfl (by decide) v xs.length (cellsOf xs) hs hown ad news.length c (cellsOf news) hx (by simp [cellsOf_length]) (fun j u hj => ?_) (cellsOf_one _) (by unfold maxLen; omega) (by omega) hbase ?_
  · have hj' : j < news.length := by
      have := (List.getElem?_eq_some_iff.1 hj).1
      simpa [cellsOf_length] using this
    rw [hnews j hj']
    have := (List.getElem?_eq_some_iff.1 hj).2
    simp [cellsOf] at this
    rw [this]
  · intro v' w' h1 h2 h3
    rw [← cellsOf_append, ← List.length_append] at h1
    refine h v' w' h1 ((Below.refl _ _).grown h2 hbase (fun k hk => (hown.lt k hk).1)) (fun hpos => ?_)
    rcases h1.2 with ⟨_, h0⟩ | ⟨g, cap, _, rfl, _⟩
    · omega
    · exact ⟨g, cap, rfl⟩
theorem app_lits (w : World) {ops : Array Oper} {rest : List Oper} {o : Oper} {a : Act} {Q : Exit → Act → World → Prop} (hgd : o.guard = none) (s x : Operand)
    (ho : o.op = .call { callee := .builtin .append, args := #[s, x], argTypes := #[29, 29] }) (base : Nat) (v : Value) (xs : List UInt8) (hs : a.eval s = v)
    (hown : w.ownsRow base 5 1 v xs.length (cellsOf xs)) (cs : List UInt8) (m : Nat) (hm : cs.length = m) (hx : a.eval x = .slice (some ⟨w.heap.size, 0, none⟩) m m) (hb : xs.length + m ≤ 140737488355328) (hbase : base ≤ w.heap.size)
    (h : ∀ v' w', w'.ownsRow base 5 1 v' (xs ++ cs).length (cellsOf (xs ++ cs)) → Below base w w' → (0 < (xs ++ cs).length → ∃ g cap, v' = .slice (some ⟨g, 0, none⟩) (xs ++ cs).length cap) → wpList Tryz.prog ops Q rest (a.put o.dst v') w') :
    wpList Tryz.prog ops Q (o :: rest) a (w.alloc (.cells (cellsOf cs).toArray 5)) := by
  refine app_bytes _ hgd s x ho base v xs hs (hown.alloc _) ⟨w.heap.size, 0, none⟩ m m cs hm hx (fun j hj => ?_) hb (by simp; omega) (fun v' w' h1 h2 h3 => h v' w' h1 (((Below.refl _ _).alloc hbase _).trans h2) h3)
  rw [addr_add, Nat.zero_add, World.cell?_alloc_new]
  simp [cellsOf, hj]
def endAt (N k : Nat) : List UInt8 := (128 :: List.replicate (noughts N) 0) ++ (be8 (N * 8)).take k
theorem endAt_all (N : Nat) : endAt N 8 = pad N := by
  unfold endAt pad
  rw [List.take_of_length_le (by rw [be8_length]; omega)]
theorem be8_get (n k : Nat) (h : k < 8) : (be8 n)[k]'(by rw [be8_length]; exact h) = UInt8.ofNat (n / 2 ^ (56 - 8 * k)) := by simp [be8]
theorem endAt_step (N k : Nat) (h : k < 8) : endAt N k ++ [UInt8.ofNat (N * 8 / 2 ^ (56 - 8 * k))] = endAt N (k + 1) := by
  unfold endAt
  rw [List.take_succ_eq_append_getElem (by rw [be8_length]; exact h), be8_get _ _ h, List.append_assoc]
theorem endAt_length (N k : Nat) : (endAt N k).length ≤ 73 := by
  have h1 : ((be8 (N * 8)).take k).length ≤ 8 := by rw [List.length_take, be8_length]; omega
  have h2 : noughts N < 64 := by unfold noughts; omega
  unfold endAt
  rw [List.length_append, List.length_cons, List.length_replicate]
  omega
theorem endAt_zero (N : Nat) : endAt N 0 = 128 :: List.replicate (noughts N) 0 := by simp [endAt]
theorem byte_of (x : Nat) : IntKind.u8.wrap (x : Int) = ((UInt8.ofNat x).toNat : Int) := by
  rw [IntKind.wrap_u8]
  simp
theorem made_zeros (n : Nat) : (madeCells (Value.int .u8 0).cells n).toList = cellsOf (List.replicate n 0) := by
  have : (Value.int .u8 0).cells = #[.int .u8 0] := rfl
  rw [this, toList_madeCells_one]
  simp [cellsOf]
theorem own_mono {w : World} {B B' : Nat} {e : TypeId} {size : Nat} {v : Value} {n : Nat} {xs : List Value} (h : w.ownsRow B e size v n xs) (hB : B' ≤ B) : w.ownsRow B' e size v n xs := by
  refine ⟨h.1, ?_⟩
  rcases h.2 with h | ⟨g, cap, cur, hv, hg, r⟩
  · exact .inl h
  · exact .inr ⟨g, cap, cur, hv, by omega, r⟩
set_option maxHeartbeats 1000000 in
theorem end_any {w : World} (s : S8) (bk : List UInt8) (N : Nat) (hb : bk.length = 64) (hN : N < 1152921504606846976) :
    Calls Tryz.prog 37 #[.agg (rvals s bk N)] w fun e w' => ∃ v, e = .returned v ∧ w'.ownsRow w.heap.size 5 1 v (pad N).length (cellsOf (pad N)) ∧ Below w.heap.size w w' := by
  obtain ⟨i0, hi, hz0, hz1, hz2⟩ := info_parts Tryz.info5
  obtain ⟨R, hR⟩ : ∃ R, R = rvals s bk N := ⟨_, rfl⟩
  have c72 : (w.alloc (.cells R 64)).cell? ⟨w.heap.size, 72, none⟩ = some (.int .i64 (N : Int)) := by
    rw [cell_of_row _ _ 72 _ _ _ (heap_alloc_new w _), hR, rvals, List.getElem?_toArray]
    exact rcells_size _ _ _ hb
  have q0 : IntKind.i64.wrap ((N : Int) + 1) = (N : Int) + 1 := by rw [IntKind.wrap_i64]; omega
  have q1 : IntKind.i64.wrap ((N : Int) + 1 + 8) = (N : Int) + 1 + 8 := by rw [IntKind.wrap_i64]; omega
  obtain ⟨o, ho⟩ : ∃ o, o = (N + 1 + 8) % 64 := ⟨_, rfl⟩
  have q2 : ((N : Int) + 1 + 8).tmod 64 = (o : Int) := by rw [Int.tmod_eq_emod_of_nonneg (by omega)]; omega
  obtain ⟨z, hz⟩ : ∃ z, z = noughts N := ⟨_, rfl⟩
  have hz' : z = (64 - o) % 64 := by rw [hz, ho]; rfl
  have q3 : ((64 : Int) - (o : Int)).tmod 64 = (z : Int) := by rw [Int.tmod_eq_emod_of_nonneg (by omega)]; omega
  have Hz := hid hz
  have lz : z < 64 := by omega
  have lo : o < 64 := by omega
  rw [← hR]
  clear hR hz hz' ho
  go_enter Tryz.func37, Tryz.ntmps37
  go_wp2_with fail
  rw [run_make (P := Tryz.prog) _ 29 5 i0 (.int .u8 0) Tryz.underlying29 hi hz0 .i64 .i64 (1 + (z : Int)) (1 + (z : Int) + 8) (by omega) (by omega) (by rw [hz2]; omega) (by omega)]
  simp only [Result.andThen]
  rw [Oper.upon_value, show (1 + (z : Int)).toNat = 1 + z by omega, show (1 + (z : Int) + 8).toNat = 1 + z + 8 by omega, hz1, Nat.mul_one, show (w.alloc (.cells R 64)).heap.size = w.heap.size + 1 by simp]
  obtain ⟨W1, hW1⟩ : ∃ W1, W1 = (w.alloc (.cells R 64)).alloc (.cells (madeCells (Value.int .u8 0).cells (1 + z + 8)) 5) := ⟨_, rfl⟩
  have g1 : W1.heap[w.heap.size + 1]? = some (.cells (madeCells (Value.int .u8 0).cells (1 + z + 8)) 5 (0, 0)) := by rw [hW1]; exact heap_alloc2_new w _ _
  have hbel : Below w.heap.size w W1 := by rw [hW1]; exact ((Below.refl _ w).alloc (Nat.le_refl _) _).alloc (by simp) _
  have k72 : W1.cell? ⟨w.heap.size, 72, none⟩ = some (.int .i64 (N : Int)) := by
    rw [hW1, World.cell?_of_block (w := w.alloc (.cells R 64)) (Below.heap_alloc _ _ _ (by simp))]; exact c72
  have f0 := frozen_of_row _ _ 0 _ _ g1
  have c0 : W1.cell? ⟨w.heap.size + 1, 0, none⟩ = some (.int .u8 0) := by
    rw [cell_of_row _ _ 0 _ _ _ g1, ← Array.getElem?_toList, made_zeros, show 1 + z + 8 = (z + 8) + 1 by omega, List.replicate_succ]
    rfl
  have own0 : (W1.setCell ⟨w.heap.size + 1, 0, none⟩ (.int .u8 128)).ownsRow (w.heap.size + 1) 5 1 (.slice (some ⟨w.heap.size + 1, 0, none⟩) (1 + z) (1 + z + 8)) (endAt N 0).length (cellsOf (endAt N 0)) := by
    have hl : (endAt N 0).length = 1 + z := by rw [endAt_zero, ← Hz.out]; simp; omega
    refine ⟨by rw [cellsOf_length, Nat.mul_one], .inr ⟨w.heap.size + 1, 1 + z + 8, _, by rw [hl], Nat.le_refl _, heap_setCell_same _ _ _ _ _ _ g1, by omega, by unfold maxLen; omega, by simp [size_madeCells], ?_⟩⟩
    rw [Array.toList_setIfInBounds, made_zeros, hl, Nat.mul_one, endAt_zero, ← Hz.out, show 1 + z + 8 = (z + 8) + 1 by omega, List.replicate_succ, show 1 + z = z + 1 by omega]
    simp [cellsOf, List.take_replicate]
  rw [← hW1]
  have Hown0 := hid own0
  have Hbel0 := hid (hbel.setCell (p := ⟨w.heap.size + 1, 0, none⟩) (by simp) (.int .u8 128))
  have Hk := hid ((World.cell?_setCell_other W1 ⟨w.heap.size + 1, 0, none⟩ ⟨w.heap.size, 72, none⟩ (.int .u8 128) (by intro h; simp only [Addr.mk.injEq] at h; omega)).trans k72)
  clear hW1 own0 hbel k72 g1 c72 q0 q1 q2 q3 hi hz0 hz1 hz2
  go_wp2_with fail
  go_loopw [5, 6] (fun v5 v6 wr => ∃ k : Nat, k ≤ 8 ∧ v6 = .int .i64 (56 - 8 * (k : Int)) ∧ wr.ownsRow (w.heap.size + 1) 5 1 v5 (endAt N k).length (cellsOf (endAt N k)) ∧ wr.cell? ⟨w.heap.size, 72, none⟩ = some (.int .i64 (N : Int)) ∧ Below w.heap.size w wr) (fun _ v6 _ => (intOf v6 + 8).toNat)
  case atStart => exact ⟨0, by omega, rfl, Hown0.out, Hk.out, Hbel0.out⟩
  case round =>
    obtain ⟨k, hk, rfl, hown, h72, hbel⟩ := hrel
    have Hown := hid hown
    have Hbel := hid hbel
    have H72 := hid h72
    clear hown hbel Hown0 Hbel0 Hk
    by_cases hlt : k < 8
    · have q0 : (0 : Int) ≤ 56 - 8 * (k : Int) := by omega
      have q1 : (56 : Int) - 8 * (k : Int) ≤ 64 := by omega
      have q2 : IntKind.u64.wrap (N : Int) = (N : Int) := by rw [IntKind.wrap_u64]; omega
      have q3 : IntKind.u64.wrap ((N : Int) * 8) = (N : Int) * 8 := by rw [IntKind.wrap_u64]; omega
      have q4 : IntKind.i64.wrap (56 - 8 * (k : Int) - 8) = 56 - 8 * ((k + 1 : Nat) : Int) := by rw [IntKind.wrap_i64]; omega
      have Hst := hid (endAt_step N k hlt)
      obtain ⟨b, hb8⟩ : ∃ b, b = UInt8.ofNat (N * 8 / 2 ^ (56 - 8 * k)) := ⟨_, rfl⟩
      have q5 : (N : Int) * 8 / 2 ^ (56 - 8 * k) % 256 = (b.toNat : Int) := by
        have h := byte_of (N * 8 / 2 ^ (56 - 8 * k))
        rw [← hb8, IntKind.wrap_u8] at h
        rw [← h]
        simp
      rw [← hb8] at Hst
      have Hlen := hid (endAt_length N k)
      have Hlt : Hid (w.heap.size + 1 ≤ wr.heap.size) := World.block_lt_of_cell? _ _ h72
      clear hb8
      go_wp2_with (at_builtin; refine app_lits _ rfl (.tmp 27) (.tmp 35) rfl (w.heap.size + 1) _ (endAt N k) rfl Hown.out [b] 1 rfl rfl (by have := Hlen.out; omega) Hlt.out ?_; intro v' w' hown' hb' hv'; have Hown' := hid hown'; have Hb' := hid hb'; clear hown' hb' hv')
      go_roundw
      case rel =>
        refine ⟨k + 1, by omega, by go_num, ?_, ?_, ?_⟩
        · rw [← Hst.out]; exact Hown'.out
        · exact (Hb'.out.cell (by simp)).trans H72.out
        · exact Hbel.out.trans (Hb'.out.mono (by omega))
      case measure => simp [intOf]; omega
    · have hk8 : k = 8 := by omega
      have q0 : ¬ (0 : Int) ≤ 56 - 8 * (k : Int) := by omega
      have Hend : Hid (endAt N k = pad N) := by
        show _ = _
        rw [hk8, endAt_all]
      clear hk8
      go_wp2
      go_ret
      refine ⟨_, rfl, ?_, Hbel.out⟩
      have h := Hown.out
      rw [Hend.out] at h
      exact own_mono h (by omega)
end Go.Proofs.YtomhcccjeadefaaGreatDoor
