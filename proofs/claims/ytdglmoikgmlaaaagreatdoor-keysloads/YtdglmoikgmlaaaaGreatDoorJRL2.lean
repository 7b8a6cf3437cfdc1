/- The reference's Load of a tree of keys, of any rows. (Printed by gen/jrload2.py.) -/
import Derived.Test.YtdglmoikgmlaaaaGreatDoorJRL1
namespace Go.Proofs.YtdglmoikgmlaaaaGreatDoor.Xr
open Go.RowKit Go.Maps
set_option linter.unusedVariables false
set_option maxRecDepth 20000
def RLoadP (w : World) (root : List UInt8) (o : Option TS) (e : Ending) (w' : World) : Prop := Below w.heap.size w w' ∧ match o with
  | some s => ∃ g, e = .returned (.tuple #[.pointer (some ⟨g, 0, none⟩), .int .i64 0]) ∧ RT w' w.heap.size g root s
  | none => e = .returned (.tuple #[.pointer none, .int .i64 3])
theorem RLoadP.no {w w' : World} {root : List UInt8} (hb : Below w.heap.size w w') : RLoadP w root none (.returned (.tuple #[.pointer none, .int .i64 3])) w' := ⟨hb, rfl⟩
theorem fold_take {m : List Rw} {k : Nat} (hk : k < m.length) {x : TS × Nat} (h : rFold (TS0, 0) (m.take k) = some x) : rFold (TS0, 0) (m.take (k + 1)) = rStep x m[k] := by
  rw [List.take_succ_eq_append_getElem hk, rFold_snoc, h]
  rfl
theorem fail_fold {m : List Rw} {k : Nat} (h : rFold (TS0, 0) (m.take k) = none) : loadR m = none := by
  cases hl : loadR m with
  | none => rfl
  | some s =>
    have h1 := (loadR_ref hl).1
    rw [← List.take_append_drop k m, rFold_app, h] at h1
    cases h1
theorem fail_rise {m : List Rw} {k : Nat} (h : riseB (m.take k) = false) : loadR m = none := by
  refine loadR_rise ?_
  cases hr : riseB m with
  | false => rfl
  | true => rw [riseB_pre k hr] at h; cases h
theorem fail_fine {m : List Rw} {x : TS × Nat} (h : rFold (TS0, 0) m = some x) (hx : ¬ (x.2 = 1 ∧ rFine x.1)) : loadR m = none := by
  cases hl : loadR m with
  | none => rfl
  | some s =>
    obtain ⟨h1, h2⟩ := loadR_ref hl
    rw [h] at h1
    obtain rfl := Option.some.inj h1
    exact absurd ⟨rfl, h2⟩ hx
section
variable {x : TS × Nat} {r : Rw}
theorem rs_gone0 (h0 : r.cols.length = 0) (hn : okN r.key = false) : rStep x r = none := by
  unfold rStep
  rw [if_pos h0, if_neg (by rw [hn]; simp)]
theorem rs_gone1 (h0 : r.cols.length = 0) (hn : okN r.key = true) : rStep x r = some ({ x.1 with gs := x.1.gs ++ [r.key] }, x.2) := by
  unfold rStep
  rw [if_pos h0, if_pos hn]
theorem rs_bad (h0 : r.cols.length ≠ 0) (h : r.cols.length ≠ 1 ∨ (toNum (r.cols.headD ⟨#[]⟩).data.toList).2 ≠ 0) : rStep x r = none := by
  unfold rStep
  rw [if_neg h0, if_pos h]
theorem rs_head0 (h0 : r.cols.length = 1) {N : Nat} (hN : toNum (r.cols.headD ⟨#[]⟩).data.toList = (N, 0)) (hk : r.key = headK) (h : 1099511627776 < N) : rStep x r = none := by
  unfold rStep
  rw [if_neg (by omega), hN, if_neg (by simp [h0]), if_pos hk, if_pos h]
theorem rs_head1 (h0 : r.cols.length = 1) {N : Nat} (hN : toNum (r.cols.headD ⟨#[]⟩).data.toList = (N, 0)) (hk : r.key = headK) (h : ¬ 1099511627776 < N) : rStep x r = some ({ x.1 with n := N }, x.2 + 1) := by
  unfold rStep
  rw [if_neg (by omega), hN, if_neg (by simp [h0]), if_pos hk, if_neg h]
theorem rs_cut0 (h0 : r.cols.length = 1) {N : Nat} (hN : toNum (r.cols.headD ⟨#[]⟩).data.toList = (N, 0)) (hk : r.key ≠ headK) (hc : cutS r.key = none) : rStep x r = none := by
  unfold rStep
  rw [if_neg (by omega), hN, if_neg (by simp [h0]), if_neg hk, hc]
theorem rs_ver0 (h0 : r.cols.length = 1) {N : Nat} (hN : toNum (r.cols.headD ⟨#[]⟩).data.toList = (N, 0)) (hk : r.key ≠ headK) {p : ByteArray × ByteArray} (hc : cutS r.key = some p) (h : ¬ (okN p.1 = true ∧ okN p.2 = true ∧ 2 ≤ N ∧ N ≤ 16)) : rStep x r = none := by
  unfold rStep
  rw [if_neg (by omega), hN, if_neg (by simp [h0]), if_neg hk, hc]
  exact if_neg h
theorem rs_ver1 (h0 : r.cols.length = 1) {N : Nat} (hN : toNum (r.cols.headD ⟨#[]⟩).data.toList = (N, 0)) (hk : r.key ≠ headK) {p : ByteArray × ByteArray} (hc : cutS r.key = some p) (h : okN p.1 = true ∧ okN p.2 = true ∧ 2 ≤ N ∧ N ≤ 16) : rStep x r = some ({ x.1 with vs := x.1.vs ++ [((p.1, p.2), N)] }, x.2) := by
  unfold rStep
  rw [if_neg (by omega), hN, if_neg (by simp [h0]), if_neg hk, hc]
  exact if_pos h
end
def RLI (w : World) (g : Nat) (root : List UInt8) (m : List Rw) (k : Nat) (x : TS × Nat) (wr : World) : Prop := rFold (TS0, 0) (m.take k) = some x ∧ riseB (m.take k) = true ∧ (∃ gv lv, RTree wr w.heap.size g root x.1 gv lv) ∧ Below w.heap.size w wr ∧ x.1.gs.length ≤ k ∧ x.1.vs.length ≤ k ∧ x.2 ≤ k
theorem toNum_le {l : List UInt8} {N E : Nat} (h : toNum l = (N, E)) : N ≤ 4611686018427387904 := by
  unfold toNum at h
  split at h
  · obtain ⟨rfl, _⟩ := Prod.mk.inj h; omega
  · split at h
    · obtain ⟨rfl, _⟩ := Prod.mk.inj h; omega
    · split at h
      · obtain ⟨rfl, _⟩ := Prod.mk.inj h; omega
      · split at h
        · obtain ⟨rfl, _⟩ := Prod.mk.inj h; omega
        · obtain ⟨rfl, _⟩ := Prod.mk.inj h; omega
theorem vers_below {V0 V2 : World} {B g : Nat} {root : List UInt8} {s : TS} {gv lv v : Value} (h : RTree V0 B g root s gv lv) (hg : V0.grownBy V2 lv.ownBlock) (hB : B ≤ V0.heap.size) : Below B V0 (V2.setCell ⟨g, 34, none⟩ v) :=
  ((Below.refl B V0).grown hg hB (fun k hk => (h.vers.lt k hk).1)).setCell h.bg _
theorem rtree_low {w : World} {B B' g : Nat} {root : List UInt8} {s : TS} {gv lv : Value} (h : RTree w B' g root s gv lv) (hB : B ≤ B') : RTree w B g root s gv lv := ⟨h.obj, own_mono h.gone hB, own_mono h.vers hB, h.len, Nat.le_trans hB h.bg⟩
theorem refIsName_q (t : ByteArray) (w : World) (ht : t.size ≤ 140737488351232) : Calls Tryz.prog 38 #[.string t] w fun e w' => e = .returned (.bool (okN t)) ∧ w' = w := refIsName_any t w (by unfold maxLen; omega)
set_option maxHeartbeats 16000000 in
theorem rload_any {w : World} {root : List UInt8} (lk : root.length = 32) (m : List Rw) (hs : Small m) (h40 : m.length * 40 ≤ 140737488351232) (a : Option Addr) (n cap : Nat) (hn : n = m.length) (h : RIn w a m) :
    Calls Tryz.prog 14 #[.agg (bvs root), .slice a n cap] w (RLoadP w root (loadR m)) := by
  obtain ⟨O, hO⟩ : ∃ O, O = bvs root := ⟨_, rfl⟩
  obtain ⟨W, hW⟩ : ∃ W, W = w.alloc (.cells O 23) := ⟨_, rfl⟩
  have x0 : W.heap[w.heap.size]? = some (.cells O 23 (0, 0)) := by rw [hW]; exact heap_alloc_new w _
  have hI : (Tryz.prog.info? 23).map (·.size) = some O.size := by rw [hO]; exact (show HV (bvs root) root from ⟨rfl, lk⟩).info
  have hb0 : Below w.heap.size w W := by rw [hW]; exact (Below.refl _ w).alloc (Nat.le_refl _) _
  have X0 := hid x0
  have HI := hid hI
  have HW := hid hW
  have B0 := hid hb0
  have HO := hid hO
  have H0 := hid h
  have Hn := hid hn
  have Hs := hid hs
  have H40 := hid h40
  have hn9 : n ≤ 140737488351232 := by rw [hn]; exact hs.1
  have HNew := hid (fun (V : World) => (show Calls Tryz.prog 7 #[.agg O] V (fun e w' => ∃ g, e = .returned (.pointer (some ⟨g, 0, none⟩)) ∧ RTree w' V.heap.size g root ⟨[], [], 0⟩ (.slice none 0 0) (.slice none 0 0) ∧ Below V.heap.size V w') by rw [HO.out]; exact rNew_any V root lk))
  rw [← hO]
  clear hO hW x0 hI hb0 h hn hs lk h40
  go_enter Tryz.func14, Tryz.ntmps14
  go_wp2_with (first
    | (with_reducible show Go.wpList _ _ _ _ _ _; rw [← HW.out]; refine wpList_load_row rfl 23 _ rfl w.heap.size rfl _ _ _ _ X0.out Tryz.underlying23 rfl HI.out ?_)
    | (go_at_call 7; refine (HNew.out W).mono ?_; rintro _ w2 ⟨g, rfl, t2, b2⟩; have R2 : Hid (RLI w g root m 0 (TS0, 0) w2) := ⟨rfl, rfl, ⟨_, _, rtree_low t2 B0.out.size⟩, Below.on' B0.out b2, Nat.le_refl _, Nat.le_refl _, Nat.le_refl _⟩; clear t2 b2))
  go_loopw [7, 8] (fun c i wr => ∃ (k : Nat) (x : TS × Nat), i = .int .i64 (k : Int) ∧ k ≤ n ∧ c = .int .i64 (x.2 : Int) ∧ RLI w g root m k x wr) (fun _ i _ => n - (intOf i).toNat)
  case atStart => exact ⟨0, (TS0, 0), rfl, Nat.zero_le _, rfl, R2.out⟩
  case round =>
    obtain ⟨k, x, rfl, hk, rfl, hI9⟩ := hrel
    have HI9 := hid hI9
    obtain ⟨x1, x2⟩ := x
    by_cases hlt : k < n
    · have g1 : (k : Int) < (n : Int) := by omega
      have g2 : (0 : Int) ≤ (k : Int) := by omega
      have hkm : k < m.length := by have := Hn.out; omega
      obtain ⟨hfo, hri, ⟨gv, lv, hRT⟩, hb, hl1, hl2, hl3⟩ := hI9
      obtain ⟨ga, gcap, eg⟩ := own_any hRT.gone
      obtain ⟨gm, hgm⟩ : ∃ gm, gm = x1.gs.length := ⟨_, rfl⟩
      rw [← hgm] at eg
      subst eg
      obtain ⟨la, lcap, el⟩ := own_any hRT.vers
      obtain ⟨lm, hlm⟩ : ∃ lm, lm = x1.vs.length := ⟨_, rfl⟩
      rw [← hlm] at el
      subst el
      have HR := hid hRT
      have hg40 : x1.gs.length * 40 ≤ 140737488351232 := by have := Hn.out; have := H40.out; simp only at hl1; omega
      have hv40 : x1.vs.length * 40 ≤ 140737488351232 := by have := Hn.out; have := H40.out; simp only at hl2; omega
      have Hg40 := hid hg40
      have Hv40 := hid hv40
      have HB := hid hb
      have Hri := hid hri
      have Hl := hid (And.intro hl1 (And.intro hl2 hl3))
      have HX2 : x2 ≤ 140737488351232 := by simp only at hl3; omega
      have Hst := hid (fold_take hkm hfo)
      obtain ⟨b, o, ad, cp, rfl, q1, q2, q3⟩ := (H0.out.below hb) k hkm
      have hsm := Hs.out.2 _ (List.getElem_mem hkm)
      have Hprev : Hid (∀ j, k = j + 1 → ∃ y : ByteArray, wr.cell? ⟨b, o + j * 2, none⟩ = some (.string y) ∧ riseB (m.take (k + 1)) = decide (y.toList < m[k].key.toList)) := fun j hj => by
        subst hj
        obtain ⟨b5, o5, ad5, cp5, e5, y1, _⟩ := (H0.out.below hb) j (by omega)
        injection e5 with e5
        injection e5 with e5 e6
        subst e5 e6
        refine ⟨_, y1, ?_⟩
        have h9 := riseB_take (m := m) (k := j + 1) (by omega) hkm
        simp only [Nat.add_sub_cancel] at h9
        rw [h9, hri, Bool.true_and]
      have Hone : Hid (k = 0 → riseB (m.take (k + 1)) = true) := fun hj => by
        subst hj
        cases m with
        | nil => rfl
        | cons y m => simp [riseB]
      obtain ⟨r, hr⟩ : ∃ r, r = m[k] := ⟨_, rfl⟩
      rw [← hr] at Hst hsm q1 q2 q3 Hprev
      clear hr hfo hri hb hl1 hl2 hl3 hRT HI9 hg40 hv40 hgm hlm
      obtain ⟨key, cols⟩ := r
      simp only at hsm q1 q2 q3 Hprev
      have Hsm := hid hsm
      obtain ⟨nc, hnc⟩ : ∃ nc, nc = cols.length := ⟨_, rfl⟩
      rw [← hnc] at q2
      have Hnc := hid hnc
      have q4 : wr.cell? ⟨b, o + k * 2 + 1, none⟩ = some (.slice ad nc cp) := q2
      have hnc9 : nc ≤ 140737488351232 := by rw [hnc]; exact hsm.2.1
      have Q1 := hid q1
      obtain ⟨W1, hW1⟩ : ∃ W1, W1 = wr.alloc (.cells #[.string key, .slice ad nc cp] 67) := ⟨_, rfl⟩
      have b1 : Below wr.heap.size wr W1 := by rw [hW1]; exact (Below.refl _ wr).alloc (Nat.le_refl _) _
      have x1' : W1.heap[wr.heap.size]? = some (.cells #[.string key, .slice ad nc cp] 67 (0, 0)) := by rw [hW1]; exact heap_alloc_new wr _
      have HW1 := hid hW1.symm
      have B1 := hid b1
      have X1 := hid x1'
      have HX1 := hid x1'
      have C0 := hid (fun (V : World) (hV : Below W1.heap.size W1 V) => (show V.cell? ⟨wr.heap.size, 0, none⟩ = some (.string key) from (cell_of_row _ _ 0 _ _ _ ((hV.block _ (heap_lt x1')).trans x1')).trans rfl))
      have C1 := hid (fun (V : World) (hV : Below W1.heap.size W1 V) => (show V.cell? ⟨wr.heap.size, 1, none⟩ = some (.slice ad nc cp) from (cell_of_row _ _ 1 _ _ _ ((hV.block _ (heap_lt x1')).trans x1')).trans rfl))
      have Q3 := hid (q3.below b1)
      have HRb := hid (fun (V : World) (hV : Below W1.heap.size W1 V) => HR.out.below (Below.on' b1 hV))
      have BW := hid (fun (V : World) (hV : Below W1.heap.size W1 V) => Below.on' (Below.on' HB.out b1) hV)
      clear hnc hsm q3 hW1 b1 x1' q2
      clear R2
      go_wp2
      rw [HW1.out]
      obtain ⟨V0, hV0⟩ : ∃ V0, V0 = W1.drew := ⟨_, rfl⟩
      have bV : Below W1.heap.size W1 V0 := by rw [hV0]; exact (Below.refl _ W1).drew
      refine wp_act _ fun A hA => ?_
      have sz : A.tmps.size = 170 := by rw [hA]; rfl
      have e8 : A.eval (.tmp 8) = .int .i64 (k : Int) := by rw [hA]; rfl
      have e1 : A.eval (.tmp 1) = .slice (some ⟨b, o, none⟩) n cap := by rw [hA]; rfl
      have e9 : A.eval (.tmp 9) = .pointer (some ⟨wr.heap.size, 0, none⟩) := by rw [hA]; rfl
      have hreg : ∃ rb : Bool, (rb = false → riseB (m.take (k + 1)) = true) ∧ (rb = true → loadR m = none) ∧ (codeRLJ 7).wp Tryz.prog (fun ex a V => ex = .normal ∧ ∃ v28 v29 v30 v31 v32 v33 v34 v35 v36 v37 v38 v39 : Value, a = (((((((((((((A.put (some 28) (v28)).put (some 29) (v29)).put (some 30) (v30)).put (some 31) (v31)).put (some 32) (v32)).put (some 33) (v33)).put (some 34) (v34)).put (some 35) (v35)).put (some 36) (v36)).put (some 37) (v37)).put (some 38) (v38)).put (some 39) (v39)).put (some 40) (.bool rb)) ∧ V = V0) A W1 := by
        by_cases hk0 : k = 0
        · exact ⟨false, fun _ => Hone.out hk0, (fun h => by cases h), rload_region7a (b := b) (o := o) (n := n) (cap := cap) (R := wr.heap.size) hk0 sz e8 e1 e9 hV0 trivial⟩
        · obtain ⟨j, hj⟩ : ∃ j, k = j + 1 := ⟨k - 1, by omega⟩
          obtain ⟨y, hy, hyr⟩ := Hprev.out j hj
          subst hj
          have e7 : IntKind.i64.wrap (((j + 1 : Nat) : Int) - 1) = (j : Int) := by rw [IntKind.wrap_i64]; omega
          have y1 := (B1.out.cell (World.block_lt_of_cell? _ _ hy)).trans hy
          refine ⟨!decide (y.toList < key.toList), fun h => by rw [hyr]; simpa using h, fun h => fail_rise (k := j + 1 + 1) (by rw [hyr]; simpa using h), rload_region7b (b := b) (o := o) (n := n) (cap := cap) (R := wr.heap.size) (y := y) (key := key) e7 (by omega) (by omega) (by rw [bytesLess_eq, Bool.not_not]) sz e8 e1 e9 hV0 ⟨(bV.cell (World.block_lt_of_cell? _ _ y1)).trans y1, C0.out V0 bV⟩⟩
      obtain ⟨rb, hrb1, hrb2, hreg⟩ := hreg
      have Hrb1 := hid hrb1
      have Hrb2 := hid hrb2
      refine wp_split _ hreg ?_
      rintro _ V1 ⟨v28, v29, v30, v31, v32, v33, v34, v35, v36, v37, v38, v39, rfl, rfl⟩
      rw [hA]
      simp only [Act.put, List.setIfInBounds_toArray, List.set_cons_succ, List.set_cons_zero]
      have BV := hid bV
      clear hV0 bV sz e8 e1 e9 hA hreg hrb1 hrb2 Hone Hprev HW1 X1 Q1 A
      have c0 := C0.out V1 BV.out
      have c1 := C1.out V1 BV.out
      cases rb
      · have Hr1 := hid (Hrb1.out rfl)
        clear Hrb1 Hrb2
        by_cases hz : nc = 0
        · have hz0 : cols.length = 0 := by rw [← Hnc.out]; exact hz
          have dz : ((nc : Int) == 0) = true := by simp; omega
          clear hz
          cases hn9' : okN key
          · have HL : Hid (loadR m = none) := fail_fold (k := k + 1) (by rw [Hst.out]; exact rs_gone0 hz0 hn9')
            clear hz0
            go_wp2_with (go_at_call 38; refine (refIsName_q key _ Hsm.out.1).mono ?_; rintro _ w9 ⟨rfl, e9⟩; subst w9; rw [hn9'])
            go_ret2
            rw [HL.out]
            exact RLoadP.no (BW.out _ BV.out)
          · have Hx : Hid (rFold (TS0, 0) (m.take (k + 1)) = some ({ x1 with gs := x1.gs ++ [key] }, x2)) := by rw [Hid, Hst.out]; exact rs_gone1 hz0 hn9'
            clear hz0
            go_wp2_with (go_at_call 38; refine (refIsName_q key _ Hsm.out.1).mono ?_; rintro _ w9 ⟨rfl, e9⟩; subst w9; rw [hn9'])
            obtain ⟨V0, hV0⟩ : ∃ V0, V0 = V1.drew := ⟨_, rfl⟩
            have bV : Below V1.heap.size V1 V0 := by rw [hV0]; exact (Below.refl _ V1).drew
            have bV2 := Below.on' BV.out bV
            refine wp_act _ fun A hA => ?_
            have sz : A.tmps.size = 170 := by rw [hA]; rfl
            have e6 : A.eval (.tmp 6) = .pointer (some ⟨g, 0, none⟩) := by rw [hA]; rfl
            have e9 : A.eval (.tmp 9) = .pointer (some ⟨wr.heap.size, 0, none⟩) := by rw [hA]; rfl
            have hR9 := HRb.out V0 bV2
            refine wp_split _ (rload_region12 (key := key) sz e6 e9 hR9 ((bV2.block _ (heap_lt HX1.out)).trans HX1.out) (BW.out _ bV2).size Hg40.out hV0 ⟨hR9.c33, C0.out V0 bV2⟩) ?_
            rintro _ V2 ⟨k2, m2, c2, rfl, hR2, b2⟩
            rw [hA]
            simp only [Act.put, List.setIfInBounds_toArray, List.set_cons_succ, List.set_cons_zero]
            have HRL : Hid (RLI w g root m (k + 1) ({ x1 with gs := x1.gs ++ [key] }, x2) V2) := ⟨Hx.out, Hr1.out, ⟨_, _, hR2⟩, (BW.out _ bV2).trans b2, by have := Hl.out; simp only [List.length_append, List.length_singleton]; omega, by have := Hl.out; simp only; omega, by have := Hl.out; simp only; omega⟩
            clear hV0 bV bV2 sz e6 e9 hA hR9 hR2 b2 c0 c1
            go_wp2
            go_roundw
            case rel => exact ⟨k + 1, _, by go_num, by omega, rfl, HRL.out⟩
            case measure => simp [intOf]; omega
        · obtain ⟨c0', ctl, hcol⟩ : ∃ c0 ctl, cols = c0 :: ctl := by
            cases cols with
            | nil => exact absurd Hnc.out (by simpa using hz)
            | cons a b => exact ⟨a, b, rfl⟩
          have hcs := Hsm.out.2.2 c0' (by rw [hcol]; exact List.mem_cons_self)
          obtain ⟨bd, od, hbd, hd⟩ := Q3.out 0 (by rw [hcol]; simp)
          have hd1 : W1.cell? ⟨bd, od, none⟩ = some (.string c0') := by simpa [hcol] using hd
          have hd2 := (BV.out.cell (World.block_lt_of_cell? _ _ hd1)).trans hd1
          subst hbd
          have hhd : cols.headD ⟨#[]⟩ = c0' := by rw [hcol]; rfl
          obtain ⟨N, E, hN⟩ : ∃ N E, toNum c0'.data.toList = (N, E) := ⟨_, _, rfl⟩
          have HT := hid (fun (V : World) => refToNumber_any c0' V (by unfold maxLen; omega))
          rw [hN] at HT
          have hNb : N ≤ 4611686018427387904 := toNum_le hN
          have gnc : (0 : Int) < (nc : Int) := by omega
          have dz : ((nc : Int) == 0) = false := by simp; omega
          have hz9 : cols.length ≠ 0 := by rw [← Hnc.out]; exact hz
          clear hd hd1 hcol hcs Q3 hz
          by_cases h1 : nc = 1
          · have hz1 : cols.length = 1 := by rw [← Hnc.out]; exact h1
            have d1 : ((nc : Int) != 1) = false := by simp; omega
            by_cases hE : E = 0
            · subst hE
              have hN0 : toNum (cols.headD ⟨#[]⟩).data.toList = (N, 0) := by rw [hhd]; exact hN
              clear h1 hN hhd
              by_cases hk : key = headK
              · have e2 : (key.toList == [35]) = true := by rw [hk]; decide +kernel
                by_cases hM : 1099511627776 < N
                · have HL : Hid (loadR m = none) := fail_fold (k := k + 1) (by rw [Hst.out]; exact rs_head0 hz1 hN0 hk hM)
                  have dM : decide ((1099511627776 : Int) < (N : Int)) = true := by simp; omega
                  clear hk hM hN0 hz1 hz9
                  go_wp2_with (go_at_call 39; refine (HT.out _).mono ?_; rintro _ w8 ⟨rfl, e8⟩; subst w8)
                  go_ret2
                  rw [HL.out]
                  exact RLoadP.no (BW.out _ BV.out)
                · have Hx : Hid (rFold (TS0, 0) (m.take (k + 1)) = some ({ x1 with n := N }, x2 + 1)) := by rw [Hid, Hst.out]; exact rs_head1 hz1 hN0 hk hM
                  have dM : decide ((1099511627776 : Int) < (N : Int)) = false := by simp; omega
                  have f32 := (HRb.out V1 BV.out).fz 32
                  have c32 := (HRb.out V1 BV.out).c32
                  have HRL : Hid (RLI w g root m (k + 1) ({ x1 with n := N }, x2 + 1) (V1.setCell ⟨g, 32, none⟩ (.int .i64 (N : Int)))) := ⟨Hx.out, Hr1.out, ⟨_, _, (HRb.out V1 BV.out).setN N⟩, (BW.out _ BV.out).setCell (HRb.out V1 BV.out).bg _, by have := Hl.out; simp only; omega, by have := Hl.out; simp only; omega, by have := Hl.out; simp only; omega⟩
                  have hx2 : ((x2 : Int) + 1) = ((x2 + 1 : Nat) : Int) := by omega
                  have Hx2 := hid hx2
                  clear hk hM hN0 hz1 hz9 hx2
                  go_wp2_with (go_at_call 39; refine (HT.out _).mono ?_; rintro _ w8 ⟨rfl, e8⟩; subst w8)
                  go_roundw
                  case rel => exact ⟨k + 1, _, by go_num, by omega, by rw [Hx2.out], HRL.out⟩
                  case measure => simp [intOf]; omega
              · have e2 : (key.toList == [35]) = false := by
                  rw [beq_eq_false_iff_ne]
                  intro e
                  exact hk ((str_eq _ _).2 (e.trans (by decide +kernel)))
                have HSp := hid (fun (V : World) => rsplit_any key Hsm.out.1 V)
                have hcz := cutP_size key
                cases hc : cutS key with
                | none =>
                  have HL : Hid (loadR m = none) := fail_fold (k := k + 1) (by rw [Hst.out]; exact rs_cut0 hz1 hN0 hk hc)
                  rw [hc] at HSp
                  simp only [Option.isSome_none] at HSp
                  generalize (cutP key).1 = p1 at *
                  generalize (cutP key).2 = p2 at *
                  clear hk hN0 hz1 hz9 hc
                  go_wp2_with (first
                    | (go_at_call 39; refine (HT.out _).mono ?_; rintro _ w8 ⟨rfl, e8⟩; subst w8)
                    | (go_at_call 40; refine (HSp.out _).mono ?_; rintro _ w7 ⟨rfl, b7⟩; have B7 := hid (Below.on' BV.out b7); have c7 := C0.out w7 B7.out; have d7 := C1.out w7 B7.out; clear b7))
                  go_ret2
                  rw [HL.out]
                  exact RLoadP.no (BW.out _ B7.out)
                | some pp =>
                  have hP : cutP key = pp := by unfold cutP; rw [hc]; rfl
                  rw [hc, hP] at HSp
                  rw [hP] at hcz
                  simp only [Option.isSome_some] at HSp
                  have HL : Hid (¬ (okN pp.1 = true ∧ okN pp.2 = true ∧ 2 ≤ N ∧ N ≤ 16) → loadR m = none) := fun h9 => fail_fold (k := k + 1) (by rw [Hst.out]; exact rs_ver0 hz1 hN0 hk hc h9)
                  have Hx : Hid (okN pp.1 = true ∧ okN pp.2 = true ∧ 2 ≤ N ∧ N ≤ 16 → rFold (TS0, 0) (m.take (k + 1)) = some ({ x1 with vs := x1.vs ++ [((pp.1, pp.2), N)] }, x2)) := fun h9 => by rw [Hst.out]; exact rs_ver1 hz1 hN0 hk hc h9
                  obtain ⟨p1, p2⟩ := pp
                  simp only at HSp HL Hx hcz
                  have hp1 : p1.size ≤ 140737488351232 := Nat.le_trans hcz.1 Hsm.out.1
                  have hp2 : p2.size ≤ 140737488351232 := Nat.le_trans hcz.2 Hsm.out.1
                  clear hk hN0 hz1 hz9 hc hP hcz
                  cases hn1 : okN p1
                  · have HL := hid (HL.out (fun h9 => by rw [hn1] at h9; exact absurd h9.1 (by simp)))
                    clear Hx
                    go_wp2_with (first
                      | (go_at_call 39; refine (HT.out _).mono ?_; rintro _ w8 ⟨rfl, e8⟩; subst w8)
                      | (go_at_call 40; refine (HSp.out _).mono ?_; rintro _ w7 ⟨rfl, b7⟩; have B7 := hid (Below.on' BV.out b7); have c7 := C0.out w7 B7.out; have d7 := C1.out w7 B7.out; clear b7)
                      | (go_at_call 38; refine (refIsName_q p1 _ hp1).mono ?_; rintro _ w9 ⟨rfl, e9⟩; subst w9; rw [hn1]; clear hp1))
                    go_ret2
                    rw [HL.out]
                    exact RLoadP.no (BW.out _ B7.out)
                  · cases hn2 : okN p2
                    · have HL := hid (HL.out (fun h9 => by rw [hn2] at h9; exact absurd h9.2.1 (by simp)))
                      clear Hx
                      go_wp2_with (first
                        | (go_at_call 39; refine (HT.out _).mono ?_; rintro _ w8 ⟨rfl, e8⟩; subst w8)
                        | (go_at_call 40; refine (HSp.out _).mono ?_; rintro _ w7 ⟨rfl, b7⟩; have B7 := hid (Below.on' BV.out b7); have c7 := C0.out w7 B7.out; have d7 := C1.out w7 B7.out; clear b7)
                        | (go_at_call 38; refine (refIsName_q p1 _ hp1).mono ?_; rintro _ w9 ⟨rfl, e9⟩; subst w9; rw [hn1]; clear hp1)
                        | (go_at_call 38; refine (refIsName_q p2 _ hp2).mono ?_; rintro _ w9 ⟨rfl, e9⟩; subst w9; rw [hn2]; clear hp2))
                      go_ret2
                      rw [HL.out]
                      exact RLoadP.no (BW.out _ B7.out)
                    · by_cases hlo : N < 2
                      · have HL := hid (HL.out (fun h9 => by omega))
                        clear Hx
                        have dlo : decide ((N : Int) < 2) = true := by simp; omega
                        go_wp2_with (first
                          | (go_at_call 39; refine (HT.out _).mono ?_; rintro _ w8 ⟨rfl, e8⟩; subst w8)
                          | (go_at_call 40; refine (HSp.out _).mono ?_; rintro _ w7 ⟨rfl, b7⟩; have B7 := hid (Below.on' BV.out b7); have c7 := C0.out w7 B7.out; have d7 := C1.out w7 B7.out; clear b7)
                          | (go_at_call 38; refine (refIsName_q p1 _ hp1).mono ?_; rintro _ w9 ⟨rfl, e9⟩; subst w9; rw [hn1]; clear hp1)
                          | (go_at_call 38; refine (refIsName_q p2 _ hp2).mono ?_; rintro _ w9 ⟨rfl, e9⟩; subst w9; rw [hn2]; clear hp2))
                        go_ret2
                        rw [HL.out]
                        exact RLoadP.no (BW.out _ B7.out)
                      · have dlo : decide ((N : Int) < 2) = false := by simp; omega
                        by_cases hhi : 16 < N
                        · have HL := hid (HL.out (fun h9 => by omega))
                          clear Hx
                          have dhi : decide ((16 : Int) < (N : Int)) = true := by simp; omega
                          go_wp2_with (first
                            | (go_at_call 39; refine (HT.out _).mono ?_; rintro _ w8 ⟨rfl, e8⟩; subst w8)
                            | (go_at_call 40; refine (HSp.out _).mono ?_; rintro _ w7 ⟨rfl, b7⟩; have B7 := hid (Below.on' BV.out b7); have c7 := C0.out w7 B7.out; have d7 := C1.out w7 B7.out; clear b7)
                            | (go_at_call 38; refine (refIsName_q p1 _ hp1).mono ?_; rintro _ w9 ⟨rfl, e9⟩; subst w9; rw [hn1]; clear hp1)
                            | (go_at_call 38; refine (refIsName_q p2 _ hp2).mono ?_; rintro _ w9 ⟨rfl, e9⟩; subst w9; rw [hn2]; clear hp2))
                          go_ret2
                          rw [HL.out]
                          exact RLoadP.no (BW.out _ B7.out)
                        · have dhi : decide ((16 : Int) < (N : Int)) = false := by simp; omega
                          have Hx := hid (Hx.out ⟨hn1, hn2, by omega, by omega⟩)
                          clear HL
                          go_wp2_with (first
                            | (at_builtin; refine app_verW w7 rfl (.tmp 123) (.tmp 128) rfl w.heap.size (.slice la lm lcap) x1.vs rfl HR7.out.vers p1 p2 N rfl Hv40.out (BW.out _ B7.out).size ?_; intro k2 m2 c2 V2 ho2 hg2; have HRL : Hid (RLI w g root m (k + 1) ({ x1 with vs := x1.vs ++ [((p1, p2), N)] }, x2) (V2.setCell ⟨g, 34, none⟩ (.slice (some ⟨k2, 0, none⟩) m2 c2))) := ⟨Hx.out, Hr1.out, ⟨_, _, (RTree.grownV HR7.out hg2 ho2).1⟩, (BW.out _ B7.out).trans (vers_below HR7.out hg2 (BW.out _ B7.out).size), by have := Hl.out; simp only; omega, by have := Hl.out; simp only [List.length_append, List.length_singleton]; omega, by have := Hl.out; simp only; omega⟩; have c34' := (RTree.grownV HR7.out hg2 ho2).2.1; have f34' := (RTree.grownV HR7.out hg2 ho2).2.2; clear ho2 hg2)
                            | (go_at_call 39; refine (HT.out _).mono ?_; rintro _ w8 ⟨rfl, e8⟩; subst w8)
                            | (go_at_call 40; refine (HSp.out _).mono ?_; rintro _ w7 ⟨rfl, b7⟩; have B7 := hid (Below.on' BV.out b7); have c7 := C0.out w7 B7.out; have d7 := C1.out w7 B7.out; have HR7 := hid (HRb.out w7 B7.out); have c34 := HR7.out.c34; clear b7)
                            | (go_at_call 38; refine (refIsName_q p1 _ hp1).mono ?_; rintro _ w9 ⟨rfl, e9⟩; subst w9; rw [hn1]; clear hp1)
                            | (go_at_call 38; refine (refIsName_q p2 _ hp2).mono ?_; rintro _ w9 ⟨rfl, e9⟩; subst w9; rw [hn2]; clear hp2))
                          go_roundw
                          case rel => exact ⟨k + 1, _, by go_num, by omega, rfl, HRL.out⟩
                          case measure => simp [intOf]; omega
            · have dE : ((E : Int) != 0) = true := by simp; omega
              have HL : Hid (loadR m = none) := fail_fold (k := k + 1) (by rw [Hst.out]; exact rs_bad hz9 (.inr (by rw [hhd, hN]; exact hE)))
              clear h1 hE hz1 hz9 hN hhd
              go_wp2_with (go_at_call 39; refine (HT.out _).mono ?_; rintro _ w8 ⟨rfl, e8⟩; subst w8)
              go_ret2
              rw [HL.out]
              exact RLoadP.no (BW.out _ BV.out)
          · have d1 : ((nc : Int) != 1) = true := by simp; omega
            have HL : Hid (loadR m = none) := fail_fold (k := k + 1) (by rw [Hst.out]; exact rs_bad hz9 (.inl (by rw [← Hnc.out]; exact h1)))
            clear h1 hz9 hN hhd
            go_wp2_with (go_at_call 39; refine (HT.out _).mono ?_; rintro _ w8 ⟨rfl, e8⟩; subst w8)
            go_ret2
            rw [HL.out]
            exact RLoadP.no (BW.out _ BV.out)
      · have HL := hid (Hrb2.out rfl)
        clear Hrb1 Hrb2
        go_wp2
        go_ret2
        rw [HL.out]
        exact RLoadP.no (BW.out _ BV.out)
    · have ek : k = n := by omega
      subst ek
      have g1 : ¬ (k : Int) < (k : Int) := by omega
      obtain ⟨hfo, hri, ⟨gv, lv, hRT⟩, hb, hl1, hl2, hl3⟩ := hI9
      rw [List.take_of_length_le (by have := Hn.out; omega)] at hfo hri
      simp only at hl1 hl2 hl3 hRT
      obtain ⟨ga, gcap, eg⟩ := own_any hRT.gone
      obtain ⟨gm, hgm⟩ : ∃ gm, gm = x1.gs.length := ⟨_, rfl⟩
      rw [← hgm] at eg
      subst eg
      obtain ⟨la, lcap, el, hvc⟩ := vers_of_own hRT.vers
      obtain ⟨lm, hlm⟩ : ∃ lm, lm = x1.vs.length := ⟨_, rfl⟩
      rw [← hlm] at el
      subst el
      have HR := hid hRT
      have HB := hid hb
      have Hfo := hid hfo
      have Hri := hid hri
      have Hgm := hid hgm
      have Hlm := hid hlm
      have Hvc := hid hvc
      have hlm9 : lm ≤ 140737488351232 := by omega
      have hgm9 : gm ≤ 140737488351232 := by omega
      have hx29 : x2 ≤ 140737488351232 := by omega
      have HGn := hid (fun (t : ByteArray) => isGone_big hRT (by omega) t)
      have c33 := hRT.c33
      have c34 := hRT.c34
      obtain ⟨Vr, hVr⟩ : ∃ Vr, Vr = wr := ⟨_, rfl⟩
      rw [← hVr] at HR HB Hvc HGn c33 c34 ⊢
      clear hfo hri hRT hb hl1 hl2 hl3 hgm hlm HI9 hlt hvc R2 hVr hk
      go_wp2
      go_loopw [15] (fun i wr => ∃ j : Nat, i = .int .i64 (j : Int) ∧ j ≤ lm ∧ wr = Vr ∧ ∀ p ∈ x1.vs.take j, isIn x1.gs p.1.1 = false) (fun i _ => lm - (intOf i).toNat)
      case atStart => exact ⟨0, rfl, Nat.zero_le _, rfl, fun p hp => by simp at hp⟩
      case round =>
        obtain ⟨j, rfl, hj, rfl, hpre⟩ := hrel
        have Hpre := hid hpre
        clear hpre
        by_cases hlt2 : j < lm
        · have g3 : (j : Int) < (lm : Int) := by omega
          have g4 : (0 : Int) ≤ (j : Int) := by omega
          have hjv : j < x1.vs.length := by have := Hlm.out; omega
          obtain ⟨bv, ebv, d0, _, _⟩ := Hvc.out j hjv
          subst ebv
          have Hmem := hid (List.getElem_mem hjv)
          have Htk := hid (List.take_succ_eq_append_getElem hjv)
          obtain ⟨y, hy⟩ : ∃ y, y = x1.vs[j] := ⟨_, rfl⟩
          rw [← hy] at Hmem Htk d0
          clear hy
          obtain ⟨⟨yt, yu⟩, yn⟩ := y
          simp only at d0
          cases hg : isIn x1.gs yt
          · go_wp2_with (go_at_call 41; refine (HGn.out yt).mono ?_; rintro _ w9 ⟨rfl, e9⟩; subst w9; rw [hg])
            go_roundw
            case rel =>
              refine ⟨j + 1, by go_num, by omega, by first | rfl | trivial, fun p hp => ?_⟩
              rw [Htk.out] at hp
              rcases List.mem_append.1 hp with h | h
              · exact Hpre.out p h
              · obtain rfl := List.mem_singleton.1 h
                exact hg
            case measure => simp [intOf]; omega
          · have HL : Hid (loadR m = none) := fail_fine Hfo.out (fun h9 => h9.2.2.2 _ Hmem.out (isIn_iff.1 hg))
            go_wp2_with (go_at_call 41; refine (HGn.out yt).mono ?_; rintro _ w9 ⟨rfl, e9⟩; subst w9; rw [hg])
            go_ret2
            rw [HL.out]
            exact RLoadP.no HB.out
        · have ej : j = lm := by omega
          subst ej
          have g3 : ¬ (j : Int) < (j : Int) := by omega
          have hall : Hid (∀ p ∈ x1.vs, p.1.1 ∉ x1.gs) := fun p hp hm => by
            have h1 := Hpre.out p (by rw [List.take_of_length_le (by have := Hlm.out; omega)]; exact hp)
            rw [isIn_iff.2 hm] at h1
            cases h1
          clear Hpre
          by_cases h2 : x2 = 1
          · subst h2
            by_cases h3 : 16 < gm
            · have d3 : decide ((16 : Int) < (gm : Int)) = true := by simp; omega
              have HL : Hid (loadR m = none) := fail_fine Hfo.out (fun h9 => by have h5 := h9.2.1; have := Hgm.out; simp only at h5; omega)
              go_wp2
              go_ret2
              rw [HL.out]
              exact RLoadP.no HB.out
            · have d3 : decide ((16 : Int) < (gm : Int)) = false := by simp; omega
              by_cases h4 : 16 < j
              · have d4 : decide ((16 : Int) < (j : Int)) = true := by simp; omega
                have HL : Hid (loadR m = none) := fail_fine Hfo.out (fun h9 => by have h5 := h9.2.2.1; have := Hlm.out; simp only at h5; omega)
                go_wp2
                go_ret2
                rw [HL.out]
                exact RLoadP.no HB.out
              · have d4 : decide ((16 : Int) < (j : Int)) = false := by simp; omega
                have HL : Hid (loadR m = some x1) := ref_loadR Hri.out Hfo.out rfl ⟨by have := Hgm.out; simp only; omega, by have := Hlm.out; simp only; omega, hall.out⟩
                go_wp2
                go_ret2
                rw [HL.out]
                exact ⟨HB.out, g, rfl, ⟨_, _, HR.out⟩⟩
          · have d2 : ((x2 : Int) != 1) = true := by simp; omega
            have HL : Hid (loadR m = none) := fail_fine Hfo.out (fun h9 => h2 h9.1)
            go_wp2
            go_ret2
            rw [HL.out]
            exact RLoadP.no HB.out
end Go.Proofs.YtdglmoikgmlaaaaGreatDoor.Xr
