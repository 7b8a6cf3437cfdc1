/- The walk of BlockLoads. -/
import Derived.Test.YtgiifodhofdpaaaBRefLoad
import Derived.Test.YtgiifodhofdpaaaBNums
namespace Go.Proofs.Ytgiifodhofdpaaa
open Go.RowKit
set_option linter.unusedVariables false

/-- rows of bytes of these lengths, whatever they are -/
def RowsAny (w : World) (B : Nat) (vs : List Value) (ps : List (List UInt8)) : Prop := ∀ i (h : i < ps.length) (h' : i < vs.length), ∃ xs : List UInt8, xs.length = (ps[i]).length ∧ w.ownsRow B 5 1 vs[i] (ps[i]).length (cellsOf xs)
theorem RowsAny.store {w : World} {B : Nat} {vs : List Value} {ps : List (List UInt8)} (h : RowsAny w B vs ps) (q t : Nat) (b : UInt8) : RowsAny (w.setCell ⟨q, t, none⟩ (.int .u8 (b.toNat : Int))) B vs ps := fun i hi hi' => by
  obtain ⟨xs, hl, ho⟩ := h i hi hi'
  by_cases hq : vs[i].ownBlock = some q
  · obtain ⟨a, c, hv⟩ := own_any ho
    have ha : vs[i] = .slice (some ⟨q, 0, none⟩) (ps[i]).length c := by
      rcases ho.2 with ⟨h1, _⟩ | ⟨g, cap, cur, h1, _⟩
      · rw [h1] at hq; cases hq
      · rw [h1] at hq hv
        have := own_slice hq
        subst this
        rw [h1]
        cases hv
        rfl
    refine ⟨xs.set t b, by rw [List.length_set]; exact hl, ?_⟩
    rw [← cellsOf_set, ha]
    rw [ha] at ho
    exact (ho.stored t (.int .u8 (b.toNat : Int))).1
  · exact ⟨xs, hl, own_keep ho fun j e => heap_setCell_other _ _ _ _ (fun e' => hq (by rw [e]; exact congrArg some e'))⟩
/-- what lies from HL on is as it was -/
structure Up (HL : Nat) (w w' : World) : Prop where
  size : w'.heap.size = w.heap.size
  block : ∀ k, HL ≤ k → w'.heap[k]? = w.heap[k]?
theorem Up.setCell {HL : Nat} {w w' : World} (h : Up HL w w') {q t : Nat} (hq : q < HL) (v : Value) : Up HL w (w'.setCell ⟨q, t, none⟩ v) :=
  ⟨by rw [← h.size]; simp [World.setCell], fun k hk => (heap_setCell_other _ _ _ _ (show k ≠ q by omega)).trans (h.block k hk)⟩
def psUpto (l : List Int) (b : UInt8) (k : Nat) : List (List UInt8) := (l.take k).map fun L => deedOf L b
theorem psUpto_length (l : List Int) (b : UInt8) (k : Nat) (h : k ≤ l.length) : (psUpto l b k).length = k := by unfold psUpto; rw [List.length_map, List.length_take]; omega
theorem psUpto_succ (l : List Int) (b : UInt8) (k : Nat) (h : k < l.length) : psUpto l b (k + 1) = psUpto l b k ++ [deedOf l[k] b] := by
  unfold psUpto; rw [List.take_succ_eq_append_getElem h, List.map_append]; rfl
theorem psUpto_small (l : List Int) (b : UInt8) (k : Nat) : ∀ p ∈ psUpto l b k, p.length ≤ 300 := fun p hp => by
  obtain ⟨L, _, rfl⟩ := List.mem_map.1 hp
  unfold deedOf; rw [List.length_replicate]; exact deedLen_le _
theorem u8_next (b : UInt8) : IntKind.u8.wrap ((b.toNat : Int) + 1) = ((b + 1).toNat : Int) := by
  have h := b.toNat_lt
  rw [UInt8.toNat_add]
  simp [IntKind.wrap, IntKind.signed, IntKind.bits]

set_option maxHeartbeats 6400000 in
set_option maxRecDepth 20000 in
theorem blockLoads_walk (l : List Int) (a : Option Addr) (ca : Nat) {w : World} (hl : NumsIn w a l) (k8 : Int) (hk8 : (Lit.int .u8 k8).wf = true) :
    Calls Try.prog 5 #[.slice a l.length ca, .int .u8 k8] w fun e w' => e = .returned (.bool true) ∧ Below w.heap.size w w' := by
  obtain ⟨i0, hi0, hz0, hz1, hz2⟩ := info_parts Try.info28
  have Hl := hid hl
  have hml := hl.length
  unfold maxLen at hml
  clear hl
  obtain ⟨b8, rfl⟩ := byte_of hk8
  clear hk8
  have Hu8 := u8_next b8
  go_enter Try.func5, Try.ntmps5
  go_wp2
  go_loopw [6, 5] (fun i o wr => ∃ (k : Nat) (vs : List Value), k ≤ 30 ∧ k ≤ l.length ∧ i = .int .i64 (k : Int) ∧ ImgAt wr w.heap.size o vs (psUpto l b8 k) ∧ (∀ v ∈ vs, ∀ j, v.ownBlock = some j → some j ≠ o.ownBlock) ∧ (k = 0 → o = .slice none 0 0) ∧ Below w.heap.size w wr) (fun i _ _ => 30 - (intOf i).toNat)
  case atStart => exact ⟨0, [], by omega, by omega, rfl, ⟨World.ownsRow_nil _ _ _ _, rfl, fun i hi => by simp [psUpto] at hi⟩, (fun v hv => by cases hv), (fun _ => rfl), Below.refl _ _⟩
  case round =>
    obtain ⟨k, vs, hk, hkl, rfl, hI, hap, hnil, hB⟩ := hrel
    have HI := hid hI
    have Hap := hid hap
    have Hnil := hid hnil
    have HB := hid hB
    have htl := psUpto_length l b8 k hkl
    have hrow := hI.row
    rw [htl] at hrow
    have Hrow := hid hrow
    have Htl := hid htl
    clear hI hap hnil hB hrow htl
    by_cases hlt : k < l.length
    · by_cases hlt2 : k < 30
      · obtain ⟨ba, oa, rfl, q0⟩ := (Hl.out.below HB.out).cells k hlt
        have Htk := hid (psUpto_succ l b8 k hlt)
        generalize l[k] = Lg at *
        have f0 : (0 : Int) ≤ (k : Int) := by omega
        have f1 : (k : Int) < (l.length : Int) := by omega
        have f2 : (k : Int) < 30 := by omega
        have hxl : (deedOf Lg b8).length ≤ 300 := by unfold deedOf; rw [List.length_replicate]; exact deedLen_le _
        go_wp2_with (fail)
        refine (bytes_any 0 Lg b8 wr).mono ?_
        rintro e w4 ⟨u0, rfl, hu, hb4⟩
        generalize deedOf Lg b8 = x at *
        obtain ⟨au, cu, rfl⟩ := own_any hu
        have Hu := hid hu
        have Hb4 := hid hb4
        have hs4 := hb4.size
        clear hu hb4
        go_wp2_with (at_builtin; refine wpList_append_lies _ rfl _ _ 38 rfl w.heap.size 28 i0 _ 1 24 Try.underlying38 hi0 hz0 hz1 hz2 rfl (by omega) u5 k vs rfl ((own_below Hrow.out Hb4.out).alloc _) ⟨w4.heap.size, 0, none⟩ 1 1 [.slice au x.length cu] rfl rfl (World.news_of_block (cs := #[.slice au x.length cu]) (t := 28) (fr := (0, 0)) (heap_alloc_new w4 _)) (fun q hq => by rw [List.mem_singleton.1 hq]; rfl) (by omega) (by unfold maxLen; omega) (by omega) (by have := HB.out.size; simp; omega) (w4.heap.size + 1) (by simp) ?_; intro gg cap1 w5 hown5 hgrow5 hat5 hlt5)
        have hE := hid (img_snoc (w3 := w5) (gg := gg) (cap1 := cap1) HI.out Hap.out Hu.out Hb4.out HB.out.size (by rw [Htl.out]; exact hown5) (fun j hj hne => (hgrow5.block j (by simp; omega) hne).trans (Below.heap_alloc _ _ _ hj)) (by rcases hat5 with h | h; exact .inl h; exact .inr (by omega)))
        rw [Htl.out, ← Htk.out] at hE
        have HB5 := hid (((HB.out.trans (Hb4.out.mono HB.out.size)).alloc (by have := HB.out.size; omega) _).grown hgrow5 (by have := HB.out.size; simp; omega) (fun j e => (Hrow.out.lt j e).1))
        clear hown5 hgrow5 hat5 hlt5
        go_wp2
        go_roundw
        case rel => exact ⟨k + 1, _, by omega, by omega, by go_num, hE.out.1, hE.out.2, (fun e => by omega), HB5.out⟩
        case measure => simp [intOf]; omega
      · have f2 : ¬ (k : Int) < 30 := by omega
        have f1 : (k : Int) < (l.length : Int) := by omega
        obtain ⟨wA, rfl⟩ : ∃ wA, wA = wr := ⟨_, rfl⟩
        by_cases hk0 : k = 0
        · have ho := Hnil.out hk0
          subst ho
          clear hk0
          go_wp2_with (fail)
          refine (load_none wA).mono ?_
          rintro e w1 ⟨rfl, rfl⟩
          go_wp2_with (fail)
          refine (refLoad_none w1).mono ?_
          rintro e w2 ⟨rfl, rfl⟩
          go_wp2_with (fail)
          refine (live_any w2).mono ?_
          rintro e w3 ⟨rfl, hB3⟩
          have HB3 := hid (HB.out.trans (hB3.mono HB.out.size))
          clear hB3
          go_wp2_with (fail)
          refine (refImage_nil _).mono ?_
          rintro e w4 ⟨rfl, rfl⟩
          obtain ⟨wC, rfl⟩ : ∃ wC, wC = w4 := ⟨_, rfl⟩
          go_wp2
          go_loopw [12] (fun i wq => i = .int .i64 0 ∧ wq = wC) (fun _ _ => 0)
          case atStart => exact ⟨rfl, rfl⟩
          case round =>
            obtain ⟨rfl, rfl⟩ := hrel
            go_wp2_with (fail)
            refine (image_nil _).mono ?_
            rintro e w5 ⟨rfl, rfl⟩
            go_wp2_with (fail)
            refine (sameAll_nil _).mono ?_
            rintro e w5 ⟨rfl, rfl⟩
            go_wp2_with (fail)
            refine (count_nil _).mono ?_
            rintro e w5 ⟨rfl, rfl⟩
            go_wp2
            go_ret
            exact ⟨ret_bool (by simp), HB3.out⟩
        · obtain ⟨bi, ci, rfl, hbiB, hbiL⟩ := Hrow.out.form (by omega)
          have HsmP := hid (psUpto_small l b8 k)
          have Hvl := hid (HI.out.vlen)
          generalize psUpto l b8 k = P at *
          rw [Htl.out] at Hvl
          have hi1 := HI.out
          have HI1 : Hid (ImgAt wA w.heap.size (.slice (some ⟨bi, 0, none⟩) P.length ci) vs P) := by rw [Htl.out]; exact hi1
          have Hvb : Hid (∀ u ∈ vs, ∀ q, u.ownBlock = some q → q < wA.heap.size ∧ q ≠ bi) := fun u hu q e => by
            obtain ⟨i, hi, rfl⟩ := List.getElem_of_mem hu
            refine ⟨((HI.out.rows i (by rw [Htl.out, ← Hvl.out]; exact hi) hi).lt q e).2, fun h => Hap.out _ (List.getElem_mem hi) q e (by rw [h]; rfl)⟩
          have HaA : Hid (RowsAny wA w.heap.size vs P) := fun i hi hi' => ⟨P[i], rfl, HI.out.rows i hi hi'⟩
          obtain ⟨HL, hHL⟩ : ∃ HL, HL = wA.heap.size := ⟨_, rfl⟩
          rw [← hHL] at Hvb hbiL
          have HHL := hid hHL
          have Hlo := hid (load_ok HI1.out (by rw [Htl.out]; omega) (by rw [Htl.out]; omega) HsmP.out)
          rw [Htl.out] at Hlo
          have hkpos : 1 ≤ k := by omega
          clear hi1 hHL hk0 Hnil
          go_wp2_with (fail)
          refine Hlo.out.mono ?_
          rintro e w1 ⟨hcase1, hB1⟩
          have HB1 := hid hB1
          have HI2 := hid (HI1.out.below hB1)
          have Hrl := hid (refLoad_ok HI2.out (by rw [Htl.out]; omega) (by rw [Htl.out]; omega))
          rw [Htl.out] at Hrl
          clear hB1 Hlo
          rcases hcase1 with ⟨hbad, rfl⟩ | ⟨hall, d, g, cap, rfl, hD⟩
          · go_wp2_with (fail)
            refine Hrl.out.mono ?_
            rintro e w2 ⟨hcase2, hB2⟩
            obtain rfl : e = .returned (.tuple #[.pointer none, .int .i64 3]) := by
              rcases hcase2 with ⟨_, rfl⟩ | ⟨hall, _⟩
              · rfl
              · obtain ⟨p, hp, hne⟩ := hbad
                exact absurd (hall p hp) hne
            have HB2 := hid (HB1.out.trans (hB2.mono HB1.out.size))
            clear hcase2 hB2 Hrl hbad
            go_wp2_with (fail)
            refine (live_any w2).mono ?_
            rintro e w3 ⟨rfl, hB3⟩
            have hA3 : Below wA.heap.size wA w3 := HB2.out.trans (hB3.mono HB2.out.size)
            have HBC := hid (HB.out.trans (hA3.mono HB.out.size))
            have HrC := hid (own_below Hrow.out hA3)
            have HaC : Hid (RowsAny w3 w.heap.size vs P) := fun i hi hi' => by
              obtain ⟨xs, h1, h2⟩ := HaA.out i hi hi'
              exact ⟨xs, h1, own_below h2 hA3⟩
            clear hB3 hA3
            go_wp2_with (fail)
            refine (refImage_nil _).mono ?_
            rintro e w4 ⟨rfl, rfl⟩
            obtain ⟨wC, rfl⟩ : ∃ wC, wC = w4 := ⟨_, rfl⟩
            go_wp2
            go_loopw [12] (fun i wq => ∃ q : Nat, q ≤ k ∧ i = .int .i64 (q : Int) ∧ wq.ownsRow w.heap.size 28 1 (.slice (some ⟨bi, 0, none⟩) k ci) k vs ∧ RowsAny wq w.heap.size vs P ∧ Up HL wC wq ∧ Below w.heap.size w wq) (fun i _ => k - (intOf i).toNat)
            case atStart => exact ⟨0, by omega, rfl, HrC.out, HaC.out, ⟨rfl, fun _ _ => rfl⟩, HBC.out⟩
            case round =>
              obtain ⟨q, hq, rfl, hrw, hra, hup, hBq⟩ := hrel
              have Hrw := hid hrw
              have Hra := hid hra
              have Hup := hid hup
              have HBq := hid hBq
              clear hrw hra hup hBq HrC HaC HBC
              by_cases hqk : q < k
              · have hqP : q < P.length := by rw [Htl.out]; exact hqk
                have hqv : q < vs.length := by rw [Hvl.out]; exact hqk
                obtain ⟨av, cv, hve⟩ : ∃ av cv, vs[q] = .slice av (P[q]).length cv := by
                  obtain ⟨xs, _, ho⟩ := Hra.out q hqP hqv
                  exact own_any ho
                have k1 := (Hrw.out.cellAt q (by omega)).trans (List.getElem?_eq_getElem hqv)
                rw [hve] at k1
                have Hve := hid hve
                have g0 : (0 : Int) ≤ (q : Int) := by omega
                have g1 : (q : Int) < (k : Int) := by omega
                have Hps := hid (HsmP.out _ (List.getElem_mem hqP))
                obtain ⟨n, hn⟩ : ∃ n, n = (P[q]).length := ⟨_, rfl⟩
                rw [← hn] at k1 Hve Hps
                have hn300 : n ≤ 300 := Hps.out
                have Hn := hid hn
                clear hve hn k1
                go_wp2
                go_loopw [13] (fun i wz => ∃ t : Nat, t ≤ n ∧ i = .int .i64 (t : Int) ∧ wz.ownsRow w.heap.size 28 1 (.slice (some ⟨bi, 0, none⟩) k ci) k vs ∧ RowsAny wz w.heap.size vs P ∧ Up HL wC wz ∧ Below w.heap.size w wz) (fun i _ => n - (intOf i).toNat)
                case atStart => exact ⟨0, by omega, rfl, Hrw.out, Hra.out, Hup.out, HBq.out⟩
                case round =>
                  obtain ⟨t, ht, rfl, hrw, hra, hup, hBz⟩ := hrel
                  have Hrw2 := hid hrw
                  have Hra2 := hid hra
                  have Hup2 := hid hup
                  have HBz := hid hBz
                  have k1 := (hrw.cellAt q (by omega)).trans (List.getElem?_eq_getElem hqv)
                  rw [Hve.out] at k1
                  clear hrw hra hup hBz
                  by_cases htn : t < n
                  · obtain ⟨xs, hxl, hox⟩ := Hra2.out q hqP hqv
                    rw [← Hn.out, Hve.out] at hox
                    rw [← Hn.out] at hxl
                    obtain ⟨bq, cq, he, hbq, _⟩ := hox.form (by omega)
                    cases he
                    have k2 := (hox.cellAt t (by omega)).trans (cellsOf_get xs t (by omega))
                    have k3 := hox.frozenAt t
                    have hvb := Hvb.out _ (List.getElem_mem hqv) bq (by rw [Hve.out]; rfl)
                    generalize (xs[t]'(by omega)).toNat = c7 at k2
                    have t0 : (0 : Int) ≤ (t : Int) := by omega
                    have t1 : (t : Int) < (n : Int) := by omega
                    clear hox hxl
                    go_wp2
                    go_roundw
                    case rel =>
                      refine ⟨t + 1, by omega, by go_num, own_keep Hrw2.out fun z e => heap_setCell_other _ _ _ _ (fun e' => hvb.2 (by rw [← own_slice e]; exact e'.symm)), ?_, Hup2.out.setCell hvb.1 _, HBz.out.setCell hbq _⟩
                      first | exact Hra2.out.store bq t (b8 + 1) | (rw [Hu8]; exact Hra2.out.store bq t (b8 + 1))
                    case measure => simp [intOf]; omega
                  · have t1 : ¬ (t : Int) < (n : Int) := by omega
                    go_wp2
                    go_roundw
                    case rel => exact ⟨q + 1, by omega, by go_num, Hrw2.out, Hra2.out, Hup2.out, HBz.out⟩
                    case measure => simp [intOf]; omega
              · have g1 : ¬ (q : Int) < (k : Int) := by omega
                go_wp2_with (fail)
                refine (image_nil _).mono ?_
                rintro e w5 ⟨rfl, rfl⟩
                go_wp2_with (fail)
                refine (sameAll_nil _).mono ?_
                rintro e w5 ⟨rfl, rfl⟩
                go_wp2_with (fail)
                refine (count_nil _).mono ?_
                rintro e w5 ⟨rfl, rfl⟩
                go_wp2
                go_ret
                exact ⟨ret_bool (by simp), HBq.out⟩
          · go_wp2_with (fail)
            refine Hrl.out.mono ?_
            rintro e w2 ⟨hcase2, hB2⟩
            obtain ⟨r, F, vr, rfl, hR⟩ : ∃ r F vr, e = .returned (.tuple #[.pointer (some ⟨r, 0, none⟩), .int .i64 0]) ∧ RefAt w2 w1.heap.size r F (.slice none 0 0) vr [] P [] := by
              rcases hcase2 with ⟨⟨p, hp, hne⟩, _⟩ | ⟨_, h⟩
              · exact absurd (hall p hp) hne
              · exact h
            have HD2 := hid (hD.below hB2)
            have HR2 := hid hR
            have HB2 := hid (HB1.out.trans (hB2.mono HB1.out.size))
            have Hall := hid hall
            have hs1 := HB1.out.size
            clear hcase2 hB2 Hrl hD hR hall
            go_wp2_with (fail)
            refine (live_any w2).mono ?_
            rintro e w3 ⟨rfl, hB3⟩
            have HD3 := hid (HD2.out.below hB3)
            have HR3 := hid (HR2.out.below hB3)
            have HB3 := hid (HB2.out.trans (hB3.mono HB2.out.size))
            clear hB3 HD2 HR2 HB2
            go_wp2_with (fail)
            refine (refImage_ok HR3.out (fun c hc => by cases hc) Hall.out (by rw [Htl.out]; omega) (by rw [Htl.out]; omega) (by simp)).mono ?_
            rintro e w4 ⟨b2, c2, vs2, rfl, hJ, hB4⟩
            rw [Htl.out] at hJ ⊢
            have hJ2 : ImgAt w4 w3.heap.size (.slice (some ⟨b2, 0, none⟩) k c2) vs2 P := hJ
            have HJ := hid hJ2
            have HD4 := hid (HD3.out.below hB4)
            have hA4 : Below wA.heap.size wA w4 := HB3.out.trans (hB4.mono HB3.out.size)
            have HBC := hid (HB.out.trans (hA4.mono HB.out.size))
            have HrC := hid (own_below Hrow.out hA4)
            have HaC : Hid (RowsAny w4 w.heap.size vs P) := fun i hi hi' => by
              obtain ⟨xs, h1, h2⟩ := HaA.out i hi hi'
              exact ⟨xs, h1, own_below h2 hA4⟩
            have hs3 := HB3.out.size
            clear hJ hJ2 hB4 hA4 HD3 HR3 HB3
            obtain ⟨wC, rfl⟩ : ∃ wC, wC = w4 := ⟨_, rfl⟩
            go_wp2
            go_loopw [12] (fun i wq => ∃ q : Nat, q ≤ k ∧ i = .int .i64 (q : Int) ∧ wq.ownsRow w.heap.size 28 1 (.slice (some ⟨bi, 0, none⟩) k ci) k vs ∧ RowsAny wq w.heap.size vs P ∧ Up HL wC wq ∧ Below w.heap.size w wq) (fun i _ => k - (intOf i).toNat)
            case atStart => exact ⟨0, by omega, rfl, HrC.out, HaC.out, ⟨rfl, fun _ _ => rfl⟩, HBC.out⟩
            case round =>
              obtain ⟨q, hq, rfl, hrw, hra, hup, hBq⟩ := hrel
              have Hrw := hid hrw
              have Hra := hid hra
              have Hup := hid hup
              have HBq := hid hBq
              clear hrw hra hup hBq HrC HaC HBC
              by_cases hqk : q < k
              · have hqP : q < P.length := by rw [Htl.out]; exact hqk
                have hqv : q < vs.length := by rw [Hvl.out]; exact hqk
                obtain ⟨av, cv, hve⟩ : ∃ av cv, vs[q] = .slice av (P[q]).length cv := by
                  obtain ⟨xs, _, ho⟩ := Hra.out q hqP hqv
                  exact own_any ho
                have k1 := (Hrw.out.cellAt q (by omega)).trans (List.getElem?_eq_getElem hqv)
                rw [hve] at k1
                have Hve := hid hve
                have g0 : (0 : Int) ≤ (q : Int) := by omega
                have g1 : (q : Int) < (k : Int) := by omega
                have Hps := hid (HsmP.out _ (List.getElem_mem hqP))
                obtain ⟨n, hn⟩ : ∃ n, n = (P[q]).length := ⟨_, rfl⟩
                rw [← hn] at k1 Hve Hps
                have hn300 : n ≤ 300 := Hps.out
                have Hn := hid hn
                clear hve hn k1
                go_wp2
                go_loopw [13] (fun i wz => ∃ t : Nat, t ≤ n ∧ i = .int .i64 (t : Int) ∧ wz.ownsRow w.heap.size 28 1 (.slice (some ⟨bi, 0, none⟩) k ci) k vs ∧ RowsAny wz w.heap.size vs P ∧ Up HL wC wz ∧ Below w.heap.size w wz) (fun i _ => n - (intOf i).toNat)
                case atStart => exact ⟨0, by omega, rfl, Hrw.out, Hra.out, Hup.out, HBq.out⟩
                case round =>
                  obtain ⟨t, ht, rfl, hrw, hra, hup, hBz⟩ := hrel
                  have Hrw2 := hid hrw
                  have Hra2 := hid hra
                  have Hup2 := hid hup
                  have HBz := hid hBz
                  have k1 := (hrw.cellAt q (by omega)).trans (List.getElem?_eq_getElem hqv)
                  rw [Hve.out] at k1
                  clear hrw hra hup hBz
                  by_cases htn : t < n
                  · obtain ⟨xs, hxl, hox⟩ := Hra2.out q hqP hqv
                    rw [← Hn.out, Hve.out] at hox
                    rw [← Hn.out] at hxl
                    obtain ⟨bq, cq, he, hbq, _⟩ := hox.form (by omega)
                    cases he
                    have k2 := (hox.cellAt t (by omega)).trans (cellsOf_get xs t (by omega))
                    have k3 := hox.frozenAt t
                    have hvb := Hvb.out _ (List.getElem_mem hqv) bq (by rw [Hve.out]; rfl)
                    generalize (xs[t]'(by omega)).toNat = c7 at k2
                    have t0 : (0 : Int) ≤ (t : Int) := by omega
                    have t1 : (t : Int) < (n : Int) := by omega
                    clear hox hxl
                    go_wp2
                    go_roundw
                    case rel =>
                      refine ⟨t + 1, by omega, by go_num, own_keep Hrw2.out fun z e => heap_setCell_other _ _ _ _ (fun e' => hvb.2 (by rw [← own_slice e]; exact e'.symm)), ?_, Hup2.out.setCell hvb.1 _, HBz.out.setCell hbq _⟩
                      first | exact Hra2.out.store bq t (b8 + 1) | (rw [Hu8]; exact Hra2.out.store bq t (b8 + 1))
                    case measure => simp [intOf]; omega
                  · have t1 : ¬ (t : Int) < (n : Int) := by omega
                    go_wp2
                    go_roundw
                    case rel => exact ⟨q + 1, by omega, by go_num, Hrw2.out, Hra2.out, Hup2.out, HBz.out⟩
                    case measure => simp [intOf]; omega
              · have g1 : ¬ (q : Int) < (k : Int) := by omega
                have HDq := hid (HD4.out.keep (Hup.out.block _ (by have := HD4.out.bd; rw [HHL.out]; exact this)) (Hup.out.block _ (by have := (HD4.out.pages.lt g rfl).1; rw [HHL.out]; exact this)) (fun _ e => by cases e))
                have HJq := hid (HJ.out.keep fun z h1 _ => Hup.out.block z (by rw [HHL.out]; omega))
                go_wp2_with (fail)
                refine (image_ok HDq.out (by rw [Htl.out]; omega) (by rw [Htl.out]; omega)).mono ?_
                rintro e w5 ⟨b5, vs5, rfl, hI5, hB5⟩
                rw [Htl.out] at hI5 ⊢
                have Hsa := hid (sameAll_eq Htl.out.symm hI5 (HJq.out.below hB5) (by rw [Htl.out]; omega) (fun p hp => by rw [Hall.out p hp]; omega))
                have HD5 := hid (HDq.out.below hB5)
                have HB5 := hid (HBq.out.trans (hB5.mono HBq.out.size))
                clear hI5 hB5 HDq HJq
                go_wp2_with (fail)
                refine Hsa.out.mono ?_
                rintro e w6 ⟨rfl, hB6⟩
                have HB6 := hid (HB5.out.trans (hB6.mono HB5.out.size))
                have Hct := hid (count_any (HD5.out.below hB6))
                clear hB6 Hsa
                go_wp2_with (fail)
                refine Hct.out.mono ?_
                rintro e w7 ⟨rfl, rfl⟩
                go_wp2
                go_ret
                exact ⟨ret_bool (by simp), HB6.out⟩
    · have f1 : ¬ (k : Int) < (l.length : Int) := by omega
      obtain ⟨wA, rfl⟩ : ∃ wA, wA = wr := ⟨_, rfl⟩
      by_cases hk0 : k = 0
      · have ho := Hnil.out hk0
        subst ho
        clear hk0
        go_wp2_with (fail)
        refine (load_none wA).mono ?_
        rintro e w1 ⟨rfl, rfl⟩
        go_wp2_with (fail)
        refine (refLoad_none w1).mono ?_
        rintro e w2 ⟨rfl, rfl⟩
        go_wp2_with (fail)
        refine (live_any w2).mono ?_
        rintro e w3 ⟨rfl, hB3⟩
        have HB3 := hid (HB.out.trans (hB3.mono HB.out.size))
        clear hB3
        go_wp2_with (fail)
        refine (refImage_nil _).mono ?_
        rintro e w4 ⟨rfl, rfl⟩
        obtain ⟨wC, rfl⟩ : ∃ wC, wC = w4 := ⟨_, rfl⟩
        go_wp2
        go_loopw [12] (fun i wq => i = .int .i64 0 ∧ wq = wC) (fun _ _ => 0)
        case atStart => exact ⟨rfl, rfl⟩
        case round =>
          obtain ⟨rfl, rfl⟩ := hrel
          go_wp2_with (fail)
          refine (image_nil _).mono ?_
          rintro e w5 ⟨rfl, rfl⟩
          go_wp2_with (fail)
          refine (sameAll_nil _).mono ?_
          rintro e w5 ⟨rfl, rfl⟩
          go_wp2_with (fail)
          refine (count_nil _).mono ?_
          rintro e w5 ⟨rfl, rfl⟩
          go_wp2
          go_ret
          exact ⟨ret_bool (by simp), HB3.out⟩
      · obtain ⟨bi, ci, rfl, hbiB, hbiL⟩ := Hrow.out.form (by omega)
        have HsmP := hid (psUpto_small l b8 k)
        have Hvl := hid (HI.out.vlen)
        generalize psUpto l b8 k = P at *
        rw [Htl.out] at Hvl
        have hi1 := HI.out
        have HI1 : Hid (ImgAt wA w.heap.size (.slice (some ⟨bi, 0, none⟩) P.length ci) vs P) := by rw [Htl.out]; exact hi1
        have Hvb : Hid (∀ u ∈ vs, ∀ q, u.ownBlock = some q → q < wA.heap.size ∧ q ≠ bi) := fun u hu q e => by
          obtain ⟨i, hi, rfl⟩ := List.getElem_of_mem hu
          refine ⟨((HI.out.rows i (by rw [Htl.out, ← Hvl.out]; exact hi) hi).lt q e).2, fun h => Hap.out _ (List.getElem_mem hi) q e (by rw [h]; rfl)⟩
        have HaA : Hid (RowsAny wA w.heap.size vs P) := fun i hi hi' => ⟨P[i], rfl, HI.out.rows i hi hi'⟩
        obtain ⟨HL, hHL⟩ : ∃ HL, HL = wA.heap.size := ⟨_, rfl⟩
        rw [← hHL] at Hvb hbiL
        have HHL := hid hHL
        have Hlo := hid (load_ok HI1.out (by rw [Htl.out]; omega) (by rw [Htl.out]; omega) HsmP.out)
        rw [Htl.out] at Hlo
        have hkpos : 1 ≤ k := by omega
        clear hi1 hHL hk0 Hnil
        go_wp2_with (fail)
        refine Hlo.out.mono ?_
        rintro e w1 ⟨hcase1, hB1⟩
        have HB1 := hid hB1
        have HI2 := hid (HI1.out.below hB1)
        have Hrl := hid (refLoad_ok HI2.out (by rw [Htl.out]; omega) (by rw [Htl.out]; omega))
        rw [Htl.out] at Hrl
        clear hB1 Hlo
        rcases hcase1 with ⟨hbad, rfl⟩ | ⟨hall, d, g, cap, rfl, hD⟩
        · go_wp2_with (fail)
          refine Hrl.out.mono ?_
          rintro e w2 ⟨hcase2, hB2⟩
          obtain rfl : e = .returned (.tuple #[.pointer none, .int .i64 3]) := by
            rcases hcase2 with ⟨_, rfl⟩ | ⟨hall, _⟩
            · rfl
            · obtain ⟨p, hp, hne⟩ := hbad
              exact absurd (hall p hp) hne
          have HB2 := hid (HB1.out.trans (hB2.mono HB1.out.size))
          clear hcase2 hB2 Hrl hbad
          go_wp2_with (fail)
          refine (live_any w2).mono ?_
          rintro e w3 ⟨rfl, hB3⟩
          have hA3 : Below wA.heap.size wA w3 := HB2.out.trans (hB3.mono HB2.out.size)
          have HBC := hid (HB.out.trans (hA3.mono HB.out.size))
          have HrC := hid (own_below Hrow.out hA3)
          have HaC : Hid (RowsAny w3 w.heap.size vs P) := fun i hi hi' => by
            obtain ⟨xs, h1, h2⟩ := HaA.out i hi hi'
            exact ⟨xs, h1, own_below h2 hA3⟩
          clear hB3 hA3
          go_wp2_with (fail)
          refine (refImage_nil _).mono ?_
          rintro e w4 ⟨rfl, rfl⟩
          obtain ⟨wC, rfl⟩ : ∃ wC, wC = w4 := ⟨_, rfl⟩
          go_wp2
          go_loopw [12] (fun i wq => ∃ q : Nat, q ≤ k ∧ i = .int .i64 (q : Int) ∧ wq.ownsRow w.heap.size 28 1 (.slice (some ⟨bi, 0, none⟩) k ci) k vs ∧ RowsAny wq w.heap.size vs P ∧ Up HL wC wq ∧ Below w.heap.size w wq) (fun i _ => k - (intOf i).toNat)
          case atStart => exact ⟨0, by omega, rfl, HrC.out, HaC.out, ⟨rfl, fun _ _ => rfl⟩, HBC.out⟩
          case round =>
            obtain ⟨q, hq, rfl, hrw, hra, hup, hBq⟩ := hrel
            have Hrw := hid hrw
            have Hra := hid hra
            have Hup := hid hup
            have HBq := hid hBq
            clear hrw hra hup hBq HrC HaC HBC
            by_cases hqk : q < k
            · have hqP : q < P.length := by rw [Htl.out]; exact hqk
              have hqv : q < vs.length := by rw [Hvl.out]; exact hqk
              obtain ⟨av, cv, hve⟩ : ∃ av cv, vs[q] = .slice av (P[q]).length cv := by
                obtain ⟨xs, _, ho⟩ := Hra.out q hqP hqv
                exact own_any ho
              have k1 := (Hrw.out.cellAt q (by omega)).trans (List.getElem?_eq_getElem hqv)
              rw [hve] at k1
              have Hve := hid hve
              have g0 : (0 : Int) ≤ (q : Int) := by omega
              have g1 : (q : Int) < (k : Int) := by omega
              have Hps := hid (HsmP.out _ (List.getElem_mem hqP))
              obtain ⟨n, hn⟩ : ∃ n, n = (P[q]).length := ⟨_, rfl⟩
              rw [← hn] at k1 Hve Hps
              have hn300 : n ≤ 300 := Hps.out
              have Hn := hid hn
              clear hve hn k1
              go_wp2
              go_loopw [13] (fun i wz => ∃ t : Nat, t ≤ n ∧ i = .int .i64 (t : Int) ∧ wz.ownsRow w.heap.size 28 1 (.slice (some ⟨bi, 0, none⟩) k ci) k vs ∧ RowsAny wz w.heap.size vs P ∧ Up HL wC wz ∧ Below w.heap.size w wz) (fun i _ => n - (intOf i).toNat)
              case atStart => exact ⟨0, by omega, rfl, Hrw.out, Hra.out, Hup.out, HBq.out⟩
              case round =>
                obtain ⟨t, ht, rfl, hrw, hra, hup, hBz⟩ := hrel
                have Hrw2 := hid hrw
                have Hra2 := hid hra
                have Hup2 := hid hup
                have HBz := hid hBz
                have k1 := (hrw.cellAt q (by omega)).trans (List.getElem?_eq_getElem hqv)
                rw [Hve.out] at k1
                clear hrw hra hup hBz
                by_cases htn : t < n
                · obtain ⟨xs, hxl, hox⟩ := Hra2.out q hqP hqv
                  rw [← Hn.out, Hve.out] at hox
                  rw [← Hn.out] at hxl
                  obtain ⟨bq, cq, he, hbq, _⟩ := hox.form (by omega)
                  cases he
                  have k2 := (hox.cellAt t (by omega)).trans (cellsOf_get xs t (by omega))
                  have k3 := hox.frozenAt t
                  have hvb := Hvb.out _ (List.getElem_mem hqv) bq (by rw [Hve.out]; rfl)
                  generalize (xs[t]'(by omega)).toNat = c7 at k2
                  have t0 : (0 : Int) ≤ (t : Int) := by omega
                  have t1 : (t : Int) < (n : Int) := by omega
                  clear hox hxl
                  go_wp2
                  go_roundw
                  case rel =>
                    refine ⟨t + 1, by omega, by go_num, own_keep Hrw2.out fun z e => heap_setCell_other _ _ _ _ (fun e' => hvb.2 (by rw [← own_slice e]; exact e'.symm)), ?_, Hup2.out.setCell hvb.1 _, HBz.out.setCell hbq _⟩
                    first | exact Hra2.out.store bq t (b8 + 1) | (rw [Hu8]; exact Hra2.out.store bq t (b8 + 1))
                  case measure => simp [intOf]; omega
                · have t1 : ¬ (t : Int) < (n : Int) := by omega
                  go_wp2
                  go_roundw
                  case rel => exact ⟨q + 1, by omega, by go_num, Hrw2.out, Hra2.out, Hup2.out, HBz.out⟩
                  case measure => simp [intOf]; omega
            · have g1 : ¬ (q : Int) < (k : Int) := by omega
              go_wp2_with (fail)
              refine (image_nil _).mono ?_
              rintro e w5 ⟨rfl, rfl⟩
              go_wp2_with (fail)
              refine (sameAll_nil _).mono ?_
              rintro e w5 ⟨rfl, rfl⟩
              go_wp2_with (fail)
              refine (count_nil _).mono ?_
              rintro e w5 ⟨rfl, rfl⟩
              go_wp2
              go_ret
              exact ⟨ret_bool (by simp), HBq.out⟩
        · go_wp2_with (fail)
          refine Hrl.out.mono ?_
          rintro e w2 ⟨hcase2, hB2⟩
          obtain ⟨r, F, vr, rfl, hR⟩ : ∃ r F vr, e = .returned (.tuple #[.pointer (some ⟨r, 0, none⟩), .int .i64 0]) ∧ RefAt w2 w1.heap.size r F (.slice none 0 0) vr [] P [] := by
            rcases hcase2 with ⟨⟨p, hp, hne⟩, _⟩ | ⟨_, h⟩
            · exact absurd (hall p hp) hne
            · exact h
          have HD2 := hid (hD.below hB2)
          have HR2 := hid hR
          have HB2 := hid (HB1.out.trans (hB2.mono HB1.out.size))
          have Hall := hid hall
          have hs1 := HB1.out.size
          clear hcase2 hB2 Hrl hD hR hall
          go_wp2_with (fail)
          refine (live_any w2).mono ?_
          rintro e w3 ⟨rfl, hB3⟩
          have HD3 := hid (HD2.out.below hB3)
          have HR3 := hid (HR2.out.below hB3)
          have HB3 := hid (HB2.out.trans (hB3.mono HB2.out.size))
          clear hB3 HD2 HR2 HB2
          go_wp2_with (fail)
          refine (refImage_ok HR3.out (fun c hc => by cases hc) Hall.out (by rw [Htl.out]; omega) (by rw [Htl.out]; omega) (by simp)).mono ?_
          rintro e w4 ⟨b2, c2, vs2, rfl, hJ, hB4⟩
          rw [Htl.out] at hJ ⊢
          have hJ2 : ImgAt w4 w3.heap.size (.slice (some ⟨b2, 0, none⟩) k c2) vs2 P := hJ
          have HJ := hid hJ2
          have HD4 := hid (HD3.out.below hB4)
          have hA4 : Below wA.heap.size wA w4 := HB3.out.trans (hB4.mono HB3.out.size)
          have HBC := hid (HB.out.trans (hA4.mono HB.out.size))
          have HrC := hid (own_below Hrow.out hA4)
          have HaC : Hid (RowsAny w4 w.heap.size vs P) := fun i hi hi' => by
            obtain ⟨xs, h1, h2⟩ := HaA.out i hi hi'
            exact ⟨xs, h1, own_below h2 hA4⟩
          have hs3 := HB3.out.size
          clear hJ hJ2 hB4 hA4 HD3 HR3 HB3
          obtain ⟨wC, rfl⟩ : ∃ wC, wC = w4 := ⟨_, rfl⟩
          go_wp2
          go_loopw [12] (fun i wq => ∃ q : Nat, q ≤ k ∧ i = .int .i64 (q : Int) ∧ wq.ownsRow w.heap.size 28 1 (.slice (some ⟨bi, 0, none⟩) k ci) k vs ∧ RowsAny wq w.heap.size vs P ∧ Up HL wC wq ∧ Below w.heap.size w wq) (fun i _ => k - (intOf i).toNat)
          case atStart => exact ⟨0, by omega, rfl, HrC.out, HaC.out, ⟨rfl, fun _ _ => rfl⟩, HBC.out⟩
          case round =>
            obtain ⟨q, hq, rfl, hrw, hra, hup, hBq⟩ := hrel
            have Hrw := hid hrw
            have Hra := hid hra
            have Hup := hid hup
            have HBq := hid hBq
            clear hrw hra hup hBq HrC HaC HBC
            by_cases hqk : q < k
            · have hqP : q < P.length := by rw [Htl.out]; exact hqk
              have hqv : q < vs.length := by rw [Hvl.out]; exact hqk
              obtain ⟨av, cv, hve⟩ : ∃ av cv, vs[q] = .slice av (P[q]).length cv := by
                obtain ⟨xs, _, ho⟩ := Hra.out q hqP hqv
                exact own_any ho
              have k1 := (Hrw.out.cellAt q (by omega)).trans (List.getElem?_eq_getElem hqv)
              rw [hve] at k1
              have Hve := hid hve
              have g0 : (0 : Int) ≤ (q : Int) := by omega
              have g1 : (q : Int) < (k : Int) := by omega
              have Hps := hid (HsmP.out _ (List.getElem_mem hqP))
              obtain ⟨n, hn⟩ : ∃ n, n = (P[q]).length := ⟨_, rfl⟩
              rw [← hn] at k1 Hve Hps
              have hn300 : n ≤ 300 := Hps.out
              have Hn := hid hn
              clear hve hn k1
              go_wp2
              go_loopw [13] (fun i wz => ∃ t : Nat, t ≤ n ∧ i = .int .i64 (t : Int) ∧ wz.ownsRow w.heap.size 28 1 (.slice (some ⟨bi, 0, none⟩) k ci) k vs ∧ RowsAny wz w.heap.size vs P ∧ Up HL wC wz ∧ Below w.heap.size w wz) (fun i _ => n - (intOf i).toNat)
              case atStart => exact ⟨0, by omega, rfl, Hrw.out, Hra.out, Hup.out, HBq.out⟩
              case round =>
                obtain ⟨t, ht, rfl, hrw, hra, hup, hBz⟩ := hrel
                have Hrw2 := hid hrw
                have Hra2 := hid hra
                have Hup2 := hid hup
                have HBz := hid hBz
                have k1 := (hrw.cellAt q (by omega)).trans (List.getElem?_eq_getElem hqv)
                rw [Hve.out] at k1
                clear hrw hra hup hBz
                by_cases htn : t < n
                · obtain ⟨xs, hxl, hox⟩ := Hra2.out q hqP hqv
                  rw [← Hn.out, Hve.out] at hox
                  rw [← Hn.out] at hxl
                  obtain ⟨bq, cq, he, hbq, _⟩ := hox.form (by omega)
                  cases he
                  have k2 := (hox.cellAt t (by omega)).trans (cellsOf_get xs t (by omega))
                  have k3 := hox.frozenAt t
                  have hvb := Hvb.out _ (List.getElem_mem hqv) bq (by rw [Hve.out]; rfl)
                  generalize (xs[t]'(by omega)).toNat = c7 at k2
                  have t0 : (0 : Int) ≤ (t : Int) := by omega
                  have t1 : (t : Int) < (n : Int) := by omega
                  clear hox hxl
                  go_wp2
                  go_roundw
                  case rel =>
                    refine ⟨t + 1, by omega, by go_num, own_keep Hrw2.out fun z e => heap_setCell_other _ _ _ _ (fun e' => hvb.2 (by rw [← own_slice e]; exact e'.symm)), ?_, Hup2.out.setCell hvb.1 _, HBz.out.setCell hbq _⟩
                    first | exact Hra2.out.store bq t (b8 + 1) | (rw [Hu8]; exact Hra2.out.store bq t (b8 + 1))
                  case measure => simp [intOf]; omega
                · have t1 : ¬ (t : Int) < (n : Int) := by omega
                  go_wp2
                  go_roundw
                  case rel => exact ⟨q + 1, by omega, by go_num, Hrw2.out, Hra2.out, Hup2.out, HBz.out⟩
                  case measure => simp [intOf]; omega
            · have g1 : ¬ (q : Int) < (k : Int) := by omega
              have HDq := hid (HD4.out.keep (Hup.out.block _ (by have := HD4.out.bd; rw [HHL.out]; exact this)) (Hup.out.block _ (by have := (HD4.out.pages.lt g rfl).1; rw [HHL.out]; exact this)) (fun _ e => by cases e))
              have HJq := hid (HJ.out.keep fun z h1 _ => Hup.out.block z (by rw [HHL.out]; omega))
              go_wp2_with (fail)
              refine (image_ok HDq.out (by rw [Htl.out]; omega) (by rw [Htl.out]; omega)).mono ?_
              rintro e w5 ⟨b5, vs5, rfl, hI5, hB5⟩
              rw [Htl.out] at hI5 ⊢
              have Hsa := hid (sameAll_eq Htl.out.symm hI5 (HJq.out.below hB5) (by rw [Htl.out]; omega) (fun p hp => by rw [Hall.out p hp]; omega))
              have HD5 := hid (HDq.out.below hB5)
              have HB5 := hid (HBq.out.trans (hB5.mono HBq.out.size))
              clear hI5 hB5 HDq HJq
              go_wp2_with (fail)
              refine Hsa.out.mono ?_
              rintro e w6 ⟨rfl, hB6⟩
              have HB6 := hid (HB5.out.trans (hB6.mono HB5.out.size))
              have Hct := hid (count_any (HD5.out.below hB6))
              clear hB6 Hsa
              go_wp2_with (fail)
              refine Hct.out.mono ?_
              rintro e w7 ⟨rfl, rfl⟩
              go_wp2
              go_ret
              exact ⟨ret_bool (by simp), HB6.out⟩
end Go.Proofs.Ytgiifodhofdpaaa
