/- Grants: the reference's Drop. (Printed by gen/ur6.py.) -/
import Derived.Test.YtlkbojgemcjilaaGreatDoorUR5
namespace Go.Proofs.YtlkbojgemcjilaaGreatDoor
open Go.RowKit Go.Maps Go.Shelf Go.Sort Go.Lib
set_option linter.unusedVariables false
set_option maxRecDepth 20000
section
variable {w : World} {B g : Nat} {s : GS} {cv av : Value}
theorem RGA.clRow (h : RGA w B g s cv av) : ∃ a0 N cap0, cv = .slice a0 N cap0 ∧ N = s.cs.length ∧ (∀ X, Below w.heap.size w X → X.cell? ⟨g, 0, none⟩ = some (.slice a0 N cap0)) ∧ ∀ k (hk : k < s.cs.length), ∃ b, a0 = some ⟨b, 0, none⟩ ∧ ∀ X, Below w.heap.size w X → AtCl g (.slice (some ⟨b, 0, none⟩) N cap0) b k s.cs[k] X := by
  obtain ⟨a0, cap0, ecv, h9⟩ := clAt h.cs
  refine ⟨a0, _, cap0, ecv, rfl, fun X hX => by rw [← ecv]; exact (h.below hX).c0, fun k hk => ?_⟩
  obtain ⟨b, eb, _⟩ := h9 k hk
  refine ⟨b, eb, fun X hX => ?_⟩
  obtain ⟨a8, c8, e8, h8⟩ := clAt (h.below hX).cs
  rw [ecv] at e8
  injection e8 with f1 f2 f3
  subst f1
  obtain ⟨b8, eb8, q0, q1, q2, q3⟩ := h8 k hk
  rw [eb] at eb8
  have : b = b8 := by simpa using eb8
  subst this
  refine ⟨?_, q0, q1, q2, q3⟩
  rw [← eb, ← ecv]
  exact (h.below hX).c0
theorem RGA.coRow (h : RGA w B g s cv av) : ∃ a0 N cap0, av = .slice a0 N cap0 ∧ N = s.al.length ∧ (∀ X, Below w.heap.size w X → X.cell? ⟨g, 1, none⟩ = some (.slice a0 N cap0)) ∧ ∀ k (hk : k < s.al.length), ∃ b, a0 = some ⟨b, 0, none⟩ ∧ ∀ X, Below w.heap.size w X → AtCo g (.slice (some ⟨b, 0, none⟩) N cap0) b k s.al[k] X := by
  obtain ⟨a0, cap0, ecv, h9⟩ := coAt h.al
  refine ⟨a0, _, cap0, ecv, rfl, fun X hX => by rw [← ecv]; exact (h.below hX).c1, fun k hk => ?_⟩
  obtain ⟨b, eb, _⟩ := h9 k hk
  refine ⟨b, eb, fun X hX => ?_⟩
  obtain ⟨a8, c8, e8, h8⟩ := coAt (h.below hX).al
  rw [ecv] at e8
  injection e8 with f1 f2 f3
  subst f1
  obtain ⟨b8, eb8, q0, q1, q2, q3⟩ := h8 k hk
  rw [eb] at eb8
  have : b = b8 := by simpa using eb8
  subst this
  refine ⟨?_, q0, q1, q2, q3⟩
  rw [← eb, ← ecv]
  exact (h.below hX).c1
end
theorem filt_keep {α : Type} {l : List α} {k : Nat} {x : α} {p : α → Bool} (h : l.take (k + 1) = l.take k ++ [x]) (hp : p x = true) : (l.take (k + 1)).filter p = (l.take k).filter p ++ [x] := by
  rw [h, List.filter_append, List.filter_cons_of_pos hp, List.filter_nil]
theorem filt_skip {α : Type} {l : List α} {k : Nat} {x : α} {p : α → Bool} (h : l.take (k + 1) = l.take k ++ [x]) (hp : p x = false) : (l.take (k + 1)).filter p = (l.take k).filter p := by
  rw [h, List.filter_append, List.filter_cons_of_neg (by rw [hp]; simp), List.filter_nil, List.append_nil]
/-- a slice that is written out -/
theorem slice_out {w : World} {B n sz : Nat} {e : TypeId} {v : Value} {xs : List Value} (h : w.ownsRow B e sz v n xs) : ∃ a c, v = .slice a n c := len_slice h
theorem ofC_eq (t n : ByteArray) (c : Co) : ofC t n c = ((c.t.toList == t.toList) && (c.n.toList == n.toList)) := by
  rw [eqU, eqU, Bool.eq_iff_iff, Bool.and_eq_true, ofC_iff, decide_eq_true_iff, decide_eq_true_iff]
theorem GS.Ok.dropC_none {s : GS} (h : s.Ok) {t n : ByteArray} (hf : findC s t n = none) : s.dropC t n = s := by
  have h1 : ∀ c ∈ s.cs, isC t n c = false := fun c hc => by
    have := List.find?_eq_none.1 hf c hc
    simpa using this
  unfold GS.dropC
  rw [List.filter_eq_self.2 (fun c hc => by rw [h1 c hc]; rfl), List.filter_eq_self.2 (fun a ha => by
    obtain ⟨_, _, _, c, hc, e1, e2, _⟩ := h.anames a ha
    have e : ofC t n a = isC t n c := by unfold ofC isC; rw [e1, e2]
    rw [e, h1 c hc]
    rfl)]
set_option maxHeartbeats 16000000 in
theorem rdrop_any {w : World} {B g : Nat} {s : GS} (h : RG w B g s) (hok : s.Ok) (hB : B ≤ w.heap.size) (hl : s.cs.length ≤ 1000000000000) (hl2 : s.al.length ≤ 1000000000000) (t n : ByteArray) :
    Calls Tryz.prog 26 #[.pointer (some ⟨g, 0, none⟩), .string t, .string n] w fun e w' => e = .returned (.int .i64 (noneE (findC s t n).isSome)) ∧ OutJ (fun k => k = g) w w' ∧ RG w' B g (s.dropC t n) := by
  have HCl := hid (rclient_any h (by omega) t n)
  cases hf : findC s t n with
  | none =>
    have hix : Hid (∀ i, IxC s t n i → decide (i < 0) = true) := fun i hi => by
      have h9 := ixC_none hi
      rw [hf] at h9
      have : decide ((0 : Int) ≤ i) = false := h9.symm
      rw [decide_eq_false_iff_not] at this
      simp; omega
    have hs := hid (hok.dropC_none hf)
    have H := hid h
    clear h hf hl hl2 hB
    go_enter Tryz.func26, Tryz.ntmps26
    go_wp2_with (go_at_call 59; refine HCl.out.mono ?_; rintro _ w9 ⟨i, rfl, hi, e9⟩; subst w9; have di := hix.out i hi; clear hi)
    go_ret
    exact ⟨rfl, OutJ.of_below (Below.refl _ _), by rw [hs.out]; exact H.out⟩
  | some c0 =>
    have hix : Hid (∀ i, IxC s t n i → decide (i < 0) = false) := fun i hi => by
      have h9 := ixC_none hi
      rw [hf] at h9
      have : decide ((0 : Int) ≤ i) = true := h9.symm
      rw [decide_eq_true_iff] at this
      simp; omega
    have Hne : Hid (noneE (some c0).isSome = 0) := rfl
    obtain ⟨E, hE⟩ : ∃ E, E = noneE (some c0).isSome := ⟨_, rfl⟩
    rw [← hE] at Hne ⊢
    obtain ⟨s9, hs9⟩ : ∃ s9, s9 = s.dropC t n := ⟨_, rfl⟩
    rw [← hs9]
    have HS9 : Hid (s9 = ⟨s.cs.filter (fun c => !isC t n c), s.al.filter (fun a => !ofC t n a)⟩) := hs9
    obtain ⟨cv, av, h⟩ := h
    obtain ⟨acl0, Ncl, capcl, ecv, hNcl, hccl, hrcl⟩ := h.clRow
    obtain ⟨aco0, Nco, capco, eav, hNco, hcco, hrco⟩ := h.coRow
    have HNcl := hid hNcl
    have HNco := hid hNco
    have Hccl := hid hccl
    have Hcco := hid hcco
    have HRcl := hid hrcl
    have HRco := hid hrco
    have HBVcl := hid (fun (X : World) (hX : Below w.heap.size w X) => hX)
    have HRA := hid h
    have HgB := hid hB
    have hNb : Ncl ≤ 1000000000000 := by omega
    have hNb2 : Nco ≤ 1000000000000 := by omega
    clear h hf hl hl2 hB hE hs9 ecv eav hNcl hNco hccl hcco hrcl hrco
    go_enter Tryz.func26, Tryz.ntmps26
    go_wp2_with (go_at_call 59; refine HCl.out.mono ?_; rintro _ w9 ⟨i, rfl, hi, e9⟩; subst w9; have di := hix.out i hi; clear hi)
    go_loopw [7, 8] (fun v i wr => ∃ k : Nat, k ≤ Ncl ∧ i = .int .i64 (k : Int) ∧ wr.ownsRow w.heap.size 56 4 v ((s.cs.take k).filter (fun c => !isC t n c)).length (clCells ((s.cs.take k).filter (fun c => !isC t n c))) ∧ Below w.heap.size w wr) (fun _ i _ => Ncl - (intOf i).toNat)
    case atStart => exact ⟨0, Nat.zero_le _, rfl, World.ownsRow_nil _ _ _ _, Below.refl _ _⟩
    case round =>
      obtain ⟨k, hk, rfl, ho, hb⟩ := hrel
      have HO := hid ho
      have HB9 := hid hb
      have hbV := HBVcl.out _ hb
      have HbV := hid hbV
      obtain ⟨Vr, hVr⟩ : ∃ Vr, Vr = wr := ⟨_, rfl⟩
      have hcell := Hccl.out wr hbV
      by_cases hlt : k < Ncl
      · have g1 : (k : Int) < (Ncl : Int) := by omega
        have g1' : decide ((k : Int) < (Ncl : Int)) = true := by simp; omega
        have g0 : (0 : Int) ≤ (k : Int) := by omega
        have hkr : k < s.cs.length := by have := HNcl.out; omega
        obtain ⟨x, hxk⟩ : ∃ x, s.cs[k]? = some x := ⟨_, List.getElem?_eq_getElem hkr⟩
        have Htk := hid (take_getU hxk)
        obtain ⟨b9, eb9, hat⟩ := HRcl.out k hkr
        obtain ⟨_, hxe⟩ := List.getElem?_eq_some_iff.1 hxk
        rw [hxe] at hat
        obtain ⟨d9, d0, d1, d2, d3⟩ := hat wr hbV
        have Hlt := hid hlt
        have hbound : Hid (((s.cs.take k).filter (fun c => !isC t n c)).length ≤ 1000000000000) := by
          refine Nat.le_trans (List.length_filter_le _ _) (Nat.le_trans (List.length_take_le _ _) ?_)
          omega
        subst eb9
        clear hxk hkr hat hxe hlt hk ho hb hbV hVr hcell
        obtain ⟨x1, x2, x3, x4⟩ := x
        dsimp only at d0 d1 d2 d3
        cases q0 : (x1.toList == t.toList)
        · skip
          have hf := hid (show (!isC t n ⟨x1, x2, x3, x4⟩) = true from by rw [isC_eq, q0]; rfl)
          go_wp2_with (at_builtin; refine app_clL rfl (.tmp 49) (.tmp 57) rfl wr ⟨x1, x2, x3, x4⟩ rfl w.heap.size u7 _ rfl HO.out rfl (by have := hbound.out; omega) HB9.out.size ?_; intro v5 w5 ho5 hg5; have C5 := hid (HB9.out.trans ((Below.refl _ _).grown hg5 HB9.out.size (fun q hq => (HO.out.lt q hq).1))); have O5 := hid ho5; clear ho5 hg5)
          go_roundw
          case rel => exact ⟨k + 1, by have := Hlt.out; omega, by first | rfl | go_num, by rw [filt_keep Htk.out hf.out]; exact O5.out, C5.out⟩
          case measure => exact measU _ _ _ Hlt.out rfl
        · cases q1 : (x2.toList == n.toList)
          · skip
            have hf := hid (show (!isC t n ⟨x1, x2, x3, x4⟩) = true from by rw [isC_eq, q0, q1]; rfl)
            go_wp2_with (at_builtin; refine app_clL rfl (.tmp 49) (.tmp 57) rfl wr ⟨x1, x2, x3, x4⟩ rfl w.heap.size u7 _ rfl HO.out rfl (by have := hbound.out; omega) HB9.out.size ?_; intro v5 w5 ho5 hg5; have C5 := hid (HB9.out.trans ((Below.refl _ _).grown hg5 HB9.out.size (fun q hq => (HO.out.lt q hq).1))); have O5 := hid ho5; clear ho5 hg5)
            go_roundw
            case rel => exact ⟨k + 1, by have := Hlt.out; omega, by first | rfl | go_num, by rw [filt_keep Htk.out hf.out]; exact O5.out, C5.out⟩
            case measure => exact measU _ _ _ Hlt.out rfl
          · skip
            have hf := hid (show (!isC t n ⟨x1, x2, x3, x4⟩) = false from by rw [isC_eq, q0, q1]; rfl)
            go_wp2
            go_roundw
            case rel => exact ⟨k + 1, by have := Hlt.out; omega, by first | rfl | go_num, by rw [filt_skip Htk.out hf.out]; exact HO.out, HB9.out⟩
            case measure => exact measU _ _ _ Hlt.out rfl
      · have e : k = Ncl := by omega
        subst e
        have g1 : ¬ (k : Int) < (k : Int) := by omega
        have g1' : decide ((k : Int) < (k : Int)) = false := by simp
        have hall : s.cs.take k = s.cs := List.take_of_length_le (by have := HNcl.out; omega)
        have ho' := HO.out
        rw [hall] at ho'
        obtain ⟨lcl, hlcl⟩ : ∃ l, l = s.cs.filter (fun c => !isC t n c) := ⟨_, rfl⟩
        rw [← hlcl] at ho'
        obtain ⟨ncl, hncl⟩ : ∃ n, n = lcl.length := ⟨_, rfl⟩
        rw [← hncl] at ho'
        obtain ⟨acl, ccl, ecl⟩ := slice_out ho'
        subst ecl
        have HLcl := hid ho'
        have Hlcl := hid hlcl
        have Hncl := hid hncl
        have HBcl := hid HB9.out
        have HbVcl := hid HbV.out
        clear ho hb hbV hall ho' hlt hk hlcl hncl HO HB9 HbV
        obtain ⟨wcl, hwcl⟩ : ∃ w9, w9 = wr := ⟨_, rfl⟩
        rw [← hwcl] at HLcl HBcl HbVcl hcell ⊢
        clear hwcl hVr
        have HBVco := hid (fun (X : World) (hX : Below wcl.heap.size wcl X) => Below.on' HbVcl.out hX)
        go_wp2
        clear hcell g1 g1'
        go_loopw [9, 10] (fun v i wr => ∃ k : Nat, k ≤ Nco ∧ i = .int .i64 (k : Int) ∧ wr.ownsRow wcl.heap.size 59 4 v ((s.al.take k).filter (fun a => !ofC t n a)).length (coCells ((s.al.take k).filter (fun a => !ofC t n a))) ∧ Below wcl.heap.size wcl wr) (fun _ i _ => Nco - (intOf i).toNat)
        case atStart => exact ⟨0, Nat.zero_le _, rfl, World.ownsRow_nil _ _ _ _, Below.refl _ _⟩
        case round =>
          obtain ⟨k, hk, rfl, ho, hb⟩ := hrel
          have HO := hid ho
          have HB9 := hid hb
          have hbV := HBVco.out _ hb
          have HbV := hid hbV
          obtain ⟨Vr, hVr⟩ : ∃ Vr, Vr = wr := ⟨_, rfl⟩
          have hcell := Hcco.out wr hbV
          by_cases hlt : k < Nco
          · have g1 : (k : Int) < (Nco : Int) := by omega
            have g1' : decide ((k : Int) < (Nco : Int)) = true := by simp; omega
            have g0 : (0 : Int) ≤ (k : Int) := by omega
            have hkr : k < s.al.length := by have := HNco.out; omega
            obtain ⟨x, hxk⟩ : ∃ x, s.al[k]? = some x := ⟨_, List.getElem?_eq_getElem hkr⟩
            have Htk := hid (take_getU hxk)
            obtain ⟨b9, eb9, hat⟩ := HRco.out k hkr
            obtain ⟨_, hxe⟩ := List.getElem?_eq_some_iff.1 hxk
            rw [hxe] at hat
            obtain ⟨d9, d0, d1, d2, d3⟩ := hat wr hbV
            have Hlt := hid hlt
            have hbound : Hid (((s.al.take k).filter (fun a => !ofC t n a)).length ≤ 1000000000000) := by
              refine Nat.le_trans (List.length_filter_le _ _) (Nat.le_trans (List.length_take_le _ _) ?_)
              omega
            subst eb9
            clear hxk hkr hat hxe hlt hk ho hb hbV hVr hcell
            obtain ⟨x1, x2, x3, x4⟩ := x
            dsimp only at d0 d1 d2 d3
            cases q0 : (x1.toList == t.toList)
            · skip
              have hf := hid (show (!ofC t n ⟨x1, x2, x3, x4⟩) = true from by rw [ofC_eq, q0]; rfl)
              go_wp2_with (at_builtin; refine app_coL rfl (.tmp 91) (.tmp 99) rfl wr ⟨x1, x2, x3, x4⟩ rfl wcl.heap.size u9 _ rfl HO.out rfl (by have := hbound.out; omega) HB9.out.size ?_; intro v5 w5 ho5 hg5; have C5 := hid (HB9.out.trans ((Below.refl _ _).grown hg5 HB9.out.size (fun q hq => (HO.out.lt q hq).1))); have O5 := hid ho5; clear ho5 hg5)
              go_roundw
              case rel => exact ⟨k + 1, by have := Hlt.out; omega, by first | rfl | go_num, by rw [filt_keep Htk.out hf.out]; exact O5.out, C5.out⟩
              case measure => exact measU _ _ _ Hlt.out rfl
            · cases q1 : (x3.toList == n.toList)
              · skip
                have hf := hid (show (!ofC t n ⟨x1, x2, x3, x4⟩) = true from by rw [ofC_eq, q0, q1]; rfl)
                go_wp2_with (at_builtin; refine app_coL rfl (.tmp 91) (.tmp 99) rfl wr ⟨x1, x2, x3, x4⟩ rfl wcl.heap.size u9 _ rfl HO.out rfl (by have := hbound.out; omega) HB9.out.size ?_; intro v5 w5 ho5 hg5; have C5 := hid (HB9.out.trans ((Below.refl _ _).grown hg5 HB9.out.size (fun q hq => (HO.out.lt q hq).1))); have O5 := hid ho5; clear ho5 hg5)
                go_roundw
                case rel => exact ⟨k + 1, by have := Hlt.out; omega, by first | rfl | go_num, by rw [filt_keep Htk.out hf.out]; exact O5.out, C5.out⟩
                case measure => exact measU _ _ _ Hlt.out rfl
              · skip
                have hf := hid (show (!ofC t n ⟨x1, x2, x3, x4⟩) = false from by rw [ofC_eq, q0, q1]; rfl)
                go_wp2
                go_roundw
                case rel => exact ⟨k + 1, by have := Hlt.out; omega, by first | rfl | go_num, by rw [filt_skip Htk.out hf.out]; exact HO.out, HB9.out⟩
                case measure => exact measU _ _ _ Hlt.out rfl
          · have e : k = Nco := by omega
            subst e
            have g1 : ¬ (k : Int) < (k : Int) := by omega
            have g1' : decide ((k : Int) < (k : Int)) = false := by simp
            have hall : s.al.take k = s.al := List.take_of_length_le (by have := HNco.out; omega)
            have ho' := HO.out
            rw [hall] at ho'
            obtain ⟨lco, hlco⟩ : ∃ l, l = s.al.filter (fun a => !ofC t n a) := ⟨_, rfl⟩
            rw [← hlco] at ho'
            obtain ⟨nco, hnco⟩ : ∃ n, n = lco.length := ⟨_, rfl⟩
            rw [← hnco] at ho'
            obtain ⟨aco, cco, eco⟩ := slice_out ho'
            subst eco
            have HLco := hid ho'
            have Hlco := hid hlco
            have Hnco := hid hnco
            have HBco := hid HB9.out
            have HbVco := hid HbV.out
            clear ho hb hbV hall ho' hlt hk hlco hnco HO HB9 HbV
            obtain ⟨wco, hwco⟩ : ∃ w9, w9 = wr := ⟨_, rfl⟩
            rw [← hwco] at HLco HBco HbVco hcell ⊢
            clear hwco hVr
            have hrF := hid (HRA.out.below HbVco.out)
            have Hall := hid (HBcl.out.trans (HBco.out.mono HBcl.out.size))
            have f0 : wco.frozen? ⟨g, 0, none⟩ = false := frozen_of_row _ _ _ _ _ hrF.out.obj
            have hcl9 := own_onU HLcl.out HBco.out
            rw [Hncl.out] at hcl9
            obtain ⟨k1, k2⟩ := HRA.out.setc (l := lcl) HbVco.out HgB.out hcl9
            have hco9 := own_setG (i := 0) (x := .slice acl ncl ccl) HLco.out hrF.out.obj (by decide)
            rw [Hnco.out] at hco9
            rw [← Hncl.out] at k1 k2
            obtain ⟨k3, k4⟩ := k1.seta (l := lco) (Below.refl _ _) (Nat.le_trans HgB.out HBcl.out.size) hco9
            rw [← Hnco.out] at k3 k4
            have f1 : (wco.setCell ⟨g, 0, none⟩ (.slice acl ncl ccl)).frozen? ⟨g, 1, none⟩ = false := frozen_of_row _ _ _ _ _ k1.obj
            have c1' := k1.c1
            have K3 := hid k3
            have K4 := hid (k2.trans k4)
            have c0' := hrF.out.c0
            clear k1 k2 k3 k4 hcl9 hco9
            go_wp2
            go_ret
            refine ⟨by rw [Hne.out]; rfl, K4.out, ?_⟩
            rw [HS9.out, ← Hlcl.out, ← Hlco.out]
            exact ⟨_, _, K3.out⟩
end Go.Proofs.YtlkbojgemcjilaaGreatDoor
