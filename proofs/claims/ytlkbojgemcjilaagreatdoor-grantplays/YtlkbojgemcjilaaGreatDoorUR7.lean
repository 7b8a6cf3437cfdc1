/- Grants: the reference's DropUser, Withdraw. (Printed by gen/ur6.py.) -/
import Derived.Test.YtlkbojgemcjilaaGreatDoorUR6
namespace Go.Proofs.YtlkbojgemcjilaaGreatDoor
open Go.RowKit Go.Maps Go.Shelf Go.Sort Go.Lib
set_option linter.unusedVariables false
set_option maxRecDepth 20000
theorem isU_eq (t u : ByteArray) (c : Co) : isU t u c = ((c.t.toList == t.toList) && (c.u.toList == u.toList)) := by
  rw [eqU, eqU, Bool.eq_iff_iff, Bool.and_eq_true, isU_iff, decide_eq_true_iff, decide_eq_true_iff]
theorem len_split {α : Type} (p : α → Bool) : ∀ l : List α, (l.filter p).length + (l.filter fun a => !p a).length = l.length
  | [] => rfl
  | a :: l => by
    have := len_split p l
    cases h : p a <;> simp [h] <;> omega
set_option maxHeartbeats 16000000 in
theorem rdropUser_any {w : World} {B g : Nat} {s : GS} (h : RG w B g s) (hB : B ≤ w.heap.size) (hl2 : s.al.length ≤ 1000000000000) (t u : ByteArray) :
    Calls Tryz.prog 31 #[.pointer (some ⟨g, 0, none⟩), .agg #[.string t, .string u]] w fun e w' => e = .returned (.int .i64 (consN s t u : Nat)) ∧ OutJ (fun k => k = g) w w' ∧ RG w' B g (s.dropU t u) := by
  obtain ⟨V, hV⟩ : ∃ V, V = w.alloc (.cells #[.string t, .string u] 30) := ⟨_, rfl⟩
  have b0 : Below w.heap.size w V := by rw [hV]; exact (Below.refl _ w).alloc (Nat.le_refl _) _
  have x0 : V.heap[w.heap.size]? = some (.cells #[.string t, .string u] 30 (0, 0)) := by rw [hV]; exact heap_allocN w _
  have HBox := hid (fun (X : World) (hX : Below V.heap.size V X) => (show X.cell? ⟨w.heap.size, 0, none⟩ = some (.string t) ∧ X.cell? ⟨w.heap.size, 1, none⟩ = some (.string u) from by
    have x9 := (hX.block _ (heap_lt x0)).trans x0
    exact ⟨(cell_of_rowU _ _ 0 _ _ _ x9).trans rfl, (cell_of_rowU _ _ 1 _ _ _ x9).trans rfl⟩))
  have HW := hid hV.symm
  have B0 := hid b0
  have h := h.below b0
  obtain ⟨D, hD⟩ : ∃ D, D = consN s t u := ⟨_, rfl⟩
  have HD := hid hD
  rw [← hD]
  clear hD
  obtain ⟨s9, hs9⟩ : ∃ s9, s9 = s.dropU t u := ⟨_, rfl⟩
  rw [← hs9]
  have HS9 : Hid (s9 = ⟨s.cs, s.al.filter (fun a => !isU t u a)⟩) := hs9
  obtain ⟨cv, av, h⟩ := h
  obtain ⟨aco0, Nco, capco, eav, hNco, hcco, hrco⟩ := h.coRow
  have HNco := hid hNco
  have Hcco := hid hcco
  have HRco := hid hrco
  have HBVco := hid (fun (X : World) (hX : Below V.heap.size V X) => hX)
  have HRA := hid h
  have HgB := hid (Nat.le_trans hB B0.out.size)
  have hNb2 : Nco ≤ 1000000000000 := by omega
  clear h hl2 hs9 eav hNco hcco hrco hV b0 x0
  go_enter Tryz.func31, Tryz.ntmps31
  go_wp2
  rw [HW.out]
  go_loopw [5, 6] (fun v i wr => ∃ k : Nat, k ≤ Nco ∧ i = .int .i64 (k : Int) ∧ wr.ownsRow V.heap.size 59 4 v ((s.al.take k).filter (fun a => !isU t u a)).length (coCells ((s.al.take k).filter (fun a => !isU t u a))) ∧ Below V.heap.size V wr) (fun _ i _ => Nco - (intOf i).toNat)
  case atStart => exact ⟨0, Nat.zero_le _, rfl, World.ownsRow_nil _ _ _ _, Below.refl _ _⟩
  case round =>
    obtain ⟨k, hk, rfl, ho, hb⟩ := hrel
    have HO := hid ho
    have HB9 := hid hb
    have hbV := HBVco.out _ hb
    have HbV := hid hbV
    obtain ⟨Vr, hVr⟩ : ∃ Vr, Vr = wr := ⟨_, rfl⟩
    have hcell := Hcco.out wr hbV
    by_cases hlt : k < Nco
    · have g1 : (k : Int) < (Nco : Int) := by omega
      have g1' : decide ((k : Int) < (Nco : Int)) = true := by simp; omega
      have g0 : (0 : Int) ≤ (k : Int) := by omega
      have hkr : k < s.al.length := by have := HNco.out; omega
      obtain ⟨x, hxk⟩ : ∃ x, s.al[k]? = some x := ⟨_, List.getElem?_eq_getElem hkr⟩
      have Htk := hid (take_getU hxk)
      obtain ⟨b9, eb9, hat⟩ := HRco.out k hkr
      obtain ⟨_, hxe⟩ := List.getElem?_eq_some_iff.1 hxk
      rw [hxe] at hat
      obtain ⟨d9, d0, d1, d2, d3⟩ := hat wr hbV
      have Hlt := hid hlt
      have hbound : Hid (((s.al.take k).filter (fun a => !isU t u a)).length ≤ 1000000000000) := by
        refine Nat.le_trans (List.length_filter_le _ _) (Nat.le_trans (List.length_take_le _ _) ?_)
        omega
      subst eb9
      clear hxk hkr hat hxe hlt hk ho hb hbV hVr hcell
      obtain ⟨x1, x2, x3, x4⟩ := x
      dsimp only at d0 d1 d2 d3
      obtain ⟨o0, o1⟩ := HBox.out wr HbV.out
      cases q0 : (x1.toList == t.toList)
      · skip
        have hf := hid (show (!isU t u ⟨x1, x2, x3, x4⟩) = true from by rw [isU_eq, q0]; rfl)
        go_wp2
        go_quiet (fail)
        have HO2 := hid (own_onU HO.out (below_dN _ wr nq))
        have HB2 := hid (HB9.out.trans ((below_dN _ wr nq).mono HB9.out.size))
        have hbV2 := HBVco.out _ HB2.out
        have p9 : (wr.drewN nq).cell? ⟨g, 1, none⟩ = some (.slice (some ⟨b9, 0, none⟩) Nco capco) := d9
        have p0 : (wr.drewN nq).cell? ⟨b9, k * 4, none⟩ = some (.string x1) := d0
        have p1 : (wr.drewN nq).cell? ⟨b9, k * 4 + 1, none⟩ = some (.string x2) := d1
        have p2 : (wr.drewN nq).cell? ⟨b9, k * 4 + 2, none⟩ = some (.string x3) := d2
        have p3 : (wr.drewN nq).cell? ⟨b9, k * 4 + 3, none⟩ = some (.int .u8 (x4 : Int)) := d3
        clear d9 d0 d1 d2 d3
        obtain ⟨w4, hw4⟩ : ∃ w4, w4 = wr.drewN nq := ⟨_, rfl⟩
        rw [← hw4] at HO2 HB2 p9 p0 p1 p2 p3 ⊢
        clear hw4 hbV2
        go_wp2_with (at_builtin; refine app_coL rfl (.tmp 29) (.tmp 37) rfl w4 ⟨x1, x2, x3, x4⟩ rfl V.heap.size u5 _ rfl HO2.out rfl (by have := hbound.out; omega) HB2.out.size ?_; intro v5 w5 ho5 hg5; have C5 := hid (HB2.out.trans ((Below.refl _ _).grown hg5 HB2.out.size (fun q hq => (HO2.out.lt q hq).1))); have O5 := hid ho5; clear ho5 hg5)
        go_roundw
        case rel => exact ⟨k + 1, by have := Hlt.out; omega, by first | rfl | go_num, by rw [filt_keep Htk.out hf.out]; exact O5.out, C5.out⟩
        case measure => exact measU _ _ _ Hlt.out rfl
      · cases q1 : (x2.toList == u.toList)
        · skip
          have hf := hid (show (!isU t u ⟨x1, x2, x3, x4⟩) = true from by rw [isU_eq, q0, q1]; rfl)
          go_wp2
          go_quiet (fail)
          have HO2 := hid (own_onU HO.out (below_dN _ wr nq))
          have HB2 := hid (HB9.out.trans ((below_dN _ wr nq).mono HB9.out.size))
          have hbV2 := HBVco.out _ HB2.out
          have p9 : (wr.drewN nq).cell? ⟨g, 1, none⟩ = some (.slice (some ⟨b9, 0, none⟩) Nco capco) := d9
          have p0 : (wr.drewN nq).cell? ⟨b9, k * 4, none⟩ = some (.string x1) := d0
          have p1 : (wr.drewN nq).cell? ⟨b9, k * 4 + 1, none⟩ = some (.string x2) := d1
          have p2 : (wr.drewN nq).cell? ⟨b9, k * 4 + 2, none⟩ = some (.string x3) := d2
          have p3 : (wr.drewN nq).cell? ⟨b9, k * 4 + 3, none⟩ = some (.int .u8 (x4 : Int)) := d3
          clear d9 d0 d1 d2 d3
          obtain ⟨w4, hw4⟩ : ∃ w4, w4 = wr.drewN nq := ⟨_, rfl⟩
          rw [← hw4] at HO2 HB2 p9 p0 p1 p2 p3 ⊢
          clear hw4 hbV2
          go_wp2_with (at_builtin; refine app_coL rfl (.tmp 29) (.tmp 37) rfl w4 ⟨x1, x2, x3, x4⟩ rfl V.heap.size u5 _ rfl HO2.out rfl (by have := hbound.out; omega) HB2.out.size ?_; intro v5 w5 ho5 hg5; have C5 := hid (HB2.out.trans ((Below.refl _ _).grown hg5 HB2.out.size (fun q hq => (HO2.out.lt q hq).1))); have O5 := hid ho5; clear ho5 hg5)
          go_roundw
          case rel => exact ⟨k + 1, by have := Hlt.out; omega, by first | rfl | go_num, by rw [filt_keep Htk.out hf.out]; exact O5.out, C5.out⟩
          case measure => exact measU _ _ _ Hlt.out rfl
        · skip
          have hf := hid (show (!isU t u ⟨x1, x2, x3, x4⟩) = false from by rw [isU_eq, q0, q1]; rfl)
          go_wp2
          go_quiet (fail)
          go_wp2
          go_roundw
          case rel => exact ⟨k + 1, by have := Hlt.out; omega, by first | rfl | go_num, by rw [filt_skip Htk.out hf.out]; exact own_onU HO.out (below_dN _ _ _), HB9.out.trans ((below_dN _ _ _).mono HB9.out.size)⟩
          case measure => exact measU _ _ _ Hlt.out rfl
    · have e : k = Nco := by omega
      subst e
      have g1 : ¬ (k : Int) < (k : Int) := by omega
      have g1' : decide ((k : Int) < (k : Int)) = false := by simp
      have hall : s.al.take k = s.al := List.take_of_length_le (by have := HNco.out; omega)
      have ho' := HO.out
      rw [hall] at ho'
      obtain ⟨lco, hlco⟩ : ∃ l, l = s.al.filter (fun a => !isU t u a) := ⟨_, rfl⟩
      rw [← hlco] at ho'
      obtain ⟨nco, hnco⟩ : ∃ n, n = lco.length := ⟨_, rfl⟩
      rw [← hnco] at ho'
      obtain ⟨aco, cco, eco⟩ := slice_out ho'
      subst eco
      have HLco := hid ho'
      have Hlco := hid hlco
      have Hnco := hid hnco
      have HBco := hid HB9.out
      have HbVco := hid HbV.out
      clear ho hb hbV hall ho' hlt hk hlco hnco HO HB9 HbV
      obtain ⟨wco, hwco⟩ : ∃ w9, w9 = wr := ⟨_, rfl⟩
      rw [← hwco] at HLco HBco HbVco hcell ⊢
      clear hwco hVr
      have hrF := hid (HRA.out.below HbVco.out)
      have f1 : wco.frozen? ⟨g, 1, none⟩ = false := frozen_of_row _ _ _ _ _ hrF.out.obj
      have hlen : Hid ((k : Int) - (nco : Int) = ((consN s t u : Nat) : Int)) := by
        show _ = _
        have h1 := len_split (isU t u) s.al
        have h2 := Hnco.out
        rw [Hlco.out] at h2
        have h3 := HNco.out
        unfold consN
        omega
      have hnb : (nco : Int) ≤ (k : Int) := by
        have h1 := len_split (isU t u) s.al
        have h2 := Hnco.out
        rw [Hlco.out] at h2
        have h3 := HNco.out
        omega
      have hnb0 : (0 : Int) ≤ (nco : Int) := by omega
      have hco9 := HLco.out
      rw [Hnco.out] at hco9
      obtain ⟨k3, k4⟩ := HRA.out.seta (l := lco) HbVco.out HgB.out hco9
      rw [← Hnco.out] at k3 k4
      have K3 := hid k3
      have K4 := hid k4
      have c1' := hrF.out.c1
      rw [← HD.out] at hlen
      have hDk : (k : Int) ≤ 1000000000000 := by omega
      have hw64 : Hid (wrap64 ((k : Int) - (nco : Int)) = (D : Int)) := by
        show wrap64 ((k : Int) - (nco : Int)) = (D : Int)
        rw [IntWalk.wrap64_in _ (by omega)]
        exact hlen.out
      clear k3 k4 hco9
      go_wp2
      go_ret
      refine ⟨?_, (OutJ.of_below B0.out).trans K4.out, ?_⟩
      · first
          | (rw [← hlen.out]; done)
          | (rw [← hlen.out]; rfl)
          | (rw [← hw64.out]; rfl)
      · rw [HS9.out, ← Hlco.out]
        exact ⟨_, _, K3.out⟩
theorem GS.Ok.dropA_none {s : GS} (h : s.Ok) {t u n : ByteArray} (hf : fA s t u n = none) : s.dropA t u n = s := by
  have h1 : ∀ a ∈ s.al, isA t u n a = false := fun c hc => by
    have := List.find?_eq_none.1 hf c hc
    simpa using this
  unfold GS.dropA
  rw [List.filter_eq_self.2 (fun a ha => by rw [h1 a ha]; rfl)]
theorem GS.Ok.filt_cut {s : GS} (h : s.Ok) {t u n : ByteArray} {k : Nat} (hk : k < s.al.length) (hf : fA s t u n = some s.al[k]) : s.al.filter (fun a => !isA t u n a) = s.al.take k ++ s.al.drop (k + 1) := by
  obtain ⟨_, e1, e2, e3⟩ := fA_some hf
  have e : s.al = s.al.take k ++ s.al[k] :: s.al.drop (k + 1) := by rw [← List.drop_eq_getElem_cons hk, List.take_append_drop]
  have hp := h.akeys
  rw [e, List.pairwise_append] at hp
  obtain ⟨_, p2, p3⟩ := hp
  obtain ⟨p4, _⟩ := List.pairwise_cons.1 p2
  conv => lhs; rw [e]
  rw [List.filter_append, List.filter_cons_of_neg (by rw [isA_iff.2 ⟨e1, e2, e3⟩]; simp), List.filter_eq_self.2 (fun a ha => ?_), List.filter_eq_self.2 (fun a ha => ?_)]
  · cases h9 : isA t u n a with
    | false => rfl
    | true =>
      obtain ⟨f1, f2, f3⟩ := isA_iff.1 h9
      exact absurd ⟨e1.trans f1.symm, e2.trans f2.symm, e3.trans f3.symm⟩ (p4 a ha)
  · cases h9 : isA t u n a with
    | false => rfl
    | true =>
      obtain ⟨f1, f2, f3⟩ := isA_iff.1 h9
      exact absurd ⟨f1.trans e1.symm, f2.trans e2.symm, f3.trans e3.symm⟩ (p3 a ha s.al[k] (List.mem_cons_self ..))
theorem own_cap {w : World} {B n sz : Nat} {e : TypeId} {a : Option Addr} {m c : Nat} {xs : List Value} (h : w.ownsRow B e sz (.slice a m c) n xs) : n ≤ c := by
  rcases h.2 with ⟨e1, h1⟩ | ⟨g, cap, cur, e1, _, _, hc, _⟩
  · omega
  · injection e1 with _ _ e3
    omega
theorem dropIf {w : World} {B g n c p m c' : Nat} {S : List Co} (h : w.ownsRow B 59 4 (.slice (some ⟨g, 0, none⟩) n c) S.length (coCells S)) (hp : p ≤ S.length) (hm : m = S.length - p) (hc : S.length ≤ c) : SrcCo w (.slice (if c = p then some ⟨g, 0, none⟩ else some ⟨g, p * 4, none⟩) m c') (S.drop p) := by
  split
  · exact srcCo_drop h hp hm (fun h9 => by omega)
  · exact srcCo_drop h hp hm (fun _ => rfl)
theorem ixA_some {s : GS} {t u n : ByteArray} {i : Int} (h : IxA s t u n i) : (fA s t u n).isSome = decide (0 ≤ i) := by
  rcases h with ⟨rfl, h⟩ | ⟨k, hk, rfl, h⟩
  · rw [h]; rfl
  · rw [h, decide_eq_true (by omega)]; rfl
set_option maxHeartbeats 16000000 in
theorem rwithdraw_any {w : World} {B g : Nat} {s : GS} (h : RG w B g s) (hok : s.Ok) (hB : B ≤ w.heap.size) (hl2 : s.al.length ≤ 1000000000000) (t u n : ByteArray) :
    Calls Tryz.prog 29 #[.pointer (some ⟨g, 0, none⟩), .agg #[.string t, .string u], .string n] w fun e w' => e = .returned (.int .i64 (noneE (fA s t u n).isSome)) ∧ OutJ (fun k => k = g) w w' ∧ RG w' B g (s.dropA t u n) := by
  obtain ⟨V, hV⟩ : ∃ V, V = w.alloc (.cells #[.string t, .string u] 30) := ⟨_, rfl⟩
  have b0 : Below w.heap.size w V := by rw [hV]; exact (Below.refl _ w).alloc (Nat.le_refl _) _
  have x0 : V.heap[w.heap.size]? = some (.cells #[.string t, .string u] 30 (0, 0)) := by rw [hV]; exact heap_allocN w _
  have HBox := hid (fun (X : World) (hX : Below V.heap.size V X) => (show X.cell? ⟨w.heap.size, 0, none⟩ = some (.string t) ∧ X.cell? ⟨w.heap.size, 1, none⟩ = some (.string u) from by
    have x9 := (hX.block _ (heap_lt x0)).trans x0
    exact ⟨(cell_of_rowU _ _ 0 _ _ _ x9).trans rfl, (cell_of_rowU _ _ 1 _ _ _ x9).trans rfl⟩))
  have HW := hid hV.symm
  have B0 := hid b0
  have h := h.below b0
  have HCo := hid (rconsent_any h (by omega) t u n)
  cases hf : fA s t u n with
  | none =>
    have hix : Hid (∀ i, IxA s t u n i → decide (i < 0) = true) := fun i hi => by
      have h9 := ixA_some hi
      rw [hf] at h9
      have : decide ((0 : Int) ≤ i) = false := h9.symm
      rw [decide_eq_false_iff_not] at this
      simp; omega
    have hs := hid (hok.dropA_none hf)
    have H := hid h
    obtain ⟨o0, o1⟩ := HBox.out V (Below.refl _ _)
    rw [← HW.out] at o0 o1
    clear h hf hl2 hB hV b0 x0
    go_enter Tryz.func29, Tryz.ntmps29
    go_wp2_with (go_at_call 61; rw [HW.out]; refine HCo.out.mono ?_; rintro _ w9 ⟨i, rfl, hi, b9⟩; have di := hix.out i hi; have B9 := hid b9; clear hi b9)
    go_ret
    exact ⟨rfl, OutJ.of_below (Below.on' B0.out B9.out), by rw [hs.out]; exact H.out.below B9.out⟩
  | some a0 =>
    have hix : Hid (∀ i, IxA s t u n i → ∃ k, ∃ hk : k < s.al.length, i = (k : Int) ∧ s.al.filter (fun a => !isA t u n a) = s.al.take k ++ s.al.drop (k + 1)) := fun i hi => by
      rcases hi with ⟨_, h9⟩ | ⟨k, hk, e, h9⟩
      · rw [hf] at h9; cases h9
      · exact ⟨k, hk, e, hok.filt_cut hk h9⟩
    obtain ⟨s9, hs9⟩ : ∃ s9, s9 = s.dropA t u n := ⟨_, rfl⟩
    rw [← hs9]
    have HS9 : Hid (s9 = ⟨s.cs, s.al.filter (fun a => !isA t u n a)⟩) := hs9
    obtain ⟨cv, av, h⟩ := h
    obtain ⟨aco0, Nco, capco, eav, hNco, hcco, hrco⟩ := h.coRow
    have HNco := hid hNco
    have Hcco := hid hcco
    have HRco := hid hrco
    have HBVco := hid (fun (X : World) (hX : Below V.heap.size V X) => hX)
    have HRA := hid h
    have HgB := hid (Nat.le_trans hB B0.out.size)
    have hNb2 : Nco ≤ 1000000000000 := by omega
    have hcapN : Nco ≤ capco := by
      have h9 := h.al
      rw [eav] at h9
      rw [hNco]
      exact own_cap h9
    obtain ⟨o0, o1⟩ := HBox.out V (Below.refl _ _)
    rw [← HW.out] at o0 o1
    have Hav := hid eav
    clear h hf hl2 hB hV b0 x0 hs9 eav hNco hcco hrco
    obtain ⟨E, hE⟩ : ∃ E, E = noneE (some a0).isSome := ⟨_, rfl⟩
    rw [← hE]
    have Hne : Hid (E = 0) := hE
    clear hE
    go_enter Tryz.func29, Tryz.ntmps29
    go_wp2_with (first
      | (go_at_call 61; rw [HW.out]; refine HCo.out.mono ?_; rintro _ w9 ⟨i, rfl, hi, b9⟩; obtain ⟨k, hkl, rfl, hcut⟩ := hix.out i hi; have B9 := hid b9; have hRw := hid (HRA.out.below b9); have hcell := Hcco.out w9 b9; obtain ⟨b1, rfl, hq9⟩ := HRco.out k hkl; clear hq9; have Hkl := hid hkl; have Hcut := hid hcut; have hkn : (k : Int) < (Nco : Int) := (by have := HNco.out; omega); have hk0 : (0 : Int) ≤ (k : Int) := (by omega); have gdi : decide ((k : Int) < 0) = false := (by simp); have gdi' : ¬ (k : Int) < 0 := (by omega); have gkc : (k : Int) ≤ (capco : Int) := (by omega); have HS : Hid (w9.ownsRow B 59 4 (.slice (some ⟨b1, 0, none⟩) Nco capco) s.al.length (coCells s.al)) := (by have h9 := hRw.out.al; rw [Hav.out] at h9; exact h9); clear hi b9 hcut hkl)
      | (at_builtin; refine app_coS rfl (.tmp 26) (.tmp 33) rfl w9.heap.size (.slice a10 n10 m10) (s.al.take k) rfl O10.out (.slice (if capco = k + 1 then some ⟨b1, 0, none⟩ else some ⟨b1, (k + 1) * 4, none⟩) (Nco - (k + 1)) (capco - (k + 1))) (s.al.drop (k + 1)) rfl (dropIf HS10.out (show k + 1 ≤ s.al.length from Hkl.out) (by have := HNco.out; omega) (by have := HNco.out; omega)) (by have := HNco.out; rw [List.length_take, List.length_drop]; omega) B10.out.size ?_; intro v11 w11 ho11 hg11; have B11 := hid (B10.out.trans ((Below.refl _ _).grown hg11 B10.out.size (fun q hq => (O10.out.lt q hq).1))); obtain ⟨n11, hn11⟩ : ∃ n, n = (s.al.take k ++ s.al.drop (k + 1)).length := ⟨_, rfl⟩; rw [← hn11] at ho11; obtain ⟨a11, m11, rfl⟩ := slice_out ho11; have O11 := hid ho11; have HN11 := hid hn11; have c11 := (hRw.out.below B11.out).c1; have f11 : w11.frozen? ⟨g, 1, none⟩ = false := frozen_of_row _ _ _ _ _ (hRw.out.below B11.out).obj; clear hn11 ho11 hg11)
      | (at_builtin; refine app_coS rfl (.tmp 17) (.tmp 23) rfl w9.heap.size (.slice none 0 0) [] rfl (World.ownsRow_nil _ _ _ _) _ (s.al.take k) rfl (srcCo_take HS.out (Nat.le_of_lt Hkl.out)) (by have := HNco.out; rw [List.length_take]; simp; omega) (Nat.le_refl _) ?_; intro v10 w10 ho10 hg10; have B10 := hid ((Below.refl w9.heap.size w9).grown hg10 (Nat.le_refl _) (fun q hq => by cases hq)); have ho10 : w10.ownsRow w9.heap.size 59 4 v10 (s.al.take k).length (coCells (s.al.take k)) := ho10; obtain ⟨a10, m10, e10⟩ := slice_out ho10; obtain ⟨n10, hn10⟩ : ∃ n, n = (s.al.take k).length := ⟨_, rfl⟩; rw [← hn10] at e10; subst e10; have O10 := hid ho10; clear hn10; have HS10 := hid (own_onU HS.out B10.out); have c10 := Hcco.out w10 (Below.on' B9.out B10.out); clear ho10 hg10 hcell))
    all_goals go_ret
    all_goals
      have O12 := O11.out
      rw [HN11.out] at O12
      obtain ⟨k1, k2⟩ := hRw.out.seta B11.out (Nat.le_trans HgB.out B9.out.size) O12
      rw [← HN11.out] at k1 k2
      exact ⟨by rw [Hne.out]; rfl, (OutJ.of_below (Below.on' B0.out B9.out)).trans k2, by rw [HS9.out, Hcut.out]; exact ⟨_, _, k1⟩⟩
end Go.Proofs.YtlkbojgemcjilaaGreatDoor
