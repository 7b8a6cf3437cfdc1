/- YtlkbojgemcjilaaGreatDoorUR7 + YtlkbojgemcjilaaGreatDoorUR8 -/
import Derived.Test.YtlkbojgemcjilaaGreatDoorUR6
/- Grants: the reference's DropUser, Withdraw. (Printed by gen/ur6.py.) -/
namespace Go.Proofs.YtlkbojgemcjilaaGreatDoor
open Go.RowKit Go.Maps Go.Shelf Go.Sort Go.Lib
set_option linter.unusedVariables false
set_option maxRecDepth 20000
theorem isU_eq (t u : ByteArray) (c : Co) : isU t u c = ((c.t.toList == t.toList) && (c.u.toList == u.toList)) := by
  rw [eqU, eqU, Bool.eq_iff_iff, Bool.and_eq_true, isU_iff, decide_eq_true_iff, decide_eq_true_iff]
theorem len_split {α : Type} (p : α → Bool) : ∀ l : List α, (l.filter p).length + (l.filter fun a => !p a).length = l.length
  | [] => rfl
  | a :: l => by
    have := len_split p l
    cases h : p a <;> simp [h] <;> omega
set_option maxHeartbeats 16000000 in
theorem rdropUser_any {w : World} {B g : Nat} {s : GS} (h : RG w B g s) (hB : B ≤ w.heap.size) (hl2 : s.al.length ≤ 1000000000000) (t u : ByteArray) :
    Calls Tryz.prog 31 #[.pointer (some ⟨g, 0, none⟩), .agg #[.string t, .string u]] w fun e w' => e = .returned (.int .i64 (consN s t u : Nat)) ∧ OutJ (fun k => k = g) w w' ∧ RG w' B g (s.dropU t u) := by
  obtain ⟨V, hV⟩ : ∃ V, V = w.alloc (.cells #[.string t, .string u] 30) := ⟨_, rfl⟩
  have b0 : Below w.heap.size w V := by rw [hV]; exact (Below.refl _ w).alloc (Nat.le_refl _) _
  have x0 : V.heap[w.heap.size]? = some (.cells #[.string t, .string u] 30 (0, 0)) := by rw [hV]; exact heap_allocN w _
  have HBox := hid (fun (X : World) (hX : Below V.heap.size V X) => (show X.cell? ⟨w.heap.size, 0, none⟩ = some (.string t) ∧ X.cell? ⟨w.heap.size, 1, none⟩ = some (.string u) from by
    have x9 := (hX.block _ (heap_lt x0)).trans x0
    exact ⟨(cell_of_rowU _ _ 0 _ _ _ x9).trans rfl, (cell_of_rowU _ _ 1 _ _ _ x9).trans rfl⟩))
  have HW := hid hV.symm
  have B0 := hid b0
  have h := h.below b0
  obtain ⟨D, hD⟩ : ∃ D, D = consN s t u := ⟨_, rfl⟩
  have HD := hid hD
  rw [← hD]
  clear hD
  obtain ⟨s9, hs9⟩ : ∃ s9, s9 = s.dropU t u := ⟨_, rfl⟩
  rw [← hs9]
  have HS9 : Hid (s9 = ⟨s.cs, s.al.filter (fun a => !isU t u a)⟩) := hs9
  obtain ⟨cv, av, h⟩ := h
  obtain ⟨aco0, Nco, capco, eav, hNco, hcco, hrco⟩ := h.coRow
  have HNco := hid hNco
  have Hcco := hid hcco
  have HRco := hid hrco
  have HBVco := hid (fun (X : World) (hX : Below V.heap.size V X) => hX)
  have HRA := hid h
  have HgB := hid (Nat.le_trans hB B0.out.size)
  have hNb2 : Nco ≤ 1000000000000 := by omega
  clear h hl2 hs9 eav hNco hcco hrco hV b0 x0
  go_enter Tryz.func31, Tryz.ntmps31
  go_wp2
  rw [HW.out]
  go_loopw [5, 6] (fun v i wr => ∃ k : Nat, k ≤ Nco ∧ i = .int .i64 (k : Int) ∧ wr.ownsRow V.heap.size 59 4 v ((s.al.take k).filter (fun a => !isU t u a)).length (coCells ((s.al.take k).filter (fun a => !isU t u a))) ∧ Below V.heap.size V wr) (fun _ i _ => Nco - (intOf i).toNat)
  case atStart => exact ⟨0, Nat.zero_le _, rfl, World.ownsRow_nil _ _ _ _, Below.refl _ _⟩
  case round =>
    obtain ⟨k, hk, rfl, ho, hb⟩ := hrel
    have HO := hid ho
    have HB9 := hid hb
    have hbV := HBVco.out _ hb
    have HbV := hid hbV
    obtain ⟨Vr, hVr⟩ : ∃ Vr, Vr = wr := ⟨_, rfl⟩
    have hcell := Hcco.out wr hbV
    by_cases hlt : k < Nco
    · have g1 : (k : Int) < (Nco : Int) := by omega
      have g1' : decide ((k : Int) < (Nco : Int)) = true := by simp; omega
      have g0 : (0 : Int) ≤ (k : Int) := by omega
      have hkr : k < s.al.length := by have := HNco.out; omega
      obtain ⟨x, hxk⟩ : ∃ x, s.al[k]? = some x := ⟨_, List.getElem?_eq_getElem hkr⟩
      have Htk := hid (take_getU hxk)
      obtain ⟨b9, eb9, hat⟩ := HRco.out k hkr
      obtain ⟨_, hxe⟩ := List.getElem?_eq_some_iff.1 hxk
      rw [hxe] at hat
      obtain ⟨d9, d0, d1, d2, d3⟩ := hat wr hbV
      have Hlt := hid hlt
      have hbound : Hid (((s.al.take k).filter (fun a => !isU t u a)).length ≤ 1000000000000) := by
        refine Nat.le_trans (List.length_filter_le _ _) (Nat.le_trans (List.length_take_le _ _) ?_)
        omega
      subst eb9
      clear hxk hkr hat hxe hlt hk ho hb hbV hVr hcell
      obtain ⟨x1, x2, x3, x4⟩ := x
      dsimp only at d0 d1 d2 d3
      obtain ⟨o0, o1⟩ := HBox.out wr HbV.out
      cases q0 : (x1.toList == t.toList)
      · skip
        have hf := hid (show (!isU t u ⟨x1, x2, x3, x4⟩) = true from by rw [isU_eq, q0]; rfl)
        go_wp2
        go_quiet (fail)
        have HO2 := hid (own_onU HO.out (below_dN _ wr nq))
        have HB2 := hid (HB9.out.trans ((below_dN _ wr nq).mono HB9.out.size))
        have hbV2 := HBVco.out _ HB2.out
        have p9 : (wr.drewN nq).cell? ⟨g, 1, none⟩ = some (.slice (some ⟨b9, 0, none⟩) Nco capco) := d9
        have p0 : (wr.drewN nq).cell? ⟨b9, k * 4, none⟩ = some (.string x1) := d0
        have p1 : (wr.drewN nq).cell? ⟨b9, k * 4 + 1, none⟩ = some (.string x2) := d1
        have p2 : (wr.drewN nq).cell? ⟨b9, k * 4 + 2, none⟩ = some (.string x3) := d2
        have p3 : (wr.drewN nq).cell? ⟨b9, k * 4 + 3, none⟩ = some (.int .u8 (x4 : Int)) := d3
        clear d9 d0 d1 d2 d3
        obtain ⟨w4, hw4⟩ : ∃ w4, w4 = wr.drewN nq := ⟨_, rfl⟩
        rw [← hw4] at HO2 HB2 p9 p0 p1 p2 p3 ⊢
        clear hw4 hbV2
        go_wp2_with (at_builtin; refine app_coL rfl (.tmp 29) (.tmp 37) rfl w4 ⟨x1, x2, x3, x4⟩ rfl V.heap.size u5 _ rfl HO2.out rfl (by have := hbound.out; omega) HB2.out.size ?_; intro v5 w5 ho5 hg5; have C5 := hid (HB2.out.trans ((Below.refl _ _).grown hg5 HB2.out.size (fun q hq => (HO2.out.lt q hq).1))); have O5 := hid ho5; clear ho5 hg5)
        go_roundw
        case rel => exact ⟨k + 1, by have := Hlt.out; omega, by first | rfl | go_num, by rw [filt_keep Htk.out hf.out]; exact O5.out, C5.out⟩
        case measure => exact measU _ _ _ Hlt.out rfl
      · cases q1 : (x2.toList == u.toList)
        · skip
          have hf := hid (show (!isU t u ⟨x1, x2, x3, x4⟩) = true from by rw [isU_eq, q0, q1]; rfl)
          go_wp2
          go_quiet (fail)
          have HO2 := hid (own_onU HO.out (below_dN _ wr nq))
          have HB2 := hid (HB9.out.trans ((below_dN _ wr nq).mono HB9.out.size))
          have hbV2 := HBVco.out _ HB2.out
          have p9 : (wr.drewN nq).cell? ⟨g, 1, none⟩ = some (.slice (some ⟨b9, 0, none⟩) Nco capco) := d9
          have p0 : (wr.drewN nq).cell? ⟨b9, k * 4, none⟩ = some (.string x1) := d0
          have p1 : (wr.drewN nq).cell? ⟨b9, k * 4 + 1, none⟩ = some (.string x2) := d1
          have p2 : (wr.drewN nq).cell? ⟨b9, k * 4 + 2, none⟩ = some (.string x3) := d2
          have p3 : (wr.drewN nq).cell? ⟨b9, k * 4 + 3, none⟩ = some (.int .u8 (x4 : Int)) := d3
          clear d9 d0 d1 d2 d3
          obtain ⟨w4, hw4⟩ : ∃ w4, w4 = wr.drewN nq := ⟨_, rfl⟩
          rw [← hw4] at HO2 HB2 p9 p0 p1 p2 p3 ⊢
          clear hw4 hbV2
          go_wp2_with (at_builtin; refine app_coL rfl (.tmp 29) (.tmp 37) rfl w4 ⟨x1, x2, x3, x4⟩ rfl V.heap.size u5 _ rfl HO2.out rfl (by have := hbound.out; omega) HB2.out.size ?_; intro v5 w5 ho5 hg5; have C5 := hid (HB2.out.trans ((Below.refl _ _).grown hg5 HB2.out.size (fun q hq => (HO2.out.lt q hq).1))); have O5 := hid ho5; clear ho5 hg5)
          go_roundw
          case rel => exact ⟨k + 1, by have := Hlt.out; omega, by first | rfl | go_num, by rw [filt_keep Htk.out hf.out]; exact O5.out, C5.out⟩
          case measure => exact measU _ _ _ Hlt.out rfl
        · skip
          have hf := hid (show (!isU t u ⟨x1, x2, x3, x4⟩) = false from by rw [isU_eq, q0, q1]; rfl)
          go_wp2
          go_quiet (fail)
          go_wp2
          go_roundw
          case rel => exact ⟨k + 1, by have := Hlt.out; omega, by first | rfl | go_num, by rw [filt_skip Htk.out hf.out]; exact own_onU HO.out (below_dN _ _ _), HB9.out.trans ((below_dN _ _ _).mono HB9.out.size)⟩
          case measure => exact measU _ _ _ Hlt.out rfl
    · have e : k = Nco := by omega
      subst e
      have g1 : ¬ (k : Int) < (k : Int) := by omega
      have g1' : decide ((k : Int) < (k : Int)) = false := by simp
      have hall : s.al.take k = s.al := List.take_of_length_le (by have := HNco.out; omega)
      have ho' := HO.out
      rw [hall] at ho'
      obtain ⟨lco, hlco⟩ : ∃ l, l = s.al.filter (fun a => !isU t u a) := ⟨_, rfl⟩
      rw [← hlco] at ho'
      obtain ⟨nco, hnco⟩ : ∃ n, n = lco.length := ⟨_, rfl⟩
      rw [← hnco] at ho'
      obtain ⟨aco, cco, eco⟩ := slice_out ho'
      subst eco
      have HLco := hid ho'
      have Hlco := hid hlco
      have Hnco := hid hnco
      have HBco := hid HB9.out
      have HbVco := hid HbV.out
      clear ho hb hbV hall ho' hlt hk hlco hnco HO HB9 HbV
      obtain ⟨wco, hwco⟩ : ∃ w9, w9 = wr := ⟨_, rfl⟩
      rw [← hwco] at HLco HBco HbVco hcell ⊢
      clear hwco hVr
      have hrF := hid (HRA.out.below HbVco.out)
      have f1 : wco.frozen? ⟨g, 1, none⟩ = false := frozen_of_row _ _ _ _ _ hrF.out.obj
      have hlen : Hid ((k : Int) - (nco : Int) = ((consN s t u : Nat) : Int)) := by
        show _ = _
        have h1 := len_split (isU t u) s.al
        have h2 := Hnco.out
        rw [Hlco.out] at h2
        have h3 := HNco.out
        unfold consN
        omega
      have hnb : (nco : Int) ≤ (k : Int) := by
        have h1 := len_split (isU t u) s.al
        have h2 := Hnco.out
        rw [Hlco.out] at h2
        have h3 := HNco.out
        omega
      have hnb0 : (0 : Int) ≤ (nco : Int) := by omega
      have hco9 := HLco.out
      rw [Hnco.out] at hco9
      obtain ⟨k3, k4⟩ := HRA.out.seta (l := lco) HbVco.out HgB.out hco9
      rw [← Hnco.out] at k3 k4
      have K3 := hid k3
      have K4 := hid k4
      have c1' := hrF.out.c1
      rw [← HD.out] at hlen
      have hDk : (k : Int) ≤ 1000000000000 := by omega
      have hw64 : Hid (wrap64 ((k : Int) - (nco : Int)) = (D : Int)) := by
        show wrap64 ((k : Int) - (nco : Int)) = (D : Int)
        rw [IntWalk.wrap64_in _ (by omega)]
        exact hlen.out
      clear k3 k4 hco9
      go_wp2
      go_ret
      refine ⟨?_, (OutJ.of_below B0.out).trans K4.out, ?_⟩
      · first
          | (rw [← hlen.out]; done)
          | (rw [← hlen.out]; rfl)
          | (rw [← hw64.out]; rfl)
      · rw [HS9.out, ← Hlco.out]
        exact ⟨_, _, K3.out⟩
theorem GS.Ok.dropA_none {s : GS} (h : s.Ok) {t u n : ByteArray} (hf : fA s t u n = none) : s.dropA t u n = s := by
  have h1 : ∀ a ∈ s.al, isA t u n a = false := fun c hc => by
    have := List.find?_eq_none.1 hf c hc
    simpa using this
  unfold GS.dropA
  rw [List.filter_eq_self.2 (fun a ha => by rw [h1 a ha]; rfl)]
theorem GS.Ok.filt_cut {s : GS} (h : s.Ok) {t u n : ByteArray} {k : Nat} (hk : k < s.al.length) (hf : fA s t u n = some s.al[k]) : s.al.filter (fun a => !isA t u n a) = s.al.take k ++ s.al.drop (k + 1) := by
  obtain ⟨_, e1, e2, e3⟩ := fA_some hf
  have e : s.al = s.al.take k ++ s.al[k] :: s.al.drop (k + 1) := by rw [← List.drop_eq_getElem_cons hk, List.take_append_drop]
  have hp := h.akeys
  rw [e, List.pairwise_append] at hp
  obtain ⟨_, p2, p3⟩ := hp
  obtain ⟨p4, _⟩ := List.pairwise_cons.1 p2
  conv => lhs; rw [e]
  rw [List.filter_append, List.filter_cons_of_neg (by rw [isA_iff.2 ⟨e1, e2, e3⟩]; simp), List.filter_eq_self.2 (fun a ha => ?_), List.filter_eq_self.2 (fun a ha => ?_)]
  · cases h9 : isA t u n a with
    | false => rfl
    | true =>
      obtain ⟨f1, f2, f3⟩ := isA_iff.1 h9
      exact absurd ⟨e1.trans f1.symm, e2.trans f2.symm, e3.trans f3.symm⟩ (p4 a ha)
  · cases h9 : isA t u n a with
    | false => rfl
    | true =>
      obtain ⟨f1, f2, f3⟩ := isA_iff.1 h9
      exact absurd ⟨f1.trans e1.symm, f2.trans e2.symm, f3.trans e3.symm⟩ (p3 a ha s.al[k] (List.mem_cons_self ..))
theorem own_cap {w : World} {B n sz : Nat} {e : TypeId} {a : Option Addr} {m c : Nat} {xs : List Value} (h : w.ownsRow B e sz (.slice a m c) n xs) : n ≤ c := by
  rcases h.2 with ⟨e1, h1⟩ | ⟨g, cap, cur, e1, _, _, hc, _⟩
  · omega
  · injection e1 with _ _ e3
    omega
theorem dropIf {w : World} {B g n c p m c' : Nat} {S : List Co} (h : w.ownsRow B 59 4 (.slice (some ⟨g, 0, none⟩) n c) S.length (coCells S)) (hp : p ≤ S.length) (hm : m = S.length - p) (hc : S.length ≤ c) : SrcCo w (.slice (if c = p then some ⟨g, 0, none⟩ else some ⟨g, p * 4, none⟩) m c') (S.drop p) := by
  split
  · exact srcCo_drop h hp hm (fun h9 => by omega)
  · exact srcCo_drop h hp hm (fun _ => rfl)
theorem ixA_some {s : GS} {t u n : ByteArray} {i : Int} (h : IxA s t u n i) : (fA s t u n).isSome = decide (0 ≤ i) := by
  rcases h with ⟨rfl, h⟩ | ⟨k, hk, rfl, h⟩
  · rw [h]; rfl
  · rw [h, decide_eq_true (by omega)]; rfl
set_option maxHeartbeats 16000000 in
theorem rwithdraw_any {w : World} {B g : Nat} {s : GS} (h : RG w B g s) (hok : s.Ok) (hB : B ≤ w.heap.size) (hl2 : s.al.length ≤ 1000000000000) (t u n : ByteArray) :
    Calls Tryz.prog 29 #[.pointer (some ⟨g, 0, none⟩), .agg #[.string t, .string u], .string n] w fun e w' => e = .returned (.int .i64 (noneE (fA s t u n).isSome)) ∧ OutJ (fun k => k = g) w w' ∧ RG w' B g (s.dropA t u n) := by
  obtain ⟨V, hV⟩ : ∃ V, V = w.alloc (.cells #[.string t, .string u] 30) := ⟨_, rfl⟩
  have b0 : Below w.heap.size w V := by rw [hV]; exact (Below.refl _ w).alloc (Nat.le_refl _) _
  have x0 : V.heap[w.heap.size]? = some (.cells #[.string t, .string u] 30 (0, 0)) := by rw [hV]; exact heap_allocN w _
  have HBox := hid (fun (X : World) (hX : Below V.heap.size V X) => (show X.cell? ⟨w.heap.size, 0, none⟩ = some (.string t) ∧ X.cell? ⟨w.heap.size, 1, none⟩ = some (.string u) from by
    have x9 := (hX.block _ (heap_lt x0)).trans x0
    exact ⟨(cell_of_rowU _ _ 0 _ _ _ x9).trans rfl, (cell_of_rowU _ _ 1 _ _ _ x9).trans rfl⟩))
  have HW := hid hV.symm
  have B0 := hid b0
  have h := h.below b0
  have HCo := hid (rconsent_any h (by omega) t u n)
  cases hf : fA s t u n with
  | none =>
    have hix : Hid (∀ i, IxA s t u n i → decide (i < 0) = true) := fun i hi => by
      have h9 := ixA_some hi
      rw [hf] at h9
      have : decide ((0 : Int) ≤ i) = false := h9.symm
      rw [decide_eq_false_iff_not] at this
      simp; omega
    have hs := hid (hok.dropA_none hf)
    have H := hid h
    obtain ⟨o0, o1⟩ := HBox.out V (Below.refl _ _)
    rw [← HW.out] at o0 o1
    clear h hf hl2 hB hV b0 x0
    go_enter Tryz.func29, Tryz.ntmps29
    go_wp2_with (go_at_call 61; rw [HW.out]; refine HCo.out.mono ?_; rintro _ w9 ⟨i, rfl, hi, b9⟩; have di := hix.out i hi; have B9 := hid b9; clear hi b9)
    go_ret
    exact ⟨rfl, OutJ.of_below (Below.on' B0.out B9.out), by rw [hs.out]; exact H.out.below B9.out⟩
  | some a0 =>
    have hix : Hid (∀ i, IxA s t u n i → ∃ k, ∃ hk : k < s.al.length, i = (k : Int) ∧ s.al.filter (fun a => !isA t u n a) = s.al.take k ++ s.al.drop (k + 1)) := fun i hi => by
      rcases hi with ⟨_, h9⟩ | ⟨k, hk, e, h9⟩
      · rw [hf] at h9; cases h9
      · exact ⟨k, hk, e, hok.filt_cut hk h9⟩
    obtain ⟨s9, hs9⟩ : ∃ s9, s9 = s.dropA t u n := ⟨_, rfl⟩
    rw [← hs9]
    have HS9 : Hid (s9 = ⟨s.cs, s.al.filter (fun a => !isA t u n a)⟩) := hs9
    obtain ⟨cv, av, h⟩ := h
    obtain ⟨aco0, Nco, capco, eav, hNco, hcco, hrco⟩ := h.coRow
    have HNco := hid hNco
    have Hcco := hid hcco
    have HRco := hid hrco
    have HBVco := hid (fun (X : World) (hX : Below V.heap.size V X) => hX)
    have HRA := hid h
    have HgB := hid (Nat.le_trans hB B0.out.size)
    have hNb2 : Nco ≤ 1000000000000 := by omega
    have hcapN : Nco ≤ capco := by
      have h9 := h.al
      rw [eav] at h9
      rw [hNco]
      exact own_cap h9
    obtain ⟨o0, o1⟩ := HBox.out V (Below.refl _ _)
    rw [← HW.out] at o0 o1
    have Hav := hid eav
    clear h hf hl2 hB hV b0 x0 hs9 eav hNco hcco hrco
    obtain ⟨E, hE⟩ : ∃ E, E = noneE (some a0).isSome := ⟨_, rfl⟩
    rw [← hE]
    have Hne : Hid (E = 0) := hE
    clear hE
    go_enter Tryz.func29, Tryz.ntmps29
    go_wp2_with (first
      | (go_at_call 61; rw [HW.out]; refine HCo.out.mono ?_; rintro _ w9 ⟨i, rfl, hi, b9⟩; obtain ⟨k, hkl, rfl, hcut⟩ := hix.out i hi; have B9 := hid b9; have hRw := hid (HRA.out.below b9); have hcell := Hcco.out w9 b9; obtain ⟨b1, rfl, hq9⟩ := HRco.out k hkl; clear hq9; have Hkl := hid hkl; have Hcut := hid hcut; have hkn : (k : Int) < (Nco : Int) := (by have := HNco.out; omega); have hk0 : (0 : Int) ≤ (k : Int) := (by omega); have gdi : decide ((k : Int) < 0) = false := (by simp); have gdi' : ¬ (k : Int) < 0 := (by omega); have gkc : (k : Int) ≤ (capco : Int) := (by omega); have HS : Hid (w9.ownsRow B 59 4 (.slice (some ⟨b1, 0, none⟩) Nco capco) s.al.length (coCells s.al)) := (by have h9 := hRw.out.al; rw [Hav.out] at h9; exact h9); clear hi b9 hcut hkl)
      | (at_builtin; refine app_coS rfl (.tmp 26) (.tmp 33) rfl w9.heap.size (.slice a10 n10 m10) (s.al.take k) rfl O10.out (.slice (if capco = k + 1 then some ⟨b1, 0, none⟩ else some ⟨b1, (k + 1) * 4, none⟩) (Nco - (k + 1)) (capco - (k + 1))) (s.al.drop (k + 1)) rfl (dropIf HS10.out (show k + 1 ≤ s.al.length from Hkl.out) (by have := HNco.out; omega) (by have := HNco.out; omega)) (by have := HNco.out; rw [List.length_take, List.length_drop]; omega) B10.out.size ?_; intro v11 w11 ho11 hg11; have B11 := hid (B10.out.trans ((Below.refl _ _).grown hg11 B10.out.size (fun q hq => (O10.out.lt q hq).1))); obtain ⟨n11, hn11⟩ : ∃ n, n = (s.al.take k ++ s.al.drop (k + 1)).length := ⟨_, rfl⟩; rw [← hn11] at ho11; obtain ⟨a11, m11, rfl⟩ := slice_out ho11; have O11 := hid ho11; have HN11 := hid hn11; have c11 := (hRw.out.below B11.out).c1; have f11 : w11.frozen? ⟨g, 1, none⟩ = false := frozen_of_row _ _ _ _ _ (hRw.out.below B11.out).obj; clear hn11 ho11 hg11)
      | (at_builtin; refine app_coS rfl (.tmp 17) (.tmp 23) rfl w9.heap.size (.slice none 0 0) [] rfl (World.ownsRow_nil _ _ _ _) _ (s.al.take k) rfl (srcCo_take HS.out (Nat.le_of_lt Hkl.out)) (by have := HNco.out; rw [List.length_take]; simp; omega) (Nat.le_refl _) ?_; intro v10 w10 ho10 hg10; have B10 := hid ((Below.refl w9.heap.size w9).grown hg10 (Nat.le_refl _) (fun q hq => by cases hq)); have ho10 : w10.ownsRow w9.heap.size 59 4 v10 (s.al.take k).length (coCells (s.al.take k)) := ho10; obtain ⟨a10, m10, e10⟩ := slice_out ho10; obtain ⟨n10, hn10⟩ : ∃ n, n = (s.al.take k).length := ⟨_, rfl⟩; rw [← hn10] at e10; subst e10; have O10 := hid ho10; clear hn10; have HS10 := hid (own_onU HS.out B10.out); have c10 := Hcco.out w10 (Below.on' B9.out B10.out); clear ho10 hg10 hcell))
    all_goals go_ret
    all_goals
      have O12 := O11.out
      rw [HN11.out] at O12
      obtain ⟨k1, k2⟩ := hRw.out.seta B11.out (Nat.le_trans HgB.out B9.out.size) O12
      rw [← HN11.out] at k1 k2
      exact ⟨by rw [Hne.out]; rfl, (OutJ.of_below (Below.on' B0.out B9.out)).trans k2, by rw [HS9.out, Hcut.out]; exact ⟨_, _, k1⟩⟩
end Go.Proofs.YtlkbojgemcjilaaGreatDoor

/- Grants: the reference's Allow. (Printed by gen/ur6.py.) -/
namespace Go.Proofs.YtlkbojgemcjilaaGreatDoor
open Go.RowKit Go.Maps Go.Shelf Go.Sort Go.Lib
set_option linter.unusedVariables false
set_option maxRecDepth 20000
theorem ixA_all {s : GS} (hok : s.Ok) {t u n : ByteArray} {i : Int} (h : IxA s t u n i) (k : Nat) (x : Co) (hk : s.al[k]? = some x) : isA t u n x = decide ((k : Int) = i) := by
  obtain ⟨hk2, rfl⟩ := List.getElem?_eq_some_iff.1 hk
  rcases h with ⟨rfl, h⟩ | ⟨j, hj, rfl, h⟩
  · have h1 : isA t u n s.al[k] = false := by
      have := List.find?_eq_none.1 h s.al[k] (List.getElem_mem hk2)
      simpa using this
    rw [h1, decide_eq_false (by omega)]
  · obtain ⟨_, e1, e2, e3⟩ := fA_some h
    by_cases e : k = j
    · subst e
      rw [isA_iff.2 ⟨e1, e2, e3⟩, decide_eq_true rfl]
    · rw [decide_eq_false (by omega)]
      cases h9 : isA t u n s.al[k] with
      | false => rfl
      | true =>
        obtain ⟨f1, f2, f3⟩ := isA_iff.1 h9
        rcases Nat.lt_or_gt_of_ne e with hlt | hlt
        · exact absurd ⟨f1.trans e1.symm, f2.trans e2.symm, f3.trans e3.symm⟩ (List.pairwise_iff_getElem.1 hok.akeys k j hk2 hj hlt)
        · exact absurd ⟨e1.trans f1.symm, e2.trans f2.symm, e3.trans f3.symm⟩ (List.pairwise_iff_getElem.1 hok.akeys j k hj hk2 hlt)
set_option maxHeartbeats 16000000 in
theorem rallow_any {w : World} {B g : Nat} {s : GS} (h : RG w B g s) (hok : s.Ok) (hB : B ≤ w.heap.size) (hl : s.cs.length ≤ 1000000000000) (hl2 : s.al.length ≤ 999999999999) (t u n : ByteArray) (sc : Nat) (ht : t.size ≤ 9223372036854775807) (hu : u.size ≤ 9223372036854775807) (hsc : sc ≤ 255) :
    Calls Tryz.prog 27 #[.pointer (some ⟨g, 0, none⟩), .agg #[.string t, .string u, .string n, .int .u8 (sc : Int)]] w fun e w' => e = .returned (.int .i64 (allEs s ⟨t, u, n, sc⟩ : Nat)) ∧ OutJ (fun k => k = g) w w' ∧ RG w' B g (s.alw ⟨t, u, n, sc⟩) := by
  obtain ⟨W, hW⟩ : ∃ W, W = w.alloc (.cells #[.string t, .string u, .string n, .int .u8 (sc : Int)] 59) := ⟨_, rfl⟩
  have b0 : Below w.heap.size w W := by rw [hW]; exact (Below.refl _ w).alloc (Nat.le_refl _) _
  have x0 : W.heap[w.heap.size]? = some (.cells #[.string t, .string u, .string n, .int .u8 (sc : Int)] 59 (0, 0)) := by rw [hW]; exact heap_allocN w _
  have h0 := h.below b0
  have HX := hid (fun (V : World) (hV : Below W.heap.size W V) => (show V.cell? ⟨w.heap.size, 0, none⟩ = some (.string t) ∧ V.cell? ⟨w.heap.size, 1, none⟩ = some (.string u) ∧ V.cell? ⟨w.heap.size, 2, none⟩ = some (.string n) ∧ V.cell? ⟨w.heap.size, 3, none⟩ = some (.int .u8 (sc : Int)) from by
    have x9 := (hV.block _ (heap_lt x0)).trans x0
    exact ⟨(cell_of_rowU _ _ 0 _ _ _ x9).trans rfl, (cell_of_rowU _ _ 1 _ _ _ x9).trans rfl, (cell_of_rowU _ _ 2 _ _ _ x9).trans rfl, (cell_of_rowU _ _ 3 _ _ _ x9).trans rfl⟩))
  obtain ⟨z0, z1, z2, z3⟩ := HX.out W (Below.refl _ _)
  have HCl := hid (rclient_any h0 (by omega) t n)
  have HN1 := hid (fun (V : World) => rIsName_q t V ht)
  have HN2 := hid (fun (V : World) => rIsName_q u V hu)
  have HCo := hid (fun (V : World) (hV : Below W.heap.size W V) => rconsent_any (h0.below hV) (by omega) t u n)
  have HCs := hid (fun (V : World) (hV : Below W.heap.size W V) => (show Calls Tryz.prog 40 #[.pointer (some ⟨g, 0, none⟩), .agg #[.string t, .string u]] V fun e w' => ∃ a c, e = .returned (.slice a (consN s t u) c) ∧ Below V.heap.size V w' from by
    refine (rConsents_any (h0.below hV) (by omega) t u).mono ?_
    rintro _ w' ⟨v, S, rfl, p1, p2, p3, p4⟩
    obtain ⟨a, c, e⟩ := len_slice p3
    rw [p1.length_eq] at e
    exact ⟨a, c, by rw [e]; rfl, p4⟩))
  have HW := hid hW.symm
  have B0 := hid b0
  have H0 := hid h0
  have Hbad := hid (fun (V : World) (hV : Below w.heap.size w V) => (show RG V B g s from h.below hV))
  have Hok := hid hok
  have HB := hid hB
  have Hl := hid (And.intro hl hl2)
  obtain ⟨E, hE⟩ : ∃ E, E = allEs s ⟨t, u, n, sc⟩ := ⟨_, rfl⟩
  obtain ⟨s9, hs9⟩ : ∃ s9, s9 = s.alw ⟨t, u, n, sc⟩ := ⟨_, rfl⟩
  rw [← hE, ← hs9]
  unfold GS.alw at hs9
  rw [← hE] at hs9
  unfold allEs at hE
  have hend : ∀ e9 : Nat, E = e9 → ¬ e9 = 0 → ∀ V : World, Below w.heap.size w V → Ending.returned (Value.int .i64 (e9 : Int)) = Ending.returned (Value.int .i64 (E : Int)) ∧ OutJ (fun k => k = g) w V ∧ RG V B g s9 := fun e9 he hn V hV => by
    rw [if_neg (by omega)] at hs9
    exact ⟨by rw [he], OutJ.of_below hV, by rw [hs9]; exact Hbad.out V hV⟩
  have Hend := hid hend
  have HS9 := hid hs9
  rw [← HW.out] at z0 z1 z2 z3
  clear hend h h0 b0 x0 hW hB hl hl2 hok hs9
  have EN := "27"
  clear EN
  cases o1 : okN t
  · rw [o1] at HN1
    have he : Hid (E = 8) := by show E = 8; rw [hE, o1]; rfl
    clear hE
    go_enter Tryz.func27, Tryz.ntmps27
    go_wp2_with (go_at_call 58; refine (HN1.out _).mono ?_; rintro _ w9 ⟨rfl, e9⟩; subst w9)
    go_ret
    rw [HW.out]
    exact Hend.out 8 he.out (by decide) W B0.out
  · cases o2 : okN u
    · rw [o1] at HN1
      rw [o2] at HN2
      have he : Hid (E = 8) := by show E = 8; rw [hE, o1, o2]; rfl
      clear hE
      go_enter Tryz.func27, Tryz.ntmps27
      go_wp2_with (first
        | (go_at_call 58; refine (HN1.out _).mono ?_; rintro _ w9 ⟨rfl, e9⟩; subst w9; clear HN1)
        | (go_at_call 58; refine (HN2.out _).mono ?_; rintro _ w9 ⟨rfl, e9⟩; subst w9; clear HN2))
      go_ret
      rw [HW.out]
      exact Hend.out 8 he.out (by decide) W B0.out
    · rw [o1] at HN1
      rw [o2] at HN2
      rw [o1, o2, if_neg (by decide)] at hE
      dsimp only at hE
      cases hf : findC s t n with
      | none =>
        rw [hf] at hE
        have he : Hid (E = 4) := hE
        have hix : Hid (∀ i, IxC s t n i → decide (i < 0) = true) := fun i hi => by
          have h9 := ixC_none hi
          rw [hf] at h9
          have : decide ((0 : Int) ≤ i) = false := h9.symm
          rw [decide_eq_false_iff_not] at this
          simp; omega
        clear hE
        go_enter Tryz.func27, Tryz.ntmps27
        go_wp2_with (first
          | (go_at_call 58; refine (HN1.out _).mono ?_; rintro _ w9 ⟨rfl, e9⟩; subst w9; clear HN1)
          | (go_at_call 58; refine (HN2.out _).mono ?_; rintro _ w9 ⟨rfl, e9⟩; subst w9; clear HN2)
          | (go_at_call 59; rw [HW.out]; refine HCl.out.mono ?_; rintro _ w9 ⟨i, rfl, hi, e9⟩; subst w9; have di := hix.out i hi; clear hi))
        go_ret
        exact Hend.out 4 he.out (by decide) _ B0.out
      | some c =>
        rw [hf] at hE
        dsimp only at hE
        have hcm := List.mem_of_find?_eq_some hf
        have hcs : c.sc ≤ 255 := (Hok.out.names c hcm).2.2.2
        have hix : Hid (∀ i, IxC s t n i → ∃ j, ∃ hj : j < s.cs.length, i = (j : Int) ∧ s.cs[j] = c) := fun i hi => by
          rcases hi with ⟨_, h9⟩ | ⟨j, hj, e, h9⟩
          · rw [hf] at h9; cases h9
          · rw [hf] at h9; exact ⟨j, hj, e, (Option.some.inj h9).symm⟩
        obtain ⟨cv, av, hr0⟩ := H0.out
        obtain ⟨acl0, Ncl, capcl, ecv, hNcl, hccl, hrcl⟩ := hr0.clRow
        have HNcl := hid hNcl
        have Hccl := hid hccl
        have HRcl := hid hrcl
        obtain ⟨z, hz⟩ : ∃ z, z = sc &&& c.sc := ⟨_, rfl⟩
        have hbz : bits BinOp.and IntKind.u8 (sc : Int) (c.sc : Int) = (z : Int) := by rw [hz]; exact and_bits _ _ (by omega) (by omega)
        have Hzb := hid hbz
        have hNb1 : Ncl ≤ 1000000000000 := by have := Hl.out.1; omega
        have HZ := hid hz
        have HR0 := hid hr0
        clear ecv hNcl hccl hrcl hz hbz hr0
        cases hnr : nar sc c.sc
        · rw [if_pos hnr] at hE
          have he : Hid (E = 14) := hE
          have hne : ((z : Int) == (sc : Int)) = false := by
            have h9 : ¬ sc &&& c.sc = sc := of_decide_eq_false hnr
            rw [← HZ.out] at h9
            rw [beq_eq_false_iff_ne]
            omega
          have hbz := Hzb.out
          clear hE hnr
          go_enter Tryz.func27, Tryz.ntmps27
          go_wp2_with (first
            | (go_at_call 58; refine (HN1.out _).mono ?_; rintro _ w9 ⟨rfl, e9⟩; subst w9; clear HN1)
            | (go_at_call 58; refine (HN2.out _).mono ?_; rintro _ w9 ⟨rfl, e9⟩; subst w9; clear HN2)
            | (go_at_call 59; rw [HW.out]; refine HCl.out.mono ?_; rintro _ w9 ⟨i, rfl, hi, e9⟩; subst w9; obtain ⟨j, hj, rfl, hjc⟩ := hix.out i hi; have dj : decide ((j : Int) < 0) = false := (by simp); have dj' : ¬ (j : Int) < 0 := (by omega); obtain ⟨y0, y1, y2, y3⟩ := HX.out W (Below.refl _ _); obtain ⟨b9, eb9, hat⟩ := HRcl.out j hj; rw [hjc] at hat; obtain ⟨d9, d0, d1, d2, d3⟩ := hat W (Below.refl _ _); subst eb9; have jN : (j : Int) < (Ncl : Int) := (by have := HNcl.out; omega); have j0 : (0 : Int) ≤ (j : Int) := (by omega); clear hi hat hjc hj))
          go_quiet (fail)
          go_wp2
          go_ret
          exact Hend.out 14 he.out (by decide) _ (B0.out.trans (below_dN _ _ _))
        · rw [if_neg (by rw [hnr]; simp)] at hE
          have hzs : z = sc := by rw [HZ.out]; exact of_decide_eq_true hnr
          have hbz := Hzb.out
          rw [hzs] at hbz
          clear HZ Hzb hzs hnr
          have hixA : Hid (∀ i, IxA s t u n i → (fA s t u n).isSome = decide ((0 : Int) ≤ i)) := fun i hi => ixA_some hi
          obtain ⟨m, hm⟩ : ∃ m, m = consN s t u := ⟨_, rfl⟩
          rw [← hm] at hE HCs
          have hmb : m ≤ 999999999999 := by
            rw [hm]
            exact Nat.le_trans (List.length_filter_le _ _) Hl.out.2
          cases hg : fA s t u n with
          | none =>
            rw [hg] at hE hixA
            by_cases h4 : 4 ≤ m
            · rw [if_pos ⟨rfl, h4⟩] at hE
              have he : Hid (E = 25) := hE
              have d4 : decide ((4 : Int) ≤ (m : Int)) = true := by simp; omega
              have d4' : (4 : Int) ≤ (m : Int) := by omega
              clear hE hg hm h4
              go_enter Tryz.func27, Tryz.ntmps27
              go_wp2_with (first
                | (go_at_call 58; refine (HN1.out _).mono ?_; rintro _ w9 ⟨rfl, e9⟩; subst w9; clear HN1)
                | (go_at_call 58; refine (HN2.out _).mono ?_; rintro _ w9 ⟨rfl, e9⟩; subst w9; clear HN2)
                | (go_at_call 59; rw [HW.out]; refine HCl.out.mono ?_; rintro _ w9 ⟨i, rfl, hi, e9⟩; subst w9; obtain ⟨j, hj, rfl, hjc⟩ := hix.out i hi; have dj : decide ((j : Int) < 0) = false := (by simp); have dj' : ¬ (j : Int) < 0 := (by omega); obtain ⟨y0, y1, y2, y3⟩ := HX.out W (Below.refl _ _); obtain ⟨b9, eb9, hat⟩ := HRcl.out j hj; rw [hjc] at hat; obtain ⟨d9, d0, d1, d2, d3⟩ := hat W (Below.refl _ _); subst eb9; have jN : (j : Int) < (Ncl : Int) := (by have := HNcl.out; omega); have j0 : (0 : Int) ≤ (j : Int) := (by omega); clear hi hat hjc hj))
              go_quiet (fail)
              clear y0 y1 y2 y3
              obtain ⟨V4, hV4⟩ : ∃ V4, V4 = W.drewN nq := ⟨_, rfl⟩
              have bV4 : Below W.heap.size W V4 := by rw [hV4]; exact below_dN _ _ _
              rw [← hV4]
              obtain ⟨y0, y1, y2, y3⟩ := HX.out V4 bV4
              have BV4 := hid bV4
              clear hV4 bV4 d9 d0 d1 d2 d3
              go_wp2_with (first
                | (go_at_call 61; refine (HCo.out _ BV4.out).mono ?_; rintro _ V5 ⟨i5, rfl, hi5, b5⟩; have BV5 := hid (Below.on' BV4.out b5); have d5 : decide (i5 < 0) = true := (by have h9 := hixA.out i5 hi5; have : decide ((0 : Int) ≤ i5) = false := h9.symm; rw [decide_eq_false_iff_not] at this; simp; omega); have d5' : i5 < 0 := (by simpa using d5); obtain ⟨q0, q1, q2, q3⟩ := HX.out V5 BV5.out; clear hi5 b5 y0 y1 y2 y3)
                | (go_at_call 40; refine (HCs.out _ BV5.out).mono ?_; rintro _ V6 ⟨a6, c6, rfl, b6⟩; have BV6 := hid (Below.on' BV5.out b6); clear b6))
              go_ret
              exact Hend.out 25 he.out (by decide) _ (Below.on' B0.out BV6.out)
            · rw [if_neg (fun h9 => h4 h9.2)] at hE
              have he : Hid (E = 0) := hE
              have d4 : decide ((4 : Int) ≤ (m : Int)) = false := by simp; omega
              have d4' : ¬ (4 : Int) ≤ (m : Int) := by omega
              clear hE hg hm h4
              go_enter Tryz.func27, Tryz.ntmps27
              go_wp2_with (first
                | (go_at_call 58; refine (HN1.out _).mono ?_; rintro _ w9 ⟨rfl, e9⟩; subst w9; clear HN1)
                | (go_at_call 58; refine (HN2.out _).mono ?_; rintro _ w9 ⟨rfl, e9⟩; subst w9; clear HN2)
                | (go_at_call 59; rw [HW.out]; refine HCl.out.mono ?_; rintro _ w9 ⟨i, rfl, hi, e9⟩; subst w9; obtain ⟨j, hj, rfl, hjc⟩ := hix.out i hi; have dj : decide ((j : Int) < 0) = false := (by simp); have dj' : ¬ (j : Int) < 0 := (by omega); obtain ⟨y0, y1, y2, y3⟩ := HX.out W (Below.refl _ _); obtain ⟨b9, eb9, hat⟩ := HRcl.out j hj; rw [hjc] at hat; obtain ⟨d9, d0, d1, d2, d3⟩ := hat W (Below.refl _ _); subst eb9; have jN : (j : Int) < (Ncl : Int) := (by have := HNcl.out; omega); have j0 : (0 : Int) ≤ (j : Int) := (by omega); clear hi hat hjc hj))
              go_quiet (fail)
              clear y0 y1 y2 y3
              obtain ⟨V4, hV4⟩ : ∃ V4, V4 = W.drewN nq := ⟨_, rfl⟩
              have bV4 : Below W.heap.size W V4 := by rw [hV4]; exact below_dN _ _ _
              rw [← hV4]
              obtain ⟨y0, y1, y2, y3⟩ := HX.out V4 bV4
              have BV4 := hid bV4
              clear hV4 bV4 d9 d0 d1 d2 d3
              go_wp2_with (first
                | (go_at_call 61; refine (HCo.out _ BV4.out).mono ?_; rintro _ V6 ⟨i, rfl, hi5, b5⟩; have BV6 := hid (Below.on' BV4.out b5); have d5 : decide (i < 0) = true := (by have h9 := hixA.out i hi5; have : decide ((0 : Int) ≤ i) = false := h9.symm; rw [decide_eq_false_iff_not] at this; simp; omega); have d5' : i < 0 := (by simpa using d5); have HIx := hid (fun k x hk => ixA_all Hok.out hi5 k x hk); obtain ⟨q0, q1, q2, q3⟩ := HX.out V6 BV6.out; clear hi5 b5 y0 y1 y2 y3)
                | (go_at_call 40; refine (HCs.out _ BV6.out).mono ?_; rintro _ V5 ⟨a6, c6, rfl, b6⟩; have BV5 := hid (Below.on' BV6.out b6); clear b6 q0 q1 q2 q3))
              have Hs9 : Hid (s9 = ⟨s.cs, s.al.filter (fun a => !isA t u n a) ++ [(⟨t, u, n, sc⟩ : Co)]⟩) := by
                have h9 := HS9.out
                rw [if_pos he.out] at h9
                exact h9
              obtain ⟨cv5, av5, hr5⟩ := H0.out.below BV5.out
              obtain ⟨aco0, Nco, capco, eav, hNco, hcco, hrco⟩ := hr5.coRow
              have HNco := hid hNco
              have Hcco := hid hcco
              have HRco := hid hrco
              have HBVco := hid (fun (X : World) (hX : Below V5.heap.size V5 X) => hX)
              have HbW := hid (fun (X : World) (hX : Below V5.heap.size V5 X) => Below.on' BV5.out hX)
              have HRA := hid hr5
              have HWV := hid (Below.on' B0.out BV5.out)
              have HgB := hid (Nat.le_trans HB.out HWV.out.size)
              have hNb2 : Nco ≤ 999999999999 := by have := Hl.out.2; omega
              have HnB := hid (show (s.al.filter (fun a => !isA t u n a)).length ≤ 999999999999 from Nat.le_trans (List.length_filter_le _ _) Hl.out.2)
              have He := he
              clear hr5 eav hNco hcco hrco
              go_loopw [7, 8] (fun v i wr => ∃ k : Nat, k ≤ Nco ∧ i = .int .i64 (k : Int) ∧ wr.ownsRow V5.heap.size 59 4 v ((s.al.take k).filter (fun a => !isA t u n a)).length (coCells ((s.al.take k).filter (fun a => !isA t u n a))) ∧ Below V5.heap.size V5 wr) (fun _ i _ => Nco - (intOf i).toNat)
              case atStart => exact ⟨0, Nat.zero_le _, rfl, World.ownsRow_nil _ _ _ _, Below.refl _ _⟩
              case round =>
                obtain ⟨k, hk, rfl, ho, hb⟩ := hrel
                have HO := hid ho
                have HB9 := hid hb
                have hbV := HBVco.out _ hb
                have HbV := hid hbV
                obtain ⟨Vr, hVr⟩ : ∃ Vr, Vr = wr := ⟨_, rfl⟩
                have hcell := Hcco.out wr hbV
                by_cases hlt : k < Nco
                · have g1 : (k : Int) < (Nco : Int) := by omega
                  have g1' : decide ((k : Int) < (Nco : Int)) = true := by simp; omega
                  have g0 : (0 : Int) ≤ (k : Int) := by omega
                  have hkr : k < s.al.length := by have := HNco.out; omega
                  obtain ⟨x, hxk⟩ : ∃ x, s.al[k]? = some x := ⟨_, List.getElem?_eq_getElem hkr⟩
                  have Htk := hid (take_getU hxk)
                  have Htk0 := hid hxk
                  obtain ⟨b9, eb9, hat⟩ := HRco.out k hkr
                  obtain ⟨_, hxe⟩ := List.getElem?_eq_some_iff.1 hxk
                  rw [hxe] at hat
                  obtain ⟨d9, d0, d1, d2, d3⟩ := hat wr hbV
                  have Hlt := hid hlt
                  have hbound : Hid (((s.al.take k).filter (fun a => !isA t u n a)).length ≤ 1000000000000) := by
                    refine Nat.le_trans (List.length_filter_le _ _) (Nat.le_trans (List.length_take_le _ _) ?_)
                    omega
                  subst eb9
                  clear hxk hkr hat hxe hlt hk ho hb hbV hVr hcell
                  obtain ⟨x1, x2, x3, x4⟩ := x
                  dsimp only at d0 d1 d2 d3
                  have Hia := hid (HIx.out k ⟨x1, x2, x3, x4⟩ (by rw [Htk0.out]))
                  cases qa : isA t u n ⟨x1, x2, x3, x4⟩
                  · have qj : ((k : Int) == i) = false := by
                      have h9 := Hia.out
                      rw [qa] at h9
                      have : ¬ (k : Int) = i := of_decide_eq_false h9.symm
                      simpa using this
                    have hf := hid (show (!isA t u n ⟨x1, x2, x3, x4⟩) = true from by rw [qa]; rfl)
                    go_wp2_with (at_builtin; refine app_coL rfl (.tmp 74) (.tmp 82) rfl wr ⟨x1, x2, x3, x4⟩ rfl V5.heap.size u7 _ rfl HO.out rfl (by have := hbound.out; omega) HB9.out.size ?_; intro v5 w5 ho5 hg5; have C5 := hid (HB9.out.trans ((Below.refl _ _).grown hg5 HB9.out.size (fun q hq => (HO.out.lt q hq).1))); have O5 := hid ho5; clear ho5 hg5)
                    go_roundw
                    case rel => exact ⟨k + 1, by have := Hlt.out; omega, by first | rfl | go_num, by rw [filt_keep Htk.out hf.out]; exact O5.out, C5.out⟩
                    case measure => exact measU _ _ _ Hlt.out rfl
                  · have qj : ((k : Int) == i) = true := by
                      have h9 := Hia.out
                      rw [qa] at h9
                      have : (k : Int) = i := of_decide_eq_true h9.symm
                      exfalso; omega
                    exfalso; rw [beq_iff_eq] at qj; omega
                · have e : k = Nco := by omega
                  subst e
                  have g1 : ¬ (k : Int) < (k : Int) := by omega
                  have g1' : decide ((k : Int) < (k : Int)) = false := by simp
                  have hall : s.al.take k = s.al := List.take_of_length_le (by have := HNco.out; omega)
                  have ho' := HO.out
                  rw [hall] at ho'
                  obtain ⟨lco, hlco⟩ : ∃ l, l = s.al.filter (fun a => !isA t u n a) := ⟨_, rfl⟩
                  rw [← hlco] at ho'
                  obtain ⟨nco, hnco⟩ : ∃ n, n = lco.length := ⟨_, rfl⟩
                  rw [← hnco] at ho'
                  obtain ⟨aco, cco, eco⟩ := slice_out ho'
                  subst eco
                  have HLco := hid ho'
                  have Hlco := hid hlco
                  have Hnco := hid hnco
                  have HBco := hid HB9.out
                  have HbVco := hid HbV.out
                  clear ho hb hbV hall ho' hlt hk hlco hnco HO HB9 HbV
                  obtain ⟨wco, hwco⟩ : ∃ w9, w9 = wr := ⟨_, rfl⟩
                  rw [← hwco] at HLco HBco HbVco hcell ⊢
                  clear hwco hVr
                  obtain ⟨y0, y1, y2, y3⟩ := HX.out wco (HbW.out _ HbVco.out)
                  go_wp2_with (at_builtin; refine app_coL rfl (.tmp 85) (.tmp 87) rfl wco ⟨t, u, n, sc⟩ rfl V5.heap.size (.slice aco nco cco) lco rfl (by have h9 := HLco.out; rw [Hnco.out] at h9 ⊢; exact h9) rfl (by have h9 := HnB.out; rw [← Hlco.out] at h9; omega) HBco.out.size ?_; intro v11 w11 ho11 hg11; have B11 := hid (HBco.out.trans ((Below.refl _ _).grown hg11 HBco.out.size (fun q hq => (HLco.out.lt q hq).1))); obtain ⟨a11, m11, e11⟩ := slice_out ho11; obtain ⟨n11, hn11⟩ : ∃ q9, q9 = (lco ++ [(⟨t, u, n, sc⟩ : Co)]).length := ⟨_, rfl⟩; rw [← hn11] at e11; subst e11; have O11 := hid ho11; clear hn11 ho11 hg11; have hrF := HRA.out.below B11.out; have f11 : w11.frozen? ⟨g, 1, none⟩ = false := frozen_of_row _ _ _ _ _ hrF.obj; have c11 := hrF.c1; clear hrF)
                  go_ret
                  obtain ⟨k1, k2⟩ := HRA.out.seta B11.out HgB.out O11.out
                  refine ⟨by rw [He.out]; rfl, (OutJ.of_below HWV.out).trans k2, ?_⟩
                  rw [Hs9.out, ← Hlco.out]
                  exact ⟨_, _, k1⟩
          | some a0 =>
            rw [hg] at hE hixA
            rw [if_neg (fun h9 => by cases h9.1)] at hE
            have he : Hid (E = 0) := hE
            clear hE hg hm
            go_enter Tryz.func27, Tryz.ntmps27
            go_wp2_with (first
              | (go_at_call 58; refine (HN1.out _).mono ?_; rintro _ w9 ⟨rfl, e9⟩; subst w9; clear HN1)
              | (go_at_call 58; refine (HN2.out _).mono ?_; rintro _ w9 ⟨rfl, e9⟩; subst w9; clear HN2)
              | (go_at_call 59; rw [HW.out]; refine HCl.out.mono ?_; rintro _ w9 ⟨i, rfl, hi, e9⟩; subst w9; obtain ⟨j, hj, rfl, hjc⟩ := hix.out i hi; have dj : decide ((j : Int) < 0) = false := (by simp); have dj' : ¬ (j : Int) < 0 := (by omega); obtain ⟨y0, y1, y2, y3⟩ := HX.out W (Below.refl _ _); obtain ⟨b9, eb9, hat⟩ := HRcl.out j hj; rw [hjc] at hat; obtain ⟨d9, d0, d1, d2, d3⟩ := hat W (Below.refl _ _); subst eb9; have jN : (j : Int) < (Ncl : Int) := (by have := HNcl.out; omega); have j0 : (0 : Int) ≤ (j : Int) := (by omega); clear hi hat hjc hj))
            go_quiet (fail)
            clear y0 y1 y2 y3
            obtain ⟨V4, hV4⟩ : ∃ V4, V4 = W.drewN nq := ⟨_, rfl⟩
            have bV4 : Below W.heap.size W V4 := by rw [hV4]; exact below_dN _ _ _
            rw [← hV4]
            obtain ⟨y0, y1, y2, y3⟩ := HX.out V4 bV4
            have BV4 := hid bV4
            clear hV4 bV4 d9 d0 d1 d2 d3
            go_wp2_with (go_at_call 61; refine (HCo.out _ BV4.out).mono ?_; rintro _ V5 ⟨i, rfl, hi5, b5⟩; have BV5 := hid (Below.on' BV4.out b5); have d5 : decide (i < 0) = false := (by have h9 := hixA.out i hi5; have : decide ((0 : Int) ≤ i) = true := h9.symm; rw [decide_eq_true_iff] at this; simp; omega); have d5' : ¬ i < 0 := (by simpa using d5); have HIx := hid (fun k x hk => ixA_all Hok.out hi5 k x hk); clear hi5 b5 y0 y1 y2 y3)
            have Hs9 : Hid (s9 = ⟨s.cs, s.al.filter (fun a => !isA t u n a) ++ [(⟨t, u, n, sc⟩ : Co)]⟩) := by
              have h9 := HS9.out
              rw [if_pos he.out] at h9
              exact h9
            obtain ⟨cv5, av5, hr5⟩ := H0.out.below BV5.out
            obtain ⟨aco0, Nco, capco, eav, hNco, hcco, hrco⟩ := hr5.coRow
            have HNco := hid hNco
            have Hcco := hid hcco
            have HRco := hid hrco
            have HBVco := hid (fun (X : World) (hX : Below V5.heap.size V5 X) => hX)
            have HbW := hid (fun (X : World) (hX : Below V5.heap.size V5 X) => Below.on' BV5.out hX)
            have HRA := hid hr5
            have HWV := hid (Below.on' B0.out BV5.out)
            have HgB := hid (Nat.le_trans HB.out HWV.out.size)
            have hNb2 : Nco ≤ 999999999999 := by have := Hl.out.2; omega
            have HnB := hid (show (s.al.filter (fun a => !isA t u n a)).length ≤ 999999999999 from Nat.le_trans (List.length_filter_le _ _) Hl.out.2)
            have He := he
            clear hr5 eav hNco hcco hrco
            go_loopw [7, 8] (fun v i wr => ∃ k : Nat, k ≤ Nco ∧ i = .int .i64 (k : Int) ∧ wr.ownsRow V5.heap.size 59 4 v ((s.al.take k).filter (fun a => !isA t u n a)).length (coCells ((s.al.take k).filter (fun a => !isA t u n a))) ∧ Below V5.heap.size V5 wr) (fun _ i _ => Nco - (intOf i).toNat)
            case atStart => exact ⟨0, Nat.zero_le _, rfl, World.ownsRow_nil _ _ _ _, Below.refl _ _⟩
            case round =>
              obtain ⟨k, hk, rfl, ho, hb⟩ := hrel
              have HO := hid ho
              have HB9 := hid hb
              have hbV := HBVco.out _ hb
              have HbV := hid hbV
              obtain ⟨Vr, hVr⟩ : ∃ Vr, Vr = wr := ⟨_, rfl⟩
              have hcell := Hcco.out wr hbV
              by_cases hlt : k < Nco
              · have g1 : (k : Int) < (Nco : Int) := by omega
                have g1' : decide ((k : Int) < (Nco : Int)) = true := by simp; omega
                have g0 : (0 : Int) ≤ (k : Int) := by omega
                have hkr : k < s.al.length := by have := HNco.out; omega
                obtain ⟨x, hxk⟩ : ∃ x, s.al[k]? = some x := ⟨_, List.getElem?_eq_getElem hkr⟩
                have Htk := hid (take_getU hxk)
                have Htk0 := hid hxk
                obtain ⟨b9, eb9, hat⟩ := HRco.out k hkr
                obtain ⟨_, hxe⟩ := List.getElem?_eq_some_iff.1 hxk
                rw [hxe] at hat
                obtain ⟨d9, d0, d1, d2, d3⟩ := hat wr hbV
                have Hlt := hid hlt
                have hbound : Hid (((s.al.take k).filter (fun a => !isA t u n a)).length ≤ 1000000000000) := by
                  refine Nat.le_trans (List.length_filter_le _ _) (Nat.le_trans (List.length_take_le _ _) ?_)
                  omega
                subst eb9
                clear hxk hkr hat hxe hlt hk ho hb hbV hVr hcell
                obtain ⟨x1, x2, x3, x4⟩ := x
                dsimp only at d0 d1 d2 d3
                have Hia := hid (HIx.out k ⟨x1, x2, x3, x4⟩ (by rw [Htk0.out]))
                cases qa : isA t u n ⟨x1, x2, x3, x4⟩
                · have qj : ((k : Int) == i) = false := by
                    have h9 := Hia.out
                    rw [qa] at h9
                    have : ¬ (k : Int) = i := of_decide_eq_false h9.symm
                    simpa using this
                  have hf := hid (show (!isA t u n ⟨x1, x2, x3, x4⟩) = true from by rw [qa]; rfl)
                  go_wp2_with (at_builtin; refine app_coL rfl (.tmp 74) (.tmp 82) rfl wr ⟨x1, x2, x3, x4⟩ rfl V5.heap.size u7 _ rfl HO.out rfl (by have := hbound.out; omega) HB9.out.size ?_; intro v5 w5 ho5 hg5; have C5 := hid (HB9.out.trans ((Below.refl _ _).grown hg5 HB9.out.size (fun q hq => (HO.out.lt q hq).1))); have O5 := hid ho5; clear ho5 hg5)
                  go_roundw
                  case rel => exact ⟨k + 1, by have := Hlt.out; omega, by first | rfl | go_num, by rw [filt_keep Htk.out hf.out]; exact O5.out, C5.out⟩
                  case measure => exact measU _ _ _ Hlt.out rfl
                · have qj : ((k : Int) == i) = true := by
                    have h9 := Hia.out
                    rw [qa] at h9
                    have : (k : Int) = i := of_decide_eq_true h9.symm
                    simpa using this
                  have hf := hid (show (!isA t u n ⟨x1, x2, x3, x4⟩) = false from by rw [qa]; rfl)
                  go_wp2
                  go_roundw
                  case rel => exact ⟨k + 1, by have := Hlt.out; omega, by first | rfl | go_num, by rw [filt_skip Htk.out hf.out]; exact HO.out, HB9.out⟩
                  case measure => exact measU _ _ _ Hlt.out rfl
              · have e : k = Nco := by omega
                subst e
                have g1 : ¬ (k : Int) < (k : Int) := by omega
                have g1' : decide ((k : Int) < (k : Int)) = false := by simp
                have hall : s.al.take k = s.al := List.take_of_length_le (by have := HNco.out; omega)
                have ho' := HO.out
                rw [hall] at ho'
                obtain ⟨lco, hlco⟩ : ∃ l, l = s.al.filter (fun a => !isA t u n a) := ⟨_, rfl⟩
                rw [← hlco] at ho'
                obtain ⟨nco, hnco⟩ : ∃ n, n = lco.length := ⟨_, rfl⟩
                rw [← hnco] at ho'
                obtain ⟨aco, cco, eco⟩ := slice_out ho'
                subst eco
                have HLco := hid ho'
                have Hlco := hid hlco
                have Hnco := hid hnco
                have HBco := hid HB9.out
                have HbVco := hid HbV.out
                clear ho hb hbV hall ho' hlt hk hlco hnco HO HB9 HbV
                obtain ⟨wco, hwco⟩ : ∃ w9, w9 = wr := ⟨_, rfl⟩
                rw [← hwco] at HLco HBco HbVco hcell ⊢
                clear hwco hVr
                obtain ⟨y0, y1, y2, y3⟩ := HX.out wco (HbW.out _ HbVco.out)
                go_wp2_with (at_builtin; refine app_coL rfl (.tmp 85) (.tmp 87) rfl wco ⟨t, u, n, sc⟩ rfl V5.heap.size (.slice aco nco cco) lco rfl (by have h9 := HLco.out; rw [Hnco.out] at h9 ⊢; exact h9) rfl (by have h9 := HnB.out; rw [← Hlco.out] at h9; omega) HBco.out.size ?_; intro v11 w11 ho11 hg11; have B11 := hid (HBco.out.trans ((Below.refl _ _).grown hg11 HBco.out.size (fun q hq => (HLco.out.lt q hq).1))); obtain ⟨a11, m11, e11⟩ := slice_out ho11; obtain ⟨n11, hn11⟩ : ∃ q9, q9 = (lco ++ [(⟨t, u, n, sc⟩ : Co)]).length := ⟨_, rfl⟩; rw [← hn11] at e11; subst e11; have O11 := hid ho11; clear hn11 ho11 hg11; have hrF := HRA.out.below B11.out; have f11 : w11.frozen? ⟨g, 1, none⟩ = false := frozen_of_row _ _ _ _ _ hrF.obj; have c11 := hrF.c1; clear hrF)
                go_ret
                obtain ⟨k1, k2⟩ := HRA.out.seta B11.out HgB.out O11.out
                refine ⟨by rw [He.out]; rfl, (OutJ.of_below HWV.out).trans k2, ?_⟩
                rw [Hs9.out, ← Hlco.out]
                exact ⟨_, _, k1⟩
end Go.Proofs.YtlkbojgemcjilaaGreatDoor
