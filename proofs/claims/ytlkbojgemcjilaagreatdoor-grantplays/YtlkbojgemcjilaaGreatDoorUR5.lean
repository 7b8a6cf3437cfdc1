/- Grants: the reference's Register. -/
import Derived.Test.YtlkbojgemcjilaaGreatDoorUR4
namespace Go.Proofs.YtlkbojgemcjilaaGreatDoor
open Go.RowKit Go.Maps Go.Shelf Go.Sort Go.Lib
set_option linter.unusedVariables false
set_option maxRecDepth 20000
section
variable {w w5 : World} {B g : Nat} {s : GS} {cv av : Value}
theorem own_setG {w : World} {B n sz : Nat} {e : TypeId} {v : Value} {xs : List Value} (h : w.ownsRow B e sz v n xs) {g i : Nat} {x : Value} {cs : Array Value} (hg : w.heap[g]? = some (.cells cs 53 (0, 0))) (he : e ≠ 53) : (w.setCell ⟨g, i, none⟩ x).ownsRow B e sz v n xs := by
  refine ⟨h.1, ?_⟩
  rcases h.2 with h0 | ⟨g2, cap, cur, e1, hb, hg2, rest⟩
  · exact .inl h0
  · refine .inr ⟨g2, cap, cur, e1, hb, (heap_setCell_other _ _ _ _ (fun e9 => ?_)).trans hg2, rest⟩
    have e9' : g2 = g := e9
    rw [e9', hg] at hg2
    cases hg2
    exact he rfl
theorem RGA.setc (h : RGA w B g s cv av) (hb : Below w.heap.size w w5) {B' : Nat} (hB : B ≤ B') {v : Value} {l : List Cl} (hv : w5.ownsRow B' 56 4 v l.length (clCells l)) : RGA (w5.setCell ⟨g, 0, none⟩ v) B g ⟨l, s.al⟩ v av ∧ OutJ (fun k => k = g) w (w5.setCell ⟨g, 0, none⟩ v) := by
  have h5 := h.below hb
  refine ⟨⟨by rw [heap_setCell_same _ _ _ _ _ _ h5.obj]; rfl, own_setG (own_baseU hv hB) h5.obj (by decide), own_setG h5.al h5.obj (by decide), h.bg⟩, (OutJ.of_below hb).trans (OutJ.setCell _ _ _ rfl)⟩
theorem RGA.seta (h : RGA w B g s cv av) (hb : Below w.heap.size w w5) {B' : Nat} (hB : B ≤ B') {v : Value} {l : List Co} (hv : w5.ownsRow B' 59 4 v l.length (coCells l)) : RGA (w5.setCell ⟨g, 1, none⟩ v) B g ⟨s.cs, l⟩ cv v ∧ OutJ (fun k => k = g) w (w5.setCell ⟨g, 1, none⟩ v) := by
  have h5 := h.below hb
  refine ⟨⟨by rw [heap_setCell_same _ _ _ _ _ _ h5.obj]; rfl, own_setG h5.cs h5.obj (by decide), own_setG (own_baseU hv hB) h5.obj (by decide), h.bg⟩, (OutJ.of_below hb).trans (OutJ.setCell _ _ _ rfl)⟩
theorem srcCl_of {v : Value} {l : List Cl} (h : w.ownsRow B 56 4 v l.length (clCells l)) : SrcCl w v l := by
  have h' := h
  rcases h.2 with ⟨e, h1⟩ | ⟨g, cap, cur, e, _⟩
  · exact .inl ⟨e, List.eq_nil_of_length_eq_zero h1⟩
  · rw [e] at h'
    exact .inr ⟨g, 0, cap, e, fun j u hj => by rw [Nat.zero_add]; exact srcCl_cells h' j u hj⟩
theorem srcCo_of {v : Value} {l : List Co} (h : w.ownsRow B 59 4 v l.length (coCells l)) : SrcCo w v l := by
  have h' := h
  rcases h.2 with ⟨e, h1⟩ | ⟨g, cap, cur, e, _⟩
  · exact .inl ⟨e, List.eq_nil_of_length_eq_zero h1⟩
  · rw [e] at h'
    exact .inr ⟨g, 0, cap, e, fun j u hj => by rw [Nat.zero_add]; exact srcCo_cells h' j u hj⟩
theorem ixC_none {s : GS} {t n : ByteArray} {i : Int} (h : IxC s t n i) : (findC s t n).isSome = decide (0 ≤ i) := by
  rcases h with ⟨rfl, h⟩ | ⟨k, hk, rfl, h⟩
  · rw [h]; rfl
  · rw [h, decide_eq_true (by omega)]; rfl
theorem rIsName_q (t : ByteArray) (w : World) (ht : t.size ≤ 9223372036854775807) : Calls Tryz.prog 58 #[.string t] w fun e w' => e = .returned (.bool (okN t)) ∧ w' = w := refIsName_any t w (by unfold maxLen; omega)
set_option maxHeartbeats 16000000 in
theorem rregister_any (h : RG w B g s) (hB : B ≤ w.heap.size) (hl : s.cs.length ≤ 1000000000000) (c : Cl) (hc : ClIn c) :
    Calls Tryz.prog 23 #[.pointer (some ⟨g, 0, none⟩), .agg (clC c)] w fun e w' => e = .returned (.int .i64 (regEs s c : Nat)) ∧ OutJ (fun k => k = g) w w' ∧ RG w' B g (s.reg c) := by
  obtain ⟨W, hW⟩ : ∃ W, W = w.alloc (.cells (clC c) 56) := ⟨_, rfl⟩
  have b0 : Below w.heap.size w W := by rw [hW]; exact (Below.refl _ w).alloc (Nat.le_refl _) _
  have x0 : W.heap[w.heap.size]? = some (.cells (clC c) 56 (0, 0)) := by rw [hW]; exact heap_allocN w _
  have h0 := h.below b0
  have HX := hid (fun (V : World) (hV : Below W.heap.size W V) => (show V.cell? ⟨w.heap.size, 0, none⟩ = some (.string c.t) ∧ V.cell? ⟨w.heap.size, 1, none⟩ = some (.string c.n) ∧ V.cell? ⟨w.heap.size, 2, none⟩ = some (.string c.r) ∧ V.cell? ⟨w.heap.size, 3, none⟩ = some (.int .u8 (c.sc : Int)) from by
    have x9 := (hV.block _ (heap_lt x0)).trans x0
    exact ⟨(cell_of_rowU _ _ 0 _ _ _ x9).trans rfl, (cell_of_rowU _ _ 1 _ _ _ x9).trans rfl, (cell_of_rowU _ _ 2 _ _ _ x9).trans rfl, (cell_of_rowU _ _ 3 _ _ _ x9).trans rfl⟩))
  obtain ⟨y0, y1, y2, y3⟩ := HX.out W (Below.refl _ _)
  have HCl := hid (rclient_any h0 (by omega) c.t c.n)
  have HF := hid (rfull_any h0 hl c.t)
  have HN1 := hid (fun (V : World) => rIsName_q c.t V hc.t)
  have HN2 := hid (fun (V : World) => rIsName_q c.n V hc.n)
  have HW : Hid (w.alloc (.cells (clC c) 56) = W) := hid hW.symm
  have B0 := hid b0
  have H0 := hid h0
  have HB := hid hB
  have Hl := hid hl
  have hr9 := hc.r
  obtain ⟨E, hE⟩ : ∃ E, E = regEs s c := ⟨_, rfl⟩
  obtain ⟨s9, hs9⟩ : ∃ s9, s9 = s.reg c := ⟨_, rfl⟩
  rw [← hE, ← hs9]
  unfold GS.reg at hs9
  rw [← hE] at hs9
  unfold regEs at hE
  have HE := hid hE
  have HS9 := hid hs9
  have hbad : Hid (¬ E = 0 → ∀ V, Below w.heap.size w V → RG V B g s9) := fun he V hV => by
    have h9 := HS9.out
    rw [if_neg he] at h9
    rw [h9]
    exact h.below hV
  clear h h0 b0 x0 hB hl hE hs9
  unfold clC at HW ⊢
  rw [hW] at y0 y1 y2 y3
  unfold clC at y0 y1 y2 y3
  clear hW hc
  have hend : ∀ e9 : Nat, E = e9 → ¬ e9 = 0 → ∀ V : World, Below w.heap.size w V → Ending.returned (Value.int .i64 (e9 : Int)) = Ending.returned (Value.int .i64 (E : Int)) ∧ OutJ (fun k => k = g) w V ∧ RG V B g s9 := fun e9 he hn V hV => ⟨by rw [he], OutJ.of_below hV, hbad.out (by rw [he]; exact hn) V hV⟩
  have Hend := hid hend
  clear hend hbad
  cases o1 : okN c.t
  · rw [o1] at HN1
    have he : Hid (E = 8) := by show E = 8; rw [HE.out, o1]; rfl
    go_enter Tryz.func23, Tryz.ntmps23
    go_wp2_with (go_at_call 58; refine (HN1.out _).mono ?_; rintro _ w9 ⟨rfl, e9⟩; subst w9)
    go_ret
    rw [HW.out]
    exact Hend.out 8 he.out (by decide) W B0.out
  · cases o2 : okN c.n
    · rw [o1] at HN1
      rw [o2] at HN2
      have he : Hid (E = 8) := by show E = 8; rw [HE.out, o1, o2]; rfl
      go_enter Tryz.func23, Tryz.ntmps23
      go_wp2_with (first
        | (go_at_call 58; refine (HN1.out _).mono ?_; rintro _ w9 ⟨rfl, e9⟩; subst w9; clear HN1)
        | (go_at_call 58; refine (HN2.out _).mono ?_; rintro _ w9 ⟨rfl, e9⟩; subst w9; clear HN2))
      go_ret
      rw [HW.out]
      exact Hend.out 8 he.out (by decide) W B0.out
    · rw [o1] at HN1
      rw [o2] at HN2
      have hE1 := HE.out
      rw [o1, o2, if_neg (by decide)] at hE1
      by_cases hr : 24 < c.r.size
      · have d1 : decide ((24 : Int) < (c.r.size : Int)) = true := by simp; omega
        rw [if_pos hr] at hE1
        have he := hid hE1
        clear hr hE1
        go_enter Tryz.func23, Tryz.ntmps23
        go_wp2_with (first
          | (go_at_call 58; refine (HN1.out _).mono ?_; rintro _ w9 ⟨rfl, e9⟩; subst w9; clear HN1)
          | (go_at_call 58; refine (HN2.out _).mono ?_; rintro _ w9 ⟨rfl, e9⟩; subst w9; clear HN2))
        go_ret
        rw [HW.out]
        exact Hend.out 6 he.out (by decide) W B0.out
      · have d1 : decide ((24 : Int) < (c.r.size : Int)) = false := by simp; omega
        rw [if_neg hr] at hE1
        clear hr
        cases hf : (findC s c.t c.n).isSome
        · rw [hf, if_neg (by decide)] at hE1
          have hix : Hid (∀ i, IxC s c.t c.n i → decide ((0 : Int) ≤ i) = false) := fun i hi => by rw [← ixC_none hi, hf]
          cases hroom : roomR (s.cs.map (·.t)) c.t
          · rw [hroom, if_pos rfl] at hE1
            rw [hroom] at HF
            have he := hid hE1
            clear hE1
            go_enter Tryz.func23, Tryz.ntmps23
            go_wp2_with (first
              | (go_at_call 58; refine (HN1.out _).mono ?_; rintro _ w9 ⟨rfl, e9⟩; subst w9; clear HN1)
              | (go_at_call 58; refine (HN2.out _).mono ?_; rintro _ w9 ⟨rfl, e9⟩; subst w9; clear HN2)
              | (go_at_call 59; rw [HW.out]; refine HCl.out.mono ?_; rintro _ w9 ⟨i, rfl, hi, e9⟩; subst w9; have di := hix.out i hi; obtain ⟨z0, z1, z2, z3⟩ := HX.out W (Below.refl _ _); clear hi)
              | (go_at_call 60; refine HF.out.mono ?_; rintro _ w9 ⟨rfl, b9⟩; have B9 := hid (Below.on' B0.out b9); clear b9))
            go_ret
            exact Hend.out 24 he.out (by decide) w9 B9.out
          · rw [hroom, if_neg (by decide)] at hE1
            rw [hroom] at HF
            have hs10 : Hid (s9 = s.addC c) := by
              have h9 := HS9.out
              rw [if_pos hE1] at h9
              exact h9
            have he := hid hE1
            clear hE1
            go_enter Tryz.func23, Tryz.ntmps23
            go_wp2_with (first
              | (go_at_call 58; refine (HN1.out _).mono ?_; rintro _ w9 ⟨rfl, e9⟩; subst w9; clear HN1)
              | (go_at_call 58; refine (HN2.out _).mono ?_; rintro _ w9 ⟨rfl, e9⟩; subst w9; clear HN2)
              | (go_at_call 59; rw [HW.out]; refine HCl.out.mono ?_; rintro _ w9 ⟨i, rfl, hi, e9⟩; subst w9; have di := hix.out i hi; obtain ⟨z0, z1, z2, z3⟩ := HX.out W (Below.refl _ _); clear hi)
              | (go_at_call 60; refine HF.out.mono ?_; rintro _ w9 ⟨rfl, b9⟩; have B9 := hid b9; obtain ⟨cv, av, hr9'⟩ := H0.out.below b9; have HR9 := hid hr9'; have c9 := hr9'.c0; clear b9 hr9' z0 z1 z2 z3)
              | (at_builtin; refine app_clL rfl (.tmp 45) (.tmp 47) rfl w10 c rfl w9.heap.size v10 s.cs rfl O10.out rfl (by have := Hl.out; omega) B10.out.size ?_; intro v11 w11 ho11 hg11; have B11 := hid (B10.out.trans ((Below.refl _ _).grown hg11 B10.out.size (fun q hq => (O10.out.lt q hq).1))); obtain ⟨n11, hn11⟩ : ∃ n, n = (s.cs ++ [c]).length := ⟨_, rfl⟩; rw [← hn11] at ho11; obtain ⟨g11, m11, rfl⟩ := own_someU ho11 (by rw [hn11]; simp); have O11 := hid ho11; have HN11 := hid hn11; clear hn11; have c11 := (HR9.out.below B11.out).c0; have f11 : w11.frozen? ⟨g, 0, none⟩ = false := frozen_of_row _ _ _ _ _ (HR9.out.below B11.out).obj; clear ho11 hg11)
              | (at_builtin; refine app_clS rfl (.tmp 38) (.tmp 42) rfl w9.heap.size (.slice none 0 0) [] rfl (World.ownsRow_nil _ _ _ _) _ s.cs rfl (srcCl_of HR9.out.cs) (by have := Hl.out; simp; omega) (Nat.le_refl _) ?_; intro v10 w10 ho10 hg10; have B10 := hid ((Below.refl w9.heap.size w9).grown hg10 (Nat.le_refl _) (fun q hq => by cases hq)); have O10 : Hid (w10.ownsRow w9.heap.size 56 4 v10 s.cs.length (clCells s.cs)) := ho10; obtain ⟨z0, z1, z2, z3⟩ := HX.out w10 (Below.on' B9.out B10.out); have c10 := (HR9.out.below B10.out).c0; clear ho10 hg10 c9))
            go_ret
            have O12 := O11.out
            rw [HN11.out] at O12
            obtain ⟨k1, k2⟩ := HR9.out.setc B11.out (Nat.le_trans HB.out (Nat.le_trans B0.out.size B9.out.size)) O12
            rw [← HN11.out] at k1 k2
            exact ⟨by rw [he.out]; rfl, (OutJ.of_below (Below.on' B0.out B9.out)).trans k2, by rw [hs10.out]; exact ⟨_, _, k1⟩⟩
        · rw [hf, if_pos rfl] at hE1
          have he := hid hE1
          have hix : Hid (∀ i, IxC s c.t c.n i → decide ((0 : Int) ≤ i) = true) := fun i hi => by rw [← ixC_none hi, hf]
          clear hE1
          go_enter Tryz.func23, Tryz.ntmps23
          go_wp2_with (first
            | (go_at_call 58; refine (HN1.out _).mono ?_; rintro _ w9 ⟨rfl, e9⟩; subst w9; clear HN1)
            | (go_at_call 58; refine (HN2.out _).mono ?_; rintro _ w9 ⟨rfl, e9⟩; subst w9; clear HN2)
            | (go_at_call 59; rw [HW.out]; refine HCl.out.mono ?_; rintro _ w9 ⟨i, rfl, hi, e9⟩; subst w9; have di := hix.out i hi; clear hi))
          go_ret
          exact Hend.out 5 he.out (by decide) _ B0.out
end
end Go.Proofs.YtlkbojgemcjilaaGreatDoor
