/- Grants: registerError. -/
import Derived.Test.YtlkbojgemcjilaaGreatDoorU7
namespace Go.Proofs.YtlkbojgemcjilaaGreatDoor
open Go.RowKit Go.Maps
set_option linter.unusedVariables false
set_option maxRecDepth 20000
def regE (L : List Reg) (c : Cl) : Nat :=
  if (okN c.t && okN c.n) = false then 8 else if 24 < c.r.size then 6 else if (fC L c.t c.n).isSome = true then 5 else if roomR (L.map (·.c.t)) c.t = false then 24 else 0
structure ClIn (c : Cl) : Prop where
  t : c.t.size ≤ 9223372036854775807
  n : c.n.size ≤ 9223372036854775807
  r : c.r.size ≤ 9223372036854775807
  sc : c.sc ≤ 255
theorem isName_q (t : ByteArray) (w : World) (ht : t.size ≤ 9223372036854775807) : Calls Tryz.prog 72 #[.string t] w fun e w' => e = .returned (.bool (okN t)) ∧ w' = w := isName_any t w (by unfold maxLen; omega)
section
variable {w : World} {B g mc d : Nat} {L : List Reg} {s : GS}
set_option maxHeartbeats 4000000 in
theorem registerError_any (h : SAt w B g mc L s d) (hd : d ≤ 17592186044416) (hl9 : L.length ≤ 100000) (c : Cl) (hc : ClIn c) :
    Calls Tryz.prog 53 #[.pointer (some ⟨g, 0, none⟩), .agg (clC c)] w fun e w' => e = .returned (.int .i64 (regE L c : Nat)) ∧ Below w.heap.size w w' := by
  obtain ⟨W, hW⟩ : ∃ W, W = w.alloc (.cells (clC c) 56) := ⟨_, rfl⟩
  have b0 : Below w.heap.size w W := by rw [hW]; exact (Below.refl _ w).alloc (Nat.le_refl _) _
  have x0 : W.heap[w.heap.size]? = some (.cells (clC c) 56 (0, 0)) := by rw [hW]; exact heap_allocN w _
  have h0 := h.below b0
  have y0 : W.cell? ⟨w.heap.size, 0, none⟩ = some (.string c.t) := (cell_of_rowU _ _ 0 _ _ _ x0).trans rfl
  have y1 : W.cell? ⟨w.heap.size, 1, none⟩ = some (.string c.n) := (cell_of_rowU _ _ 1 _ _ _ x0).trans rfl
  have y2 : W.cell? ⟨w.heap.size, 2, none⟩ = some (.string c.r) := (cell_of_rowU _ _ 2 _ _ _ x0).trans rfl
  have c0 := h0.c0
  have hlk : ∀ q, (Instr.lookup 47 (.map (some mc)) (.agg #[.string c.t, .string c.n]) true).run Tryz.prog (W.drewN q) = .ok (.tuple #[.pointer ((fC L c.t c.n).map fun p => ⟨p.r, 0, none⟩), .bool (fC L c.t c.n).isSome]) (W.drewN q) := fun q => (h0.below (below_dN _ _ q)).look _ _ (by have := hc.t; unfold maxLen; omega) (by have := hc.n; unfold maxLen; omega)
  have HR := hid (fun (q : Nat) => hasRoom_any (h0.below (below_dN W.heap.size W q)) hd c.t (by have := hc.t; unfold maxLen; omega) hl9)
  have HW := hid hW.symm
  have B0 := hid b0
  have HN1 := hid (fun (V : World) => isName_q c.t V hc.t)
  have HN2 := hid (fun (V : World) => isName_q c.n V hc.n)
  have hr9 := hc.r
  have Ht9 := hid (And.intro hc.t hc.n)
  have Y := hid (And.intro y0 (And.intro y1 c0))
  rw [hW] at y0 y1 y2 c0
  unfold clC at HW ⊢
  obtain ⟨E, hE⟩ : ∃ E, E = regE L c := ⟨_, rfl⟩
  rw [← hE]
  unfold regE at hE
  generalize okN c.t = o1 at *
  generalize okN c.n = o2 at *
  generalize (fC L c.t c.n).isSome = o3 at *
  generalize ((fC L c.t c.n).map fun p => (⟨p.r, 0, none⟩ : Addr)) = op at *
  generalize roomR (L.map (·.c.t)) c.t = o4 at *
  have HE := hid hE
  clear h h0 hW b0 x0 hc hE
  obtain ⟨t, n, r, sc⟩ := c
  simp only at *
  have hlk0 := hlk 0
  cases o1
  · go_enter Tryz.func53, Tryz.ntmps53
    go_wp2_with (go_at_call 72; refine (HN1.out _).mono ?_; rintro _ w9 ⟨rfl, e9⟩; subst w9)
    go_ret
    rw [HW.out]
    exact ⟨by rw [HE.out]; rfl, B0.out⟩
  · cases o2
    · go_enter Tryz.func53, Tryz.ntmps53
      go_wp2_with (first
        | (go_at_call 72; refine (HN1.out _).mono ?_; rintro _ w9 ⟨rfl, e9⟩; subst w9; clear HN1)
        | (go_at_call 72; refine (HN2.out _).mono ?_; rintro _ w9 ⟨rfl, e9⟩; subst w9; clear HN2))
      go_ret
      rw [HW.out]
      exact ⟨by rw [HE.out]; rfl, B0.out⟩
    · by_cases hr : 24 < r.size
      · have d1 : decide ((24 : Int) < (r.size : Int)) = true := by simp; omega
        have Hr := hid hr
        clear hr
        go_enter Tryz.func53, Tryz.ntmps53
        go_wp2_with (first
          | (go_at_call 72; refine (HN1.out _).mono ?_; rintro _ w9 ⟨rfl, e9⟩; subst w9; clear HN1)
          | (go_at_call 72; refine (HN2.out _).mono ?_; rintro _ w9 ⟨rfl, e9⟩; subst w9; clear HN2))
        go_ret
        rw [HW.out]
        exact ⟨by rw [HE.out, if_neg (by simp), if_pos Hr.out]; rfl, B0.out⟩
      · have d1 : decide ((24 : Int) < (r.size : Int)) = false := by simp; omega
        have Hr := hid hr
        clear hr
        go_enter Tryz.func53, Tryz.ntmps53
        go_wp2_with (first
          | (go_at_call 72; refine (HN1.out _).mono ?_; rintro _ w9 ⟨rfl, e9⟩; subst w9; clear HN1)
          | (go_at_call 72; refine (HN2.out _).mono ?_; rintro _ w9 ⟨rfl, e9⟩; subst w9; clear HN2))
        rw [HW.out]
        obtain ⟨v0, v1, v2⟩ := Y.out
        clear y0 y1 y2 c0
        cases o3
        · go_quiet (fail)
          cases o4
          · have hE9 : Hid (E = 24) := hid (by rw [HE.out]; simp [Hr.out])
            go_wp2_with (go_at_call 73; refine (HR.out _).mono ?_; rintro _ w1 ⟨rfl, b1⟩)
            go_ret
            exact ⟨by rw [hE9.out]; rfl, Below.on' (B0.out.trans (below_dN _ _ _)) b1⟩
          · have hE9 : Hid (E = 0) := hid (by rw [HE.out]; simp [Hr.out])
            go_wp2_with (go_at_call 73; refine (HR.out _).mono ?_; rintro _ w1 ⟨rfl, b1⟩)
            go_ret
            exact ⟨by rw [hE9.out]; rfl, Below.on' (B0.out.trans (below_dN _ _ _)) b1⟩
        · have hE9 : Hid (E = 5) := hid (by rw [HE.out]; simp [Hr.out])
          go_quiet (fail)
          go_wp2
          go_ret
          exact ⟨by rw [hE9.out]; rfl, B0.out.trans (below_dN _ _ _)⟩
end
end Go.Proofs.YtlkbojgemcjilaaGreatDoor
