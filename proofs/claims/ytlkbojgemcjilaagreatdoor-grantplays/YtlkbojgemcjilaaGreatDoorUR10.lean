/- Grants: the reference's May. -/
import Derived.Test.YtlkbojgemcjilaaGreatDoorUR9
import Derived.Deep.RegionHeld3
namespace Go.Proofs.YtlkbojgemcjilaaGreatDoor
open Go.RowKit Go.Maps Go.Shelf Go.Sort Go.Lib
set_option linter.unusedVariables false
set_option maxRecDepth 20000
set_option maxHeartbeats 16000000 in
theorem rmay_any {w : World} {B g : Nat} {s : GS} (h : RG w B g s) (hok : s.Ok) (hl : s.cs.length ≤ 1000000000000) (hl2 : s.al.length ≤ 1000000000000) (t u n r : ByteArray) (sc : Nat) (hsc : sc ≤ 255) :
    Calls Tryz.prog 32 #[.pointer (some ⟨g, 0, none⟩), .agg #[.string t, .string u], .string n, .string r, .int .u8 (sc : Int)] w fun e w' => e = .returned (.int .i64 (mayRs s t u n r sc : Nat)) ∧ Below w.heap.size w w' := by
  obtain ⟨W, hW⟩ : ∃ W, W = w.alloc (.cells #[.string t, .string u] 30) := ⟨_, rfl⟩
  have b0 : Below w.heap.size w W := by rw [hW]; exact (Below.refl _ w).alloc (Nat.le_refl _) _
  have x0 : W.heap[w.heap.size]? = some (.cells #[.string t, .string u] 30 (0, 0)) := by rw [hW]; exact heap_allocN w _
  have h0 := h.below b0
  have HX := hid (fun (V : World) (hV : Below W.heap.size W V) => (show V.cell? ⟨w.heap.size, 0, none⟩ = some (.string t) ∧ V.cell? ⟨w.heap.size, 1, none⟩ = some (.string u) from by
    have x9 := (hV.block _ (heap_lt x0)).trans x0
    exact ⟨(cell_of_rowU _ _ 0 _ _ _ x9).trans rfl, (cell_of_rowU _ _ 1 _ _ _ x9).trans rfl⟩))
  have HCl := hid (fun (V : World) (hV : Below W.heap.size W V) => rclient_any (h0.below hV) (by omega) t n)
  have HCo := hid (fun (V : World) (hV : Below W.heap.size W V) => rconsent_any (h0.below hV) (by omega) t u n)
  have HW := hid hW.symm
  have B0 := hid b0
  obtain ⟨cv, av, hr⟩ := h0
  have HR := hid hr
  obtain ⟨acl0, Ncl, capcl, ecv, hNcl, hccl, hrcl⟩ := hr.clRow
  obtain ⟨aco0, Nco, capco, eav, hNco, hcco, hrco⟩ := hr.coRow
  have HNcl := hid hNcl
  have HRcl := hid hrcl
  have HNco := hid hNco
  have HRco := hid hrco
  have hNb1 : Ncl ≤ 1000000000000 := by omega
  have hNb2 : Nco ≤ 1000000000000 := by omega
  have hsz : W.heap.size = w.heap.size + 1 := by rw [hW]; simp
  have z : Hid (W.drew.cell? ⟨w.heap.size, 0, none⟩ = some (.string t) ∧ W.drew.cell? ⟨w.heap.size, 1, none⟩ = some (.string u)) := HX.out W.drew (below_dN _ W 1)
  have BZ : Hid (Below W.heap.size W W.drew) := below_dN _ W 1
  obtain ⟨E, hE⟩ : ∃ E, E = mayRs s t u n r sc := ⟨_, rfl⟩
  rw [← hE]
  unfold mayRs at hE
  have Hok := hid hok
  clear h b0 x0 hW hr ecv eav hNcl hccl hrcl hNco hcco hrco hl hl2 hok hsz
  have hcase : Hid ((findC s t n = none ∨ fA s t u n = none) ∧ E = 4 ∨ ∃ c a, findC s t n = some c ∧ fA s t u n = some a ∧ E = (if r = c.r then (if nar sc a.sc then 0 else 14) else 10)) := by
    show _ ∨ _
    cases hc : findC s t n with
    | none => rw [hc] at hE; exact .inl ⟨.inl rfl, hE⟩
    | some c =>
      cases ha : fA s t u n with
      | none => rw [hc, ha] at hE; exact .inl ⟨.inr rfl, hE⟩
      | some a => rw [hc, ha] at hE; exact .inr ⟨c, a, rfl, rfl, hE⟩
  clear hE
  go_enter Tryz.func32, Tryz.ntmps32
  go_wp2
  rw [HW.out]
  go_region_held3 (fun w9 => w9.cell? ⟨w.heap.size, 0, none⟩ = some (.string t) ∧ w9.cell? ⟨w.heap.size, 1, none⟩ = some (.string u))
    (exact z.out)
    (first
      | (go_at_call 59; refine (HCl.out _ (by exact BZ.out)).mono ?_; rintro _ w3 ⟨ii, rfl, hi, e3⟩; subst w3; have HI := hid hi; clear hi HCl)
      | (go_at_call 61; refine (HCo.out _ (by exact BZ.out)).mono ?_; rintro _ w4 ⟨jj, rfl, hj, b4⟩; have HJ := hid hj; have BZ := hid (Below.on' BZ.out b4); have z := hid (HX.out _ BZ.out); clear hj b4 HCo))
  have hI := ixC_none HI.out
  have hJ := ixA_some HJ.out
  rcases hcase.out with ⟨h1, hE⟩ | ⟨c, a, hc, ha, hE⟩
  · have he := hid hE
    by_cases hi0 : ii < 0
    · have d1 : decide (ii < 0) = true := by simpa using hi0
      clear hI hJ h1 hE
      go_wp2
      go_ret
      exact ⟨by rw [he.out]; rfl, B0.out.trans (BZ.out.mono B0.out.size)⟩
    · have hj0 : jj < 0 := by
        rcases h1 with h1 | h1
        · rw [h1] at hI
          have : decide ((0 : Int) ≤ ii) = false := hI.symm
          rw [decide_eq_false_iff_not] at this
          omega
        · rw [h1] at hJ
          have : decide ((0 : Int) ≤ jj) = false := hJ.symm
          rw [decide_eq_false_iff_not] at this
          omega
      have d1 : decide (ii < 0) = false := by simpa using hi0
      have d2 : decide (jj < 0) = true := by simpa using hj0
      clear hI hJ h1 hE
      go_wp2
      go_ret
      exact ⟨by rw [he.out]; rfl, B0.out.trans (BZ.out.mono B0.out.size)⟩
  · obtain ⟨k, hk, rfl, hck⟩ : ∃ k, ∃ hk : k < s.cs.length, ii = (k : Int) ∧ s.cs[k] = c := by
      rcases HI.out with ⟨_, h9⟩ | ⟨k, hk, e, h9⟩
      · rw [hc] at h9; cases h9
      · rw [hc] at h9; exact ⟨k, hk, e, (Option.some.inj h9).symm⟩
    obtain ⟨l, hl, rfl, hal⟩ : ∃ k, ∃ hk : k < s.al.length, jj = (k : Int) ∧ s.al[k] = a := by
      rcases HJ.out with ⟨_, h9⟩ | ⟨k, hk, e, h9⟩
      · rw [ha] at h9; cases h9
      · rw [ha] at h9; exact ⟨k, hk, e, (Option.some.inj h9).symm⟩
    have hasc := (Hok.out.anames a (fA_some ha).1).2.2.1
    have he := hid hE
    have d1 : decide ((k : Int) < 0) = false := by simp
    have d1' : ¬ (k : Int) < 0 := by omega
    have d2 : decide ((l : Int) < 0) = false := by simp
    have d2' : ¬ (l : Int) < 0 := by omega
    have kN : (k : Int) < (Ncl : Int) := by have := HNcl.out; omega
    have lN : (l : Int) < (Nco : Int) := by have := HNco.out; omega
    have k0 : (0 : Int) ≤ (k : Int) := by omega
    have l0 : (0 : Int) ≤ (l : Int) := by omega
    obtain ⟨b1, eb1, hat1⟩ := HRcl.out k hk
    obtain ⟨b2, eb2, hat2⟩ := HRco.out l hl
    rw [hck] at hat1
    rw [hal] at hat2
    obtain ⟨p9, p0, p1, p2, p3⟩ := hat1 _ BZ.out
    obtain ⟨q9, q0, q1, q2, q3⟩ := hat2 _ BZ.out
    subst eb1 eb2
    obtain ⟨cr, hcr⟩ : ∃ cr, cr = c.r := ⟨_, rfl⟩
    obtain ⟨asc, hasc9⟩ : ∃ asc, asc = a.sc := ⟨_, rfl⟩
    rw [← hcr] at p2 he
    rw [← hasc9] at q3 he hasc
    obtain ⟨z9, hz9⟩ : ∃ z9, z9 = sc &&& asc := ⟨_, rfl⟩
    have hbz : bits BinOp.and IntKind.u8 (sc : Int) (asc : Int) = (z9 : Int) := by rw [hz9]; exact and_bits _ _ (by omega) (by omega)
    have Hz9 := hid hz9
    clear hI hJ hE hc ha hat1 hat2 hck hal hcr hasc9 hz9 p0 p1 p3 q0 q1 q2 hk hl hcase
    cases e1 : (cr.toList == r.toList)
    · have he9 : Hid (E = 10) := by
        show E = 10
        rw [he.out, if_neg (fun e => by rw [e] at e1; simp at e1)]
      go_wp2
      go_ret
      exact ⟨by rw [he9.out]; rfl, B0.out.trans (BZ.out.mono B0.out.size)⟩
    · have hrr : r = cr := ((str_eqU _ _).2 (by simpa using e1)).symm
      have he8 : Hid (E = if nar sc asc then 0 else 14) := by
        show E = _
        rw [he.out, if_pos hrr]
      clear hrr
      cases hn : nar sc asc
      · have he9 : Hid (E = 14) := by
          show E = 14
          rw [he8.out, hn]; rfl
        have hne : ((z9 : Int) == (sc : Int)) = false := by
          have h9 : ¬ sc &&& asc = sc := of_decide_eq_false hn
          rw [← Hz9.out] at h9
          rw [beq_eq_false_iff_ne]
          omega
        clear hn
        go_wp2
        go_ret
        exact ⟨by rw [he9.out]; rfl, B0.out.trans (BZ.out.mono B0.out.size)⟩
      · have he9 : Hid (E = 0) := by
          show E = 0
          rw [he8.out, hn]; rfl
        have hzs : z9 = sc := by rw [Hz9.out]; exact of_decide_eq_true hn
        rw [hzs] at hbz
        clear hn hzs Hz9
        go_wp2
        go_ret
        exact ⟨by rw [he9.out]; rfl, B0.out.trans (BZ.out.mono B0.out.size)⟩
end Go.Proofs.YtlkbojgemcjilaaGreatDoor
