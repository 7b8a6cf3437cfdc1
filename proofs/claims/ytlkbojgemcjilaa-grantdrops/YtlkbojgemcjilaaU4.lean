/- Grants: what is narrower, owners, May, Client, Consent. -/
import Derived.Test.YtlkbojgemcjilaaU3
import Derived.Test.YtlkbojgemcjilaaUBits
namespace Go.Proofs.Ytlkbojgemcjilaa
open Go.RowKit Go.Maps
set_option linter.unusedVariables false
set_option maxRecDepth 20000
def nar (a b : Nat) : Bool := decide (a &&& b = a)
set_option maxHeartbeats 800000 in
theorem isNarrower_any (a b : Nat) (ha : a ≤ 255) (hb : b ≤ 255) (w : World) :
    Calls Try.prog 30 #[.int .u8 (a : Int), .int .u8 (b : Int)] w fun e w' => e = .returned (.bool (nar a b)) ∧ w' = w := by
  have H9 : Hid ((bits BinOp.andNot IntKind.u8 (a : Int) (b : Int) == 0) = nar a b) := narrow_bits a (by omega) b (by omega)
  go_enter Try.func30, Try.ntmps30
  go_wp2
  rw [H9.out]
  go_ret
  exact ⟨rfl, rfl⟩
set_option maxHeartbeats 800000 in
theorem isOwner_any (t u : ByteArray) (w : World) (ht : t.size ≤ maxLen) (hu : u.size ≤ maxLen) :
    Calls Try.prog 32 #[.agg #[.string t, .string u]] w fun e w' => e = .returned (.bool (okN t && okN u)) ∧ Below w.heap.size w w' := by
  unfold okN
  cases hx : nameB t.data.toList
  · go_enter Try.func32, Try.ntmps32
    go_wp2_with (go_at_call 41; refine (isName_any _ _ (by assumption)).mono ?_; rintro e w1 ⟨rfl, rfl⟩)
    go_ret
    exact ⟨rfl, (Below.refl _ _).alloc (Nat.le_refl _) _⟩
  · cases hy : nameB u.data.toList
    all_goals
      go_enter Try.func32, Try.ntmps32
      go_wp2_with (go_at_call 41; refine (isName_any _ _ (by assumption)).mono ?_; rintro e w1 ⟨rfl, rfl⟩)
      go_ret
      exact ⟨rfl, (Below.refl _ _).alloc (Nat.le_refl _) _⟩
/-- May -/
def mayR (L : List Reg) (s : GS) (t u n r : ByteArray) (sc : Nat) : Nat := match fB L s t u n with
  | none => 4
  | some q => if r = q.1.c.r then (if nar sc q.2.sc then 0 else 14) else 10
section
variable {w : World} {B g mc d : Nat} {L : List Reg} {s : GS}
theorem fB_some {t u n : ByteArray} {q : Reg × Co} (h : fB L s t u n = some q) : q.1 ∈ L ∧ q.1.c.t = t ∧ q.1.c.n = n ∧ q.2 ∈ s.al ∧ q.2.t = t ∧ q.2.u = u ∧ q.2.n = n := by
  unfold fB at h
  cases hc : fC L t n with
  | none => rw [hc] at h; cases h
  | some p =>
    rw [hc] at h
    simp only [Option.bind_some] at h
    cases ha : fA s t u n with
    | none => rw [ha] at h; cases h
    | some a =>
      rw [ha] at h
      obtain rfl := Option.some.inj h
      obtain ⟨h1, h2, h3⟩ := fC_some hc
      have h4 : a.t = t ∧ a.u = u ∧ a.n = n := by
        have h9 := List.find?_some ha
        unfold isA at h9
        exact of_decide_eq_true h9
      exact ⟨h1, h2, h3, List.mem_of_find?_eq_some ha, h4.1, h4.2.1, h4.2.2⟩
set_option maxHeartbeats 2000000 in
theorem may_any (h : SAt w B g mc L s d) (t u n r : ByteArray) (sc : Nat) (ht : t.size ≤ maxLen) (hu : u.size ≤ maxLen) (hn : n.size ≤ maxLen) (hsc : sc ≤ 255) :
    Calls Try.prog 12 #[.pointer (some ⟨g, 0, none⟩), .agg #[.string t, .string u], .string n, .string r, .int .u8 (sc : Int)] w fun e w' => e = .returned (.int .i64 (mayR L s t u n r sc : Nat)) ∧ Below w.heap.size w w' := by
  obtain ⟨W, hW⟩ : ∃ W, W = w.alloc (.cells #[.string t, .string u] 24) := ⟨_, rfl⟩
  have b0 : Below w.heap.size w W := by rw [hW]; exact (Below.refl _ w).alloc (Nat.le_refl _) _
  have x0 : W.heap[w.heap.size]? = some (.cells #[.string t, .string u] 24 (0, 0)) := by rw [hW]; exact heap_allocN w _
  have o0 : W.cell? ⟨w.heap.size, 0, none⟩ = some (.string t) := (cell_of_rowU _ _ 0 _ _ _ x0).trans rfl
  have o1 : W.cell? ⟨w.heap.size, 1, none⟩ = some (.string u) := (cell_of_rowU _ _ 1 _ _ _ x0).trans rfl
  have h0 := h.below b0
  have HF := hid (findConsent_any h0 t u n ht hu hn)
  have HW := hid hW.symm
  have B0 := hid b0
  rw [hW] at o0 o1
  unfold mayR
  cases hf : fB L s t u n with
  | none =>
    rw [hf] at HF
    clear h h0 hW b0 x0 hf
    go_enter Try.func12, Try.ntmps12
    go_wp2_with (go_at_call 28; rw [HW.out]; refine HF.out.mono ?_; rintro _ w1 ⟨rfl, b1⟩; have B1 := hid (Below.on' B0.out b1); clear b1; unfold noneE; simp only [Option.isSome_none, Bool.false_eq_true, if_false])
    go_ret
    exact ⟨rfl, B1.out⟩
  | some q =>
    rw [hf] at HF
    obtain ⟨hp, _, _, ha, _⟩ := fB_some hf
    have hr := hid (fun (V : World) (hV : Below W.heap.size W V) => ((h0.regs q.1 hp).below hV).c.1)
    have hsa := (h.ok.anames _ ha).2.2.1
    obtain ⟨p, a⟩ := q
    simp only [Option.map_some, Option.getD_some, Option.isSome_some] at hr hsa HF ⊢
    have HN := hid (fun (V : World) => isNarrower_any sc a.sc hsc hsa V)
    generalize a.sc = k at *
    generalize p.c.r = pr at *
    by_cases he : r = pr
    · rw [if_pos he]
      have e1 : (r.toList == pr.toList) = true := by rw [he]; simp
      generalize nar sc k = b at *
      clear h h0 hW b0 x0 hf he hp ha
      cases b
      all_goals
        go_enter Try.func12, Try.ntmps12
        go_wp2_with (first
          | (go_at_call 28; rw [HW.out]; refine HF.out.mono ?_; rintro _ w1 ⟨rfl, b1⟩; have B1 := hid (Below.on' B0.out b1); have r0 := hr.out w1 b1; clear b1; unfold noneE; simp only [if_true])
          | (go_at_call 30; refine (HN.out w1).mono ?_; rintro _ w2 ⟨rfl, e9⟩; subst w2))
        go_ret
        exact ⟨rfl, B1.out⟩
    · rw [if_neg he]
      have e1 : (r.toList == pr.toList) = false := by
        rw [beq_eq_false_iff_ne]
        exact fun e => he ((str_eqU _ _).2 e)
      clear h h0 hW b0 x0 hf he hp ha
      go_enter Try.func12, Try.ntmps12
      go_wp2_with (go_at_call 28; rw [HW.out]; refine HF.out.mono ?_; rintro _ w1 ⟨rfl, b1⟩; have B1 := hid (Below.on' B0.out b1); have r0 := hr.out w1 b1; clear b1; unfold noneE; simp only [if_true])
      go_ret
      exact ⟨rfl, B1.out⟩
end
end Go.Proofs.Ytlkbojgemcjilaa
