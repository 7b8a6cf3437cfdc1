/- Grants: Client, Consent. -/
import Derived.Test.YtlkbojgemcjilaaU4
namespace Go.Proofs.Ytlkbojgemcjilaa
open Go.RowKit Go.Maps
set_option linter.unusedVariables false
set_option maxRecDepth 20000
theorem results_row_tmp {P : Program} {fn : Func} {p u : Tmp} {ty : TypeId} (h : fn.results = #[.cell p ty, .tmp u]) (tmps : Array Value) (w : World) (g : Nat) (t : TypeId) (cs : Array Value) (fr : Nat × Nat) (d : TypeDesc)
    (hp : tmps.getD p undef = .pointer (some ⟨g, 0, none⟩)) (hg : w.heap[g]? = some (.cells cs t fr))
    (hu : P.underlying ty = some d) (hd : (match d with | .struct _ | .array _ _ => true | _ => false) = true) (hi : (P.info? ty).map (·.size) = some cs.size) :
    (results fn tmps).run P w = .ok (.tuple #[.agg cs, tmps.getD u undef]) w := by
  rw [results_cell_tmp h, hp]
  simp [asAddr, run_loadVar_row w g t ty cs fr d hg hu hd hi, Result.andThen]
theorem size_cl : (Try.prog.info? 40).map (·.size) = some 4 := by kernel_rfl
theorem size_co : (Try.prog.info? 35).map (·.size) = some 4 := by kernel_rfl
/-- a client as a value -/
def clC (c : Cl) : Array Value := #[.string c.t, .string c.n, .string c.r, .int .u8 (c.sc : Int)]
def clC0 : Array Value := #[.string ⟨#[]⟩, .string ⟨#[]⟩, .string ⟨#[]⟩, .int .u8 0]
def coC (a : Co) : Array Value := #[.string a.t, .string a.u, .string a.n, .int .u8 (a.sc : Int)]
theorem set4U {W : World} {g : Nat} {T : TypeId} {x0 x1 x2 x3 a b c d : Value} (h : W.heap[g]? = some (.cells #[x0, x1, x2, x3] T (0, 0))) : ((((W.setCell ⟨g, 0, none⟩ a).setCell ⟨g, 1, none⟩ b).setCell ⟨g, 2, none⟩ c).setCell ⟨g, 3, none⟩ d).heap[g]? = some (.cells #[a, b, c, d] T (0, 0)) := by
  rw [heap_setCell_same _ _ 3 _ _ _ (heap_setCell_same _ _ 2 _ _ _ (heap_setCell_same _ _ 1 _ _ _ (heap_setCell_same _ _ 0 _ _ _ h)))]
  rfl
theorem below4U {B : Nat} {w W : World} {g : Nat} {a b c d : Value} (h : Below B w W) (hg : B ≤ g) : Below B w ((((W.setCell ⟨g, 0, none⟩ a).setCell ⟨g, 1, none⟩ b).setCell ⟨g, 2, none⟩ c).setCell ⟨g, 3, none⟩ d) :=
  (((h.setCell hg _).setCell hg _).setCell hg _).setCell hg _
section
variable {w : World} {B g mc d : Nat} {L : List Reg} {s : GS}
set_option maxHeartbeats 4000000 in
theorem client_any (h : SAt w B g mc L s d) (t n : ByteArray) (ht : t.size ≤ maxLen) (hn : n.size ≤ maxLen) :
    Calls Try.prog 11 #[.pointer (some ⟨g, 0, none⟩), .string t, .string n] w fun e w' => e = .returned (.tuple #[.agg (((fC L t n).map fun p => clC p.c).getD clC0), .int .i64 (noneE (fC L t n).isSome)]) ∧ Below w.heap.size w w' := by
  obtain ⟨W, hW⟩ : ∃ W, W = w.alloc (.cells #[.string ⟨#[]⟩, .string ⟨#[]⟩, .string ⟨#[]⟩, .int .u8 0] 40) := ⟨_, rfl⟩
  have b0 : Below w.heap.size w W := by rw [hW]; exact (Below.refl _ w).alloc (Nat.le_refl _) _
  have x0 : W.heap[w.heap.size]? = some (.cells #[.string ⟨#[]⟩, .string ⟨#[]⟩, .string ⟨#[]⟩, .int .u8 0] 40 (0, 0)) := by rw [hW]; exact heap_allocN w _
  have h0 := h.below b0
  have HF := hid (find_any h0 t n ht hn)
  have HW := hid hW.symm
  have B0 := hid b0
  have X0 := hid x0
  have y0 : W.cell? ⟨w.heap.size, 0, none⟩ = some (.string ⟨#[]⟩) := (cell_of_rowU _ _ 0 _ _ _ x0).trans rfl
  have y1 : W.cell? ⟨w.heap.size, 1, none⟩ = some (.string ⟨#[]⟩) := (cell_of_rowU _ _ 1 _ _ _ x0).trans rfl
  have y2 : W.cell? ⟨w.heap.size, 2, none⟩ = some (.string ⟨#[]⟩) := (cell_of_rowU _ _ 2 _ _ _ x0).trans rfl
  have y3 : W.cell? ⟨w.heap.size, 3, none⟩ = some (.int .u8 0) := (cell_of_rowU _ _ 3 _ _ _ x0).trans rfl
  have z0 : W.frozen? ⟨w.heap.size, 0, none⟩ = false := frozen_of_row _ _ _ _ _ x0
  have z1 : W.frozen? ⟨w.heap.size, 1, none⟩ = false := frozen_of_row _ _ _ _ _ x0
  have z2 : W.frozen? ⟨w.heap.size, 2, none⟩ = false := frozen_of_row _ _ _ _ _ x0
  have z3 : W.frozen? ⟨w.heap.size, 3, none⟩ = false := frozen_of_row _ _ _ _ _ x0
  cases hf : fC L t n with
  | none =>
    rw [hf] at HF
    clear h h0 hW b0 x0 hf
    go_enter Try.func11, Try.ntmps11
    go_wp2_with (go_at_call 29; rw [HW.out]; refine HF.out.mono ?_; rintro _ w1 ⟨rfl, e1⟩; subst w1; unfold noneE; simp only [Option.isSome_none, Bool.false_eq_true, if_false])
    refine bodyPost_ret (results_row_tmp rfl _ _ w.heap.size 40 clC0 (0, 0) _ rfl (set4U X0.out) Try.underlying40 rfl size_cl) rfl ?_
    exact ⟨rfl, below4U B0.out (Nat.le_refl _)⟩
  | some p =>
    rw [hf] at HF
    obtain ⟨hp, rfl, rfl⟩ := fC_some hf
    have hr := h0.regs p hp
    obtain ⟨r0, r1, r2⟩ := hr.c
    have hpr : ¬ p.r = w.heap.size := fun e => by
      have := hr.2.2.1
      rw [e, x0] at this
      injection this with this
      injection this with _ this
      exact absurd this (by decide)
    clear h h0 hW b0 hf hr hp
    go_enter Try.func11, Try.ntmps11
    go_wp2_with (go_at_call 29; rw [HW.out]; refine HF.out.mono ?_; rintro _ w1 ⟨rfl, e1⟩; subst w1; unfold noneE; simp only [Option.isSome_some, if_true])
    go_region
    go_wp2
    refine bodyPost_ret (results_row_tmp rfl _ _ w.heap.size 40 (clC p.c) (0, 0) _ rfl (set4U X0.out) Try.underlying40 rfl size_cl) rfl ?_
    exact ⟨rfl, (below4U B0.out (Nat.le_refl _)).drew⟩
set_option maxHeartbeats 4000000 in
theorem consent_any (h : SAt w B g mc L s d) (t u n : ByteArray) (ht : t.size ≤ maxLen) (hu : u.size ≤ maxLen) (hn : n.size ≤ maxLen) :
    Calls Try.prog 10 #[.pointer (some ⟨g, 0, none⟩), .agg #[.string t, .string u], .string n] w fun e w' => e = .returned (.tuple #[.agg (((fB L s t u n).map fun q => coC q.2).getD clC0), .int .i64 (noneE (fB L s t u n).isSome)]) ∧ Below w.heap.size w w' := by
  obtain ⟨W1, hW1⟩ : ∃ W1, W1 = w.alloc (.cells #[.string t, .string u] 24) := ⟨_, rfl⟩
  have b1 : Below w.heap.size w W1 := by rw [hW1]; exact (Below.refl _ w).alloc (Nat.le_refl _) _
  have q0 : W1.heap[w.heap.size]? = some (.cells #[.string t, .string u] 24 (0, 0)) := by rw [hW1]; exact heap_allocN w _
  obtain ⟨W, hW⟩ : ∃ W, W = W1.alloc (.cells #[.string ⟨#[]⟩, .string ⟨#[]⟩, .string ⟨#[]⟩, .int .u8 0] 35) := ⟨_, rfl⟩
  have hsz : W1.heap.size = w.heap.size + 1 := by rw [hW1]; simp
  have b2 : Below W1.heap.size W1 W := by rw [hW]; exact (Below.refl _ W1).alloc (Nat.le_refl _) _
  have b0 : Below w.heap.size w W := Below.on' b1 b2
  have x0 : W.heap[w.heap.size + 1]? = some (.cells #[.string ⟨#[]⟩, .string ⟨#[]⟩, .string ⟨#[]⟩, .int .u8 0] 35 (0, 0)) := by rw [hW, ← hsz]; exact heap_allocN W1 _
  have q1 : W.heap[w.heap.size]? = some (.cells #[.string t, .string u] 24 (0, 0)) := (b2.block _ (heap_lt q0)).trans q0
  have o0 : W.cell? ⟨w.heap.size, 0, none⟩ = some (.string t) := (cell_of_rowU _ _ 0 _ _ _ q1).trans rfl
  have o1 : W.cell? ⟨w.heap.size, 1, none⟩ = some (.string u) := (cell_of_rowU _ _ 1 _ _ _ q1).trans rfl
  have h0 := h.below b0
  have HF := hid (findConsent_any h0 t u n ht hu hn)
  have HW : Hid ((w.alloc (.cells #[.string t, .string u] 24)).alloc (.cells #[.string ⟨#[]⟩, .string ⟨#[]⟩, .string ⟨#[]⟩, .int .u8 0] 35) = W) := by rw [Hid, hW, hW1]
  have B0 := hid b0
  have X0 := hid x0
  have HC := hid (fun (V : World) (hV : Below W.heap.size W V) => (show V.cell? ⟨w.heap.size, 0, none⟩ = some (.string t) ∧ V.cell? ⟨w.heap.size, 1, none⟩ = some (.string u) from by
    have h9 := (hV.block _ (heap_lt q1)).trans q1
    exact ⟨(cell_of_rowU _ _ 0 _ _ _ h9).trans rfl, (cell_of_rowU _ _ 1 _ _ _ h9).trans rfl⟩))
  have HX := hid (fun (V : World) (hV : Below W.heap.size W V) => (hV.block _ (heap_lt x0)).trans x0)
  have HZ := hid (fun (V : World) (hV : V.heap[w.heap.size + 1]? = some (.cells #[.string ⟨#[]⟩, .string ⟨#[]⟩, .string ⟨#[]⟩, .int .u8 0] 35 (0, 0))) => (show V.cell? ⟨w.heap.size + 1, 0, none⟩ = some (.string ⟨#[]⟩) ∧ V.cell? ⟨w.heap.size + 1, 1, none⟩ = some (.string ⟨#[]⟩) ∧ V.cell? ⟨w.heap.size + 1, 2, none⟩ = some (.string ⟨#[]⟩) ∧ V.cell? ⟨w.heap.size + 1, 3, none⟩ = some (.int .u8 0) ∧ V.frozen? ⟨w.heap.size + 1, 0, none⟩ = false ∧ V.frozen? ⟨w.heap.size + 1, 1, none⟩ = false ∧ V.frozen? ⟨w.heap.size + 1, 2, none⟩ = false ∧ V.frozen? ⟨w.heap.size + 1, 3, none⟩ = false from
    ⟨(cell_of_rowU _ _ 0 _ _ _ hV).trans rfl, (cell_of_rowU _ _ 1 _ _ _ hV).trans rfl, (cell_of_rowU _ _ 2 _ _ _ hV).trans rfl, (cell_of_rowU _ _ 3 _ _ _ hV).trans rfl, frozen_of_row _ _ _ _ _ hV, frozen_of_row _ _ _ _ _ hV, frozen_of_row _ _ _ _ _ hV, frozen_of_row _ _ _ _ _ hV⟩))
  cases hf : fB L s t u n with
  | none =>
    rw [hf] at HF
    clear h h0 hW hW1 b0 b1 b2 x0 q0 q1 hf hsz
    go_enter Try.func10, Try.ntmps10
    go_wp2_with (go_at_call 28; rw [HW.out]; refine HF.out.mono ?_; rintro _ w1 ⟨rfl, b1⟩; have B1 := hid (Below.on' B0.out b1); have X1 := hid (HX.out w1 b1); obtain ⟨y0, y1, y2, y3, z0, z1, z2, z3⟩ := HZ.out w1 X1.out; clear b1; unfold noneE; simp only [Option.isSome_none, Bool.false_eq_true, if_false])
    refine bodyPost_ret (results_row_tmp rfl _ _ (w.heap.size + 1) 35 clC0 (0, 0) _ rfl (set4U X1.out) Try.underlying35 rfl size_co) rfl ?_
    exact ⟨rfl, below4U B1.out (by omega)⟩
  | some q =>
    rw [hf] at HF
    obtain ⟨_, _, _, _, rfl, rfl, rfl⟩ := fB_some hf
    simp only [Option.map_some, Option.getD_some, Option.isSome_some] at HF ⊢
    clear h h0 hW hW1 b0 b1 b2 x0 q0 q1 hf hsz
    go_enter Try.func10, Try.ntmps10
    go_wp2_with (go_at_call 28; rw [HW.out]; refine HF.out.mono ?_; rintro _ w1 ⟨rfl, b1⟩; have B1 := hid (Below.on' B0.out b1); have X1 := hid (HX.out w1 b1); obtain ⟨y0, y1, y2, y3, z0, z1, z2, z3⟩ := HZ.out w1 X1.out; obtain ⟨p0, p1⟩ := HC.out w1 b1; clear b1; unfold noneE; simp only [if_true])
    refine bodyPost_ret (results_row_tmp rfl _ _ (w.heap.size + 1) 35 (coC q.2) (0, 0) _ rfl (set4U X1.out) Try.underlying35 rfl size_co) rfl ?_
    exact ⟨rfl, below4U B1.out (by omega)⟩
end
end Go.Proofs.Ytlkbojgemcjilaa
