/- Grants: a nil store. -/
import Derived.Test.YtlkbojgemcjilaaU22
namespace Go.Proofs.Ytlkbojgemcjilaa
open Go.RowKit Go.Maps
set_option linter.unusedVariables false
set_option maxRecDepth 20000
theorem find_nil (t n : ByteArray) (w : World) : Calls Try.prog 29 #[.pointer none, .string t, .string n] w fun e w' => e = .returned (.tuple #[.pointer none, .int .i64 1]) ∧ w' = w := by
  go_enter Try.func29, Try.ntmps29
  go_wp2
  go_ret2
  exact ⟨rfl, rfl⟩
theorem findConsent_nil (t u n : ByteArray) (w : World) : Calls Try.prog 28 #[.pointer none, .agg #[.string t, .string u], .string n] w fun e w' => e = .returned (.tuple #[.pointer none, .int .u8 0, .int .i64 1]) ∧ Below w.heap.size w w' := by
  obtain ⟨W, hW⟩ : ∃ W, W = w.alloc (.cells #[.string t, .string u] 24) := ⟨_, rfl⟩
  have b0 : Below w.heap.size w W := by rw [hW]; exact (Below.refl _ w).alloc (Nat.le_refl _) _
  have o0 : W.cell? ⟨w.heap.size, 0, none⟩ = some (.string t) := by rw [hW]; exact (cell_of_rowU _ _ 0 _ _ _ (heap_allocN w _)).trans rfl
  have HW := hid hW.symm
  have B0 := hid b0
  rw [hW] at o0
  clear hW b0
  go_enter Try.func28, Try.ntmps28
  go_wp2_with (go_at_call 29; rw [HW.out]; refine (find_nil _ _ _).mono ?_; rintro _ w1 ⟨rfl, e1⟩; subst w1)
  go_ret3
  exact ⟨rfl, B0.out⟩
theorem registerError_nil (c : Cl) (w : World) : Calls Try.prog 31 #[.pointer none, .agg (clC c)] w fun e w' => e = .returned (.int .i64 1) ∧ Below w.heap.size w w' := by
  unfold clC
  go_enter Try.func31, Try.ntmps31
  go_wp2
  go_ret
  exact ⟨rfl, (Below.refl _ w).alloc (Nat.le_refl _) _⟩
theorem register_nil (c : Cl) (w : World) : Calls Try.prog 14 #[.pointer none, .agg (clC c)] w fun e w' => e = .returned (.int .i64 1) ∧ Below w.heap.size w w' := by
  have HE := hid (fun (V : World) => registerError_nil c V)
  have b0 := hid ((Below.refl _ w).alloc (Nat.le_refl _) (.cells (clC c) 40))
  unfold clC at HE b0 ⊢
  go_enter Try.func14, Try.ntmps14
  go_wp2_with (go_at_call 31; refine (HE.out _).mono ?_; rintro _ w1 ⟨rfl, b1⟩; have B1 := hid (Below.on' b0.out b1); clear b1)
  go_ret
  exact ⟨rfl, B1.out⟩
theorem narrow_nil (t n : ByteArray) (m : Nat) (w : World) : Calls Try.prog 19 #[.pointer none, .string t, .string n, .int .u8 (m : Int)] w fun e w' => e = .returned (.tuple #[.int .u8 0, .int .i64 1]) ∧ w' = w := by
  go_enter Try.func19, Try.ntmps19
  go_wp2_with (go_at_call 29; refine (find_nil _ _ _).mono ?_; rintro _ w1 ⟨rfl, e1⟩; subst w1)
  go_ret2
  exact ⟨rfl, rfl⟩
theorem drop_nil (t n : ByteArray) (w : World) : Calls Try.prog 13 #[.pointer none, .string t, .string n] w fun e w' => e = .returned (.int .i64 1) ∧ w' = w := by
  go_enter Try.func13, Try.ntmps13
  go_wp2_with (go_at_call 29; refine (find_nil _ _ _).mono ?_; rintro _ w1 ⟨rfl, e1⟩; subst w1)
  go_ret
  exact ⟨rfl, rfl⟩
theorem allow_nil (c : Co) (w : World) : Calls Try.prog 15 #[.pointer none, .agg (coC c)] w fun e w' => e = .returned (.int .i64 1) ∧ Below w.heap.size w w' := by
  unfold coC
  go_enter Try.func15, Try.ntmps15
  go_wp2
  go_ret
  exact ⟨rfl, (Below.refl _ w).alloc (Nat.le_refl _) _⟩
theorem client_nil (t n : ByteArray) (w : World) : Calls Try.prog 11 #[.pointer none, .string t, .string n] w fun e w' => e = .returned (.tuple #[.agg clC0, .int .i64 1]) ∧ Below w.heap.size w w' := by
  obtain ⟨W, hW⟩ : ∃ W, W = w.alloc (.cells #[.string ⟨#[]⟩, .string ⟨#[]⟩, .string ⟨#[]⟩, .int .u8 0] 40) := ⟨_, rfl⟩
  have b0 : Below w.heap.size w W := by rw [hW]; exact (Below.refl _ w).alloc (Nat.le_refl _) _
  have x0 : W.heap[w.heap.size]? = some (.cells #[.string ⟨#[]⟩, .string ⟨#[]⟩, .string ⟨#[]⟩, .int .u8 0] 40 (0, 0)) := by rw [hW]; exact heap_allocN w _
  have z0 : W.cell? ⟨w.heap.size, 0, none⟩ = some (.string ⟨#[]⟩) ∧ W.cell? ⟨w.heap.size, 1, none⟩ = some (.string ⟨#[]⟩) ∧ W.cell? ⟨w.heap.size, 2, none⟩ = some (.string ⟨#[]⟩) ∧ W.cell? ⟨w.heap.size, 3, none⟩ = some (.int .u8 0) := ⟨(cell_of_rowU _ _ 0 _ _ _ x0).trans rfl, (cell_of_rowU _ _ 1 _ _ _ x0).trans rfl, (cell_of_rowU _ _ 2 _ _ _ x0).trans rfl, (cell_of_rowU _ _ 3 _ _ _ x0).trans rfl⟩
  have zf : W.frozen? ⟨w.heap.size, 0, none⟩ = false ∧ W.frozen? ⟨w.heap.size, 1, none⟩ = false ∧ W.frozen? ⟨w.heap.size, 2, none⟩ = false ∧ W.frozen? ⟨w.heap.size, 3, none⟩ = false := ⟨frozen_of_row _ _ _ _ _ x0, frozen_of_row _ _ _ _ _ x0, frozen_of_row _ _ _ _ _ x0, frozen_of_row _ _ _ _ _ x0⟩
  obtain ⟨y0, y1, y2, y3⟩ := z0
  obtain ⟨f0, f1, f2, f3⟩ := zf
  have HW := hid hW.symm
  have B0 := hid b0
  have X0 := hid x0
  clear hW b0 x0
  go_enter Try.func11, Try.ntmps11
  go_wp2_with (go_at_call 29; rw [HW.out]; refine (find_nil _ _ _).mono ?_; rintro _ w1 ⟨rfl, e1⟩; subst w1)
  refine bodyPost_ret (results_row_tmp rfl _ _ w.heap.size 40 clC0 (0, 0) _ rfl (set4U X0.out) Try.underlying40 rfl size_cl) rfl ?_
  exact ⟨rfl, below4U B0.out (Nat.le_refl _)⟩
theorem consent_nil (t u n : ByteArray) (w : World) : Calls Try.prog 10 #[.pointer none, .agg #[.string t, .string u], .string n] w fun e w' => e = .returned (.tuple #[.agg clC0, .int .i64 1]) ∧ Below w.heap.size w w' := by
  obtain ⟨W1, hW1⟩ : ∃ W1, W1 = w.alloc (.cells #[.string t, .string u] 24) := ⟨_, rfl⟩
  obtain ⟨W, hW⟩ : ∃ W, W = W1.alloc (.cells #[.string ⟨#[]⟩, .string ⟨#[]⟩, .string ⟨#[]⟩, .int .u8 0] 35) := ⟨_, rfl⟩
  have hsz : W1.heap.size = w.heap.size + 1 := by rw [hW1]; simp
  have b1 : Below w.heap.size w W1 := by rw [hW1]; exact (Below.refl _ w).alloc (Nat.le_refl _) _
  have b0 : Below w.heap.size w W := by rw [hW]; exact b1.alloc b1.size _
  have x0 : W.heap[w.heap.size + 1]? = some (.cells #[.string ⟨#[]⟩, .string ⟨#[]⟩, .string ⟨#[]⟩, .int .u8 0] 35 (0, 0)) := by rw [hW, ← hsz]; exact heap_allocN W1 _
  have q1 : W.heap[w.heap.size]? = some (.cells #[.string t, .string u] 24 (0, 0)) := by
    have h9 : W1.heap[w.heap.size]? = some (.cells #[.string t, .string u] 24 (0, 0)) := by rw [hW1]; exact heap_allocN w _
    rw [hW]
    exact (((Below.refl _ W1).alloc (Nat.le_refl _) _).block _ (heap_lt h9)).trans h9
  have o0 : W.cell? ⟨w.heap.size, 0, none⟩ = some (.string t) := (cell_of_rowU _ _ 0 _ _ _ q1).trans rfl
  have o1 : W.cell? ⟨w.heap.size, 1, none⟩ = some (.string u) := (cell_of_rowU _ _ 1 _ _ _ q1).trans rfl
  have HW : Hid ((w.alloc (.cells #[.string t, .string u] 24)).alloc (.cells #[.string ⟨#[]⟩, .string ⟨#[]⟩, .string ⟨#[]⟩, .int .u8 0] 35) = W) := by rw [Hid, hW, hW1]
  have B0 := hid b0
  have X0 := hid x0
  have HX := hid (fun (V : World) (hV : Below W.heap.size W V) => (hV.block _ (heap_lt x0)).trans x0)
  have HZ := hid (fun (V : World) (hV : V.heap[w.heap.size + 1]? = some (.cells #[.string ⟨#[]⟩, .string ⟨#[]⟩, .string ⟨#[]⟩, .int .u8 0] 35 (0, 0))) => (show V.cell? ⟨w.heap.size + 1, 0, none⟩ = some (.string ⟨#[]⟩) ∧ V.cell? ⟨w.heap.size + 1, 1, none⟩ = some (.string ⟨#[]⟩) ∧ V.cell? ⟨w.heap.size + 1, 2, none⟩ = some (.string ⟨#[]⟩) ∧ V.cell? ⟨w.heap.size + 1, 3, none⟩ = some (.int .u8 0) ∧ V.frozen? ⟨w.heap.size + 1, 0, none⟩ = false ∧ V.frozen? ⟨w.heap.size + 1, 1, none⟩ = false ∧ V.frozen? ⟨w.heap.size + 1, 2, none⟩ = false ∧ V.frozen? ⟨w.heap.size + 1, 3, none⟩ = false from
    ⟨(cell_of_rowU _ _ 0 _ _ _ hV).trans rfl, (cell_of_rowU _ _ 1 _ _ _ hV).trans rfl, (cell_of_rowU _ _ 2 _ _ _ hV).trans rfl, (cell_of_rowU _ _ 3 _ _ _ hV).trans rfl, frozen_of_row _ _ _ _ _ hV, frozen_of_row _ _ _ _ _ hV, frozen_of_row _ _ _ _ _ hV, frozen_of_row _ _ _ _ _ hV⟩))
  clear hW hW1 b0 b1 x0 q1 hsz
  go_enter Try.func10, Try.ntmps10
  go_wp2_with (go_at_call 28; rw [HW.out]; refine (findConsent_nil _ _ _ _).mono ?_; rintro _ w1 ⟨rfl, b1⟩; have B1 := hid (Below.on' B0.out b1); have X1 := hid (HX.out w1 b1); obtain ⟨y0, y1, y2, y3, z0, z1, z2, z3⟩ := HZ.out w1 X1.out; clear b1)
  refine bodyPost_ret (results_row_tmp rfl _ _ (w.heap.size + 1) 35 clC0 (0, 0) _ rfl (set4U X1.out) Try.underlying35 rfl size_co) rfl ?_
  exact ⟨rfl, below4U B1.out (by omega)⟩
theorem withdraw_nil (t u n : ByteArray) (w : World) : Calls Try.prog 24 #[.pointer none, .agg #[.string t, .string u], .string n] w fun e w' => e = .returned (.int .i64 1) ∧ Below w.heap.size w w' := by
  obtain ⟨W, hW⟩ : ∃ W, W = w.alloc (.cells #[.string t, .string u] 24) := ⟨_, rfl⟩
  have b0 : Below w.heap.size w W := by rw [hW]; exact (Below.refl _ w).alloc (Nat.le_refl _) _
  have x0 : W.heap[w.heap.size]? = some (.cells #[.string t, .string u] 24 (0, 0)) := by rw [hW]; exact heap_allocN w _
  have o0 : W.cell? ⟨w.heap.size, 0, none⟩ = some (.string t) := (cell_of_rowU _ _ 0 _ _ _ x0).trans rfl
  have o1 : W.cell? ⟨w.heap.size, 1, none⟩ = some (.string u) := (cell_of_rowU _ _ 1 _ _ _ x0).trans rfl
  have HW := hid hW.symm
  have B0 := hid b0
  rw [hW] at o0 o1
  clear hW b0 x0
  go_enter Try.func24, Try.ntmps24
  go_wp2_with (go_at_call 28; rw [HW.out]; refine (findConsent_nil _ _ _ _).mono ?_; rintro _ w1 ⟨rfl, b1⟩; have B1 := hid (Below.on' B0.out b1); clear b1)
  go_ret
  exact ⟨rfl, B1.out⟩
theorem may_nil (t u n r : ByteArray) (sc : Int) (w : World) : Calls Try.prog 12 #[.pointer none, .agg #[.string t, .string u], .string n, .string r, .int .u8 sc] w fun e w' => e = .returned (.int .i64 1) ∧ Below w.heap.size w w' := by
  obtain ⟨W, hW⟩ : ∃ W, W = w.alloc (.cells #[.string t, .string u] 24) := ⟨_, rfl⟩
  have b0 : Below w.heap.size w W := by rw [hW]; exact (Below.refl _ w).alloc (Nat.le_refl _) _
  have x0 : W.heap[w.heap.size]? = some (.cells #[.string t, .string u] 24 (0, 0)) := by rw [hW]; exact heap_allocN w _
  have o0 : W.cell? ⟨w.heap.size, 0, none⟩ = some (.string t) := (cell_of_rowU _ _ 0 _ _ _ x0).trans rfl
  have o1 : W.cell? ⟨w.heap.size, 1, none⟩ = some (.string u) := (cell_of_rowU _ _ 1 _ _ _ x0).trans rfl
  have HW := hid hW.symm
  have B0 := hid b0
  rw [hW] at o0 o1
  clear hW b0 x0
  go_enter Try.func12, Try.ntmps12
  go_wp2_with (go_at_call 28; rw [HW.out]; refine (findConsent_nil _ _ _ _).mono ?_; rintro _ w1 ⟨rfl, b1⟩; have B1 := hid (Below.on' B0.out b1); clear b1)
  go_ret
  exact ⟨rfl, B1.out⟩
theorem clients_nil (t : ByteArray) (w : World) : Calls Try.prog 16 #[.pointer none, .string t] w fun e w' => e = .returned (.slice none 0 0) ∧ Below w.heap.size w w' := by
  go_enter Try.func16, Try.ntmps16
  go_wp2
  go_ret
  exact ⟨rfl, Below.refl _ w⟩
theorem consents_nil (t u : ByteArray) (w : World) : Calls Try.prog 17 #[.pointer none, .agg #[.string t, .string u]] w fun e w' => e = .returned (.slice none 0 0) ∧ Below w.heap.size w w' := by
  obtain ⟨W, hW⟩ : ∃ W, W = w.alloc (.cells #[.string t, .string u] 24) := ⟨_, rfl⟩
  have b0 : Below w.heap.size w W := by rw [hW]; exact (Below.refl _ w).alloc (Nat.le_refl _) _
  have x0 : W.heap[w.heap.size]? = some (.cells #[.string t, .string u] 24 (0, 0)) := by rw [hW]; exact heap_allocN w _
  have o0 : W.cell? ⟨w.heap.size, 0, none⟩ = some (.string t) := (cell_of_rowU _ _ 0 _ _ _ x0).trans rfl
  have HW := hid hW.symm
  have B0 := hid b0
  rw [hW] at o0
  clear hW b0 x0
  go_enter Try.func17, Try.ntmps17
  go_wp2_with (go_at_call 16; rw [HW.out]; refine (clients_nil _ _).mono ?_; rintro _ w1 ⟨rfl, b1⟩; have B1 := hid (Below.on' B0.out b1); clear b1)
  go_loopw [5, 7, 8, 9, 15] (fun v5 _ _ _ i wr => v5 = .slice none 0 0 ∧ i = .int .i64 0 ∧ Below w.heap.size w wr) (fun _ _ _ _ _ _ => 0)
  case atStart => exact ⟨rfl, rfl, B1.out⟩
  case round =>
    obtain ⟨rfl, rfl, hb⟩ := hrel
    have Hb := hid hb
    clear hb
    go_wp2
    go_ret
    exact ⟨rfl, Hb.out⟩
theorem dropUser_nil (t u : ByteArray) (w : World) : Calls Try.prog 18 #[.pointer none, .agg #[.string t, .string u]] w fun e w' => e = .returned (.int .i64 0) ∧ Below w.heap.size w w' := by
  obtain ⟨W, hW⟩ : ∃ W, W = w.alloc (.cells #[.string t, .string u] 24) := ⟨_, rfl⟩
  have b0 : Below w.heap.size w W := by rw [hW]; exact (Below.refl _ w).alloc (Nat.le_refl _) _
  have x0 : W.heap[w.heap.size]? = some (.cells #[.string t, .string u] 24 (0, 0)) := by rw [hW]; exact heap_allocN w _
  have o0 : W.cell? ⟨w.heap.size, 0, none⟩ = some (.string t) := (cell_of_rowU _ _ 0 _ _ _ x0).trans rfl
  have o1 : W.cell? ⟨w.heap.size, 1, none⟩ = some (.string u) := (cell_of_rowU _ _ 1 _ _ _ x0).trans rfl
  have HW := hid hW.symm
  have B0 := hid b0
  rw [hW] at o0 o1
  clear hW b0 x0
  go_enter Try.func18, Try.ntmps18
  go_wp2_with (go_at_call 17; rw [HW.out]; refine (consents_nil _ _ _).mono ?_; rintro _ w1 ⟨rfl, b1⟩; have B1 := hid (Below.on' B0.out b1); clear b1)
  go_loopw [7, 13] (fun _ i wr => i = .int .i64 0 ∧ Below w.heap.size w wr) (fun _ _ _ => 0)
  case atStart => exact ⟨rfl, B1.out⟩
  case round =>
    obtain ⟨rfl, hb⟩ := hrel
    have Hb := hid hb
    clear hb
    go_wp2
    go_ret
    exact ⟨rfl, Hb.out⟩
end Go.Proofs.Ytlkbojgemcjilaa
