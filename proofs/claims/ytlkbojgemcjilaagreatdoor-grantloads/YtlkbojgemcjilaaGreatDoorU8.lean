/- YtlkbojgemcjilaaGreatDoorU7 + YtlkbojgemcjilaaGreatDoorU8 -/
import Derived.Test.YtlkbojgemcjilaaGreatDoorU3
import Derived.Test.YtlkbojgemcjilaaGreatDoorUBits
/- YtlkbojgemcjilaaGreatDoorU4 + YtlkbojgemcjilaaGreatDoorU5 + YtlkbojgemcjilaaGreatDoorU6 + YtlkbojgemcjilaaGreatDoorU7 -/
/- Grants: what is narrower, owners, May, Client, Consent. -/
namespace Go.Proofs.YtlkbojgemcjilaaGreatDoor
open Go.RowKit Go.Maps
set_option linter.unusedVariables false
set_option maxRecDepth 20000
def nar (a b : Nat) : Bool := decide (a &&& b = a)
set_option maxHeartbeats 800000 in
theorem isNarrower_any (a b : Nat) (ha : a ≤ 255) (hb : b ≤ 255) (w : World) :
    Calls Tryz.prog 55 #[.int .u8 (a : Int), .int .u8 (b : Int)] w fun e w' => e = .returned (.bool (nar a b)) ∧ w' = w := by
  have H9 : Hid ((bits BinOp.andNot IntKind.u8 (a : Int) (b : Int) == 0) = nar a b) := narrow_bits a (by omega) b (by omega)
  go_enter Tryz.func55, Tryz.ntmps55
  go_wp2
  rw [H9.out]
  go_ret
  exact ⟨rfl, rfl⟩
set_option maxHeartbeats 800000 in
theorem isOwner_any (t u : ByteArray) (w : World) (ht : t.size ≤ maxLen) (hu : u.size ≤ maxLen) :
    Calls Tryz.prog 54 #[.agg #[.string t, .string u]] w fun e w' => e = .returned (.bool (okN t && okN u)) ∧ Below w.heap.size w w' := by
  unfold okN
  cases hx : nameB t.data.toList
  · go_enter Tryz.func54, Tryz.ntmps54
    go_wp2_with (go_at_call 72; refine (isName_any _ _ (by assumption)).mono ?_; rintro e w1 ⟨rfl, rfl⟩)
    go_ret
    exact ⟨rfl, (Below.refl _ _).alloc (Nat.le_refl _) _⟩
  · cases hy : nameB u.data.toList
    all_goals
      go_enter Tryz.func54, Tryz.ntmps54
      go_wp2_with (go_at_call 72; refine (isName_any _ _ (by assumption)).mono ?_; rintro e w1 ⟨rfl, rfl⟩)
      go_ret
      exact ⟨rfl, (Below.refl _ _).alloc (Nat.le_refl _) _⟩
/-- May -/
def mayR (L : List Reg) (s : GS) (t u n r : ByteArray) (sc : Nat) : Nat := match fB L s t u n with
  | none => 4
  | some q => if r = q.1.c.r then (if nar sc q.2.sc then 0 else 14) else 10
section
variable {w : World} {B g mc d : Nat} {L : List Reg} {s : GS}
theorem fB_some {t u n : ByteArray} {q : Reg × Co} (h : fB L s t u n = some q) : q.1 ∈ L ∧ q.1.c.t = t ∧ q.1.c.n = n ∧ q.2 ∈ s.al ∧ q.2.t = t ∧ q.2.u = u ∧ q.2.n = n := by
  unfold fB at h
  cases hc : fC L t n with
  | none => rw [hc] at h; cases h
  | some p =>
    rw [hc] at h
    simp only [Option.bind_some] at h
    cases ha : fA s t u n with
    | none => rw [ha] at h; cases h
    | some a =>
      rw [ha] at h
      obtain rfl := Option.some.inj h
      obtain ⟨h1, h2, h3⟩ := fC_some hc
      have h4 : a.t = t ∧ a.u = u ∧ a.n = n := by
        have h9 := List.find?_some ha
        unfold isA at h9
        exact of_decide_eq_true h9
      exact ⟨h1, h2, h3, List.mem_of_find?_eq_some ha, h4.1, h4.2.1, h4.2.2⟩
set_option maxHeartbeats 2000000 in
theorem may_any (h : SAt w B g mc L s d) (t u n r : ByteArray) (sc : Nat) (ht : t.size ≤ maxLen) (hu : u.size ≤ maxLen) (hn : n.size ≤ maxLen) (hsc : sc ≤ 255) :
    Calls Tryz.prog 21 #[.pointer (some ⟨g, 0, none⟩), .agg #[.string t, .string u], .string n, .string r, .int .u8 (sc : Int)] w fun e w' => e = .returned (.int .i64 (mayR L s t u n r sc : Nat)) ∧ Below w.heap.size w w' := by
  obtain ⟨W, hW⟩ : ∃ W, W = w.alloc (.cells #[.string t, .string u] 30) := ⟨_, rfl⟩
  have b0 : Below w.heap.size w W := by rw [hW]; exact (Below.refl _ w).alloc (Nat.le_refl _) _
  have x0 : W.heap[w.heap.size]? = some (.cells #[.string t, .string u] 30 (0, 0)) := by rw [hW]; exact heap_allocN w _
  have o0 : W.cell? ⟨w.heap.size, 0, none⟩ = some (.string t) := (cell_of_rowU _ _ 0 _ _ _ x0).trans rfl
  have o1 : W.cell? ⟨w.heap.size, 1, none⟩ = some (.string u) := (cell_of_rowU _ _ 1 _ _ _ x0).trans rfl
  have h0 := h.below b0
  have HF := hid (findConsent_any h0 t u n ht hu hn)
  have HW := hid hW.symm
  have B0 := hid b0
  rw [hW] at o0 o1
  unfold mayR
  cases hf : fB L s t u n with
  | none =>
    rw [hf] at HF
    clear h h0 hW b0 x0 hf
    go_enter Tryz.func21, Tryz.ntmps21
    go_wp2_with (go_at_call 56; rw [HW.out]; refine HF.out.mono ?_; rintro _ w1 ⟨rfl, b1⟩; have B1 := hid (Below.on' B0.out b1); clear b1; unfold noneE; simp only [Option.isSome_none, Bool.false_eq_true, if_false])
    go_ret
    exact ⟨rfl, B1.out⟩
  | some q =>
    rw [hf] at HF
    obtain ⟨hp, _, _, ha, _⟩ := fB_some hf
    have hr := hid (fun (V : World) (hV : Below W.heap.size W V) => ((h0.regs q.1 hp).below hV).c.1)
    have hsa := (h.ok.anames _ ha).2.2.1
    obtain ⟨p, a⟩ := q
    simp only [Option.map_some, Option.getD_some, Option.isSome_some] at hr hsa HF ⊢
    have HN := hid (fun (V : World) => isNarrower_any sc a.sc hsc hsa V)
    generalize a.sc = k at *
    generalize p.c.r = pr at *
    by_cases he : r = pr
    · rw [if_pos he]
      have e1 : (r.toList == pr.toList) = true := by rw [he]; simp
      generalize nar sc k = b at *
      clear h h0 hW b0 x0 hf he hp ha
      cases b
      all_goals
        go_enter Tryz.func21, Tryz.ntmps21
        go_wp2_with (first
          | (go_at_call 56; rw [HW.out]; refine HF.out.mono ?_; rintro _ w1 ⟨rfl, b1⟩; have B1 := hid (Below.on' B0.out b1); have r0 := hr.out w1 b1; clear b1; unfold noneE; simp only [if_true])
          | (go_at_call 55; refine (HN.out w1).mono ?_; rintro _ w2 ⟨rfl, e9⟩; subst w2))
        go_ret
        exact ⟨rfl, B1.out⟩
    · rw [if_neg he]
      have e1 : (r.toList == pr.toList) = false := by
        rw [beq_eq_false_iff_ne]
        exact fun e => he ((str_eqU _ _).2 e)
      clear h h0 hW b0 x0 hf he hp ha
      go_enter Tryz.func21, Tryz.ntmps21
      go_wp2_with (go_at_call 56; rw [HW.out]; refine HF.out.mono ?_; rintro _ w1 ⟨rfl, b1⟩; have B1 := hid (Below.on' B0.out b1); have r0 := hr.out w1 b1; clear b1; unfold noneE; simp only [if_true])
      go_ret
      exact ⟨rfl, B1.out⟩
end
end Go.Proofs.YtlkbojgemcjilaaGreatDoor

/- Grants: Client, Consent. -/
namespace Go.Proofs.YtlkbojgemcjilaaGreatDoor
open Go.RowKit Go.Maps
set_option linter.unusedVariables false
set_option maxRecDepth 20000
theorem results_row_tmp {P : Program} {fn : Func} {p u : Tmp} {ty : TypeId} (h : fn.results = #[.cell p ty, .tmp u]) (tmps : Array Value) (w : World) (g : Nat) (t : TypeId) (cs : Array Value) (fr : Nat × Nat) (d : TypeDesc)
    (hp : tmps.getD p undef = .pointer (some ⟨g, 0, none⟩)) (hg : w.heap[g]? = some (.cells cs t fr))
    (hu : P.underlying ty = some d) (hd : (match d with | .struct _ | .array _ _ => true | _ => false) = true) (hi : (P.info? ty).map (·.size) = some cs.size) :
    (results fn tmps).run P w = .ok (.tuple #[.agg cs, tmps.getD u undef]) w := by
  rw [results_cell_tmp h, hp]
  simp [asAddr, run_loadVar_row w g t ty cs fr d hg hu hd hi, Result.andThen]
theorem size_cl : (Tryz.prog.info? 56).map (·.size) = some 4 := by kernel_rfl
theorem size_co : (Tryz.prog.info? 59).map (·.size) = some 4 := by kernel_rfl
/-- a client as a value -/
def clC (c : Cl) : Array Value := #[.string c.t, .string c.n, .string c.r, .int .u8 (c.sc : Int)]
def clC0 : Array Value := #[.string ⟨#[]⟩, .string ⟨#[]⟩, .string ⟨#[]⟩, .int .u8 0]
def coC (a : Co) : Array Value := #[.string a.t, .string a.u, .string a.n, .int .u8 (a.sc : Int)]
theorem set4U {W : World} {g : Nat} {T : TypeId} {x0 x1 x2 x3 a b c d : Value} (h : W.heap[g]? = some (.cells #[x0, x1, x2, x3] T (0, 0))) : ((((W.setCell ⟨g, 0, none⟩ a).setCell ⟨g, 1, none⟩ b).setCell ⟨g, 2, none⟩ c).setCell ⟨g, 3, none⟩ d).heap[g]? = some (.cells #[a, b, c, d] T (0, 0)) := by
  rw [heap_setCell_same _ _ 3 _ _ _ (heap_setCell_same _ _ 2 _ _ _ (heap_setCell_same _ _ 1 _ _ _ (heap_setCell_same _ _ 0 _ _ _ h)))]
  rfl
theorem below4U {B : Nat} {w W : World} {g : Nat} {a b c d : Value} (h : Below B w W) (hg : B ≤ g) : Below B w ((((W.setCell ⟨g, 0, none⟩ a).setCell ⟨g, 1, none⟩ b).setCell ⟨g, 2, none⟩ c).setCell ⟨g, 3, none⟩ d) :=
  (((h.setCell hg _).setCell hg _).setCell hg _).setCell hg _
section
variable {w : World} {B g mc d : Nat} {L : List Reg} {s : GS}
set_option maxHeartbeats 4000000 in
theorem client_any (h : SAt w B g mc L s d) (t n : ByteArray) (ht : t.size ≤ maxLen) (hn : n.size ≤ maxLen) :
    Calls Tryz.prog 33 #[.pointer (some ⟨g, 0, none⟩), .string t, .string n] w fun e w' => e = .returned (.tuple #[.agg (((fC L t n).map fun p => clC p.c).getD clC0), .int .i64 (noneE (fC L t n).isSome)]) ∧ Below w.heap.size w w' := by
  obtain ⟨W, hW⟩ : ∃ W, W = w.alloc (.cells #[.string ⟨#[]⟩, .string ⟨#[]⟩, .string ⟨#[]⟩, .int .u8 0] 56) := ⟨_, rfl⟩
  have b0 : Below w.heap.size w W := by rw [hW]; exact (Below.refl _ w).alloc (Nat.le_refl _) _
  have x0 : W.heap[w.heap.size]? = some (.cells #[.string ⟨#[]⟩, .string ⟨#[]⟩, .string ⟨#[]⟩, .int .u8 0] 56 (0, 0)) := by rw [hW]; exact heap_allocN w _
  have h0 := h.below b0
  have HF := hid (find_any h0 t n ht hn)
  have HW := hid hW.symm
  have B0 := hid b0
  have X0 := hid x0
  have y0 : W.cell? ⟨w.heap.size, 0, none⟩ = some (.string ⟨#[]⟩) := (cell_of_rowU _ _ 0 _ _ _ x0).trans rfl
  have y1 : W.cell? ⟨w.heap.size, 1, none⟩ = some (.string ⟨#[]⟩) := (cell_of_rowU _ _ 1 _ _ _ x0).trans rfl
  have y2 : W.cell? ⟨w.heap.size, 2, none⟩ = some (.string ⟨#[]⟩) := (cell_of_rowU _ _ 2 _ _ _ x0).trans rfl
  have y3 : W.cell? ⟨w.heap.size, 3, none⟩ = some (.int .u8 0) := (cell_of_rowU _ _ 3 _ _ _ x0).trans rfl
  have z0 : W.frozen? ⟨w.heap.size, 0, none⟩ = false := frozen_of_row _ _ _ _ _ x0
  have z1 : W.frozen? ⟨w.heap.size, 1, none⟩ = false := frozen_of_row _ _ _ _ _ x0
  have z2 : W.frozen? ⟨w.heap.size, 2, none⟩ = false := frozen_of_row _ _ _ _ _ x0
  have z3 : W.frozen? ⟨w.heap.size, 3, none⟩ = false := frozen_of_row _ _ _ _ _ x0
  cases hf : fC L t n with
  | none =>
    rw [hf] at HF
    clear h h0 hW b0 x0 hf
    go_enter Tryz.func33, Tryz.ntmps33
    go_wp2_with (go_at_call 52; rw [HW.out]; refine HF.out.mono ?_; rintro _ w1 ⟨rfl, e1⟩; subst w1; unfold noneE; simp only [Option.isSome_none, Bool.false_eq_true, if_false])
    refine bodyPost_ret (results_row_tmp rfl _ _ w.heap.size 56 clC0 (0, 0) _ rfl (set4U X0.out) Tryz.underlying56 rfl size_cl) rfl ?_
    exact ⟨rfl, below4U B0.out (Nat.le_refl _)⟩
  | some p =>
    rw [hf] at HF
    obtain ⟨hp, rfl, rfl⟩ := fC_some hf
    have hr := h0.regs p hp
    obtain ⟨r0, r1, r2⟩ := hr.c
    have hpr : ¬ p.r = w.heap.size := fun e => by
      have := hr.2.2.1
      rw [e, x0] at this
      injection this with this
      injection this with _ this
      exact absurd this (by decide)
    clear h h0 hW b0 hf hr hp
    go_enter Tryz.func33, Tryz.ntmps33
    go_wp2_with (go_at_call 52; rw [HW.out]; refine HF.out.mono ?_; rintro _ w1 ⟨rfl, e1⟩; subst w1; unfold noneE; simp only [Option.isSome_some, if_true])
    go_region
    go_wp2
    refine bodyPost_ret (results_row_tmp rfl _ _ w.heap.size 56 (clC p.c) (0, 0) _ rfl (set4U X0.out) Tryz.underlying56 rfl size_cl) rfl ?_
    exact ⟨rfl, (below4U B0.out (Nat.le_refl _)).drew⟩
set_option maxHeartbeats 4000000 in
theorem consent_any (h : SAt w B g mc L s d) (t u n : ByteArray) (ht : t.size ≤ maxLen) (hu : u.size ≤ maxLen) (hn : n.size ≤ maxLen) :
    Calls Tryz.prog 35 #[.pointer (some ⟨g, 0, none⟩), .agg #[.string t, .string u], .string n] w fun e w' => e = .returned (.tuple #[.agg (((fB L s t u n).map fun q => coC q.2).getD clC0), .int .i64 (noneE (fB L s t u n).isSome)]) ∧ Below w.heap.size w w' := by
  obtain ⟨W1, hW1⟩ : ∃ W1, W1 = w.alloc (.cells #[.string t, .string u] 30) := ⟨_, rfl⟩
  have b1 : Below w.heap.size w W1 := by rw [hW1]; exact (Below.refl _ w).alloc (Nat.le_refl _) _
  have q0 : W1.heap[w.heap.size]? = some (.cells #[.string t, .string u] 30 (0, 0)) := by rw [hW1]; exact heap_allocN w _
  obtain ⟨W, hW⟩ : ∃ W, W = W1.alloc (.cells #[.string ⟨#[]⟩, .string ⟨#[]⟩, .string ⟨#[]⟩, .int .u8 0] 59) := ⟨_, rfl⟩
  have hsz : W1.heap.size = w.heap.size + 1 := by rw [hW1]; simp
  have b2 : Below W1.heap.size W1 W := by rw [hW]; exact (Below.refl _ W1).alloc (Nat.le_refl _) _
  have b0 : Below w.heap.size w W := Below.on' b1 b2
  have x0 : W.heap[w.heap.size + 1]? = some (.cells #[.string ⟨#[]⟩, .string ⟨#[]⟩, .string ⟨#[]⟩, .int .u8 0] 59 (0, 0)) := by rw [hW, ← hsz]; exact heap_allocN W1 _
  have q1 : W.heap[w.heap.size]? = some (.cells #[.string t, .string u] 30 (0, 0)) := (b2.block _ (heap_lt q0)).trans q0
  have o0 : W.cell? ⟨w.heap.size, 0, none⟩ = some (.string t) := (cell_of_rowU _ _ 0 _ _ _ q1).trans rfl
  have o1 : W.cell? ⟨w.heap.size, 1, none⟩ = some (.string u) := (cell_of_rowU _ _ 1 _ _ _ q1).trans rfl
  have h0 := h.below b0
  have HF := hid (findConsent_any h0 t u n ht hu hn)
  have HW : Hid ((w.alloc (.cells #[.string t, .string u] 30)).alloc (.cells #[.string ⟨#[]⟩, .string ⟨#[]⟩, .string ⟨#[]⟩, .int .u8 0] 59) = W) := by rw [Hid, hW, hW1]
  have B0 := hid b0
  have X0 := hid x0
  have HC := hid (fun (V : World) (hV : Below W.heap.size W V) => (show V.cell? ⟨w.heap.size, 0, none⟩ = some (.string t) ∧ V.cell? ⟨w.heap.size, 1, none⟩ = some (.string u) from by
    have h9 := (hV.block _ (heap_lt q1)).trans q1
    exact ⟨(cell_of_rowU _ _ 0 _ _ _ h9).trans rfl, (cell_of_rowU _ _ 1 _ _ _ h9).trans rfl⟩))
  have HX := hid (fun (V : World) (hV : Below W.heap.size W V) => (hV.block _ (heap_lt x0)).trans x0)
  have HZ := hid (fun (V : World) (hV : V.heap[w.heap.size + 1]? = some (.cells #[.string ⟨#[]⟩, .string ⟨#[]⟩, .string ⟨#[]⟩, .int .u8 0] 59 (0, 0))) => (show V.cell? ⟨w.heap.size + 1, 0, none⟩ = some (.string ⟨#[]⟩) ∧ V.cell? ⟨w.heap.size + 1, 1, none⟩ = some (.string ⟨#[]⟩) ∧ V.cell? ⟨w.heap.size + 1, 2, none⟩ = some (.string ⟨#[]⟩) ∧ V.cell? ⟨w.heap.size + 1, 3, none⟩ = some (.int .u8 0) ∧ V.frozen? ⟨w.heap.size + 1, 0, none⟩ = false ∧ V.frozen? ⟨w.heap.size + 1, 1, none⟩ = false ∧ V.frozen? ⟨w.heap.size + 1, 2, none⟩ = false ∧ V.frozen? ⟨w.heap.size + 1, 3, none⟩ = false from
    ⟨(cell_of_rowU _ _ 0 _ _ _ hV).trans rfl, (cell_of_rowU _ _ 1 _ _ _ hV).trans rfl, (cell_of_rowU _ _ 2 _ _ _ hV).trans rfl, (cell_of_rowU _ _ 3 _ _ _ hV).trans rfl, frozen_of_row _ _ _ _ _ hV, frozen_of_row _ _ _ _ _ hV, frozen_of_row _ _ _ _ _ hV, frozen_of_row _ _ _ _ _ hV⟩))
  cases hf : fB L s t u n with
  | none =>
    rw [hf] at HF
    clear h h0 hW hW1 b0 b1 b2 x0 q0 q1 hf hsz
    go_enter Tryz.func35, Tryz.ntmps35
    go_wp2_with (go_at_call 56; rw [HW.out]; refine HF.out.mono ?_; rintro _ w1 ⟨rfl, b1⟩; have B1 := hid (Below.on' B0.out b1); have X1 := hid (HX.out w1 b1); obtain ⟨y0, y1, y2, y3, z0, z1, z2, z3⟩ := HZ.out w1 X1.out; clear b1; unfold noneE; simp only [Option.isSome_none, Bool.false_eq_true, if_false])
    refine bodyPost_ret (results_row_tmp rfl _ _ (w.heap.size + 1) 59 clC0 (0, 0) _ rfl (set4U X1.out) Tryz.underlying59 rfl size_co) rfl ?_
    exact ⟨rfl, below4U B1.out (by omega)⟩
  | some q =>
    rw [hf] at HF
    obtain ⟨_, _, _, _, rfl, rfl, rfl⟩ := fB_some hf
    simp only [Option.map_some, Option.getD_some, Option.isSome_some] at HF ⊢
    clear h h0 hW hW1 b0 b1 b2 x0 q0 q1 hf hsz
    go_enter Tryz.func35, Tryz.ntmps35
    go_wp2_with (go_at_call 56; rw [HW.out]; refine HF.out.mono ?_; rintro _ w1 ⟨rfl, b1⟩; have B1 := hid (Below.on' B0.out b1); have X1 := hid (HX.out w1 b1); obtain ⟨y0, y1, y2, y3, z0, z1, z2, z3⟩ := HZ.out w1 X1.out; obtain ⟨p0, p1⟩ := HC.out w1 b1; clear b1; unfold noneE; simp only [if_true])
    refine bodyPost_ret (results_row_tmp rfl _ _ (w.heap.size + 1) 59 (coC q.2) (0, 0) _ rfl (set4U X1.out) Tryz.underlying59 rfl size_co) rfl ?_
    exact ⟨rfl, below4U B1.out (by omega)⟩
end
end Go.Proofs.YtlkbojgemcjilaaGreatDoor

/- Grants: hasRoom. -/
namespace Go.Proofs.YtlkbojgemcjilaaGreatDoor
open Go.RowKit Go.Maps
set_option linter.unusedVariables false
set_option maxRecDepth 20000
/-- how often a text stands in a list -/
def cntT (ts : List ByteArray) (t : ByteArray) : Nat := (ts.filter fun x => decide (x = t)).length
/-- the texts of a list, each once -/
def dist : List ByteArray → List ByteArray
  | [] => []
  | t :: ts => if (dist ts).any (fun x => decide (x = t)) then dist ts else t :: dist ts
theorem any_mem (l : List ByteArray) (t : ByteArray) : l.any (fun x => decide (x = t)) = true ↔ t ∈ l := by
  rw [List.any_eq_true]
  exact ⟨fun ⟨x, hx, e⟩ => of_decide_eq_true e ▸ hx, fun h => ⟨t, h, decide_eq_true rfl⟩⟩
theorem dist_mem (ts : List ByteArray) : ∀ t : ByteArray, t ∈ dist ts ↔ t ∈ ts := by
  induction ts with
  | nil => exact fun _ => Iff.rfl
  | cons x ts ih =>
    intro t
    unfold dist
    by_cases h : (dist ts).any (fun y => decide (y = x)) = true
    · rw [if_pos h, ih, List.mem_cons]
      have hx := (ih x).1 ((any_mem _ _).1 h)
      exact ⟨.inr, fun h9 => h9.elim (fun e => by rw [e]; exact hx) id⟩
    · rw [if_neg h, List.mem_cons, List.mem_cons, ih]
theorem dist_nodup (ts : List ByteArray) : (dist ts).Nodup := by
  induction ts with
  | nil => exact List.nodup_nil
  | cons x ts ih =>
    unfold dist
    by_cases h : (dist ts).any (fun y => decide (y = x)) = true
    · rw [if_pos h]; exact ih
    · rw [if_neg h, List.nodup_cons]
      exact ⟨fun hm => h ((any_mem _ _).2 hm), ih⟩
theorem dist_perm {a b : List ByteArray} (h : a.Perm b) : (dist a).length = (dist b).length :=
  ((List.perm_ext_iff_of_nodup (dist_nodup a) (dist_nodup b)).2 fun t => by rw [dist_mem, dist_mem, h.mem_iff]).length_eq
theorem cntT_perm {a b : List ByteArray} (h : a.Perm b) (t : ByteArray) : cntT a t = cntT b t := (h.filter _).length_eq
theorem dist_cons (ts : List ByteArray) (t : ByteArray) : (dist (t :: ts)).length = if ts.any (fun x => decide (x = t)) = true then (dist ts).length else (dist ts).length + 1 := by
  have e : (dist ts).any (fun x => decide (x = t)) = true ↔ ts.any (fun x => decide (x = t)) = true := by rw [any_mem, any_mem, dist_mem]
  conv => lhs; unfold dist
  by_cases h : ts.any (fun x => decide (x = t)) = true
  · rw [if_pos h, if_pos (e.2 h)]
  · rw [if_neg h, if_neg (fun h9 => h (e.1 h9))]
    rfl
theorem cntT_cons (ts : List ByteArray) (x t : ByteArray) : cntT (x :: ts) t = cntT ts t + if x = t then 1 else 0 := by
  unfold cntT
  rw [List.filter_cons]
  by_cases h : x = t
  · simp [h]
  · simp [h]
theorem cntT_le (ts : List ByteArray) (t : ByteArray) : cntT ts t ≤ ts.length := List.length_filter_le _ _
/-- the counts of texts in a map -/
structure Cnt (D : DataW Unit) (ts : List ByteArray) : Prop where
  tidy : Tidy D
  has : ∀ t : ByteArray, Maps.has D (.string t.data.toList) = ts.any fun x => decide (x = t)
  at' : ∀ t : ByteArray, D.atKey (.string t.data.toList) (.lit (.int .i64 0)) = .lit (.int .i64 (cntT ts t : Int))
  size : Maps.size D = (dist ts).length
theorem cnt_new : Cnt (.map []) [] := ⟨tidy_empty, fun _ => rfl, fun _ => rfl, rfl⟩
theorem Cnt.put {D : DataW Unit} {ts : List ByteArray} (h : Cnt D ts) (t : ByteArray) : Cnt (D.put (.string t.data.toList) (.lit (.int .i64 ((cntT ts t + 1 : Nat) : Int)))) (t :: ts) := by
  refine ⟨h.tidy.put (str_lit t) _, fun u => ?_, fun u => ?_, ?_⟩
  · by_cases e : u = t
    · subst e
      rw [has_put_same h.tidy.isMap (str_lit u)]
      simp
    · rw [has_put_other (fun e' => e (str_inj e')), h.has, List.any_cons]
      have : ¬ t = u := fun e' => e e'.symm
      simp [this]
  · by_cases e : u = t
    · subst e
      rw [atKey_put_same h.tidy.isMap (str_lit u), cntT_cons, if_pos rfl]
    · rw [atKey_put_other (fun e' => e (str_inj e')), h.at', cntT_cons, if_neg (fun e' => e e'.symm), Nat.add_zero]
  · rw [size_put h.tidy, h.has, h.size, dist_cons]
/-- the answer -/
def roomR (ts : List ByteArray) (t : ByteArray) : Bool := if cntT ts t = 0 then decide ((dist ts).length < 4) else decide (cntT ts t < 4)
theorem filter_moreU {α : Type} : ∀ {l : List α} {p p' : α → Bool} {x : α}, l.Nodup → x ∈ l → p x = false → p' x = true → (∀ y ∈ l, y ≠ x → p' y = p y) → (l.filter p').Perm (x :: l.filter p)
  | a :: l, p, p', x, hn, hx, h1, h2, h3 => by
    obtain ⟨n1, n2⟩ := List.nodup_cons.1 hn
    by_cases e : a = x
    · subst e
      have hc : l.filter p' = l.filter p := List.filter_congr fun y hy => h3 y (List.mem_cons_of_mem _ hy) (fun e => n1 (e ▸ hy))
      rw [List.filter_cons_of_pos h2, List.filter_cons_of_neg (by rw [h1]; simp), hc]
    · have hx' : x ∈ l := by rcases List.mem_cons.1 hx with h | h; exact absurd h.symm e; exact h
      have ih := filter_moreU n2 hx' h1 h2 (fun y hy => h3 y (List.mem_cons_of_mem _ hy))
      have ha := h3 a List.mem_cons_self e
      cases hp : p a with
      | true => rw [List.filter_cons_of_pos (by rw [ha, hp]), List.filter_cons_of_pos hp]; exact (ih.cons a).trans (List.Perm.swap _ _ _)
      | false => rw [List.filter_cons_of_neg (by rw [ha, hp]; simp), List.filter_cons_of_neg (by rw [hp]; simp)]; exact ih
section
variable {w : World} {B g mc d : Nat} {L : List Reg} {s : GS}
theorem SAt.mem_cs (h : SAt w B g mc L s d) {p : Reg} (hp : p ∈ L) : p.c ∈ s.cs := by rw [← h.cs]; exact List.mem_map.2 ⟨p, hp, rfl⟩
theorem SAt.sizes (h : SAt w B g mc L s d) {p : Reg} (hp : p ∈ L) : p.c.t.size ≤ 9 ∧ p.c.n.size ≤ 9 := by
  obtain ⟨h1, h2, _⟩ := h.ok.names _ (h.mem_cs hp)
  exact ⟨okN_len h1, okN_len h2⟩
theorem SAt.nodup (h : SAt w B g mc L s d) : L.Nodup := by
  have h1 := h.ndr
  unfold List.Nodup at h1 ⊢
  rw [List.pairwise_map] at h1
  exact h1.imp fun hne e => hne (by rw [e])
theorem SAt.key_inj (h : SAt w B g mc L s d) {p q : Reg} (hp : p ∈ L) (hq : q ∈ L) (e : keyP p.c.t p.c.n = keyP q.c.t q.c.n) : p = q := by
  obtain ⟨p1, p2⟩ := h.sizes hp
  obtain ⟨q1, q2⟩ := h.sizes hq
  have e1 := keyP_inj (by unfold maxLen; omega) (by unfold maxLen; omega) (by unfold maxLen; omega) (by unfold maxLen; omega) e
  obtain ⟨e2, e3⟩ := Prod.mk.inj e1
  have hk := h.ok.keys
  rw [← h.cs, List.pairwise_map] at hk
  rcases Classical.em (p = q) with h9 | h9
  · exact h9
  · have : ∀ (l : List Reg), l.Pairwise (fun a b => ¬ (a.c.t = b.c.t ∧ a.c.n = b.c.n)) → p ∈ l → q ∈ l → False := fun l hl => by
      induction l with
      | nil => exact fun h _ => nomatch h
      | cons a l ih =>
        obtain ⟨h1, h2⟩ := List.pairwise_cons.1 hl
        intro hp hq
        rcases List.mem_cons.1 hp with rfl | hp' <;> rcases List.mem_cons.1 hq with rfl | hq'
        · exact h9 rfl
        · exact h1 q hq' ⟨e2, e3⟩
        · exact h1 p hp' ⟨e2.symm, e3.symm⟩
        · exact ih h2 hp' hq'
    exact (this L hk hp hq).elim
/-- one client more has been reached -/
theorem SAt.more (h : SAt w B g mc L s d) {L' : List Reg} {left : Lit → Bool} {p : Reg} (hp : p ∈ L) (hl : left (keyP p.c.t p.c.n) = true) (hL : L'.Perm (L.filter fun p => !left (keyP p.c.t p.c.n))) : (p :: L').Perm (L.filter fun y => !(left (keyP y.c.t y.c.n) && !(keyP y.c.t y.c.n).sameKey (keyP p.c.t p.c.n))) := by
  refine (hL.cons p).trans (filter_moreU h.nodup hp ?_ ?_ ?_).symm
  · rw [hl]; rfl
  · rw [WideAt.sameKey_self (keyP_lit _ _)]; simp
  · intro y hy hne
    rw [sameKey_ne (fun e => hne (h.key_inj hy hp e))]
    simp
end
end Go.Proofs.YtlkbojgemcjilaaGreatDoor

/- Grants: hasRoom walked. -/
namespace Go.Proofs.YtlkbojgemcjilaaGreatDoor
open Go.RowKit Go.Maps
set_option linter.unusedVariables false
set_option maxRecDepth 20000
theorem zeroIntU (w : World) : (zeroValue 3).run Tryz.prog w = .ok (.int .i64 0) w := by kernel_rfl
theorem Cnt.look {w : World} {m n : Nat} {D : DataW Unit} {ts : List ByteArray} (h : w.ownsMap Tryz.prog 9 (plainElem Tryz.prog 3) m n D) (hc : Cnt D ts) (t : ByteArray) (ht : t.size ≤ maxLen) :
    (Instr.lookup 132 (.map (some m)) (.string t) false).run Tryz.prog w = .ok (.int .i64 (cntT ts t : Int)) w := by
  obtain ⟨v, ps, hrun, hv⟩ := h.lookup (z := .int .i64 0) lawStr Tryz.underlying132 (zeroIntU _) (plainElem_int Tryz.underlying3 (by decide)) (Go.WideMaps.keyOf_string_mk Tryz.underlying9 ht)
  obtain ⟨c0, rfl, hc0, _⟩ := plainElem_int_inv Tryz.underlying3 hv
  have e9 : D.atKey (.string t.data.toList) (.lit (.int .i64 0)) = .lit (.int .i64 c0) := congrArg Prod.fst hc0
  rw [hc.at'] at e9
  injection e9 with e9
  injection e9 with _ e9
  rw [hrun, ← e9]
theorem range_ge {w : World} {H : Type} {k : TypeId} {R : Value → Option (DataW H × List MemPlace)} {b r c cnt : Nat} {D : DataW H} {left : Lit → Bool} (hr : w.ranges Tryz.prog k R b r c D left cnt) : ∀ es cl, w.heap[r]? ≠ some (.map es cl) := fun es cl h => by
  obtain ⟨es, clock, since, seen, c0, hb, _, _, _, hrr, _⟩ := hr
  rw [hrr] at h
  cases h
theorem map_ne {w : World} {H : Type} {k k2 : TypeId} {R : Value → Option (DataW H × List MemPlace)} {b r c cnt m n : Nat} {D : DataW H} {left : Lit → Bool} (hr : w.ranges Tryz.prog k R b r c D left cnt) {D2 : DataW Unit} {R2 : Value → Option (DataW Unit × List MemPlace)} (hm : w.ownsMap Tryz.prog k2 R2 m n D2) : m ≠ r := fun e => by
  obtain ⟨es, cl, hb, _⟩ := hm
  rw [e] at hb
  exact range_ge hr es cl hb
section
variable {w : World} {B g mc d : Nat} {L : List Reg} {s : GS}
set_option maxHeartbeats 4000000 in
theorem hasRoom_any (h : SAt w B g mc L s d) (hd : d ≤ 17592186044416) (t : ByteArray) (ht : t.size ≤ maxLen) (hl9 : L.length ≤ 100000) :
    Calls Tryz.prog 73 #[.pointer (some ⟨g, 0, none⟩), .string t] w fun e w' => e = .returned (.bool (roomR (L.map (·.c.t)) t)) ∧ Below w.heap.size w w' := by
  have H := hid h
  unfold roomR
  obtain ⟨K, hK⟩ : ∃ K, K = cntT (L.map (·.c.t)) t := ⟨_, rfl⟩
  obtain ⟨Q, hQ⟩ : ∃ Q, Q = (dist (L.map (·.c.t))).length := ⟨_, rfl⟩
  rw [← hK, ← hQ]
  have HK := hid hK
  have HQ := hid hQ
  obtain ⟨W, hW⟩ : ∃ W, W = w.alloc (.map #[] 0) := ⟨_, rfl⟩
  have b0 : Below w.heap.size w W := by rw [hW]; exact (Below.refl _ w).alloc (Nat.le_refl _) _
  have hm0 : W.ownsMap Tryz.prog 9 (plainElem (H := Unit) Tryz.prog 3) w.heap.size 0 (.map []) := by rw [hW]; exact World.ownsMap_made w _ _ _
  have h0 := h.below b0
  obtain ⟨nv, V, hcm, hnv, hV⟩ := h0.cm
  have c0 := h0.c0
  have hmk : ¬ mc = w.heap.size := by
    obtain ⟨n1, V1, q1, _⟩ := h.cm
    have := q1.lt
    omega
  have HW := hid hW.symm
  have B0 := hid b0
  have HM := hid hm0
  have HCM := hid hcm
  have HV := hid hV
  have hsz : W.heap.size = w.heap.size + 1 := by rw [hW]; simp
  have Hsz := hid hsz
  have Hmk := hid hmk
  have hmm := @run_makeMap Tryz.prog
  rw [hW] at c0
  clear h h0 hW b0 hm0 hcm hV hsz hmk hK hQ
  go_enter Tryz.func73, Tryz.ntmps73
  go_wp2_with (first
    | (at_range; rw [HW.out]; refine wpList_range_own _ rfl _ 47 rfl 62 63 lawPlace Tryz.underlying47 _ mc nv _ rfl HCM.out ?_; intro w3 hrg3 hg3 hs3)
    | go_in)
  go_frame
  clear c0
  go_loopw [6] (fun v wr => ∃ (left : Lit → Bool) (cnt : Nat) (L' : List Reg) (D : DataW Unit), wr.ranges Tryz.prog 62 RV mc W.heap.size nv V left cnt ∧ wr.ownsMap Tryz.prog 9 (plainElem Tryz.prog 3) w.heap.size L'.length D ∧ Cnt D (L'.map (·.c.t)) ∧ L'.Perm (L.filter fun p => !left (keyP p.c.t p.c.n)) ∧ Below w.heap.size w wr) (fun _ wr => wr.rangeLeft mc W.heap.size)
  case atStart =>
    refine ⟨_, _, [], .map [], hrg3, ?_, cnt_new, ?_, ?_⟩
    · exact HM.out.kept hg3 (by simp)
    · rw [List.filter_eq_nil_iff.2 fun p hp => ?_]
      obtain ⟨p1, p2⟩ := H.out.sizes hp
      rw [HV.out.has _ _ (by unfold maxLen; omega) (by unfold maxLen; omega), List.any_eq_true.2 ⟨p, hp, decide_eq_true ⟨rfl, rfl⟩⟩]
      simp
    · exact B0.out.trans ⟨hg3.os, hg3.tape, hg3.output, hg3.size, fun k hk => hg3.block k (by have := B0.out.size; omega) (by simp)⟩
  case round =>
    obtain ⟨left, cnt, L', D, hrg, hmp, hcn, hpm, hb⟩ := hrel
    have HL := hid hrg.left_eq
    have Hmp := hid hmp
    have Hcn := hid hcn
    have Hpm := hid hpm
    have Hb := hid hb
    clear hmp hcn hpm hb hrg3 hg3 hs3
    go_wp2_with (first
      | (at_next; refine wpList_next_ranges (α := ByteArray × ByteArray) (β := Value) _ rfl _ rfl 62 lawPlace RV (fun x => .agg #[.string x.1, .string x.2]) (fun v => v) (fun key kl hk => by obtain ⟨a, b, rfl, _⟩ := place_inv hk; exact ⟨(a, b), rfl⟩) (fun v y hv => ⟨v, rfl⟩) mc W.heap.size nv _ _ _ rfl hrg ?_ ?_)
      | go_in)
    · intro _ hl0
      have hLp : L'.Perm L := by
        have h1 := Hpm.out
        rw [List.filter_eq_self.2 (fun t _ => by rw [hl0]; rfl)] at h1
        exact h1
      have hlk := Hcn.out.look Hmp.out t ht
      rw [cntT_perm (hLp.map _) t] at hlk
      have hlen := Hmp.out.len Tryz.underlying132 3
      rw [Hcn.out.size, dist_perm (hLp.map _)] at hlen
      rw [← HK.out] at hlk
      rw [← HQ.out] at hlen
      clear hl0 hrg hLp
      by_cases hk0 : K = 0
      · subst hk0
        go_wp2_with go_in
        go_ret
        exact ⟨ret_bool (by simp; omega), Hb.out⟩
      · have d0 : ((K : Int) == 0) = false := by simp; omega
        have Hk0 := hid hk0
        clear hk0
        go_wp2_with go_in
        go_ret
        exact ⟨ret_bool (by simp; omega), Hb.out⟩
    · intro t2 u c kl y1 y2 w6 cnt' hk hl hv hat hrg6 hlt hg6 hs6 hen
      obtain ⟨t9, u9, e1, rfl, l1, l2⟩ := place_inv hk
      obtain ⟨rfl, rfl⟩ : t2 = t9 ∧ u = u9 := by simpa using e1
      clear e1
      obtain ⟨p, hp, e3, e4⟩ : ∃ p ∈ L, p.c.t = t2 ∧ p.c.n = u := by
        have h2 := Maps.has_true_of_atKey hat
        rw [HV.out.has _ _ l1 l2] at h2
        obtain ⟨p, hp1, hp2⟩ := List.any_eq_true.1 h2
        have e9 := of_decide_eq_true hp2
        exact ⟨p, hp1, e9.1, e9.2⟩
      have hmore := H.out.more hp (by rw [e3, e4]; exact hl) Hpm.out
      rw [e3, e4] at hmore
      have hlen : L'.length ≤ 100000 := by
        have h3 := Hpm.out.length_eq
        have h6 := List.length_filter_le (fun p : Reg => !left (keyP p.c.t p.c.n)) L
        omega
      have b6 := hid (Hb.out.trans ⟨hg6.os, hg6.tape, hg6.output, hg6.size, fun k hk => hg6.block k (by have := Hb.out.size; omega) (fun e => by cases e; have := Hsz.out; omega)⟩)
      have O6 := hid ((Hmp.out.kept hg6 (fun e => map_ne hrg Hmp.out (Option.some.inj e))).alloc (.cells #[.string t2, .string u] 62))
      have Hrg6 := hid (hrg6.alloc (.cells #[.string t2, .string u] 62))
      have hlk := Hcn.out.look O6.out t2 l1
      have Hlt := hid hlt
      have Hmore := hid hmore
      have Hkl := hid (Go.WideMaps.keyOf_string_mk Tryz.underlying9 (s := t2) l1)
      have hcl := cntT_le (L'.map (·.c.t)) t2
      rw [List.length_map] at hcl
      have Hcp := hid (Hcn.out.put t2)
      obtain ⟨k, hk9⟩ : ∃ k, k = cntT (L'.map (·.c.t)) t2 := ⟨_, rfl⟩
      rw [← hk9] at hlk hcl Hcp
      have hwf : (Lit.int .i64 ((k + 1 : Nat) : Int)).wf = true := by simp [Lit.wf, IntKind.min, IntKind.max, IntKind.signed, IntKind.bits]; omega
      have Hwf := hid hwf
      have hka : ((k : Int) + 1) = ((k + 1 : Nat) : Int) := by omega
      have Hka := hid hka
      have Et : Hid (p.c.t = t2) := e3
      clear hk hat hrg6 hlt hg6 hl hrg hmore hp e4 hv hk9 hwf hka hs6 e3
      go_wp2_with (first
        | (at_mapUpdate; rw [Hka.out]; refine wpList_mapUpdate_own _ rfl _ _ _ 132 rfl 9 3 lawStr Tryz.underlying132 _ w.heap.size L'.length D rfl O6.out (by unfold maxLen; omega) _ _ _ rfl rfl Hkl.out _ [] (plainElem_int Tryz.underlying3 Hwf.out) ?_; intro w8 hown8 hg8)
        | go_in)
      have nr := map_ne Hrg6.out O6.out
      have R8 := Hrg6.out.kept hg8 (fun e => Hmk.out (Option.some.inj e)) (fun e => nr (Option.some.inj e).symm)
      have c8 := b6.out.alloc b6.out.size (.cells #[.string t2, .string u] 62)
      simp only [Act.put]
      go_roundw
      case rel =>
        refine ⟨_, _, p :: L', _, R8, hown8, ?_, Hmore.out, c8.trans ((Below.refl _ _).grown hg8 c8.size (fun q hq => by cases hq; exact Nat.le_refl _))⟩
        rw [List.map_cons, Et.out]
        exact Hcp.out
      case measure =>
        rw [R8.left_eq, HL.out]
        exact Hlt.out
end
end Go.Proofs.YtlkbojgemcjilaaGreatDoor

/- Grants: registerError. -/
namespace Go.Proofs.YtlkbojgemcjilaaGreatDoor
open Go.RowKit Go.Maps
set_option linter.unusedVariables false
set_option maxRecDepth 20000
def regE (L : List Reg) (c : Cl) : Nat :=
  if (okN c.t && okN c.n) = false then 8 else if 24 < c.r.size then 6 else if (fC L c.t c.n).isSome = true then 5 else if roomR (L.map (·.c.t)) c.t = false then 24 else 0
structure ClIn (c : Cl) : Prop where
  t : c.t.size ≤ 9223372036854775807
  n : c.n.size ≤ 9223372036854775807
  r : c.r.size ≤ 9223372036854775807
  sc : c.sc ≤ 255
theorem isName_q (t : ByteArray) (w : World) (ht : t.size ≤ 9223372036854775807) : Calls Tryz.prog 72 #[.string t] w fun e w' => e = .returned (.bool (okN t)) ∧ w' = w := isName_any t w (by unfold maxLen; omega)
section
variable {w : World} {B g mc d : Nat} {L : List Reg} {s : GS}
set_option maxHeartbeats 4000000 in
theorem registerError_any (h : SAt w B g mc L s d) (hd : d ≤ 17592186044416) (hl9 : L.length ≤ 100000) (c : Cl) (hc : ClIn c) :
    Calls Tryz.prog 53 #[.pointer (some ⟨g, 0, none⟩), .agg (clC c)] w fun e w' => e = .returned (.int .i64 (regE L c : Nat)) ∧ Below w.heap.size w w' := by
  obtain ⟨W, hW⟩ : ∃ W, W = w.alloc (.cells (clC c) 56) := ⟨_, rfl⟩
  have b0 : Below w.heap.size w W := by rw [hW]; exact (Below.refl _ w).alloc (Nat.le_refl _) _
  have x0 : W.heap[w.heap.size]? = some (.cells (clC c) 56 (0, 0)) := by rw [hW]; exact heap_allocN w _
  have h0 := h.below b0
  have y0 : W.cell? ⟨w.heap.size, 0, none⟩ = some (.string c.t) := (cell_of_rowU _ _ 0 _ _ _ x0).trans rfl
  have y1 : W.cell? ⟨w.heap.size, 1, none⟩ = some (.string c.n) := (cell_of_rowU _ _ 1 _ _ _ x0).trans rfl
  have y2 : W.cell? ⟨w.heap.size, 2, none⟩ = some (.string c.r) := (cell_of_rowU _ _ 2 _ _ _ x0).trans rfl
  have c0 := h0.c0
  have hlk : ∀ q, (Instr.lookup 47 (.map (some mc)) (.agg #[.string c.t, .string c.n]) true).run Tryz.prog (W.drewN q) = .ok (.tuple #[.pointer ((fC L c.t c.n).map fun p => ⟨p.r, 0, none⟩), .bool (fC L c.t c.n).isSome]) (W.drewN q) := fun q => (h0.below (below_dN _ _ q)).look _ _ (by have := hc.t; unfold maxLen; omega) (by have := hc.n; unfold maxLen; omega)
  have HR := hid (fun (q : Nat) => hasRoom_any (h0.below (below_dN W.heap.size W q)) hd c.t (by have := hc.t; unfold maxLen; omega) hl9)
  have HW := hid hW.symm
  have B0 := hid b0
  have HN1 := hid (fun (V : World) => isName_q c.t V hc.t)
  have HN2 := hid (fun (V : World) => isName_q c.n V hc.n)
  have hr9 := hc.r
  have Ht9 := hid (And.intro hc.t hc.n)
  have Y := hid (And.intro y0 (And.intro y1 c0))
  rw [hW] at y0 y1 y2 c0
  unfold clC at HW ⊢
  obtain ⟨E, hE⟩ : ∃ E, E = regE L c := ⟨_, rfl⟩
  rw [← hE]
  unfold regE at hE
  generalize okN c.t = o1 at *
  generalize okN c.n = o2 at *
  generalize (fC L c.t c.n).isSome = o3 at *
  generalize ((fC L c.t c.n).map fun p => (⟨p.r, 0, none⟩ : Addr)) = op at *
  generalize roomR (L.map (·.c.t)) c.t = o4 at *
  have HE := hid hE
  clear h h0 hW b0 x0 hc hE
  obtain ⟨t, n, r, sc⟩ := c
  simp only at *
  have hlk0 := hlk 0
  cases o1
  · go_enter Tryz.func53, Tryz.ntmps53
    go_wp2_with (go_at_call 72; refine (HN1.out _).mono ?_; rintro _ w9 ⟨rfl, e9⟩; subst w9)
    go_ret
    rw [HW.out]
    exact ⟨by rw [HE.out]; rfl, B0.out⟩
  · cases o2
    · go_enter Tryz.func53, Tryz.ntmps53
      go_wp2_with (first
        | (go_at_call 72; refine (HN1.out _).mono ?_; rintro _ w9 ⟨rfl, e9⟩; subst w9; clear HN1)
        | (go_at_call 72; refine (HN2.out _).mono ?_; rintro _ w9 ⟨rfl, e9⟩; subst w9; clear HN2))
      go_ret
      rw [HW.out]
      exact ⟨by rw [HE.out]; rfl, B0.out⟩
    · by_cases hr : 24 < r.size
      · have d1 : decide ((24 : Int) < (r.size : Int)) = true := by simp; omega
        have Hr := hid hr
        clear hr
        go_enter Tryz.func53, Tryz.ntmps53
        go_wp2_with (first
          | (go_at_call 72; refine (HN1.out _).mono ?_; rintro _ w9 ⟨rfl, e9⟩; subst w9; clear HN1)
          | (go_at_call 72; refine (HN2.out _).mono ?_; rintro _ w9 ⟨rfl, e9⟩; subst w9; clear HN2))
        go_ret
        rw [HW.out]
        exact ⟨by rw [HE.out, if_neg (by simp), if_pos Hr.out]; rfl, B0.out⟩
      · have d1 : decide ((24 : Int) < (r.size : Int)) = false := by simp; omega
        have Hr := hid hr
        clear hr
        go_enter Tryz.func53, Tryz.ntmps53
        go_wp2_with (first
          | (go_at_call 72; refine (HN1.out _).mono ?_; rintro _ w9 ⟨rfl, e9⟩; subst w9; clear HN1)
          | (go_at_call 72; refine (HN2.out _).mono ?_; rintro _ w9 ⟨rfl, e9⟩; subst w9; clear HN2))
        rw [HW.out]
        obtain ⟨v0, v1, v2⟩ := Y.out
        clear y0 y1 y2 c0
        cases o3
        · go_quiet (fail)
          cases o4
          · have hE9 : Hid (E = 24) := hid (by rw [HE.out]; simp [Hr.out])
            go_wp2_with (go_at_call 73; refine (HR.out _).mono ?_; rintro _ w1 ⟨rfl, b1⟩)
            go_ret
            exact ⟨by rw [hE9.out]; rfl, Below.on' (B0.out.trans (below_dN _ _ _)) b1⟩
          · have hE9 : Hid (E = 0) := hid (by rw [HE.out]; simp [Hr.out])
            go_wp2_with (go_at_call 73; refine (HR.out _).mono ?_; rintro _ w1 ⟨rfl, b1⟩)
            go_ret
            exact ⟨by rw [hE9.out]; rfl, Below.on' (B0.out.trans (below_dN _ _ _)) b1⟩
        · have hE9 : Hid (E = 5) := hid (by rw [HE.out]; simp [Hr.out])
          go_quiet (fail)
          go_wp2
          go_ret
          exact ⟨by rw [hE9.out]; rfl, B0.out.trans (below_dN _ _ _)⟩
end
end Go.Proofs.YtlkbojgemcjilaaGreatDoor
