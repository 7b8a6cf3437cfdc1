/- YthfmpebgmojcaaaDoorU23 + YthfmpebgmojcaaaDoorU24 + YthfmpebgmojcaaaDoorU25 -/
import Derived.Test.YthfmpebgmojcaaaDoorU22
/- Grants: a nil store. -/
namespace Go.Proofs.YthfmpebgmojcaaaDoor.Gr
open Go.RowKit Go.Maps
set_option linter.unusedVariables false
set_option maxRecDepth 20000
theorem find_nil (t n : ByteArray) (w : World) : Calls Tryd.prog 56 #[.pointer none, .string t, .string n] w fun e w' => e = .returned (.tuple #[.pointer none, .int .i64 1]) ∧ w' = w := by
  go_enter Tryd.func56, Tryd.ntmps56
  go_wp2
  go_ret2
  exact ⟨rfl, rfl⟩
theorem findConsent_nil (t u n : ByteArray) (w : World) : Calls Tryd.prog 62 #[.pointer none, .agg #[.string t, .string u], .string n] w fun e w' => e = .returned (.tuple #[.pointer none, .int .u8 0, .int .i64 1]) ∧ Below w.heap.size w w' := by
  obtain ⟨W, hW⟩ : ∃ W, W = w.alloc (.cells #[.string t, .string u] 45) := ⟨_, rfl⟩
  have b0 : Below w.heap.size w W := by rw [hW]; exact (Below.refl _ w).alloc (Nat.le_refl _) _
  have o0 : W.cell? ⟨w.heap.size, 0, none⟩ = some (.string t) := by rw [hW]; exact (cell_of_rowU _ _ 0 _ _ _ (heap_allocN w _)).trans rfl
  have HW := hid hW.symm
  have B0 := hid b0
  rw [hW] at o0
  clear hW b0
  go_enter Tryd.func62, Tryd.ntmps62
  go_wp2_with (go_at_call 56; rw [HW.out]; refine (find_nil _ _ _).mono ?_; rintro _ w1 ⟨rfl, e1⟩; subst w1)
  go_ret3
  exact ⟨rfl, B0.out⟩
theorem registerError_nil (c : Cl) (w : World) : Calls Tryd.prog 54 #[.pointer none, .agg (clC c)] w fun e w' => e = .returned (.int .i64 1) ∧ Below w.heap.size w w' := by
  unfold clC
  go_enter Tryd.func54, Tryd.ntmps54
  go_wp2
  go_ret
  exact ⟨rfl, (Below.refl _ w).alloc (Nat.le_refl _) _⟩
theorem register_nil (c : Cl) (w : World) : Calls Tryd.prog 17 #[.pointer none, .agg (clC c)] w fun e w' => e = .returned (.int .i64 1) ∧ Below w.heap.size w w' := by
  have HE := hid (fun (V : World) => registerError_nil c V)
  have b0 := hid ((Below.refl _ w).alloc (Nat.le_refl _) (.cells (clC c) 49))
  unfold clC at HE b0 ⊢
  go_enter Tryd.func17, Tryd.ntmps17
  go_wp2_with (go_at_call 54; refine (HE.out _).mono ?_; rintro _ w1 ⟨rfl, b1⟩; have B1 := hid (Below.on' b0.out b1); clear b1)
  go_ret
  exact ⟨rfl, B1.out⟩
theorem drop_nil (t n : ByteArray) (w : World) : Calls Tryd.prog 19 #[.pointer none, .string t, .string n] w fun e w' => e = .returned (.int .i64 1) ∧ w' = w := by
  go_enter Tryd.func19, Tryd.ntmps19
  go_wp2_with (go_at_call 56; refine (find_nil _ _ _).mono ?_; rintro _ w1 ⟨rfl, e1⟩; subst w1)
  go_ret
  exact ⟨rfl, rfl⟩
theorem allow_nil (c : Co) (w : World) : Calls Tryd.prog 18 #[.pointer none, .agg (coC c)] w fun e w' => e = .returned (.int .i64 1) ∧ Below w.heap.size w w' := by
  unfold coC
  go_enter Tryd.func18, Tryd.ntmps18
  go_wp2
  go_ret
  exact ⟨rfl, (Below.refl _ w).alloc (Nat.le_refl _) _⟩
theorem client_nil (t n : ByteArray) (w : World) : Calls Tryd.prog 22 #[.pointer none, .string t, .string n] w fun e w' => e = .returned (.tuple #[.agg clC0, .int .i64 1]) ∧ Below w.heap.size w w' := by
  obtain ⟨W, hW⟩ : ∃ W, W = w.alloc (.cells #[.string ⟨#[]⟩, .string ⟨#[]⟩, .string ⟨#[]⟩, .int .u8 0] 49) := ⟨_, rfl⟩
  have b0 : Below w.heap.size w W := by rw [hW]; exact (Below.refl _ w).alloc (Nat.le_refl _) _
  have x0 : W.heap[w.heap.size]? = some (.cells #[.string ⟨#[]⟩, .string ⟨#[]⟩, .string ⟨#[]⟩, .int .u8 0] 49 (0, 0)) := by rw [hW]; exact heap_allocN w _
  have z0 : W.cell? ⟨w.heap.size, 0, none⟩ = some (.string ⟨#[]⟩) ∧ W.cell? ⟨w.heap.size, 1, none⟩ = some (.string ⟨#[]⟩) ∧ W.cell? ⟨w.heap.size, 2, none⟩ = some (.string ⟨#[]⟩) ∧ W.cell? ⟨w.heap.size, 3, none⟩ = some (.int .u8 0) := ⟨(cell_of_rowU _ _ 0 _ _ _ x0).trans rfl, (cell_of_rowU _ _ 1 _ _ _ x0).trans rfl, (cell_of_rowU _ _ 2 _ _ _ x0).trans rfl, (cell_of_rowU _ _ 3 _ _ _ x0).trans rfl⟩
  have zf : W.frozen? ⟨w.heap.size, 0, none⟩ = false ∧ W.frozen? ⟨w.heap.size, 1, none⟩ = false ∧ W.frozen? ⟨w.heap.size, 2, none⟩ = false ∧ W.frozen? ⟨w.heap.size, 3, none⟩ = false := ⟨frozen_of_row _ _ _ _ _ x0, frozen_of_row _ _ _ _ _ x0, frozen_of_row _ _ _ _ _ x0, frozen_of_row _ _ _ _ _ x0⟩
  obtain ⟨y0, y1, y2, y3⟩ := z0
  obtain ⟨f0, f1, f2, f3⟩ := zf
  have HW := hid hW.symm
  have B0 := hid b0
  have X0 := hid x0
  clear hW b0 x0
  go_enter Tryd.func22, Tryd.ntmps22
  go_wp2_with (go_at_call 56; rw [HW.out]; refine (find_nil _ _ _).mono ?_; rintro _ w1 ⟨rfl, e1⟩; subst w1)
  refine bodyPost_ret (results_row_tmp rfl _ _ w.heap.size 49 clC0 (0, 0) _ rfl (set4U X0.out) Tryd.underlying49 rfl size_cl) rfl ?_
  exact ⟨rfl, below4U B0.out (Nat.le_refl _)⟩
theorem consent_nil (t u n : ByteArray) (w : World) : Calls Tryd.prog 21 #[.pointer none, .agg #[.string t, .string u], .string n] w fun e w' => e = .returned (.tuple #[.agg clC0, .int .i64 1]) ∧ Below w.heap.size w w' := by
  obtain ⟨W1, hW1⟩ : ∃ W1, W1 = w.alloc (.cells #[.string t, .string u] 45) := ⟨_, rfl⟩
  obtain ⟨W, hW⟩ : ∃ W, W = W1.alloc (.cells #[.string ⟨#[]⟩, .string ⟨#[]⟩, .string ⟨#[]⟩, .int .u8 0] 52) := ⟨_, rfl⟩
  have hsz : W1.heap.size = w.heap.size + 1 := by rw [hW1]; simp
  have b1 : Below w.heap.size w W1 := by rw [hW1]; exact (Below.refl _ w).alloc (Nat.le_refl _) _
  have b0 : Below w.heap.size w W := by rw [hW]; exact b1.alloc b1.size _
  have x0 : W.heap[w.heap.size + 1]? = some (.cells #[.string ⟨#[]⟩, .string ⟨#[]⟩, .string ⟨#[]⟩, .int .u8 0] 52 (0, 0)) := by rw [hW, ← hsz]; exact heap_allocN W1 _
  have q1 : W.heap[w.heap.size]? = some (.cells #[.string t, .string u] 45 (0, 0)) := by
    have h9 : W1.heap[w.heap.size]? = some (.cells #[.string t, .string u] 45 (0, 0)) := by rw [hW1]; exact heap_allocN w _
    rw [hW]
    exact (((Below.refl _ W1).alloc (Nat.le_refl _) _).block _ (heap_lt h9)).trans h9
  have o0 : W.cell? ⟨w.heap.size, 0, none⟩ = some (.string t) := (cell_of_rowU _ _ 0 _ _ _ q1).trans rfl
  have o1 : W.cell? ⟨w.heap.size, 1, none⟩ = some (.string u) := (cell_of_rowU _ _ 1 _ _ _ q1).trans rfl
  have HW : Hid ((w.alloc (.cells #[.string t, .string u] 45)).alloc (.cells #[.string ⟨#[]⟩, .string ⟨#[]⟩, .string ⟨#[]⟩, .int .u8 0] 52) = W) := by rw [Hid, hW, hW1]
  have B0 := hid b0
  have X0 := hid x0
  have HX := hid (fun (V : World) (hV : Below W.heap.size W V) => (hV.block _ (heap_lt x0)).trans x0)
  have HZ := hid (fun (V : World) (hV : V.heap[w.heap.size + 1]? = some (.cells #[.string ⟨#[]⟩, .string ⟨#[]⟩, .string ⟨#[]⟩, .int .u8 0] 52 (0, 0))) => (show V.cell? ⟨w.heap.size + 1, 0, none⟩ = some (.string ⟨#[]⟩) ∧ V.cell? ⟨w.heap.size + 1, 1, none⟩ = some (.string ⟨#[]⟩) ∧ V.cell? ⟨w.heap.size + 1, 2, none⟩ = some (.string ⟨#[]⟩) ∧ V.cell? ⟨w.heap.size + 1, 3, none⟩ = some (.int .u8 0) ∧ V.frozen? ⟨w.heap.size + 1, 0, none⟩ = false ∧ V.frozen? ⟨w.heap.size + 1, 1, none⟩ = false ∧ V.frozen? ⟨w.heap.size + 1, 2, none⟩ = false ∧ V.frozen? ⟨w.heap.size + 1, 3, none⟩ = false from
    ⟨(cell_of_rowU _ _ 0 _ _ _ hV).trans rfl, (cell_of_rowU _ _ 1 _ _ _ hV).trans rfl, (cell_of_rowU _ _ 2 _ _ _ hV).trans rfl, (cell_of_rowU _ _ 3 _ _ _ hV).trans rfl, frozen_of_row _ _ _ _ _ hV, frozen_of_row _ _ _ _ _ hV, frozen_of_row _ _ _ _ _ hV, frozen_of_row _ _ _ _ _ hV⟩))
  clear hW hW1 b0 b1 x0 q1 hsz
  go_enter Tryd.func21, Tryd.ntmps21
  go_wp2_with (go_at_call 62; rw [HW.out]; refine (findConsent_nil _ _ _ _).mono ?_; rintro _ w1 ⟨rfl, b1⟩; have B1 := hid (Below.on' B0.out b1); have X1 := hid (HX.out w1 b1); obtain ⟨y0, y1, y2, y3, z0, z1, z2, z3⟩ := HZ.out w1 X1.out; clear b1)
  refine bodyPost_ret (results_row_tmp rfl _ _ (w.heap.size + 1) 52 clC0 (0, 0) _ rfl (set4U X1.out) Tryd.underlying52 rfl size_co) rfl ?_
  exact ⟨rfl, below4U B1.out (by omega)⟩
theorem clients_nil (t : ByteArray) (w : World) : Calls Tryd.prog 86 #[.pointer none, .string t] w fun e w' => e = .returned (.slice none 0 0) ∧ Below w.heap.size w w' := by
  go_enter Tryd.func86, Tryd.ntmps86
  go_wp2
  go_ret
  exact ⟨rfl, Below.refl _ w⟩
theorem consents_nil (t u : ByteArray) (w : World) : Calls Tryd.prog 58 #[.pointer none, .agg #[.string t, .string u]] w fun e w' => e = .returned (.slice none 0 0) ∧ Below w.heap.size w w' := by
  obtain ⟨W, hW⟩ : ∃ W, W = w.alloc (.cells #[.string t, .string u] 45) := ⟨_, rfl⟩
  have b0 : Below w.heap.size w W := by rw [hW]; exact (Below.refl _ w).alloc (Nat.le_refl _) _
  have x0 : W.heap[w.heap.size]? = some (.cells #[.string t, .string u] 45 (0, 0)) := by rw [hW]; exact heap_allocN w _
  have o0 : W.cell? ⟨w.heap.size, 0, none⟩ = some (.string t) := (cell_of_rowU _ _ 0 _ _ _ x0).trans rfl
  have HW := hid hW.symm
  have B0 := hid b0
  rw [hW] at o0
  clear hW b0 x0
  go_enter Tryd.func58, Tryd.ntmps58
  go_wp2_with (go_at_call 86; rw [HW.out]; refine (clients_nil _ _).mono ?_; rintro _ w1 ⟨rfl, b1⟩; have B1 := hid (Below.on' B0.out b1); clear b1)
  go_loopw [5, 7, 8, 9, 15] (fun v5 _ _ _ i wr => v5 = .slice none 0 0 ∧ i = .int .i64 0 ∧ Below w.heap.size w wr) (fun _ _ _ _ _ _ => 0)
  case atStart => exact ⟨rfl, rfl, B1.out⟩
  case round =>
    obtain ⟨rfl, rfl, hb⟩ := hrel
    have Hb := hid hb
    clear hb
    go_wp2
    go_ret
    exact ⟨rfl, Hb.out⟩
end Go.Proofs.YthfmpebgmojcaaaDoor.Gr

/- Grants: the calls by the store's state alone. -/
namespace Go.Proofs.YthfmpebgmojcaaaDoor.Gr
open Go.RowKit Go.Maps
set_option linter.unusedVariables false
set_option maxRecDepth 20000
def findC (s : GS) (t n : ByteArray) : Option Cl := s.cs.find? (isC t n)
theorem fC_map {L : List Reg} {s : GS} (h : L.map (·.c) = s.cs) (t n : ByteArray) : (fC L t n).map (·.c) = findC s t n := by
  unfold findC fC
  rw [← h, List.find?_map]
  rfl
theorem fC_isSome {L : List Reg} {s : GS} (h : L.map (·.c) = s.cs) (t n : ByteArray) : (fC L t n).isSome = (findC s t n).isSome := by
  rw [← fC_map h, Option.isSome_map]
def regEs (s : GS) (c : Cl) : Nat :=
  if (okN c.t && okN c.n) = false then 8 else if 24 < c.r.size then 6 else if (findC s c.t c.n).isSome = true then 5 else if roomR (s.cs.map (·.t)) c.t = false then 24 else 0
def GS.reg (s : GS) (c : Cl) : GS := if regEs s c = 0 then s.addC c else s
def narRs (s : GS) (t n : ByteArray) (m : Nat) : Nat := ((findC s t n).map fun c => c.sc &&& m).getD 0
def allEs (s : GS) (a : Co) : Nat :=
  if (okN a.t && okN a.u) = false then 8 else match findC s a.t a.n with
    | none => 4
    | some c => if nar a.sc c.sc = false then 14 else if (fA s a.t a.u a.n).isSome = false ∧ 4 ≤ consN s a.t a.u then 25 else 0
def GS.alw (s : GS) (a : Co) : GS := if allEs s a = 0 then s.putA a else s
def mayRs (s : GS) (t u n r : ByteArray) (sc : Nat) : Nat := match findC s t n, fA s t u n with
  | some c, some a => if r = c.r then (if nar sc a.sc then 0 else 14) else 10
  | _, _ => 4
section
variable {L : List Reg} {s : GS}
theorem regE_s (h : L.map (·.c) = s.cs) (c : Cl) : regE L c = regEs s c := by
  unfold regE regEs
  rw [fC_isSome h, ← h, List.map_map]
  rfl
theorem regS_s (h : L.map (·.c) = s.cs) (c : Cl) : regS L s c = s.reg c := by
  unfold regS GS.reg
  rw [regE_s h]
theorem narR_s (h : L.map (·.c) = s.cs) (t n : ByteArray) (m : Nat) : narR L t n m = narRs s t n m := by
  unfold narR narRs
  rw [← fC_map h, Option.map_map]
  rfl
theorem allE_s (h : L.map (·.c) = s.cs) (a : Co) : allE L s a = allEs s a := by
  unfold allE allEs
  rw [← fC_map h]
  cases fC L a.t a.n with
  | none => rfl
  | some p => rfl
theorem alw_s (h : L.map (·.c) = s.cs) (a : Co) : s.allow L a = s.alw a := by
  unfold GS.allow GS.alw
  rw [allE_s h]
theorem mayR_s (h : L.map (·.c) = s.cs) (t u n r : ByteArray) (sc : Nat) : mayR L s t u n r sc = mayRs s t u n r sc := by
  unfold mayR mayRs fB
  rw [← fC_map h]
  cases fC L t n with
  | none => rfl
  | some p =>
    cases fA s t u n with
    | none => rfl
    | some a => rfl
end
/-- the kinds of block that a store is made of -/
def PT (w : World) (k : Nat) : Prop := (∃ es c, w.heap[k]? = some (.map es c)) ∨ ∃ cs T fr, w.heap[k]? = some (.cells cs T fr) ∧ (T = 105 ∨ T = 109)
/-- a store in memory, its inside hidden; X: a set of blocks that its calls may change -/
structure GP (w : World) (B g : Nat) (s : GS) (c d : Nat) (X : Nat → Prop) : Prop where
  at' : ∃ mc L, SAt w B g mc L s d ∧ ∀ k, X k ↔ MineU g mc L k
  cl : s.cs.length ≤ c
  al : s.al.length ≤ d
  base : B ≤ w.heap.size
section
variable {w w' : World} {B g c d : Nat} {s : GS} {X : Nat → Prop}
theorem SAt.mine_lt {mc : Nat} {L : List Reg} (h : SAt w B g mc L s d) : ∀ k, MineU g mc L k → k < w.heap.size := fun k hk => by
  rcases hk with rfl | rfl | ⟨p, hp, rfl | rfl⟩
  · exact h.lt
  · obtain ⟨_, _, h9, _⟩ := h.cm; exact map_new_ne h9
  · exact heap_lt (h.regs p hp).2.2.1
  · obtain ⟨_, _, _, _, _, h9, _⟩ := h.regs p hp; exact map_new_ne h9
theorem SAt.mine_typed {mc : Nat} {L : List Reg} (h : SAt w B g mc L s d) : ∀ k, MineU g mc L k → PT w k := fun k hk => by
  rcases hk with rfl | rfl | ⟨p, hp, rfl | rfl⟩
  · exact .inr ⟨_, _, _, h.obj, .inl rfl⟩
  · obtain ⟨_, _, h9, _⟩ := h.cm; exact .inl (mapObj h9)
  · exact .inr ⟨_, _, _, (h.regs p hp).2.2.1, .inr rfl⟩
  · obtain ⟨_, _, _, _, _, h9, _⟩ := h.regs p hp; exact .inl (mapObj h9)
theorem GP.lt (h : GP w B g s c d X) : ∀ k, X k → k < w.heap.size := by
  obtain ⟨mc, L, h1, h2⟩ := h.at'
  exact fun k hk => h1.mine_lt k ((h2 k).1 hk)
theorem GP.ge (h : GP w B g s c d X) : ∀ k, X k → B ≤ k := by
  obtain ⟨mc, L, h1, h2⟩ := h.at'
  exact fun k hk => h1.mine_ge k ((h2 k).1 hk)
theorem GP.typed (h : GP w B g s c d X) : ∀ k, X k → PT w k := by
  obtain ⟨mc, L, h1, h2⟩ := h.at'
  exact fun k hk => h1.mine_typed k ((h2 k).1 hk)
theorem GP.ok (h : GP w B g s c d X) : s.Ok := by
  obtain ⟨mc, L, h1, h2⟩ := h.at'
  exact h1.ok
theorem GP.below (h : GP w B g s c d X) (hb : Below w.heap.size w w') : GP w' B g s c d X := by
  obtain ⟨mc, L, h1, h2⟩ := h.at'
  exact ⟨⟨mc, L, h1.below hb, h2⟩, h.cl, h.al, Nat.le_trans h.base hb.size⟩
theorem SAt.outJ {P : Nat → Prop} {mc : Nat} {L : List Reg} (h : SAt w B g mc L s d) (ho : OutJ P w w') (hp : ∀ k, MineU g mc L k → ¬ P k) : SAt w' B g mc L s d := by
  have hm : ∀ {H : Type} {k : TypeId} {R : Value → Option (DataW H × List MemPlace)} {b n : Nat} {D : DataW H}, w.ownsMap Tryd.prog k R b n D → ¬ P b → w'.ownsMap Tryd.prog k R b n D := fun {H k R b n D} h1 h2 => by
    have hlt := map_new_ne h1
    obtain ⟨es, clock, hb, rest⟩ := h1
    exact ⟨es, clock, (ho.block b hlt h2).trans hb, rest⟩
  obtain ⟨n, V, h1, h2⟩ := h.cm
  refine ⟨h.ok, h.cs, (ho.block g h.lt (hp g (.inl rfl))).trans h.obj, ⟨n, V, hm h1 (hp mc (.inr (.inl rfl))), h2⟩, fun p hq => ?_, h.ndr, h.ndm, h.bg, h.bm⟩
  obtain ⟨k1, k2, k3, n9, D9, k4, k5⟩ := h.regs p hq
  exact ⟨k1, k2, (ho.block _ (heap_lt k3) (hp _ (.inr (.inr ⟨p, hq, .inl rfl⟩)))).trans k3, n9, D9, hm k4 (hp _ (.inr (.inr ⟨p, hq, .inr rfl⟩))), k5⟩
theorem GP.outJ {P : Nat → Prop} (h : GP w B g s c d X) (ho : OutJ P w w') (hp : ∀ k, X k → ¬ P k) : GP w' B g s c d X := by
  obtain ⟨mc, L, h1, h2⟩ := h.at'
  exact ⟨⟨mc, L, h1.outJ ho (fun k hk => hp k ((h2 k).2 hk)), h2⟩, h.cl, h.al, Nat.le_trans h.base ho.size⟩
/-- what a call that changes a store leaves: the set of blocks may have grown by new ones -/
def Turned (w w' : World) (B g : Nat) (s' : GS) (c' d' : Nat) (X : Nat → Prop) : Prop := OutJ X w w' ∧ ∃ X', GP w' B g s' c' d' X' ∧ ∀ k, X' k → X k ∨ w.heap.size ≤ k
theorem GP.mk' {mc : Nat} {L : List Reg} (h : SAt w B g mc L s d) (hc : s.cs.length ≤ c) (ha : s.al.length ≤ d) (hB : B ≤ w.heap.size) : GP w B g s c d (MineU g mc L) := ⟨⟨mc, L, h, fun _ => Iff.rfl⟩, hc, ha, hB⟩
theorem OutJ.iff {P Q : Nat → Prop} (h : OutJ P w w') (e : ∀ k, Q k ↔ P k) : OutJ Q w w' := h.mono fun k hk => (e k).2 hk
theorem gNew_any (w : World) (B : Nat) (hB : B ≤ w.heap.size) :
    Calls Tryd.prog 15 #[] w fun e w' => ∃ g X, e = .returned (.pointer (some ⟨g, 0, none⟩)) ∧ Below w.heap.size w w' ∧ GP w' B g ⟨[], []⟩ 0 0 X ∧ ∀ k, X k → w.heap.size ≤ k := by
  refine (new_any w B hB).mono ?_
  rintro _ w' ⟨g, mc, rfl, h1, h2, h3, h4⟩
  refine ⟨g, _, rfl, h3, GP.mk' h4 (Nat.le_refl _) (Nat.le_refl _) (Nat.le_trans hB h3.size), ?_⟩
  rintro k (rfl | rfl | ⟨p, hp, _⟩)
  · exact h1
  · exact h2
  · exact nomatch hp
theorem gRegister_any (h : GP w B g s c d X) (hc9 : c ≤ 100000) (hd : d ≤ 17592186044415) (x : Cl) (hc : ClIn x) :
    Calls Tryd.prog 17 #[.pointer (some ⟨g, 0, none⟩), .agg (clC x)] w fun e w' => e = .returned (.int .i64 (regEs s x : Nat)) ∧ Turned w w' B g (s.reg x) (c + 1) (d + 1) X := by
  obtain ⟨mc, L, h1, h2⟩ := h.at'
  have hcl := h.cl
  refine (register_any h1 hd (by rw [← List.length_map (f := (·.c)), h1.cs]; omega) h.base x hc).mono ?_
  rintro _ w' ⟨L', rfl, h3, h4, h5⟩
  rw [regE_s h1.cs]
  rw [regS_s h1.cs] at h4
  refine ⟨rfl, h3.iff h2, _, GP.mk' h4 ?_ ?_ (Nat.le_trans h.base h3.size), fun k hk => (h5 k hk).imp_left (h2 k).2⟩
  · unfold GS.reg
    split
    · show (s.cs ++ [x]).length ≤ _
      rw [List.length_append, List.length_singleton]
      omega
    · omega
  · have := h.al
    unfold GS.reg
    split
    · show s.al.length ≤ _
      omega
    · omega
theorem gDrop_any (h : GP w B g s c d X) (t n : ByteArray) (ht : t.size ≤ maxLen) (hn : n.size ≤ maxLen) :
    Calls Tryd.prog 19 #[.pointer (some ⟨g, 0, none⟩), .string t, .string n] w fun e w' => e = .returned (.int .i64 (noneE (findC s t n).isSome)) ∧ Turned w w' B g (s.dropC t n) c d X := by
  obtain ⟨mc, L, h1, h2⟩ := h.at'
  refine (drop_any h1 t n ht hn).mono ?_
  rintro _ w' ⟨rfl, h3, h4⟩
  rw [fC_isSome h1.cs]
  refine ⟨rfl, h3.iff h2, _, GP.mk' h4 (Nat.le_trans (List.length_filter_le _ _) h.cl) (Nat.le_trans (List.length_filter_le _ _) h.al) (Nat.le_trans h.base h3.size), fun k hk => .inl ((h2 k).2 ?_)⟩
  rcases hk with h9 | h9 | ⟨p, hp, h9⟩
  · exact .inl h9
  · exact .inr (.inl h9)
  · exact .inr (.inr ⟨p, (List.mem_filter.1 hp).1, h9⟩)
theorem gAllow_any (h : GP w B g s c d X) (hc9 : c ≤ 100000) (hd : d ≤ 17592186044415) (a : Co) (ht : a.t.size ≤ maxLen) (hu : a.u.size ≤ maxLen) (hn : a.n.size ≤ maxLen) (hsc : a.sc ≤ 255) :
    Calls Tryd.prog 18 #[.pointer (some ⟨g, 0, none⟩), .agg (coC a)] w fun e w' => e = .returned (.int .i64 (allEs s a : Nat)) ∧ Turned w w' B g (s.alw a) c (d + 1) X := by
  obtain ⟨mc, L, h1, h2⟩ := h.at'
  have hcl := h.cl
  have hal := h.al
  refine (allow_any h1 (by omega) (by rw [← List.length_map (f := (·.c)), h1.cs]; omega) h.base a ht hu hn hsc).mono ?_
  rintro _ w' ⟨rfl, h3, h4⟩
  rw [allE_s h1.cs]
  rw [alw_s h1.cs] at h4
  refine ⟨rfl, h3.iff h2, _, GP.mk' h4 ?_ ?_ (Nat.le_trans h.base h3.size), fun k hk => .inl ((h2 k).2 hk)⟩
  · unfold GS.alw
    split
    · show s.cs.length ≤ _
      omega
    · omega
  · unfold GS.alw
    split
    · show (s.al.filter _ ++ [a]).length ≤ _
      have := List.length_filter_le (fun x => !isA a.t a.u a.n x) s.al
      rw [List.length_append, List.length_singleton]
      omega
    · omega
theorem fB_isSome {mc : Nat} {L : List Reg} (h : SAt w B g mc L s d) (t u n : ByteArray) : (fB L s t u n).isSome = (fA s t u n).isSome := by
  rw [← h.fB_eq, Option.isSome_map]
theorem gClient_any (h : GP w B g s c d X) (t n : ByteArray) (ht : t.size ≤ maxLen) (hn : n.size ≤ maxLen) :
    Calls Tryd.prog 22 #[.pointer (some ⟨g, 0, none⟩), .string t, .string n] w fun e w' => e = .returned (.tuple #[.agg (((findC s t n).map clC).getD clC0), .int .i64 (noneE (findC s t n).isSome)]) ∧ Below w.heap.size w w' := by
  obtain ⟨mc, L, h1, h2⟩ := h.at'
  rw [← fC_map h1.cs, Option.isSome_map, Option.map_map]
  exact client_any h1 t n ht hn
theorem gConsent_any (h : GP w B g s c d X) (t u n : ByteArray) (ht : t.size ≤ maxLen) (hu : u.size ≤ maxLen) (hn : n.size ≤ maxLen) :
    Calls Tryd.prog 21 #[.pointer (some ⟨g, 0, none⟩), .agg #[.string t, .string u], .string n] w fun e w' => e = .returned (.tuple #[.agg (((fA s t u n).map coC).getD clC0), .int .i64 (noneE (fA s t u n).isSome)]) ∧ Below w.heap.size w w' := by
  obtain ⟨mc, L, h1, h2⟩ := h.at'
  rw [← h1.fB_eq, Option.isSome_map, Option.map_map]
  exact consent_any h1 t u n ht hu hn
/-- a row in the order of clients' names -/
theorem gClients_any (h : GP w B g s c d X) (hc9 : c ≤ 100000) (t : ByteArray) (ht : t.size ≤ maxLen) :
    Calls Tryd.prog 86 #[.pointer (some ⟨g, 0, none⟩), .string t] w fun e w' => ∃ v S, e = .returned v ∧ S.Perm (s.cs.filter (inT t)) ∧ NameOrder S ∧ w'.ownsRow w.heap.size 49 4 v S.length (clCells S) ∧ Below w.heap.size w w' := by
  obtain ⟨mc, L, h1, h2⟩ := h.at'
  have hcl := h.cl
  exact clients_any h1 (by rw [← List.length_map (f := (·.c)), h1.cs]; omega) t ht
def consS (s : GS) (t u : ByteArray) (S : List Cl) : List Co := S.filterMap fun c => fA s t u c.n
theorem gConsents_any (h : GP w B g s c d X) (hc9 : c ≤ 100000) (t u : ByteArray) (ht : t.size ≤ maxLen) (hu : u.size ≤ maxLen) :
    Calls Tryd.prog 58 #[.pointer (some ⟨g, 0, none⟩), .agg #[.string t, .string u]] w fun e w' => ∃ v S c, e = .returned (.slice v (consS s t u S).length c) ∧ S.Perm (s.cs.filter (inT t)) ∧ NameOrder S ∧ w'.ownsRow w.heap.size 52 4 (.slice v (consS s t u S).length c) (consS s t u S).length (coCells (consS s t u S)) ∧ Below w.heap.size w w' ∧ (consS s t u S).Perm (s.al.filter (isU t u)) := by
  obtain ⟨mc, L, h1, h2⟩ := h.at'
  have hcl := h.cl
  refine (consents_any h1 (by rw [← List.length_map (f := (·.c)), h1.cs]; omega) t u ht hu).mono ?_
  rintro _ w' ⟨v, S, c, rfl, p1, p2, p3, p4⟩
  have e : consF L s t u S = consS s t u S := h1.consF_eq t u S
  have p5 := consF_perm h1 t u p1
  rw [e] at p3 p5 ⊢
  exact ⟨v, S, c, rfl, p1, p2, p3, p4, p5⟩
end
end Go.Proofs.YthfmpebgmojcaaaDoor.Gr

/- Grants: live of the laws. -/
namespace Go.Proofs.YthfmpebgmojcaaaDoor.Gr
open Go.RowKit Go.Maps
set_option linter.unusedVariables false
set_option maxRecDepth 20000
section
variable {w w' : World} {B g c d c' d' : Nat} {s s' : GS} {X : Nat → Prop}
theorem GP.keep (h : GP w B g s c d X) (ho : OutJ X w w') {k : Nat} {cs : Array Value} {T : TypeId} {fr : Nat × Nat} (hk : w.heap[k]? = some (.cells cs T fr)) (h1 : T ≠ 105) (h2 : T ≠ 109) : w'.heap[k]? = some (.cells cs T fr) := by
  refine (ho.block k (heap_lt hk) (fun hx => ?_)).trans hk
  rcases h.typed k hx with ⟨es, c, e⟩ | ⟨cs', T', fr', e, hT⟩
  · rw [hk] at e; cases e
  · rw [hk] at e
    cases e
    exact hT.elim h1 h2
theorem Turned.below (t : Turned w w' B g s' c' d' X) (h : GP w B g s c d X) : Below B w w' := t.1.below h.base h.ge
end
def tU : ByteArray := ⟨#[116]⟩
def uU : ByteArray := ⟨#[117]⟩
def cU : ByteArray := ⟨#[99]⟩
def rU : ByteArray := ⟨#[114]⟩
def s0U : GS := ⟨[], []⟩
def clU : Cl := ⟨tU, cU, rU, 3⟩
def coU : Co := ⟨tU, uU, cU, 1⟩
def s1U : GS := s0U.reg clU
def s2U : GS := s1U.alw coU
def s3U : GS := s2U.nar tU cU 2
theorem live1 : regEs s0U clU = 0 := by decide +kernel
theorem live2 : allEs s1U coU = 0 := by decide +kernel
theorem live3 : mayRs s2U tU uU cU rU 1 = 0 := by decide +kernel
theorem live4 : narRs s2U tU cU 2 = 2 := by decide +kernel
theorem live5 : noneE (findC s2U tU cU).isSome = 0 := by decide +kernel
theorem live6 : mayRs s3U tU uU cU rU 1 = 14 := by decide +kernel
theorem sz1 : tU.size ≤ maxLen := by decide +kernel
theorem sz2 : uU.size ≤ maxLen := by decide +kernel
theorem sz3 : cU.size ≤ maxLen := by decide +kernel
theorem clU_in : ClIn clU := ⟨by decide +kernel, by decide +kernel, by decide +kernel, by decide +kernel⟩
end Go.Proofs.YthfmpebgmojcaaaDoor.Gr
