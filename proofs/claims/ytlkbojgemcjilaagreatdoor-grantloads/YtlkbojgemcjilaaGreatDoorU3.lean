/- Grants: find, findConsent, May, Client, Consent. -/
import Derived.Test.YtlkbojgemcjilaaGreatDoorU2
namespace Go.Proofs.YtlkbojgemcjilaaGreatDoor
open Go.RowKit Go.Maps
set_option linter.unusedVariables false
set_option maxRecDepth 20000
theorem below_dN (B : Nat) (w : World) (n : Nat) : Below B w (w.drewN n) := ⟨rfl, rfl, rfl, Nat.le_refl _, fun _ _ => rfl⟩
theorem heap_allocN (w : World) (o : Obj) : (w.alloc o).heap[w.heap.size]? = some o := (MapKept.heap_alloc w o).1
theorem cell_of_rowU (w : World) (g k : Nat) (cs : Array Value) (t : TypeId) (fr : Nat × Nat) (h : w.heap[g]? = some (.cells cs t fr)) : w.cell? ⟨g, k, none⟩ = cs[k]? := by
  simp [World.cell?, h]
def noneE (b : Bool) : Int := if b then 0 else 4
section
variable {w : World} {B g mc d : Nat} {L : List Reg} {s : GS}
set_option maxHeartbeats 2000000 in
theorem find_any (h : SAt w B g mc L s d) (t n : ByteArray) (ht : t.size ≤ maxLen) (hn : n.size ≤ maxLen) :
    Calls Tryz.prog 52 #[.pointer (some ⟨g, 0, none⟩), .string t, .string n] w fun e w' => e = .returned (.tuple #[.pointer ((fC L t n).map fun p => ⟨p.r, 0, none⟩), .int .i64 (noneE (fC L t n).isSome)]) ∧ w' = w := by
  have hlk := h.look t n ht hn
  have c0 := h.c0
  clear h
  cases hf : fC L t n with
  | none =>
    rw [hf] at hlk
    clear hf
    go_enter Tryz.func52, Tryz.ntmps52
    go_wp2
    go_ret2
    exact ⟨rfl, rfl⟩
  | some p =>
    rw [hf] at hlk
    clear hf
    go_enter Tryz.func52, Tryz.ntmps52
    go_wp2
    go_ret2
    exact ⟨rfl, rfl⟩
/-- what a user allows a client -/
def fA (s : GS) (t u n : ByteArray) : Option Co := s.al.find? (isA t u n)
theorem RegIn.look {p : Reg} {al : List Co} (h : RegIn w B p al d) (u : ByteArray) (hu : u.size ≤ maxLen) :
    (Instr.lookup 64 (.map (some p.m)) (.string u) true).run Tryz.prog w = .ok (.tuple #[.int .u8 (((al.find? (isA p.c.t u p.c.n)).map (·.sc)).getD 0 : Nat), .bool (al.find? (isA p.c.t u p.c.n)).isSome]) w := by
  obtain ⟨_, _, _, n, D, h1, _, h2⟩ := h
  obtain ⟨v, ps, hrun, hv⟩ := h1.look_ok (z := .int .u8 0) lawStr Tryz.underlying64 (zeroSc w) (plainElem_int Tryz.underlying31 (by decide)) (Go.WideMaps.keyOf_string_mk Tryz.underlying9 hu)
  obtain ⟨c0, rfl, hc0, _⟩ := plainElem_int_inv Tryz.underlying31 hv
  have e9 : D.atKey (.string u.data.toList) (.lit (.int .u8 0)) = .lit (.int .u8 c0) := congrArg Prod.fst hc0
  rw [hrun]
  have hff : (al.filter (ofC p.c.t p.c.n)).find? (fun a => decide (a.u = u)) = al.find? (isA p.c.t u p.c.n) := by
    rw [List.find?_filter]
    congr 1
    funext a
    unfold ofC isA
    by_cases h1 : a.t = p.c.t <;> by_cases h2 : a.n = p.c.n <;> by_cases h3 : a.u = u <;> simp [h1, h2, h3]
  rw [← hff]
  cases hf : (al.filter (ofC p.c.t p.c.n)).find? (fun a => decide (a.u = u)) with
  | none =>
    have hh : Maps.has D (.string u.data.toList) = false := by
      rw [h2.has, List.any_eq_false]
      intro a ha
      have := List.find?_eq_none.1 hf a ha
      simpa using this
    rw [Maps.atKey_of_not_has hh] at e9
    injection e9 with e9
    injection e9 with _ e9
    rw [← e9, hh]
    rfl
  | some a =>
    have ha := List.mem_of_find?_eq_some hf
    have hu9 : a.u = u := by
      have h9 := List.find?_some hf
      simpa using h9
    have hh : Maps.has D (.string u.data.toList) = true := by
      rw [h2.has, List.any_eq_true]
      exact ⟨a, ha, decide_eq_true hu9⟩
    rw [← hu9, h2.at' a ha] at e9
    injection e9 with e9
    injection e9 with _ e9
    rw [← e9, hh]
    rfl
/-- a client and what a user allows it -/
def fB (L : List Reg) (s : GS) (t u n : ByteArray) : Option (Reg × Co) := (fC L t n).bind fun p => (fA s t u n).map fun a => (p, a)
def ownV (t u : ByteArray) : Value := .agg #[.string t, .string u]
set_option maxHeartbeats 2000000 in
theorem findConsent_any (h : SAt w B g mc L s d) (t u n : ByteArray) (ht : t.size ≤ maxLen) (hu : u.size ≤ maxLen) (hn : n.size ≤ maxLen) :
    Calls Tryz.prog 56 #[.pointer (some ⟨g, 0, none⟩), .agg #[.string t, .string u], .string n] w fun e w' => e = .returned (.tuple #[.pointer ((fB L s t u n).map fun q => ⟨q.1.r, 0, none⟩), .int .u8 (((fB L s t u n).map (·.2.sc)).getD 0 : Nat), .int .i64 (noneE (fB L s t u n).isSome)]) ∧ Below w.heap.size w w' := by
  obtain ⟨W, hW⟩ : ∃ W, W = w.alloc (.cells #[.string t, .string u] 30) := ⟨_, rfl⟩
  have b0 : Below w.heap.size w W := by rw [hW]; exact (Below.refl _ w).alloc (Nat.le_refl _) _
  have x0 : W.heap[w.heap.size]? = some (.cells #[.string t, .string u] 30 (0, 0)) := by rw [hW]; exact heap_allocN w _
  have o0 : W.cell? ⟨w.heap.size, 0, none⟩ = some (.string t) := (cell_of_rowU _ _ 0 _ _ _ x0).trans rfl
  have o1 : W.cell? ⟨w.heap.size, 1, none⟩ = some (.string u) := (cell_of_rowU _ _ 1 _ _ _ x0).trans rfl
  have h0 := h.below b0
  have HF := hid (find_any h0 t n ht hn)
  have HW := hid hW.symm
  have B0 := hid b0
  unfold fB
  cases hf : fC L t n with
  | none =>
    rw [hf] at HF
    clear h h0 hW b0 x0 hf
    go_enter Tryz.func56, Tryz.ntmps56
    go_wp2_with (go_at_call 52; rw [HW.out]; refine HF.out.mono ?_; rintro _ w1 ⟨rfl, e1⟩; subst w1; unfold noneE; simp only [Option.isSome_none, Bool.false_eq_true, if_false])
    go_ret3
    exact ⟨rfl, B0.out⟩
  | some p =>
    rw [hf] at HF
    obtain ⟨hp, rfl, rfl⟩ := fC_some hf
    have hr := h0.regs p hp
    obtain ⟨r0, r1, r2⟩ := hr.c
    have hlk : ∀ q, (Instr.lookup 64 (.map (some p.m)) (.string u) true).run Tryz.prog (W.drewN q) = .ok (.tuple #[.int .u8 (((s.al.find? (isA p.c.t u p.c.n)).map (·.sc)).getD 0 : Nat), .bool (s.al.find? (isA p.c.t u p.c.n)).isSome]) (W.drewN q) := fun q => (hr.below (below_dN _ _ q)).look u hu
    unfold fA
    cases hfa : s.al.find? (isA p.c.t u p.c.n) with
    | none =>
      rw [hfa] at hlk
      clear h h0 hW b0 x0 hf hr hp hfa r0 r1
      go_enter Tryz.func56, Tryz.ntmps56
      go_wp2_with (go_at_call 52; rw [HW.out]; refine HF.out.mono ?_; rintro _ w1 ⟨rfl, e1⟩; subst w1; unfold noneE; simp only [Option.isSome_some, if_true])
      go_quiet (fail)
      go_wp2
      go_ret3
      exact ⟨rfl, B0.out.trans (below_dN _ _ _)⟩
    | some a =>
      rw [hfa] at hlk
      clear h h0 hW b0 x0 hf hr hp hfa r0 r1
      go_enter Tryz.func56, Tryz.ntmps56
      go_wp2_with (go_at_call 52; rw [HW.out]; refine HF.out.mono ?_; rintro _ w1 ⟨rfl, e1⟩; subst w1; unfold noneE; simp only [Option.isSome_some, if_true])
      go_quiet (fail)
      go_wp2
      go_ret3
      exact ⟨rfl, B0.out.trans (below_dN _ _ _)⟩
end
end Go.Proofs.YtlkbojgemcjilaaGreatDoor
