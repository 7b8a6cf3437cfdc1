/- YthfmpebgmojcaaaDoorU2 + YthfmpebgmojcaaaDoorU3 -/
import Derived.Test.YthfmpebgmojcaaaDoorU1
/- Grants: a store as mathematics, and in memory. -/
namespace Go.Proofs.YthfmpebgmojcaaaDoor.Gr
open Go.RowKit Go.Maps
set_option linter.unusedVariables false
set_option maxRecDepth 20000
/-- a client -/
structure Cl where
  t : ByteArray
  n : ByteArray
  r : ByteArray
  sc : Nat
/-- a consent -/
structure Co where
  t : ByteArray
  u : ByteArray
  n : ByteArray
  sc : Nat
structure GS where
  cs : List Cl
  al : List Co
def isC (t n : ByteArray) (c : Cl) : Bool := decide (c.t = t ∧ c.n = n)
def isA (t u n : ByteArray) (a : Co) : Bool := decide (a.t = t ∧ a.u = u ∧ a.n = n)
def ofC (t n : ByteArray) (a : Co) : Bool := decide (a.t = t ∧ a.n = n)
structure GS.Ok (s : GS) : Prop where
  names : ∀ c ∈ s.cs, okN c.t = true ∧ okN c.n = true ∧ c.r.size ≤ 24 ∧ c.sc ≤ 255
  keys : s.cs.Pairwise fun a b => ¬ (a.t = b.t ∧ a.n = b.n)
  anames : ∀ a ∈ s.al, okN a.t = true ∧ okN a.u = true ∧ a.sc ≤ 255 ∧ ∃ c ∈ s.cs, c.t = a.t ∧ c.n = a.n ∧ a.sc &&& c.sc = a.sc
  akeys : s.al.Pairwise fun a b => ¬ (a.t = b.t ∧ a.u = b.u ∧ a.n = b.n)
/-- a value is read as itself -/
def RV (v : Value) : Option (DataW Value × List MemPlace) := some (.held v, [])
/-- a client as it lies: its block, and the block of its consents -/
structure Reg where
  c : Cl
  r : Nat
  m : Nat
structure CRel (V : DataW Value) (L : List Reg) : Prop where
  tidy : Tidy V
  has : ∀ t u : ByteArray, t.size ≤ maxLen → u.size ≤ maxLen → Maps.has V (keyP t u) = L.any fun p => isC t u p.c
  at' : ∀ p ∈ L, ∀ z, V.atKey (keyP p.c.t p.c.n) z = .held (.pointer (some ⟨p.r, 0, none⟩))
  size : Maps.size V = L.length
structure ARel (D : DataW Unit) (l : List Co) : Prop where
  tidy : Tidy D
  has : ∀ u : ByteArray, Maps.has D (.string u.data.toList) = l.any fun a => decide (a.u = u)
  at' : ∀ a ∈ l, ∀ z, D.atKey (.string a.u.data.toList) z = .lit (.int .u8 (a.sc : Int))
  size : Maps.size D = l.length
def regCells (p : Reg) : Array Value := #[.string p.c.r, .int .u8 (p.c.sc : Int), .map (some p.m)]
def RegIn (w : World) (B : Nat) (p : Reg) (al : List Co) (d : Nat) : Prop := B ≤ p.r ∧ B ≤ p.m ∧ w.heap[p.r]? = some (.cells (regCells p) 109 (0, 0)) ∧ ∃ n D, w.ownsMap Tryd.prog 9 (plainElem Tryd.prog 47) p.m n D ∧ n ≤ d ∧ ARel D (al.filter (ofC p.c.t p.c.n))
/-- a store in memory -/
structure SAt (w : World) (B g mc : Nat) (L : List Reg) (s : GS) (d : Nat) : Prop where
  ok : s.Ok
  cs : L.map (·.c) = s.cs
  obj : w.heap[g]? = some (.cells #[.map (some mc)] 105 (0, 0))
  cm : ∃ n V, w.ownsMap Tryd.prog 111 RV mc n V ∧ n ≤ d ∧ CRel V L
  regs : ∀ p ∈ L, RegIn w B p s.al d
  ndr : (L.map (·.r)).Nodup
  ndm : (mc :: L.map (·.m)).Nodup
  bg : B ≤ g
  bm : B ≤ mc
section
variable {w w' : World} {B g mc d : Nat} {L : List Reg} {s : GS}
theorem RegIn.below {p : Reg} {al : List Co} (h : RegIn w B p al d) (hb : Below w.heap.size w w') : RegIn w' B p al d := by
  obtain ⟨h1, h2, h3, n, D, h4, h5⟩ := h
  have hgr : w.grownBy w' none := ⟨hb.os, hb.tape, hb.output, hb.size, fun k hk _ => hb.block k hk⟩
  exact ⟨h1, h2, (hb.block _ (heap_lt h3)).trans h3, n, D, h4.kept hgr (by simp), h5⟩
theorem SAt.below (h : SAt w B g mc L s d) (hb : Below w.heap.size w w') : SAt w' B g mc L s d := by
  have hgr : w.grownBy w' none := ⟨hb.os, hb.tape, hb.output, hb.size, fun k hk _ => hb.block k hk⟩
  obtain ⟨n, V, h1, h2⟩ := h.cm
  exact ⟨h.ok, h.cs, (hb.block g (heap_lt h.obj)).trans h.obj, ⟨n, V, h1.kept hgr (by simp), h2⟩, fun p hp => (h.regs p hp).below hb, h.ndr, h.ndm, h.bg, h.bm⟩
theorem SAt.c0 (h : SAt w B g mc L s d) : w.cell? ⟨g, 0, none⟩ = some (.map (some mc)) := (cell_of_row _ _ 0 _ _ _ h.obj).trans rfl
theorem SAt.lt (h : SAt w B g mc L s d) : g < w.heap.size := heap_lt h.obj
theorem RegIn.c {p : Reg} {al : List Co} (h : RegIn w B p al d) : w.cell? ⟨p.r, 0, none⟩ = some (.string p.c.r) ∧ w.cell? ⟨p.r, 1, none⟩ = some (.int .u8 (p.c.sc : Int)) ∧ w.cell? ⟨p.r, 2, none⟩ = some (.map (some p.m)) :=
  ⟨(cell_of_row _ _ 0 _ _ _ h.2.2.1).trans rfl, (cell_of_row _ _ 1 _ _ _ h.2.2.1).trans rfl, (cell_of_row _ _ 2 _ _ _ h.2.2.1).trans rfl⟩
/-- the blocks of a store -/
def MineU (g mc : Nat) (L : List Reg) (j : Nat) : Prop := j = g ∨ j = mc ∨ ∃ p ∈ L, j = p.r ∨ j = p.m
theorem SAt.mine_ge (h : SAt w B g mc L s d) : ∀ k, MineU g mc L k → B ≤ k := by
  rintro k (rfl | rfl | ⟨p, hp, rfl | rfl⟩)
  · exact h.bg
  · exact h.bm
  · exact (h.regs p hp).1
  · exact (h.regs p hp).2.1
theorem SAt.below_of (h : SAt w B g mc L s d) (ho : OutJ (MineU g mc L) w w') (hB : B ≤ w.heap.size) : Below B w w' := ho.below hB h.mine_ge
end
theorem zeroPtr (w : World) : (zeroValue 106).run Tryd.prog w = .ok (.pointer none) w := by kernel_rfl
theorem zeroSc (w : World) : (zeroValue 47).run Tryd.prog w = .ok (.int .u8 0) w := by kernel_rfl
/-- the client at two texts -/
def fC (L : List Reg) (t n : ByteArray) : Option Reg := L.find? fun p => isC t n p.c
theorem fC_some {L : List Reg} {t n : ByteArray} {p : Reg} (h : fC L t n = some p) : p ∈ L ∧ p.c.t = t ∧ p.c.n = n := by
  unfold fC at h
  have h1 := List.find?_some h
  have h2 := of_decide_eq_true h1
  exact ⟨List.mem_of_find?_eq_some h, h2.1, h2.2⟩
section
variable {w : World} {B g mc d : Nat} {L : List Reg} {s : GS}
theorem SAt.look (h : SAt w B g mc L s d) (t n : ByteArray) (ht : t.size ≤ maxLen) (hn : n.size ≤ maxLen) :
    (Instr.lookup 103 (.map (some mc)) (.agg #[.string t, .string n]) true).run Tryd.prog w = .ok (.tuple #[.pointer ((fC L t n).map fun p => ⟨p.r, 0, none⟩), .bool (fC L t n).isSome]) w := by
  obtain ⟨k, V, h1, _, h2⟩ := h.cm
  obtain ⟨v, ps, hrun, hv⟩ := h1.look_ok (z := .pointer none) (zd := .held (.pointer none)) (zp := []) lawPlace Tryd.underlying103 (zeroPtr w) rfl (keyOf_place t n ht hn)
  have e9 : V.atKey (keyP t n) (.held (.pointer none)) = .held v := congrArg Prod.fst (Option.some.inj hv).symm
  rw [hrun]
  cases hf : fC L t n with
  | none =>
    have hh : Maps.has V (keyP t n) = false := by
      rw [h2.has t n ht hn, List.any_eq_false]
      intro p hp
      have := List.find?_eq_none.1 hf p hp
      simpa using this
    rw [Maps.atKey_of_not_has hh] at e9
    injection e9 with e9
    rw [← e9, hh]
    rfl
  | some p =>
    obtain ⟨hp, rfl, rfl⟩ := fC_some hf
    have hh : Maps.has V (keyP p.c.t p.c.n) = true := by
      rw [h2.has _ _ ht hn, List.any_eq_true]
      exact ⟨p, hp, decide_eq_true ⟨rfl, rfl⟩⟩
    rw [h2.at' p hp] at e9
    injection e9 with e9
    rw [← e9, hh]
    rfl
end
end Go.Proofs.YthfmpebgmojcaaaDoor.Gr

/- Grants: find, findConsent, May, Client, Consent. -/
namespace Go.Proofs.YthfmpebgmojcaaaDoor.Gr
open Go.RowKit Go.Maps
set_option linter.unusedVariables false
set_option maxRecDepth 20000
theorem below_dN (B : Nat) (w : World) (n : Nat) : Below B w (w.drewN n) := ⟨rfl, rfl, rfl, Nat.le_refl _, fun _ _ => rfl⟩
theorem heap_allocN (w : World) (o : Obj) : (w.alloc o).heap[w.heap.size]? = some o := (MapKept.heap_alloc w o).1
theorem cell_of_rowU (w : World) (g k : Nat) (cs : Array Value) (t : TypeId) (fr : Nat × Nat) (h : w.heap[g]? = some (.cells cs t fr)) : w.cell? ⟨g, k, none⟩ = cs[k]? := by
  simp [World.cell?, h]
def noneE (b : Bool) : Int := if b then 0 else 4
section
variable {w : World} {B g mc d : Nat} {L : List Reg} {s : GS}
set_option maxHeartbeats 2000000 in
theorem find_any (h : SAt w B g mc L s d) (t n : ByteArray) (ht : t.size ≤ maxLen) (hn : n.size ≤ maxLen) :
    Calls Tryd.prog 56 #[.pointer (some ⟨g, 0, none⟩), .string t, .string n] w fun e w' => e = .returned (.tuple #[.pointer ((fC L t n).map fun p => ⟨p.r, 0, none⟩), .int .i64 (noneE (fC L t n).isSome)]) ∧ w' = w := by
  have hlk := h.look t n ht hn
  have c0 := h.c0
  clear h
  cases hf : fC L t n with
  | none =>
    rw [hf] at hlk
    clear hf
    go_enter Tryd.func56, Tryd.ntmps56
    go_wp2
    go_ret2
    exact ⟨rfl, rfl⟩
  | some p =>
    rw [hf] at hlk
    clear hf
    go_enter Tryd.func56, Tryd.ntmps56
    go_wp2
    go_ret2
    exact ⟨rfl, rfl⟩
/-- what a user allows a client -/
def fA (s : GS) (t u n : ByteArray) : Option Co := s.al.find? (isA t u n)
theorem RegIn.look {p : Reg} {al : List Co} (h : RegIn w B p al d) (u : ByteArray) (hu : u.size ≤ maxLen) :
    (Instr.lookup 107 (.map (some p.m)) (.string u) true).run Tryd.prog w = .ok (.tuple #[.int .u8 (((al.find? (isA p.c.t u p.c.n)).map (·.sc)).getD 0 : Nat), .bool (al.find? (isA p.c.t u p.c.n)).isSome]) w := by
  obtain ⟨_, _, _, n, D, h1, _, h2⟩ := h
  obtain ⟨v, ps, hrun, hv⟩ := h1.look_ok (z := .int .u8 0) lawStr Tryd.underlying107 (zeroSc w) (plainElem_int Tryd.underlying47 (by decide)) (Go.WideMaps.keyOf_string_mk Tryd.underlying9 hu)
  obtain ⟨c0, rfl, hc0, _⟩ := plainElem_int_inv Tryd.underlying47 hv
  have e9 : D.atKey (.string u.data.toList) (.lit (.int .u8 0)) = .lit (.int .u8 c0) := congrArg Prod.fst hc0
  rw [hrun]
  have hff : (al.filter (ofC p.c.t p.c.n)).find? (fun a => decide (a.u = u)) = al.find? (isA p.c.t u p.c.n) := by
    rw [List.find?_filter]
    congr 1
    funext a
    unfold ofC isA
    by_cases h1 : a.t = p.c.t <;> by_cases h2 : a.n = p.c.n <;> by_cases h3 : a.u = u <;> simp [h1, h2, h3]
  rw [← hff]
  cases hf : (al.filter (ofC p.c.t p.c.n)).find? (fun a => decide (a.u = u)) with
  | none =>
    have hh : Maps.has D (.string u.data.toList) = false := by
      rw [h2.has, List.any_eq_false]
      intro a ha
      have := List.find?_eq_none.1 hf a ha
      simpa using this
    rw [Maps.atKey_of_not_has hh] at e9
    injection e9 with e9
    injection e9 with _ e9
    rw [← e9, hh]
    rfl
  | some a =>
    have ha := List.mem_of_find?_eq_some hf
    have hu9 : a.u = u := by
      have h9 := List.find?_some hf
      simpa using h9
    have hh : Maps.has D (.string u.data.toList) = true := by
      rw [h2.has, List.any_eq_true]
      exact ⟨a, ha, decide_eq_true hu9⟩
    rw [← hu9, h2.at' a ha] at e9
    injection e9 with e9
    injection e9 with _ e9
    rw [← e9, hh]
    rfl
/-- a client and what a user allows it -/
def fB (L : List Reg) (s : GS) (t u n : ByteArray) : Option (Reg × Co) := (fC L t n).bind fun p => (fA s t u n).map fun a => (p, a)
def ownV (t u : ByteArray) : Value := .agg #[.string t, .string u]
set_option maxHeartbeats 2000000 in
theorem findConsent_any (h : SAt w B g mc L s d) (t u n : ByteArray) (ht : t.size ≤ maxLen) (hu : u.size ≤ maxLen) (hn : n.size ≤ maxLen) :
    Calls Tryd.prog 62 #[.pointer (some ⟨g, 0, none⟩), .agg #[.string t, .string u], .string n] w fun e w' => e = .returned (.tuple #[.pointer ((fB L s t u n).map fun q => ⟨q.1.r, 0, none⟩), .int .u8 (((fB L s t u n).map (·.2.sc)).getD 0 : Nat), .int .i64 (noneE (fB L s t u n).isSome)]) ∧ Below w.heap.size w w' := by
  obtain ⟨W, hW⟩ : ∃ W, W = w.alloc (.cells #[.string t, .string u] 45) := ⟨_, rfl⟩
  have b0 : Below w.heap.size w W := by rw [hW]; exact (Below.refl _ w).alloc (Nat.le_refl _) _
  have x0 : W.heap[w.heap.size]? = some (.cells #[.string t, .string u] 45 (0, 0)) := by rw [hW]; exact heap_allocN w _
  have o0 : W.cell? ⟨w.heap.size, 0, none⟩ = some (.string t) := (cell_of_rowU _ _ 0 _ _ _ x0).trans rfl
  have o1 : W.cell? ⟨w.heap.size, 1, none⟩ = some (.string u) := (cell_of_rowU _ _ 1 _ _ _ x0).trans rfl
  have h0 := h.below b0
  have HF := hid (find_any h0 t n ht hn)
  have HW := hid hW.symm
  have B0 := hid b0
  unfold fB
  cases hf : fC L t n with
  | none =>
    rw [hf] at HF
    clear h h0 hW b0 x0 hf
    go_enter Tryd.func62, Tryd.ntmps62
    go_wp2_with (go_at_call 56; rw [HW.out]; refine HF.out.mono ?_; rintro _ w1 ⟨rfl, e1⟩; subst w1; unfold noneE; simp only [Option.isSome_none, Bool.false_eq_true, if_false])
    go_ret3
    exact ⟨rfl, B0.out⟩
  | some p =>
    rw [hf] at HF
    obtain ⟨hp, rfl, rfl⟩ := fC_some hf
    have hr := h0.regs p hp
    obtain ⟨r0, r1, r2⟩ := hr.c
    have hlk : ∀ q, (Instr.lookup 107 (.map (some p.m)) (.string u) true).run Tryd.prog (W.drewN q) = .ok (.tuple #[.int .u8 (((s.al.find? (isA p.c.t u p.c.n)).map (·.sc)).getD 0 : Nat), .bool (s.al.find? (isA p.c.t u p.c.n)).isSome]) (W.drewN q) := fun q => (hr.below (below_dN _ _ q)).look u hu
    unfold fA
    cases hfa : s.al.find? (isA p.c.t u p.c.n) with
    | none =>
      rw [hfa] at hlk
      clear h h0 hW b0 x0 hf hr hp hfa r0 r1
      go_enter Tryd.func62, Tryd.ntmps62
      go_wp2_with (go_at_call 56; rw [HW.out]; refine HF.out.mono ?_; rintro _ w1 ⟨rfl, e1⟩; subst w1; unfold noneE; simp only [Option.isSome_some, if_true])
      go_quiet (fail)
      go_wp2
      go_ret3
      exact ⟨rfl, B0.out.trans (below_dN _ _ _)⟩
    | some a =>
      rw [hfa] at hlk
      clear h h0 hW b0 x0 hf hr hp hfa r0 r1
      go_enter Tryd.func62, Tryd.ntmps62
      go_wp2_with (go_at_call 56; rw [HW.out]; refine HF.out.mono ?_; rintro _ w1 ⟨rfl, e1⟩; subst w1; unfold noneE; simp only [Option.isSome_some, if_true])
      go_quiet (fail)
      go_wp2
      go_ret3
      exact ⟨rfl, B0.out.trans (below_dN _ _ _)⟩
end
end Go.Proofs.YthfmpebgmojcaaaDoor.Gr
