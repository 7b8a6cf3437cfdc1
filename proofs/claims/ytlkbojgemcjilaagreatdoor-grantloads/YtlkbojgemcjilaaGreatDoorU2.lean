/- Grants: a store as mathematics, and in memory. -/
import Derived.Test.YtlkbojgemcjilaaGreatDoorU1
namespace Go.Proofs.YtlkbojgemcjilaaGreatDoor
open Go.RowKit Go.Maps
set_option linter.unusedVariables false
set_option maxRecDepth 20000
/-- a client -/
structure Cl where
  t : ByteArray
  n : ByteArray
  r : ByteArray
  sc : Nat
/-- a consent -/
structure Co where
  t : ByteArray
  u : ByteArray
  n : ByteArray
  sc : Nat
structure GS where
  cs : List Cl
  al : List Co
def isC (t n : ByteArray) (c : Cl) : Bool := decide (c.t = t ∧ c.n = n)
def isA (t u n : ByteArray) (a : Co) : Bool := decide (a.t = t ∧ a.u = u ∧ a.n = n)
def ofC (t n : ByteArray) (a : Co) : Bool := decide (a.t = t ∧ a.n = n)
structure GS.Ok (s : GS) : Prop where
  names : ∀ c ∈ s.cs, okN c.t = true ∧ okN c.n = true ∧ c.r.size ≤ 24 ∧ c.sc ≤ 255
  keys : s.cs.Pairwise fun a b => ¬ (a.t = b.t ∧ a.n = b.n)
  anames : ∀ a ∈ s.al, okN a.t = true ∧ okN a.u = true ∧ a.sc ≤ 255 ∧ ∃ c ∈ s.cs, c.t = a.t ∧ c.n = a.n ∧ a.sc &&& c.sc = a.sc
  akeys : s.al.Pairwise fun a b => ¬ (a.t = b.t ∧ a.u = b.u ∧ a.n = b.n)
/-- a value is read as itself -/
def RV (v : Value) : Option (DataW Value × List MemPlace) := some (.held v, [])
/-- a client as it lies: its block, and the block of its consents -/
structure Reg where
  c : Cl
  r : Nat
  m : Nat
structure CRel (V : DataW Value) (L : List Reg) : Prop where
  tidy : Tidy V
  has : ∀ t u : ByteArray, t.size ≤ maxLen → u.size ≤ maxLen → Maps.has V (keyP t u) = L.any fun p => isC t u p.c
  at' : ∀ p ∈ L, ∀ z, V.atKey (keyP p.c.t p.c.n) z = .held (.pointer (some ⟨p.r, 0, none⟩))
  size : Maps.size V = L.length
structure ARel (D : DataW Unit) (l : List Co) : Prop where
  tidy : Tidy D
  has : ∀ u : ByteArray, Maps.has D (.string u.data.toList) = l.any fun a => decide (a.u = u)
  at' : ∀ a ∈ l, ∀ z, D.atKey (.string a.u.data.toList) z = .lit (.int .u8 (a.sc : Int))
  size : Maps.size D = l.length
def regCells (p : Reg) : Array Value := #[.string p.c.r, .int .u8 (p.c.sc : Int), .map (some p.m)]
def RegIn (w : World) (B : Nat) (p : Reg) (al : List Co) (d : Nat) : Prop := B ≤ p.r ∧ B ≤ p.m ∧ w.heap[p.r]? = some (.cells (regCells p) 66 (0, 0)) ∧ ∃ n D, w.ownsMap Tryz.prog 9 (plainElem Tryz.prog 31) p.m n D ∧ n ≤ d ∧ ARel D (al.filter (ofC p.c.t p.c.n))
/-- a store in memory -/
structure SAt (w : World) (B g mc : Nat) (L : List Reg) (s : GS) (d : Nat) : Prop where
  ok : s.Ok
  cs : L.map (·.c) = s.cs
  obj : w.heap[g]? = some (.cells #[.map (some mc)] 49 (0, 0))
  cm : ∃ n V, w.ownsMap Tryz.prog 62 RV mc n V ∧ n ≤ d ∧ CRel V L
  regs : ∀ p ∈ L, RegIn w B p s.al d
  ndr : (L.map (·.r)).Nodup
  ndm : (mc :: L.map (·.m)).Nodup
  bg : B ≤ g
  bm : B ≤ mc
section
variable {w w' : World} {B g mc d : Nat} {L : List Reg} {s : GS}
theorem RegIn.below {p : Reg} {al : List Co} (h : RegIn w B p al d) (hb : Below w.heap.size w w') : RegIn w' B p al d := by
  obtain ⟨h1, h2, h3, n, D, h4, h5⟩ := h
  have hgr : w.grownBy w' none := ⟨hb.os, hb.tape, hb.output, hb.size, fun k hk _ => hb.block k hk⟩
  exact ⟨h1, h2, (hb.block _ (heap_lt h3)).trans h3, n, D, h4.kept hgr (by simp), h5⟩
theorem SAt.below (h : SAt w B g mc L s d) (hb : Below w.heap.size w w') : SAt w' B g mc L s d := by
  have hgr : w.grownBy w' none := ⟨hb.os, hb.tape, hb.output, hb.size, fun k hk _ => hb.block k hk⟩
  obtain ⟨n, V, h1, h2⟩ := h.cm
  exact ⟨h.ok, h.cs, (hb.block g (heap_lt h.obj)).trans h.obj, ⟨n, V, h1.kept hgr (by simp), h2⟩, fun p hp => (h.regs p hp).below hb, h.ndr, h.ndm, h.bg, h.bm⟩
theorem SAt.c0 (h : SAt w B g mc L s d) : w.cell? ⟨g, 0, none⟩ = some (.map (some mc)) := (cell_of_row _ _ 0 _ _ _ h.obj).trans rfl
theorem SAt.lt (h : SAt w B g mc L s d) : g < w.heap.size := heap_lt h.obj
theorem RegIn.c {p : Reg} {al : List Co} (h : RegIn w B p al d) : w.cell? ⟨p.r, 0, none⟩ = some (.string p.c.r) ∧ w.cell? ⟨p.r, 1, none⟩ = some (.int .u8 (p.c.sc : Int)) ∧ w.cell? ⟨p.r, 2, none⟩ = some (.map (some p.m)) :=
  ⟨(cell_of_row _ _ 0 _ _ _ h.2.2.1).trans rfl, (cell_of_row _ _ 1 _ _ _ h.2.2.1).trans rfl, (cell_of_row _ _ 2 _ _ _ h.2.2.1).trans rfl⟩
/-- the blocks of a store -/
def MineU (g mc : Nat) (L : List Reg) (j : Nat) : Prop := j = g ∨ j = mc ∨ ∃ p ∈ L, j = p.r ∨ j = p.m
theorem SAt.mine_ge (h : SAt w B g mc L s d) : ∀ k, MineU g mc L k → B ≤ k := by
  rintro k (rfl | rfl | ⟨p, hp, rfl | rfl⟩)
  · exact h.bg
  · exact h.bm
  · exact (h.regs p hp).1
  · exact (h.regs p hp).2.1
theorem SAt.below_of (h : SAt w B g mc L s d) (ho : OutJ (MineU g mc L) w w') (hB : B ≤ w.heap.size) : Below B w w' := ho.below hB h.mine_ge
end
theorem zeroPtr (w : World) : (zeroValue 63).run Tryz.prog w = .ok (.pointer none) w := by kernel_rfl
theorem zeroSc (w : World) : (zeroValue 31).run Tryz.prog w = .ok (.int .u8 0) w := by kernel_rfl
/-- the client at two texts -/
def fC (L : List Reg) (t n : ByteArray) : Option Reg := L.find? fun p => isC t n p.c
theorem fC_some {L : List Reg} {t n : ByteArray} {p : Reg} (h : fC L t n = some p) : p ∈ L ∧ p.c.t = t ∧ p.c.n = n := by
  unfold fC at h
  have h1 := List.find?_some h
  have h2 := of_decide_eq_true h1
  exact ⟨List.mem_of_find?_eq_some h, h2.1, h2.2⟩
section
variable {w : World} {B g mc d : Nat} {L : List Reg} {s : GS}
theorem SAt.look (h : SAt w B g mc L s d) (t n : ByteArray) (ht : t.size ≤ maxLen) (hn : n.size ≤ maxLen) :
    (Instr.lookup 47 (.map (some mc)) (.agg #[.string t, .string n]) true).run Tryz.prog w = .ok (.tuple #[.pointer ((fC L t n).map fun p => ⟨p.r, 0, none⟩), .bool (fC L t n).isSome]) w := by
  obtain ⟨k, V, h1, _, h2⟩ := h.cm
  obtain ⟨v, ps, hrun, hv⟩ := h1.look_ok (z := .pointer none) (zd := .held (.pointer none)) (zp := []) lawPlace Tryz.underlying47 (zeroPtr w) rfl (keyOf_place t n ht hn)
  have e9 : V.atKey (keyP t n) (.held (.pointer none)) = .held v := congrArg Prod.fst (Option.some.inj hv).symm
  rw [hrun]
  cases hf : fC L t n with
  | none =>
    have hh : Maps.has V (keyP t n) = false := by
      rw [h2.has t n ht hn, List.any_eq_false]
      intro p hp
      have := List.find?_eq_none.1 hf p hp
      simpa using this
    rw [Maps.atKey_of_not_has hh] at e9
    injection e9 with e9
    rw [← e9, hh]
    rfl
  | some p =>
    obtain ⟨hp, rfl, rfl⟩ := fC_some hf
    have hh : Maps.has V (keyP p.c.t p.c.n) = true := by
      rw [h2.has _ _ ht hn, List.any_eq_true]
      exact ⟨p, hp, decide_eq_true ⟨rfl, rfl⟩⟩
    rw [h2.at' p hp] at e9
    injection e9 with e9
    rw [← e9, hh]
    rfl
end
end Go.Proofs.YtlkbojgemcjilaaGreatDoor
