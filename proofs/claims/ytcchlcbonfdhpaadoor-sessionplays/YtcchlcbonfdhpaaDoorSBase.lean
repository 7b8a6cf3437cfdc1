/- What the texts on sessions share: worlds that part in a few blocks; sessions as plain mathematics and as values. -/
import Derived.Test.YtcchlcbonfdhpaaDoorSLeaf
import Derived.RegionTactic
import Derived.BigQuiet
import Derived.Deep.QuietTactic
import Derived.Deep.RegionHeld3
import Derived.Deep.AppendLies
import Derived.Deep.DrawnRows
import Derived.Laws.CopyOwn
import Derived.Maps.OwnSet
import Derived.Maps.RangeWalk
namespace Go.Proofs.YtcchlcbonfdhpaaDoor
open Go.RowKit Go.Maps
set_option linter.unusedVariables false

theorem ret_two {a b c d : Value} (h1 : a = c) (h2 : b = d) : Ending.returned (.tuple #[a, b]) = .returned (.tuple #[c, d]) := by rw [h1, h2]
theorem Below.on' {w w1 w2 : World} (h : Below w.heap.size w w1) (k : Below w1.heap.size w1 w2) : Below w.heap.size w w2 := h.trans (k.mono h.size)
theorem undrew1 {B : Nat} {w w' : World} (h : Below B w.drew w') : Below B w w' := ⟨h.os, h.tape, h.output, h.size, h.block⟩
theorem undrewN {B n : Nat} {w w' : World} (h : Below B (w.drewN n) w') : Below B w w' := ⟨h.os, h.tape, h.output, h.size, h.block⟩
theorem below_drewN (B : Nat) (w : World) (n : Nat) : Below B w (w.drewN n) := ⟨rfl, rfl, rfl, Nat.le_refl _, fun _ _ => rfl⟩
theorem bcell {W w1 : World} (hb : Below W.heap.size W w1) : (∀ b o, b < W.heap.size → w1.cell? ⟨b, o, none⟩ = W.cell? ⟨b, o, none⟩) ∧ (∀ b o, b < W.heap.size → w1.frozen? ⟨b, o, none⟩ = W.frozen? ⟨b, o, none⟩) :=
  ⟨fun b o h => hb.cell (p := ⟨b, o, none⟩) h, fun b o h => hb.frozen (p := ⟨b, o, none⟩) h⟩

/-- All blocks but those are as they were. -/
structure Out (P : Nat → Prop) (w w' : World) : Prop where
  os : w'.os = w.os
  tape : w'.tape = w.tape
  output : w'.output = w.output
  size : w.heap.size ≤ w'.heap.size
  block : ∀ k, k < w.heap.size → ¬ P k → w'.heap[k]? = w.heap[k]?
theorem Out.below {P : Nat → Prop} {w w' : World} (h : Out P w w') {B : Nat} (hB : B ≤ w.heap.size) (hP : ∀ k, P k → B ≤ k) : Below B w w' := ⟨h.os, h.tape, h.output, h.size, fun k hk => h.block k (by omega) (fun hp => by have := hP k hp; omega)⟩
theorem Out.refl (P : Nat → Prop) (w : World) : Out P w w := ⟨rfl, rfl, rfl, Nat.le_refl _, fun _ _ _ => rfl⟩
theorem Out.trans {P Q : Nat → Prop} {a b c : World} (h : Out P a b) (k : Out Q b c) (hq : ∀ i, i < a.heap.size → Q i → P i) : Out P a c :=
  ⟨k.os.trans h.os, k.tape.trans h.tape, k.output.trans h.output, Nat.le_trans h.size k.size, fun i hi hp => (k.block i (Nat.lt_of_lt_of_le hi h.size) (fun q => hp (hq i hi q))).trans (h.block i hi hp)⟩
theorem Out.of_below {P : Nat → Prop} {w w' : World} (h : Below w.heap.size w w') : Out P w w' := ⟨h.os, h.tape, h.output, h.size, fun k hk _ => h.block k hk⟩
theorem Out.of_grown {P : Nat → Prop} {w w' : World} {r : Nat} (h : w.grownBy w' (some r)) (hr : P r) : Out P w w' := ⟨h.os, h.tape, h.output, h.size, fun k hk hp => h.block k hk (fun e => hp (by cases e; exact hr))⟩
theorem Out.imp {P Q : Nat → Prop} {w w' : World} (h : Out P w w') (hq : ∀ i, i < w.heap.size → P i → Q i) : Out Q w w' := ⟨h.os, h.tape, h.output, h.size, fun k hk hp => h.block k hk (fun q => hp (hq k hk q))⟩
theorem Out.undrew {P : Nat → Prop} {w w' : World} (h : Out P w.drew w') : Out P w w' := ⟨h.os, h.tape, h.output, h.size, h.block⟩
theorem Out.setCell {P : Nat → Prop} {w w' : World} (h : Out P w w') (a : Addr) (v : Value) (ha : P a.block) : Out P w (w'.setCell a v) :=
  ⟨h.os, h.tape, h.output, by have : (w'.setCell a v).heap.size = w'.heap.size := by simp [World.setCell]
                              rw [this]; exact h.size, fun k hk hp => (heap_setCell_other _ _ _ _ (fun e => hp (by rw [e]; exact ha))).trans (h.block k hk hp)⟩

/-- a session -/
structure Sess where
  id : Int
  ten : ByteArray
  usr : ByteArray
  since : Int
  used : Int

/-- when a session is over, if it is not used -/
def untilOf (s : Sess) : Int := min (min (s.used + 200) (s.since + 1000)) 1099511627776
/-- its times are times -/
def TimesOk (s : Sess) : Prop := 0 ≤ s.since ∧ s.since ≤ 1099511627776 ∧ 0 ≤ s.used ∧ s.used ≤ 1099511627776
/-- is a session over? -/
def overB (s : Sess) (now : Int) : Bool := decide (untilOf s ≤ now)
/-- the error of a time -/
def timeErr (now noted : Int) : Int := if now < 0 ∨ 1099511627776 < now then 2 else if now < noted then 9 else 0

/-- a session as a value -/
def sessV (s : Sess) : Value := .agg #[.int .i64 s.id, .string s.ten, .string s.usr, .int .i64 s.since, .int .i64 s.used]
def sess0 : Sess := ⟨0, ⟨#[]⟩, ⟨#[]⟩, 0, 0⟩
/-- .. as a map's element -/
def sessR : Value → Option (DataW Sess × List MemPlace)
  | .agg ⟨[.int .i64 a, .string t, .string u, .int .i64 b, .int .i64 c]⟩ => some (.held ⟨a, t, u, b, c⟩, [])
  | _ => none
theorem sessR_mk (s : Sess) : sessR (sessV s) = some (.held s, []) := rfl
theorem sessR_shape {v : Value} {y : DataW Sess × List MemPlace} (h : sessR v = some y) : ∃ s, v = sessV s ∧ y = (.held s, []) := by
  unfold sessR at h
  split at h
  · cases h
    exact ⟨_, rfl, rfl⟩
  · cases h
theorem sessR_inv (v : Value) (s : Sess) (ps : List MemPlace) (h : sessR v = some (.held s, ps)) : v = sessV s := by
  obtain ⟨s', rfl, e⟩ := sessR_shape h
  cases e
  rfl
end Go.Proofs.YtcchlcbonfdhpaaDoor
