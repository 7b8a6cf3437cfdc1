/- Grants: the keys of the map of clients; blocks that calls may change. -/
import Derived.Test.YtlkbojgemcjilaaGreatDoorSLeaf
import Derived.Test.YtlkbojgemcjilaaGreatDoorYG
import Derived.Maps.OwnSet
import Derived.Maps.OwnOps
import Derived.Maps.RangeWalk
import Derived.DeepKeys4
import Derived.BigQuiet
import Derived.Deep.QuietTactic
namespace Go.Proofs.YtlkbojgemcjilaaGreatDoor
open Go.RowKit Go.Maps
set_option linter.unusedVariables false
set_option maxRecDepth 20000
theorem laidOutU : laidOutB Tryz.prog = true := by kernel_rfl
theorem lawPlace : Keyed Tryz.prog 62 := Keyed.of_law (deep_law_laid laidOutU (m := 2) (by omega) (of_decide_eq_true (by kernel_rfl)) (by kernel_rfl) (by kernel_rfl))
theorem lawStr : Keyed Tryz.prog 9 := string_keyed Tryz.underlying9
/-- the key at two texts -/
def keyP (t u : ByteArray) : Lit := .string (Go.keyBytes [.string t.data.toList, .string u.data.toList])
theorem typesU : ∃ m, Tryz.prog.types.size = m + 1 := ⟨Tryz.prog.types.size - 1, by kernel_rfl⟩
theorem keyTypeU : Tryz.prog.keyType 62 = true := by kernel_rfl
theorem cellsPlace : Tryz.prog.cellsOf 62 = 2 := by kernel_rfl
theorem cellsStr : Tryz.prog.cellsOf 9 = 1 := by kernel_rfl
theorem keyLits_str (m : Nat) (s : ByteArray) (h : s.size ≤ maxLen) : Tryz.prog.keyLits (m + 1) 9 [.string s] = some [.string s.data.toList] := by
  unfold Program.keyLits
  simp only [Tryz.underlying9, h, if_true]
theorem keyLits_str_inv (m : Nat) (cs : List Value) (ls : List Lit) (h : Tryz.prog.keyLits (m + 1) 9 cs = some ls) : ∃ s : ByteArray, cs = [.string s] ∧ s.size ≤ maxLen ∧ ls = [.string s.data.toList] := by
  unfold Program.keyLits at h
  simp only [Tryz.underlying9] at h
  split at h <;> simp_all
theorem formedU (t u : ByteArray) : Value.formed Tryz.prog 62 (.agg #[.string t, .string u]) = true := by kernel_rfl
theorem keyOf_place (t u : ByteArray) (ht : t.size ≤ maxLen) (hu : u.size ≤ maxLen) : Go.keyOf Tryz.prog 62 (.agg #[.string t, .string u]) = some (keyP t u) := by
  obtain ⟨m, hm⟩ := typesU
  unfold Go.keyOf
  rw [hm]
  simp only [Tryz.underlying62, keyTypeU, formedU, Bool.and_self, if_true]
  unfold Program.keyLits
  simp only [Tryz.underlying62, cellsPlace, Value.cells]
  rw [if_pos ⟨rfl, by decide +kernel⟩]
  simp [List.mapM_cons, cellsStr, keyLits_str m _ ht, keyLits_str m _ hu, keyP]
theorem place_inv {v : Value} {l : Lit} (h : Go.keyOf Tryz.prog 62 v = some l) : ∃ t u : ByteArray, v = .agg #[.string t, .string u] ∧ l = keyP t u ∧ t.size ≤ maxLen ∧ u.size ≤ maxLen := by
  obtain ⟨m, hm⟩ := typesU
  unfold Go.keyOf at h
  rw [hm] at h
  simp only [Tryz.underlying62, keyTypeU, Bool.true_and] at h
  split at h
  · rename_i hf
    unfold Program.keyLits at h
    simp only [Tryz.underlying62, cellsPlace] at h
    split at h
    · rename_i hc
      obtain ⟨hc1, _⟩ := hc
      obtain ⟨xs, rfl⟩ : ∃ xs, v = .agg xs := by
        cases v <;> simp [Value.cells] at hc1 <;> exact ⟨_, rfl⟩
      simp only [Value.cells] at h hc1
      obtain ⟨x0, x1, hx⟩ : ∃ x0 x1, xs = #[x0, x1] := by
        obtain ⟨l⟩ := xs
        simp only at hc1
        match l, hc1 with
        | [a, b], _ => exact ⟨a, b, rfl⟩
      subst hx
      simp only [List.mapM_cons, List.mapM_nil, bind, pure, cellsStr, List.drop_zero, List.drop_succ_cons, List.take_succ_cons, List.take_zero, Option.map_eq_some_iff, Option.bind_eq_some_iff, Option.some.injEq] at h
      obtain ⟨ls, ⟨lss, ⟨a, ha, bs, ⟨b, hb, cs, hcs, rfl⟩, rfl⟩, rfl⟩, rfl⟩ := h
      obtain ⟨t, e1, h1, rfl⟩ := keyLits_str_inv _ _ _ ha
      obtain ⟨u, e2, h2, rfl⟩ := keyLits_str_inv _ _ _ hb
      simp at e1 e2
      subst e1 e2
      subst hcs
      exact ⟨t, u, rfl, rfl, h1, h2⟩
    · cases h
  · cases h
theorem keyP_inj {t u t' u' : ByteArray} (ht : t.size ≤ maxLen) (hu : u.size ≤ maxLen) (ht' : t'.size ≤ maxLen) (hu' : u'.size ≤ maxLen) (h : keyP t u = keyP t' u') : (t, u) = (t', u') := by
  have := lawPlace.inj (keyOf_place t u ht hu) (h ▸ keyOf_place t' u' ht' hu')
  simp at this
  rw [this.1, this.2]
theorem keyP_lit (t u : ByteArray) : WideAt.IsKeyLit (keyP t u) := True.intro
theorem str_inj {s t : ByteArray} (h : (Lit.string s.data.toList) = .string t.data.toList) : s = t := by
  cases s; cases t
  simp at h
  rw [h]
theorem str_lit (t : ByteArray) : WideAt.IsKeyLit (.string t.data.toList) := True.intro
theorem str_eqU (s t : ByteArray) : s = t ↔ s.toList = t.toList := by
  constructor
  · intro h; rw [h]
  · intro h
    rw [Lib.toList_data, Lib.toList_data] at h
    rw [← Lib.mk_data s, ← Lib.mk_data t, h]
def okN (s : ByteArray) : Bool := nameB s.data.toList
theorem okN_len {s : ByteArray} (h : okN s = true) : s.size ≤ 9 := by
  unfold okN nameB at h
  simp at h
  have : s.data.toList.length = s.size := by simp
  simp at this
  omega
theorem Below.on' {w w1 w2 : World} (h : Below w.heap.size w w1) (k : Below w1.heap.size w1 w2) : Below w.heap.size w w2 := h.trans (k.mono h.size)
theorem heap_lt {w : World} {k : Nat} {o : Obj} (h : w.heap[k]? = some o) : k < w.heap.size := (Array.getElem?_eq_some_iff.1 h).1
/-- all blocks but those are as they were -/
structure OutJ (P : Nat → Prop) (w w' : World) : Prop where
  os : w'.os = w.os
  tape : w'.tape = w.tape
  output : w'.output = w.output
  size : w.heap.size ≤ w'.heap.size
  block : ∀ k, k < w.heap.size → ¬ P k → w'.heap[k]? = w.heap[k]?
theorem OutJ.of_below {P : Nat → Prop} {w w' : World} (h : Below w.heap.size w w') : OutJ P w w' := ⟨h.os, h.tape, h.output, h.size, fun k hk _ => h.block k hk⟩
theorem OutJ.trans {P : Nat → Prop} {a b c : World} (h : OutJ P a b) (k : OutJ P b c) : OutJ P a c :=
  ⟨k.os.trans h.os, k.tape.trans h.tape, k.output.trans h.output, Nat.le_trans h.size k.size, fun i hi hp => (k.block i (Nat.lt_of_lt_of_le hi h.size) hp).trans (h.block i hi hp)⟩
theorem OutJ.mono {P Q : Nat → Prop} {w w' : World} (h : OutJ P w w') (hpq : ∀ k, P k → Q k) : OutJ Q w w' := ⟨h.os, h.tape, h.output, h.size, fun k hk hq => h.block k hk (fun hp => hq (hpq k hp))⟩
theorem OutJ.below {P : Nat → Prop} {w w' : World} (h : OutJ P w w') {B : Nat} (hB : B ≤ w.heap.size) (hP : ∀ k, P k → B ≤ k) : Below B w w' := ⟨h.os, h.tape, h.output, h.size, fun k hk => h.block k (by omega) (fun hp => by have := hP k hp; omega)⟩
theorem OutJ.setCell {P : Nat → Prop} (w : World) (a : Addr) (v : Value) (ha : P a.block) : OutJ P w (w.setCell a v) :=
  ⟨rfl, rfl, rfl, by simp [World.setCell], fun k hk hp => heap_setCell_other _ _ _ _ (fun e => hp (by rw [e]; exact ha))⟩
theorem OutJ.of_grown {P : Nat → Prop} {w w' : World} {r : Nat} (h : w.grownBy w' (some r)) (hr : P r) : OutJ P w w' := ⟨h.os, h.tape, h.output, h.size, fun j hj hp => h.block j hj (fun e => hp ((Option.some.inj e) ▸ hr))⟩
end Go.Proofs.YtlkbojgemcjilaaGreatDoor
