/- A map from numbers to whatever values, in memory. -/
import Derived.Test.YthdcjepkehifoaaGreatWOne
namespace Go.Proofs.YthdcjepkehifoaaGreat
open Go.RowKit Go.Maps Go.Sort
set_option linter.unusedVariables false
set_option maxRecDepth 20000

/-- a value is read as itself -/
def RV (v : Value) : Option (DataW Value × List MemPlace) := some (.held v, [])
/-- A map in memory: its values, by their numbers. -/
def VMap (w : World) (mb n : Nat) (pl : Nat → Option Value) : Prop :=
  ∃ D : DataW Value, w.ownsMap Tryz.prog 3 RV mb n D ∧ (∀ x : Int, Maps.has D (.int .i64 x) = (decide (0 ≤ x) && (pl x.toNat).isSome)) ∧ (∀ k v, pl k = some v → ∀ z, D.atKey (.int .i64 (k : Int)) z = .held v)
section
variable {w w' : World} {mb n : Nat} {pl : Nat → Option Value}
theorem VMap.keep (h : VMap w mb n pl) (hk : w'.heap[mb]? = w.heap[mb]?) : VMap w' mb n pl := by
  obtain ⟨D, ⟨es, clock, hb, r⟩, h1, h2⟩ := h
  exact ⟨D, ⟨es, clock, hk.trans hb, r⟩, h1, h2⟩
theorem VMap.isMap (h : VMap w mb n pl) : ∃ es clock, w.heap[mb]? = some (.map es clock) := by
  obtain ⟨D, ⟨es, clock, hb, r⟩, h1, h2⟩ := h
  exact ⟨es, clock, hb⟩
theorem VMap.lt (h : VMap w mb n pl) : mb < w.heap.size := by
  obtain ⟨D, hown, _⟩ := h
  exact hown.lt
theorem VMap.mono {n' : Nat} (h : VMap w mb n pl) (hn : n ≤ n') : VMap w mb n' pl := by
  obtain ⟨D, ho, r⟩ := h
  exact ⟨D, ho.mono hn, r⟩
theorem VMap.congr {pl' : Nat → Option Value} (h : VMap w mb n pl) (he : ∀ q, pl' q = pl q) : VMap w mb n pl' := by
  rw [show pl' = pl from funext he]; exact h
theorem VMap_made (w : World) : VMap (w.alloc (.map #[] 0)) w.heap.size 0 (fun _ => none) :=
  ⟨_, World.ownsMap_made w _ _ _, fun x => by simp [Maps.has], fun s v hs => by cases hs⟩
theorem vlit (k : Int) : WideAt.IsKeyLit (.int .i64 k) := by exact trivial
theorem vkey (k : Int) (h : (Lit.int .i64 k).wf = true) : keyOf Tryz.prog 3 (.int .i64 k) = some (.int .i64 k) := keyOf_int_mk (P := Tryz.prog) Tryz.underlying3 (a := k) h
theorem VMap.look_in {t e : TypeId} (h : VMap w mb n pl) (ht : Tryz.prog.underlying t = some (.map 3 e)) {z : Value} (hz : (zeroValue e).run Tryz.prog w = .ok z w) {k : Nat} {v : Value} (hk : pl k = some v) (hw : k ≤ 9223372036854775807) :
    (Instr.lookup t (.map (some mb)) (.int .i64 (k : Int)) true).run Tryz.prog w = .ok (.tuple #[v, .bool true]) w ∧ (Instr.lookup t (.map (some mb)) (.int .i64 (k : Int)) false).run Tryz.prog w = .ok v w := by
  obtain ⟨D, ho, hh, ha⟩ := h
  have hkey := vkey (k : Int) (WalkArith.wf_i64 (by omega))
  obtain ⟨u, ps, h1, h2⟩ := ho.look_ok intKeyed ht hz (zd := .held z) (zp := []) rfl hkey
  obtain ⟨u', ps', h1', h2'⟩ := ho.lookup intKeyed ht hz (zd := .held z) (zp := []) rfl hkey
  rw [ha k v hk] at h2 h2'
  have e1 : u = v := by simpa [RV] using congrArg (fun o : Option (DataW Value × List MemPlace) => o.map (·.1)) h2
  have e2 : u' = v := by simpa [RV] using congrArg (fun o : Option (DataW Value × List MemPlace) => o.map (·.1)) h2'
  rw [e1, hh] at h1
  rw [e2] at h1'
  refine ⟨?_, h1'⟩
  have e3 : (decide (0 ≤ (k : Int)) && (pl (k : Int).toNat).isSome) = true := by
    rw [Int.toNat_natCast, hk]; simp
  rw [e3] at h1
  exact h1
theorem VMap.look_out {t e : TypeId} (h : VMap w mb n pl) (ht : Tryz.prog.underlying t = some (.map 3 e)) {z : Value} (hz : (zeroValue e).run Tryz.prog w = .ok z w) {x : Int} (hx : x < 0 ∨ pl x.toNat = none) (hw : (Lit.int .i64 x).wf = true) :
    (Instr.lookup t (.map (some mb)) (.int .i64 x) true).run Tryz.prog w = .ok (.tuple #[z, .bool false]) w ∧ (Instr.lookup t (.map (some mb)) (.int .i64 x) false).run Tryz.prog w = .ok z w := by
  obtain ⟨D, ho, hh, ha⟩ := h
  have hkey := vkey x hw
  obtain ⟨u, ps, h1, h2⟩ := ho.look_ok intKeyed ht hz (zd := .held z) (zp := []) rfl hkey
  obtain ⟨u', ps', h1', h2'⟩ := ho.lookup intKeyed ht hz (zd := .held z) (zp := []) rfl hkey
  have hf : Maps.has D (.int .i64 x) = false := by
    rw [hh]
    rcases hx with hx | hx
    · rw [decide_eq_false (by omega)]; rfl
    · rw [hx]; simp
  rw [Maps.atKey_of_not_has hf] at h2 h2'
  have e1 : u = z := by simpa [RV] using congrArg (fun o : Option (DataW Value × List MemPlace) => o.map (·.1)) h2
  have e2 : u' = z := by simpa [RV] using congrArg (fun o : Option (DataW Value × List MemPlace) => o.map (·.1)) h2'
  rw [e1, hf] at h1
  rw [e2] at h1'
  exact ⟨h1, h1'⟩
theorem VMap.put {t e : TypeId} (h : VMap w mb n pl) (ht : Tryz.prog.underlying t = some (.map 3 e)) (hn : n ≤ 4611686018427387904) (k : Nat) (hk : k ≤ 9223372036854775807) (val : Value) :
    ∃ w', (Instr.mapUpdate t (.map (some mb)) (.int .i64 (k : Int)) val).run Tryz.prog w = .ok () w' ∧ VMap w' mb (n + 1) (fun q => if q = k then some val else pl q) ∧ w.grownBy w' (some mb) := by
  obtain ⟨D, ho, hh, ha⟩ := h
  have hkey := vkey (k : Int) (WalkArith.wf_i64 (by omega))
  have hi := ho.isMap
  obtain ⟨w', hrun, ho', hg⟩ := ho.update intKeyed ht (by unfold maxLen; omega) (val := val) (d := .held val) (ps := []) hkey rfl
  refine ⟨w', hrun, ⟨_, ho', fun x => ?_, fun q v hq z => ?_⟩, hg⟩
  · by_cases e : x = (k : Int)
    · subst e
      rw [Maps.has_put_same hi (vlit _)]
      simp
    · rw [Maps.has_put_other (fun h => e (by injection h)), hh]
      by_cases h0 : 0 ≤ x
      · have : ¬ x.toNat = k := by omega
        simp [this]
      · simp [h0]
  · by_cases e : q = k
    · subst e
      simp only [if_true] at hq
      cases hq
      exact Maps.atKey_put_same hi (vlit _) _ _
    · simp only [if_neg e] at hq
      rw [Maps.atKey_put_other (fun h => e (by injection h with _ h; omega))]
      exact ha q v hq z
theorem VMap.del {t e : TypeId} (h : VMap w mb n pl) (ht : Tryz.prog.underlying t = some (.map 3 e)) (k : Nat) (hk : k ≤ 9223372036854775807) (ty : TypeId) :
    ∃ w', (Builtin.delete_ #[t, 3] ty #[.map (some mb), .int .i64 (k : Int)]).run Tryz.prog w = .ok (.tuple #[]) w' ∧ VMap w' mb n (fun q => if q = k then none else pl q) ∧ w.grownBy w' (some mb) := by
  obtain ⟨D, ho, hh, ha⟩ := h
  have hkey := vkey (k : Int) (WalkArith.wf_i64 (by omega))
  obtain ⟨w', hrun, ho', hg⟩ := ho.drop intKeyed ht hkey ty
  refine ⟨w', hrun, ⟨_, ho', fun x => ?_, fun q v hq z => ?_⟩, hg.grown⟩
  · by_cases e : x = (k : Int)
    · subst e
      rw [Maps.has_del_same]
      simp
    · rw [Maps.has_del_other (fun h => e (by injection h)), hh]
      by_cases h0 : 0 ≤ x
      · have : ¬ x.toNat = k := by omega
        simp [this]
      · simp [h0]
  · by_cases e : q = k
    · subst e
      simp at hq
    · simp only [if_neg e] at hq
      rw [Maps.atKey_del_other (fun h => e (by injection h with _ h; omega))]
      exact ha q v hq z
theorem VMap.clear {t e : TypeId} (h : VMap w mb n pl) (ht : Tryz.prog.underlying t = some (.map 3 e)) (ty : TypeId) :
    ∃ w', (Builtin.clear_ #[t] ty #[.map (some mb)]).run Tryz.prog w = .ok (.tuple #[]) w' ∧ VMap w' mb 0 (fun _ => none) ∧ w.grownBy w' (some mb) := by
  obtain ⟨D, ⟨es, clock, hb, r⟩, _⟩ := h
  have hlt : mb < w.heap.size := (Array.getElem?_eq_some_iff.1 hb).1
  refine ⟨_, run_clear_map w t ty ht mb es clock hb, ⟨.map [], ⟨#[], clock, ?_, ⟨by simp, MapKept.stamped_empty clock, by simp⟩, Nat.le_refl _, rfl⟩, fun x => by simp [Maps.has], fun k q h => by cases h⟩, cleared_grown w mb (.map #[] clock)⟩
  show (w.heap.setIfInBounds mb (.map #[] clock))[mb]? = _
  rw [Array.getElem?_setIfInBounds_self_of_lt hlt]
/-- the keys of a map, rising -/
theorem vkeys {D : DataW Value} (hown : w.ownsMap Tryz.prog 3 RV mb n D) (hh : ∀ x : Int, Maps.has D (.int .i64 x) = (decide (0 ≤ x) && (pl x.toNat).isSome)) (t : List Nat) (ht : t.Pairwise (· < ·)) (hm : ∀ p, p ∈ t ↔ (pl p).isSome = true) (ss : List Int) (hs : ss.Perm (intKeys D)) :
    ss.length = t.length ∧ (ss.mergeSort (fun x y => decide (x ≤ y))).map encZ = natCells t := by
  have hup : (t.map fun (p : Nat) => (p : Int)).Pairwise (fun a b => a < b) := by
    rw [List.pairwise_map]
    exact ht.imp (fun h => by omega)
  have hc : CollectedI D (fun _ => false) (t.map fun (p : Nat) => (p : Int)) := by
    refine ⟨hup.imp (fun h => by omega), fun x => ?_⟩
    rw [hh x, List.mem_map]
    constructor
    · rintro ⟨p, hp, rfl⟩
      have := (hm p).1 hp
      simp [this]
    · rintro ⟨h1, _⟩
      rw [Bool.and_eq_true, decide_eq_true_eq] at h1
      exact ⟨x.toNat, (hm _).2 h1.2, by omega⟩
  have hp := hc.perm hown intKeyed Tryz.underlying3 (fun _ => rfl)
  have e := mergeSort_of_perm_i (hs.trans hp.symm)
  refine ⟨by rw [(hs.trans hp.symm).length_eq, List.length_map], ?_⟩
  show (ss.mergeSort leI).map encZ = _
  rw [e, List.mergeSort_of_pairwise (hup.imp (fun h => by show decide _ = true; rw [decide_eq_true_eq]; omega)), List.map_map]
  rfl
theorem size_keys {D : DataW Value} (hi : Maps.IsMap D) : Maps.size D = (intKeys D).length := by
  obtain ⟨es, rfl⟩ := hi
  simp [Maps.size, intKeys]
theorem VMap.len {t e : TypeId} (h : VMap w mb n pl) (ht : Tryz.prog.underlying t = some (.map 3 e)) (ty : TypeId) (l : List Nat) (hl : l.Pairwise (· < ·)) (hm : ∀ p, p ∈ l ↔ (pl p).isSome = true) :
    (Builtin.len_ #[t] ty #[.map (some mb)]).run Tryz.prog w = .ok (.int .i64 (l.length : Int)) w := by
  obtain ⟨D, ho, hh, ha⟩ := h
  rw [ho.len ht ty, size_keys ho.isMap, (vkeys ho hh l hl hm (intKeys D) (List.Perm.refl _)).1]
end
end Go.Proofs.YthdcjepkehifoaaGreat
