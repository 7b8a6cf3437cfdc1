/- The hash of bytes: hash.Sum. -/
import Derived.Test.YthnciogaibhmcaaDoorHSum
namespace Go.Proofs.YthnciogaibhmcaaDoor
open Go.RowKit
set_option linter.unusedVariables false
set_option maxRecDepth 20000
set_option maxRecDepth 20000

/-- a running hash of the bytes D, as a value -/
def RV (D : List UInt8) (v : Value) : Prop := ∃ s bk f, v = .agg (rvals s bk D.length) ∧ Part D s bk f
theorem start_rv (w : World) : Calls Tryd.prog 69 #[] w fun e w' => ∃ v, e = .returned v ∧ Hid (RV [] v) ∧ Below w.heap.size w w' :=
  (start_any w).mono fun e w' h => by
    obtain ⟨rfl, hb⟩ := h
    exact ⟨_, rfl, ⟨_, _, _, rfl, part_nil⟩, hb⟩
theorem with_rv {w : World} {D : List UInt8} {v : Value} (hv : RV D v) (l : List UInt8) (a : Option Addr) (n cap : Nat) (hn : n = l.length) (hB : Bytes w a l) (hl : D.length + l.length < 4611686018427387904) (hcap : l.length ≤ cap) (hK : KAt w) :
    Calls Tryd.prog 70 #[v, .slice a n cap] w fun e w' => ∃ v', e = .returned v' ∧ Hid (RV (D ++ l) v') ∧ Below w.heap.size w w' := by
  subst hn
  obtain ⟨s, bk, f, rfl, hP⟩ := hv
  refine (with_any hP l a cap hB hl hcap hK).mono fun e w' h => ?_
  obtain ⟨s', bk', f', rfl, hP', hb⟩ := h
  exact ⟨_, rfl, ⟨_, _, _, rfl, hP'⟩, hb⟩
/-- a hash as a value: the cells O of 32 bytes -/
structure HV (O : Array Value) (l : List UInt8) : Prop where
  eq : O = bvs l
  len : l.length = 32
theorem HV.size {O : Array Value} {l : List UInt8} (h : HV O l) : O.size = 32 := by rw [h.eq, bvs_size, h.len]
theorem HV.info {O : Array Value} {l : List UInt8} (h : HV O l) : (Tryd.prog.info? 49).map (·.size) = some O.size := by rw [h.size]; exact size_hash
theorem HV.one {O : Array Value} {l : List UInt8} (h : HV O l) : O.all (·.oneCell') = true := by rw [h.eq]; exact bvs_one _
theorem HV.bytes {O : Array Value} {l : List UInt8} (h : HV O l) {w : World} {g : Nat} (hg : w.heap[g]? = some (.cells O 49 (0, 0))) : Bytes w (some ⟨g, 0, none⟩) l := fun i hi =>
  ⟨g, 0, rfl, by rw [Nat.zero_add, cell_of_row _ _ _ _ _ _ hg, h.eq, bvs_get l i hi]⟩
theorem sum_rv {w : World} {D : List UInt8} {v : Value} (hv : RV D v) (hl : D.length < 1152921504606846976) (hK : KAt w) :
    Calls Tryd.prog 71 #[v] w fun e w' => ∃ O, e = .returned (.agg O) ∧ Hid (HV O (sha D)) ∧ Below w.heap.size w w' := by
  obtain ⟨s, bk, f, rfl, hP⟩ := hv
  refine (sum_any hP hl hK).mono fun e w' h => ?_
  obtain ⟨rfl, hb⟩ := h
  exact ⟨_, rfl, ⟨rfl, sha_length _⟩, hb⟩
theorem hv_zero : HV (bvs (List.replicate 32 0)) (List.replicate 32 0) := ⟨rfl, by simp⟩

end Go.Proofs.YthnciogaibhmcaaDoor
