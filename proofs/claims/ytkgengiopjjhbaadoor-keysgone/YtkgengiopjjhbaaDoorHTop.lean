/- The hash of bytes: hash.Sum. -/
import Derived.Test.YtkgengiopjjhbaaDoorHSum
namespace Go.Proofs.YtkgengiopjjhbaaDoor
open Go.RowKit
set_option linter.unusedVariables false
set_option maxRecDepth 20000

/-- a running hash of the bytes D, as a value -/
def RV (D : List UInt8) (v : Value) : Prop := ∃ s bk f, v = .agg (rvals s bk D.length) ∧ Part D s bk f
theorem start_rv (w : World) : Calls Tryd.prog 41 #[] w fun e w' => ∃ v, e = .returned v ∧ Hid (RV [] v) ∧ Below w.heap.size w w' :=
  (start_any w).mono fun e w' h => by
    obtain ⟨rfl, hb⟩ := h
    exact ⟨_, rfl, ⟨_, _, _, rfl, part_nil⟩, hb⟩
theorem with_rv {w : World} {D : List UInt8} {v : Value} (hv : RV D v) (l : List UInt8) (a : Option Addr) (n cap : Nat) (hn : n = l.length) (hB : Bytes w a l) (hl : D.length + l.length < 4611686018427387904) (hcap : l.length ≤ cap) (hK : KAt w) :
    Calls Tryd.prog 42 #[v, .slice a n cap] w fun e w' => ∃ v', e = .returned v' ∧ Hid (RV (D ++ l) v') ∧ Below w.heap.size w w' := by
  subst hn
  obtain ⟨s, bk, f, rfl, hP⟩ := hv
  refine (with_any hP l a cap hB hl hcap hK).mono fun e w' h => ?_
  obtain ⟨s', bk', f', rfl, hP', hb⟩ := h
  exact ⟨_, rfl, ⟨_, _, _, rfl, hP'⟩, hb⟩
/-- a hash as a value: the cells O of 32 bytes -/
structure HV (O : Array Value) (l : List UInt8) : Prop where
  eq : O = bvs l
  len : l.length = 32
theorem HV.size {O : Array Value} {l : List UInt8} (h : HV O l) : O.size = 32 := by rw [h.eq, bvs_size, h.len]
theorem HV.info {O : Array Value} {l : List UInt8} (h : HV O l) : (Tryd.prog.info? 23).map (·.size) = some O.size := by rw [h.size]; exact size_hash
theorem HV.one {O : Array Value} {l : List UInt8} (h : HV O l) : O.all (·.oneCell') = true := by rw [h.eq]; exact bvs_one _
theorem HV.bytes {O : Array Value} {l : List UInt8} (h : HV O l) {w : World} {g : Nat} (hg : w.heap[g]? = some (.cells O 23 (0, 0))) : Bytes w (some ⟨g, 0, none⟩) l := fun i hi =>
  ⟨g, 0, rfl, by rw [Nat.zero_add, cell_of_row _ _ _ _ _ _ hg, h.eq, bvs_get l i hi]⟩
theorem sum_rv {w : World} {D : List UInt8} {v : Value} (hv : RV D v) (hl : D.length < 1152921504606846976) (hK : KAt w) :
    Calls Tryd.prog 44 #[v] w fun e w' => ∃ O, e = .returned (.agg O) ∧ Hid (HV O (sha D)) ∧ Below w.heap.size w w' := by
  obtain ⟨s, bk, f, rfl, hP⟩ := hv
  refine (sum_any hP hl hK).mono fun e w' h => ?_
  obtain ⟨rfl, hb⟩ := h
  exact ⟨_, rfl, ⟨rfl, sha_length _⟩, hb⟩
theorem hv_zero : HV (bvs (List.replicate 32 0)) (List.replicate 32 0) := ⟨rfl, by simp⟩

set_option maxHeartbeats 1000000 in
theorem hsum_any {w : World} (l : List UInt8) (a : Option Addr) (n cap : Nat) (hn : n = l.length) (hB : Bytes w a l) (hl : l.length < 1152921504606846976) (hcap : l.length ≤ cap) (hK : KAt w) :
    Calls Tryd.prog 52 #[.slice a n cap] w fun e w' => ∃ O, e = .returned (.agg O) ∧ Hid (HV O (sha l)) ∧ Below w.heap.size w w' := by
  obtain ⟨Z, hZ⟩ : ∃ Z, Z = bvs (List.replicate 32 0) := ⟨_, rfl⟩
  have zh := (zero_of_info zero_hash).1
  rw [← hZ] at zh
  have hz : Hid (HV Z (List.replicate 32 0)) := by
    show HV _ _
    rw [hZ]; exact hv_zero
  have zh := hid zh
  have HB := hid hB
  have HK := hid hK
  have Hn := hid hn
  clear hZ hB hK hn
  go_enter Tryd.func52, Tryd.ntmps52
  go_wp2_with (with_reducible show Go.wpList _ _ _ _ _ _; refine wpList_alloc_row rfl 23 rfl Z zh.out ?_)
  refine (start_rv _).mono ?_
  rintro _ w1 ⟨v1, rfl, hv1, hb1⟩
  have b1 : Hid (Below w.heap.size w w1) := ((Below.refl _ w).alloc (Nat.le_refl _) _).trans (hb1.mono (by simp))
  have x1 : Hid (w1.heap[w.heap.size]? = some (.cells Z 23 (0, 0))) := (hb1.block _ (by simp)).trans (heap_alloc_new w _)
  clear hb1
  go_wp2_with fail
  refine (with_rv hv1.out l a n cap Hn.out (HB.out.below b1.out) (by simp; omega) hcap (HK.out.below b1.out)).mono ?_
  rintro _ w2 ⟨v2, rfl, hv2, hb2⟩
  have b2 : Hid (Below w.heap.size w w2) := Below.on' b1.out hb2
  have x2 : Hid (w2.heap[w.heap.size]? = some (.cells Z 23 (0, 0))) := (hb2.block _ (heap_lt x1.out)).trans x1.out
  clear hb2 x1 b1 hv1
  go_wp2_with fail
  refine (sum_rv hv2.out (by simp; omega) (HK.out.below b2.out)).mono ?_
  rintro _ w3 ⟨O, rfl, hO, hb3⟩
  have b3 : Hid (Below w.heap.size w w3) := Below.on' b2.out hb3
  have x3 : Hid (w3.heap[w.heap.size]? = some (.cells Z 23 (0, 0))) := (hb3.block _ (heap_lt x2.out)).trans x2.out
  clear hb3 x2 b2 hv2 HB HK
  go_wp2_with (with_reducible show Go.wpList _ _ _ _ _ _; refine wpList_store_row rfl 23 _ _ rfl w.heap.size O rfl rfl 23 Z x3.out hO.out.info (hz.out.size.trans hO.out.size.symm) hO.out.one ?_)
  refine bodyPost_ret (results_cell_row rfl _ _ w.heap.size 23 O (0, 0) _ rfl (setRow_heap _ _ _ _ _ _ x3.out) Tryd.underlying23 rfl hO.out.info) rfl ⟨O, rfl, hO, ?_⟩
  exact b3.out.setRow (by omega) _
end Go.Proofs.YtkgengiopjjhbaaDoor
