/- Loading a chain: state.Hash and toHash, by contracts for right rows. -/
import Derived.Test.YthfmpebgmojcaaaDoorALd1
import Derived.Laws.IdiomStrings
import Derived.Laws.Cover3
namespace Go.Proofs.YthfmpebgmojcaaaDoor
open Go.RowKit
set_option linter.unusedVariables false
set_option maxRecDepth 20000
theorem conv_str (w : World) (s : ByteArray) : ∃ cap W, (convert 9 40 (.string s)).run Tryd.prog w = .ok (.slice (some ⟨w.heap.size, 0, none⟩) s.size cap) W ∧ Bytes W (some ⟨w.heap.size, 0, none⟩) s.data.toList ∧ s.size ≤ cap ∧ Below w.heap.size w W := by
  refine ⟨_, _, run_bytes_of_string (P := Tryd.prog) w 9 40 5 s Tryd.underlying9 Tryd.underlying40 Tryd.underlying5, fun i hi => ⟨w.heap.size, 0, rfl, ?_⟩, grownCap_ge _ _ _ _, ?_⟩
  · have hi' : i < s.data.size := by simpa using hi
    have h := bytesRow_at s (grownCap w s.size 0 5) i hi'
    have hh := heap_alloc_last w.drew (.cells (bytesRow s (grownCap w s.size 0 5)) 5 ((bytesRow s (grownCap w s.size 0 5)).size, (bytesRow s (grownCap w s.size 0 5)).size + 1))
    rw [Nat.zero_add]
    have hh' : (w.drew.alloc (.cells (bytesRow s (grownCap w s.size 0 5)) 5 ((bytesRow s (grownCap w s.size 0 5)).size, (bytesRow s (grownCap w s.size 0 5)).size + 1))).heap[w.heap.size]? = some (.cells (bytesRow s (grownCap w s.size 0 5)) 5 ((bytesRow s (grownCap w s.size 0 5)).size, (bytesRow s (grownCap w s.size 0 5)).size + 1)) := hh
    unfold World.cell?
    rw [hh']
    exact h.trans (by simp)
  · exact (Below.refl _ w).drew.alloc (Nat.le_refl _) _
set_option maxHeartbeats 1000000 in
theorem hashOf_ok (w : World) (h : List UInt8) (hl : h.length = 32) :
    Calls Tryd.prog 100 #[.string (mkB h)] w fun e w' => e = .returned (.tuple #[.agg (bvs h), .bool true]) ∧ Below w.heap.size w w' := by
  obtain ⟨Z, hZ⟩ : ∃ Z, Z = bvs (List.replicate 32 0) := ⟨_, rfl⟩
  have zh := (zero_of_info zero_hash).1
  rw [← hZ] at zh
  have hz : Hid (HV Z zero32) := by
    show HV _ _
    rw [hZ]; exact hv_zero
  have zh := hid zh
  have hsz : (mkB h).size = 32 := by show h.toArray.size = 32; simpa using hl
  have b0 : Below w.heap.size w (w.alloc (.cells Z 69)) := (Below.refl _ w).alloc (Nat.le_refl _) _
  have r0 : (w.alloc (.cells Z 69)).heap[w.heap.size]? = some (.cells Z 69 (0, 0)) := heap_alloc_new w _
  obtain ⟨cp, W1, hc1, hB1, hcp, hb1⟩ := conv_str (w.alloc (.cells Z 69)) (mkB h)
  rw [hsz] at hc1 hcp
  have hrange : W1.rangeAt (w.alloc (.cells Z 69)).heap.size 0 (cellsOf h) := fun j u hj => by
    have hj' : j < h.length := by
      have := (List.getElem?_eq_some_iff.1 hj).1
      simpa [cellsOf_length] using this
    obtain ⟨bb, oo, e, hcl⟩ := hB1 j hj'
    cases e
    rw [hcl]
    rw [cellsOf_get h j hj'] at hj
    rw [← hj]
    rfl
  have R1 := hid ((hb1.block _ (heap_lt r0)).trans r0)
  have B1 := hid (Below.on' b0 hb1)
  rw [show (w.alloc (.cells Z 69)).heap.size = w.heap.size + 1 by simp] at hrange
  have Hr := hid hrange
  have sh := hid (size_hashs h hl)
  have sl := hid (size_hashl h hl)
  have one := hid (bvs_one h)
  have bv : Hid ((cellsOf h).toArray = bvs h) := rfl
  have zs : Hid (Z.size = (bvs h).size) := hz.out.size.trans (HV.size (l := h) ⟨rfl, hl⟩).symm
  generalize mkB h = t at *
  generalize cellsOf h = Lc at *
  generalize bvs h = O at *
  clear hZ hB1 hb1 b0 r0 hrange
  have hap : ∀ (a : Option Addr) (W : World), (Instr.arrayAt 69 (.slice a 32 cp)).run Tryd.prog W = .ok (.pointer a) W := fun a W => run_arrayAt W 69 5 32 a 32 cp Tryd.underlying69 (Nat.le_refl _)
  go_enter Tryd.func100, Tryd.ntmps100
  go_wp2_with (first
    | (with_reducible show Go.wpList _ _ _ _ _ _; refine wpList_alloc_row rfl 69 rfl Z zh.out ?_)
    | (with_reducible show Go.wpList _ _ _ _ _ _; refine wpList_load_mid rfl 69 _ rfl (w.heap.size + 1) 0 rfl Lc _ Hr.out Tryd.underlying69 rfl sl.out ?_; rw [bv.out])
    | (with_reducible show Go.wpList _ _ _ _ _ _; refine wpList_store_row rfl 69 _ _ rfl w.heap.size O rfl rfl 69 Z R1.out sh.out zs.out one.out ?_))
  refine bodyPost_ret (results_row_tmp rfl _ _ w.heap.size 69 O (0, 0) _ rfl (setRow_heap _ _ _ _ _ _ R1.out) Tryd.underlying69 rfl sh.out) rfl ?_
  exact ⟨rfl, B1.out.setRow (Nat.le_refl _) _⟩
end Go.Proofs.YthfmpebgmojcaaaDoor
