/- YthnciogaibhmcaaDoorZFork + YthnciogaibhmcaaDoorZHead -/
import Derived.Test.YthnciogaibhmcaaDoorARAdd
import Derived.Test.YthnciogaibhmcaaDoorAPrune
/- Forks of both chains; the reference's Head, Anchored and Events. -/
namespace Go.Proofs.YthnciogaibhmcaaDoor
open Go.RowKit
set_option linter.unusedVariables false
set_option maxRecDepth 20000
end Go.Proofs.YthnciogaibhmcaaDoor

/- The reference's Head, Anchored and Events. (Printed by gen/zhead.py.) -/
namespace Go.Proofs.YthnciogaibhmcaaDoor
open Go.RowKit
set_option linter.unusedVariables false
set_option maxRecDepth 20000
set_option maxHeartbeats 1000000 in
theorem rHead_any {w : World} {B g : Nat} {v : Value} {c : Ch} (h : RAt w B g v c) (ok : Lens c) :
    Calls Tryd.prog 22 #[.pointer (some ⟨g, 0, none⟩)] w fun e w' => e = .returned (.agg (bvs c.hd)) ∧ Below w.heap.size w w' := by
  obtain ⟨Z, hZ⟩ : ∃ Z, Z = bvs (List.replicate 32 0) := ⟨_, rfl⟩
  have zh := (zero_of_info zero_hash).1
  rw [← hZ] at zh
  have hz : Hid (HV Z zero32) := by
    show HV _ _
    rw [hZ]; exact hv_zero
  have zh := hid zh
  have b0 : Below w.heap.size w (w.alloc (.cells Z 49)) := (Below.refl _ w).alloc (Nat.le_refl _) _
  have rh := hid ((h.below b0).rh ok)
  have R0 : Hid ((w.alloc (.cells Z 49)).heap[w.heap.size]? = some (.cells Z 49 (0, 0))) := heap_alloc_new w _
  have B0 := hid b0
  have sh := hid (size_hashs c.hd ok.lh)
  have sl := hid (size_hashl c.hd ok.lh)
  have zs : Hid (Z.size = (bvs c.hd).size) := hz.out.size.trans (HV.size (l := c.hd) ⟨rfl, ok.lh⟩).symm
  have one := hid (bvs_one c.hd)
  have bv : Hid ((cellsOf c.hd).toArray = bvs c.hd) := rfl
  clear hZ h ok b0 hz
  generalize cellsOf c.hd = L at *
  generalize bvs c.hd = O at *
  go_enter Tryd.func22, Tryd.ntmps22
  go_wp2_with (first
    | (with_reducible show Go.wpList _ _ _ _ _ _; refine wpList_alloc_row rfl 49 rfl Z zh.out ?_)
    | (with_reducible show Go.wpList _ _ _ _ _ _; refine wpList_load_mid rfl 49 _ rfl g 67 rfl L _ rh.out Tryd.underlying49 rfl sl.out ?_; rw [bv.out])
    | (with_reducible show Go.wpList _ _ _ _ _ _; refine wpList_store_row rfl 49 _ _ rfl w.heap.size O rfl rfl 49 Z R0.out sh.out zs.out one.out ?_))
  refine bodyPost_ret (results_cell_row rfl _ _ w.heap.size 49 O (0, 0) _ rfl (setRow_heap _ _ _ _ _ _ R0.out) Tryd.underlying49 rfl sh.out) rfl ?_
  exact ⟨rfl, B0.out.setRow (Nat.le_refl _) _⟩

set_option maxHeartbeats 1000000 in
theorem rEvents_any {w : World} {B g : Nat} {v : Value} {c : Ch} (h : RAt w B g v c) (ok : ChOk c) :
    Calls Tryd.prog 20 #[.pointer (some ⟨g, 0, none⟩)] w (EvPost w c.ev) := by
  obtain ⟨a0, cap, rfl⟩ := h.val
  have c99 := h.c99 ok.l
  have H := hid h
  have hbig : Hid (c.ev.length ≤ 1000) := by show _ ≤ _; have := ok.few; omega
  obtain ⟨n, hn⟩ : ∃ n, n = c.ev.length := ⟨_, rfl⟩
  rw [← hn] at c99
  have Hn := hid hn
  clear h ok hn
  go_enter Tryd.func20, Tryd.ntmps20
  go_wp2_with (at_builtin; refine app_evsG _ rfl (.tmp 6) (.tmp 10) rfl w.heap.size _ rfl (World.ownsRow_nil _ _ _ _) a0 n cap c.ev Hn.out rfl (own_src H.out.row) hbig.out (Nat.le_refl _) ?_; intro v1 W6 hown6 hb6)
  go_ret
  exact evPost_of hown6 hb6
end Go.Proofs.YthnciogaibhmcaaDoor
