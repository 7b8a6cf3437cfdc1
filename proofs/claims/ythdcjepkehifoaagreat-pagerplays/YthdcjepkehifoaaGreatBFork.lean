/- Fork of package block, by a contract. -/
import Derived.Test.YthdcjepkehifoaaGreatBRefRead
namespace Go.Proofs.YthdcjepkehifoaaGreat
open Go.RowKit
set_option linter.unusedVariables false
set_option maxRecDepth 20000

set_option maxHeartbeats 800000 in
theorem store_any (d o : Nat) (x : Int) (u : Value) (w : World) (hc : w.cell? ⟨d, o, none⟩ = some u) (hz : w.frozen? ⟨d, o, none⟩ = false) :
    Calls Tryz.prog 96 #[.pointer (some ⟨d, o, none⟩), .int .i64 x] w fun e w' => e = .returned (.tuple #[]) ∧ w' = w.setCell ⟨d, o, none⟩ (.int .i64 x) := by
  go_enter Tryz.func96, Tryz.ntmps96
  go_wp2
  rw [run_call_store Tryz.func142 (by kernel_rfl) (by kernel_rfl) (by kernel_rfl) (by kernel_rfl) hc hz]
  rw [Oper.upon_value]
  go_wp2
  go_end0
  exact ⟨rfl, rfl⟩

theorem own_any {w : World} {B e s n : Nat} {v : Value} {xs : List Value} (h : w.ownsRow B e s v n xs) : ∃ a c, v = .slice a n c := by
  rcases h.2 with ⟨h, h0⟩ | ⟨g', cap', cur', hv, _⟩
  · exact ⟨none, 0, by rw [h, h0]⟩
  · exact ⟨_, _, hv⟩
theorem ccells_length (ch : List (Nat × List UInt8)) (h : ∀ c ∈ ch, c.2.length = 256) : (ccells ch).length = ch.length * 257 := by
  induction ch with
  | nil => rfl
  | cons c ch ih =>
    unfold ccells at ih ⊢
    rw [List.flatMap_cons, List.length_append, ih (fun q hq => h q (List.mem_cons_of_mem _ hq)), List.length_cons, cellsOf_length, h c List.mem_cons_self, List.length_cons]
    omega
theorem ccells_one (ch : List (Nat × List UInt8)) : ∀ u ∈ ccells ch, u.oneCell' = true := by
  intro u hu
  obtain ⟨c, _, hc⟩ := List.mem_flatMap.1 hu
  rcases List.mem_cons.1 hc with rfl | h
  · rfl
  · exact cellsOf_one _ u h

set_option maxHeartbeats 800000 in
set_option maxRecDepth 20000 in
theorem cloneCh {w : World} {B d g cap : Nat} {v : Value} {ps : List (List UInt8)} {ch : List (Nat × List UInt8)} (h : DiskAt w B d g cap v ps ch) (hch : ch.length ≤ 1000000) :
    Calls Tryz.prog 95 #[v] w fun e w' => ∃ v', e = .returned v' ∧ w'.ownsRow w.heap.size 122 257 v' ch.length (ccells ch) ∧ Below w.heap.size w w' ∧ (ch = [] → v' = .slice none 0 0) := by
  obtain ⟨i0, hi, hz0, hz1, hz2⟩ := info_parts Tryz.info122
  have q22 : ∀ (w : World) (a : Option Addr) (n c n' c' : Nat), (binOp .eql 111 (.slice a n c) (.slice none n' c')).run Tryz.prog w = .ok (.bool a.isNone) w := fun w a n c n' c' => Lib.run_eql_slice_nil w _ _ a n c n' c' Tryz.underlying111
  by_cases h0 : ch = []
  · have hv := h.vnil h0
    subst hv
    subst h0
    clear h
    go_enter Tryz.func95, Tryz.ntmps95
    go_wp2
    go_ret
    exact ⟨_, rfl, World.ownsRow_nil _ _ _ _, Below.refl _ _, fun _ => rfl⟩
  · have hpos : 0 < ch.length := by
      rcases Nat.eq_zero_or_pos ch.length with h | h
      · exact absurd (List.length_eq_zero_iff.1 h) h0
      · exact h
    obtain ⟨gv, cv, rfl, _, _⟩ := h.chs.form hpos
    have Hc : Hid (∀ j, j < ch.length * 257 → w.cell? ⟨gv, j, none⟩ = (ccells ch)[j]?) := fun j hj => h.chs.cellAt j hj
    have HL := hid (ccells_length ch (fun c hc => (h.chin c hc).2))
    have H0 := hid h0
    clear h h0
    go_enter Tryz.func95, Tryz.ntmps95
    go_wp2_with (at_builtin; refine wpList_append_own _ rfl _ _ 111 rfl w.heap.size 122 i0 _ 257 264 Tryz.underlying111 hi hz0 hz1 hz2 rfl (by decide) _ _ _ rfl (World.ownsRow_made w #[] 0 (Nat.le_refl _) (Nat.zero_le _) rfl) ⟨gv, 0, none⟩ ch.length cv (ccells ch) rfl HL.out ?qc2 ?qc3 ?qc4 ?qc5 ?qc6 ?_)
    case qc2 =>
      intro j u hj
      have hjn : j < ch.length * 257 := by
        have := (List.getElem?_eq_some_iff.1 hj).1
        rw [HL.out] at this
        exact this
      have hc := (Hc.out j hjn).trans hj
      rw [addr_add, Nat.zero_add]
      exact (World.cell?_alloc_some _ _ _ (by rw [hc]; rfl)).trans hc
    case qc3 => exact ccells_one ch
    case qc4 => unfold maxLen; omega
    case qc5 => omega
    case qc6 => simp
    intro v' w1 hown hgrow hnil
    go_wp2
    go_ret
    have hown' : w1.ownsRow w.heap.size 122 257 v' ch.length (ccells ch) := by simpa using hown
    exact ⟨v', rfl, hown', ((Below.refl _ w).alloc (Nat.le_refl _) _).grown hgrow (by simp) (by intro k hk; simp [Value.ownBlock] at hk; omega), fun e => absurd e H0.out⟩

set_option maxHeartbeats 1600000 in
set_option maxRecDepth 20000 in
theorem fork_ok {w : World} {B d g cap : Nat} {v : Value} {ps : List (List UInt8)} {ch : List (Nat × List UInt8)} (h : DiskAt w B d g cap v ps ch) (h1 : 1 ≤ ps.length) (h2 : ps.length ≤ 1024) (hch : ch.length ≤ 1000000) :
    Calls Tryz.prog 46 #[.pointer (some ⟨d, 0, none⟩)] w fun e w' => ∃ f g' cap' v', e = .returned (.pointer (some ⟨f, 0, none⟩)) ∧ DiskAt w' w.heap.size f g' cap' v' ps ch ∧ Below w.heap.size w w' := by
  have H := hid h
  have c0 := h.c0
  have c1 := h.c1
  have C2 := hid h.c2
  have Hcp := hid (clonePages (w := w.drew) (h.keep (w' := w.drew) rfl rfl fun _ _ => rfl) h1 h2)
  have hd := h.lts.1
  obtain ⟨va, vc, rfl⟩ : ∃ va vc, v = .slice va ch.length vc := by
    rcases h.chs.2 with ⟨h, h0⟩ | ⟨g', cap', cur', hv, _⟩
    · exact ⟨none, 0, by rw [h, h0]⟩
    · exact ⟨_, _, hv⟩
  clear h
  go_enter Tryz.func46, Tryz.ntmps46
  go_wp2
  go_region_held3 (fun w9 => w9.cell? ⟨d, 0, none⟩ = some (.slice (some ⟨g, 0, none⟩) ps.length cap) ∧ w9.cell? ⟨d, 1, none⟩ = some (.slice va ch.length vc)) (first | exact ⟨c0, c1⟩ | exact k.out | exact q.out | exact ⟨(World.cell?_alloc_some _ _ _ (by rw [q.out.1]; rfl)).trans q.out.1, (World.cell?_alloc_some _ _ _ (by rw [q.out.2]; rfl)).trans q.out.2⟩)
    (first
      | ((go_at_call 88; refine Hcp.out.mono ?_; rintro e w1 ⟨g', cap', rfl, hown, hbel'⟩; have hbel := undrew hbel'; have k := hid (And.intro ((hbel.cell (World.block_lt_of_cell? _ _ c0)).trans c0) ((hbel.cell (World.block_lt_of_cell? _ _ c1)).trans c1)); have Hown := hid hown; have Hbel := hid hbel; clear hown hbel hbel'))
      | ((go_at_call 95; refine (cloneCh (H.out.below Hbel.out) hch).mono ?_; rintro e w2 ⟨v', rfl, hv', hb2, hn2⟩; obtain ⟨va', vc', rfl⟩ : ∃ va' vc', v' = .slice va' ch.length vc' := own_any hv'; have q := hid (And.intro ((hb2.cell (World.block_lt_of_cell? _ _ k.out.1)).trans k.out.1) ((hb2.cell (World.block_lt_of_cell? _ _ k.out.2)).trans k.out.2)); have Hv' := hid hv'; have Hb2 := hid hb2; have Hn2 := hid hn2; clear hv' hb2 hn2)))
  have hs1 := Hbel.out.size
  have hs2 := Hb2.out.size
  have Hg' := hid (Hown.out.lt g' rfl)
  have hown1 : w1.ownsRow w.heap.size 120 256 (.slice (some ⟨g', 0, none⟩) ps.length cap') ps.length (pcells ps) := Hown.out
  obtain ⟨W, hW⟩ : ∃ W, W = w2.alloc (.cells #[.slice (some ⟨g', 0, none⟩) ps.length cap', .slice va' ch.length vc', .int .i64 0] 118) := ⟨_, rfl⟩
  have hf : W.heap[w2.heap.size]? = some (.cells #[.slice (some ⟨g', 0, none⟩) ps.length cap', .slice va' ch.length vc', .int .i64 0] 118 (0, 0)) := by rw [hW]; exact heap_alloc_new _ _
  have HBW := hid (show Below w.heap.size w W by rw [hW]; exact (Hbel.out.trans (Hb2.out.mono hs1)).alloc (Nat.le_trans hs1 hs2) _)
  have HpW := hid (show W.ownsRow w.heap.size 120 256 (.slice (some ⟨g', 0, none⟩) ps.length cap') ps.length (pcells ps) by rw [hW]; exact (own_below hown1 Hb2.out).alloc _)
  have HvW := hid (show W.ownsRow w1.heap.size 122 257 (.slice va' ch.length vc') ch.length (ccells ch) by rw [hW]; exact Hv'.out.alloc _)
  rw [← hW]
  have Hf := hid hf
  have Hfull := hid H.out.full
  have Hchin := hid H.out.chin
  have c2 : W.cell? ⟨d, 2, none⟩ = some (.int .i64 (ch.length : Int)) := (HBW.out.cell (show (⟨d, 2, none⟩ : Addr).block < w.heap.size from hd)).trans C2.out
  have f2 : W.cell? ⟨w2.heap.size, 2, none⟩ = some (.int .i64 0) := cell_of_row _ _ 2 _ _ _ hf
  have z2 : W.frozen? ⟨w2.heap.size, 2, none⟩ = false := frozen_of_row _ _ 2 _ _ hf
  have HvL := hid (Hv'.out.lt)
  have Ld := hid (load_any d 2 (ch.length : Int) W.drew c2)
  have Sd := hid (store_any w2.heap.size 2 (ch.length : Int) _ W.drew f2 z2)
  clear hf hW hown1 k q c0 c1 Hown Hbel Hcp Hb2 Hv' H
  go_wp2
  go_region_held3 (fun w9 => True) (trivial)
    (first
      | ((go_at_call 87; refine Ld.out.mono ?_; rintro e w4 ⟨rfl, rfl⟩))
      | ((go_at_call 96; refine Sd.out.mono ?_; rintro e w5 ⟨rfl, rfl⟩)))
  go_wp2
  go_ret
  have hD : DiskAt (W.drew.setCell ⟨w2.heap.size, 2, none⟩ (.int .i64 (ch.length : Int))) w.heap.size w2.heap.size g' cap' (.slice va' ch.length vc') ps ch := by
    have o2 : ∀ j, j ≠ w2.heap.size → (W.drew.setCell ⟨w2.heap.size, 2, none⟩ (.int .i64 (ch.length : Int))).heap[j]? = W.heap[j]? := fun j hj => heap_setCell_other _ _ _ _ hj
    have d2 := heap_setCell_same W.drew w2.heap.size 2 _ _ (.int .i64 (ch.length : Int)) Hf.out
    have hg1 := Hg'.out.2
    have hvb : ∀ j, (Value.slice va' ch.length vc').ownBlock = some j → w1.heap.size ≤ j ∧ j < w2.heap.size := HvL.out
    refine ⟨by rw [d2]; simp, own_keep HpW.out fun j e => o2 j (by have := own_slice e; omega), Hfull.out, (own_keep HvW.out fun j e => o2 j (by have := (hvb j e).2; omega)).mono hs1, Hchin.out, by omega, by omega, fun e => by have := (hvb _ e).2; omega, fun e => by have := (hvb _ e).1; omega, Hn2.out⟩
  have hWd : Below w.heap.size w W.drew := ⟨HBW.out.os, HBW.out.tape, HBW.out.output, HBW.out.size, HBW.out.block⟩
  have hBf : Below w.heap.size w (W.drew.setCell ⟨w2.heap.size, 2, none⟩ (.int .i64 (ch.length : Int))) := hWd.setCell (show w.heap.size ≤ (⟨w2.heap.size, 2, none⟩ : Addr).block from Nat.le_trans hs1 hs2) _
  first | exact ⟨_, _, _, _, rfl, hD, hBf⟩ | exact ⟨_, rfl, ⟨_, _, _, hD⟩, hBf⟩ | exact ⟨_, rfl, _, _, _, hD, hBf⟩ | exact ⟨_, rfl, ⟨_, _, ⟨_, hD⟩⟩, hBf⟩
end Go.Proofs.YthdcjepkehifoaaGreat
