/- New of the reference's disks, by a contract. -/
import Derived.Test.YtcaifnenejjfaaaGreatBRef
namespace Go.Proofs.YtcaifnenejjfaaaGreat
open Go.RowKit
set_option linter.unusedVariables false
set_option maxRecDepth 20000
attribute [local go_sem ↓] Go.wp_at_zero Go.wp_at_succ makePg_fold
attribute [local go_sem] makePg_eq

theorem Tryz.info36 : (Tryz.prog.info? 36).map (fun i => (i.zero, i.size, i.bytes)) = some (some (.slice none 0 0), 1, 24) := by kernel_rfl

set_option maxHeartbeats 800000 in
set_option maxRecDepth 20000 in
theorem refNew_bad (n : Int) (w : World) (h : n < 1 ∨ 1024 < n) :
    Calls Tryz.prog 49 #[.int .i64 n] w fun e w' => e = .returned (.tuple #[.pointer none, .int .i64 2]) ∧ w' = w := by
  go_enter Tryz.func49, Tryz.ntmps49
  rcases h with h | h
  · go_wp2
    go_ret2
    exact ⟨rfl, rfl⟩
  · by_cases h1 : n < 1
    · omega
    · go_wp2
      go_ret2
      exact ⟨rfl, rfl⟩

theorem two_allocs (w : World) (a b : Obj) : ((w.alloc a).alloc b).drew.heap[w.heap.size + 1]? = some b := by
  have := heap_alloc_new (w.alloc a) b
  rw [World.size_alloc] at this
  exact this
theorem own_slice {b n c j : Nat} (e : (Value.slice (some ⟨b, 0, none⟩) n c).ownBlock = some j) : j = b := by cases e; rfl
theorem refNew_end {w w1 : World} {B r k gg cap1 : Nat} {F : Value} {vs : List Value} (H : RefAt w B r F (.slice none 0 0) vs [] (List.replicate k zpage) [])
    (hown1 : w1.ownsRow B 36 1 (.slice (some ⟨gg, 0, none⟩) (k + 1) cap1) (k + 1) (vs ++ [.slice (some ⟨w.heap.size, 0, none⟩) 256 256]))
    (kb : ∀ j, j < w.heap.size → some j ≠ F.ownBlock → w1.heap[j]? = w.heap[j]?) (hnew : w1.ownsRow w.heap.size 5 1 (.slice (some ⟨w.heap.size, 0, none⟩) 256 256) 256 (cellsOf zpage))
    (hat : F.ownBlock = some gg ∨ gg = w.heap.size + 2) (hos : w1.os = w.os) (htp : w1.tape = w.tape) (hou : w1.output = w.output) (hsz : w.heap.size ≤ w1.heap.size) (hB : B ≤ w.heap.size) (hap : ∀ v ∈ vs, ∀ j, v.ownBlock = some j → some j ≠ F.ownBlock) :
    (RefAt (w1.setCell ⟨r, 0, none⟩ (.slice (some ⟨gg, 0, none⟩) (k + 1) cap1)) B r (.slice (some ⟨gg, 0, none⟩) (k + 1) cap1) (.slice none 0 0) (vs ++ [.slice (some ⟨w.heap.size, 0, none⟩) 256 256]) [] (List.replicate (k + 1) zpage) [] ∧
      (∀ v ∈ vs ++ [.slice (some ⟨w.heap.size, 0, none⟩) 256 256], ∀ j, v.ownBlock = some j → some j ≠ (Value.slice (some ⟨gg, 0, none⟩) (k + 1) cap1).ownBlock)) ∧
    Below B w (w1.setCell ⟨r, 0, none⟩ (.slice (some ⟨gg, 0, none⟩) (k + 1) cap1)) := by
  have hr := H.lts.1
  have hFr : F.ownBlock ≠ some r := fun e => H.far _ (.inl e) rfl
  have hvl := H.vlen
  rw [List.length_replicate] at hvl
  have r1 := (kb r hr (Ne.symm hFr)).trans H.obj
  have hggr : gg ≠ r := by
    rcases hat with h | h
    · intro e; exact hFr (by rw [h, e])
    · omega
  have o2 : ∀ j, j ≠ r → (w1.setCell ⟨r, 0, none⟩ (.slice (some ⟨gg, 0, none⟩) (k + 1) cap1)).heap[j]? = w1.heap[j]? := fun j hj => heap_setCell_other _ _ _ _ hj
  have d2 := heap_setCell_same w1 r 0 _ _ (.slice (some ⟨gg, 0, none⟩) (k + 1) cap1) r1
  have s2 : (w1.setCell ⟨r, 0, none⟩ (.slice (some ⟨gg, 0, none⟩) (k + 1) cap1)).heap.size = w1.heap.size := by simp [World.setCell]
  have t2 : (w1.setCell ⟨r, 0, none⟩ (.slice (some ⟨gg, 0, none⟩) (k + 1) cap1)).os = w1.os ∧ (w1.setCell ⟨r, 0, none⟩ (.slice (some ⟨gg, 0, none⟩) (k + 1) cap1)).tape = w1.tape ∧ (w1.setCell ⟨r, 0, none⟩ (.slice (some ⟨gg, 0, none⟩) (k + 1) cap1)).output = w1.output := ⟨rfl, rfl, rfl⟩
  generalize w1.setCell ⟨r, 0, none⟩ (.slice (some ⟨gg, 0, none⟩) (k + 1) cap1) = w2 at *
  have hFB : ∀ j, F.ownBlock = some j → B ≤ j := fun j e => (H.first.lt j e).1
  have hvblk : ∀ v ∈ vs, ∀ j, v.ownBlock = some j → j < w.heap.size ∧ j ≠ r := fun v hv j e => ⟨(H.lts.2 j (.inr (.inr (.inl ⟨v, hv, e⟩)))).2, H.far j (.inr (.inr (.inl ⟨v, hv, e⟩)))⟩
  refine ⟨⟨⟨by rw [d2]; simp, ?_, by simp [hvl], ?_, World.ownsRow_nil _ _ _ _, rfl, fun i hi => by simp at hi, fun _ => rfl, H.br, ?_⟩, ?_⟩, ⟨t2.1.trans hos, t2.2.1.trans htp, t2.2.2.trans hou, by omega, ?_⟩⟩
  · rw [List.length_replicate]
    exact own_keep hown1 fun j e => o2 j (by intro h; rw [h] at e; cases e; exact hggr rfl)
  · intro i hi hi'
    rw [List.getElem_replicate]
    by_cases hlt : i < vs.length
    · rw [List.getElem_append_left hlt]
      have h0 := H.rows i (by rw [List.length_replicate]; omega) hlt
      rw [List.getElem_replicate] at h0
      exact own_keep h0 fun j e => by
        have := hvblk _ (List.getElem_mem hlt) j e
        rw [o2 j this.2, kb j this.1 (hap _ (List.getElem_mem hlt) j e)]
    · rw [List.getElem_append_right (by omega)]
      simp only [List.getElem_singleton]
      rw [zpage_length]
      exact (own_keep hnew fun j e => o2 j (by have := own_slice e; omega)).mono hB
  · rintro j (e | e | ⟨v, hv, e⟩ | ⟨u, hu, e⟩)
    · cases e; exact hggr
    · cases e
    · rcases List.mem_append.1 hv with h | h
      · exact (hvblk v h j e).2
      · rw [List.mem_singleton.1 h] at e; have := own_slice e; omega
    · cases hu
  · intro v hv j e h
    have hj := own_slice h.symm
    rcases List.mem_append.1 hv with h | h
    · rcases hat with h2 | h2
      · exact hap v h _ e (by rw [hj, h2])
      · have := (hvblk v h _ e).1; omega
    · rw [List.mem_singleton.1 h] at e
      have hj2 := own_slice e
      rcases hat with h2 | h2
      · have := (H.first.lt _ h2).2; omega
      · omega
  · intro j hj
    have hjr : j ≠ r := by have := H.br; omega
    rw [o2 j hjr, kb j (by omega) (fun e => by have := hFB j e.symm; omega)]

theorem replicate_snoc {α : Type} (n : Nat) (a : α) : List.replicate (n + 1) a = List.replicate n a ++ [a] := List.replicate_succ'

set_option maxHeartbeats 1600000 in
set_option maxRecDepth 20000 in
theorem refNew_ok (n : Nat) (w : World) (h1 : 1 ≤ n) (h2 : n ≤ 1024) :
    Calls Tryz.prog 49 #[.int .i64 n] w fun e w' => ∃ r F vs, e = .returned (.tuple #[.pointer (some ⟨r, 0, none⟩), .int .i64 0]) ∧ RefAt w' w.heap.size r F (.slice none 0 0) vs [] (List.replicate n zpage) [] ∧ Below w.heap.size w w' := by
  obtain ⟨i0, hi0, hz0, hz1, hz2⟩ := info_parts Tryz.info36
  have f1 : (1 : Int) ≤ (n : Int) := by omega
  have f2 : (n : Int) ≤ 1024 := by omega
  go_enter Tryz.func49, Tryz.ntmps49
  go_wp2
  go_loopw [5] (fun i wr => ∃ (k : Nat) (F : Value) (vs : List Value), k ≤ n ∧ i = .int .i64 (k : Int) ∧ RefAt wr w.heap.size w.heap.size F (.slice none 0 0) vs [] (List.replicate k zpage) [] ∧ (∀ v ∈ vs, ∀ j, v.ownBlock = some j → some j ≠ F.ownBlock) ∧ Below w.heap.size w wr) (fun i _ => n - (intOf i).toNat)
  case atStart =>
    refine ⟨0, .slice none 0 0, [], by omega, rfl, ⟨heap_alloc_new _ _, World.ownsRow_nil _ _ _ _, rfl, fun i hi => by simp at hi, World.ownsRow_nil _ _ _ _, rfl, fun i hi => by simp at hi, fun _ => rfl, Nat.le_refl _, ?_⟩, (fun v hv => by cases hv), (Below.refl _ w).alloc (Nat.le_refl _) _⟩
    rintro k (e | e | ⟨v, hv, e⟩ | ⟨u, hu, e⟩)
    · cases e
    · cases e
    · cases hv
    · cases hu
  case round =>
    obtain ⟨k, F, vs, hk, rfl, hR, hap, hB⟩ := hrel
    have Hap := hid hap
    clear hap
    by_cases hlt : k < n
    · have HR := hid hR
      have HB := hid hB
      have c0 := cell_of_row _ _ 0 _ _ _ hR.obj
      have z0 := frozen_of_row _ _ 0 _ _ hR.obj
      have hr := hR.lts.1
      have hown : wr.ownsRow w.heap.size 36 1 F k vs := by have := hR.first; rwa [List.length_replicate] at this
      have hFr : F.ownBlock ≠ some w.heap.size := fun e => hR.far _ (.inl e) rfl
      have f3 : (k : Int) < (n : Int) := by omega
      clear hR hB
      go_wp2
      go_region_law
        ((refine step_append_lies _ (by rfl) _ _ _ (by rfl) w.heap.size 36 i0 _ 1 24 Tryz.underlying46 hi0 hz0 hz1 hz2 rfl (by omega) F k vs (by rfl) (((hown.alloc _).alloc _).drew)
            ⟨wr.heap.size + 1, 0, none⟩ 1 1 [.slice (some ⟨wr.heap.size, 0, none⟩) 256 256] (by rfl) (by rfl) (World.news_of_block (cs := #[.slice (some ⟨wr.heap.size, 0, none⟩) 256 256]) (t := 36) (fr := (0, 0)) (two_allocs wr _ _)) (by simp [Value.oneCell'])
            (by omega) (by unfold maxLen; omega) (by omega) (by simp; omega) (wr.heap.size + 2) (by simp) ?_; intro gg cap1 w1 hown1 hgrow hat hlt
          have kb : ∀ j, j < wr.heap.size → some j ≠ F.ownBlock → w1.heap[j]? = wr.heap[j]? := fun j hj hne => (hgrow.block j (by simp; omega) hne).trans ((Below.heap_alloc _ _ _ (by simp; omega)).trans (Below.heap_alloc _ _ _ hj))
          have k0 : w1.cell? ⟨w.heap.size, 0, none⟩ = some F := (World.cell?_of_block (kb _ hr (Ne.symm hFr))).trans c0
          have kz : w1.frozen? ⟨w.heap.size, 0, none⟩ = false := (World.frozen?_of_block (kb _ hr (Ne.symm hFr))).trans z0
          have kn : w1.ownsRow wr.heap.size 5 1 (.slice (some ⟨wr.heap.size, 0, none⟩) 256 256) 256 (cellsOf zpage) := own_keep (zcells_own wr) fun j e => (by obtain rfl := own_slice e; exact (hgrow.block _ (by simp; omega) (fun e => by have := (hown.lt _ e.symm).2; omega)).trans (Below.heap_alloc _ _ _ (by simp)))
          have E1 := hid hown1
          have E2 := hid kb
          have E3 := hid kn
          have E4 := hid hat
          have E5 := hid hgrow
          clear hown1 hgrow kb kn hat hlt))
      all_goals
        have hE := refNew_end HR.out E1.out E2.out E3.out E4.out E5.out.os E5.out.tape E5.out.output (Nat.le_trans (by simp; omega) E5.out.size) HB.out.size Hap.out
        have HE := hid hE
        clear hE k0 kz c0 z0 hown
        go_wp2
        go_roundw
        case rel => exact ⟨k + 1, _, _, by omega, by go_num, HE.out.1.1, HE.out.1.2, HB.out.trans HE.out.2⟩
        case measure => simp [intOf]; omega
    · have hkn : k = n := by omega
      subst hkn
      have HR := hid hR
      have HB := hid hB
      clear hR hB
      go_wp2
      go_ret2
      exact ⟨_, _, _, rfl, HR.out, HB.out⟩
end Go.Proofs.YtcaifnenejjfaaaGreat
