/- YthdcjepkehifoaaGreatBRefNew + YthdcjepkehifoaaGreatBRefWrite + YthdcjepkehifoaaGreatBRefWr -/
import Derived.Test.YthdcjepkehifoaaGreatBRef
/- New of the reference's disks, by a contract. -/
namespace Go.Proofs.YthdcjepkehifoaaGreat
open Go.RowKit
set_option linter.unusedVariables false
set_option maxRecDepth 20000
attribute [local go_sem ↓] Go.wp_at_zero Go.wp_at_succ makePg_fold
attribute [local go_sem] makePg_eq

theorem Tryz.info36 : (Tryz.prog.info? 36).map (fun i => (i.zero, i.size, i.bytes)) = some (some (.slice none 0 0), 1, 24) := by kernel_rfl

set_option maxHeartbeats 800000 in
set_option maxRecDepth 20000 in
theorem refNew_bad (n : Int) (w : World) (h : n < 1 ∨ 1024 < n) :
    Calls Tryz.prog 73 #[.int .i64 n] w fun e w' => e = .returned (.tuple #[.pointer none, .int .i64 2]) ∧ w' = w := by
  go_enter Tryz.func73, Tryz.ntmps73
  rcases h with h | h
  · go_wp2
    go_ret2
    exact ⟨rfl, rfl⟩
  · by_cases h1 : n < 1
    · omega
    · go_wp2
      go_ret2
      exact ⟨rfl, rfl⟩

theorem two_allocs (w : World) (a b : Obj) : ((w.alloc a).alloc b).drew.heap[w.heap.size + 1]? = some b := by
  have := heap_alloc_new (w.alloc a) b
  rw [World.size_alloc] at this
  exact this
theorem own_slice {b n c j : Nat} (e : (Value.slice (some ⟨b, 0, none⟩) n c).ownBlock = some j) : j = b := by cases e; rfl
theorem refNew_end {w w1 : World} {B r k gg cap1 : Nat} {F : Value} {vs : List Value} (H : RefAt w B r F (.slice none 0 0) vs [] (List.replicate k zpage) [])
    (hown1 : w1.ownsRow B 36 1 (.slice (some ⟨gg, 0, none⟩) (k + 1) cap1) (k + 1) (vs ++ [.slice (some ⟨w.heap.size, 0, none⟩) 256 256]))
    (kb : ∀ j, j < w.heap.size → some j ≠ F.ownBlock → w1.heap[j]? = w.heap[j]?) (hnew : w1.ownsRow w.heap.size 5 1 (.slice (some ⟨w.heap.size, 0, none⟩) 256 256) 256 (cellsOf zpage))
    (hat : F.ownBlock = some gg ∨ gg = w.heap.size + 2) (hos : w1.os = w.os) (htp : w1.tape = w.tape) (hou : w1.output = w.output) (hsz : w.heap.size ≤ w1.heap.size) (hB : B ≤ w.heap.size) (hap : ∀ v ∈ vs, ∀ j, v.ownBlock = some j → some j ≠ F.ownBlock) :
    (RefAt (w1.setCell ⟨r, 0, none⟩ (.slice (some ⟨gg, 0, none⟩) (k + 1) cap1)) B r (.slice (some ⟨gg, 0, none⟩) (k + 1) cap1) (.slice none 0 0) (vs ++ [.slice (some ⟨w.heap.size, 0, none⟩) 256 256]) [] (List.replicate (k + 1) zpage) [] ∧
      (∀ v ∈ vs ++ [.slice (some ⟨w.heap.size, 0, none⟩) 256 256], ∀ j, v.ownBlock = some j → some j ≠ (Value.slice (some ⟨gg, 0, none⟩) (k + 1) cap1).ownBlock)) ∧
    Below B w (w1.setCell ⟨r, 0, none⟩ (.slice (some ⟨gg, 0, none⟩) (k + 1) cap1)) := by
  have hr := H.lts.1
  have hFr : F.ownBlock ≠ some r := fun e => H.far _ (.inl e) rfl
  have hvl := H.vlen
  rw [List.length_replicate] at hvl
  have r1 := (kb r hr (Ne.symm hFr)).trans H.obj
  have hggr : gg ≠ r := by
    rcases hat with h | h
    · intro e; exact hFr (by rw [h, e])
    · omega
  have o2 : ∀ j, j ≠ r → (w1.setCell ⟨r, 0, none⟩ (.slice (some ⟨gg, 0, none⟩) (k + 1) cap1)).heap[j]? = w1.heap[j]? := fun j hj => heap_setCell_other _ _ _ _ hj
  have d2 := heap_setCell_same w1 r 0 _ _ (.slice (some ⟨gg, 0, none⟩) (k + 1) cap1) r1
  have s2 : (w1.setCell ⟨r, 0, none⟩ (.slice (some ⟨gg, 0, none⟩) (k + 1) cap1)).heap.size = w1.heap.size := by simp [World.setCell]
  have t2 : (w1.setCell ⟨r, 0, none⟩ (.slice (some ⟨gg, 0, none⟩) (k + 1) cap1)).os = w1.os ∧ (w1.setCell ⟨r, 0, none⟩ (.slice (some ⟨gg, 0, none⟩) (k + 1) cap1)).tape = w1.tape ∧ (w1.setCell ⟨r, 0, none⟩ (.slice (some ⟨gg, 0, none⟩) (k + 1) cap1)).output = w1.output := ⟨rfl, rfl, rfl⟩
  generalize w1.setCell ⟨r, 0, none⟩ (.slice (some ⟨gg, 0, none⟩) (k + 1) cap1) = w2 at *
  have hFB : ∀ j, F.ownBlock = some j → B ≤ j := fun j e => (H.first.lt j e).1
  have hvblk : ∀ v ∈ vs, ∀ j, v.ownBlock = some j → j < w.heap.size ∧ j ≠ r := fun v hv j e => ⟨(H.lts.2 j (.inr (.inr (.inl ⟨v, hv, e⟩)))).2, H.far j (.inr (.inr (.inl ⟨v, hv, e⟩)))⟩
  refine ⟨⟨⟨by rw [d2]; simp, ?_, by simp [hvl], ?_, World.ownsRow_nil _ _ _ _, rfl, fun i hi => by simp at hi, fun _ => rfl, H.br, ?_⟩, ?_⟩, ⟨t2.1.trans hos, t2.2.1.trans htp, t2.2.2.trans hou, by omega, ?_⟩⟩
  · rw [List.length_replicate]
    exact own_keep hown1 fun j e => o2 j (by intro h; rw [h] at e; cases e; exact hggr rfl)
  · intro i hi hi'
    rw [List.getElem_replicate]
    by_cases hlt : i < vs.length
    · rw [List.getElem_append_left hlt]
      have h0 := H.rows i (by rw [List.length_replicate]; omega) hlt
      rw [List.getElem_replicate] at h0
      exact own_keep h0 fun j e => by
        have := hvblk _ (List.getElem_mem hlt) j e
        rw [o2 j this.2, kb j this.1 (hap _ (List.getElem_mem hlt) j e)]
    · rw [List.getElem_append_right (by omega)]
      simp only [List.getElem_singleton]
      rw [zpage_length]
      exact (own_keep hnew fun j e => o2 j (by have := own_slice e; omega)).mono hB
  · rintro j (e | e | ⟨v, hv, e⟩ | ⟨u, hu, e⟩)
    · cases e; exact hggr
    · cases e
    · rcases List.mem_append.1 hv with h | h
      · exact (hvblk v h j e).2
      · rw [List.mem_singleton.1 h] at e; have := own_slice e; omega
    · cases hu
  · intro v hv j e h
    have hj := own_slice h.symm
    rcases List.mem_append.1 hv with h | h
    · rcases hat with h2 | h2
      · exact hap v h _ e (by rw [hj, h2])
      · have := (hvblk v h _ e).1; omega
    · rw [List.mem_singleton.1 h] at e
      have hj2 := own_slice e
      rcases hat with h2 | h2
      · have := (H.first.lt _ h2).2; omega
      · omega
  · intro j hj
    have hjr : j ≠ r := by have := H.br; omega
    rw [o2 j hjr, kb j (by omega) (fun e => by have := hFB j e.symm; omega)]

theorem replicate_snoc {α : Type} (n : Nat) (a : α) : List.replicate (n + 1) a = List.replicate n a ++ [a] := List.replicate_succ'

set_option maxHeartbeats 1600000 in
set_option maxRecDepth 20000 in
theorem refNew_ok (n : Nat) (w : World) (h1 : 1 ≤ n) (h2 : n ≤ 1024) :
    Calls Tryz.prog 73 #[.int .i64 n] w fun e w' => ∃ r F vs, e = .returned (.tuple #[.pointer (some ⟨r, 0, none⟩), .int .i64 0]) ∧ RefAt w' w.heap.size r F (.slice none 0 0) vs [] (List.replicate n zpage) [] ∧ Below w.heap.size w w' := by
  obtain ⟨i0, hi0, hz0, hz1, hz2⟩ := info_parts Tryz.info36
  have f1 : (1 : Int) ≤ (n : Int) := by omega
  have f2 : (n : Int) ≤ 1024 := by omega
  go_enter Tryz.func73, Tryz.ntmps73
  go_wp2
  go_loopw [5] (fun i wr => ∃ (k : Nat) (F : Value) (vs : List Value), k ≤ n ∧ i = .int .i64 (k : Int) ∧ RefAt wr w.heap.size w.heap.size F (.slice none 0 0) vs [] (List.replicate k zpage) [] ∧ (∀ v ∈ vs, ∀ j, v.ownBlock = some j → some j ≠ F.ownBlock) ∧ Below w.heap.size w wr) (fun i _ => n - (intOf i).toNat)
  case atStart =>
    refine ⟨0, .slice none 0 0, [], by omega, rfl, ⟨heap_alloc_new _ _, World.ownsRow_nil _ _ _ _, rfl, fun i hi => by simp at hi, World.ownsRow_nil _ _ _ _, rfl, fun i hi => by simp at hi, fun _ => rfl, Nat.le_refl _, ?_⟩, (fun v hv => by cases hv), (Below.refl _ w).alloc (Nat.le_refl _) _⟩
    rintro k (e | e | ⟨v, hv, e⟩ | ⟨u, hu, e⟩)
    · cases e
    · cases e
    · cases hv
    · cases hu
  case round =>
    obtain ⟨k, F, vs, hk, rfl, hR, hap, hB⟩ := hrel
    have Hap := hid hap
    clear hap
    by_cases hlt : k < n
    · have HR := hid hR
      have HB := hid hB
      have c0 := cell_of_row _ _ 0 _ _ _ hR.obj
      have z0 := frozen_of_row _ _ 0 _ _ hR.obj
      have hr := hR.lts.1
      have hown : wr.ownsRow w.heap.size 36 1 F k vs := by have := hR.first; rwa [List.length_replicate] at this
      have hFr : F.ownBlock ≠ some w.heap.size := fun e => hR.far _ (.inl e) rfl
      have f3 : (k : Int) < (n : Int) := by omega
      clear hR hB
      go_wp2
      go_region_law
        ((refine step_append_lies _ (by rfl) _ _ _ (by rfl) w.heap.size 36 i0 _ 1 24 Tryz.underlying46 hi0 hz0 hz1 hz2 rfl (by omega) F k vs (by rfl) (((hown.alloc _).alloc _).drew)
            ⟨wr.heap.size + 1, 0, none⟩ 1 1 [.slice (some ⟨wr.heap.size, 0, none⟩) 256 256] (by rfl) (by rfl) (World.news_of_block (cs := #[.slice (some ⟨wr.heap.size, 0, none⟩) 256 256]) (t := 36) (fr := (0, 0)) (two_allocs wr _ _)) (by simp [Value.oneCell'])
            (by omega) (by unfold maxLen; omega) (by omega) (by simp; omega) (wr.heap.size + 2) (by simp) ?_; intro gg cap1 w1 hown1 hgrow hat hlt
          have kb : ∀ j, j < wr.heap.size → some j ≠ F.ownBlock → w1.heap[j]? = wr.heap[j]? := fun j hj hne => (hgrow.block j (by simp; omega) hne).trans ((Below.heap_alloc _ _ _ (by simp; omega)).trans (Below.heap_alloc _ _ _ hj))
          have k0 : w1.cell? ⟨w.heap.size, 0, none⟩ = some F := (World.cell?_of_block (kb _ hr (Ne.symm hFr))).trans c0
          have kz : w1.frozen? ⟨w.heap.size, 0, none⟩ = false := (World.frozen?_of_block (kb _ hr (Ne.symm hFr))).trans z0
          have kn : w1.ownsRow wr.heap.size 5 1 (.slice (some ⟨wr.heap.size, 0, none⟩) 256 256) 256 (cellsOf zpage) := own_keep (zcells_own wr) fun j e => (by obtain rfl := own_slice e; exact (hgrow.block _ (by simp; omega) (fun e => by have := (hown.lt _ e.symm).2; omega)).trans (Below.heap_alloc _ _ _ (by simp)))
          have E1 := hid hown1
          have E2 := hid kb
          have E3 := hid kn
          have E4 := hid hat
          have E5 := hid hgrow
          clear hown1 hgrow kb kn hat hlt))
      all_goals
        have hE := refNew_end HR.out E1.out E2.out E3.out E4.out E5.out.os E5.out.tape E5.out.output (Nat.le_trans (by simp; omega) E5.out.size) HB.out.size Hap.out
        have HE := hid hE
        clear hE k0 kz c0 z0 hown
        go_wp2
        go_roundw
        case rel => exact ⟨k + 1, _, _, by omega, by go_num, HE.out.1.1, HE.out.1.2, HB.out.trans HE.out.2⟩
        case measure => simp [intOf]; omega
    · have hkn : k = n := by omega
      subst hkn
      have HR := hid hR
      have HB := hid hB
      clear hR hB
      go_wp2
      go_ret2
      exact ⟨_, _, _, rfl, HR.out, HB.out⟩
end Go.Proofs.YthdcjepkehifoaaGreat

/- Write of the reference's disks, by a contract. -/
namespace Go.Proofs.YthdcjepkehifoaaGreat
open Go.RowKit
set_option linter.unusedVariables false
set_option maxRecDepth 20000

set_option maxHeartbeats 800000 in
set_option maxRecDepth 20000 in
theorem copyB (x : List UInt8) (b o cap : Nat) (w : World) (hB : Bytes w (some ⟨b, o, none⟩) x) (hlen : x.length ≤ 140737488351232) (h0 : 0 < x.length) :
    Calls Tryz.prog 135 #[.slice (some ⟨b, o, none⟩) x.length cap] w fun e w' => ∃ v, e = .returned v ∧ w'.ownsRow w.heap.size 5 1 v x.length (cellsOf x) ∧ Below w.heap.size w w' := by
  obtain ⟨i0, hi, hz0, hz1, hz2⟩ := info_parts Tryz.info5
  have HB := hid hB
  clear hB
  go_enter Tryz.func135, Tryz.ntmps135
  go_wp2_with (at_builtin; refine wpList_append_own _ rfl _ _ 36 rfl w.heap.size 5 i0 (.int .u8 0) 1 1 Tryz.underlying36 hi hz0 hz1 hz2 rfl (by decide) _ _ _ rfl (World.ownsRow_nil w _ _ _) ⟨b, o, none⟩ x.length cap (cellsOf x) rfl ?qc1 ?qc2 ?qc3 ?qc4 ?qc5 ?qc6 ?_)
  case qc1 => simp [cellsOf_length]
  case qc2 =>
    intro j u hj
    have hjn : j < x.length := by
      have := (List.getElem?_eq_some_iff.1 hj).1
      simpa [cellsOf_length] using this
    obtain ⟨b', o', e', hc⟩ := HB.out j hjn
    cases e'
    rw [addr_add, ← hj, cellsOf_get x j hjn]
    exact hc
  case qc3 => exact cellsOf_one x
  case qc4 => unfold maxLen; omega
  case qc5 => omega
  case qc6 => simp
  intro v' w1 hown hgrow hnil
  go_wp2
  go_ret
  refine ⟨v', rfl, by simpa using hown, (Below.refl _ w).grown hgrow (Nat.le_refl _) (by intro k hk; simp [Value.ownBlock] at hk)⟩

theorem Tryz.info127 : (Tryz.prog.info? 127).map (fun i => (i.zero, i.size, i.bytes)) = some (some (.agg #[.int .i64 0, .slice none 0 0]), 2, 32) := by kernel_rfl

theorem lcells_length (ls : List (Nat × List UInt8)) (us : List Value) (h : us.length = ls.length) : (lcells ls us).length = ls.length * 2 := by
  induction ls generalizing us with
  | nil => cases us <;> simp [lcells]
  | cons c ls ih =>
    cases us with
    | nil => simp at h
    | cons u us =>
      simp only [lcells, List.length_cons]
      rw [ih us (by simpa using h)]
      omega
theorem lcells_snoc (ls : List (Nat × List UInt8)) (us : List Value) (h : us.length = ls.length) (c : Nat × List UInt8) (u : Value) : lcells (ls ++ [c]) (us ++ [u]) = lcells ls us ++ [.int .i64 (c.1 : Int), u] := by
  induction ls generalizing us with
  | nil =>
    cases us with
    | nil => rfl
    | cons u us => simp at h
  | cons c' ls ih =>
    cases us with
    | nil => simp at h
    | cons u' us =>
      simp only [List.cons_append, lcells]
      rw [ih us (by simpa using h)]
theorem lcells_one (ls : List (Nat × List UInt8)) (us : List Value) (hu : ∀ u ∈ us, u.oneCell' = true) : ∀ u ∈ lcells ls us, u.oneCell' = true := by
  induction ls generalizing us with
  | nil => intro u h; cases us <;> simp [lcells] at h
  | cons c ls ih =>
    cases us with
    | nil => intro u h; simp [lcells] at h
    | cons u' us =>
      intro u h
      simp only [lcells, List.mem_cons] at h
      rcases h with rfl | rfl | h
      · rfl
      · exact hu _ (by simp)
      · exact ih us (fun v hv => hu v (by simp [hv])) u h
theorem own_one {w : World} {B e s n : Nat} {v : Value} {xs : List Value} (h : w.ownsRow B e s v n xs) : v.oneCell' = true := by
  rcases h.2 with ⟨rfl, _⟩ | ⟨g, cap, cur, rfl, _⟩ <;> rfl
theorem RefAt.us_one {w : World} {B r : Nat} {F L : Value} {vs us : List Value} {fs : List (List UInt8)} {ls : List (Nat × List UInt8)} (h : RefAt w B r F L vs us fs ls) : ∀ u ∈ us, u.oneCell' = true := fun u hu => by
  obtain ⟨i, hi, rfl⟩ := List.getElem_of_mem hu
  exact own_one (h.lrows i (by rw [← h.ulen]; exact hi) hi)

/-- a reference's disk behind a write -/
theorem refWrite_end {w w1 : World} {B r : Nat} {F L : Value} {vs us : List Value} {fs : List (List UInt8)} {ls : List (Nat × List UInt8)} (H : RefAt w B r F L vs us fs ls) (n : Nat) (x : List UInt8) (hx : x.length = 256) (u : Value) (gg cap1 : Nat)
    (hown1 : w1.ownsRow w.heap.size 127 2 (.slice (some ⟨gg, 0, none⟩) (ls.length + 1) cap1) (ls.length + 1) (lcells (ls ++ [(n, x)]) (us ++ [u])))
    (hu : w1.ownsRow w.heap.size 5 1 u x.length (cellsOf x)) (kb : ∀ j, j < w.heap.size → w1.heap[j]? = w.heap[j]?)
    (hos : w1.os = w.os) (htp : w1.tape = w.tape) (hou : w1.output = w.output) (hsz : w.heap.size ≤ w1.heap.size) (hB : B ≤ w.heap.size) :
    RefAt (w1.setCell ⟨r, 1, none⟩ (.slice (some ⟨gg, 0, none⟩) (ls.length + 1) cap1)) B r F (.slice (some ⟨gg, 0, none⟩) (ls.length + 1) cap1) vs (us ++ [u]) fs (ls ++ [(n, x)]) ∧
      (∀ k, refBlock F (.slice (some ⟨gg, 0, none⟩) (ls.length + 1) cap1) vs (us ++ [u]) k → refBlock F L vs us k ∨ w.heap.size ≤ k) ∧ Only r r none w (w1.setCell ⟨r, 1, none⟩ (.slice (some ⟨gg, 0, none⟩) (ls.length + 1) cap1)) := by
  have hr := H.lts.1
  have hgg := (hown1.lt gg rfl).1
  have r1 := (kb r hr).trans H.obj
  have d2 := heap_setCell_same w1 r 1 _ _ (.slice (some ⟨gg, 0, none⟩) (ls.length + 1) cap1) r1
  have o2 : ∀ j, j ≠ r → (w1.setCell ⟨r, 1, none⟩ (.slice (some ⟨gg, 0, none⟩) (ls.length + 1) cap1)).heap[j]? = w1.heap[j]? := fun j hj => heap_setCell_other _ _ _ _ hj
  have s2 : (w1.setCell ⟨r, 1, none⟩ (.slice (some ⟨gg, 0, none⟩) (ls.length + 1) cap1)).heap.size = w1.heap.size := by simp [World.setCell]
  have t2 : (w1.setCell ⟨r, 1, none⟩ (.slice (some ⟨gg, 0, none⟩) (ls.length + 1) cap1)).os = w1.os ∧ (w1.setCell ⟨r, 1, none⟩ (.slice (some ⟨gg, 0, none⟩) (ls.length + 1) cap1)).tape = w1.tape ∧ (w1.setCell ⟨r, 1, none⟩ (.slice (some ⟨gg, 0, none⟩) (ls.length + 1) cap1)).output = w1.output := ⟨rfl, rfl, rfl⟩
  generalize w1.setCell ⟨r, 1, none⟩ (.slice (some ⟨gg, 0, none⟩) (ls.length + 1) cap1) = w2 at *
  have hul := H.ulen
  have old : ∀ k, refBlock F L vs us k → w2.heap[k]? = w.heap[k]? := fun k hk => by rw [o2 k (H.far k hk), kb k (H.lts.2 k hk).2]
  have hcl : ∀ k, refBlock F (.slice (some ⟨gg, 0, none⟩) (ls.length + 1) cap1) vs (us ++ [u]) k → refBlock F L vs us k ∨ w.heap.size ≤ k := by
    rintro k (e | e | e | ⟨v, hv, e⟩)
    · exact .inl (.inl e)
    · exact .inr (by have := own_slice e; omega)
    · exact .inl (.inr (.inr (.inl e)))
    · rcases List.mem_append.1 hv with h | h
      · exact .inl (.inr (.inr (.inr ⟨v, h, e⟩)))
      · rw [List.mem_singleton.1 h] at e
        exact .inr (hu.lt k e).1
  refine ⟨⟨by rw [d2]; simp, own_keep H.first fun k e => old k (.inl e), H.vlen, fun i hi hi' => own_keep (H.rows i hi hi') fun k e => old k (.inr (.inr (.inl ⟨_, List.getElem_mem hi', e⟩))), ?_, by simp [hul], ?_, by simp, H.br, ?_⟩, hcl, ⟨t2.1.trans hos, t2.2.1.trans htp, t2.2.2.trans hou, by omega, ?_⟩⟩
  · rw [show (ls ++ [(n, x)]).length = ls.length + 1 by simp]
    exact (own_keep hown1 fun k e => o2 k (by have := own_slice e; omega)).mono hB
  · intro i hi hi'
    by_cases hlt : i < ls.length
    · rw [List.getElem_append_left (show i < us.length by omega)]
      simp only [List.getElem_append_left hlt]
      exact own_keep (H.lrows i hlt (by omega)) fun k e => old k (.inr (.inr (.inr ⟨_, List.getElem_mem _, e⟩)))
    · have hi2 : i = ls.length := by simp at hi; omega
      subst hi2
      rw [List.getElem_append_right (by omega)]
      simp only [List.getElem_concat_length, hul, Nat.sub_self, List.getElem_singleton]
      exact (own_keep hu fun k e => o2 k (by have := (hu.lt k e).1; omega)).mono hB
  · intro k hk
    rcases hcl k hk with h | h
    · exact H.far k h
    · omega
  · intro k hk hkr _ _
    rw [o2 k hkr, kb k hk]
end Go.Proofs.YthdcjepkehifoaaGreat

/- Write of the reference's disks: the walk. -/
namespace Go.Proofs.YthdcjepkehifoaaGreat
open Go.RowKit
set_option linter.unusedVariables false
set_option maxRecDepth 20000

set_option maxHeartbeats 800000 in
set_option maxRecDepth 20000 in
theorem refWrite_far {w : World} {B r : Nat} {F L : Value} {vs us : List Value} {fs : List (List UInt8)} {ls : List (Nat × List UInt8)} (h : RefAt w B r F L vs us fs ls) (fa : Option Addr) (fc : Nat) (hF : F = .slice fa fs.length fc) (n : Int) (hn : n < 0 ∨ (fs.length : Int) ≤ n) (a : Option Addr) (l c : Nat) :
    Calls Tryz.prog 126 #[.pointer (some ⟨r, 0, none⟩), .int .i64 n, .slice a l c] w fun e w' => e = .returned (.int .i64 2) ∧ w' = w := by
  subst hF
  have c0 := cell_of_row _ _ 0 _ _ _ h.obj
  simp only [List.getElem?_toArray, List.getElem?_cons_zero] at c0
  clear h
  rcases (show n < 0 ∨ (0 ≤ n ∧ (fs.length : Int) ≤ n) by omega) with h | ⟨h0, h⟩
  · go_enter Tryz.func126, Tryz.ntmps126
    go_wp2
    go_ret
    exact ⟨rfl, rfl⟩
  · clear hn
    have h3 : ¬ n < 0 := by omega
    clear h0
    go_enter Tryz.func126, Tryz.ntmps126
    go_wp2
    go_ret
    exact ⟨rfl, rfl⟩

set_option maxHeartbeats 800000 in
set_option maxRecDepth 20000 in
theorem refWrite_form {w : World} {B r : Nat} {F L : Value} {vs us : List Value} {fs : List (List UInt8)} {ls : List (Nat × List UInt8)} (h : RefAt w B r F L vs us fs ls) (fa : Option Addr) (fc : Nat) (hF : F = .slice fa fs.length fc) (n : Nat) (hn : n < fs.length) (a : Option Addr) (l c : Nat) (hl : l ≠ 256) :
    Calls Tryz.prog 126 #[.pointer (some ⟨r, 0, none⟩), .int .i64 (n : Int), .slice a l c] w fun e w' => e = .returned (.int .i64 3) ∧ w' = w := by
  subst hF
  have c0 := cell_of_row _ _ 0 _ _ _ h.obj
  simp only [List.getElem?_toArray, List.getElem?_cons_zero] at c0
  clear h
  have d1 : ((l : Int) != 256) = true := by rw [bne_iff_ne]; omega
  have h3 : ¬ (fs.length ≤ n) := by omega
  clear hl
  go_enter Tryz.func126, Tryz.ntmps126
  go_wp2
  go_ret
  exact ⟨rfl, rfl⟩

set_option maxHeartbeats 1600000 in
set_option maxRecDepth 20000 in
theorem refWrite_ok {w : World} {B r : Nat} {F L : Value} {vs us : List Value} {fs : List (List UInt8)} {ls : List (Nat × List UInt8)} (h : RefAt w B r F L vs us fs ls) (fa : Option Addr) (fc : Nat) (hF : F = .slice fa fs.length fc) (n : Nat) (hn : n < fs.length) (x : List UInt8) (hx : x.length = 256)
    (b o cx : Nat) (hB : Bytes w (some ⟨b, o, none⟩) x) (hls : ls.length ≤ 1000000) (hbase : B ≤ w.heap.size) :
    Calls Tryz.prog 126 #[.pointer (some ⟨r, 0, none⟩), .int .i64 (n : Int), .slice (some ⟨b, o, none⟩) 256 cx] w fun e w' => e = .returned (.int .i64 0) ∧
      ∃ L' u, RefAt w' B r F L' vs (us ++ [u]) fs (ls ++ [(n, x)]) ∧ (∀ k, refBlock F L' vs (us ++ [u]) k → refBlock F L vs us k ∨ w.heap.size ≤ k) ∧ Only r r none w w' := by
  obtain ⟨i0, hi0, hz0, hz1, hz2⟩ := info_parts Tryz.info127
  subst hF
  have H := hid h
  have c0 := cell_of_row _ _ 0 _ _ _ h.obj
  have c1 := cell_of_row _ _ 1 _ _ _ h.obj
  simp only [List.getElem?_toArray, List.getElem?_cons_zero, List.getElem?_cons_succ] at c0 c1
  have hr := h.lts.1
  have z1 := frozen_of_row _ _ 1 _ _ h.obj
  have h3 : ¬ (fs.length ≤ n) := by omega
  have Hx := hid hx
  have HB := hid hB
  have hone := lcells_one ls us h.us_one
  have hll := lcells_length ls us h.ulen
  have hlog := h.log
  have hlnil := h.lnil
  have Hul := hid h.ulen
  have Hone := hid hone
  have Hll := hid hll
  clear h hx hB hone hll
  rcases hlog.2 with ⟨hL, h0⟩ | ⟨gl, lc, cur, hL, hgb, hgh, r1, r2, r3, r4⟩
  · subst hL
    have hls0 : ls = [] := List.length_eq_zero_iff.1 h0
    subst hls0
    have hus0 : us = [] := List.length_eq_zero_iff.1 Hul.out
    subst hus0
    clear hlog hlnil h0
    go_enter Tryz.func126, Tryz.ntmps126
    go_wp2_with (at_builtin; refine wpList_append_own_none rfl _ _ 123 rfl w.heap.size 127 i0 2 Tryz.underlying123 hi0 _ 0 [] rfl (World.ownsRow_nil _ _ _ _) rfl ?_)
    have Hb1 : Hid (Below w.heap.size w w) := Below.refl _ _
    have HVL : Hid (w.ownsRow w.heap.size 127 2 (.slice none 0 0) 0 (lcells [] [])) := World.ownsRow_nil _ _ _ _
    have Hcp := hid (copyB x b o cx w (HB.out.below Hb1.out) (by rw [Hx.out]; omega) (by rw [Hx.out]; omega))
    rw [Hx.out] at Hcp
    refine Hcp.out.mono ?_
    rintro e w2 ⟨u, rfl, hu, hb2⟩
    obtain ⟨bu, cu, rfl, _, _⟩ := hu.form (by omega)
    have Hu := hid hu
    have Hb2 := hid hb2
    have hs1 := Hb1.out.size
    have hs2 := hb2.size
    have hu1 := own_one hu
    clear hu hb2 Hcp
    go_wp2_with (at_builtin; refine wpList_append_lies _ rfl _ _ 123 rfl w.heap.size 127 i0 _ 2 32 Tryz.underlying123 hi0 hz0 hz1 hz2 rfl (by omega) (.slice none 0 0) 0 (lcells [] []) rfl ((own_below HVL.out Hb2.out).alloc _) ⟨w2.heap.size, 0, none⟩ 1 1 [.int .i64 (n : Int), .slice (some ⟨bu, 0, none⟩) 256 cu] rfl rfl (World.news_of_block (cs := #[.int .i64 (n : Int), .slice (some ⟨bu, 0, none⟩) 256 cu]) (t := 127) (fr := (0, 0)) (heap_alloc_new w2 _)) ?q1 ?q2 ?q3 ?q4 ?q5 (w2.heap.size + 1) ?q6 ?_)
    case q1 =>
      intro q hq
      simp only [List.mem_cons, List.not_mem_nil, or_false] at hq
      rcases hq with rfl | rfl
      · rfl
      · exact hu1
    case q2 => omega
    case q3 => unfold maxLen; omega
    case q4 => omega
    case q5 => simp; omega
    case q6 => simp
    intro gg cap1 w3 hown3 hgrow hat hlt
    have kb : ∀ j, j < w.heap.size → w3.heap[j]? = w.heap[j]? := (fun j hj => (hgrow.block j (by simp; omega) (fun e => by have := (HVL.out.lt j e.symm).1; omega)).trans ((Below.heap_alloc _ _ _ (by omega)).trans ((Hb2.out.block j (by omega)).trans (Hb1.out.block j hj))))
    have k1 := (World.cell?_of_block (a := ⟨r, 1, none⟩) (kb r hr)).trans c1
    have kz := (World.frozen?_of_block (a := ⟨r, 1, none⟩) (kb r hr)).trans z1
    have E1 := hid hown3
    have E2 := hid kb
    have E3 := hid hgrow
    have E4 := hid hlt
    clear hown3 kb hgrow hat hlt
    have hu3 : w3.ownsRow w.heap.size 5 1 (.slice (some ⟨bu, 0, none⟩) 256 cu) x.length (cellsOf x) := by
      rw [Hx.out]
      refine (own_keep Hu.out fun k e => ?_).mono hs1
      have hk := (Hu.out.lt k e)
      exact (E3.out.block k (by simp; omega) (fun e' => by have := (HVL.out.lt k e'.symm).2; omega)).trans (Below.heap_alloc _ _ _ hk.2)
    have hE := hid (refWrite_end H.out n x Hx.out (.slice (some ⟨bu, 0, none⟩) 256 cu) gg cap1 (by rw [lcells_snoc _ _ Hul.out]; exact E1.out) hu3 E2.out (by rw [E3.out.os]; exact Hb2.out.os.trans Hb1.out.os) (by rw [E3.out.tape]; exact Hb2.out.tape.trans Hb1.out.tape) (by rw [E3.out.output]; exact Hb2.out.output.trans Hb1.out.output) (Nat.le_trans (by simp; omega) E3.out.size) hbase)
    clear hu3
    go_wp2
    go_ret
    exact ⟨rfl, _, _, hE.out.1, hE.out.2.1, hE.out.2.2⟩
  · subst hL
    have hpos : 0 < ls.length := by
      rcases Nat.eq_zero_or_pos ls.length with h | h
      · have := hlnil (List.length_eq_zero_iff.1 h); cases this
      · exact h
    have Hcell : Hid (∀ j, j < ls.length * 2 → w.cell? ⟨gl, j, none⟩ = (lcells ls us)[j]?) := fun j hj => hlog.cellAt j hj
    clear hlog hlnil r1 r2 r3 r4 hgh
    go_enter Tryz.func126, Tryz.ntmps126
    go_wp2_with (at_builtin; refine wpList_append_own _ rfl _ _ 123 rfl w.heap.size 127 i0 _ 2 32 Tryz.underlying123 hi0 hz0 hz1 hz2 rfl (by decide) _ _ _ rfl (World.ownsRow_nil w _ _ _) ⟨gl, 0, none⟩ ls.length lc (lcells ls us) rfl Hll.out ?qc2 ?qc3 ?qc4 ?qc5 ?qc6 ?_)
    case qc2 =>
      intro j u hj
      have hjn : j < ls.length * 2 := by
        have := (List.getElem?_eq_some_iff.1 hj).1
        rw [Hll.out] at this
        exact this
      rw [addr_add, Nat.zero_add]
      exact (Hcell.out j hjn).trans hj
    case qc3 => exact Hone.out
    case qc4 => unfold maxLen; omega
    case qc5 => omega
    case qc6 => simp
    intro v' W1 hown hgrow hnil
    have Hb1 := hid ((Below.refl _ w).grown hgrow (Nat.le_refl _) (by intro k hk; simp [Value.ownBlock] at hk))
    have hvl : W1.ownsRow w.heap.size 127 2 v' ls.length (lcells ls us) := by simpa using hown
    have HVL := hid hvl
    clear hvl
    clear hown hgrow hnil
    go_wp2_with (fail)
    have Hcp := hid (copyB x b o cx W1 (HB.out.below Hb1.out) (by rw [Hx.out]; omega) (by rw [Hx.out]; omega))
    rw [Hx.out] at Hcp
    refine Hcp.out.mono ?_
    rintro e w2 ⟨u, rfl, hu, hb2⟩
    obtain ⟨bu, cu, rfl, _, _⟩ := hu.form (by omega)
    have Hu := hid hu
    have Hb2 := hid hb2
    have hs1 := Hb1.out.size
    have hs2 := hb2.size
    have hu1 := own_one hu
    clear hu hb2 Hcp
    go_wp2_with (at_builtin; refine wpList_append_lies _ rfl _ _ 123 rfl w.heap.size 127 i0 _ 2 32 Tryz.underlying123 hi0 hz0 hz1 hz2 rfl (by omega) v' ls.length (lcells ls us) rfl ((own_below HVL.out Hb2.out).alloc _) ⟨w2.heap.size, 0, none⟩ 1 1 [.int .i64 (n : Int), .slice (some ⟨bu, 0, none⟩) 256 cu] rfl rfl (World.news_of_block (cs := #[.int .i64 (n : Int), .slice (some ⟨bu, 0, none⟩) 256 cu]) (t := 127) (fr := (0, 0)) (heap_alloc_new w2 _)) ?q1 ?q2 ?q3 ?q4 ?q5 (w2.heap.size + 1) ?q6 ?_)
    case q1 =>
      intro q hq
      simp only [List.mem_cons, List.not_mem_nil, or_false] at hq
      rcases hq with rfl | rfl
      · rfl
      · exact hu1
    case q2 => omega
    case q3 => unfold maxLen; omega
    case q4 => omega
    case q5 => simp; omega
    case q6 => simp
    intro gg cap1 w3 hown3 hgrow hat hlt
    have kb : ∀ j, j < w.heap.size → w3.heap[j]? = w.heap[j]? := (fun j hj => (hgrow.block j (by simp; omega) (fun e => by have := (HVL.out.lt j e.symm).1; omega)).trans ((Below.heap_alloc _ _ _ (by omega)).trans ((Hb2.out.block j (by omega)).trans (Hb1.out.block j hj))))
    have k1 := (World.cell?_of_block (a := ⟨r, 1, none⟩) (kb r hr)).trans c1
    have kz := (World.frozen?_of_block (a := ⟨r, 1, none⟩) (kb r hr)).trans z1
    have E1 := hid hown3
    have E2 := hid kb
    have E3 := hid hgrow
    have E4 := hid hlt
    clear hown3 kb hgrow hat hlt
    have hu3 : w3.ownsRow w.heap.size 5 1 (.slice (some ⟨bu, 0, none⟩) 256 cu) x.length (cellsOf x) := by
      rw [Hx.out]
      refine (own_keep Hu.out fun k e => ?_).mono hs1
      have hk := (Hu.out.lt k e)
      exact (E3.out.block k (by simp; omega) (fun e' => by have := (HVL.out.lt k e'.symm).2; omega)).trans (Below.heap_alloc _ _ _ hk.2)
    have hE := hid (refWrite_end H.out n x Hx.out (.slice (some ⟨bu, 0, none⟩) 256 cu) gg cap1 (by rw [lcells_snoc _ _ Hul.out]; exact E1.out) hu3 E2.out (by rw [E3.out.os]; exact Hb2.out.os.trans Hb1.out.os) (by rw [E3.out.tape]; exact Hb2.out.tape.trans Hb1.out.tape) (by rw [E3.out.output]; exact Hb2.out.output.trans Hb1.out.output) (Nat.le_trans (by simp; omega) E3.out.size) hbase)
    clear hu3
    go_wp2
    go_ret
    exact ⟨rfl, _, _, hE.out.1, hE.out.2.1, hE.out.2.2⟩
end Go.Proofs.YthdcjepkehifoaaGreat
