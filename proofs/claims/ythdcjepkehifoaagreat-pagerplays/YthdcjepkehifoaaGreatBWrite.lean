/- Write of package block, by a contract. -/
import Derived.Test.YthdcjepkehifoaaGreatBBuild
namespace Go.Proofs.YthdcjepkehifoaaGreat
open Go.RowKit
set_option linter.unusedVariables false
set_option maxRecDepth 20000
attribute [local go_sem ↓] Go.wp_at_zero Go.wp_at_succ buildCh_fold sliceCh_fold loadPg_fold
attribute [local go_sem] buildCh_eq sliceCh_eq

/-- All but the blocks d, g and r is as it was. -/
structure Only (d g : Nat) (r : Option Nat) (w w' : World) : Prop where
  os : w'.os = w.os
  tape : w'.tape = w.tape
  output : w'.output = w.output
  size : w.heap.size ≤ w'.heap.size
  block : ∀ k, k < w.heap.size → k ≠ d → k ≠ g → some k ≠ r → w'.heap[k]? = w.heap[k]?

theorem range_far {w w' : World} {b o : Nat} {cs : List Value} (h : w.rangeAt b o cs) (hb : w'.heap[b]? = w.heap[b]?) : w'.rangeAt b o cs := fun j v hv => (World.cell?_of_block (a := ⟨b, o + j, none⟩) hb).trans (h j v hv)
theorem range_set {w : World} {b o : Nat} {cs : List Value} (h : w.rangeAt b o cs) (p : Addr) (u : Value) (hb : b ≠ p.block) : (w.setCell p u).rangeAt b o cs := range_far h (heap_setCell_other _ _ _ _ hb)

theorem flat_take {α : Type} (ps : List (List α)) (hf : ∀ p ∈ ps, p.length = 256) (n : Nat) (hn : n ≤ ps.length) : ps.flatten.take (n * 256) = (ps.take n).flatten ∧ ps.flatten.drop (n * 256) = (ps.drop n).flatten := by
  induction ps generalizing n with
  | nil => simp
  | cons p ps ih =>
    have hp := hf p (by simp)
    cases n with
    | zero => simp
    | succ n =>
      have := ih (fun q hq => hf q (by simp [hq])) n (by simpa using hn)
      rw [List.flatten_cons, List.take_append, List.drop_append, List.take_of_length_le (by omega), List.drop_eq_nil_of_le (by omega), hp,
        show (n + 1) * 256 - 256 = n * 256 by omega, this.1, this.2]
      simp
theorem pcells_set (ps : List (List UInt8)) (hf : ∀ p ∈ ps, p.length = 256) (n : Nat) (hn : n < ps.length) (x : List UInt8) :
    pcells (ps.set n x) = (pcells ps).take (n * 256) ++ (cellsOf x ++ (pcells ps).drop (n * 256 + 256)) := by
  have h1 := (flat_take ps hf n (by omega)).1
  have h2 := (flat_take ps hf (n + 1) (by omega)).2
  unfold pcells
  rw [List.set_eq_take_append_cons_drop, if_pos hn, List.flatten_append, List.flatten_cons, cellsOf_append, cellsOf_append, ← h1, ← h2]
  simp only [cellsOf, List.map_take, List.map_drop]
  rw [show (n + 1) * 256 = n * 256 + 256 by omega]
theorem pcells_copied (ps : List (List UInt8)) (hf : ∀ p ∈ ps, p.length = 256) (n : Nat) (hn : n < ps.length) (x : List UInt8) (hx : x.length = 256) (cur : List Value) (hc : cur.take (ps.length * 256) = pcells ps) (hs : ps.length * 256 ≤ cur.length) :
    (cur.take (n * 256) ++ (cellsOf x ++ cur.drop (n * 256 + 256))).take (ps.length * 256) = pcells (ps.set n x) := by
  rw [pcells_set ps hf n hn x, ← hc]
  have e : cur = cur.take (ps.length * 256) ++ cur.drop (ps.length * 256) := (List.take_append_drop _ _).symm
  have l1 : (cur.take (n * 256)).length = n * 256 := by rw [List.length_take]; omega
  rw [List.take_append, List.take_append, cellsOf_length, hx, l1, List.take_take, List.take_take]
  rw [List.take_of_length_le (l := cellsOf x) (by rw [cellsOf_length, hx]; omega), List.drop_take]
  rw [show min (ps.length * 256) (n * 256) = n * 256 by omega, show min (n * 256) (ps.length * 256) = n * 256 by omega, show ps.length * 256 - n * 256 - 256 = ps.length * 256 - (n * 256 + 256) by omega]

/-- a disk behind a write -/
theorem write_end {w w1 : World} {B d g cap : Nat} {v : Value} {ps : List (List UInt8)} {ch : List (Nat × List UInt8)} (H : DiskAt w B d g cap v ps ch) (n : Nat) (hn : n < ps.length) (x : List UInt8) (hx : x.length = 256) (gg cap1 : Nat)
    (hown1 : w1.ownsRow B 122 257 (.slice (some ⟨gg, 0, none⟩) (ch.length + 1) cap1) (ch.length + 1) (ccells (ch ++ [(n, ps[n])])))
    (kb : ∀ k, k < w.heap.size → some k ≠ v.ownBlock → w1.heap[k]? = w.heap[k]?) (hat : v.ownBlock = some gg ∨ gg = w.heap.size + 1)
    (hos : w1.os = w.os) (htp : w1.tape = w.tape) (hou : w1.output = w.output) (hsz : w.heap.size ≤ w1.heap.size) (cur : Array Value) (hcur : w.heap[g]? = some (.cells cur 120 (0, 0))) :
    DiskAt (((w1.setCell ⟨d, 1, none⟩ (.slice (some ⟨gg, 0, none⟩) (ch.length + 1) cap1)).setRow g (cur.toList.take (n * 256) ++ (cellsOf x ++ cur.toList.drop (n * 256 + (cellsOf x).length))).toArray).setCell ⟨d, 2, none⟩ (.int .i64 ((ch.length : Int) + 1)))
      B d g cap (.slice (some ⟨gg, 0, none⟩) (ch.length + 1) cap1) (ps.set n x) (ch ++ [(n, ps[n])]) ∧
    Only d g v.ownBlock w (((w1.setCell ⟨d, 1, none⟩ (.slice (some ⟨gg, 0, none⟩) (ch.length + 1) cap1)).setRow g (cur.toList.take (n * 256) ++ (cellsOf x ++ cur.toList.drop (n * 256 + (cellsOf x).length))).toArray).setCell ⟨d, 2, none⟩ (.int .i64 ((ch.length : Int) + 1))) := by
  have hd := H.lts.1
  have hg := H.lts.2.1
  have hdg := H.dg
  have hggd : gg ≠ d := by
    rcases hat with h | h
    · intro e; exact H.vd (by rw [h, e])
    · omega
  have hggg : gg ≠ g := by
    rcases hat with h | h
    · intro e; exact H.vg (by rw [h, e])
    · omega
  have hl : (cellsOf x).length = 256 := by rw [cellsOf_length, hx]
  rw [hl]
  have d1 := (kb d hd (Ne.symm H.vd)).trans H.obj
  have g1 := (kb g hg (Ne.symm H.vg)).trans hcur
  have d2 := heap_setCell_same w1 d 1 _ _ (.slice (some ⟨gg, 0, none⟩) (ch.length + 1) cap1) d1
  have g2 := (heap_setCell_other w1 ⟨d, 1, none⟩ g (.slice (some ⟨gg, 0, none⟩) (ch.length + 1) cap1) (Ne.symm hdg)).trans g1
  have o2 : ∀ k, k ≠ d → (w1.setCell ⟨d, 1, none⟩ (.slice (some ⟨gg, 0, none⟩) (ch.length + 1) cap1)).heap[k]? = w1.heap[k]? := fun k hk => heap_setCell_other _ _ _ _ hk
  have s2 : (w1.setCell ⟨d, 1, none⟩ (.slice (some ⟨gg, 0, none⟩) (ch.length + 1) cap1)).heap.size = w1.heap.size := by simp [World.setCell]
  have t2 : (w1.setCell ⟨d, 1, none⟩ (.slice (some ⟨gg, 0, none⟩) (ch.length + 1) cap1)).os = w1.os ∧ (w1.setCell ⟨d, 1, none⟩ (.slice (some ⟨gg, 0, none⟩) (ch.length + 1) cap1)).tape = w1.tape ∧ (w1.setCell ⟨d, 1, none⟩ (.slice (some ⟨gg, 0, none⟩) (ch.length + 1) cap1)).output = w1.output := ⟨rfl, rfl, rfl⟩
  generalize w1.setCell ⟨d, 1, none⟩ (.slice (some ⟨gg, 0, none⟩) (ch.length + 1) cap1) = w2 at *
  have g3 := setRow_heap w2 g cur (cur.toList.take (n * 256) ++ (cellsOf x ++ cur.toList.drop (n * 256 + 256))).toArray _ _ g2
  have o3 : ∀ k, k ≠ g → (w2.setRow g (cur.toList.take (n * 256) ++ (cellsOf x ++ cur.toList.drop (n * 256 + 256))).toArray).heap[k]? = w2.heap[k]? := fun k hk => setRow_other w2 g k _ hk
  have s3 : (w2.setRow g (cur.toList.take (n * 256) ++ (cellsOf x ++ cur.toList.drop (n * 256 + 256))).toArray).heap.size = w2.heap.size := size_setRow _ _ _
  have t3 : (w2.setRow g (cur.toList.take (n * 256) ++ (cellsOf x ++ cur.toList.drop (n * 256 + 256))).toArray).os = w2.os ∧ (w2.setRow g (cur.toList.take (n * 256) ++ (cellsOf x ++ cur.toList.drop (n * 256 + 256))).toArray).tape = w2.tape ∧ (w2.setRow g (cur.toList.take (n * 256) ++ (cellsOf x ++ cur.toList.drop (n * 256 + 256))).toArray).output = w2.output := ⟨rfl, rfl, rfl⟩
  generalize w2.setRow g (cur.toList.take (n * 256) ++ (cellsOf x ++ cur.toList.drop (n * 256 + 256))).toArray = w3 at *
  have d3 := (o3 d hdg).trans d2
  have d4 := heap_setCell_same w3 d 2 _ _ (.int .i64 ((ch.length : Int) + 1)) d3
  have o4 : ∀ k, k ≠ d → (w3.setCell ⟨d, 2, none⟩ (.int .i64 ((ch.length : Int) + 1))).heap[k]? = w3.heap[k]? := fun k hk => heap_setCell_other _ _ _ _ hk
  have s4 : (w3.setCell ⟨d, 2, none⟩ (.int .i64 ((ch.length : Int) + 1))).heap.size = w3.heap.size := by simp [World.setCell]
  have t4 : (w3.setCell ⟨d, 2, none⟩ (.int .i64 ((ch.length : Int) + 1))).os = w3.os ∧ (w3.setCell ⟨d, 2, none⟩ (.int .i64 ((ch.length : Int) + 1))).tape = w3.tape ∧ (w3.setCell ⟨d, 2, none⟩ (.int .i64 ((ch.length : Int) + 1))).output = w3.output := ⟨rfl, rfl, rfl⟩
  generalize w3.setCell ⟨d, 2, none⟩ (.int .i64 ((ch.length : Int) + 1)) = w4 at *
  have hgk : w4.heap[gg]? = w1.heap[gg]? := (o4 gg hggd).trans ((o3 gg hggg).trans (o2 gg hggd))
  refine ⟨⟨?_, ⟨?_, ?_⟩, ?_, ⟨?_, ?_⟩, ?_, H.bd, H.dg, ?_, ?_, (fun e => by simp at e)⟩, ⟨?_, ?_, ?_, ?_, ?_⟩⟩
  · rw [List.length_set, d4]
    simp
  · rw [List.length_set, pcells_length _ (fun p hp => ?_), List.length_set]
    rcases List.mem_or_eq_of_mem_set hp with h | h
    · exact H.full p h
    · rw [h, hx]
  · rw [List.length_set]
    rcases H.pages.2 with ⟨h, _⟩ | ⟨g', cap', cur', hv, hb, hh, h1, h2, h3, h4⟩
    · cases h
    · cases hv
      rw [hcur] at hh
      cases hh
      refine .inr ⟨g, cap, _, rfl, hb, (o4 g (Ne.symm hdg)).trans g3, h1, h2, ?_, ?_⟩
      · have : (n + 1) * 256 ≤ cap * 256 := Nat.mul_le_mul_right _ (by omega)
        simp [hl, h3]
        omega
      · have : ps.length * 256 ≤ cap * 256 := Nat.mul_le_mul_right _ h1
        exact pcells_copied ps H.full n hn x hx cur.toList h4 (by simp; omega)
  · intro p hp
    rcases List.mem_or_eq_of_mem_set hp with h | h
    · exact H.full p h
    · rw [h, hx]
  · rw [hown1.1]; simp
  · rw [show (ch ++ [(n, ps[n])]).length = ch.length + 1 by simp]
    rcases hown1.2 with ⟨h, _⟩ | ⟨g', cap', cur', hv, hb, hh, r⟩
    · cases h
    · cases hv
      exact .inr ⟨gg, cap1, cur', rfl, hb, hgk.trans hh, r⟩
  · intro c hc
    rw [List.length_set]
    rcases List.mem_append.1 hc with h | h
    · exact H.chin c h
    · rw [List.mem_singleton.1 h]; exact ⟨hn, H.full _ (List.getElem_mem _)⟩
  · intro e; exact hggd (by simpa [Value.ownBlock] using e)
  · intro e; exact hggg (by simpa [Value.ownBlock] using e)
  · rw [t4.1, t3.1, t2.1, hos]
  · rw [t4.2.1, t3.2.1, t2.2.1, htp]
  · rw [t4.2.2, t3.2.2, t2.2.2, hou]
  · omega
  · intro k hk hkd hkg hkv
    rw [o4 k hkd, o3 k hkg, o2 k hkd, kb k hk hkv]

set_option maxHeartbeats 800000 in
theorem add_any (d o : Nat) (x : Int) (w : World) (hc : w.cell? ⟨d, o, none⟩ = some (.int .i64 x)) (hz : w.frozen? ⟨d, o, none⟩ = false) (h0 : 0 ≤ x) (h1 : x ≤ 1000000) :
    Calls Tryz.prog 148 #[.pointer (some ⟨d, o, none⟩), .int .i64 1] w fun e w' => e = .returned (.int .i64 (x + 1)) ∧ w' = w.setCell ⟨d, o, none⟩ (.int .i64 (x + 1)) := by
  have hs : (Op.intArith .add .i64 x 1).run Tryz.prog w = .ok (.int .i64 (x + 1)) w := by
    have : IntKind.i64.wrap (x + 1) = x + 1 := by rw [IntKind.wrap_i64]; omega
    simp [Op.intArith, this]
  go_enter Tryz.func148, Tryz.ntmps148
  go_wp2
  rw [run_call_add Tryz.func179 (by kernel_rfl) (by kernel_rfl) (by kernel_rfl) .i64 (by kernel_rfl) hc hz hs]
  rw [Oper.upon_value]
  go_wp2
  go_ret
  exact ⟨rfl, rfl⟩

set_option maxHeartbeats 1600000 in
set_option maxRecDepth 100000 in
theorem write_ok {w : World} {B d g cap : Nat} {v : Value} {ps : List (List UInt8)} {ch : List (Nat × List UInt8)} (h : DiskAt w B d g cap v ps ch) (n : Nat) (hn : n < ps.length) (x : List UInt8) (hx : x.length = 256)
    (b o cx : Nat) (hB : Bytes w (some ⟨b, o, none⟩) x) (hap : b ≠ d ∧ b ≠ g ∧ some b ≠ v.ownBlock) (hch : ch.length ≤ 1000000) (hbase : B ≤ w.heap.size) :
    Calls Tryz.prog 103 #[.pointer (some ⟨d, 0, none⟩), .int .i64 (n : Int), .slice (some ⟨b, o, none⟩) 256 cx] w fun e w' => e = .returned (.int .i64 0) ∧
      ∃ v', DiskAt w' B d g cap v' (ps.set n x) (ch ++ [(n, ps[n])]) ∧ (v'.ownBlock = v.ownBlock ∨ v'.ownBlock = some (w.heap.size + 1)) ∧ Only d g v.ownBlock w w' := by
  obtain ⟨i0, hi0, hz0, hz1, hz2⟩ := info_parts Tryz.info122
  have hr := reach_any h n
  have e : reachErr n ps.length = 0 := by unfold reachErr; rw [if_neg (by omega)]
  rw [e] at hr
  have Hr := hid hr
  have H := hid h
  have c0 := h.c0
  have c1 := h.c1
  have z1 := h.z 1
  have hd := h.lts.1
  have hg := h.lts.2.1
  have hown := h.chs
  have hml := h.plen
  unfold maxLen at hml
  have hp : w.rangeAt g (n * 256) (cellsOf ps[n]) := fun j u hj => by
    have hj' : j < (ps[n]).length := by have := (List.getElem?_eq_some_iff.1 hj).1; simpa [cellsOf_length] using this
    obtain ⟨b', o', e', hc⟩ := h.page n hn j hj'
    cases e'
    rw [hc, ← hj, cellsOf_get _ j hj']
  have hl : (cellsOf ps[n]).length = 256 := by rw [cellsOf_length]; exact h.full _ (List.getElem_mem _)
  have h1 := cellsOf_one ps[n]
  have vd := h.vd
  have vg := h.vg
  have dg := h.dg
  have hpn : ccells (ch ++ [(n, ps[n])]) = ccells ch ++ (.int .i64 (n : Int) :: cellsOf ps[n]) := by unfold ccells; rw [List.flatMap_append]; simp
  have Hpn := hid hpn
  clear hpn
  have HB := hid hB
  have Hap := hid hap
  obtain ⟨cur, hcur, hcsz⟩ : ∃ cur, w.heap[g]? = some (.cells cur 120 (0, 0)) ∧ ps.length * 256 ≤ cur.size := by
    rcases h.pages.2 with ⟨h', _⟩ | ⟨g', cap', cur', hv, hb', hh, h1', h2', h3', h4'⟩
    · cases h'
    · cases hv
      exact ⟨cur', hh, by rw [h3']; exact Nat.mul_le_mul_right _ h1'⟩
  have Hcur := hid hcur
  have Hcsz := hid hcsz
  have Hc2 := hid h.c2
  have Hz2 := hid (h.z 2)
  have Hx := hid hx
  clear hcur hcsz
  clear h hr e hB hap
  generalize hcs : cellsOf ps[n] = cs at *
  have Hcs := hid hcs
  clear hcs
  have hl' : (Value.int .i64 (n : Int) :: cs).length = 257 := by simp [hl]
  have hload : (loadPg (.pointer (some ⟨g, n * 256, none⟩))).run Tryz.prog w.drew = .ok (.agg cs.toArray) w.drew := loadPg_eq g (n * 256) cs hl _ (by simpa using hp)
  have f1 : (n : Int) < (ps.length : Int) := by omega
  have f0 : (0 : Int) ≤ (n : Int) := by omega
  go_enter Tryz.func103, Tryz.ntmps103
  go_wp2_with (go_at_call 147; refine Hr.out.mono ?_; rintro e w' ⟨rfl, rfl⟩)
  go_region_law
    ((refine step_append_lies _ (by rfl) _ _ _ (by rfl) B 122 i0 _ 257 264 Tryz.underlying111 hi0 hz0 hz1 hz2 rfl (by omega) v ch.length (ccells ch) (by rfl) ((hown.alloc _).drew)
        ⟨w'.heap.size, 0, none⟩ 1 1 (.int .i64 (n : Int) :: cs) (by rfl) (by simp [hl]) (World.news_of_block (cs := (.int .i64 (n : Int) :: cs).toArray) (t := 122) (fr := (0, 0)) (heap_alloc_new w' _)) (by simpa [Value.oneCell'] using h1)
        (by omega) (by unfold maxLen; omega) (by omega) (by simp; omega) (w'.heap.size + 1) (by simp) ?_
      intro gg cap1 w1 hown1 hgrow hat hlt
      have kb : ∀ k, k < w'.heap.size → some k ≠ v.ownBlock → w1.heap[k]? = w'.heap[k]? := fun k hk hne => (hgrow.block k (by simp; omega) hne).trans (Below.heap_alloc _ _ _ hk)
      have k0 : w1.cell? ⟨d, 0, none⟩ = some (.slice (some ⟨g, 0, none⟩) ps.length cap) := (World.cell?_of_block (kb d hd (Ne.symm vd))).trans c0
      have k1 : w1.cell? ⟨d, 1, none⟩ = some v := (World.cell?_of_block (kb d hd (Ne.symm vd))).trans c1
      have kz : w1.frozen? ⟨d, 1, none⟩ = false := (World.frozen?_of_block (kb d hd (Ne.symm vd))).trans z1
      have kr : w1.rangeAt g (n * 256) cs := range_far hp (kb g hg (Ne.symm vg))))
  all_goals
    have Hown1 := hid hown1
    have Hkb := hid kb
    have Hat := hid hat
    have Hgr := hid hgrow
    have Hm0 := hid ((World.cell?_setCell_other w1 ⟨d, 1, none⟩ ⟨d, 0, none⟩ (.slice (some ⟨gg, 0, none⟩) (ch.length + 1) cap1) (by simp)).trans k0)
    have Hm2 := hid ((World.cell?_setCell_other w1 ⟨d, 1, none⟩ ⟨d, 2, none⟩ (.slice (some ⟨gg, 0, none⟩) (ch.length + 1) cap1) (by simp)).trans ((World.cell?_of_block (kb d hd (Ne.symm vd))).trans Hc2.out))
    have Hmg := hid ((heap_setCell_other w1 ⟨d, 1, none⟩ g (.slice (some ⟨gg, 0, none⟩) (ch.length + 1) cap1) (Ne.symm dg)).trans ((kb g hg (Ne.symm vg)).trans Hcur.out))
    have Hmd := hid (heap_setCell_same w1 d 1 _ _ (.slice (some ⟨gg, 0, none⟩) (ch.length + 1) cap1) ((kb d hd (Ne.symm vd)).trans H.out.obj))
    have Hmx : Hid (∀ j u, (cellsOf x)[j]? = some u → (w1.setCell ⟨d, 1, none⟩ (.slice (some ⟨gg, 0, none⟩) (ch.length + 1) cap1)).cell? ((⟨b, o, none⟩ : Addr).add j) = some u) := fun j u hj => by
      have hj' : j < x.length := by have := (List.getElem?_eq_some_iff.1 hj).1; simpa [cellsOf_length] using this
      obtain ⟨b', o', e', hc⟩ := HB.out j hj'
      cases e'
      have hbl := World.block_lt_of_cell? _ _ hc
      rw [addr_add, World.cell?_setCell_far _ _ _ _ (Ne.symm Hap.out.1), World.cell?_of_block (w := w') (kb b hbl Hap.out.2.2), hc, ← hj, cellsOf_get x j hj']
    obtain ⟨W, hW⟩ : ∃ W, W = w1.setCell ⟨d, 1, none⟩ (.slice (some ⟨gg, 0, none⟩) (ch.length + 1) cap1) := ⟨_, rfl⟩
    rw [← hW] at Hm0 Hm2 Hmg Hmd Hmx ⊢
    have HW := hid hW
    have m0 := Hm0.out
    clear hW hown1 kb hat hgrow k0 k1 kz kr hlt hown hload hp c0 c1 z1
    go_wp2_with fail
    rw [run_copy_row (P := Tryz.prog) W 36 36 3 5 g (n * 256) 256 256 ⟨b, o, none⟩ 256 cx cur 120 (cellsOf x) Tryz.underlying36 (by kernel_rfl) Hmg.out (by rw [cellsOf_length, Hx.out]; rfl) Hmx.out (by rw [cellsOf_length, Hx.out]; have := Hcsz.out; omega) (cellsOf_one x)]
    simp only [Result.andThen]
    rw [Oper.upon_value]
    obtain ⟨W2, hW2⟩ : ∃ W2, W2 = W.setRow g (cur.toList.take (n * 256) ++ (cellsOf x ++ cur.toList.drop (n * 256 + (cellsOf x).length))).toArray := ⟨_, rfl⟩
    have HW2 := hid hW2
    have Hn2 : Hid (W2.cell? ⟨d, 2, none⟩ = some (.int .i64 (ch.length : Int))) := by rw [hW2]; exact (cell_setRow_other _ _ _ _ dg).trans Hm2.out
    have Hnz : Hid (W2.frozen? ⟨d, 2, none⟩ = false) := by rw [hW2]; exact frozen_of_row _ _ 2 _ _ ((setRow_other _ _ _ _ dg).trans Hmd.out)
    rw [List.append_assoc, ← hW2]
    clear hW2
    go_wp2_with fail
    refine (add_any d 2 (ch.length : Int) _ Hn2.out Hnz.out (by omega) (by omega)).mono ?_
    rintro e w5 ⟨rfl, rfl⟩
    go_wp2
    go_ret
    have hE := write_end H.out n hn x Hx.out gg cap1 (by rw [Hpn.out]; exact Hown1.out) Hkb.out Hat.out Hgr.out.os Hgr.out.tape Hgr.out.output (Nat.le_trans (by simp) Hgr.out.size) cur Hcur.out
    rw [← HW.out, ← HW2.out] at hE
    refine ⟨rfl, _, hE.1, ?_, hE.2⟩
    rcases Hat.out with h | h
    · exact .inl (by rw [h]; rfl)
    · exact .inr (by rw [h]; rfl)
end Go.Proofs.YthdcjepkehifoaaGreat
