/- YthdcjepkehifoaaGreatBCut + YthdcjepkehifoaaGreatBCutOk -/
import Derived.Test.YthdcjepkehifoaaGreatBWrite
/- Write's errors, copies of pages, and Cut of package block, each by a contract. -/
namespace Go.Proofs.YthdcjepkehifoaaGreat
open Go.RowKit
set_option linter.unusedVariables false
set_option maxRecDepth 20000

set_option maxHeartbeats 800000 in
set_option maxRecDepth 20000 in
theorem write_nil (n : Int) (a : Option Addr) (l c : Nat) (w : World) :
    Calls Tryz.prog 103 #[.pointer none, .int .i64 n, .slice a l c] w fun e w' => e = .returned (.int .i64 1) ∧ w' = w := by
  go_enter Tryz.func103, Tryz.ntmps103
  go_wp2_with (go_at_call 147; refine (reach_nil _ _).mono ?_; rintro e w' ⟨rfl, rfl⟩)
  go_ret
  exact ⟨rfl, rfl⟩

set_option maxHeartbeats 800000 in
set_option maxRecDepth 20000 in
theorem write_far {w : World} {B d g cap : Nat} {v : Value} {ps : List (List UInt8)} {ch : List (Nat × List UInt8)} (h : DiskAt w B d g cap v ps ch) (n : Int) (hn : n < 0 ∨ (ps.length : Int) ≤ n) (a : Option Addr) (l c : Nat) :
    Calls Tryz.prog 103 #[.pointer (some ⟨d, 0, none⟩), .int .i64 n, .slice a l c] w fun e w' => e = .returned (.int .i64 2) ∧ w' = w := by
  have hr := reach_any h n
  have e : reachErr n ps.length = 2 := by unfold reachErr; rw [if_pos hn]
  rw [e] at hr
  have Hr := hid hr
  clear h hr hn e
  go_enter Tryz.func103, Tryz.ntmps103
  go_wp2_with (go_at_call 147; refine Hr.out.mono ?_; rintro e w' ⟨rfl, rfl⟩)
  go_ret
  exact ⟨rfl, rfl⟩

set_option maxHeartbeats 800000 in
set_option maxRecDepth 20000 in
theorem write_form {w : World} {B d g cap : Nat} {v : Value} {ps : List (List UInt8)} {ch : List (Nat × List UInt8)} (h : DiskAt w B d g cap v ps ch) (n : Nat) (hn : n < ps.length) (a : Option Addr) (l c : Nat) (hl : l ≠ 256) :
    Calls Tryz.prog 103 #[.pointer (some ⟨d, 0, none⟩), .int .i64 (n : Int), .slice a l c] w fun e w' => e = .returned (.int .i64 3) ∧ w' = w := by
  have hr := reach_any h n
  have e : reachErr n ps.length = 0 := by unfold reachErr; rw [if_neg (by omega)]
  rw [e] at hr
  have Hr := hid hr
  clear h hr hn e
  have d1 : ((l : Int) != 256) = true := by rw [bne_iff_ne]; omega
  clear hl
  go_enter Tryz.func103, Tryz.ntmps103
  go_wp2_with (go_at_call 147; refine Hr.out.mono ?_; rintro e w' ⟨rfl, rfl⟩)
  go_ret
  exact ⟨rfl, rfl⟩

theorem pcells_one (ps : List (List UInt8)) : ∀ u ∈ pcells ps, u.oneCell' = true := cellsOf_one _

set_option maxHeartbeats 800000 in
set_option maxRecDepth 20000 in
theorem clonePages {w : World} {B d g cap : Nat} {v : Value} {ps : List (List UInt8)} {ch : List (Nat × List UInt8)} (h : DiskAt w B d g cap v ps ch) (h1 : 1 ≤ ps.length) (h2 : ps.length ≤ 1024) :
    Calls Tryz.prog 88 #[.slice (some ⟨g, 0, none⟩) ps.length cap] w fun e w' => ∃ g' cap', e = .returned (.slice (some ⟨g', 0, none⟩) ps.length cap') ∧ w'.ownsRow w.heap.size 120 256 (.slice (some ⟨g', 0, none⟩) ps.length cap') ps.length (pcells ps) ∧ Below w.heap.size w w' := by
  obtain ⟨i0, hi, hz0, hz1, hz2⟩ := info_parts Tryz.info120
  have q22 : ∀ (w : World) (a : Option Addr) (n c n' c' : Nat), (binOp .eql 110 (.slice a n c) (.slice none n' c')).run Tryz.prog w = .ok (.bool a.isNone) w := fun w a n c n' c' => Lib.run_eql_slice_nil w _ _ a n c n' c' Tryz.underlying110
  have Hc : Hid (∀ j, j < ps.length * 256 → w.cell? ⟨g, j, none⟩ = (pcells ps)[j]?) := fun j hj => h.pages.cellAt j hj
  have HL := hid (pcells_length ps h.full)
  clear h
  go_enter Tryz.func88, Tryz.ntmps88
  go_wp2_with (at_builtin; refine wpList_append_own _ rfl _ _ 110 rfl w.heap.size 120 i0 _ 256 256 Tryz.underlying110 hi hz0 hz1 hz2 rfl (by decide) _ _ _ rfl (World.ownsRow_made w #[] 0 (Nat.le_refl _) (Nat.zero_le _) rfl) ⟨g, 0, none⟩ ps.length cap (pcells ps) rfl HL.out ?qc2 ?qc3 ?qc4 ?qc5 ?qc6 ?_)
  case qc2 =>
    intro j u hj
    have hjn : j < ps.length * 256 := by
      have := (List.getElem?_eq_some_iff.1 hj).1
      rw [HL.out] at this
      exact this
    have hc := (Hc.out j hjn).trans hj
    rw [addr_add, Nat.zero_add]
    exact (World.cell?_alloc_some _ _ _ (by rw [hc]; rfl)).trans hc
  case qc3 => exact pcells_one ps
  case qc4 => unfold maxLen; omega
  case qc5 => omega
  case qc6 => simp
  intro v' w1 hown hgrow hnil
  go_wp2
  go_ret
  have hown' : w1.ownsRow w.heap.size 120 256 v' ps.length (pcells ps) := by simpa using hown
  obtain ⟨g', cap', rfl, _, _⟩ := hown'.form (by omega)
  exact ⟨g', cap', rfl, hown', ((Below.refl _ w).alloc (Nat.le_refl _) _).grown hgrow (by simp) (by intro k hk; simp [Value.ownBlock] at hk; omega)⟩

theorem set_splice (l : List Value) (o : Nat) (v : Value) (r : List Value) (h : o + (r.length + 1) ≤ l.length) :
    (l.set o v).take (o + 1) ++ (r ++ (l.set o v).drop (o + 1 + r.length)) = l.take o ++ (v :: r ++ l.drop (o + (v :: r).length)) := by
  rw [List.drop_set_of_lt (by omega), List.take_succ_eq_append_getElem (by simp; omega), List.take_set_of_le (Nat.le_refl _), List.getElem_set_self]
  rw [show o + 1 + r.length = o + (v :: r).length by simp; omega]
  simp

/-- many cells of a row, set one behind the other -/
theorem setCells_row (g : Nat) (t : TypeId) (vs : List Value) (o : Nat) (w : World) (cur : Array Value) (hg : w.heap[g]? = some (.cells cur t (0, 0))) (hfit : o + vs.length ≤ cur.size) :
    (w.setCells g o vs).heap[g]? = some (.cells (cur.toList.take o ++ (vs ++ cur.toList.drop (o + vs.length))).toArray t (0, 0)) ∧ (∀ k, k ≠ g → (w.setCells g o vs).heap[k]? = w.heap[k]?) ∧
    (w.setCells g o vs).os = w.os ∧ (w.setCells g o vs).tape = w.tape ∧ (w.setCells g o vs).output = w.output ∧ (w.setCells g o vs).heap.size = w.heap.size := by
  induction vs generalizing o w cur with
  | nil =>
    refine ⟨?_, fun _ _ => rfl, rfl, rfl, rfl, rfl⟩
    simp only [World.setCells, List.nil_append, List.length_nil, Nat.add_zero, List.take_append_drop]
    simpa using hg
  | cons v r ih =>
    have hlt : o < cur.toList.length := by simp at hfit ⊢; omega
    obtain ⟨h1, h2, h3, h4, h5, h6⟩ := ih (o + 1) (w.setCell ⟨g, o, none⟩ v) (cur.setIfInBounds o v) (heap_setCell_same w g o cur t v hg) (by simp at hfit ⊢; omega)
    refine ⟨?_, fun k hk => (h2 k hk).trans (heap_setCell_other _ _ _ _ hk), h3, h4, h5, h6.trans (by simp [World.setCell])⟩
    show ((w.setCell ⟨g, o, none⟩ v).setCells g (o + 1) r).heap[g]? = _
    rw [h1]
    congr 2
    rw [Array.toList_setIfInBounds]
    rw [set_splice _ _ _ _ (by simp at hfit ⊢; omega)]

/-- what a disk's pages are when the writes from k on are undone -/
def undo (ps : List (List UInt8)) (ch : List (Nat × List UInt8)) (k : Nat) : List (List UInt8) := (ch.drop k).foldr (fun c q => q.set c.1 c.2) ps
theorem undo_all (ps : List (List UInt8)) (ch : List (Nat × List UInt8)) : undo ps ch ch.length = ps := by simp [undo]
theorem undo_step (ps : List (List UInt8)) (ch : List (Nat × List UInt8)) (k : Nat) (h : k < ch.length) : undo ps ch k = (undo ps ch (k + 1)).set ch[k].1 ch[k].2 := by
  unfold undo
  rw [List.drop_eq_getElem_cons h]
  rfl
theorem undo_length (ps : List (List UInt8)) (ch : List (Nat × List UInt8)) (k : Nat) : (undo ps ch k).length = ps.length := by
  unfold undo
  induction ch.drop k with
  | nil => rfl
  | cons c r ih => rw [List.foldr_cons, List.length_set, ih]

theorem cut_get (ch : List (Nat × List UInt8)) (hf : ∀ c ∈ ch, c.2.length = 256) (k : Nat) (hk : k < ch.length) (j : Nat) (hj : j < 257) : (ccells ch)[k * 257 + j]? = (Value.int .i64 (ch[k].1 : Int) :: cellsOf ch[k].2)[j]? := by
  induction ch generalizing k with
  | nil => simp at hk
  | cons c r ih =>
    have hc := hf c (by simp)
    have hl : (Value.int .i64 (c.1 : Int) :: cellsOf c.2).length = 257 := by simp [cellsOf_length, hc]
    unfold ccells
    rw [List.flatMap_cons]
    cases k with
    | zero => rw [List.getElem?_append_left (by omega)]; simp
    | succ k =>
      rw [List.getElem?_append_right (by omega), hl]
      have := ih (fun q hq => hf q (by simp [hq])) k (by simpa using hk)
      unfold ccells at this
      rw [show (k + 1) * 257 + j - 257 = k * 257 + j by omega, this]
      rfl

set_option maxRecDepth 20000 in
/-- a page set in a disk without changes -/
theorem set_end {w : World} {B d g cap : Nat} {ps : List (List UInt8)} (H : DiskAt w B d g cap (.slice none 0 0) ps []) (n : Nat) (hn : n < ps.length) (x : List UInt8) (hx : x.length = 256) (hB : ∀ k, k < B → k ≠ g) :
    DiskAt (w.drew.setCells g (n * 256) (cellsOf x)) B d g cap (.slice none 0 0) (ps.set n x) [] ∧ Below B w (w.drew.setCells g (n * 256) (cellsOf x)) := by
  obtain ⟨cur, hcur, hcsz, hcap, hml, hcs, htake⟩ : ∃ cur, w.heap[g]? = some (.cells cur 120 (0, 0)) ∧ ps.length * 256 ≤ cur.size ∧ ps.length ≤ cap ∧ cap ≤ maxLen ∧ cur.size = cap * 256 ∧ cur.toList.take (ps.length * 256) = pcells ps := by
    rcases H.pages.2 with ⟨h', _⟩ | ⟨g', cap', cur', hv, hb', hh, h1', h2', h3', h4'⟩
    · cases h'
    · cases hv
      exact ⟨cur', hh, by rw [h3']; exact Nat.mul_le_mul_right _ h1', h1', h2', h3', h4'⟩
  have hl : (cellsOf x).length = 256 := by rw [cellsOf_length, hx]
  have hfit : n * 256 + (cellsOf x).length ≤ cur.size := by
    have : (n + 1) * 256 ≤ ps.length * 256 := Nat.mul_le_mul_right _ (by omega)
    omega
  obtain ⟨r1, r2, r3, r4, r5, r6⟩ := setCells_row g 120 (cellsOf x) (n * 256) w.drew cur hcur hfit
  have hge : B ≤ g := by
    rcases Nat.lt_or_ge g B with h | h
    · exact absurd rfl (hB g h)
    · exact h
  refine ⟨⟨?_, ⟨?_, ?_⟩, ?_, World.ownsRow_nil _ _ _ _, fun c hc => (by cases hc), H.bd, H.dg, (fun h => by cases h), (fun h => by cases h), fun _ => rfl⟩, ⟨r3, r4, r5, by rw [r6]; exact Nat.le_refl _, fun k hk => r2 k (hB k hk)⟩⟩
  · rw [List.length_set, r2 d H.dg]
    exact H.obj
  · rw [List.length_set, pcells_length _ (fun p hp => ?_), List.length_set]
    rcases List.mem_or_eq_of_mem_set hp with h | h
    · exact H.full p h
    · rw [h, hx]
  · rw [List.length_set]
    refine .inr ⟨g, cap, _, rfl, hge, r1, hcap, hml, ?_, ?_⟩
    · simp [hl, hcs]
      omega
    · rw [hl]
      exact pcells_copied ps H.full n hn x hx cur.toList htake (by simpa using hcsz)
  · intro p hp
    rcases List.mem_or_eq_of_mem_set hp with h | h
    · exact H.full p h
    · rw [h, hx]
end Go.Proofs.YthdcjepkehifoaaGreat

/- Cut of package block, by a contract. -/
namespace Go.Proofs.YthdcjepkehifoaaGreat
open Go.RowKit
set_option linter.unusedVariables false
set_option maxRecDepth 20000
attribute [local go_sem ↓] Go.wp_at_zero Go.wp_at_succ

set_option maxHeartbeats 800000 in
set_option maxRecDepth 20000 in
theorem cut_nil (k : Int) (w : World) :
    Calls Tryz.prog 40 #[.pointer none, .int .i64 k] w fun e w' => e = .returned (.tuple #[.pointer none, .int .i64 1]) ∧ w' = w := by
  go_enter Tryz.func40, Tryz.ntmps40
  go_wp2
  go_ret2
  exact ⟨rfl, rfl⟩

set_option maxHeartbeats 800000 in
set_option maxRecDepth 20000 in
theorem cut_far {w : World} {B d g cap : Nat} {v : Value} {ps : List (List UInt8)} {ch : List (Nat × List UInt8)} (h : DiskAt w B d g cap v ps ch) (k : Int) (hk : k < 0 ∨ (ch.length : Int) < k) :
    Calls Tryz.prog 40 #[.pointer (some ⟨d, 0, none⟩), .int .i64 k] w fun e w' => e = .returned (.tuple #[.pointer none, .int .i64 2]) ∧ w' = w := by
  have Hc := hid (count_any h)
  clear h
  rcases (show k < 0 ∨ (0 ≤ k ∧ (ch.length : Int) < k) by omega) with h | ⟨h0, h⟩
  · go_enter Tryz.func40, Tryz.ntmps40
    go_wp2
    go_ret2
    exact ⟨rfl, rfl⟩
  · go_enter Tryz.func40, Tryz.ntmps40
    go_wp2_with (go_at_call 39; refine Hc.out.mono ?_; rintro e w' ⟨rfl, rfl⟩)
    go_ret2
    exact ⟨rfl, rfl⟩

theorem cell_setCells_far (vs : List Value) (w : World) (b o b' j : Nat) (h : b' ≠ b) : (w.setCells b o vs).cell? ⟨b', j, none⟩ = w.cell? ⟨b', j, none⟩ := by
  induction vs generalizing w o with
  | nil => rfl
  | cons v r ih => exact (ih (w.setCell ⟨b, o, none⟩ v) (o + 1)).trans (World.cell?_setCell_far _ _ _ _ (Ne.symm h))

theorem undo_full (ps : List (List UInt8)) (ch : List (Nat × List UInt8)) (hf : ∀ p ∈ ps, p.length = 256) (hc : ∀ c ∈ ch, c.2.length = 256) (k : Nat) : ∀ p ∈ undo ps ch k, p.length = 256 := by
  unfold undo
  have hc' : ∀ c ∈ ch.drop k, c.2.length = 256 := fun c h => hc c (List.mem_of_mem_drop h)
  generalize ch.drop k = l at hc'
  induction l with
  | nil => exact hf
  | cons c r ih =>
    intro p hp
    rw [List.foldr_cons] at hp
    rcases List.mem_or_eq_of_mem_set hp with h | h
    · exact ih (fun c h => hc' c (List.mem_cons_of_mem _ h)) p h
    · rw [h]; exact hc' c List.mem_cons_self

set_option maxHeartbeats 1600000 in
set_option maxRecDepth 100000 in
theorem cut_ok {w : World} {B d g cap : Nat} {v : Value} {ps : List (List UInt8)} {ch : List (Nat × List UInt8)} (h : DiskAt w B d g cap v ps ch) (k : Nat) (hk : k ≤ ch.length) (hch : ch.length ≤ 1000000) (h1 : 1 ≤ ps.length) (h2 : ps.length ≤ 1024) :
    Calls Tryz.prog 40 #[.pointer (some ⟨d, 0, none⟩), .int .i64 (k : Int)] w fun e w' => ∃ d' g' cap', e = .returned (.tuple #[.pointer (some ⟨d', 0, none⟩), .int .i64 0]) ∧ DiskAt w' w.heap.size d' g' cap' (.slice none 0 0) (undo ps ch k) [] ∧ Below w.heap.size w w' := by
  have Hc := hid (count_any h)
  have Hcl := hid (clonePages h h1 h2)
  have H := hid h
  have c0 := h.c0
  have c1 := h.c1
  clear h
  have f0 : (0 : Int) ≤ (k : Int) := by omega
  have f1 : (k : Int) ≤ (ch.length : Int) := by omega
  have f3 : ¬ ch.length < k := by omega
  obtain ⟨va, vc, rfl⟩ : ∃ va vc, v = .slice va ch.length vc := by
    rcases H.out.chs.2 with ⟨h, h0⟩ | ⟨g', cap', cur', hv, _⟩
    · exact ⟨none, 0, by rw [h, h0]⟩
    · exact ⟨_, _, hv⟩
  have Hd := hid H.out.lts.1
  have Hfull := hid H.out.full
  have Hchin := hid H.out.chin
  go_enter Tryz.func40, Tryz.ntmps40
  go_wp2_with (first | (go_at_call 39; refine Hc.out.mono ?_; rintro e w' ⟨rfl, rfl⟩) | (go_at_call 88; refine Hcl.out.mono ?_; rintro e w1 ⟨g', cap', rfl, hown, hbel⟩; have k1 : ∀ ob, (w1.alloc ob).cell? ⟨d, 1, none⟩ = some (.slice va ch.length vc) := fun ob => (World.cell?_alloc_some _ _ _ (by rw [(hbel.cell Hd.out).trans c1]; rfl)).trans ((hbel.cell Hd.out).trans c1)))
  have hsz1 := hbel.size
  have hgl := (hown.lt g' rfl)
  go_loopw [7] (fun i wr => ∃ j : Nat, k ≤ j ∧ j ≤ ch.length ∧ i = .int .i64 ((j : Int) - 1) ∧ DiskAt wr w'.heap.size w1.heap.size g' cap' (.slice none 0 0) (undo ps ch j) [] ∧ Below w'.heap.size w' wr) (fun i _ => (intOf i + 1).toNat)
  case atStart =>
    refine ⟨ch.length, hk, Nat.le_refl _, rfl, ⟨?_, ?_, ?_, World.ownsRow_nil _ _ _ _, fun c hc => (by cases hc), hsz1, ?_, (fun h => by cases h), (fun h => by cases h), fun _ => rfl⟩, hbel.alloc hsz1 _⟩
    · rw [undo_all]; exact heap_alloc_new _ _
    · rw [undo_all]; exact hown.alloc _
    · rw [undo_all]; exact Hfull.out
    · omega
  case round =>
    obtain ⟨j, hkj, hj, rfl, hD, hB⟩ := hrel
    clear k1 hown hbel
    by_cases hlt : k < j
    · obtain ⟨m, rfl⟩ : ∃ m, j = m + 1 := ⟨j - 1, by omega⟩
      have em : ((m + 1 : Nat) : Int) - 1 = (m : Int) := by omega
      rw [em]
      have hO := H.out.below hB
      have hm : m < ch.length := by omega
      obtain ⟨gv, cv, hv, hvb, hvl⟩ := hO.chs.form (by omega)
      cases hv
      have hgv : gv < w'.heap.size := H.out.lts.2.2 gv rfl
      have hcin := Hchin.out _ (List.getElem_mem hm)
      have hfc : ∀ c ∈ ch, c.2.length = 256 := fun c hc => (Hchin.out c hc).2
      have d0 := hD.c0
      rw [undo_length] at d0
      have d1 := hO.c1
      have dn : wr.cell? ⟨gv, m * 257, none⟩ = some (.int .i64 (ch[m].1 : Int)) := by
        have := hO.chs.cellAt (m * 257 + 0) (by omega)
        rw [cut_get ch hfc m hm 0 (by omega)] at this
        simpa using this
      have dr : wr.rangeAt gv (m * 257 + 1) (cellsOf ch[m].2) := fun q u hq => by
        have hq' : q < (ch[m].2).length := by have := (List.getElem?_eq_some_iff.1 hq).1; simpa [cellsOf_length] using this
        have := hO.chs.cellAt (m * 257 + (q + 1)) (by omega)
        rw [cut_get ch hfc m hm (q + 1) (by omega)] at this
        rw [show m * 257 + 1 + q = m * 257 + (q + 1) by omega, this]
        simpa using hq
      have hul := undo_length ps ch (m + 1)
      have dt : wr.there g' (ch[m].1 * 256) 256 := fun q hq => by
        have := hD.pages.cellAt (ch[m].1 * 256 + q) (by omega)
        refine ⟨?_, hD.pages.frozenAt _⟩
        rw [this, List.getElem?_eq_getElem (by rw [pcells_length _ hD.full]; omega)]
        rfl
      have hE := hid (set_end hD ch[m].1 (by omega) ch[m].2 hcin.2 (fun q hq => by omega))
      rw [← undo_step ps ch m hm] at hE
      have hl : (cellsOf ch[m].2).length = 256 := by rw [cellsOf_length]; exact hcin.2
      have ho := cellsOf_one ch[m].2
      have n0 : (0 : Int) ≤ (ch[m].1 : Int) := by omega
      have n1 : (ch[m].1 : Int) < (ps.length : Int) := by omega
      have m0 : (0 : Int) ≤ (m : Int) := by omega
      have m1 : (m : Int) < (ch.length : Int) := by omega
      have mk : (k : Int) ≤ (m : Int) := by omega
      have hgg : g' ≠ gv := by omega
      have hgd : d ≠ g' := by have := Hd.out; omega
      have hgw : w1.heap.size ≠ g' := by omega
      have HB := hid hB
      generalize ch[m].1 = n at *
      generalize cellsOf ch[m].2 = cs at *
      clear hcin hfc hO hD hB hul H Hc Hcl c0 c1 h1 h2
      have hu := Tryz.underlying120
      have hi : (Tryz.prog.info? 120).map (·.size) = some cs.length := by rw [size_page, hl]
      go_wp2
      go_region_held3 (fun w9 => w9.cell? ⟨w1.heap.size, 0, none⟩ = some (.slice (some ⟨g', 0, none⟩) ps.length cap') ∧ w9.cell? ⟨d, 1, none⟩ = some (.slice (some ⟨gv, 0, none⟩) ch.length vc) ∧ w9.cell? ⟨gv, m * 257, none⟩ = some (.int .i64 (n : Int)) ∧ w9.rangeAt gv (m * 257 + 1) cs ∧ w9.there g' (n * 256) 256) ((go_split_ands; simp only [World.rangeAt_drew, World.there_drew, World.cell?_drew] at *; exact ⟨by first | assumption | exact (cell_setCells_far _ _ _ _ _ _ (by omega)).trans (by assumption), by first | assumption | exact (cell_setCells_far _ _ _ _ _ _ (by omega)).trans (by assumption), by first | assumption | exact (cell_setCells_far _ _ _ _ _ _ (by omega)).trans (by assumption), by first | assumption | exact World.rangeAt_setCells_apart (by assumption) _ _ _ (by omega), by first | assumption | (apply World.there_setCells; assumption)⟩)) (fail)
      clear d0 d1 dn dt dr
      go_wp2
      go_roundw
      case rel => exact ⟨m, by omega, by omega, by go_num, hE.out.1, HB.out.trans hE.out.2⟩
      case measure => simp [intOf] <;> omega
    · have hjk : j = k := by omega
      subst hjk
      have HD := hid hD
      clear hD
      go_wp2
      go_ret2
      exact ⟨_, _, _, rfl, HD.out, hB⟩
end Go.Proofs.YthdcjepkehifoaaGreat
