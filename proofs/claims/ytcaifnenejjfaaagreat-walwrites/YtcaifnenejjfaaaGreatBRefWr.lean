/- Write of the reference's disks: the walk. -/
import Derived.Test.YtcaifnenejjfaaaGreatBRefWrite
namespace Go.Proofs.YtcaifnenejjfaaaGreat
open Go.RowKit
set_option linter.unusedVariables false
set_option maxRecDepth 20000

set_option maxHeartbeats 800000 in
set_option maxRecDepth 20000 in
theorem refWrite_far {w : World} {B r : Nat} {F L : Value} {vs us : List Value} {fs : List (List UInt8)} {ls : List (Nat × List UInt8)} (h : RefAt w B r F L vs us fs ls) (fa : Option Addr) (fc : Nat) (hF : F = .slice fa fs.length fc) (n : Int) (hn : n < 0 ∨ (fs.length : Int) ≤ n) (a : Option Addr) (l c : Nat) :
    Calls Tryz.prog 82 #[.pointer (some ⟨r, 0, none⟩), .int .i64 n, .slice a l c] w fun e w' => e = .returned (.int .i64 2) ∧ w' = w := by
  subst hF
  have c0 := cell_of_row _ _ 0 _ _ _ h.obj
  simp only [List.getElem?_toArray, List.getElem?_cons_zero] at c0
  clear h
  rcases (show n < 0 ∨ (0 ≤ n ∧ (fs.length : Int) ≤ n) by omega) with h | ⟨h0, h⟩
  · go_enter Tryz.func82, Tryz.ntmps82
    go_wp2
    go_ret
    exact ⟨rfl, rfl⟩
  · clear hn
    have h3 : ¬ n < 0 := by omega
    clear h0
    go_enter Tryz.func82, Tryz.ntmps82
    go_wp2
    go_ret
    exact ⟨rfl, rfl⟩

set_option maxHeartbeats 800000 in
set_option maxRecDepth 20000 in
theorem refWrite_form {w : World} {B r : Nat} {F L : Value} {vs us : List Value} {fs : List (List UInt8)} {ls : List (Nat × List UInt8)} (h : RefAt w B r F L vs us fs ls) (fa : Option Addr) (fc : Nat) (hF : F = .slice fa fs.length fc) (n : Nat) (hn : n < fs.length) (a : Option Addr) (l c : Nat) (hl : l ≠ 256) :
    Calls Tryz.prog 82 #[.pointer (some ⟨r, 0, none⟩), .int .i64 (n : Int), .slice a l c] w fun e w' => e = .returned (.int .i64 3) ∧ w' = w := by
  subst hF
  have c0 := cell_of_row _ _ 0 _ _ _ h.obj
  simp only [List.getElem?_toArray, List.getElem?_cons_zero] at c0
  clear h
  have d1 : ((l : Int) != 256) = true := by rw [bne_iff_ne]; omega
  have h3 : ¬ (fs.length ≤ n) := by omega
  clear hl
  go_enter Tryz.func82, Tryz.ntmps82
  go_wp2
  go_ret
  exact ⟨rfl, rfl⟩

set_option maxHeartbeats 1600000 in
set_option maxRecDepth 20000 in
theorem refWrite_ok {w : World} {B r : Nat} {F L : Value} {vs us : List Value} {fs : List (List UInt8)} {ls : List (Nat × List UInt8)} (h : RefAt w B r F L vs us fs ls) (fa : Option Addr) (fc : Nat) (hF : F = .slice fa fs.length fc) (n : Nat) (hn : n < fs.length) (x : List UInt8) (hx : x.length = 256)
    (b o cx : Nat) (hB : Bytes w (some ⟨b, o, none⟩) x) (hls : ls.length ≤ 1000000) (hbase : B ≤ w.heap.size) :
    Calls Tryz.prog 82 #[.pointer (some ⟨r, 0, none⟩), .int .i64 (n : Int), .slice (some ⟨b, o, none⟩) 256 cx] w fun e w' => e = .returned (.int .i64 0) ∧
      ∃ L' u, RefAt w' B r F L' vs (us ++ [u]) fs (ls ++ [(n, x)]) ∧ (∀ k, refBlock F L' vs (us ++ [u]) k → refBlock F L vs us k ∨ w.heap.size ≤ k) ∧ Only r r none w w' := by
  obtain ⟨i0, hi0, hz0, hz1, hz2⟩ := info_parts Tryz.info108
  subst hF
  have H := hid h
  have c0 := cell_of_row _ _ 0 _ _ _ h.obj
  have c1 := cell_of_row _ _ 1 _ _ _ h.obj
  simp only [List.getElem?_toArray, List.getElem?_cons_zero, List.getElem?_cons_succ] at c0 c1
  have hr := h.lts.1
  have z1 := frozen_of_row _ _ 1 _ _ h.obj
  have h3 : ¬ (fs.length ≤ n) := by omega
  have Hx := hid hx
  have HB := hid hB
  have hone := lcells_one ls us h.us_one
  have hll := lcells_length ls us h.ulen
  have hlog := h.log
  have hlnil := h.lnil
  have Hul := hid h.ulen
  have Hone := hid hone
  have Hll := hid hll
  clear h hx hB hone hll
  rcases hlog.2 with ⟨hL, h0⟩ | ⟨gl, lc, cur, hL, hgb, hgh, r1, r2, r3, r4⟩
  · subst hL
    have hls0 : ls = [] := List.length_eq_zero_iff.1 h0
    subst hls0
    have hus0 : us = [] := List.length_eq_zero_iff.1 Hul.out
    subst hus0
    clear hlog hlnil h0
    go_enter Tryz.func82, Tryz.ntmps82
    go_wp2_with (at_builtin; refine wpList_append_own_none rfl _ _ 104 rfl w.heap.size 108 i0 2 Tryz.underlying104 hi0 _ 0 [] rfl (World.ownsRow_nil _ _ _ _) rfl ?_)
    have Hb1 : Hid (Below w.heap.size w w) := Below.refl _ _
    have HVL : Hid (w.ownsRow w.heap.size 108 2 (.slice none 0 0) 0 (lcells [] [])) := World.ownsRow_nil _ _ _ _
    have Hcp := hid (copyB x b o cx w (HB.out.below Hb1.out) (by rw [Hx.out]; omega) (by rw [Hx.out]; omega))
    rw [Hx.out] at Hcp
    refine Hcp.out.mono ?_
    rintro e w2 ⟨u, rfl, hu, hb2⟩
    obtain ⟨bu, cu, rfl, _, _⟩ := hu.form (by omega)
    have Hu := hid hu
    have Hb2 := hid hb2
    have hs1 := Hb1.out.size
    have hs2 := hb2.size
    have hu1 := own_one hu
    clear hu hb2 Hcp
    go_wp2_with (at_builtin; refine wpList_append_lies _ rfl _ _ 104 rfl w.heap.size 108 i0 _ 2 32 Tryz.underlying104 hi0 hz0 hz1 hz2 rfl (by omega) (.slice none 0 0) 0 (lcells [] []) rfl ((own_below HVL.out Hb2.out).alloc _) ⟨w2.heap.size, 0, none⟩ 1 1 [.int .i64 (n : Int), .slice (some ⟨bu, 0, none⟩) 256 cu] rfl rfl (World.news_of_block (cs := #[.int .i64 (n : Int), .slice (some ⟨bu, 0, none⟩) 256 cu]) (t := 108) (fr := (0, 0)) (heap_alloc_new w2 _)) ?q1 ?q2 ?q3 ?q4 ?q5 (w2.heap.size + 1) ?q6 ?_)
    case q1 =>
      intro q hq
      simp only [List.mem_cons, List.not_mem_nil, or_false] at hq
      rcases hq with rfl | rfl
      · rfl
      · exact hu1
    case q2 => omega
    case q3 => unfold maxLen; omega
    case q4 => omega
    case q5 => simp; omega
    case q6 => simp
    intro gg cap1 w3 hown3 hgrow hat hlt
    have kb : ∀ j, j < w.heap.size → w3.heap[j]? = w.heap[j]? := (fun j hj => (hgrow.block j (by simp; omega) (fun e => by have := (HVL.out.lt j e.symm).1; omega)).trans ((Below.heap_alloc _ _ _ (by omega)).trans ((Hb2.out.block j (by omega)).trans (Hb1.out.block j hj))))
    have k1 := (World.cell?_of_block (a := ⟨r, 1, none⟩) (kb r hr)).trans c1
    have kz := (World.frozen?_of_block (a := ⟨r, 1, none⟩) (kb r hr)).trans z1
    have E1 := hid hown3
    have E2 := hid kb
    have E3 := hid hgrow
    have E4 := hid hlt
    clear hown3 kb hgrow hat hlt
    have hu3 : w3.ownsRow w.heap.size 5 1 (.slice (some ⟨bu, 0, none⟩) 256 cu) x.length (cellsOf x) := by
      rw [Hx.out]
      refine (own_keep Hu.out fun k e => ?_).mono hs1
      have hk := (Hu.out.lt k e)
      exact (E3.out.block k (by simp; omega) (fun e' => by have := (HVL.out.lt k e'.symm).2; omega)).trans (Below.heap_alloc _ _ _ hk.2)
    have hE := hid (refWrite_end H.out n x Hx.out (.slice (some ⟨bu, 0, none⟩) 256 cu) gg cap1 (by rw [lcells_snoc _ _ Hul.out]; exact E1.out) hu3 E2.out (by rw [E3.out.os]; exact Hb2.out.os.trans Hb1.out.os) (by rw [E3.out.tape]; exact Hb2.out.tape.trans Hb1.out.tape) (by rw [E3.out.output]; exact Hb2.out.output.trans Hb1.out.output) (Nat.le_trans (by simp; omega) E3.out.size) hbase)
    clear hu3
    go_wp2
    go_ret
    exact ⟨rfl, _, _, hE.out.1, hE.out.2.1, hE.out.2.2⟩
  · subst hL
    have hpos : 0 < ls.length := by
      rcases Nat.eq_zero_or_pos ls.length with h | h
      · have := hlnil (List.length_eq_zero_iff.1 h); cases this
      · exact h
    have Hcell : Hid (∀ j, j < ls.length * 2 → w.cell? ⟨gl, j, none⟩ = (lcells ls us)[j]?) := fun j hj => hlog.cellAt j hj
    clear hlog hlnil r1 r2 r3 r4 hgh
    go_enter Tryz.func82, Tryz.ntmps82
    go_wp2_with (at_builtin; refine wpList_append_own _ rfl _ _ 104 rfl w.heap.size 108 i0 _ 2 32 Tryz.underlying104 hi0 hz0 hz1 hz2 rfl (by decide) _ _ _ rfl (World.ownsRow_nil w _ _ _) ⟨gl, 0, none⟩ ls.length lc (lcells ls us) rfl Hll.out ?qc2 ?qc3 ?qc4 ?qc5 ?qc6 ?_)
    case qc2 =>
      intro j u hj
      have hjn : j < ls.length * 2 := by
        have := (List.getElem?_eq_some_iff.1 hj).1
        rw [Hll.out] at this
        exact this
      rw [addr_add, Nat.zero_add]
      exact (Hcell.out j hjn).trans hj
    case qc3 => exact Hone.out
    case qc4 => unfold maxLen; omega
    case qc5 => omega
    case qc6 => simp
    intro v' W1 hown hgrow hnil
    have Hb1 := hid ((Below.refl _ w).grown hgrow (Nat.le_refl _) (by intro k hk; simp [Value.ownBlock] at hk))
    have hvl : W1.ownsRow w.heap.size 108 2 v' ls.length (lcells ls us) := by simpa using hown
    have HVL := hid hvl
    clear hvl
    clear hown hgrow hnil
    go_wp2_with (fail)
    have Hcp := hid (copyB x b o cx W1 (HB.out.below Hb1.out) (by rw [Hx.out]; omega) (by rw [Hx.out]; omega))
    rw [Hx.out] at Hcp
    refine Hcp.out.mono ?_
    rintro e w2 ⟨u, rfl, hu, hb2⟩
    obtain ⟨bu, cu, rfl, _, _⟩ := hu.form (by omega)
    have Hu := hid hu
    have Hb2 := hid hb2
    have hs1 := Hb1.out.size
    have hs2 := hb2.size
    have hu1 := own_one hu
    clear hu hb2 Hcp
    go_wp2_with (at_builtin; refine wpList_append_lies _ rfl _ _ 104 rfl w.heap.size 108 i0 _ 2 32 Tryz.underlying104 hi0 hz0 hz1 hz2 rfl (by omega) v' ls.length (lcells ls us) rfl ((own_below HVL.out Hb2.out).alloc _) ⟨w2.heap.size, 0, none⟩ 1 1 [.int .i64 (n : Int), .slice (some ⟨bu, 0, none⟩) 256 cu] rfl rfl (World.news_of_block (cs := #[.int .i64 (n : Int), .slice (some ⟨bu, 0, none⟩) 256 cu]) (t := 108) (fr := (0, 0)) (heap_alloc_new w2 _)) ?q1 ?q2 ?q3 ?q4 ?q5 (w2.heap.size + 1) ?q6 ?_)
    case q1 =>
      intro q hq
      simp only [List.mem_cons, List.not_mem_nil, or_false] at hq
      rcases hq with rfl | rfl
      · rfl
      · exact hu1
    case q2 => omega
    case q3 => unfold maxLen; omega
    case q4 => omega
    case q5 => simp; omega
    case q6 => simp
    intro gg cap1 w3 hown3 hgrow hat hlt
    have kb : ∀ j, j < w.heap.size → w3.heap[j]? = w.heap[j]? := (fun j hj => (hgrow.block j (by simp; omega) (fun e => by have := (HVL.out.lt j e.symm).1; omega)).trans ((Below.heap_alloc _ _ _ (by omega)).trans ((Hb2.out.block j (by omega)).trans (Hb1.out.block j hj))))
    have k1 := (World.cell?_of_block (a := ⟨r, 1, none⟩) (kb r hr)).trans c1
    have kz := (World.frozen?_of_block (a := ⟨r, 1, none⟩) (kb r hr)).trans z1
    have E1 := hid hown3
    have E2 := hid kb
    have E3 := hid hgrow
    have E4 := hid hlt
    clear hown3 kb hgrow hat hlt
    have hu3 : w3.ownsRow w.heap.size 5 1 (.slice (some ⟨bu, 0, none⟩) 256 cu) x.length (cellsOf x) := by
      rw [Hx.out]
      refine (own_keep Hu.out fun k e => ?_).mono hs1
      have hk := (Hu.out.lt k e)
      exact (E3.out.block k (by simp; omega) (fun e' => by have := (HVL.out.lt k e'.symm).2; omega)).trans (Below.heap_alloc _ _ _ hk.2)
    have hE := hid (refWrite_end H.out n x Hx.out (.slice (some ⟨bu, 0, none⟩) 256 cu) gg cap1 (by rw [lcells_snoc _ _ Hul.out]; exact E1.out) hu3 E2.out (by rw [E3.out.os]; exact Hb2.out.os.trans Hb1.out.os) (by rw [E3.out.tape]; exact Hb2.out.tape.trans Hb1.out.tape) (by rw [E3.out.output]; exact Hb2.out.output.trans Hb1.out.output) (Nat.le_trans (by simp; omega) E3.out.size) hbase)
    clear hu3
    go_wp2
    go_ret
    exact ⟨rfl, _, _, hE.out.1, hE.out.2.1, hE.out.2.2⟩
end Go.Proofs.YtcaifnenejjfaaaGreat
