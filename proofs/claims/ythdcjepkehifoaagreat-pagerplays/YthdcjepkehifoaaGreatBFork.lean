/- YthdcjepkehifoaaGreatBRefMore + YthdcjepkehifoaaGreatBRefRead + YthdcjepkehifoaaGreatBFork -/
import Derived.Test.YthdcjepkehifoaaGreatBWrites
/- Writes, Read, Blocks, Count of the reference's disks, and SameInts, by contracts. -/
namespace Go.Proofs.YthdcjepkehifoaaGreat
open Go.RowKit
set_option linter.unusedVariables false
set_option maxRecDepth 20000

theorem RefAt.forms {w : World} {B r : Nat} {F L : Value} {vs us : List Value} {fs : List (List UInt8)} {ls : List (Nat × List UInt8)} (h : RefAt w B r F L vs us fs ls) : (∃ fa fc, F = .slice fa fs.length fc) ∧ ∃ la lc, L = .slice la ls.length lc := by
  refine ⟨?_, ?_⟩
  · rcases h.first.2 with ⟨hv, h0⟩ | ⟨g, cap, cur, hv, _⟩
    · exact ⟨none, 0, by rw [hv, h0]⟩
    · exact ⟨_, _, hv⟩
  · rcases h.log.2 with ⟨hv, h0⟩ | ⟨g', cap', cur', hv, _⟩
    · exact ⟨none, 0, by rw [hv, h0]⟩
    · exact ⟨_, _, hv⟩
theorem RefAt.c0 {w : World} {B r : Nat} {F L : Value} {vs us : List Value} {fs : List (List UInt8)} {ls : List (Nat × List UInt8)} (h : RefAt w B r F L vs us fs ls) : w.cell? ⟨r, 0, none⟩ = some F := cell_of_row _ _ 0 _ _ _ h.obj
theorem RefAt.c1 {w : World} {B r : Nat} {F L : Value} {vs us : List Value} {fs : List (List UInt8)} {ls : List (Nat × List UInt8)} (h : RefAt w B r F L vs us fs ls) : w.cell? ⟨r, 1, none⟩ = some L := cell_of_row _ _ 1 _ _ _ h.obj

set_option maxHeartbeats 800000 in
theorem refBlocks_nil (w : World) : Calls Tryz.prog 77 #[.pointer none] w fun e w' => e = .returned (.int .i64 0) ∧ w' = w := by
  go_enter Tryz.func77, Tryz.ntmps77
  go_wp2
  go_ret
  exact ⟨rfl, rfl⟩
set_option maxHeartbeats 800000 in
theorem refBlocks_any {w : World} {B r : Nat} {F L : Value} {vs us : List Value} {fs : List (List UInt8)} {ls : List (Nat × List UInt8)} (h : RefAt w B r F L vs us fs ls) : Calls Tryz.prog 77 #[.pointer (some ⟨r, 0, none⟩)] w fun e w' => e = .returned (.int .i64 (fs.length : Int)) ∧ w' = w := by
  obtain ⟨⟨fa, fc, rfl⟩, _⟩ := h.forms
  have c0 := h.c0
  clear h
  go_enter Tryz.func77, Tryz.ntmps77
  go_wp2
  go_ret
  exact ⟨rfl, rfl⟩
set_option maxHeartbeats 800000 in
theorem refCount_nil (w : World) : Calls Tryz.prog 63 #[.pointer none] w fun e w' => e = .returned (.int .i64 0) ∧ w' = w := by
  go_enter Tryz.func63, Tryz.ntmps63
  go_wp2
  go_ret
  exact ⟨rfl, rfl⟩
set_option maxHeartbeats 800000 in
theorem refCount_any {w : World} {B r : Nat} {F L : Value} {vs us : List Value} {fs : List (List UInt8)} {ls : List (Nat × List UInt8)} (h : RefAt w B r F L vs us fs ls) : Calls Tryz.prog 63 #[.pointer (some ⟨r, 0, none⟩)] w fun e w' => e = .returned (.int .i64 (ls.length : Int)) ∧ w' = w := by
  obtain ⟨_, la, lc, rfl⟩ := h.forms
  have c1 := h.c1
  clear h
  go_enter Tryz.func63, Tryz.ntmps63
  go_wp2
  go_ret
  exact ⟨rfl, rfl⟩

set_option maxHeartbeats 800000 in
theorem refWrites_nil (w : World) : Calls Tryz.prog 34 #[.pointer none] w fun e w' => e = .returned (.slice none 0 0) ∧ w' = w := by
  go_enter Tryz.func34, Tryz.ntmps34
  go_wp2
  go_loopw [4, 3] (fun i o wr => i = .int .i64 0 ∧ o = .slice none 0 0 ∧ wr = w) (fun _ _ _ => 0)
  case atStart => exact ⟨rfl, rfl, rfl⟩
  case round =>
    obtain ⟨rfl, rfl, rfl⟩ := hrel
    go_wp2
    go_ret
    exact ⟨rfl, rfl⟩

set_option maxHeartbeats 1600000 in
set_option maxRecDepth 20000 in
theorem refWrites_ok {w : World} {B r : Nat} {F L : Value} {vs us : List Value} {fs : List (List UInt8)} {ls : List (Nat × List UInt8)} (h : RefAt w B r F L vs us fs ls) (hls : ls.length ≤ 1000000) :
    Calls Tryz.prog 34 #[.pointer (some ⟨r, 0, none⟩)] w fun e w' => ∃ V, e = .returned V ∧ w'.ownsRow w.heap.size 3 1 V ls.length (nums (ls.map (·.1))) ∧ Below w.heap.size w w' := by
  obtain ⟨i0, hi0, hz0, hz1, hz2⟩ := info_parts Tryz.info3
  obtain ⟨_, la, lc, rfl⟩ := h.forms
  have H := hid h
  clear h
  go_enter Tryz.func34, Tryz.ntmps34
  go_wp2
  go_loopw [4, 3] (fun i o wr => ∃ k : Nat, k ≤ ls.length ∧ i = .int .i64 (k : Int) ∧ wr.ownsRow w.heap.size 3 1 o k (nums ((ls.take k).map (·.1))) ∧ Below w.heap.size w wr) (fun i _ _ => ls.length - (intOf i).toNat)
  case atStart => exact ⟨0, by omega, rfl, World.ownsRow_nil _ _ _ _, Below.refl _ _⟩
  case round =>
    obtain ⟨k, hk, rfl, hrow, hB⟩ := hrel
    have Hrow := hid hrow
    have HB := hid hB
    clear hrow hB
    have hR := H.out.below HB.out
    have c1 := hR.c1
    by_cases hlt : k < ls.length
    · have hul : k < us.length := by rw [hR.ulen]; exact hlt
      obtain ⟨gl, lc', hla, _, _⟩ := hR.log.form (by omega)
      cases hla
      have c2 : wr.cell? ⟨gl, k * 2, none⟩ = some (.int .i64 (ls[k].1 : Int)) := (hR.log.cellAt (k * 2) (by omega)).trans (lcells_get ls us hR.ulen k hlt hul).1
      have Htk := hid (List.take_succ_eq_append_getElem hlt)
      have he : nums ((ls.take (k + 1)).map (·.1)) = nums ((ls.take k).map (·.1)) ++ [.int .i64 (ls[k].1 : Int)] := by
        rw [Htk.out, List.map_append]
        unfold nums
        rw [List.map_append]
        rfl
      have He := hid he
      generalize ls[k].1 = N at *
      have f0 : (0 : Int) ≤ (k : Int) := by omega
      have f1 : (k : Int) < (ls.length : Int) := by omega
      clear hR he Htk
      go_wp2_with (at_builtin; refine wpList_append_lies _ rfl _ _ 30 rfl w.heap.size 3 i0 _ 1 8 Tryz.underlying30 hi0 hz0 hz1 hz2 rfl (by omega) u3 k _ rfl (Hrow.out.alloc _) ⟨wr.heap.size, 0, none⟩ 1 1 [.int .i64 (N : Int)] rfl rfl (World.news_of_block (cs := #[.int .i64 (N : Int)]) (t := 3) (fr := (0, 0)) (heap_alloc_new wr _)) ?q1 ?q2 ?q3 ?q4 ?q5 (wr.heap.size + 1) ?q6 ?_)
      case q1 => rfl
      case q3 => unfold maxLen; omega
      case q4 => omega
      case q5 => have := HB.out.size; simp; omega
      intro gg cap1 w5 hown5 hgrow5 hat5 hlt5
      have HE := hid hown5
      rw [← List.map_take, ← He.out] at HE
      have HB5 := hid ((HB.out.alloc HB.out.size _).grown hgrow5 (by have := HB.out.size; simp; omega) (fun j e => (Hrow.out.lt j e).1))
      clear hown5 hgrow5 hat5 hlt5
      go_wp2
      go_roundw
      case rel => exact ⟨k + 1, by omega, by go_num, HE.out, HB5.out⟩
      case measure => simp [intOf]; omega
    · have hkn : k = ls.length := by omega
      subst hkn
      have f1 : ¬ (ls.length : Int) < (ls.length : Int) := by omega
      have hr := Hrow.out
      rw [List.take_length] at hr
      have Hr := hid hr
      clear hr hR
      go_wp2
      go_ret
      exact ⟨_, rfl, Hr.out, HB.out⟩

set_option maxHeartbeats 1600000 in
set_option maxRecDepth 20000 in
theorem sameInts_eq {w : World} {B1 B2 : Nat} {V1 V2 : Value} {l : List Nat} (h1 : w.ownsRow B1 3 1 V1 l.length (nums l)) (h2 : w.ownsRow B2 3 1 V2 l.length (nums l)) (hl : l.length ≤ 1000000) :
    Calls Tryz.prog 25 #[V1, V2] w fun e w' => e = .returned (.bool true) ∧ Below w.heap.size w w' := by
  obtain ⟨a1, c1, rfl⟩ : ∃ a c, V1 = .slice a l.length c := by
    rcases h1.2 with ⟨hv, h0⟩ | ⟨g, cap, cur, hv, _⟩
    · exact ⟨none, 0, by rw [hv, h0]⟩
    · exact ⟨_, _, hv⟩
  obtain ⟨a2, c2, rfl⟩ : ∃ a c, V2 = .slice a l.length c := by
    rcases h2.2 with ⟨hv, h0⟩ | ⟨g, cap, cur, hv, _⟩
    · exact ⟨none, 0, by rw [hv, h0]⟩
    · exact ⟨_, _, hv⟩
  have H1 := hid h1
  have H2 := hid h2
  clear h1 h2
  go_enter Tryz.func25, Tryz.ntmps25
  go_wp2
  go_loopw [5] (fun i wr => ∃ k : Nat, k ≤ l.length ∧ i = .int .i64 (k : Int) ∧ Below w.heap.size w wr) (fun i _ => l.length - (intOf i).toNat)
  case atStart => exact ⟨0, by omega, rfl, Below.refl _ _⟩
  case round =>
    obtain ⟨k, hk, rfl, hB⟩ := hrel
    have HB := hid hB
    clear hB
    by_cases hlt : k < l.length
    · have r1 := own_below H1.out HB.out
      have r2 := own_below H2.out HB.out
      obtain ⟨b1, c1', hv1, _, _⟩ := r1.form (by omega)
      obtain ⟨b2, c2', hv2, _, _⟩ := r2.form (by omega)
      cases hv1
      cases hv2
      have hg : (nums l)[k]? = some (.int .i64 (l[k] : Int)) := by unfold nums; rw [List.getElem?_map, List.getElem?_eq_getElem hlt]; rfl
      have k1 := (r1.cellAt k (by omega)).trans hg
      have k2 := (r2.cellAt k (by omega)).trans hg
      generalize l[k] = N at *
      have f0 : (0 : Int) ≤ (k : Int) := by omega
      have f1 : (k : Int) < (l.length : Int) := by omega
      clear r1 r2 hg
      go_wp2
      go_quiet (fail)
      go_wp2
      go_roundw
      case rel => exact ⟨k + 1, by omega, by go_num, HB.out.trans (below_drewN _ _ _)⟩
      case measure => simp [intOf]; omega
    · have f1 : ¬ (k : Int) < (l.length : Int) := by omega
      go_wp2
      go_ret
      exact ⟨rfl, HB.out⟩
end Go.Proofs.YthdcjepkehifoaaGreat

/- Read of the reference's disks, by a contract. -/
namespace Go.Proofs.YthdcjepkehifoaaGreat
open Go.RowKit
set_option linter.unusedVariables false
set_option maxRecDepth 20000

set_option maxHeartbeats 800000 in
theorem refRead_nil (n : Int) (w : World) : Calls Tryz.prog 134 #[.pointer none, .int .i64 n] w fun e w' => e = .returned (.tuple #[.slice none 0 0, .int .i64 1]) ∧ w' = w := by
  go_enter Tryz.func134, Tryz.ntmps134
  go_wp2
  go_ret2
  exact ⟨rfl, rfl⟩

set_option maxHeartbeats 800000 in
set_option maxRecDepth 20000 in
theorem refRead_far {w : World} {B r : Nat} {F L : Value} {vs us : List Value} {fs : List (List UInt8)} {ls : List (Nat × List UInt8)} (h : RefAt w B r F L vs us fs ls) (n : Int) (hn : n < 0 ∨ (fs.length : Int) ≤ n) :
    Calls Tryz.prog 134 #[.pointer (some ⟨r, 0, none⟩), .int .i64 n] w fun e w' => e = .returned (.tuple #[.slice none 0 0, .int .i64 2]) ∧ w' = w := by
  obtain ⟨⟨fa, fc, rfl⟩, _⟩ := h.forms
  have c0 := h.c0
  clear h
  rcases (show n < 0 ∨ (0 ≤ n ∧ (fs.length : Int) ≤ n) by omega) with h | ⟨h0, h⟩
  · go_enter Tryz.func134, Tryz.ntmps134
    go_wp2
    go_ret2
    exact ⟨rfl, rfl⟩
  · clear hn
    have h3 : ¬ n < 0 := by omega
    clear h0
    go_enter Tryz.func134, Tryz.ntmps134
    go_wp2
    go_ret2
    exact ⟨rfl, rfl⟩

set_option maxHeartbeats 1600000 in
set_option maxRecDepth 20000 in
theorem refRead_ok {w : World} {B r : Nat} {F L : Value} {vs us : List Value} {fs : List (List UInt8)} {ls : List (Nat × List UInt8)} (h : RefAt w B r F L vs us fs ls) (hok : ∀ c ∈ ls, c.1 < fs.length ∧ c.2.length = 256) (hf : ∀ p ∈ fs, p.length = 256) (hfl : fs.length ≤ 1024) (hls : ls.length ≤ 1000000) (n : Nat) (hn : n < fs.length) (x : List UInt8) (hx : (psOf fs ls)[n]? = some x) :
    Calls Tryz.prog 134 #[.pointer (some ⟨r, 0, none⟩), .int .i64 (n : Int)] w fun e w' => ∃ v, e = .returned (.tuple #[v, .int .i64 0]) ∧ w'.ownsRow w.heap.size 5 1 v x.length (cellsOf x) ∧ Below w.heap.size w w' := by
  obtain ⟨⟨fa, fc, rfl⟩, la, lc, rfl⟩ := h.forms
  have H := hid h
  have Hok := hid hok
  have Hf := hid hf
  have Hx := hid hx
  have c0 := h.c0
  have c1 := h.c1
  clear h hok hf hx
  have h3 : ¬ fs.length ≤ n := by omega
  go_enter Tryz.func134, Tryz.ntmps134
  go_wp2
  go_loopw [6] (fun i wr => ∃ j : Nat, j ≤ ls.length ∧ i = .int .i64 ((j : Int) - 1) ∧ (psOf fs (ls.take j))[n]? = some x ∧ wr = w) (fun i _ => (intOf i + 1).toNat)
  case atStart => exact ⟨ls.length, Nat.le_refl _, rfl, by rw [List.take_length]; exact Hx.out, rfl⟩
  case round =>
    obtain ⟨j, hj, rfl, hjx, rfl⟩ := hrel
    have Hjx := hid hjx
    clear hjx
    by_cases hpos : 0 < j
    · obtain ⟨m, rfl⟩ : ∃ m, j = m + 1 := ⟨j - 1, by omega⟩
      have em : ((m + 1 : Nat) : Int) - 1 = (m : Int) := by omega
      rw [em]
      have hm : m < ls.length := by omega
      have hR := H.out
      have hul : m < us.length := by rw [hR.ulen]; exact hm
      obtain ⟨gl, lc', hla, _, _⟩ := hR.log.form (by omega)
      cases hla
      have hg2 := lcells_get ls us hR.ulen m hm hul
      have c2 : wr.cell? ⟨gl, m * 2, none⟩ = some (.int .i64 (ls[m].1 : Int)) := (hR.log.cellAt (m * 2) (by omega)).trans hg2.1
      have hok := Hok.out _ (List.getElem_mem hm)
      obtain ⟨bu, cu, hue, hbu, _, _⟩ := own_form (hR.lrows m hm hul) (by omega)
      have c3 : wr.cell? ⟨gl, m * 2 + 1, none⟩ = some (.slice (some ⟨bu, 0, none⟩) 256 cu) := by
        rw [(hR.log.cellAt (m * 2 + 1) (by omega)).trans hg2.2, hue, hok.2]
      have Hcp := hid (copyB ls[m].2 bu 0 cu wr hbu (by omega) (by omega))
      rw [hok.2] at Hcp
      have hst := psOf_take fs ls m hm
      have Hlt := hid (show n < (psOf fs (ls.take m)).length by rw [psOf_length]; exact hn)
      have Hjx2 := hid Hjx.out
      rw [hst, List.getElem?_set] at Hjx2
      have Hl := hid hok.2
      have f0 : (0 : Int) ≤ (m : Int) := by omega
      have f1 : (m : Int) < (ls.length : Int) := by omega
      generalize ls[m].1 = N at *
      generalize ls[m].2 = y at *
      clear hR hg2 hue hbu hok hst Hjx
      by_cases hNn : N = n
      · subst hNn
        have hxy : y = x := by
          have := Hjx2.out
          rw [if_pos rfl, if_pos Hlt.out] at this
          exact Option.some.inj this
        subst hxy
        have g1 : ((N : Int) == (N : Int)) = true := by simp
        go_wp2_with (fail)
        refine Hcp.out.mono ?_
        rintro e w4 ⟨u, rfl, hu, hb4⟩
        go_wp2
        go_ret2
        exact ⟨_, rfl, by rw [Hl.out]; exact hu, hb4⟩
      · have g1 : ((N : Int) == (n : Int)) = false := by simp; omega
        have g2 : ¬ (N : Int) = (n : Int) := by omega
        have hjm := Hjx2.out
        rw [if_neg hNn] at hjm
        have Hjm := hid hjm
        clear hjm hNn
        go_wp2
        go_roundw
        case rel => exact ⟨m, by omega, by go_num, Hjm.out, by trivial⟩
        case measure => simp [intOf] <;> omega
    · have hj0 : j = 0 := by omega
      subst hj0
      have hx0 := Hjx.out
      simp only [List.take_zero, psOf] at hx0
      have hxe : fs[n] = x := by rw [List.getElem?_eq_getElem hn] at hx0; exact Option.some.inj hx0
      obtain ⟨bF, fc', hfa, _, _⟩ := H.out.first.form (by omega)
      cases hfa
      obtain ⟨a1, e1, k1, hb1, _⟩ := H.out.img.cell rfl n hn
      have h256 := Hf.out _ (List.getElem_mem hn)
      obtain ⟨bx, ox, rfl⟩ : ∃ bx ox, a1 = some ⟨bx, ox, none⟩ := by
        obtain ⟨b', o', e, _⟩ := hb1 0 (by omega)
        exact ⟨b', o', e⟩
      rw [hxe] at k1 hb1 h256
      have Hcp := hid (copyB x bx ox e1 wr hb1 (by omega) (by omega))
      rw [h256] at Hcp k1
      have Hl := hid h256
      have f0 : (0 : Int) ≤ (n : Int) := by omega
      have f1 : (n : Int) < (fs.length : Int) := by omega
      clear hb1 h256 hx0 hxe
      go_wp2_with (fail)
      refine Hcp.out.mono ?_
      rintro e w4 ⟨u, rfl, hu, hb4⟩
      go_wp2
      go_ret2
      exact ⟨_, rfl, by rw [Hl.out]; exact hu, hb4⟩
end Go.Proofs.YthdcjepkehifoaaGreat

/- Fork of package block, by a contract. -/
namespace Go.Proofs.YthdcjepkehifoaaGreat
open Go.RowKit
set_option linter.unusedVariables false
set_option maxRecDepth 20000

set_option maxHeartbeats 800000 in
theorem store_any (d o : Nat) (x : Int) (u : Value) (w : World) (hc : w.cell? ⟨d, o, none⟩ = some u) (hz : w.frozen? ⟨d, o, none⟩ = false) :
    Calls Tryz.prog 96 #[.pointer (some ⟨d, o, none⟩), .int .i64 x] w fun e w' => e = .returned (.tuple #[]) ∧ w' = w.setCell ⟨d, o, none⟩ (.int .i64 x) := by
  go_enter Tryz.func96, Tryz.ntmps96
  go_wp2
  rw [run_call_store Tryz.func142 (by kernel_rfl) (by kernel_rfl) (by kernel_rfl) (by kernel_rfl) hc hz]
  rw [Oper.upon_value]
  go_wp2
  go_end0
  exact ⟨rfl, rfl⟩

theorem own_any {w : World} {B e s n : Nat} {v : Value} {xs : List Value} (h : w.ownsRow B e s v n xs) : ∃ a c, v = .slice a n c := by
  rcases h.2 with ⟨h, h0⟩ | ⟨g', cap', cur', hv, _⟩
  · exact ⟨none, 0, by rw [h, h0]⟩
  · exact ⟨_, _, hv⟩
theorem ccells_length (ch : List (Nat × List UInt8)) (h : ∀ c ∈ ch, c.2.length = 256) : (ccells ch).length = ch.length * 257 := by
  induction ch with
  | nil => rfl
  | cons c ch ih =>
    unfold ccells at ih ⊢
    rw [List.flatMap_cons, List.length_append, ih (fun q hq => h q (List.mem_cons_of_mem _ hq)), List.length_cons, cellsOf_length, h c List.mem_cons_self, List.length_cons]
    omega
theorem ccells_one (ch : List (Nat × List UInt8)) : ∀ u ∈ ccells ch, u.oneCell' = true := by
  intro u hu
  obtain ⟨c, _, hc⟩ := List.mem_flatMap.1 hu
  rcases List.mem_cons.1 hc with rfl | h
  · rfl
  · exact cellsOf_one _ u h

set_option maxHeartbeats 800000 in
set_option maxRecDepth 20000 in
theorem cloneCh {w : World} {B d g cap : Nat} {v : Value} {ps : List (List UInt8)} {ch : List (Nat × List UInt8)} (h : DiskAt w B d g cap v ps ch) (hch : ch.length ≤ 1000000) :
    Calls Tryz.prog 95 #[v] w fun e w' => ∃ v', e = .returned v' ∧ w'.ownsRow w.heap.size 122 257 v' ch.length (ccells ch) ∧ Below w.heap.size w w' ∧ (ch = [] → v' = .slice none 0 0) := by
  obtain ⟨i0, hi, hz0, hz1, hz2⟩ := info_parts Tryz.info122
  have q22 : ∀ (w : World) (a : Option Addr) (n c n' c' : Nat), (binOp .eql 111 (.slice a n c) (.slice none n' c')).run Tryz.prog w = .ok (.bool a.isNone) w := fun w a n c n' c' => Lib.run_eql_slice_nil w _ _ a n c n' c' Tryz.underlying111
  by_cases h0 : ch = []
  · have hv := h.vnil h0
    subst hv
    subst h0
    clear h
    go_enter Tryz.func95, Tryz.ntmps95
    go_wp2
    go_ret
    exact ⟨_, rfl, World.ownsRow_nil _ _ _ _, Below.refl _ _, fun _ => rfl⟩
  · have hpos : 0 < ch.length := by
      rcases Nat.eq_zero_or_pos ch.length with h | h
      · exact absurd (List.length_eq_zero_iff.1 h) h0
      · exact h
    obtain ⟨gv, cv, rfl, _, _⟩ := h.chs.form hpos
    have Hc : Hid (∀ j, j < ch.length * 257 → w.cell? ⟨gv, j, none⟩ = (ccells ch)[j]?) := fun j hj => h.chs.cellAt j hj
    have HL := hid (ccells_length ch (fun c hc => (h.chin c hc).2))
    have H0 := hid h0
    clear h h0
    go_enter Tryz.func95, Tryz.ntmps95
    go_wp2_with (at_builtin; refine wpList_append_own _ rfl _ _ 111 rfl w.heap.size 122 i0 _ 257 264 Tryz.underlying111 hi hz0 hz1 hz2 rfl (by decide) _ _ _ rfl (World.ownsRow_made w #[] 0 (Nat.le_refl _) (Nat.zero_le _) rfl) ⟨gv, 0, none⟩ ch.length cv (ccells ch) rfl HL.out ?qc2 ?qc3 ?qc4 ?qc5 ?qc6 ?_)
    case qc2 =>
      intro j u hj
      have hjn : j < ch.length * 257 := by
        have := (List.getElem?_eq_some_iff.1 hj).1
        rw [HL.out] at this
        exact this
      have hc := (Hc.out j hjn).trans hj
      rw [addr_add, Nat.zero_add]
      exact (World.cell?_alloc_some _ _ _ (by rw [hc]; rfl)).trans hc
    case qc3 => exact ccells_one ch
    case qc4 => unfold maxLen; omega
    case qc5 => omega
    case qc6 => simp
    intro v' w1 hown hgrow hnil
    go_wp2
    go_ret
    have hown' : w1.ownsRow w.heap.size 122 257 v' ch.length (ccells ch) := by simpa using hown
    exact ⟨v', rfl, hown', ((Below.refl _ w).alloc (Nat.le_refl _) _).grown hgrow (by simp) (by intro k hk; simp [Value.ownBlock] at hk; omega), fun e => absurd e H0.out⟩

set_option maxHeartbeats 1600000 in
set_option maxRecDepth 20000 in
theorem fork_ok {w : World} {B d g cap : Nat} {v : Value} {ps : List (List UInt8)} {ch : List (Nat × List UInt8)} (h : DiskAt w B d g cap v ps ch) (h1 : 1 ≤ ps.length) (h2 : ps.length ≤ 1024) (hch : ch.length ≤ 1000000) :
    Calls Tryz.prog 46 #[.pointer (some ⟨d, 0, none⟩)] w fun e w' => ∃ f g' cap' v', e = .returned (.pointer (some ⟨f, 0, none⟩)) ∧ DiskAt w' w.heap.size f g' cap' v' ps ch ∧ Below w.heap.size w w' := by
  have H := hid h
  have c0 := h.c0
  have c1 := h.c1
  have C2 := hid h.c2
  have Hcp := hid (clonePages (w := w.drew) (h.keep (w' := w.drew) rfl rfl fun _ _ => rfl) h1 h2)
  have hd := h.lts.1
  obtain ⟨va, vc, rfl⟩ : ∃ va vc, v = .slice va ch.length vc := by
    rcases h.chs.2 with ⟨h, h0⟩ | ⟨g', cap', cur', hv, _⟩
    · exact ⟨none, 0, by rw [h, h0]⟩
    · exact ⟨_, _, hv⟩
  clear h
  go_enter Tryz.func46, Tryz.ntmps46
  go_wp2
  go_region_held3 (fun w9 => w9.cell? ⟨d, 0, none⟩ = some (.slice (some ⟨g, 0, none⟩) ps.length cap) ∧ w9.cell? ⟨d, 1, none⟩ = some (.slice va ch.length vc)) (first | exact ⟨c0, c1⟩ | exact k.out | exact q.out | exact ⟨(World.cell?_alloc_some _ _ _ (by rw [q.out.1]; rfl)).trans q.out.1, (World.cell?_alloc_some _ _ _ (by rw [q.out.2]; rfl)).trans q.out.2⟩)
    (first
      | ((go_at_call 88; refine Hcp.out.mono ?_; rintro e w1 ⟨g', cap', rfl, hown, hbel'⟩; have hbel := undrew hbel'; have k := hid (And.intro ((hbel.cell (World.block_lt_of_cell? _ _ c0)).trans c0) ((hbel.cell (World.block_lt_of_cell? _ _ c1)).trans c1)); have Hown := hid hown; have Hbel := hid hbel; clear hown hbel hbel'))
      | ((go_at_call 95; refine (cloneCh (H.out.below Hbel.out) hch).mono ?_; rintro e w2 ⟨v', rfl, hv', hb2, hn2⟩; obtain ⟨va', vc', rfl⟩ : ∃ va' vc', v' = .slice va' ch.length vc' := own_any hv'; have q := hid (And.intro ((hb2.cell (World.block_lt_of_cell? _ _ k.out.1)).trans k.out.1) ((hb2.cell (World.block_lt_of_cell? _ _ k.out.2)).trans k.out.2)); have Hv' := hid hv'; have Hb2 := hid hb2; have Hn2 := hid hn2; clear hv' hb2 hn2)))
  have hs1 := Hbel.out.size
  have hs2 := Hb2.out.size
  have Hg' := hid (Hown.out.lt g' rfl)
  have hown1 : w1.ownsRow w.heap.size 120 256 (.slice (some ⟨g', 0, none⟩) ps.length cap') ps.length (pcells ps) := Hown.out
  obtain ⟨W, hW⟩ : ∃ W, W = w2.alloc (.cells #[.slice (some ⟨g', 0, none⟩) ps.length cap', .slice va' ch.length vc', .int .i64 0] 118) := ⟨_, rfl⟩
  have hf : W.heap[w2.heap.size]? = some (.cells #[.slice (some ⟨g', 0, none⟩) ps.length cap', .slice va' ch.length vc', .int .i64 0] 118 (0, 0)) := by rw [hW]; exact heap_alloc_new _ _
  have HBW := hid (show Below w.heap.size w W by rw [hW]; exact (Hbel.out.trans (Hb2.out.mono hs1)).alloc (Nat.le_trans hs1 hs2) _)
  have HpW := hid (show W.ownsRow w.heap.size 120 256 (.slice (some ⟨g', 0, none⟩) ps.length cap') ps.length (pcells ps) by rw [hW]; exact (own_below hown1 Hb2.out).alloc _)
  have HvW := hid (show W.ownsRow w1.heap.size 122 257 (.slice va' ch.length vc') ch.length (ccells ch) by rw [hW]; exact Hv'.out.alloc _)
  rw [← hW]
  have Hf := hid hf
  have Hfull := hid H.out.full
  have Hchin := hid H.out.chin
  have c2 : W.cell? ⟨d, 2, none⟩ = some (.int .i64 (ch.length : Int)) := (HBW.out.cell (show (⟨d, 2, none⟩ : Addr).block < w.heap.size from hd)).trans C2.out
  have f2 : W.cell? ⟨w2.heap.size, 2, none⟩ = some (.int .i64 0) := cell_of_row _ _ 2 _ _ _ hf
  have z2 : W.frozen? ⟨w2.heap.size, 2, none⟩ = false := frozen_of_row _ _ 2 _ _ hf
  have HvL := hid (Hv'.out.lt)
  have Ld := hid (load_any d 2 (ch.length : Int) W.drew c2)
  have Sd := hid (store_any w2.heap.size 2 (ch.length : Int) _ W.drew f2 z2)
  clear hf hW hown1 k q c0 c1 Hown Hbel Hcp Hb2 Hv' H
  go_wp2
  go_region_held3 (fun w9 => True) (trivial)
    (first
      | ((go_at_call 87; refine Ld.out.mono ?_; rintro e w4 ⟨rfl, rfl⟩))
      | ((go_at_call 96; refine Sd.out.mono ?_; rintro e w5 ⟨rfl, rfl⟩)))
  go_wp2
  go_ret
  have hD : DiskAt (W.drew.setCell ⟨w2.heap.size, 2, none⟩ (.int .i64 (ch.length : Int))) w.heap.size w2.heap.size g' cap' (.slice va' ch.length vc') ps ch := by
    have o2 : ∀ j, j ≠ w2.heap.size → (W.drew.setCell ⟨w2.heap.size, 2, none⟩ (.int .i64 (ch.length : Int))).heap[j]? = W.heap[j]? := fun j hj => heap_setCell_other _ _ _ _ hj
    have d2 := heap_setCell_same W.drew w2.heap.size 2 _ _ (.int .i64 (ch.length : Int)) Hf.out
    have hg1 := Hg'.out.2
    have hvb : ∀ j, (Value.slice va' ch.length vc').ownBlock = some j → w1.heap.size ≤ j ∧ j < w2.heap.size := HvL.out
    refine ⟨by rw [d2]; simp, own_keep HpW.out fun j e => o2 j (by have := own_slice e; omega), Hfull.out, (own_keep HvW.out fun j e => o2 j (by have := (hvb j e).2; omega)).mono hs1, Hchin.out, by omega, by omega, fun e => by have := (hvb _ e).2; omega, fun e => by have := (hvb _ e).1; omega, Hn2.out⟩
  have hWd : Below w.heap.size w W.drew := ⟨HBW.out.os, HBW.out.tape, HBW.out.output, HBW.out.size, HBW.out.block⟩
  have hBf : Below w.heap.size w (W.drew.setCell ⟨w2.heap.size, 2, none⟩ (.int .i64 (ch.length : Int))) := hWd.setCell (show w.heap.size ≤ (⟨w2.heap.size, 2, none⟩ : Addr).block from Nat.le_trans hs1 hs2) _
  first | exact ⟨_, _, _, _, rfl, hD, hBf⟩ | exact ⟨_, rfl, ⟨_, _, _, hD⟩, hBf⟩ | exact ⟨_, rfl, _, _, _, hD, hBf⟩ | exact ⟨_, rfl, ⟨_, _, ⟨_, hD⟩⟩, hBf⟩
end Go.Proofs.YthdcjepkehifoaaGreat
