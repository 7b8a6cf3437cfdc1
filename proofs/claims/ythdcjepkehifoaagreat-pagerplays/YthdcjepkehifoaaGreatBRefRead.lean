/- YthdcjepkehifoaaGreatBRefMore + YthdcjepkehifoaaGreatBRefRead -/
import Derived.Test.YthdcjepkehifoaaGreatBWrites
/- Writes, Read, Blocks, Count of the reference's disks, and SameInts, by contracts. -/
namespace Go.Proofs.YthdcjepkehifoaaGreat
open Go.RowKit
set_option linter.unusedVariables false
set_option maxRecDepth 20000

theorem RefAt.forms {w : World} {B r : Nat} {F L : Value} {vs us : List Value} {fs : List (List UInt8)} {ls : List (Nat × List UInt8)} (h : RefAt w B r F L vs us fs ls) : (∃ fa fc, F = .slice fa fs.length fc) ∧ ∃ la lc, L = .slice la ls.length lc := by
  refine ⟨?_, ?_⟩
  · rcases h.first.2 with ⟨hv, h0⟩ | ⟨g, cap, cur, hv, _⟩
    · exact ⟨none, 0, by rw [hv, h0]⟩
    · exact ⟨_, _, hv⟩
  · rcases h.log.2 with ⟨hv, h0⟩ | ⟨g', cap', cur', hv, _⟩
    · exact ⟨none, 0, by rw [hv, h0]⟩
    · exact ⟨_, _, hv⟩
theorem RefAt.c0 {w : World} {B r : Nat} {F L : Value} {vs us : List Value} {fs : List (List UInt8)} {ls : List (Nat × List UInt8)} (h : RefAt w B r F L vs us fs ls) : w.cell? ⟨r, 0, none⟩ = some F := cell_of_row _ _ 0 _ _ _ h.obj
theorem RefAt.c1 {w : World} {B r : Nat} {F L : Value} {vs us : List Value} {fs : List (List UInt8)} {ls : List (Nat × List UInt8)} (h : RefAt w B r F L vs us fs ls) : w.cell? ⟨r, 1, none⟩ = some L := cell_of_row _ _ 1 _ _ _ h.obj

set_option maxHeartbeats 800000 in
theorem refBlocks_nil (w : World) : Calls Tryz.prog 77 #[.pointer none] w fun e w' => e = .returned (.int .i64 0) ∧ w' = w := by
  go_enter Tryz.func77, Tryz.ntmps77
  go_wp2
  go_ret
  exact ⟨rfl, rfl⟩
set_option maxHeartbeats 800000 in
theorem refBlocks_any {w : World} {B r : Nat} {F L : Value} {vs us : List Value} {fs : List (List UInt8)} {ls : List (Nat × List UInt8)} (h : RefAt w B r F L vs us fs ls) : Calls Tryz.prog 77 #[.pointer (some ⟨r, 0, none⟩)] w fun e w' => e = .returned (.int .i64 (fs.length : Int)) ∧ w' = w := by
  obtain ⟨⟨fa, fc, rfl⟩, _⟩ := h.forms
  have c0 := h.c0
  clear h
  go_enter Tryz.func77, Tryz.ntmps77
  go_wp2
  go_ret
  exact ⟨rfl, rfl⟩
set_option maxHeartbeats 800000 in
theorem refCount_nil (w : World) : Calls Tryz.prog 63 #[.pointer none] w fun e w' => e = .returned (.int .i64 0) ∧ w' = w := by
  go_enter Tryz.func63, Tryz.ntmps63
  go_wp2
  go_ret
  exact ⟨rfl, rfl⟩
set_option maxHeartbeats 800000 in
theorem refCount_any {w : World} {B r : Nat} {F L : Value} {vs us : List Value} {fs : List (List UInt8)} {ls : List (Nat × List UInt8)} (h : RefAt w B r F L vs us fs ls) : Calls Tryz.prog 63 #[.pointer (some ⟨r, 0, none⟩)] w fun e w' => e = .returned (.int .i64 (ls.length : Int)) ∧ w' = w := by
  obtain ⟨_, la, lc, rfl⟩ := h.forms
  have c1 := h.c1
  clear h
  go_enter Tryz.func63, Tryz.ntmps63
  go_wp2
  go_ret
  exact ⟨rfl, rfl⟩

set_option maxHeartbeats 800000 in
theorem refWrites_nil (w : World) : Calls Tryz.prog 34 #[.pointer none] w fun e w' => e = .returned (.slice none 0 0) ∧ w' = w := by
  go_enter Tryz.func34, Tryz.ntmps34
  go_wp2
  go_loopw [4, 3] (fun i o wr => i = .int .i64 0 ∧ o = .slice none 0 0 ∧ wr = w) (fun _ _ _ => 0)
  case atStart => exact ⟨rfl, rfl, rfl⟩
  case round =>
    obtain ⟨rfl, rfl, rfl⟩ := hrel
    go_wp2
    go_ret
    exact ⟨rfl, rfl⟩

set_option maxHeartbeats 1600000 in
set_option maxRecDepth 20000 in
theorem refWrites_ok {w : World} {B r : Nat} {F L : Value} {vs us : List Value} {fs : List (List UInt8)} {ls : List (Nat × List UInt8)} (h : RefAt w B r F L vs us fs ls) (hls : ls.length ≤ 1000000) :
    Calls Tryz.prog 34 #[.pointer (some ⟨r, 0, none⟩)] w fun e w' => ∃ V, e = .returned V ∧ w'.ownsRow w.heap.size 3 1 V ls.length (nums (ls.map (·.1))) ∧ Below w.heap.size w w' := by
  obtain ⟨i0, hi0, hz0, hz1, hz2⟩ := info_parts Tryz.info3
  obtain ⟨_, la, lc, rfl⟩ := h.forms
  have H := hid h
  clear h
  go_enter Tryz.func34, Tryz.ntmps34
  go_wp2
  go_loopw [4, 3] (fun i o wr => ∃ k : Nat, k ≤ ls.length ∧ i = .int .i64 (k : Int) ∧ wr.ownsRow w.heap.size 3 1 o k (nums ((ls.take k).map (·.1))) ∧ Below w.heap.size w wr) (fun i _ _ => ls.length - (intOf i).toNat)
  case atStart => exact ⟨0, by omega, rfl, World.ownsRow_nil _ _ _ _, Below.refl _ _⟩
  case round =>
    obtain ⟨k, hk, rfl, hrow, hB⟩ := hrel
    have Hrow := hid hrow
    have HB := hid hB
    clear hrow hB
    have hR := H.out.below HB.out
    have c1 := hR.c1
    by_cases hlt : k < ls.length
    · have hul : k < us.length := by rw [hR.ulen]; exact hlt
      obtain ⟨gl, lc', hla, _, _⟩ := hR.log.form (by omega)
      cases hla
      have c2 : wr.cell? ⟨gl, k * 2, none⟩ = some (.int .i64 (ls[k].1 : Int)) := (hR.log.cellAt (k * 2) (by omega)).trans (lcells_get ls us hR.ulen k hlt hul).1
      have Htk := hid (List.take_succ_eq_append_getElem hlt)
      have he : nums ((ls.take (k + 1)).map (·.1)) = nums ((ls.take k).map (·.1)) ++ [.int .i64 (ls[k].1 : Int)] := by
        rw [Htk.out, List.map_append]
        unfold nums
        rw [List.map_append]
        rfl
      have He := hid he
      generalize ls[k].1 = N at *
      have f0 : (0 : Int) ≤ (k : Int) := by omega
      have f1 : (k : Int) < (ls.length : Int) := by omega
      clear hR he Htk
      go_wp2_with (at_builtin; refine wpList_append_lies _ rfl _ _ 30 rfl w.heap.size 3 i0 _ 1 8 Tryz.underlying30 hi0 hz0 hz1 hz2 rfl (by omega) u3 k _ rfl (Hrow.out.alloc _) ⟨wr.heap.size, 0, none⟩ 1 1 [.int .i64 (N : Int)] rfl rfl (World.news_of_block (cs := #[.int .i64 (N : Int)]) (t := 3) (fr := (0, 0)) (heap_alloc_new wr _)) ?q1 ?q2 ?q3 ?q4 ?q5 (wr.heap.size + 1) ?q6 ?_)
      case q1 => rfl
      case q3 => unfold maxLen; omega
      case q4 => omega
      case q5 => have := HB.out.size; simp; omega
      intro gg cap1 w5 hown5 hgrow5 hat5 hlt5
      have HE := hid hown5
      rw [← List.map_take, ← He.out] at HE
      have HB5 := hid ((HB.out.alloc HB.out.size _).grown hgrow5 (by have := HB.out.size; simp; omega) (fun j e => (Hrow.out.lt j e).1))
      clear hown5 hgrow5 hat5 hlt5
      go_wp2
      go_roundw
      case rel => exact ⟨k + 1, by omega, by go_num, HE.out, HB5.out⟩
      case measure => simp [intOf]; omega
    · have hkn : k = ls.length := by omega
      subst hkn
      have f1 : ¬ (ls.length : Int) < (ls.length : Int) := by omega
      have hr := Hrow.out
      rw [List.take_length] at hr
      have Hr := hid hr
      clear hr hR
      go_wp2
      go_ret
      exact ⟨_, rfl, Hr.out, HB.out⟩

set_option maxHeartbeats 1600000 in
set_option maxRecDepth 20000 in
theorem sameInts_eq {w : World} {B1 B2 : Nat} {V1 V2 : Value} {l : List Nat} (h1 : w.ownsRow B1 3 1 V1 l.length (nums l)) (h2 : w.ownsRow B2 3 1 V2 l.length (nums l)) (hl : l.length ≤ 1000000) :
    Calls Tryz.prog 25 #[V1, V2] w fun e w' => e = .returned (.bool true) ∧ Below w.heap.size w w' := by
  obtain ⟨a1, c1, rfl⟩ : ∃ a c, V1 = .slice a l.length c := by
    rcases h1.2 with ⟨hv, h0⟩ | ⟨g, cap, cur, hv, _⟩
    · exact ⟨none, 0, by rw [hv, h0]⟩
    · exact ⟨_, _, hv⟩
  obtain ⟨a2, c2, rfl⟩ : ∃ a c, V2 = .slice a l.length c := by
    rcases h2.2 with ⟨hv, h0⟩ | ⟨g, cap, cur, hv, _⟩
    · exact ⟨none, 0, by rw [hv, h0]⟩
    · exact ⟨_, _, hv⟩
  have H1 := hid h1
  have H2 := hid h2
  clear h1 h2
  go_enter Tryz.func25, Tryz.ntmps25
  go_wp2
  go_loopw [5] (fun i wr => ∃ k : Nat, k ≤ l.length ∧ i = .int .i64 (k : Int) ∧ Below w.heap.size w wr) (fun i _ => l.length - (intOf i).toNat)
  case atStart => exact ⟨0, by omega, rfl, Below.refl _ _⟩
  case round =>
    obtain ⟨k, hk, rfl, hB⟩ := hrel
    have HB := hid hB
    clear hB
    by_cases hlt : k < l.length
    · have r1 := own_below H1.out HB.out
      have r2 := own_below H2.out HB.out
      obtain ⟨b1, c1', hv1, _, _⟩ := r1.form (by omega)
      obtain ⟨b2, c2', hv2, _, _⟩ := r2.form (by omega)
      cases hv1
      cases hv2
      have hg : (nums l)[k]? = some (.int .i64 (l[k] : Int)) := by unfold nums; rw [List.getElem?_map, List.getElem?_eq_getElem hlt]; rfl
      have k1 := (r1.cellAt k (by omega)).trans hg
      have k2 := (r2.cellAt k (by omega)).trans hg
      generalize l[k] = N at *
      have f0 : (0 : Int) ≤ (k : Int) := by omega
      have f1 : (k : Int) < (l.length : Int) := by omega
      clear r1 r2 hg
      go_wp2
      go_quiet (fail)
      go_wp2
      go_roundw
      case rel => exact ⟨k + 1, by omega, by go_num, HB.out.trans (below_drewN _ _ _)⟩
      case measure => simp [intOf]; omega
    · have f1 : ¬ (k : Int) < (l.length : Int) := by omega
      go_wp2
      go_ret
      exact ⟨rfl, HB.out⟩
end Go.Proofs.YthdcjepkehifoaaGreat

/- Read of the reference's disks, by a contract. -/
namespace Go.Proofs.YthdcjepkehifoaaGreat
open Go.RowKit
set_option linter.unusedVariables false
set_option maxRecDepth 20000

set_option maxHeartbeats 800000 in
theorem refRead_nil (n : Int) (w : World) : Calls Tryz.prog 134 #[.pointer none, .int .i64 n] w fun e w' => e = .returned (.tuple #[.slice none 0 0, .int .i64 1]) ∧ w' = w := by
  go_enter Tryz.func134, Tryz.ntmps134
  go_wp2
  go_ret2
  exact ⟨rfl, rfl⟩

set_option maxHeartbeats 800000 in
set_option maxRecDepth 20000 in
theorem refRead_far {w : World} {B r : Nat} {F L : Value} {vs us : List Value} {fs : List (List UInt8)} {ls : List (Nat × List UInt8)} (h : RefAt w B r F L vs us fs ls) (n : Int) (hn : n < 0 ∨ (fs.length : Int) ≤ n) :
    Calls Tryz.prog 134 #[.pointer (some ⟨r, 0, none⟩), .int .i64 n] w fun e w' => e = .returned (.tuple #[.slice none 0 0, .int .i64 2]) ∧ w' = w := by
  obtain ⟨⟨fa, fc, rfl⟩, _⟩ := h.forms
  have c0 := h.c0
  clear h
  rcases (show n < 0 ∨ (0 ≤ n ∧ (fs.length : Int) ≤ n) by omega) with h | ⟨h0, h⟩
  · go_enter Tryz.func134, Tryz.ntmps134
    go_wp2
    go_ret2
    exact ⟨rfl, rfl⟩
  · clear hn
    have h3 : ¬ n < 0 := by omega
    clear h0
    go_enter Tryz.func134, Tryz.ntmps134
    go_wp2
    go_ret2
    exact ⟨rfl, rfl⟩

set_option maxHeartbeats 1600000 in
set_option maxRecDepth 20000 in
theorem refRead_ok {w : World} {B r : Nat} {F L : Value} {vs us : List Value} {fs : List (List UInt8)} {ls : List (Nat × List UInt8)} (h : RefAt w B r F L vs us fs ls) (hok : ∀ c ∈ ls, c.1 < fs.length ∧ c.2.length = 256) (hf : ∀ p ∈ fs, p.length = 256) (hfl : fs.length ≤ 1024) (hls : ls.length ≤ 1000000) (n : Nat) (hn : n < fs.length) (x : List UInt8) (hx : (psOf fs ls)[n]? = some x) :
    Calls Tryz.prog 134 #[.pointer (some ⟨r, 0, none⟩), .int .i64 (n : Int)] w fun e w' => ∃ v, e = .returned (.tuple #[v, .int .i64 0]) ∧ w'.ownsRow w.heap.size 5 1 v x.length (cellsOf x) ∧ Below w.heap.size w w' := by
  obtain ⟨⟨fa, fc, rfl⟩, la, lc, rfl⟩ := h.forms
  have H := hid h
  have Hok := hid hok
  have Hf := hid hf
  have Hx := hid hx
  have c0 := h.c0
  have c1 := h.c1
  clear h hok hf hx
  have h3 : ¬ fs.length ≤ n := by omega
  go_enter Tryz.func134, Tryz.ntmps134
  go_wp2
  go_loopw [6] (fun i wr => ∃ j : Nat, j ≤ ls.length ∧ i = .int .i64 ((j : Int) - 1) ∧ (psOf fs (ls.take j))[n]? = some x ∧ wr = w) (fun i _ => (intOf i + 1).toNat)
  case atStart => exact ⟨ls.length, Nat.le_refl _, rfl, by rw [List.take_length]; exact Hx.out, rfl⟩
  case round =>
    obtain ⟨j, hj, rfl, hjx, rfl⟩ := hrel
    have Hjx := hid hjx
    clear hjx
    by_cases hpos : 0 < j
    · obtain ⟨m, rfl⟩ : ∃ m, j = m + 1 := ⟨j - 1, by omega⟩
      have em : ((m + 1 : Nat) : Int) - 1 = (m : Int) := by omega
      rw [em]
      have hm : m < ls.length := by omega
      have hR := H.out
      have hul : m < us.length := by rw [hR.ulen]; exact hm
      obtain ⟨gl, lc', hla, _, _⟩ := hR.log.form (by omega)
      cases hla
      have hg2 := lcells_get ls us hR.ulen m hm hul
      have c2 : wr.cell? ⟨gl, m * 2, none⟩ = some (.int .i64 (ls[m].1 : Int)) := (hR.log.cellAt (m * 2) (by omega)).trans hg2.1
      have hok := Hok.out _ (List.getElem_mem hm)
      obtain ⟨bu, cu, hue, hbu, _, _⟩ := own_form (hR.lrows m hm hul) (by omega)
      have c3 : wr.cell? ⟨gl, m * 2 + 1, none⟩ = some (.slice (some ⟨bu, 0, none⟩) 256 cu) := by
        rw [(hR.log.cellAt (m * 2 + 1) (by omega)).trans hg2.2, hue, hok.2]
      have Hcp := hid (copyB ls[m].2 bu 0 cu wr hbu (by omega) (by omega))
      rw [hok.2] at Hcp
      have hst := psOf_take fs ls m hm
      have Hlt := hid (show n < (psOf fs (ls.take m)).length by rw [psOf_length]; exact hn)
      have Hjx2 := hid Hjx.out
      rw [hst, List.getElem?_set] at Hjx2
      have Hl := hid hok.2
      have f0 : (0 : Int) ≤ (m : Int) := by omega
      have f1 : (m : Int) < (ls.length : Int) := by omega
      generalize ls[m].1 = N at *
      generalize ls[m].2 = y at *
      clear hR hg2 hue hbu hok hst Hjx
      by_cases hNn : N = n
      · subst hNn
        have hxy : y = x := by
          have := Hjx2.out
          rw [if_pos rfl, if_pos Hlt.out] at this
          exact Option.some.inj this
        subst hxy
        have g1 : ((N : Int) == (N : Int)) = true := by simp
        go_wp2_with (fail)
        refine Hcp.out.mono ?_
        rintro e w4 ⟨u, rfl, hu, hb4⟩
        go_wp2
        go_ret2
        exact ⟨_, rfl, by rw [Hl.out]; exact hu, hb4⟩
      · have g1 : ((N : Int) == (n : Int)) = false := by simp; omega
        have g2 : ¬ (N : Int) = (n : Int) := by omega
        have hjm := Hjx2.out
        rw [if_neg hNn] at hjm
        have Hjm := hid hjm
        clear hjm hNn
        go_wp2
        go_roundw
        case rel => exact ⟨m, by omega, by go_num, Hjm.out, by trivial⟩
        case measure => simp [intOf] <;> omega
    · have hj0 : j = 0 := by omega
      subst hj0
      have hx0 := Hjx.out
      simp only [List.take_zero, psOf] at hx0
      have hxe : fs[n] = x := by rw [List.getElem?_eq_getElem hn] at hx0; exact Option.some.inj hx0
      obtain ⟨bF, fc', hfa, _, _⟩ := H.out.first.form (by omega)
      cases hfa
      obtain ⟨a1, e1, k1, hb1, _⟩ := H.out.img.cell rfl n hn
      have h256 := Hf.out _ (List.getElem_mem hn)
      obtain ⟨bx, ox, rfl⟩ : ∃ bx ox, a1 = some ⟨bx, ox, none⟩ := by
        obtain ⟨b', o', e, _⟩ := hb1 0 (by omega)
        exact ⟨b', o', e⟩
      rw [hxe] at k1 hb1 h256
      have Hcp := hid (copyB x bx ox e1 wr hb1 (by omega) (by omega))
      rw [h256] at Hcp k1
      have Hl := hid h256
      have f0 : (0 : Int) ≤ (n : Int) := by omega
      have f1 : (n : Int) < (fs.length : Int) := by omega
      clear hb1 h256 hx0 hxe
      go_wp2_with (fail)
      refine Hcp.out.mono ?_
      rintro e w4 ⟨u, rfl, hu, hb4⟩
      go_wp2
      go_ret2
      exact ⟨_, rfl, by rw [Hl.out]; exact hu, hb4⟩
end Go.Proofs.YthdcjepkehifoaaGreat
