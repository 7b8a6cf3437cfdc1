/- Writes, Read, Blocks, Count of the reference's disks, and SameInts, by contracts. -/
import Derived.Test.YtcaifnenejjfaaaGreatBCuts
namespace Go.Proofs.YtcaifnenejjfaaaGreat
open Go.RowKit
set_option linter.unusedVariables false
set_option maxRecDepth 20000

theorem RefAt.forms {w : World} {B r : Nat} {F L : Value} {vs us : List Value} {fs : List (List UInt8)} {ls : List (Nat × List UInt8)} (h : RefAt w B r F L vs us fs ls) : (∃ fa fc, F = .slice fa fs.length fc) ∧ ∃ la lc, L = .slice la ls.length lc := by
  refine ⟨?_, ?_⟩
  · rcases h.first.2 with ⟨hv, h0⟩ | ⟨g, cap, cur, hv, _⟩
    · exact ⟨none, 0, by rw [hv, h0]⟩
    · exact ⟨_, _, hv⟩
  · rcases h.log.2 with ⟨hv, h0⟩ | ⟨g', cap', cur', hv, _⟩
    · exact ⟨none, 0, by rw [hv, h0]⟩
    · exact ⟨_, _, hv⟩
theorem RefAt.c0 {w : World} {B r : Nat} {F L : Value} {vs us : List Value} {fs : List (List UInt8)} {ls : List (Nat × List UInt8)} (h : RefAt w B r F L vs us fs ls) : w.cell? ⟨r, 0, none⟩ = some F := cell_of_row _ _ 0 _ _ _ h.obj
theorem RefAt.c1 {w : World} {B r : Nat} {F L : Value} {vs us : List Value} {fs : List (List UInt8)} {ls : List (Nat × List UInt8)} (h : RefAt w B r F L vs us fs ls) : w.cell? ⟨r, 1, none⟩ = some L := cell_of_row _ _ 1 _ _ _ h.obj

set_option maxHeartbeats 800000 in
theorem refBlocks_nil (w : World) : Calls Tryz.prog 53 #[.pointer none] w fun e w' => e = .returned (.int .i64 0) ∧ w' = w := by
  go_enter Tryz.func53, Tryz.ntmps53
  go_wp2
  go_ret
  exact ⟨rfl, rfl⟩
set_option maxHeartbeats 800000 in
theorem refBlocks_any {w : World} {B r : Nat} {F L : Value} {vs us : List Value} {fs : List (List UInt8)} {ls : List (Nat × List UInt8)} (h : RefAt w B r F L vs us fs ls) : Calls Tryz.prog 53 #[.pointer (some ⟨r, 0, none⟩)] w fun e w' => e = .returned (.int .i64 (fs.length : Int)) ∧ w' = w := by
  obtain ⟨⟨fa, fc, rfl⟩, _⟩ := h.forms
  have c0 := h.c0
  clear h
  go_enter Tryz.func53, Tryz.ntmps53
  go_wp2
  go_ret
  exact ⟨rfl, rfl⟩
set_option maxHeartbeats 800000 in
theorem refWrites_nil (w : World) : Calls Tryz.prog 31 #[.pointer none] w fun e w' => e = .returned (.slice none 0 0) ∧ w' = w := by
  go_enter Tryz.func31, Tryz.ntmps31
  go_wp2
  go_loopw [4, 3] (fun i o wr => i = .int .i64 0 ∧ o = .slice none 0 0 ∧ wr = w) (fun _ _ _ => 0)
  case atStart => exact ⟨rfl, rfl, rfl⟩
  case round =>
    obtain ⟨rfl, rfl, rfl⟩ := hrel
    go_wp2
    go_ret
    exact ⟨rfl, rfl⟩

set_option maxHeartbeats 1600000 in
set_option maxRecDepth 20000 in
theorem refWrites_ok {w : World} {B r : Nat} {F L : Value} {vs us : List Value} {fs : List (List UInt8)} {ls : List (Nat × List UInt8)} (h : RefAt w B r F L vs us fs ls) (hls : ls.length ≤ 1000000) :
    Calls Tryz.prog 31 #[.pointer (some ⟨r, 0, none⟩)] w fun e w' => ∃ V, e = .returned V ∧ w'.ownsRow w.heap.size 3 1 V ls.length (nums (ls.map (·.1))) ∧ Below w.heap.size w w' := by
  obtain ⟨i0, hi0, hz0, hz1, hz2⟩ := info_parts Tryz.info3
  obtain ⟨_, la, lc, rfl⟩ := h.forms
  have H := hid h
  clear h
  go_enter Tryz.func31, Tryz.ntmps31
  go_wp2
  go_loopw [4, 3] (fun i o wr => ∃ k : Nat, k ≤ ls.length ∧ i = .int .i64 (k : Int) ∧ wr.ownsRow w.heap.size 3 1 o k (nums ((ls.take k).map (·.1))) ∧ Below w.heap.size w wr) (fun i _ _ => ls.length - (intOf i).toNat)
  case atStart => exact ⟨0, by omega, rfl, World.ownsRow_nil _ _ _ _, Below.refl _ _⟩
  case round =>
    obtain ⟨k, hk, rfl, hrow, hB⟩ := hrel
    have Hrow := hid hrow
    have HB := hid hB
    clear hrow hB
    have hR := H.out.below HB.out
    have c1 := hR.c1
    by_cases hlt : k < ls.length
    · have hul : k < us.length := by rw [hR.ulen]; exact hlt
      obtain ⟨gl, lc', hla, _, _⟩ := hR.log.form (by omega)
      cases hla
      have c2 : wr.cell? ⟨gl, k * 2, none⟩ = some (.int .i64 (ls[k].1 : Int)) := (hR.log.cellAt (k * 2) (by omega)).trans (lcells_get ls us hR.ulen k hlt hul).1
      have Htk := hid (List.take_succ_eq_append_getElem hlt)
      have he : nums ((ls.take (k + 1)).map (·.1)) = nums ((ls.take k).map (·.1)) ++ [.int .i64 (ls[k].1 : Int)] := by
        rw [Htk.out, List.map_append]
        unfold nums
        rw [List.map_append]
        rfl
      have He := hid he
      generalize ls[k].1 = N at *
      have f0 : (0 : Int) ≤ (k : Int) := by omega
      have f1 : (k : Int) < (ls.length : Int) := by omega
      clear hR he Htk
      go_wp2_with (at_builtin; refine wpList_append_lies _ rfl _ _ 30 rfl w.heap.size 3 i0 _ 1 8 Tryz.underlying30 hi0 hz0 hz1 hz2 rfl (by omega) u3 k _ rfl (Hrow.out.alloc _) ⟨wr.heap.size, 0, none⟩ 1 1 [.int .i64 (N : Int)] rfl rfl (World.news_of_block (cs := #[.int .i64 (N : Int)]) (t := 3) (fr := (0, 0)) (heap_alloc_new wr _)) ?q1 ?q2 ?q3 ?q4 ?q5 (wr.heap.size + 1) ?q6 ?_)
      case q1 => rfl
      case q3 => unfold maxLen; omega
      case q4 => omega
      case q5 => have := HB.out.size; simp; omega
      intro gg cap1 w5 hown5 hgrow5 hat5 hlt5
      have HE := hid hown5
      rw [← List.map_take, ← He.out] at HE
      have HB5 := hid ((HB.out.alloc HB.out.size _).grown hgrow5 (by have := HB.out.size; simp; omega) (fun j e => (Hrow.out.lt j e).1))
      clear hown5 hgrow5 hat5 hlt5
      go_wp2
      go_roundw
      case rel => exact ⟨k + 1, by omega, by go_num, HE.out, HB5.out⟩
      case measure => simp [intOf]; omega
    · have hkn : k = ls.length := by omega
      subst hkn
      have f1 : ¬ (ls.length : Int) < (ls.length : Int) := by omega
      have hr := Hrow.out
      rw [List.take_length] at hr
      have Hr := hid hr
      clear hr hR
      go_wp2
      go_ret
      exact ⟨_, rfl, Hr.out, HB.out⟩

set_option maxHeartbeats 1600000 in
set_option maxRecDepth 20000 in
theorem sameInts_eq {w : World} {B1 B2 : Nat} {V1 V2 : Value} {l : List Nat} (h1 : w.ownsRow B1 3 1 V1 l.length (nums l)) (h2 : w.ownsRow B2 3 1 V2 l.length (nums l)) (hl : l.length ≤ 1000000) :
    Calls Tryz.prog 22 #[V1, V2] w fun e w' => e = .returned (.bool true) ∧ Below w.heap.size w w' := by
  obtain ⟨a1, c1, rfl⟩ : ∃ a c, V1 = .slice a l.length c := by
    rcases h1.2 with ⟨hv, h0⟩ | ⟨g, cap, cur, hv, _⟩
    · exact ⟨none, 0, by rw [hv, h0]⟩
    · exact ⟨_, _, hv⟩
  obtain ⟨a2, c2, rfl⟩ : ∃ a c, V2 = .slice a l.length c := by
    rcases h2.2 with ⟨hv, h0⟩ | ⟨g, cap, cur, hv, _⟩
    · exact ⟨none, 0, by rw [hv, h0]⟩
    · exact ⟨_, _, hv⟩
  have H1 := hid h1
  have H2 := hid h2
  clear h1 h2
  go_enter Tryz.func22, Tryz.ntmps22
  go_wp2
  go_loopw [5] (fun i wr => ∃ k : Nat, k ≤ l.length ∧ i = .int .i64 (k : Int) ∧ Below w.heap.size w wr) (fun i _ => l.length - (intOf i).toNat)
  case atStart => exact ⟨0, by omega, rfl, Below.refl _ _⟩
  case round =>
    obtain ⟨k, hk, rfl, hB⟩ := hrel
    have HB := hid hB
    clear hB
    by_cases hlt : k < l.length
    · have r1 := own_below H1.out HB.out
      have r2 := own_below H2.out HB.out
      obtain ⟨b1, c1', hv1, _, _⟩ := r1.form (by omega)
      obtain ⟨b2, c2', hv2, _, _⟩ := r2.form (by omega)
      cases hv1
      cases hv2
      have hg : (nums l)[k]? = some (.int .i64 (l[k] : Int)) := by unfold nums; rw [List.getElem?_map, List.getElem?_eq_getElem hlt]; rfl
      have k1 := (r1.cellAt k (by omega)).trans hg
      have k2 := (r2.cellAt k (by omega)).trans hg
      generalize l[k] = N at *
      have f0 : (0 : Int) ≤ (k : Int) := by omega
      have f1 : (k : Int) < (l.length : Int) := by omega
      clear r1 r2 hg
      go_wp2
      go_quiet (fail)
      go_wp2
      go_roundw
      case rel => exact ⟨k + 1, by omega, by go_num, HB.out.trans (below_drewN _ _ _)⟩
      case measure => simp [intOf]; omega
    · have f1 : ¬ (k : Int) < (l.length : Int) := by omega
      go_wp2
      go_ret
      exact ⟨rfl, HB.out⟩
end Go.Proofs.YtcaifnenejjfaaaGreat
