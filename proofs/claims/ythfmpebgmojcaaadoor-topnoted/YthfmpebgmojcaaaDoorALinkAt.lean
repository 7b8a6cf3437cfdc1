/- The link of a number: audit.linkAt. -/
import Derived.Test.YthfmpebgmojcaaaDoorALinks
namespace Go.Proofs.YthfmpebgmojcaaaDoor
open Go.RowKit Go.Shelf
set_option linter.unusedVariables false
set_option maxRecDepth 20000
attribute [local go_sem] Oper.semAt_some
attribute [local go_sem ↓] loadL_fold storeL_fold

abbrev zlnk : Array Value := #[.int .i64 0, .int .u8 0, .int .u8 0, .int .u8 0, .int .u8 0, .int .u8 0, .int .u8 0, .int .u8 0, .int .u8 0, .int .u8 0, .int .u8 0, .int .u8 0, .int .u8 0, .int .u8 0, .int .u8 0, .int .u8 0, .int .u8 0, .int .u8 0, .int .u8 0, .int .u8 0, .int .u8 0, .int .u8 0, .int .u8 0, .int .u8 0, .int .u8 0, .int .u8 0, .int .u8 0, .int .u8 0, .int .u8 0, .int .u8 0, .int .u8 0, .int .u8 0, .int .u8 0]
theorem zlnk_eq : zlnk = (lnkC 0 zero32).toArray := rfl
theorem storeL_row {w : World} {g n : Nat} {h : List UInt8} {old : Array Value} (hl : h.length = 32) (hg : w.heap[g]? = some (.cells old 85 (0, 0))) (ho : old.size = 33) : (storeL (.pointer (some ⟨g, 0, none⟩)) (.agg (lnkC n h).toArray)).run Tryd.prog w = .ok () (w.setRow g (lnkC n h).toArray) := by
  unfold storeL
  simp only [Instr.storeAt, Instr.sureAddr, Sem.run_bind, Sem.run_pure, Result.andThen]
  exact run_storeVar_row w g 85 85 old (lnkC n h).toArray hg (by rw [List.size_toArray, lnkC_length, hl]; exact size_link) (ho.trans (by rw [List.size_toArray, lnkC_length, hl])) (all_oneCell_toArray (lnkC_one _ _))
theorem lnkC_sz (n : Nat) (h : List UInt8) (hl : h.length = 32) : (lnkC n h).toArray.size = 33 := by rw [List.size_toArray, lnkC_length, hl]
/-- what the loop keeps: the number asked for, the result's cells, the link that came last -/
structure TAt (h : Nat) (w : World) (N : Nat) (pre : List Lnk) (W : World) : Prop where
  box : Boxed W h 3 (.int .i64 (N : Int))
  res : W.heap[h + 1]? = some (.cells zlnk 85 (0, 0))
  cur : ∃ m l, l.length = 32 ∧ W.heap[h + 2]? = some (.cells (lnkC m l).toArray 85 (0, 0))
  bel : Below h w W
  non : ∀ x ∈ pre, x.n ≠ N
structure TEnd (h : Nat) (w : World) (N : Nat) (c : Code) (pre : List Lnk) (W : World) : Prop where
  ex : c = .exit 0
  res : W.heap[h + 1]? = some (.cells zlnk 85 (0, 0))
  cur : ∃ x, pre.getLast? = some x ∧ x.n = N ∧ W.heap[h + 2]? = some (.cells (lnkC x.n x.h).toArray 85 (0, 0))
  bel : Below h w W
theorem tAt_beyond (h : Nat) (w : World) (N D : Nat) (hD : h + 3 ≤ D) (hw : h = w.heap.size) : Beyond D (fun pre W => TAt h w N pre W) := fun s W W' hs hb => by
  obtain ⟨m, l, hl, hc⟩ := hs.cur
  exact ⟨(hb.block h (by omega)).trans hs.box, (hb.block _ (by omega)).trans hs.res, ⟨m, l, hl, (hb.block _ (by omega)).trans hc⟩, hs.bel.trans (hb.mono (by omega)), hs.non⟩
theorem tEnd_beyond (h : Nat) (w : World) (N D : Nat) (hD : h + 3 ≤ D) (hw : h = w.heap.size) (c : Code) : Beyond D (fun pre W => TEnd h w N c pre W) := fun s W W' hs hb => by
  obtain ⟨x, h1, h2, hc⟩ := hs.cur
  exact ⟨hs.ex, (hb.block _ (by omega)).trans hs.res, ⟨x, h1, h2, (hb.block _ (by omega)).trans hc⟩, hs.bel.trans (hb.mono (by omega))⟩

set_option maxHeartbeats 4000000 in
theorem linkAt_any {w : World} {B g : Nat} {v : Value} {c : Ch} (H : ChAt w B g v c) (ok : ChOk c) (hc : c.cnt < 1152921504606846976) (hT : Tabs w B) (hB : B ≤ w.heap.size) (k : Nat) (hk : k ≤ c.ev.length) :
    Calls Tryd.prog 76 #[.pointer (some ⟨g, 0, none⟩), .int .i64 ((c.bn + k : Nat) : Int)] w fun e w' => e = .returned (.agg (lnkC (c.bn + k) (c.at k)).toArray) ∧ Below w.heap.size w w' := by
  obtain ⟨N, hN⟩ : ∃ N, N = c.bn + k := ⟨_, rfl⟩
  rw [← hN]
  have HN := hid hN
  have HH := hid H
  have OK := hid ok
  have HT := hid hT
  clear hN H hT
  refine (callsIn_wide (n := 3)).1 ?_
  refine callsIn_of_wp_marks Tryd.func76 rfl trivial ?_ rfl
  simp only [Tryd.ntmps76, List.size_toArray, List.length_cons, List.length_nil, Nat.reduceAdd, Nat.reduceSub, Array.replicate_succ, Array.replicate_zero, List.push_toArray, List.append_toArray, List.nil_append, List.cons_append]
  gi_wp2_with fail
  refine ⟨trivial, (callsIn_wide.2 (links_any _ _)).mono ?_⟩
  rintro _ w' ⟨rfl, rfl⟩
  gi_wp2_with fail
  obtain ⟨h, hh⟩ : ∃ h, h = w.heap.size := ⟨_, rfl⟩
  obtain ⟨w1, hw1⟩ : ∃ w1, w1 = w.alloc (.cells #[.int .i64 (N : Int)] 3) := ⟨_, rfl⟩
  obtain ⟨w2, hw2⟩ : ∃ w2, w2 = w1.alloc (.cells zlnk 85) := ⟨_, rfl⟩
  obtain ⟨w3, hw3⟩ : ∃ w3, w3 = w2.alloc (.cells zlnk 85) := ⟨_, rfl⟩
  obtain ⟨W0, hW0⟩ : ∃ W0, W0 = w3.alloc (.cells #[.pointer (some ⟨g, 0, none⟩)] 24) := ⟨_, rfl⟩
  have z1 : w1.heap.size = h + 1 := by rw [hw1, hh]; simp
  have z2 : w2.heap.size = h + 2 := by rw [hw2, World.size_alloc, z1]
  have z3 : w3.heap.size = h + 3 := by rw [hw3, World.size_alloc, z2]
  have z0 : W0.heap.size = h + 4 := by rw [hW0, World.size_alloc, z3]
  have o1 : w1.heap[h]? = some (.cells #[.int .i64 (N : Int)] 3 (0, 0)) := by rw [hw1, hh]; exact heap_alloc_new w _
  have o2 : w2.heap[h + 1]? = some (.cells zlnk 85 (0, 0)) := by rw [hw2, ← z1]; exact heap_alloc_new w1 _
  have o3 : w3.heap[h + 2]? = some (.cells zlnk 85 (0, 0)) := by rw [hw3, ← z2]; exact heap_alloc_new w2 _
  have b1 : Below h w w1 := by rw [hw1, hh]; exact (Below.refl _ w).alloc (Nat.le_refl _) _
  have b2 : Below (h + 1) w1 w2 := by rw [hw2, ← z1]; exact (Below.refl _ w1).alloc (Nat.le_refl _) _
  have b3 : Below (h + 2) w2 w3 := by rw [hw3, ← z2]; exact (Below.refl _ w2).alloc (Nat.le_refl _) _
  have b4 : Below (h + 3) w3 W0 := by rw [hW0, ← z3]; exact (Below.refl _ w3).alloc (Nat.le_refl _) _
  have b0 : Below h w W0 := ((b1.trans (b2.mono (by omega))).trans (b3.mono (by omega))).trans (b4.mono (by omega))
  have cBk : W0.cell? ⟨h + 3, 0, none⟩ = some (.pointer (some ⟨g, 0, none⟩)) := by
    have := (Boxed.new w3 24 (.pointer (some ⟨g, 0, none⟩))).cell
    rw [z3, ← hW0] at this
    exact this
  have p0 : TAt h w N [] W0 := by
    refine ⟨?_, ?_, ⟨0, zero32, by decide, ?_⟩, b0, fun x hx => by cases hx⟩
    · exact ((b4.block h (by omega)).trans ((b3.block h (by omega)).trans (b2.block h (by omega)))).trans o1
    · exact ((b4.block _ (by omega)).trans (b3.block _ (by omega))).trans o2
    · rw [← zlnk_eq]; exact (b4.block _ (by omega)).trans o3
  have HC0 : ChAt W0 B g v c := HH.out.below (by rw [← hh]; exact b0)
  have HT0 : Tabs W0 B := HT.out.below hB (by rw [← hh]; exact b0)
  have hgl := HH.out.lt
  have hvl := HH.out.lts
  have hseq := links_seq (3 - 1) (h + 3) B g h (h + 3) v c ok hc W0 (by omega) (by omega) HC0 (by omega) (fun k hk => by have := (hvl k hk).2; omega) HT0 (by omega) cBk (.inr (Nat.le_refl _))
  rw [show (w.heap.size : Nat) = h from hh.symm]
  rw [show ((((w.alloc (.cells #[.int .i64 (N : Int)] 3)).alloc (.cells zlnk 85)).alloc (.cells zlnk 85)).alloc (.cells #[.pointer (some ⟨g, 0, none⟩)] 24)) = W0 by rw [hW0, hw3, hw2, hw1]]
  have P0 := hid p0
  have Hh := hid hh
  have Z0 := hid z0
  clear p0 hw1 hw2 hw3 hW0 z1 z2 z3 o1 o2 o3 b1 b2 b3 b4 b0 cBk HC0 HT0 HH HT hgl hvl hh z0
  rw [show h + 1 + 1 = h + 2 from rfl, show h + 2 + 1 = h + 3 from rfl]
  refine range_B rfl (by omega) (gf := 79) (lb := #[.pointer (some ⟨h + 3, 0, none⟩)]) rfl trivial (enters_of Tryd.func79 (by kernel_rfl) rfl) hseq (by have := Z0.out; omega) (fun _ => rfl)
    (fun pre W => TAt h w N pre W) (fun c pre W => TEnd h w N c pre W) (tAt_beyond h w N _ (by have := Z0.out; omega) Hh.out) (fun c => tEnd_beyond h w N _ (by have := Z0.out; omega) Hh.out c) P0.out ?round ?done ?stop
  case round =>
    intro l pre x W hsz hI hlen
    obtain ⟨m, l0, hl0, hcur⟩ := hI.cur
    have hS := storeL_row (n := x.n) x.len hcur (lnkC_sz m l0 hl0)
    have HI := hid hI
    have Hcur := hid hcur
    clear hI hcur
    rw [show lnkV x = #[.agg (lnkC x.n x.h).toArray] from rfl]
    have c1 : Chg h (h + 3) W (W.setRow (h + 2) (lnkC x.n x.h).toArray) := (Out.refl _ W).setRow _ (by omega) _
    have r1 := setRow_heap W (h + 2) _ (lnkC x.n x.h).toArray _ _ Hcur.out
    gi_wp2
    refine ⟨c1, fun o => ?_⟩
    obtain ⟨V, hV⟩ : ∃ V, V = (W.setRow (h + 2) (lnkC x.n x.h).toArray).putObj (W0.heap.size + 1) o := ⟨_, rfl⟩
    have bV : Below (h + 3) (W.setRow (h + 2) (lnkC x.n x.h).toArray) V := by rw [hV]; exact below_putObj _ _ _ (by have := Z0.out; omega)
    rw [← hV]
    have x2 := (bV.block (h + 2) (by omega)).trans r1
    have x0 : V.heap[h]? = some (.cells #[.int .i64 (N : Int)] 3 (0, 0)) := (bV.block h (by omega)).trans ((setRow_other _ _ _ _ (by omega)).trans HI.out.box)
    have x1 : V.heap[h + 1]? = some (.cells zlnk 85 (0, 0)) := (bV.block _ (by omega)).trans ((setRow_other _ _ _ _ (by omega)).trans HI.out.res)
    have bw : Below h w V := HI.out.bel.trans ((c1.below (by have := Z0.out; omega)).trans (bV.mono (by omega)))
    have k2 : V.cell? ⟨h + 2, 0, none⟩ = some (.int .i64 (x.n : Int)) := range_whole x2 0 _ rfl
    have k0 : V.cell? ⟨h, 0, none⟩ = some (.int .i64 (N : Int)) := cell_of_row _ _ 0 _ _ _ x0
    have X0 := hid x0
    have X1 := hid x1
    have X2 := hid x2
    have BW := hid bw
    clear hS x0 x1 x2 bw bV hV r1 c1
    by_cases hx : x.n = N
    · have q : ((x.n : Int) == (N : Int)) = true := by rw [beq_iff_eq]; omega
      have Hx := hid hx
      clear hx
      gi_wp2
      exact ⟨Out.refl _ V, rfl, X1.out, ⟨x, by simp, Hx.out, X2.out⟩, BW.out⟩
    · have q : ((x.n : Int) == (N : Int)) = false := by rw [beq_eq_false_iff_ne]; omega
      have Hx := hid hx
      clear hx
      gi_wp2
      exact ⟨Out.refl _ V, X0.out, X1.out, ⟨x.n, x.h, x.len, X2.out⟩, BW.out, fun y hy => by
        rcases List.mem_append.1 hy with hy | hy
        · exact HI.out.non y hy
        · simp at hy; rw [hy]; exact Hx.out⟩
  case done =>
    rintro xs W hxs hI hK
    exfalso
    refine hI.non (lk c ok k) ?_ (by rw [HN.out]; rfl)
    rw [hxs]
    exact List.mem_map.2 ⟨k, List.mem_range.2 (by omega), rfl⟩
  case stop =>
    rintro cc pre W ⟨j, hj, hpre⟩ hE hK
    obtain ⟨x, hx1, hx2, hx3⟩ := hE.cur
    have hxk : x = lk c ok j := by
      rw [hpre, lks_succ, List.getLast?_concat] at hx1
      exact (Option.some.inj hx1).symm
    have hjk : j = k := by
      have h1 : x.n = c.bn + j := by rw [hxk]; rfl
      have := HN.out
      omega
    obtain rfl := hE.ex
    have hxx : (lnkC x.n x.h) = lnkC N (c.at k) := by rw [hx2, hxk, hjk]; rfl
    rw [hxx] at hx3
    have hat : (c.at k).length = 32 := Ch.at_length ok k
    have hL := loadL_run (range_whole hx3) hat
    have hS := storeL_row (n := N) hat hE.res (by rfl)
    have r1 := setRow_heap W (h + 1) _ (lnkC N (c.at k)).toArray _ _ hE.res
    have hK2 : (W.setRow (h + 1) (lnkC N (c.at k)).toArray).heap[W0.heap.size]? = some (.deferred (some [])) := (setRow_other _ _ _ _ (by have := Z0.out; omega)).trans hK
    have r2 : ((W.setRow (h + 1) (lnkC N (c.at k)).toArray).putObj W0.heap.size (.deferred none)).heap[h + 1]? = some (.cells (lnkC N (c.at k)).toArray 85 (0, 0)) := (World.putObj_heap_other (by have := Z0.out; omega)).trans r1
    have bE : Below h w ((W.setRow (h + 1) (lnkC N (c.at k)).toArray).putObj W0.heap.size (.deferred none)) := (hE.bel.trans (((Below.refl h W).setRow (by omega) _).trans (below_putObj _ _ _ (by have := Z0.out; omega))))
    have bE := bE.mono (Nat.le_of_eq Hh.out.symm)
    have HK := hid hK2
    have R2 := hid r2
    have BE := hid bE
    have sl : Hid ((Tryd.prog.info? 85).map (·.size) = some (lnkC N (c.at k)).toArray.size) := by show _ = _; rw [lnkC_sz _ _ hat]; exact size_link
    clear hK hK2 r1 r2 bE hE hx3 hxx hx1 hx2 hxk hpre
    gi_wp2
    refine ⟨by simp, .inl ⟨_, _, rfl, run_takeDeferred HK.out, ?_⟩⟩
    exact ⟨_, results_cell_row rfl _ _ (h + 1) 85 (lnkC N (c.at k)).toArray (0, 0) _ rfl R2.out Tryd.underlying85 rfl sl.out, rfl, BE.out⟩
end Go.Proofs.YthfmpebgmojcaaaDoor
