/- Same of package block, by a contract: it tells whether the pages are the same. -/
import Derived.Test.YthdcjepkehifoaaGreatBNil
import Derived.Stop.BytesEq
namespace Go.Proofs.YthdcjepkehifoaaGreat
open Go.RowKit
set_option linter.unusedVariables false
set_option maxRecDepth 20000

/-- comparing two pages, kept whole in the walk -/
def neqPg (x y : Value) : Sem Value := binOp .neq 120 x y
theorem neqPg_fold (x y : Value) : binOp .neq 120 x y = neqPg x y := rfl
theorem sizeOf_u8 (w : World) : (sizeOf 5).run Tryz.prog w = .ok 1 w := by
  have h : Tryz.t5.size = 1 := by kernel_rfl
  simp [sizeOf, h]
theorem neqPg_eq (x y : List UInt8) (hx : x.length = 256) (hy : y.length = 256) (w : World) : (neqPg (.agg (cellsOf x).toArray) (.agg (cellsOf y).toArray)).run Tryz.prog w = .ok (.bool (!(x == y))) w := by
  unfold neqPg
  rw [run_neq_struct]
  have := run_equalIn_bytes (P := Tryz.prog) w 9998 120 5 256 Tryz.underlying120 Tryz.underlying5 sizeOf_u8 x y hx hy
  have e : (Op.equalIn 10000 120 (.agg (cellsOf x).toArray) (.agg (cellsOf y).toArray)).run Tryz.prog w = .ok (x == y) w := this
  rw [e]
  rfl
attribute [local go_sem ↓] loadPg_fold neqPg_fold

/-- a page lies in the pages' row, as cells -/
theorem DiskAt.range {w : World} {B d g cap : Nat} {v : Value} {ps : List (List UInt8)} {ch : List (Nat × List UInt8)} (h : DiskAt w B d g cap v ps ch) (n : Nat) (hn : n < ps.length) : w.rangeAt g (n * 256) (cellsOf ps[n]) := fun j u hj => by
  have hj' : j < (ps[n]).length := by have := (List.getElem?_eq_some_iff.1 hj).1; simpa [cellsOf_length] using this
  obtain ⟨b', o', e', hc⟩ := h.page n hn j hj'
  cases e'
  rw [hc, ← hj, cellsOf_get _ j hj']

set_option maxHeartbeats 800000 in
set_option maxRecDepth 20000 in
theorem equalPages {w : World} {B1 d1 g1 cap1 : Nat} {v1 : Value} {ps1 : List (List UInt8)} {ch1 : List (Nat × List UInt8)} (h1 : DiskAt w B1 d1 g1 cap1 v1 ps1 ch1) {B2 d2 g2 cap2 : Nat} {v2 : Value} {ps2 : List (List UInt8)} {ch2 : List (Nat × List UInt8)} (h2 : DiskAt w B2 d2 g2 cap2 v2 ps2 ch2) (hl : ps1.length = ps2.length) :
    Calls Tryz.prog 94 #[.slice (some ⟨g1, 0, none⟩) ps1.length cap1, .slice (some ⟨g2, 0, none⟩) ps2.length cap2] w fun e w' => e = .returned (.bool (decide (ps1 = ps2))) ∧ ∃ m, w' = w.drewN m := by
  have H1 : Hid (∀ k (hk : k < ps1.length), w.rangeAt g1 (k * 256) (cellsOf ps1[k])) := fun k hk => h1.range k hk
  have H2 : Hid (∀ k (hk : k < ps2.length), w.rangeAt g2 (k * 256) (cellsOf ps2[k])) := fun k hk => h2.range k hk
  have F1 := hid h1.full
  have F2 := hid h2.full
  have hml := h1.plen
  unfold maxLen at hml
  have hm : Tryz.prog.eqGuardType Tryz.prog.depth 120 = false := by kernel_rfl
  clear h1 h2
  have d1 : ((ps1.length : Int) != (ps2.length : Int)) = false := by rw [bne_eq_false_iff_eq]; omega
  go_enter Tryz.func94, Tryz.ntmps94
  go_wp2
  go_loopw [13] (fun i wr => ∃ k n : Nat, k ≤ ps1.length ∧ i = .int .i64 k ∧ ps1.take k = ps2.take k ∧ wr = w.drewN n) (fun i _ => ps1.length - (intOf i).toNat)
  case atStart => exact ⟨0, 0, Nat.zero_le _, rfl, rfl, (World.drewN_zero _).symm⟩
  case round =>
    obtain ⟨k, n, hk, rfl, hpre, rfl⟩ := hrel
    have Hpre := hid hpre
    clear hpre
    by_cases hlt : k < ps1.length
    · have hlt2 : k < ps2.length := by omega
      have e1 := F1.out _ (List.getElem_mem hlt)
      have e2 := F2.out _ (List.getElem_mem hlt2)
      have l1 : ∀ q, (loadPg (.pointer (some ⟨g1, k * 256, none⟩))).run Tryz.prog (w.drewN q) = .ok (.agg (cellsOf ps1[k]).toArray) (w.drewN q) := fun q => loadPg_eq g1 (k * 256) _ (by rw [cellsOf_length, e1]) _ (H1.out k hlt)
      have l2 : ∀ q, (loadPg (.pointer (some ⟨g2, k * 256, none⟩))).run Tryz.prog (w.drewN q) = .ok (.agg (cellsOf ps2[k]).toArray) (w.drewN q) := fun q => loadPg_eq g2 (k * 256) _ (by rw [cellsOf_length, e2]) _ (H2.out k hlt2)
      have l3 : ∀ w', (neqPg (.agg (cellsOf ps1[k]).toArray) (.agg (cellsOf ps2[k]).toArray)).run Tryz.prog w' = .ok (.bool (!(ps1[k] == ps2[k]))) w' := fun w' => neqPg_eq _ _ e1 e2 w'
      have HX : Hid (ps1.take (k + 1) = ps1.take k ++ [ps1[k]]) := List.take_succ_eq_append_getElem hlt
      have HY : Hid (ps2.take (k + 1) = ps2.take k ++ [ps2[k]]) := List.take_succ_eq_append_getElem hlt2
      have HN : Hid (ps1[k] ≠ ps2[k] → ps1 ≠ ps2) := fun h e => h (by subst e; rfl)
      generalize (cellsOf ps1[k]).toArray = c1 at *
      generalize (cellsOf ps2[k]).toArray = c2 at *
      clear e1 e2
      generalize ps1[k] = p1 at *
      generalize ps2[k] = p2 at *
      have f1 : (k : Int) < (ps1.length : Int) := by omega
      have f2 : (k : Int) < (ps2.length : Int) := by omega
      have f0 : (0 : Int) ≤ (k : Int) := by omega
      by_cases hc : p1 = p2
      · have t3 : (!(p1 == p2)) = false := by rw [hc]; simp
        rw [t3] at l3
        have H12 := hid hc
        clear hc t3
        go_wp2
        go_quiet (fail)
        go_wp2
        go_roundw
        case rel => exact ⟨k + 1, _, by omega, by go_num, by rw [HX.out, HY.out, Hpre.out, H12.out], rfl⟩
        case measure => simp [intOf]; omega
      · have t3 : (!(p1 == p2)) = true := by simp [hc]
        rw [t3] at l3
        have Hne := hid (HN.out hc)
        clear hc t3
        go_wp2
        go_quiet (fail)
        go_wp2
        go_ret
        exact ⟨ret_bool (by simp [Hne.out]), _, World.drewN_drewN _ _ _⟩
    · go_wp2
      go_ret
      refine ⟨ret_bool ?_, _, rfl⟩
      have h := Hpre.out
      rw [List.take_of_length_le (by omega), List.take_of_length_le (by omega)] at h
      simp [h]

set_option maxHeartbeats 800000 in
set_option maxRecDepth 20000 in
theorem same_any {w : World} {B1 d1 g1 cap1 : Nat} {v1 : Value} {ps1 : List (List UInt8)} {ch1 : List (Nat × List UInt8)} (h1 : DiskAt w B1 d1 g1 cap1 v1 ps1 ch1) {B2 d2 g2 cap2 : Nat} {v2 : Value} {ps2 : List (List UInt8)} {ch2 : List (Nat × List UInt8)} (h2 : DiskAt w B2 d2 g2 cap2 v2 ps2 ch2) (hl : ps1.length = ps2.length) :
    Calls Tryz.prog 45 #[.pointer (some ⟨d1, 0, none⟩), .pointer (some ⟨d2, 0, none⟩)] w fun e w' => e = .returned (.bool (decide (ps1 = ps2))) ∧ Below w.heap.size w w' := by
  have a0 := h1.c0
  have b0 := h2.c0
  have Hq : Hid (∀ w9 : World, w9.heap = w.heap → Calls Tryz.prog 94 #[.slice (some ⟨g1, 0, none⟩) ps1.length cap1, .slice (some ⟨g2, 0, none⟩) ps2.length cap2] w9 fun e w' => e = .returned (.bool (decide (ps1 = ps2))) ∧ ∃ m, w' = w9.drewN m) :=
    fun w9 h9 => equalPages (w := w9) (h1.keep (w' := w9) (by rw [h9]) (by rw [h9]) fun _ _ => by rw [h9]) (h2.keep (w' := w9) (by rw [h9]) (by rw [h9]) fun _ _ => by rw [h9]) hl
  clear h1 h2 hl
  generalize decide (ps1 = ps2) = r at *
  go_enter Tryz.func45, Tryz.ntmps45
  go_wp2
  go_region_held3 (fun w9 => w9.heap = w.heap ∧ w9.cell? ⟨d1, 0, none⟩ = some (.slice (some ⟨g1, 0, none⟩) ps1.length cap1) ∧ w9.cell? ⟨d2, 0, none⟩ = some (.slice (some ⟨g2, 0, none⟩) ps2.length cap2)) (exact ⟨rfl, a0, b0⟩) (first | ((go_at_call 94; refine (Hq.out _ ?_).mono ?_; rfl; rintro e w9 ⟨rfl, m, rfl⟩)))
  go_wp2
  go_ret
  exact ⟨rfl, below_drewN _ _ _⟩
end Go.Proofs.YthdcjepkehifoaaGreat
