/- Read of package block, by a contract: a copy of the page. -/
import Derived.Test.YthdcjepkehifoaaGreatBDisk
import Derived.Lib.SliceRun
namespace Go.Proofs.YthdcjepkehifoaaGreat
open Go.RowKit
set_option linter.unusedVariables false
set_option maxRecDepth 20000

theorem flat_get {α : Type} (ps : List (List α)) (hf : ∀ p ∈ ps, p.length = 256) (n : Nat) (hn : n < ps.length) (i : Nat) (hi : i < 256) : ps.flatten[n * 256 + i]? = (ps[n])[i]? := by
  induction ps generalizing n with
  | nil => simp at hn
  | cons p ps ih =>
    have hp := hf p (by simp)
    rw [List.flatten_cons]
    cases n with
    | zero => rw [List.getElem?_append_left (by omega)]; simp
    | succ n =>
      rw [List.getElem?_append_right (by omega), hp]
      have := ih (fun q hq => hf q (by simp [hq])) n (by simpa using hn)
      rw [show (n + 1) * 256 + i - 256 = n * 256 + i by omega, this]
      rfl
theorem pcells_get (ps : List (List UInt8)) (hf : ∀ p ∈ ps, p.length = 256) (n : Nat) (hn : n < ps.length) (i : Nat) (hi : i < (ps[n]).length) : (pcells ps)[n * 256 + i]? = some (.int .u8 ((ps[n])[i].toNat : Int)) := by
  have h256 : (ps[n]).length = 256 := hf _ (List.getElem_mem _)
  unfold pcells cellsOf
  rw [List.getElem?_map, flat_get ps hf n hn i (by omega), List.getElem?_eq_getElem hi]
  rfl
theorem pcells_length (ps : List (List UInt8)) (hf : ∀ p ∈ ps, p.length = 256) : (pcells ps).length = ps.length * 256 := by
  unfold pcells
  rw [cellsOf_length]
  induction ps with
  | nil => rfl
  | cons p ps ih =>
    have := hf p (by simp)
    have ih' := ih (fun q hq => hf q (by simp [hq]))
    simp only [List.flatten_cons, List.length_append, List.length_cons]
    omega

/-- a page's bytes lie in the pages' row -/
theorem DiskAt.page {w : World} {B d g cap : Nat} {v : Value} {ps : List (List UInt8)} {ch : List (Nat × List UInt8)} (h : DiskAt w B d g cap v ps ch) (n : Nat) (hn : n < ps.length) : Bytes w (some ⟨g, n * 256, none⟩) (ps[n]) := fun i hi => by
  have h256 : (ps[n]).length = 256 := h.full _ (List.getElem_mem _)
  refine ⟨g, n * 256, rfl, ?_⟩
  rw [h.pages.cellAt (n * 256 + i) (by omega), pcells_get ps h.full n hn i hi]

set_option maxHeartbeats 800000 in
set_option maxRecDepth 20000 in
theorem clone_any (x : List UInt8) (b o cap : Nat) (w : World) (hB : Bytes w (some ⟨b, o, none⟩) x) (hlen : x.length ≤ 140737488351232) :
    Calls Tryz.prog 85 #[.slice (some ⟨b, o, none⟩) x.length cap] w fun e w' => ∃ v, e = .returned v ∧ w'.ownsRow w.heap.size 5 1 v x.length (cellsOf x) ∧ Below w.heap.size w w' ∧ v ≠ .slice none 0 0 := by
  obtain ⟨i0, hi, hz0, hz1, hz2⟩ := info_parts Tryz.info5
  have q22 : ∀ (w : World) (a : Option Addr) (n c n' c' : Nat), (binOp .eql 36 (.slice a n c) (.slice none n' c')).run Tryz.prog w = .ok (.bool a.isNone) w := fun w a n c n' c' => Lib.run_eql_slice_nil w _ _ a n c n' c' Tryz.underlying36
  have HB := hid hB
  clear hB
  go_enter Tryz.func85, Tryz.ntmps85
  go_wp2_with (at_builtin; refine wpList_append_own _ rfl _ _ 36 rfl w.heap.size 5 i0 (.int .u8 0) 1 1 Tryz.underlying36 hi hz0 hz1 hz2 rfl (by decide) _ _ _ rfl (World.ownsRow_made w #[] 0 (Nat.le_refl _) (Nat.zero_le _) rfl) ⟨b, o, none⟩ x.length cap (cellsOf x) rfl ?qc1 ?qc2 ?qc3 ?qc4 ?qc5 ?qc6 ?_)
  case qc1 => simp [cellsOf_length]
  case qc2 =>
    intro j u hj
    have hjn : j < x.length := by
      have := (List.getElem?_eq_some_iff.1 hj).1
      simpa [cellsOf_length] using this
    obtain ⟨b', o', e', hc⟩ := HB.out j hjn
    cases e'
    rw [addr_add, ← hj, cellsOf_get x j hjn]
    exact (World.cell?_alloc_some _ _ _ (by rw [hc]; rfl)).trans hc
  case qc3 => exact cellsOf_one x
  case qc4 => unfold maxLen; omega
  case qc5 => omega
  case qc6 => simp
  intro v' w1 hown hgrow hnil
  go_wp2
  go_ret
  refine ⟨v', rfl, by simpa using hown, ((Below.refl _ w).alloc (Nat.le_refl _) _).grown hgrow (by simp) (by intro k hk; simp [Value.ownBlock] at hk; omega), hnil⟩

set_option maxHeartbeats 800000 in
set_option maxRecDepth 20000 in
theorem read_bad {w : World} {B d g cap : Nat} {v : Value} {ps : List (List UInt8)} {ch : List (Nat × List UInt8)} (h : DiskAt w B d g cap v ps ch) (n : Int) (hn : n < 0 ∨ (ps.length : Int) ≤ n) :
    Calls Tryz.prog 163 #[.pointer (some ⟨d, 0, none⟩), .int .i64 n] w fun e w' => e = .returned (.tuple #[.slice none 0 0, .int .i64 2]) ∧ w' = w := by
  have hr := reach_any h n
  have e : reachErr n ps.length = 2 := by unfold reachErr; rw [if_pos hn]
  rw [e] at hr
  have Hr := hid hr
  clear h hr hn e
  go_enter Tryz.func163, Tryz.ntmps163
  go_wp2_with (go_at_call 147; refine Hr.out.mono ?_; rintro e w' ⟨rfl, rfl⟩)
  go_ret2
  exact ⟨rfl, rfl⟩

set_option maxHeartbeats 800000 in
set_option maxRecDepth 20000 in
theorem read_nil (n : Int) (w : World) :
    Calls Tryz.prog 163 #[.pointer none, .int .i64 n] w fun e w' => e = .returned (.tuple #[.slice none 0 0, .int .i64 1]) ∧ w' = w := by
  go_enter Tryz.func163, Tryz.ntmps163
  go_wp2_with (go_at_call 147; refine (reach_nil _ _).mono ?_; rintro e w' ⟨rfl, rfl⟩)
  go_ret2
  exact ⟨rfl, rfl⟩

set_option maxHeartbeats 800000 in
set_option maxRecDepth 20000 in
theorem read_ok {w : World} {B d g cap : Nat} {v : Value} {ps : List (List UInt8)} {ch : List (Nat × List UInt8)} (h : DiskAt w B d g cap v ps ch) (n : Nat) (hn : n < ps.length) :
    Calls Tryz.prog 163 #[.pointer (some ⟨d, 0, none⟩), .int .i64 (n : Int)] w fun e w' => ∃ v', e = .returned (.tuple #[v', .int .i64 0]) ∧ w'.ownsRow w.heap.size 5 1 v' (ps[n]).length (cellsOf ps[n]) ∧ Below w.heap.size w w' ∧ v' ≠ .slice none 0 0 := by
  have hr := reach_any h n
  have e : reachErr n ps.length = 0 := by unfold reachErr; rw [if_neg (by omega)]
  rw [e] at hr
  have Hr := hid hr
  have c0 := h.c0
  have hp := h.page n hn
  have h256 : (ps[n]).length = 256 := h.full _ (List.getElem_mem _)
  have hml := h.plen
  have Hc := hid (clone_any (ps[n]) g (n * 256) 256 w hp (by omega))
  rw [h256] at Hc
  generalize ps[n] = p at *
  unfold maxLen at hml
  have H256 := hid h256
  clear h hr e hp h256
  have f1 : (n : Int) < (ps.length : Int) := by omega
  have f0 : (0 : Int) ≤ (n : Int) := by omega
  go_enter Tryz.func163, Tryz.ntmps163
  go_wp2_with (first | (go_at_call 147; refine Hr.out.mono ?_; rintro e w' ⟨rfl, rfl⟩) | (go_at_call 85; refine Hc.out.mono ?_; rintro e w' ⟨v', rfl, ho, hb, hne⟩))
  go_ret2
  exact ⟨_, rfl, by rw [H256.out]; exact ho, hb, hne⟩
end Go.Proofs.YthdcjepkehifoaaGreat
