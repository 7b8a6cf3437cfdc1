/- A log in memory; its small functions, each by a contract. -/
import Derived.Test.YthdcjepkehifoaaGreatWStore
import Derived.Maps.OwnSet
namespace Go.Proofs.YthdcjepkehifoaaGreat
open Go.RowKit Go.Maps
set_option linter.unusedVariables false
set_option maxRecDepth 20000

theorem intKeyed : Keyed Tryz.prog 3 := int_keyed Tryz.underlying3
theorem intZero (w : World) : (zeroValue 3).run Tryz.prog w = .ok (.int .i64 0) w := by kernel_rfl

/-- A map from pages to blocks, in memory. -/
def PlAt (w : World) (mb n : Nat) (pl : Nat → Option Nat) : Prop :=
  ∃ D : DataW Unit, w.ownsMap Tryz.prog 3 (plainElem Tryz.prog 3) mb n D ∧ (∀ x : Int, Maps.has D (.int .i64 x) = (decide (0 ≤ x) && (pl x.toNat).isSome)) ∧ (∀ k q, pl k = some q → D.atKey (.int .i64 (k : Int)) (.lit (.int .i64 0)) = .lit (.int .i64 (q : Int)))
theorem PlAt.keep {w w' : World} {mb n : Nat} {pl : Nat → Option Nat} (h : PlAt w mb n pl) (hk : w'.heap[mb]? = w.heap[mb]?) : PlAt w' mb n pl := by
  obtain ⟨D, ⟨es, clock, hb, r⟩, h1, h2⟩ := h
  exact ⟨D, ⟨es, clock, hk.trans hb, r⟩, h1, h2⟩
theorem PlAt.lt {w : World} {mb n : Nat} {pl : Nat → Option Nat} (h : PlAt w mb n pl) : mb < w.heap.size := by
  obtain ⟨D, hown, _⟩ := h
  exact hown.lt
theorem PlAt.isMap {w : World} {mb n : Nat} {pl : Nat → Option Nat} (h : PlAt w mb n pl) : ∃ es clock, w.heap[mb]? = some (.map es clock) := by
  obtain ⟨D, ⟨es, clock, hb, r⟩, h1, h2⟩ := h
  exact ⟨es, clock, hb⟩

/-- a block that a log leans on -/
def logBlock (l d g mb : Nat) (v : Value) (k : Nat) : Prop := k = l ∨ k = d ∨ k = g ∨ k = mb ∨ v.ownBlock = some k
/-- A log in memory: its own block l, its disk, its map of places. -/
structure LogMem (w : World) (B l d g cap mb n : Nat) (v : Value) (S G U : Nat) (pl : Nat → Option Nat) (ps : List (List UInt8)) (ch : List (Nat × List UInt8)) : Prop where
  obj : w.heap[l]? = some (.cells #[.int .i64 (G : Int), .int .i64 (U : Int), .pointer (some ⟨d, 0, none⟩), .int .i64 (S : Int), .map (some mb)] 101 (0, 0))
  disk : DiskAt w B d g cap v ps ch
  map : PlAt w mb n pl
  bl : B ≤ l
  bm : B ≤ mb
  ld : l ≠ d
  lg : l ≠ g
  lv : v.ownBlock ≠ some l
theorem LogMem.c0 {w : World} {B l d g cap mb n : Nat} {v : Value} {S G U : Nat} {pl : Nat → Option Nat} {ps : List (List UInt8)} {ch : List (Nat × List UInt8)} (h : LogMem w B l d g cap mb n v S G U pl ps ch) : w.cell? ⟨l, 0, none⟩ = some (.int .i64 (G : Int)) := cell_of_row _ _ 0 _ _ _ h.obj
theorem LogMem.c1 {w : World} {B l d g cap mb n : Nat} {v : Value} {S G U : Nat} {pl : Nat → Option Nat} {ps : List (List UInt8)} {ch : List (Nat × List UInt8)} (h : LogMem w B l d g cap mb n v S G U pl ps ch) : w.cell? ⟨l, 1, none⟩ = some (.int .i64 (U : Int)) := cell_of_row _ _ 1 _ _ _ h.obj
theorem LogMem.c2 {w : World} {B l d g cap mb n : Nat} {v : Value} {S G U : Nat} {pl : Nat → Option Nat} {ps : List (List UInt8)} {ch : List (Nat × List UInt8)} (h : LogMem w B l d g cap mb n v S G U pl ps ch) : w.cell? ⟨l, 2, none⟩ = some (.pointer (some ⟨d, 0, none⟩)) := cell_of_row _ _ 2 _ _ _ h.obj
theorem LogMem.c3 {w : World} {B l d g cap mb n : Nat} {v : Value} {S G U : Nat} {pl : Nat → Option Nat} {ps : List (List UInt8)} {ch : List (Nat × List UInt8)} (h : LogMem w B l d g cap mb n v S G U pl ps ch) : w.cell? ⟨l, 3, none⟩ = some (.int .i64 (S : Int)) := cell_of_row _ _ 3 _ _ _ h.obj
theorem LogMem.c4 {w : World} {B l d g cap mb n : Nat} {v : Value} {S G U : Nat} {pl : Nat → Option Nat} {ps : List (List UInt8)} {ch : List (Nat × List UInt8)} (h : LogMem w B l d g cap mb n v S G U pl ps ch) : w.cell? ⟨l, 4, none⟩ = some (.map (some mb)) := cell_of_row _ _ 4 _ _ _ h.obj
theorem LogMem.z {w : World} {B l d g cap mb n : Nat} {v : Value} {S G U : Nat} {pl : Nat → Option Nat} {ps : List (List UInt8)} {ch : List (Nat × List UInt8)} (h : LogMem w B l d g cap mb n v S G U pl ps ch) (j : Nat) : w.frozen? ⟨l, j, none⟩ = false := frozen_of_row _ _ j _ _ h.obj
theorem LogMem.keep {w w' : World} {B l d g cap mb n : Nat} {v : Value} {S G U : Nat} {pl : Nat → Option Nat} {ps : List (List UInt8)} {ch : List (Nat × List UInt8)} (h : LogMem w B l d g cap mb n v S G U pl ps ch) (hk : ∀ k, logBlock l d g mb v k → w'.heap[k]? = w.heap[k]?) : LogMem w' B l d g cap mb n v S G U pl ps ch :=
  ⟨(hk l (.inl rfl)).trans h.obj, h.disk.keep (hk d (.inr (.inl rfl))) (hk g (.inr (.inr (.inl rfl)))) (fun k e => hk k (.inr (.inr (.inr (.inr e))))), h.map.keep (hk mb (.inr (.inr (.inr (.inl rfl))))), h.bl, h.bm, h.ld, h.lg, h.lv⟩
theorem LogMem.lts {w : World} {B l d g cap mb n : Nat} {v : Value} {S G U : Nat} {pl : Nat → Option Nat} {ps : List (List UInt8)} {ch : List (Nat × List UInt8)} (h : LogMem w B l d g cap mb n v S G U pl ps ch) : ∀ k, logBlock l d g mb v k → B ≤ k ∧ k < w.heap.size := by
  rintro k (rfl | rfl | rfl | rfl | e)
  · exact ⟨h.bl, (Array.getElem?_eq_some_iff.1 h.obj).1⟩
  · exact ⟨h.disk.bd, h.disk.lts.1⟩
  · exact ⟨(h.disk.pages.lt _ rfl).1, h.disk.lts.2.1⟩
  · exact ⟨h.bm, h.map.lt⟩
  · exact h.disk.chs.lt k e
theorem LogMem.below {w w' : World} {B l d g cap mb n : Nat} {v : Value} {S G U : Nat} {pl : Nat → Option Nat} {ps : List (List UInt8)} {ch : List (Nat × List UInt8)} (h : LogMem w B l d g cap mb n v S G U pl ps ch) (hb : Below w.heap.size w w') : LogMem w' B l d g cap mb n v S G U pl ps ch :=
  h.keep fun k hk => hb.block k (h.lts k hk).2
/-- the map lies apart from all else -/
theorem LogMem.mne {w : World} {B l d g cap mb n : Nat} {v : Value} {S G U : Nat} {pl : Nat → Option Nat} {ps : List (List UInt8)} {ch : List (Nat × List UInt8)} (h : LogMem w B l d g cap mb n v S G U pl ps ch) : mb ≠ l ∧ mb ≠ d ∧ mb ≠ g ∧ v.ownBlock ≠ some mb := by
  obtain ⟨es, clock, hm⟩ := h.map.isMap
  refine ⟨?_, ?_, ?_, ?_⟩
  · rintro rfl; rw [h.obj] at hm; cases hm
  · rintro rfl; rw [h.disk.obj] at hm; cases hm
  · rintro rfl
    rcases h.disk.pages.2 with ⟨e, _⟩ | ⟨g', cap', cur, e, _, hh, _⟩
    · cases e
    · cases e; rw [hh] at hm; cases hm
  · intro e
    rcases h.disk.chs.2 with ⟨e', _⟩ | ⟨g', cap', cur, e', _, hh, _⟩
    · rw [e'] at e; cases e
    · rw [e'] at e
      cases e
      rw [hh] at hm; cases hm
theorem LogMem.mono {w : World} {B B' l d g cap mb n : Nat} {v : Value} {S G U : Nat} {pl : Nat → Option Nat} {ps : List (List UInt8)} {ch : List (Nat × List UInt8)} (h : LogMem w B l d g cap mb n v S G U pl ps ch) (hB : B' ≤ B) : LogMem w B' l d g cap mb n v S G U pl ps ch :=
  ⟨h.obj, h.disk.mono hB, h.map, Nat.le_trans hB h.bl, Nat.le_trans hB h.bm, h.ld, h.lg, h.lv⟩

set_option maxHeartbeats 400000 in
theorem next_any {w : World} {B l d g cap mb n : Nat} {v : Value} {S G U : Nat} {pl : Nat → Option Nat} {ps : List (List UInt8)} {ch : List (Nat × List UInt8)} (h : LogMem w B l d g cap mb n v S G U pl ps ch) (hU : U ≤ 65536) :
    Calls Tryz.prog 139 #[.pointer (some ⟨l, 0, none⟩)] w fun e w' => e = .returned (.int .i64 ((1 + U : Nat) : Int)) ∧ w' = w := by
  have c1 := h.c1
  clear h
  go_enter Tryz.func139, Tryz.ntmps139
  go_wp2
  go_ret
  exact ⟨ret_int (by omega), rfl⟩

set_option maxHeartbeats 400000 in
theorem used_any {w : World} {B l d g cap mb n : Nat} {v : Value} {S G U : Nat} {pl : Nat → Option Nat} {ps : List (List UInt8)} {ch : List (Nat × List UInt8)} (h : LogMem w B l d g cap mb n v S G U pl ps ch) :
    Calls Tryz.prog 19 #[.pointer (some ⟨l, 0, none⟩)] w fun e w' => e = .returned (.int .i64 (U : Int)) ∧ w' = w := by
  have c1 := h.c1
  clear h
  go_enter Tryz.func19, Tryz.ntmps19
  go_wp2
  go_ret
  exact ⟨rfl, rfl⟩
set_option maxHeartbeats 400000 in
theorem used_nil (w : World) : Calls Tryz.prog 19 #[.pointer none] w fun e w' => e = .returned (.int .i64 0) ∧ w' = w := by
  go_enter Tryz.func19, Tryz.ntmps19
  go_wp2
  go_ret
  exact ⟨rfl, rfl⟩

set_option maxHeartbeats 400000 in
theorem groups_any {w : World} {B l d g cap mb n : Nat} {v : Value} {S G U : Nat} {pl : Nat → Option Nat} {ps : List (List UInt8)} {ch : List (Nat × List UInt8)} (h : LogMem w B l d g cap mb n v S G U pl ps ch) (hG : G < 9223372036854775808) :
    Calls Tryz.prog 23 #[.pointer (some ⟨l, 0, none⟩)] w fun e w' => e = .returned (.int .i64 (G : Int)) ∧ w' = w := by
  have c0 := h.c0
  have f1 : IntKind.i64.wrap (G : Int) = (G : Int) := by rw [IntKind.wrap_i64]; omega
  clear h
  go_enter Tryz.func23, Tryz.ntmps23
  go_wp2
  go_ret
  exact ⟨rfl, rfl⟩
set_option maxHeartbeats 400000 in
theorem groups_nil (w : World) : Calls Tryz.prog 23 #[.pointer none] w fun e w' => e = .returned (.int .i64 0) ∧ w' = w := by
  go_enter Tryz.func23, Tryz.ntmps23
  go_wp2
  go_ret
  exact ⟨rfl, rfl⟩

set_option maxHeartbeats 400000 in
theorem free_any {w : World} {B l d g cap mb n : Nat} {v : Value} {S G U : Nat} {pl : Nat → Option Nat} {ps : List (List UInt8)} {ch : List (Nat × List UInt8)} (h : LogMem w B l d g cap mb n v S G U pl ps ch) (hU : U ≤ S) (hS : S ≤ 65536) :
    Calls Tryz.prog 21 #[.pointer (some ⟨l, 0, none⟩)] w fun e w' => e = .returned (.int .i64 ((S : Int) - (U : Int))) ∧ ∃ m, w' = w.drewN m := by
  have c1 := h.c1
  have c3 := h.c3
  have f1 : IntKind.i64.wrap ((S : Int) - (U : Int)) = (S : Int) - (U : Int) := by rw [IntKind.wrap_i64]; omega
  clear h
  go_enter Tryz.func21, Tryz.ntmps21
  go_wp2
  go_quiet (fail)
  go_wp2
  go_ret
  exact ⟨rfl, _, rfl⟩
set_option maxHeartbeats 400000 in
theorem free_nil (w : World) : Calls Tryz.prog 21 #[.pointer none] w fun e w' => e = .returned (.int .i64 0) ∧ w' = w := by
  go_enter Tryz.func21, Tryz.ntmps21
  go_wp2
  go_ret
  exact ⟨rfl, rfl⟩

set_option maxHeartbeats 400000 in
theorem logPages_any {w : World} {B l d g cap mb n : Nat} {v : Value} {S G U : Nat} {pl : Nat → Option Nat} {ps : List (List UInt8)} {ch : List (Nat × List UInt8)} (h : LogMem w B l d g cap mb n v S G U pl ps ch) (P : Nat) (hl : ps.length = S + 1 + P) (hm : ps.length ≤ 1024) :
    Calls Tryz.prog 17 #[.pointer (some ⟨l, 0, none⟩)] w fun e w' => e = .returned (.int .i64 (P : Int)) ∧ Below w.heap.size w w' := by
  have c2 := h.c2
  have c3 := h.c3
  have Hp := hid (pages_any h.disk S (by omega) (by omega) hm)
  rw [show (ps.length : Int) - (S : Int) - 1 = (P : Int) by omega] at Hp
  clear h
  go_enter Tryz.func17, Tryz.ntmps17
  go_wp2_with (go_at_call 76; refine Hp.out.mono ?_; rintro e w1 ⟨rfl, hb1⟩)
  go_ret
  exact ⟨rfl, hb1⟩
set_option maxHeartbeats 400000 in
theorem logPages_nil (w : World) : Calls Tryz.prog 17 #[.pointer none] w fun e w' => e = .returned (.int .i64 0) ∧ w' = w := by
  go_enter Tryz.func17, Tryz.ntmps17
  go_wp2
  go_ret
  exact ⟨rfl, rfl⟩
end Go.Proofs.YthdcjepkehifoaaGreat
