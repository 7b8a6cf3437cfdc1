/- Open of package wal, where the disk is a log's or the size is none, by contracts. -/
import Derived.Test.YthdcjepkehifoaaGreatWLoad
namespace Go.Proofs.YthdcjepkehifoaaGreat
open Go.RowKit Go.Maps
set_option linter.unusedVariables false
set_option maxRecDepth 20000

set_option maxHeartbeats 400000 in
theorem open_nil (S : Int) (w : World) : Calls Tryz.prog 41 #[.pointer none, .int .i64 S] w fun e w' => e = .returned (.tuple #[.pointer none, .int .i64 1]) ∧ w' = w := by
  go_enter Tryz.func41, Tryz.ntmps41
  go_wp2
  go_ret2
  exact ⟨rfl, rfl⟩

set_option maxHeartbeats 800000 in
theorem open_range {w : World} {B d g cap : Nat} {v : Value} {ps : List (List UInt8)} {ch : List (Nat × List UInt8)} (h : DiskAt w B d g cap v ps ch) (hm : ps.length ≤ 1024) (S : Int) (h64 : S ≤ 9223372036854775807) (hS : S < 2 ∨ (ps.length : Int) - S - 1 < 1) :
    Calls Tryz.prog 41 #[.pointer (some ⟨d, 0, none⟩), .int .i64 S] w fun e w' => e = .returned (.tuple #[.pointer none, .int .i64 2]) ∧ Below w.heap.size w w' := by
  by_cases h2 : S < 2
  · go_enter Tryz.func41, Tryz.ntmps41
    go_wp2
    go_ret2
    exact ⟨rfl, Below.refl _ _⟩
  · have Hp := hid (pages_any h S (by omega) h64 hm)
    have d1 : (ps.length : Int) - S - 1 < 1 := by omega
    clear h
    go_enter Tryz.func41, Tryz.ntmps41
    go_wp2_with (go_at_call 76; refine Hp.out.mono ?_; rintro e w1 ⟨rfl, hb1⟩)
    go_ret2
    exact ⟨rfl, hb1⟩

theorem made_pl (w : World) : PlAt (w.alloc (.map #[] 0)) w.heap.size 0 (fun _ => none) :=
  ⟨_, World.ownsMap_made _ _ _ _, fun x => by simp [Maps.has], fun k q h => by cases h⟩

set_option maxHeartbeats 800000 in
theorem open_ok {w : World} {B d0 g0 cap0 : Nat} {v0 : Value} {ps : List (List UInt8)} {ch : List (Nat × List UInt8)} (h : DiskAt w B d0 g0 cap0 v0 ps ch) (S G P : Nat) (gs : List (List Nat)) (hi : LogInv ps S G gs P) (hG : G < 9223372036854775808) (hch : ch.length ≤ 1000000) :
    Calls Tryz.prog 41 #[.pointer (some ⟨d0, 0, none⟩), .int .i64 (S : Int)] w fun e w' => ∃ l d g cap mb n, e = .returned (.tuple #[.pointer (some ⟨l, 0, none⟩), .int .i64 0]) ∧ n ≤ usedOf gs ∧ LogMem w' w.heap.size l d g cap mb n (.slice none 0 0) S G (usedOf gs) (plOf gs) ps [] ∧ Below w.heap.size w w' := by
  have hlen := hi.len
  have hmost := hi.most
  have htwo := hi.two
  have hone := hi.one
  have H := hid h
  have Hi := hid hi
  have Hp := hid (pages_any h S (by omega) (by omega) hmost)
  rw [show (ps.length : Int) - (S : Int) - 1 = (P : Int) by omega] at Hp
  have d1 : ¬ (S : Int) < 2 := by omega
  have d2 : ¬ (P : Int) < 1 := by omega
  have hmm := @run_makeMap Tryz.prog
  have h1p : 1 ≤ ps.length := by omega
  have Hlen := hid hlen
  clear h hi hlen
  go_enter Tryz.func41, Tryz.ntmps41
  go_wp2_with (fail)
  refine Hp.out.mono ?_
  rintro e w1 ⟨rfl, hb1⟩
  have H1 := hid (H.out.below hb1)
  have Hb1 := hid hb1
  clear hb1 Hp
  go_wp2_with (fail)
  refine (count_any H1.out).mono ?_
  rintro e w2 ⟨rfl, rfl⟩
  have Hcut := hid (cut_ok H1.out ch.length (Nat.le_refl _) hch h1p hmost)
  rw [undo_all] at Hcut
  go_wp2_with (fail)
  refine Hcut.out.mono ?_
  rintro e w3 ⟨d, g, cap, rfl, hD3, hb3⟩
  have HD3 := hid hD3
  have Hb3 := hid (Hb1.out.trans (hb3.mono Hb1.out.size))
  clear hD3 hb3 Hcut
  go_wp2_with (fail)
  have hs3 : w.heap.size ≤ w3.heap.size := Hb3.out.size
  have hM : LogMem ((w3.alloc (.map #[] 0)).alloc (.cells #[.int .i64 0, .int .i64 0, .pointer (some ⟨d, 0, none⟩), .int .i64 (S : Int), .map (some w3.heap.size)] 101)) w.heap.size (w3.heap.size + 1) d g cap w3.heap.size 0 (.slice none 0 0) S 0 0 (fun _ => none) ps [] := by
    have hbb : Below w3.heap.size w3 ((w3.alloc (.map #[] 0)).alloc (.cells #[.int .i64 0, .int .i64 0, .pointer (some ⟨d, 0, none⟩), .int .i64 (S : Int), .map (some w3.heap.size)] 101)) := ((Below.refl _ w3).alloc (Nat.le_refl _) _).alloc (by rw [World.size_alloc]; omega) _
    have hn := heap_alloc_new (w3.alloc (.map #[] 0)) (.cells #[.int .i64 0, .int .i64 0, .pointer (some ⟨d, 0, none⟩), .int .i64 (S : Int), .map (some w3.heap.size)] 101)
    rw [World.size_alloc] at hn
    have hl := HD3.out.lts
    exact ⟨hn, (HD3.out.below hbb).mono Hb1.out.size, (made_pl w3).keep (Below.heap_alloc _ _ _ (by rw [World.size_alloc]; omega)), by omega, by omega, by omega, by omega, (fun h => by cases h)⟩
  have Hld := hid (load_ok' hM Hi.out hG)
  have Hb4 := hid ((Hb3.out.alloc hs3 (.map #[] 0)).alloc (by rw [World.size_alloc]; omega) (.cells #[.int .i64 0, .int .i64 0, .pointer (some ⟨d, 0, none⟩), .int .i64 (S : Int), .map (some w3.heap.size)] 101))
  have HM := hid hM
  clear hM
  refine Hld.out.mono ?_
  rintro e w5 ⟨rfl, n, hn, hM5, ho5⟩
  have HM5 := hid hM5
  have Ho5 := hid ho5
  clear hM5 ho5 Hld
  go_wp2
  go_ret2
  refine ⟨_, _, _, _, _, n, rfl, hn, HM5.out, Hb4.out.trans (Ho5.out.below (Nat.le_trans Hb4.out.size (Nat.le_refl _)) ?_)⟩
  rintro k (rfl | rfl) <;> omega

theorem inv_new (n S P : Nat) (h : n = S + 1 + P) (hS : 2 ≤ S) (hP : 1 ≤ P) (hn : n ≤ 1024) : LogInv (List.replicate n zpage) S 0 [] P := by
  refine ⟨by rw [List.length_replicate]; exact h, hS, hP, by rw [List.length_replicate]; exact hn, fun p hp => ?_, ⟨zpage, ?_, .inl ⟨rfl, rfl, rfl⟩⟩, Nat.zero_le _, .nil⟩
  · rw [(List.mem_replicate.1 hp).2, zpage_length]
  · rw [List.getElem?_replicate, if_pos (by omega)]
end Go.Proofs.YthdcjepkehifoaaGreat
