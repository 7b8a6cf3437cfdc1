/- The walk of BlockSwaps. -/
import Derived.Test.YtgiifodhofdpaaaBWAny
namespace Go.Proofs.Ytgiifodhofdpaaa
open Go.RowKit
set_option linter.unusedVariables false

theorem undrew {B : Nat} {w w' : World} (h : Below B w.drew w') : Below B w w' := ⟨h.os, h.tape, h.output, h.size, h.block⟩
/-- two disks that share nothing -/
def Sep (d1 g1 : Nat) (r1 : Option Nat) (d2 g2 : Nat) (r2 : Option Nat) : Prop := (d2 ≠ d1 ∧ d2 ≠ g1 ∧ some d2 ≠ r1) ∧ (g2 ≠ d1 ∧ g2 ≠ g1 ∧ some g2 ≠ r1) ∧ ∀ k, r2 = some k → k ≠ d1 ∧ k ≠ g1 ∧ some k ≠ r1
theorem Sep.symm {d1 g1 d2 g2 : Nat} {r1 r2 : Option Nat} (h : Sep d1 g1 r1 d2 g2 r2) : Sep d2 g2 r2 d1 g1 r1 := by
  obtain ⟨⟨a, b, c⟩, ⟨d, e, f⟩, i⟩ := h
  exact ⟨⟨Ne.symm a, Ne.symm d, fun h => (i _ h.symm).1 rfl⟩, ⟨Ne.symm b, Ne.symm e, fun h => (i _ h.symm).2.1 rfl⟩, fun k hk => ⟨fun h => c (by rw [hk, h]), fun h => f (by rw [hk, h]), fun h => (i k h.symm).2.2 hk.symm⟩⟩
theorem DiskAt.only {w w' : World} {B d g cap : Nat} {v : Value} {ps : List (List UInt8)} {ch : List (Nat × List UInt8)} (h : DiskAt w B d g cap v ps ch) {d1 g1 : Nat} {r1 : Option Nat} (ho : Only d1 g1 r1 w w') (hs : Sep d1 g1 r1 d g v.ownBlock) : DiskAt w' B d g cap v ps ch :=
  h.keep (ho.block d h.lts.1 hs.1.1 hs.1.2.1 hs.1.2.2) (ho.block g h.lts.2.1 hs.2.1.1 hs.2.1.2.1 hs.2.1.2.2) (fun k hk => ho.block k (h.lts.2.2 k hk) (hs.2.2 k hk).1 (hs.2.2 k hk).2.1 (hs.2.2 k hk).2.2)
theorem DiskAt.mono {w : World} {B B' d g cap : Nat} {v : Value} {ps : List (List UInt8)} {ch : List (Nat × List UInt8)} (h : DiskAt w B d g cap v ps ch) (hB : B' ≤ B) : DiskAt w B' d g cap v ps ch :=
  ⟨h.obj, h.pages.mono hB, h.full, h.chs.mono hB, h.chin, by have := h.bd; omega, h.dg, h.vd, h.vg, h.vnil⟩
structure Two (w : World) (B d1 g1 c1 : Nat) (v1 : Value) (ps1 : List (List UInt8)) (ch1 : List (Nat × List UInt8)) (d2 g2 c2 : Nat) (v2 : Value) (ps2 : List (List UInt8)) (ch2 : List (Nat × List UInt8)) : Prop where
  one : DiskAt w B d1 g1 c1 v1 ps1 ch1
  two : DiskAt w B d2 g2 c2 v2 ps2 ch2
  sep : Sep d1 g1 v1.ownBlock d2 g2 v2.ownBlock
theorem Two.symm {w : World} {B d1 g1 c1 : Nat} {v1 : Value} {ps1 : List (List UInt8)} {ch1 : List (Nat × List UInt8)} {d2 g2 c2 : Nat} {v2 : Value} {ps2 : List (List UInt8)} {ch2 : List (Nat × List UInt8)} (h : Two w B d1 g1 c1 v1 ps1 ch1 d2 g2 c2 v2 ps2 ch2) : Two w B d2 g2 c2 v2 ps2 ch2 d1 g1 c1 v1 ps1 ch1 := ⟨h.two, h.one, h.sep.symm⟩
theorem Two.below {w w' : World} {B d1 g1 c1 : Nat} {v1 : Value} {ps1 : List (List UInt8)} {ch1 : List (Nat × List UInt8)} {d2 g2 c2 : Nat} {v2 : Value} {ps2 : List (List UInt8)} {ch2 : List (Nat × List UInt8)} (h : Two w B d1 g1 c1 v1 ps1 ch1 d2 g2 c2 v2 ps2 ch2) (hb : Below w.heap.size w w') : Two w' B d1 g1 c1 v1 ps1 ch1 d2 g2 c2 v2 ps2 ch2 := ⟨h.one.below hb, h.two.below hb, h.sep⟩
theorem Sep.next {d1 g1 d2 g2 : Nat} {r1 r1' r2 : Option Nat} (h : Sep d1 g1 r1 d2 g2 r2) {n : Nat} (hn : d2 < n ∧ g2 < n ∧ ∀ k, r2 = some k → k < n) (hr : r1' = r1 ∨ r1' = some (n + 1)) : Sep d1 g1 r1' d2 g2 r2 := by
  rcases hr with rfl | rfl
  · exact h
  · obtain ⟨⟨a, b, c⟩, ⟨d, e, f⟩, i⟩ := h
    refine ⟨⟨a, b, fun h => ?_⟩, ⟨d, e, fun h => ?_⟩, fun k hk => ⟨(i k hk).1, (i k hk).2.1, fun h => ?_⟩⟩
    · cases h; omega
    · cases h; omega
    · cases h; have := hn.2.2 _ hk; omega

/-- a write to one of two disks -/
theorem two_write {w : World} {B d1 g1 c1 : Nat} {v1 : Value} {ps1 : List (List UInt8)} {ch1 : List (Nat × List UInt8)} {d2 g2 c2 : Nat} {v2 : Value} {ps2 : List (List UInt8)} {ch2 : List (Nat × List UInt8)} (h : Two w B d1 g1 c1 v1 ps1 ch1 d2 g2 c2 v2 ps2 ch2)
    (n : Int) (x : List UInt8) {vx : Value} {B2 : Nat} (hx : w.ownsRow B2 5 1 vx x.length (cellsOf x)) (hap : d1 < B2 ∧ g1 < B2 ∧ ∀ k, v1.ownBlock = some k → k < B2) (hch : ch1.length ≤ 1000000) (hbase : B ≤ w.heap.size) :
    Calls Try.prog 34 #[.pointer (some ⟨d1, 0, none⟩), .int .i64 n, vx] w fun e w' => e = .returned (.int .i64 (wErr ps1.length n x.length : Int)) ∧
      ∃ v', Two w' B d1 g1 c1 v' (wPs ps1 n x) (wCh ps1 ch1 n x) d2 g2 c2 v2 ps2 ch2 ∧ Below B w w' := by
  refine (write_any h.one n x hx hap hch hbase).mono ?_
  rintro e w' ⟨rfl, v', hD, hv, ho⟩
  exact ⟨rfl, v', ⟨hD, h.two.only ho h.sep, h.sep.next h.two.lts hv⟩, ho.below h.one B (Nat.le_refl _) hbase⟩

theorem wErr_len (ps : List (List UInt8)) (n m : Int) (x : List UInt8) (l : Nat) : wErr (wPs ps n x).length m l = wErr ps.length m l := by rw [wPs_length]
theorem swap_ps (ps : List (List UInt8)) (n m : Int) (x y : List UInt8) (h : n ≠ m) : wPs (wPs ps n x) m y = wPs (wPs ps m y) n x := by
  have e1 : wPs (wPs ps n x) m y = if wErr (wPs ps n x).length m y.length = 0 then (wPs ps n x).set m.toNat y else wPs ps n x := rfl
  have e2 : wPs (wPs ps m y) n x = if wErr (wPs ps m y).length n x.length = 0 then (wPs ps m y).set n.toNat x else wPs ps m y := rfl
  rw [e1, e2, wErr_len, wErr_len]
  unfold wPs
  by_cases h1 : wErr ps.length n x.length = 0
  · by_cases h2 : wErr ps.length m y.length = 0
    · rw [if_pos h1, if_pos h2, if_pos h1, if_pos h2]
      apply List.set_comm
      unfold wErr at h1 h2
      split at h1
      · cases h1
      · split at h2
        · cases h2
        · omega
    · rw [if_pos h1, if_neg h2, if_pos h1, if_neg h2]
  · by_cases h2 : wErr ps.length m y.length = 0
    · simp [h1, h2]
    · simp [h1, h2]
theorem swap_ch (ps : List (List UInt8)) (n m : Int) (x y : List UInt8) : (wCh (wPs ps n x) (wCh ps [] n x) m y).length = (wCh (wPs ps m y) (wCh ps [] m y) n x).length := by
  rw [wCh_length, wCh_length, wCh_length, wCh_length, wErr_len, wErr_len]
  omega
/-- a deed as a value -/
def deedV (N L : Int) (b : UInt8) : Value := .agg #[.int .i64 N, .int .i64 L, .int .u8 (b.toNat : Int)]
def deedC (N L : Int) (b : UInt8) : Obj := .cells #[.int .i64 N, .int .i64 L, .int .u8 (b.toNat : Int)] 48 (0, 0)
theorem wCh_le (ps : List (List UInt8)) (ch : List (Nat × List UInt8)) (n : Int) (x : List UInt8) : (wCh ps ch n x).length ≤ ch.length + 1 := by rw [wCh_length]; split <;> omega

set_option maxHeartbeats 1600000 in
set_option maxRecDepth 20000 in
theorem blockSwaps_walk (N1 L1 : Int) (b1 : UInt8) (N2 L2 : Int) (b2 : UInt8) (w : World) :
    Calls Try.prog 10 #[.agg #[.int .i64 N1, .int .i64 L1, .int .u8 (b1.toNat : Int)], .agg #[.int .i64 N2, .int .i64 L2, .int .u8 (b2.toNat : Int)]] w fun e w' => e = .returned (.bool true) ∧ Below w.heap.size w w' := by
  go_enter Try.func10, Try.ntmps10
  go_wp2_with (fail)
  obtain ⟨W, hW⟩ : ∃ W, W = (w.alloc (.cells #[.int .i64 N1, .int .i64 L1, .int .u8 (b1.toNat : Int)] 48)).alloc (.cells #[.int .i64 N2, .int .i64 L2, .int .u8 (b2.toNat : Int)] 48) := ⟨_, rfl⟩
  have HX : Hid (W.heap[w.heap.size]? = some (deedC N1 L1 b1)) := by
    rw [hW]; exact (Below.heap_alloc _ _ _ (by simp)).trans (heap_alloc_new w _)
  have HY : Hid (W.heap[w.heap.size + 1]? = some (deedC N2 L2 b2)) := by
    rw [hW]; have := heap_alloc_new (w.alloc (.cells #[.int .i64 N1, .int .i64 L1, .int .u8 (b1.toNat : Int)] 48)) (.cells #[.int .i64 N2, .int .i64 L2, .int .u8 (b2.toNat : Int)] 48)
    rw [World.size_alloc] at this
    exact this
  have HS : Hid (W.heap.size = w.heap.size + 2) := by rw [hW]; exact hid (by simp)
  have HB0 : Hid (Below w.heap.size w W) := by rw [hW]; exact ((Below.refl _ w).alloc (Nat.le_refl _) _).alloc (by simp) _
  rw [← hW]
  clear hW
  obtain ⟨X, hXe⟩ : ∃ X, X = w.heap.size := ⟨_, rfl⟩
  rw [← hXe] at HX HY HS HB0 ⊢
  have HXe := hid hXe
  clear hXe
  refine (new_ok 5 W (by omega) (by omega)).mono ?_
  rintro e w1 ⟨d1, g1, cap1, rfl, hD1, hB1⟩
  have HD1 := hid hD1
  have HB1 := hid hB1
  clear hD1 hB1
  go_wp2_with (fail)
  refine (new_ok 5 w1 (by omega) (by omega)).mono ?_
  rintro e w2 ⟨d2, g2, cap2, rfl, hD2, hB2⟩
  have hsep : Sep d1 g1 (Value.slice none 0 0).ownBlock d2 g2 (Value.slice none 0 0).ownBlock := by
    have a1 := HD1.out.lts
    have a2 := hD2.bd
    have a3 := (hD2.pages.lt g2 rfl).1
    exact ⟨⟨by omega, by omega, fun h => by cases h⟩, ⟨by omega, by omega, fun h => by cases h⟩, fun k hk => by cases hk⟩
  have HT2 := hid (Two.mk (HD1.out.below hB2) (hD2.mono HB1.out.size) hsep)
  have HB2 := hid (HB1.out.trans (hB2.mono HB1.out.size))
  clear hD2 hB2 hsep HD1 HB1
  go_wp2_with (fail)
  refine (live_any w2).mono ?_
  rintro e w3 ⟨rfl, hB3⟩
  have HT3 := hid (HT2.out.below hB3)
  have HB3 := hid (HB2.out.trans (hB3.mono HB2.out.size))
  clear hB3 HT2 HB2
  go_wp2
  have c0 := cell_of_row _ _ 0 _ _ _ ((HB3.out.block _ (by have := HS.out; omega)).trans HX.out)
  have c1 := cell_of_row _ _ 1 _ _ _ ((HB3.out.block _ (by have := HS.out; omega)).trans HX.out)
  have c2 := cell_of_row _ _ 2 _ _ _ ((HB3.out.block _ (by have := HS.out; omega)).trans HX.out)
  go_region_held3 (fun w9 => w9.cell? ⟨X, 0, none⟩ = some (.int .i64 N1) ∧ w9.cell? ⟨X, 1, none⟩ = some (.int .i64 L1) ∧ w9.cell? ⟨X, 2, none⟩ = some (.int .u8 (b1.toNat : Int))) (first | exact ⟨c0, c1, c2⟩ | exact k.out | exact q.out)
    (first
      | ((go_at_call 30; refine (bytes_any N1 L1 b1 _).mono ?_; rintro e u4 ⟨vx, rfl, hox, hbx0⟩; have hbx := undrew hbx0; have k := hid (And.intro ((hbx.cell (World.block_lt_of_cell? _ _ c0)).trans c0) (And.intro ((hbx.cell (World.block_lt_of_cell? _ _ c1)).trans c1) ((hbx.cell (World.block_lt_of_cell? _ _ c2)).trans c2))); have Hox := hid hox; have HTu := hid ((HT3.out).below hbx); have HBu := hid (HB3.out.trans (hbx.mono HB3.out.size)); clear hox hbx hbx0))
      | ((go_at_call 34; refine (two_write HTu.out N1 (deedOf L1 b1) Hox.out ((HT3.out).one.lts) (by simp) HBu.out.size).mono ?_; rintro e w4 ⟨rfl, v4, hT, hB⟩; have q := hid (And.intro ((hB.cell (by have := HS.out; show X < W.heap.size; omega)).trans k.out.1) (And.intro ((hB.cell (by have := HS.out; show X < W.heap.size; omega)).trans k.out.2.1) ((hB.cell (by have := HS.out; show X < W.heap.size; omega)).trans k.out.2.2))); have HT4 := hid (hT); have HB4 := hid (HBu.out.trans hB); clear hT hB)))
  clear c0 c1 c2 k q HTu HBu Hox HT3 HB3
  go_wp2
  have c0 := cell_of_row _ _ 0 _ _ _ ((HB4.out.block _ (by have := HS.out; omega)).trans HY.out)
  have c1 := cell_of_row _ _ 1 _ _ _ ((HB4.out.block _ (by have := HS.out; omega)).trans HY.out)
  have c2 := cell_of_row _ _ 2 _ _ _ ((HB4.out.block _ (by have := HS.out; omega)).trans HY.out)
  go_region_held3 (fun w9 => w9.cell? ⟨X + 1, 0, none⟩ = some (.int .i64 N2) ∧ w9.cell? ⟨X + 1, 1, none⟩ = some (.int .i64 L2) ∧ w9.cell? ⟨X + 1, 2, none⟩ = some (.int .u8 (b2.toNat : Int))) (first | exact ⟨c0, c1, c2⟩ | exact k.out | exact q.out)
    (first
      | ((go_at_call 30; refine (bytes_any N2 L2 b2 _).mono ?_; rintro e u5 ⟨vx, rfl, hox, hbx0⟩; have hbx := undrew hbx0; have k := hid (And.intro ((hbx.cell (World.block_lt_of_cell? _ _ c0)).trans c0) (And.intro ((hbx.cell (World.block_lt_of_cell? _ _ c1)).trans c1) ((hbx.cell (World.block_lt_of_cell? _ _ c2)).trans c2))); have Hox := hid hox; have HTu := hid ((HT4.out).below hbx); have HBu := hid (HB4.out.trans (hbx.mono HB4.out.size)); clear hox hbx hbx0))
      | ((go_at_call 34; refine (two_write HTu.out N2 (deedOf L2 b2) Hox.out ((HT4.out).one.lts) (Nat.le_trans (wCh_le _ _ _ _) (by simp)) HBu.out.size).mono ?_; rintro e w5 ⟨rfl, v5, hT, hB⟩; have q := hid (And.intro ((hB.cell (by have := HS.out; show X + 1 < W.heap.size; omega)).trans k.out.1) (And.intro ((hB.cell (by have := HS.out; show X + 1 < W.heap.size; omega)).trans k.out.2.1) ((hB.cell (by have := HS.out; show X + 1 < W.heap.size; omega)).trans k.out.2.2))); have HT5 := hid (hT); have HB5 := hid (HBu.out.trans hB); clear hT hB)))
  clear c0 c1 c2 k q HTu HBu Hox HT4 HB4
  go_wp2
  have c0 := cell_of_row _ _ 0 _ _ _ ((HB5.out.block _ (by have := HS.out; omega)).trans HY.out)
  have c1 := cell_of_row _ _ 1 _ _ _ ((HB5.out.block _ (by have := HS.out; omega)).trans HY.out)
  have c2 := cell_of_row _ _ 2 _ _ _ ((HB5.out.block _ (by have := HS.out; omega)).trans HY.out)
  go_region_held3 (fun w9 => w9.cell? ⟨X + 1, 0, none⟩ = some (.int .i64 N2) ∧ w9.cell? ⟨X + 1, 1, none⟩ = some (.int .i64 L2) ∧ w9.cell? ⟨X + 1, 2, none⟩ = some (.int .u8 (b2.toNat : Int))) (first | exact ⟨c0, c1, c2⟩ | exact k.out | exact q.out)
    (first
      | ((go_at_call 30; refine (bytes_any N2 L2 b2 _).mono ?_; rintro e u6 ⟨vx, rfl, hox, hbx0⟩; have hbx := undrew hbx0; have k := hid (And.intro ((hbx.cell (World.block_lt_of_cell? _ _ c0)).trans c0) (And.intro ((hbx.cell (World.block_lt_of_cell? _ _ c1)).trans c1) ((hbx.cell (World.block_lt_of_cell? _ _ c2)).trans c2))); have Hox := hid hox; have HTu := hid ((HT5.out.symm).below hbx); have HBu := hid (HB5.out.trans (hbx.mono HB5.out.size)); clear hox hbx hbx0))
      | ((go_at_call 34; refine (two_write HTu.out N2 (deedOf L2 b2) Hox.out ((HT5.out.symm).one.lts) (by simp) HBu.out.size).mono ?_; rintro e w6 ⟨rfl, v6, hT, hB⟩; have q := hid (And.intro ((hB.cell (by have := HS.out; show X + 1 < W.heap.size; omega)).trans k.out.1) (And.intro ((hB.cell (by have := HS.out; show X + 1 < W.heap.size; omega)).trans k.out.2.1) ((hB.cell (by have := HS.out; show X + 1 < W.heap.size; omega)).trans k.out.2.2))); have HT6 := hid (hT.symm); have HB6 := hid (HBu.out.trans hB); clear hT hB)))
  clear c0 c1 c2 k q HTu HBu Hox HT5 HB5
  go_wp2
  have c0 := cell_of_row _ _ 0 _ _ _ ((HB6.out.block _ (by have := HS.out; omega)).trans HX.out)
  have c1 := cell_of_row _ _ 1 _ _ _ ((HB6.out.block _ (by have := HS.out; omega)).trans HX.out)
  have c2 := cell_of_row _ _ 2 _ _ _ ((HB6.out.block _ (by have := HS.out; omega)).trans HX.out)
  go_region_held3 (fun w9 => w9.cell? ⟨X, 0, none⟩ = some (.int .i64 N1) ∧ w9.cell? ⟨X, 1, none⟩ = some (.int .i64 L1) ∧ w9.cell? ⟨X, 2, none⟩ = some (.int .u8 (b1.toNat : Int))) (first | exact ⟨c0, c1, c2⟩ | exact k.out | exact q.out)
    (first
      | ((go_at_call 30; refine (bytes_any N1 L1 b1 _).mono ?_; rintro e u7 ⟨vx, rfl, hox, hbx0⟩; have hbx := undrew hbx0; have k := hid (And.intro ((hbx.cell (World.block_lt_of_cell? _ _ c0)).trans c0) (And.intro ((hbx.cell (World.block_lt_of_cell? _ _ c1)).trans c1) ((hbx.cell (World.block_lt_of_cell? _ _ c2)).trans c2))); have Hox := hid hox; have HTu := hid ((HT6.out.symm).below hbx); have HBu := hid (HB6.out.trans (hbx.mono HB6.out.size)); clear hox hbx hbx0))
      | ((go_at_call 34; refine (two_write HTu.out N1 (deedOf L1 b1) Hox.out ((HT6.out.symm).one.lts) (Nat.le_trans (wCh_le _ _ _ _) (by simp)) HBu.out.size).mono ?_; rintro e w7 ⟨rfl, v7, hT, hB⟩; have q := hid (And.intro ((hB.cell (by have := HS.out; show X < W.heap.size; omega)).trans k.out.1) (And.intro ((hB.cell (by have := HS.out; show X < W.heap.size; omega)).trans k.out.2.1) ((hB.cell (by have := HS.out; show X < W.heap.size; omega)).trans k.out.2.2))); have HT7 := hid (hT.symm); have HB7 := hid (HBu.out.trans hB); clear hT hB)))
  clear c0 c1 c2 k q HTu HBu Hox HT6 HB6
  have cx := cell_of_row _ _ 0 _ _ _ ((HB7.out.block _ (by have := HS.out; omega)).trans HX.out)
  have cy := cell_of_row _ _ 0 _ _ _ ((HB7.out.block _ (by have := HS.out; omega)).trans HY.out)
  by_cases hN : N1 = N2
  · have e1 : (N1 == N2) = true := by rw [hN]; simp
    clear hN
    go_wp2
    go_ret
    exact ⟨ret_bool (by simp), by rw [← HXe.out]; exact HB0.out.trans (HB7.out.mono (by have := HS.out; omega))⟩
  · have e1 : (N1 == N2) = false := by simp [hN]
    have Hs := hid (same_any HT7.out.one HT7.out.two (by rw [wPs_length, wPs_length, wPs_length, wPs_length]))
    rw [swap_ps (List.replicate 5 zpage) N1 N2 _ _ hN] at Hs
    have Hc := hid (swap_ch (List.replicate 5 zpage) N1 N2 (deedOf L1 b1) (deedOf L2 b2))
    clear hN
    go_wp2_with (fail)
    refine Hs.out.mono ?_
    rintro e w8 ⟨rfl, hB8⟩
    have HT8 := hid (HT7.out.below hB8)
    have HB8 := hid (HB7.out.trans (hB8.mono HB7.out.size))
    clear hB8
    have H1 := hid (count_any HT8.out.one)
    have H2 := hid (count_any HT8.out.two)
    rw [Hc.out] at H1
    simp only [decide_true]
    go_wp2_with (fail)
    refine H1.out.mono ?_
    rintro e w9 ⟨rfl, rfl⟩
    go_wp2_with (fail)
    refine H2.out.mono ?_
    rintro e w9 ⟨rfl, rfl⟩
    go_wp2
    go_ret
    exact ⟨ret_bool (by simp), by rw [← HXe.out]; exact HB0.out.trans (HB8.out.mono (by have := HS.out; omega))⟩
end Go.Proofs.Ytgiifodhofdpaaa
