/- The walk of BlockSwaps. -/
import Derived.Test.YthdcjepkehifoaaGreatBWAny
namespace Go.Proofs.YthdcjepkehifoaaGreat
open Go.RowKit
set_option linter.unusedVariables false
set_option maxRecDepth 20000

theorem undrew {B : Nat} {w w' : World} (h : Below B w.drew w') : Below B w w' := ⟨h.os, h.tape, h.output, h.size, h.block⟩
/-- two disks that share nothing -/
def Sep (d1 g1 : Nat) (r1 : Option Nat) (d2 g2 : Nat) (r2 : Option Nat) : Prop := (d2 ≠ d1 ∧ d2 ≠ g1 ∧ some d2 ≠ r1) ∧ (g2 ≠ d1 ∧ g2 ≠ g1 ∧ some g2 ≠ r1) ∧ ∀ k, r2 = some k → k ≠ d1 ∧ k ≠ g1 ∧ some k ≠ r1
theorem Sep.symm {d1 g1 d2 g2 : Nat} {r1 r2 : Option Nat} (h : Sep d1 g1 r1 d2 g2 r2) : Sep d2 g2 r2 d1 g1 r1 := by
  obtain ⟨⟨a, b, c⟩, ⟨d, e, f⟩, i⟩ := h
  exact ⟨⟨Ne.symm a, Ne.symm d, fun h => (i _ h.symm).1 rfl⟩, ⟨Ne.symm b, Ne.symm e, fun h => (i _ h.symm).2.1 rfl⟩, fun k hk => ⟨fun h => c (by rw [hk, h]), fun h => f (by rw [hk, h]), fun h => (i k h.symm).2.2 hk.symm⟩⟩
theorem DiskAt.only {w w' : World} {B d g cap : Nat} {v : Value} {ps : List (List UInt8)} {ch : List (Nat × List UInt8)} (h : DiskAt w B d g cap v ps ch) {d1 g1 : Nat} {r1 : Option Nat} (ho : Only d1 g1 r1 w w') (hs : Sep d1 g1 r1 d g v.ownBlock) : DiskAt w' B d g cap v ps ch :=
  h.keep (ho.block d h.lts.1 hs.1.1 hs.1.2.1 hs.1.2.2) (ho.block g h.lts.2.1 hs.2.1.1 hs.2.1.2.1 hs.2.1.2.2) (fun k hk => ho.block k (h.lts.2.2 k hk) (hs.2.2 k hk).1 (hs.2.2 k hk).2.1 (hs.2.2 k hk).2.2)
theorem DiskAt.mono {w : World} {B B' d g cap : Nat} {v : Value} {ps : List (List UInt8)} {ch : List (Nat × List UInt8)} (h : DiskAt w B d g cap v ps ch) (hB : B' ≤ B) : DiskAt w B' d g cap v ps ch :=
  ⟨h.obj, h.pages.mono hB, h.full, h.chs.mono hB, h.chin, by have := h.bd; omega, h.dg, h.vd, h.vg, h.vnil⟩
structure Two (w : World) (B d1 g1 c1 : Nat) (v1 : Value) (ps1 : List (List UInt8)) (ch1 : List (Nat × List UInt8)) (d2 g2 c2 : Nat) (v2 : Value) (ps2 : List (List UInt8)) (ch2 : List (Nat × List UInt8)) : Prop where
  one : DiskAt w B d1 g1 c1 v1 ps1 ch1
  two : DiskAt w B d2 g2 c2 v2 ps2 ch2
  sep : Sep d1 g1 v1.ownBlock d2 g2 v2.ownBlock
theorem Two.symm {w : World} {B d1 g1 c1 : Nat} {v1 : Value} {ps1 : List (List UInt8)} {ch1 : List (Nat × List UInt8)} {d2 g2 c2 : Nat} {v2 : Value} {ps2 : List (List UInt8)} {ch2 : List (Nat × List UInt8)} (h : Two w B d1 g1 c1 v1 ps1 ch1 d2 g2 c2 v2 ps2 ch2) : Two w B d2 g2 c2 v2 ps2 ch2 d1 g1 c1 v1 ps1 ch1 := ⟨h.two, h.one, h.sep.symm⟩
theorem Two.below {w w' : World} {B d1 g1 c1 : Nat} {v1 : Value} {ps1 : List (List UInt8)} {ch1 : List (Nat × List UInt8)} {d2 g2 c2 : Nat} {v2 : Value} {ps2 : List (List UInt8)} {ch2 : List (Nat × List UInt8)} (h : Two w B d1 g1 c1 v1 ps1 ch1 d2 g2 c2 v2 ps2 ch2) (hb : Below w.heap.size w w') : Two w' B d1 g1 c1 v1 ps1 ch1 d2 g2 c2 v2 ps2 ch2 := ⟨h.one.below hb, h.two.below hb, h.sep⟩
theorem Sep.next {d1 g1 d2 g2 : Nat} {r1 r1' r2 : Option Nat} (h : Sep d1 g1 r1 d2 g2 r2) {n : Nat} (hn : d2 < n ∧ g2 < n ∧ ∀ k, r2 = some k → k < n) (hr : r1' = r1 ∨ r1' = some (n + 1)) : Sep d1 g1 r1' d2 g2 r2 := by
  rcases hr with rfl | rfl
  · exact h
  · obtain ⟨⟨a, b, c⟩, ⟨d, e, f⟩, i⟩ := h
    refine ⟨⟨a, b, fun h => ?_⟩, ⟨d, e, fun h => ?_⟩, fun k hk => ⟨(i k hk).1, (i k hk).2.1, fun h => ?_⟩⟩
    · cases h; omega
    · cases h; omega
    · cases h; have := hn.2.2 _ hk; omega

/-- a write to one of two disks -/
theorem two_write {w : World} {B d1 g1 c1 : Nat} {v1 : Value} {ps1 : List (List UInt8)} {ch1 : List (Nat × List UInt8)} {d2 g2 c2 : Nat} {v2 : Value} {ps2 : List (List UInt8)} {ch2 : List (Nat × List UInt8)} (h : Two w B d1 g1 c1 v1 ps1 ch1 d2 g2 c2 v2 ps2 ch2)
    (n : Int) (x : List UInt8) {vx : Value} {B2 : Nat} (hx : w.ownsRow B2 5 1 vx x.length (cellsOf x)) (hap : d1 < B2 ∧ g1 < B2 ∧ ∀ k, v1.ownBlock = some k → k < B2) (hch : ch1.length ≤ 1000000) (hbase : B ≤ w.heap.size) :
    Calls Tryz.prog 103 #[.pointer (some ⟨d1, 0, none⟩), .int .i64 n, vx] w fun e w' => e = .returned (.int .i64 (wErr ps1.length n x.length : Int)) ∧
      ∃ v', Two w' B d1 g1 c1 v' (wPs ps1 n x) (wCh ps1 ch1 n x) d2 g2 c2 v2 ps2 ch2 ∧ Below B w w' := by
  refine (write_any h.one n x hx hap hch hbase).mono ?_
  rintro e w' ⟨rfl, v', hD, hv, ho⟩
  exact ⟨rfl, v', ⟨hD, h.two.only ho h.sep, h.sep.next h.two.lts hv⟩, ho.below h.one B (Nat.le_refl _) hbase⟩

theorem wErr_len (ps : List (List UInt8)) (n m : Int) (x : List UInt8) (l : Nat) : wErr (wPs ps n x).length m l = wErr ps.length m l := by rw [wPs_length]
theorem swap_ps (ps : List (List UInt8)) (n m : Int) (x y : List UInt8) (h : n ≠ m) : wPs (wPs ps n x) m y = wPs (wPs ps m y) n x := by
  have e1 : wPs (wPs ps n x) m y = if wErr (wPs ps n x).length m y.length = 0 then (wPs ps n x).set m.toNat y else wPs ps n x := rfl
  have e2 : wPs (wPs ps m y) n x = if wErr (wPs ps m y).length n x.length = 0 then (wPs ps m y).set n.toNat x else wPs ps m y := rfl
  rw [e1, e2, wErr_len, wErr_len]
  unfold wPs
  by_cases h1 : wErr ps.length n x.length = 0
  · by_cases h2 : wErr ps.length m y.length = 0
    · rw [if_pos h1, if_pos h2, if_pos h1, if_pos h2]
      apply List.set_comm
      unfold wErr at h1 h2
      split at h1
      · cases h1
      · split at h2
        · cases h2
        · omega
    · rw [if_pos h1, if_neg h2, if_pos h1, if_neg h2]
  · by_cases h2 : wErr ps.length m y.length = 0
    · simp [h1, h2]
    · simp [h1, h2]
theorem swap_ch (ps : List (List UInt8)) (n m : Int) (x y : List UInt8) : (wCh (wPs ps n x) (wCh ps [] n x) m y).length = (wCh (wPs ps m y) (wCh ps [] m y) n x).length := by
  rw [wCh_length, wCh_length, wCh_length, wCh_length, wErr_len, wErr_len]
  omega
/-- a deed as a value -/
def deedV (N L : Int) (b : UInt8) : Value := .agg #[.int .i64 N, .int .i64 L, .int .u8 (b.toNat : Int)]
theorem wCh_le (ps : List (List UInt8)) (ch : List (Nat × List UInt8)) (n : Int) (x : List UInt8) : (wCh ps ch n x).length ≤ ch.length + 1 := by rw [wCh_length]; split <;> omega

end Go.Proofs.YthdcjepkehifoaaGreat
