/- Write of package block at whatever number and bytes, by one contract. -/
import Derived.Test.YthdcjepkehifoaaGreatBEq
namespace Go.Proofs.YthdcjepkehifoaaGreat
open Go.RowKit
set_option linter.unusedVariables false
set_option maxRecDepth 20000

/-- what Write tells; what the pages, and the changes, are behind it -/
def wErr (m : Nat) (n : Int) (l : Nat) : Nat := if n < 0 ∨ (m : Int) ≤ n then 2 else if l ≠ 256 then 3 else 0
def wPs (ps : List (List UInt8)) (n : Int) (x : List UInt8) : List (List UInt8) := if wErr ps.length n x.length = 0 then ps.set n.toNat x else ps
def wCh (ps : List (List UInt8)) (ch : List (Nat × List UInt8)) (n : Int) (x : List UInt8) : List (Nat × List UInt8) := if wErr ps.length n x.length = 0 then ch ++ [(n.toNat, ps.getD n.toNat [])] else ch
theorem wPs_length (ps : List (List UInt8)) (n : Int) (x : List UInt8) : (wPs ps n x).length = ps.length := by unfold wPs; split <;> simp
theorem wCh_length (ps : List (List UInt8)) (ch : List (Nat × List UInt8)) (n : Int) (x : List UInt8) : (wCh ps ch n x).length = ch.length + (if wErr ps.length n x.length = 0 then 1 else 0) := by unfold wCh; split <;> simp
theorem Only.refl (d g : Nat) (r : Option Nat) (w : World) : Only d g r w w := ⟨rfl, rfl, rfl, Nat.le_refl _, fun _ _ _ _ _ => rfl⟩

theorem write_any {w : World} {B d g cap : Nat} {v : Value} {ps : List (List UInt8)} {ch : List (Nat × List UInt8)} (h : DiskAt w B d g cap v ps ch) (n : Int) (x : List UInt8) {vx : Value} {B2 : Nat} (hx : w.ownsRow B2 5 1 vx x.length (cellsOf x))
    (hap : d < B2 ∧ g < B2 ∧ ∀ k, v.ownBlock = some k → k < B2) (hch : ch.length ≤ 1000000) (hbase : B ≤ w.heap.size) :
    Calls Tryz.prog 103 #[.pointer (some ⟨d, 0, none⟩), .int .i64 n, vx] w fun e w' => e = .returned (.int .i64 (wErr ps.length n x.length : Int)) ∧
      ∃ v', DiskAt w' B d g cap v' (wPs ps n x) (wCh ps ch n x) ∧ (v'.ownBlock = v.ownBlock ∨ v'.ownBlock = some (w.heap.size + 1)) ∧ Only d g v.ownBlock w w' := by
  by_cases h1 : n < 0 ∨ (ps.length : Int) ≤ n
  · have e : wErr ps.length n x.length = 2 := by unfold wErr; rw [if_pos h1]
    obtain ⟨a, c, rfl, _, _⟩ := bytes_of_own hx
    refine (write_far h n h1 a x.length c).mono ?_
    rintro e' w' ⟨rfl, rfl⟩
    exact ⟨by rw [e]; rfl, v, by unfold wPs wCh; rw [e]; exact h, .inl rfl, Only.refl _ _ _ _⟩
  · obtain ⟨m, rfl⟩ : ∃ m : Nat, n = (m : Int) := ⟨n.toNat, by omega⟩
    have hm : m < ps.length := by omega
    by_cases h2 : x.length = 256
    · have e : wErr ps.length (m : Int) x.length = 0 := by unfold wErr; rw [if_neg h1, if_neg (by omega)]
      obtain ⟨b, c, rfl, hB, hb, _⟩ := own_form hx (by omega)
      rw [h2]
      refine (write_ok h m hm x h2 b 0 c hB ⟨by have := hap.1; omega, by have := hap.2.1; omega, fun e' => by have := hap.2.2 b e'.symm; omega⟩ hch hbase).mono ?_
      rintro e' w' ⟨rfl, v', hD, hv, ho⟩
      rw [h2] at e
      refine ⟨by rw [e]; rfl, v', ?_, hv, ho⟩
      unfold wPs wCh
      rw [h2, e, if_pos rfl, if_pos rfl]
      have : ps.getD m [] = ps[m] := by simp [List.getD, List.getElem?_eq_getElem hm]
      rw [show ((m : Int)).toNat = m from rfl, this]
      exact hD
    · have e : wErr ps.length (m : Int) x.length = 3 := by unfold wErr; rw [if_neg h1, if_pos h2]
      obtain ⟨a, c, rfl, _, _⟩ := bytes_of_own hx
      refine (write_form h m hm a x.length c h2).mono ?_
      rintro e' w' ⟨rfl, rfl⟩
      exact ⟨by rw [e]; rfl, v, by unfold wPs wCh; rw [e]; exact h, .inl rfl, Only.refl _ _ _ _⟩
end Go.Proofs.YthdcjepkehifoaaGreat
