/- Commit of package wal, by contracts. -/
import Derived.Test.YtcaifnenejjfaaaWGroup
namespace Go.Proofs.Ytcaifnenejjfaaa
open Go.RowKit Go.Maps
set_option linter.unusedVariables false
set_option maxRecDepth 20000

theorem Try.info48 : (Try.prog.info? 48).map (fun i => (i.zero, i.size, i.bytes)) = some (some (.agg #[.int .i64 0, .slice none 0 0]), 2, 32) := by kernel_rfl
/-- pages as cells -/
def pgCells (l : List PgV) : List Value := l.flatMap encPg
theorem pgCells_length (l : List PgV) : (pgCells l).length = l.length * 2 := by
  induction l with
  | nil => rfl
  | cons p l ih => unfold pgCells at *; rw [List.flatMap_cons, List.length_append, ih, List.length_cons]; simp [encPg]; omega
theorem pgCells_get (l : List PgV) (i : Nat) (h : i < l.length) (q : Nat) (hq : q < 2) : (pgCells l)[i * 2 + q]? = (encPg l[i])[q]? := by
  induction l generalizing i with
  | nil => simp at h
  | cons p l ih =>
    unfold pgCells
    rw [List.flatMap_cons]
    have he : (encPg p).length = 2 := rfl
    cases i with
    | zero => rw [List.getElem?_append_left (by rw [he]; omega)]; simp
    | succ i =>
      rw [List.getElem?_append_right (by rw [he]; omega), he, show (i + 1) * 2 + q - 2 = i * 2 + q by omega]
      exact ih i (by simpa using h)
theorem pgCells_one (l : List PgV) : ∀ u ∈ pgCells l, u.oneCell' = true := fun u hu => by
  obtain ⟨p, _, hp⟩ := List.mem_flatMap.1 hu
  exact encPg_one p u hp

set_option maxHeartbeats 800000 in
set_option maxRecDepth 20000 in
theorem clonePg (l : List PgV) (b o cap : Nat) (w : World) (hB : PgsAt w b o l) (h0 : 0 < l.length) (hlen : l.length ≤ 100000) :
    Calls Try.prog 30 #[.slice (some ⟨b, o, none⟩) l.length cap] w fun e w' => ∃ g c, e = .returned (.slice (some ⟨g, 0, none⟩) l.length c) ∧ w'.ownsRow w.heap.size 48 2 (.slice (some ⟨g, 0, none⟩) l.length c) l.length (pgCells l) ∧ Below w.heap.size w w' := by
  obtain ⟨i0, hi, hz0, hz1, hz2⟩ := info_parts Try.info48
  have q22 : ∀ (w : World) (a : Option Addr) (n c n' c' : Nat), (binOp .eql 43 (.slice a n c) (.slice none n' c')).run Try.prog w = .ok (.bool a.isNone) w := fun w a n c n' c' => Lib.run_eql_slice_nil w _ _ a n c n' c' Try.underlying43
  have HB := hid hB
  clear hB
  go_enter Try.func30, Try.ntmps30
  go_wp2_with (at_builtin; refine wpList_append_own _ rfl _ _ 43 rfl w.heap.size 48 i0 _ 2 32 Try.underlying43 hi hz0 hz1 hz2 rfl (by decide) _ _ _ rfl (World.ownsRow_made w #[] 0 (Nat.le_refl _) (Nat.zero_le _) rfl) ⟨b, o, none⟩ l.length cap (pgCells l) rfl ?qc1 ?qc2 ?qc3 ?qc4 ?qc5 ?qc6 ?_)
  case qc1 => exact pgCells_length l
  case qc2 =>
    intro j u hj
    have hjn : j < l.length * 2 := by
      have := (List.getElem?_eq_some_iff.1 hj).1
      rw [pgCells_length] at this
      exact this
    have hi2 : j / 2 < l.length := by omega
    have ej : j = j / 2 * 2 + j % 2 := by omega
    rw [ej, pgCells_get l (j / 2) hi2 (j % 2) (by omega)] at hj
    have hc : w.cell? ⟨b, o + j, none⟩ = some u := by
      rcases (show j % 2 = 0 ∨ j % 2 = 1 by omega) with h | h
      · rw [h] at hj
        have := (HB.out (j / 2) hi2).1
        rw [show o + j = o + j / 2 * 2 by omega, this, ← hj]
        rfl
      · rw [h] at hj
        have := (HB.out (j / 2) hi2).2
        rw [show o + j = o + j / 2 * 2 + 1 by omega, this, ← hj]
        rfl
    rw [addr_add]
    exact (World.cell?_alloc_some _ _ _ (by rw [hc]; rfl)).trans hc
  case qc3 => exact pgCells_one l
  case qc4 => unfold maxLen; omega
  case qc5 => omega
  case qc6 => simp
  intro v' w1 hown hgrow hnil
  go_wp2
  go_ret
  have hown' : w1.ownsRow w.heap.size 48 2 v' l.length (pgCells l) := by simpa using hown
  obtain ⟨g', cap', rfl, _, _⟩ := hown'.form h0
  exact ⟨g', cap', rfl, hown', ((Below.refl _ w).alloc (Nat.le_refl _) _).grown hgrow (by simp) (by intro k hk; simp [Value.ownBlock] at hk; omega)⟩

theorem holds_of_row {w : World} {B g c : Nat} {l : List PgV} (h : w.ownsRow B 48 2 (.slice (some ⟨g, 0, none⟩) l.length c) l.length (pgCells l)) : Sort.HoldsK encPg 2 w g 0 l.toArray := by
  intro t ht
  rw [Sort.size_flatK] at ht
  have ht' : t < l.length * 2 := by simpa using ht
  refine ⟨?_, h.frozenAt _⟩
  have e : t = t / 2 * 2 + t % 2 := by omega
  have hi : t / 2 < l.length := by omega
  rw [Nat.zero_add, h.cellAt t (by omega), Sort.get_flatK _ _ _ _ (by simpa using ht)]
  conv => lhs; rw [e]
  rw [pgCells_get l (t / 2) hi (t % 2) (by omega), getElem!_pos l.toArray (t / 2) (by simpa using hi)]
  simp only [List.getElem_toArray, id]
  rcases (show t % 2 = 0 ∨ t % 2 = 1 by omega) with h | h <;> rw [h] <;> rfl

/-- what Commit tells of pages: the error's number -/
def BadRange (P : Nat) (l : List PgV) : Prop := ∃ p ∈ l, p.1 < 0 ∨ (P : Int) ≤ p.1
def BadForm (l : List PgV) : Prop := ¬ (l.map (·.1)).Nodup ∨ ∃ p ∈ l, p.2.2.1 ≠ 256

set_option maxHeartbeats 400000 in
theorem commit_nil (a : Option Addr) (n c : Nat) (w : World) : Calls Try.prog 8 #[.pointer none, .slice a n c] w fun e w' => e = .returned (.int .i64 1) ∧ w' = w := by
  go_enter Try.func8, Try.ntmps8
  go_wp2
  go_ret
  exact ⟨rfl, rfl⟩
set_option maxHeartbeats 400000 in
theorem commit_none (l : Nat) (a : Option Addr) (c : Nat) (w : World) : Calls Try.prog 8 #[.pointer (some ⟨l, 0, none⟩), .slice a 0 c] w fun e w' => e = .returned (.int .i64 0) ∧ w' = w := by
  go_enter Try.func8, Try.ntmps8
  go_wp2
  go_ret
  exact ⟨rfl, rfl⟩
set_option maxHeartbeats 400000 in
theorem commit_long (l : Nat) (a : Option Addr) (n c : Nat) (w : World) (hn : 100 < n) : Calls Try.prog 8 #[.pointer (some ⟨l, 0, none⟩), .slice a n c] w fun e w' => e = .returned (.int .i64 6) ∧ w' = w := by
  have d1 : ((n : Int) == 0) = false := by rw [beq_eq_false_iff_ne]; omega
  have d2 : (100 : Int) < (n : Int) := by omega
  go_enter Try.func8, Try.ntmps8
  go_wp2
  go_ret
  exact ⟨rfl, rfl⟩
end Go.Proofs.Ytcaifnenejjfaaa
