/- Lists in the order of their keys' bytes: mathematics only. -/
import Derived.Sort.Walk0
namespace Go.Proofs.YtlkbojgemcjilaaGreatDoor.Xr
theorem key_tot {x y : List UInt8} (h1 : ¬ x < y) (h2 : ¬ y < x) : x = y := List.le_antisymm (show x ≤ y from h2) (show y ≤ x from h1)
theorem key_trans {x y z : List UInt8} (h1 : ¬ y < x) (h2 : ¬ z < y) : ¬ z < x := List.le_trans (show x ≤ y from h1) (show y ≤ z from h2)
section
variable {α : Type} (key : α → List UInt8)
/-- in order: none is below one ahead of it -/
def InOrder (S : List α) : Prop := S.Pairwise fun a b => ¬ key b < key a
theorem ins_order {S : List α} (hS : InOrder key S) (x : α) (p : Nat) (hp : p ≤ S.length) (h1 : ∀ y ∈ S.drop p, key x < key y) (h2 : ∀ (h : 0 < p), ¬ key x < key (S[p - 1]'(by omega))) : InOrder key (S.take p ++ x :: S.drop p) := by
  unfold InOrder at hS ⊢
  rw [List.pairwise_append]
  have hT := hS
  rw [← List.take_append_drop p S, List.pairwise_append] at hT
  obtain ⟨t1, t2, t3⟩ := hT
  have hle : ∀ y ∈ S.take p, ¬ key x < key y := fun y hy => by
    have hp0 : 0 < p := by
      cases p with
      | zero => simp at hy
      | succ n => omega
    have h3 := h2 hp0
    obtain ⟨i, hi, rfl⟩ := List.mem_iff_getElem.1 hy
    have hi' : i < p := by rw [List.length_take] at hi; omega
    rw [List.getElem_take]
    by_cases e : i = p - 1
    · subst e; exact h3
    · have := List.pairwise_iff_getElem.1 hS i (p - 1) (by omega) (by omega) (by omega)
      exact key_trans this h3
  refine ⟨t1, ?_, fun a ha b hb => ?_⟩
  · rw [List.pairwise_cons]
    exact ⟨fun b hb => List.not_lt.2 (List.le_of_lt (h1 b hb)), t2⟩
  · rcases List.mem_cons.1 hb with rfl | hb
    · exact hle a ha
    · exact t3 a ha b hb
theorem ins_perm (S : List α) (x : α) (p : Nat) : (S.take p ++ x :: S.drop p).Perm (S ++ [x]) := by
  refine List.perm_middle.trans ?_
  rw [List.take_append_drop]
  exact (List.perm_append_singleton x S).symm
theorem uniq : ∀ {A B : List α}, A.Perm B → InOrder key A → InOrder key B → (∀ a ∈ A, ∀ b ∈ A, key a = key b → a = b) → A = B
  | [], B, h, _, _, _ => by rw [List.nil_perm.1 h]
  | a :: A, [], h, _, _, _ => by have := h.length_eq; simp at this
  | a :: A, b :: B, h, hA, hB, hi => by
    unfold InOrder at hA hB
    obtain ⟨a1, a2⟩ := List.pairwise_cons.1 hA
    obtain ⟨b1, b2⟩ := List.pairwise_cons.1 hB
    have ha : a ∈ b :: B := h.subset (List.mem_cons_self)
    have hb : b ∈ a :: A := h.symm.subset (List.mem_cons_self)
    have e : a = b := by
      refine hi a (List.mem_cons_self) b hb (key_tot ?_ ?_)
      · rcases List.mem_cons.1 ha with e | ha
        · rw [e]; exact List.lt_irrefl _
        · exact b1 a ha
      · rcases List.mem_cons.1 hb with e | hb
        · rw [e]; exact List.lt_irrefl _
        · exact a1 b hb
    subst e
    rw [uniq (List.perm_cons a |>.1 h) a2 b2 (fun x hx y hy => hi x (List.mem_cons_of_mem _ hx) y (List.mem_cons_of_mem _ hy))]
end
end Go.Proofs.YtlkbojgemcjilaaGreatDoor.Xr
