/- Loading a chain from any rows: takeNumbers and toHash. -/
import Derived.Test.YthfmpebgmojcaaaDoorQRh
import Derived.Test.YthfmpebgmojcaaaDoorZHash
namespace Go.Proofs.YthfmpebgmojcaaaDoor
open Go.RowKit
set_option linter.unusedVariables false
set_option maxRecDepth 20000
theorem numsOf_get (x1 x2 x3 : Option Nat) : (∀ n, (x1.bind fun a => x2.bind fun b => x3.map fun c => (a, b, c)) = some n → n = (x1.getD 0, x2.getD 0, x3.getD 0)) ∧ (x1.bind fun a => x2.bind fun b => x3.map fun c => (a, b, c)).isSome = (x1.isSome && x2.isSome && x3.isSome) := by
  rcases x1 with _ | a <;> rcases x2 with _ | b <;> rcases x3 with _ | c <;> exact ⟨fun n h => (by first | (cases h; rfl) | cases h), rfl⟩
set_option maxHeartbeats 4000000 in
theorem takeNumbers_any {w : World} {B g : Nat} {v : Value} {c : Ch} (h : ChAt w B g v c) (ok : Lens c) (r : TR) (ad : Option Addr) (cp : Nat) (ht : Texts w ad r.2) (hs : ∀ x ∈ r.2, x.size ≤ maxLen) :
    Calls Tryd.prog 31 #[.pointer (some ⟨g, 0, none⟩), .agg #[.string r.1, .slice ad r.2.length cp]] w fun e w' => e = .returned (.bool (numsOf r).isSome) ∧ (∀ n, numsOf r = some n → ChAt w' B g v { c with bn := n.1, an := n.2.1, la := n.2.2 }) ∧ Out (fun j => j = g) w w' := by
  obtain ⟨key, l⟩ := r
  simp only at ht hs ⊢
  obtain ⟨m, hm⟩ : ∃ m, m = l.length := ⟨_, rfl⟩
  rw [← hm]
  have hb0 : Below w.heap.size w (w.alloc (.cells #[.string key, .slice ad m cp] 75)) := (Below.refl _ w).alloc (Nat.le_refl _) _
  have HB := hid hb0
  by_cases hk : key = ⟨#[35]⟩
  · subst hk
    by_cases h3 : l.length = 3
    · obtain ⟨p, q, s, rfl⟩ : ∃ p q s, l = [p, q, s] := by
        match l, h3 with
        | [p, q, s], _ => exact ⟨p, q, s, rfl⟩
      obtain rfl : m = 3 := hm
      have h0 := h.below hb0
      have ht0 := ht.below hb0
      obtain ⟨b, o, rfl, j0⟩ := ht0 0 (by simp)
      obtain ⟨b1, o1, e1, j1⟩ := ht0 1 (by simp)
      cases e1
      obtain ⟨b2, o2, e2, j2⟩ := ht0 2 (by simp)
      cases e2
      have k0 : (w.alloc (.cells #[.string ⟨#[35]⟩, .slice (some ⟨b, o, none⟩) 3 cp] 75)).cell? ⟨b, o, none⟩ = some (.string p) := j0
      have k1 : (w.alloc (.cells #[.string ⟨#[35]⟩, .slice (some ⟨b, o, none⟩) 3 cp] 75)).cell? ⟨b, o + 1, none⟩ = some (.string q) := j1
      have k2 : (w.alloc (.cells #[.string ⟨#[35]⟩, .slice (some ⟨b, o, none⟩) 3 cp] 75)).cell? ⟨b, o + 2, none⟩ = some (.string s) := j2
      have C1 := fun W => numberJ_any p (hs p (by simp)) 0 1099511627776 W
      have C2 := fun W => numberJ_any q (hs q (by simp)) 0 1099511627776 W
      have C3 := fun W => numberJ_any s (hs s (by simp)) 0 1099511627776 W
      have hn : numsOf (⟨#[35]⟩, [p, q, s]) = (numR p.data.toList 0 1099511627776).bind fun a => (numR q.data.toList 0 1099511627776).bind fun b => (numR s.data.toList 0 1099511627776).map fun c => (a, b, c) := by
        unfold numsOf
        dsimp only
        rw [if_pos rfl]
      rw [hn]
      clear j0 j1 j2 ht ht0 hs hn h3
      generalize numR p.data.toList 0 1099511627776 = x1 at *
      generalize numR q.data.toList 0 1099511627776 = x2 at *
      generalize numR s.data.toList 0 1099511627776 = x3 at *
      have hgood := numsOf_get x1 x2 x3
      generalize (x1.bind fun a => x2.bind fun b => x3.map fun c => (a, b, c)) = X at *
      have hX := hgood.2
      have hX1 := hgood.1
      rw [hX]
      clear hX hgood
      generalize x1.getD 0 = n1 at *
      generalize x2.getD 0 = n2 at *
      generalize x3.getD 0 = n3 at *
      generalize x1.isSome = f1 at *
      generalize x2.isSome = f2 at *
      generalize x3.isSome = f3 at *
      have q0 := h0.c0
      have f0 := h0.fz 0
      have h4 := h0.setBn n1
      have q33 := h4.c33 (c := { c with bn := n1 }) ⟨ok.lb, ok.lan, ok.lh⟩
      have f33 := h4.fz 33
      have h5 := h4.setAn (c := { c with bn := n1 }) ⟨ok.lb, ok.lan, ok.lh⟩ n2
      have q99 := h5.c99 (c := { c with bn := n1, an := n2 }) ⟨ok.lb, ok.lan, ok.lh⟩
      have f99 := h5.fz 99
      have h6 := h5.setLa (c := { c with bn := n1, an := n2 }) ⟨ok.lb, ok.lan, ok.lh⟩ n3
      have H6 := hid h6
      have HX1 := hid hX1
      have C1' := hid C1
      have C2' := hid C2
      have C3' := hid C3
      clear h h0 h4 h5 h6 hb0 hX1 C1 C2 C3
      go_enter Tryd.func31, Tryd.ntmps31
      go_wp2_with fail
      refine (C1'.out _).mono ?_
      rintro x w1 ⟨rfl, e9⟩
      subst w1
      go_wp2_with fail
      refine (C2'.out _).mono ?_
      rintro x w1 ⟨rfl, e9⟩
      subst w1
      go_wp2_with fail
      refine (C3'.out _).mono ?_
      rintro x w1 ⟨rfl, e9⟩
      subst w1
      cases f1 <;> cases f2 <;> cases f3
      all_goals
        go_wp2_with fail
        go_ret
        exact ⟨rfl, fun n e => (by rw [HX1.out n e]; exact H6.out), Out.setCell (P := fun j => j = g) (Out.setCell (P := fun j => j = g) (Out.setCell (P := fun j => j = g) (Out.of_below HB.out) ⟨g, 0, none⟩ _ rfl) ⟨g, 33, none⟩ _ rfl) ⟨g, 99, none⟩ _ rfl⟩
    · have hn : numsOf (⟨#[35]⟩, l) = none := by
        unfold numsOf
        split
        · rename_i he
          simp only at he
          rw [he] at h3
          exact absurd rfl h3
        · rfl
      rw [hn]
      rw [← hm] at h3
      have g1 : ((m : Int) == 3) = false := by rw [beq_eq_false_iff_ne]; omega
      have g2 : ((m : Int) != 3) = true := by rw [bne, g1]; rfl
      have g3 : ¬ (m : Int) = 3 := by omega
      clear hm h3 h ok ht hs hn hb0
      go_enter Tryd.func31, Tryd.ntmps31
      go_wp2_with fail
      go_ret
      exact ⟨rfl, fun n e => (by cases e), Out.of_below HB.out⟩
  · have hn : numsOf (key, l) = none := by
      unfold numsOf
      split
      · rw [if_neg hk]
      · rfl
    rw [hn]
    have g1 : (key.toList == (⟨#[35]⟩ : ByteArray).toList) = false := by rw [eqQ]; exact decide_eq_false hk
    rw [show (⟨#[35]⟩ : ByteArray).toList = [35] by decide +kernel] at g1
    have g3 : ¬ key.toList = [35] := by rw [beq_eq_false_iff_ne] at g1; exact g1
    clear h ok ht hs hn hb0 hm hk
    go_enter Tryd.func31, Tryd.ntmps31
    go_wp2_with fail
    go_ret
    exact ⟨rfl, fun n e => (by cases e), Out.of_below HB.out⟩
end Go.Proofs.YthfmpebgmojcaaaDoor
