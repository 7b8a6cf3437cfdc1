/- SameBytes of the reference, and what stays behind a write, by contracts and rules. -/
import Derived.Test.YtcaifnenejjfaaaBCutOk
namespace Go.Proofs.Ytcaifnenejjfaaa
open Go.RowKit
set_option linter.unusedVariables false
set_option maxRecDepth 20000

theorem below_drewN (B : Nat) (w : World) (n : Nat) : Below B w (w.drewN n) := ⟨rfl, rfl, rfl, Nat.le_refl _, fun _ _ => rfl⟩

/-- a row stays where its block does -/
theorem own_keep {w w' : World} {B e s : Nat} {v : Value} {n : Nat} {xs : List Value} (h : w.ownsRow B e s v n xs) (hk : ∀ k, v.ownBlock = some k → w'.heap[k]? = w.heap[k]?) : w'.ownsRow B e s v n xs := by
  refine ⟨h.1, ?_⟩
  rcases h.2 with h | ⟨g, cap, cur, hv, hb, hh, r⟩
  · exact .inl h
  · exact .inr ⟨g, cap, cur, hv, hb, (hk g (by rw [hv]; rfl)).trans hh, r⟩
theorem own_below {w w' : World} {B e s : Nat} {v : Value} {n : Nat} {xs : List Value} (h : w.ownsRow B e s v n xs) (hb : Below w.heap.size w w') : w'.ownsRow B e s v n xs :=
  own_keep h fun k hk => hb.block k (h.lt k hk).2
theorem Bytes.keep {w w' : World} {b o : Nat} {l : List UInt8} (h : Bytes w (some ⟨b, o, none⟩) l) (hb : w'.heap[b]? = w.heap[b]?) : Bytes w' (some ⟨b, o, none⟩) l := fun i hi => by
  obtain ⟨b', o', ha, hc⟩ := h i hi
  cases ha
  exact ⟨b, o, rfl, (World.cell?_of_block (a := ⟨b, o + i, none⟩) hb).trans hc⟩
/-- what lies below a disk's own blocks is as it was behind a write -/
theorem Only.below {w w' : World} {B d g cap : Nat} {v : Value} {ps : List (List UInt8)} {ch : List (Nat × List UInt8)} (ho : Only d g v.ownBlock w w') (h : DiskAt w B d g cap v ps ch) (B' : Nat) (hB : B' ≤ B) (hs : B' ≤ w.heap.size) : Below B' w w' :=
  ⟨ho.os, ho.tape, ho.output, ho.size, fun k hk => ho.block k (by omega) (by have := h.bd; omega) (by have := (h.pages.lt g rfl).1; omega) (fun e => by have := (h.chs.lt k e.symm).1; omega)⟩
/-- the row of some bytes, written out -/
theorem own_form {w : World} {B e : Nat} {v : Value} {l : List UInt8} (h : w.ownsRow B e 1 v l.length (cellsOf l)) (h0 : 0 < l.length) : ∃ b c, v = .slice (some ⟨b, 0, none⟩) l.length c ∧ Bytes w (some ⟨b, 0, none⟩) l ∧ B ≤ b ∧ b < w.heap.size := by
  obtain ⟨b, c, rfl, hb, hl⟩ := h.form h0
  obtain ⟨a, c', hv, hB, _⟩ := bytes_of_own h
  cases hv
  exact ⟨b, c, rfl, hB, hb, hl⟩
end Go.Proofs.Ytcaifnenejjfaaa
