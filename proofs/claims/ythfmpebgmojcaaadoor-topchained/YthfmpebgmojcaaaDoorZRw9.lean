/- YthfmpebgmojcaaaDoorZRw4 + YthfmpebgmojcaaaDoorZRw9 -/
import Derived.Test.YthfmpebgmojcaaaDoorZText
/- The reference's Rows: the region that makes the four first rows, whatever order is picked. (Printed by gen/zrows.py.) -/
namespace Go.Proofs.YthfmpebgmojcaaaDoor
open Go.RowKit
set_option linter.unusedVariables false
set_option maxRecDepth 20000
def TXs (w : World) (g : Nat) (l : List ByteArray) : Prop := w.heap[g]? = some (.cells (strsOf l).toArray 9 (0, 0))
theorem TXs.below {w w' : World} {g : Nat} {l : List ByteArray} (h : TXs w g l) (hb : Below w.heap.size w w') : TXs w' g l := (hb.block g (heap_lt h)).trans h
theorem TXs.own {w : World} {g : Nat} {l : List ByteArray} (h : TXs w g l) (hl : l.length ≤ 1000) : w.ownsRow 0 9 1 (.slice (some ⟨g, 0, none⟩) l.length l.length) l.length (strsOf l) :=
  ⟨by rw [strsOf_length]; omega, .inr ⟨g, l.length, _, rfl, Nat.zero_le _, h, Nat.le_refl _, by unfold maxLen; omega, by simp [strsOf], by rw [Nat.mul_one]; exact List.take_of_length_le (by simp [strsOf])⟩⟩
def fB (d : Nat) (l : List ByteArray) (a : Act) (w : World) : Prop := ∃ g, a.eval (.tmp d) = .slice (some ⟨g, 0, none⟩) l.length l.length ∧ TXs w g l
def fR (d : Nat) (k : ByteArray) (l : List ByteArray) (a : Act) (w : World) : Prop := ∃ g, a.eval (.tmp d) = .agg #[.string k, .slice (some ⟨g, 0, none⟩) l.length l.length] ∧ TXs w g l
def fO (base : Nat) (c : Ch) (d : Nat) (a : Act) (w : World) : Prop := ∃ v L, a.eval (.tmp d) = v ∧ RowsAt w base v L ∧ L.map Rw.text = headRows c
section
variable {a : Act} {w w' : World} {d d' : Nat} {u : Value}
theorem fS_keep {v : Value} (hb : Below w.heap.size w w') (hd : d' ≠ d) (h : a.eval (.tmp d) = v) : (a.put (some d') u).eval (.tmp d) = v := (ev_ne _ _ hd).trans h
theorem fB_keep {l : List ByteArray} (hb : Below w.heap.size w w') (hd : d' ≠ d) (h : fB d l a w) : fB d l (a.put (some d') u) w' := by
  obtain ⟨g, h1, h2⟩ := h
  exact ⟨g, (ev_ne _ _ hd).trans h1, h2.below hb⟩
theorem fR_keep {k : ByteArray} {l : List ByteArray} (hb : Below w.heap.size w w') (hd : d' ≠ d) (h : fR d k l a w) : fR d k l (a.put (some d') u) w' := by
  obtain ⟨g, h1, h2⟩ := h
  exact ⟨g, (ev_ne _ _ hd).trans h1, h2.below hb⟩
theorem fO_keep {base : Nat} {c : Ch} (hb : Below w.heap.size w w') (hd : d' ≠ d) (h : fO base c d a w) : fO base c d (a.put (some d') u) w' := by
  obtain ⟨v, L, h1, h2, h3⟩ := h
  exact ⟨v, L, (ev_ne _ _ hd).trans h1, h2.on hb, h3⟩
end
def FZ (base : Nat) (c : Ch) : Nat → Act → World → Prop
  | 4, a, w => a.eval (.tmp 18) = .string (txt c.bn)
  | 10, a, w => a.eval (.tmp 24) = .string (txt c.la)
  | 11, a, w => fB 25 ([c.bn, c.an, c.la].map txt) a w
  | 12, a, w => fR 26 ⟨#[35]⟩ ([c.bn, c.an, c.la].map txt) a w
  | 17, a, w => a.eval (.tmp 31) = .string (mkB c.ah)
  | 18, a, w => fB 32 [mkB c.ah] a w
  | 19, a, w => fR 33 ⟨#[97]⟩ [mkB c.ah] a w
  | 24, a, w => a.eval (.tmp 38) = .string (mkB c.bh)
  | 25, a, w => fB 39 [mkB c.bh] a w
  | 26, a, w => fR 40 ⟨#[98]⟩ [mkB c.bh] a w
  | 31, a, w => a.eval (.tmp 45) = .string (mkB c.hd)
  | 32, a, w => fB 46 [mkB c.hd] a w
  | 33, a, w => fR 47 ⟨#[104]⟩ [mkB c.hd] a w
  | 34, a, w => fO base c 48 a w
  | 35, a, w => fO base c 4 a w
  | _, _, _ => True
def dstZ : Nat → Nat
  | 4 => 18
  | 10 => 24
  | 11 => 25
  | 12 => 26
  | 17 => 31
  | 18 => 32
  | 19 => 33
  | 24 => 38
  | 25 => 39
  | 26 => 40
  | 31 => 45
  | 32 => 46
  | 33 => 47
  | 34 => 48
  | 35 => 4
  | _ => 0
theorem FZ_keep {base : Nat} {c : Ch} {a : Act} {w w' : World} {d : Nat} {u : Value} (hb : Below w.heap.size w w') : ∀ j ∈ [4, 10, 11, 12, 17, 18, 19, 24, 25, 26, 31, 32, 33, 34, 35], d ≠ dstZ j → FZ base c j a w → FZ base c j (a.put (some d) u) w' := by
  intro j hj hd h
  simp only [List.mem_cons, List.not_mem_nil, or_false] at hj
  rcases hj with rfl | rfl | rfl | rfl | rfl | rfl | rfl | rfl | rfl | rfl | rfl | rfl | rfl | rfl | rfl
  · exact fS_keep hb hd h
  · exact fS_keep hb hd h
  · exact fB_keep hb hd h
  · exact fR_keep hb hd h
  · exact fS_keep hb hd h
  · exact fB_keep hb hd h
  · exact fR_keep hb hd h
  · exact fS_keep hb hd h
  · exact fB_keep hb hd h
  · exact fR_keep hb hd h
  · exact fS_keep hb hd h
  · exact fB_keep hb hd h
  · exact fR_keep hb hd h
  · exact fO_keep hb hd h
  · exact fO_keep hb hd h
structure InvZ (A : Act) (V0 : World) (B g : Nat) (v : Value) (c : Ch) (l : Array Bool) (a : Act) (w : World) : Prop where
  size : l.size = 36
  kp : Keep A a [18, 24, 25, 26, 31, 32, 33, 38, 39, 40, 45, 46, 47, 48, 4]
  ref : RAt w B g v c
  bel : Below V0.heap.size V0 w
  unl : ∀ i, l.getD i true = false → i ∈ [4, 10, 11, 12, 17, 18, 19, 24, 25, 26, 31, 32, 33, 34, 35]
  fz : ∀ j ∈ [4, 10, 11, 12, 17, 18, 19, 24, 25, 26, 31, 32, 33, 34, 35], l.getD j false = true → FZ V0.heap.size c j a w
theorem InvZ.step {A : Act} {V0 : World} {B g : Nat} {v : Value} {c : Ch} {l : Array Bool} {a : Act} {w w' : World} (h : InvZ A V0 B g v c l a w) (i : Nat) (hi : i ∈ [4, 10, 11, 12, 17, 18, 19, 24, 25, 26, 31, 32, 33, 34, 35]) (hl : l.getD i true = false) (hd : dstZ i ∈ [18, 24, 25, 26, 31, 32, 33, 38, 39, 40, 45, 46, 47, 48, 4]) (u : Value) (hb : Below w.heap.size w w') (hf : FZ V0.heap.size c i (a.put (some (dstZ i)) u) w') :
    InvZ A V0 B g v c (l.setIfInBounds i true) (a.put (some (dstZ i)) u) w' := by
  refine ⟨by simp [h.size], h.kp.put _ _ hd, h.ref.below hb, Below.on' h.bel hb, fun j hj => ?_, fun j hj hv => ?_⟩
  · by_cases e : i = j
    · exact e ▸ hi
    · rw [getD_set_ne _ _ _ _ e] at hj
      exact h.unl j hj
  · by_cases e : i = j
    · exact e ▸ hf
    · rw [getD_set_ne _ _ _ _ e] at hv
      refine FZ_keep hb j hj ?_ (h.fz j hj hv)
      have key : ∀ i ∈ [4, 10, 11, 12, 17, 18, 19, 24, 25, 26, 31, 32, 33, 34, 35], ∀ j ∈ [4, 10, 11, 12, 17, 18, 19, 24, 25, 26, 31, 32, 33, 34, 35], i ≠ j → dstZ i ≠ dstZ j := by decide
      exact key i hi j hj e
end Go.Proofs.YthfmpebgmojcaaaDoor
/- The reference's Rows: the region that appends the row of an event. (Printed by gen/zrows9.py.) -/
namespace Go.Proofs.YthfmpebgmojcaaaDoor
open Go.RowKit
set_option linter.unusedVariables false
set_option maxRecDepth 20000
end Go.Proofs.YthfmpebgmojcaaaDoor
