/- GrantDrops: what a store says behind a client that goes. -/
import Derived.Test.YtlkbojgemcjilaaUG2
namespace Go.Proofs.Ytlkbojgemcjilaa
open Go.RowKit Go.Maps Go.Shelf Go.Sort Go.Lib
set_option linter.unusedVariables false
set_option maxRecDepth 20000
theorem find_filterU {α : Type} {p q : α → Bool} (h : ∀ a, q a = true → p a = true) : ∀ l : List α, (l.filter p).find? q = l.find? q
  | [] => rfl
  | a :: l => by
    rw [List.filter_cons]
    by_cases hp : p a = true
    · rw [if_pos hp, List.find?_cons, List.find?_cons, find_filterU h l]
    · rw [if_neg hp, find_filterU h l, List.find?_cons]
      have : q a = false := by
        cases hq : q a
        · rfl
        · exact absurd (h a hq) hp
      rw [this]
theorem dropC_c (s : GS) (t n : ByteArray) : findC (s.dropC t n) t n = none := by
  unfold findC GS.dropC
  refine List.find?_eq_none.2 fun c hc => ?_
  have := (List.mem_filter.1 hc).2
  simpa using this
theorem dropC_a (s : GS) (t u n : ByteArray) : fA (s.dropC t n) t u n = none := by
  unfold fA GS.dropC
  refine List.find?_eq_none.2 fun a ha h => ?_
  have h1 := (List.mem_filter.1 ha).2
  have h2 := isA_iff.1 h
  rw [ofC_iff.2 ⟨h2.1, h2.2.2⟩] at h1
  exact absurd h1 (by decide)
theorem dropC_o (s : GS) (t u n o : ByteArray) (h : o ≠ n) : fA (s.dropC t n) t u o = fA s t u o := by
  unfold fA GS.dropC
  refine find_filterU (fun a ha => ?_) _
  have h2 := isA_iff.1 ha
  cases h3 : ofC t n a
  · rfl
  · exact absurd (h2.2.2.symm.trans (ofC_iff.1 h3).2) h
/-- what the questions answer ahead of the drop -/
theorem drop_facts (s : GS) (t u n o : ByteArray) : ∃ (a : Co) (e d : Int), ((fA s t u o).map coC).getD clC0 = coC a ∧ noneE (fA s t u o).isSome = e ∧ noneE (findC s t n).isSome = d ∧ (d = 4 ∨ d = 0) := by
  have h1 : ∃ a, ((fA s t u o).map coC).getD clC0 = coC a := by
    cases fA s t u o with
    | none => exact ⟨⟨⟨#[]⟩, ⟨#[]⟩, ⟨#[]⟩, 0⟩, rfl⟩
    | some a => exact ⟨a, rfl⟩
  obtain ⟨a, h1⟩ := h1
  refine ⟨a, _, _, h1, rfl, rfl, ?_⟩
  cases (findC s t n).isSome
  · exact .inl rfl
  · exact .inr rfl
/-- the loop's end, the stores apart -/
structure GDi (w0 : World) (x : GDeed) (g gr k : Nat) (s r : GS) (wr : World) : Prop where
  pr : PR wr w0.heap.size g gr s r k k
  be : Below w0.heap.size w0 wr
  ob : wr.heap[w0.heap.size]? = some (.cells (gdC x) 27 (0, 0))
theorem GDi.below {w0 wr w' : World} {x : GDeed} {g gr k : Nat} {s r : GS} (h : GDi w0 x g gr k s r wr) (hb : Below wr.heap.size wr w') : GDi w0 x g gr k s r w' :=
  ⟨h.pr.below hb, Below.on' h.be hb, (hb.block _ (heap_lt h.ob)).trans h.ob⟩
theorem GDid.di {w0 wr : World} {x : GDeed} {g gr k : Nat} {T : GS} (h : GDid w0 x g gr k T wr) : GDi w0 x g gr k T T wr := ⟨h.pr, h.be, h.ob⟩
/-- a block that is no store's stays -/
def Kept (V V' : World) (b : Nat) : Prop := ∀ cs, V.heap[b]? = some (.cells cs 35 (0, 0)) → V'.heap[b]? = some (.cells cs 35 (0, 0))
theorem gdi_drop {w0 wr : World} {x : GDeed} {g gr k : Nat} {s r : GS} (h : GDi w0 x g gr k s r wr) (hx : x.Ok) :
    Calls Try.prog 13 #[.pointer (some ⟨g, 0, none⟩), .string x.t, .string x.n] wr fun e w' => e = .returned (.int .i64 (noneE (findC s x.t x.n).isSome)) ∧ GDi w0 x g gr k (s.dropC x.t x.n) r w' ∧ (∀ b, Kept wr w' b) ∧ wr.heap.size ≤ w'.heap.size := by
  obtain ⟨X, h1⟩ := h.pr.gp
  refine (gDrop_any h1 x.t x.n hx.t hx.n).mono ?_
  rintro e w' ⟨rfl, t⟩
  obtain ⟨h2, h3, h4⟩ := h.pr.prog h1 t
  exact ⟨rfl, ⟨h2, h.be.trans h4, h3 _ _ _ h.ob (by decide) (by decide) (by decide)⟩, fun b cs hb => h3 _ _ _ hb (by decide) (by decide) (by decide), t.1.size⟩
end Go.Proofs.Ytlkbojgemcjilaa
