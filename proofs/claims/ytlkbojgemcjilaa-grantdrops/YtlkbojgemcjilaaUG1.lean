/- GrantNarrow walked. -/
import Derived.Test.YtlkbojgemcjilaaUD1
namespace Go.Proofs.Ytlkbojgemcjilaa
open Go.RowKit Go.Maps Go.Shelf Go.Sort Go.Lib
set_option linter.unusedVariables false
set_option maxRecDepth 20000
/-- deeds that lie in a row of the world -/
structure GDs (w : World) (a : Option Addr) (l : List GDeed) : Prop where
  cells : ∀ i (h : i < l.length), ∃ b o, a = some ⟨b, o, none⟩ ∧ w.cell? ⟨b, o + i * 6, none⟩ = some (.int .i64 l[i].kind) ∧ w.cell? ⟨b, o + i * 6 + 1, none⟩ = some (.string l[i].t) ∧ w.cell? ⟨b, o + i * 6 + 2, none⟩ = some (.string l[i].u) ∧ w.cell? ⟨b, o + i * 6 + 3, none⟩ = some (.string l[i].n) ∧ w.cell? ⟨b, o + i * 6 + 4, none⟩ = some (.string l[i].r) ∧ w.cell? ⟨b, o + i * 6 + 5, none⟩ = some (.int .u8 (l[i].sc : Int))
  ok : ∀ x ∈ l, x.Ok
  length : l.length ≤ maxLen
theorem GDs.at {w w' : World} {a : Option Addr} {l : List GDeed} (h : GDs w a l) (hb : Below w.heap.size w w') {k : Nat} {x : GDeed} (hx : l[k]? = some x) : ∃ b o, a = some ⟨b, o, none⟩ ∧ w'.cell? ⟨b, o + k * 6, none⟩ = some (.int .i64 x.kind) ∧ w'.cell? ⟨b, o + k * 6 + 1, none⟩ = some (.string x.t) ∧ w'.cell? ⟨b, o + k * 6 + 2, none⟩ = some (.string x.u) ∧ w'.cell? ⟨b, o + k * 6 + 3, none⟩ = some (.string x.n) ∧ w'.cell? ⟨b, o + k * 6 + 4, none⟩ = some (.string x.r) ∧ w'.cell? ⟨b, o + k * 6 + 5, none⟩ = some (.int .u8 (x.sc : Int)) ∧ x.Ok := by
  obtain ⟨h1, h2⟩ := List.getElem?_eq_some_iff.1 hx
  obtain ⟨b, o, e, c0, c1, c2, c3, c4, c5⟩ := h.cells k h1
  rw [h2] at c0 c1 c2 c3 c4 c5
  have q := h.ok x (List.mem_of_getElem? hx)
  have f : ∀ {j : Nat} {v : Value}, w.cell? ⟨b, j, none⟩ = some v → w'.cell? ⟨b, j, none⟩ = some v := fun hc => (hb.cell (World.block_lt_of_cell? _ _ hc)).trans hc
  exact ⟨b, o, e, f c0, f c1, f c2, f c3, f c4, f c5, q⟩
theorem ownsRow_monoU {w : World} {B B' n sz : Nat} {e : TypeId} {v : Value} {xs : List Value} (h : w.ownsRow B e sz v n xs) (hB : B' ≤ B) : w.ownsRow B' e sz v n xs := by
  refine ⟨h.1, ?_⟩
  rcases h.2 with h0 | ⟨g, cap, cur, e1, hb, rest⟩
  · exact .inl h0
  · exact .inr ⟨g, cap, cur, e1, Nat.le_trans hB hb, rest⟩
theorem RG.mono {w : World} {B B' g : Nat} {s : GS} (h : RG w B g s) (hB : B' ≤ B) : RG w B' g s := by
  obtain ⟨cv, av, h1, h2, h3, h4⟩ := h
  exact ⟨cv, av, h1, ownsRow_monoU h2 hB, ownsRow_monoU h3 hB, Nat.le_trans hB h4⟩
theorem measG {N k : Nat} (h : k < N) : N - (intOf (.int .i64 (((k + 1 : Nat) : Int)))).toNat < N - (intOf (.int .i64 (k : Int))).toNat := by
  simp [intOf]
  omega
theorem nar_trans {x a c : Nat} (h1 : x &&& a = x) (h2 : a &&& c = a) : x &&& c = x := by
  rw [← h1, Nat.and_assoc, h2]
theorem pair_eq {α : Type} {R : α → α → Prop} (hs : ∀ a b, R a b → R b a) {l : List α} (h : l.Pairwise R) {a b : α} (ha : a ∈ l) (hb : b ∈ l) (hn : ¬ R a b) : a = b := by
  induction h with
  | nil => cases ha
  | cons h1 h2 ih =>
    rcases List.mem_cons.1 ha with rfl | ha' <;> rcases List.mem_cons.1 hb with rfl | hb'
    · rfl
    · exact absurd (h1 _ hb') hn
    · exact absurd (hs _ _ (h1 _ ha')) hn
    · exact ih ha' hb'
theorem gok_find {s : GS} (ok : s.Ok) {t u n : ByteArray} {a : Co} (h : fA s t u n = some a) : ∃ c, findC s t n = some c ∧ a.sc ≤ 255 ∧ c.sc ≤ 255 ∧ a.sc &&& c.sc = a.sc := by
  have h1 := List.find?_some h
  have h2 := List.mem_of_find?_eq_some h
  have h3 := isA_iff.1 h1
  obtain ⟨_, _, h5, c, hc, e1, e2, e3⟩ := ok.anames a h2
  cases hf : findC s t n with
  | none =>
    have := List.find?_eq_none.1 hf c hc
    exact absurd (isC_iff.2 ⟨e1.trans h3.1, e2.trans h3.2.2⟩) this
  | some c' =>
    have q1 := List.find?_some hf
    have q2 := List.mem_of_find?_eq_some hf
    have q3 := isC_iff.1 q1
    have : c' = c := by
      exact pair_eq (R := fun a b : Cl => ¬ (a.t = b.t ∧ a.n = b.n)) (fun _ _ h hh => h ⟨hh.1.symm, hh.2.symm⟩) ok.keys q2 hc (fun hne => hne ⟨q3.1.trans (e1.trans h3.1).symm, q3.2.trans (e2.trans h3.2.2).symm⟩)
    subst this
    exact ⟨c', rfl, h5, (ok.names c' q2).2.2.2, e3⟩
end Go.Proofs.Ytlkbojgemcjilaa
