/- Deeds that lie in a row of the world, and what the forks of both tables keep. -/
import Derived.Test.YtcchlcbonfdhpaaDoorSDo3
import Derived.Test.YtcchlcbonfdhpaaDoorXFork
namespace Go.Proofs.YtcchlcbonfdhpaaDoor
open Go.RowKit Go.Maps Go.Sort Go.Shelf
set_option linter.unusedVariables false
set_option maxRecDepth 20000

/-- deeds that lie in a row of the world -/
structure DIn (w : World) (a : Option Addr) (l : List SDeed) : Prop where
  cells : ∀ i (h : i < l.length), ∃ b o, a = some ⟨b, o, none⟩ ∧ w.cell? ⟨b, o + i * 5, none⟩ = some (.int .i64 l[i].kind) ∧ w.cell? ⟨b, o + i * 5 + 1, none⟩ = some (.string l[i].ten) ∧ w.cell? ⟨b, o + i * 5 + 2, none⟩ = some (.string l[i].usr) ∧ w.cell? ⟨b, o + i * 5 + 3, none⟩ = some (.int .i64 l[i].id) ∧ w.cell? ⟨b, o + i * 5 + 4, none⟩ = some (.int .i64 l[i].now)
  sizes : ∀ x ∈ l, x.ten.size ≤ maxLen ∧ x.usr.size ≤ maxLen
  length : l.length ≤ maxLen
theorem DIn.below {w w' : World} {a : Option Addr} {l : List SDeed} (h : DIn w a l) (hb : Below w.heap.size w w') : DIn w' a l :=
  ⟨fun i hi => by
    obtain ⟨b, o, e, h0, h1, h2, h3, h4⟩ := h.cells i hi
    exact ⟨b, o, e, (hb.cell (World.block_lt_of_cell? _ _ h0)).trans h0, (hb.cell (World.block_lt_of_cell? _ _ h1)).trans h1, (hb.cell (World.block_lt_of_cell? _ _ h2)).trans h2, (hb.cell (World.block_lt_of_cell? _ _ h3)).trans h3, (hb.cell (World.block_lt_of_cell? _ _ h4)).trans h4⟩, h.sizes, h.length⟩

/-- both forks, of the same sessions, apart from the tables p, mb, r -/
structure Forked (w : World) (B p mb r p2 r2 : Nat) (U : Tab) : Prop where
  ex : ∃ mb2 n2 a cap, TabAt w B p2 mb2 n2 U ∧ RTab w B r2 a cap U ∧ ∀ k, (k = p2 ∨ k = mb2 ∨ rBlock r2 a k) → ¬ DOut p mb r k
  ok : TabOk U
  len : U.l.length ≤ 80
theorem Forked.out {w w' : World} {B p mb r p2 r2 : Nat} {U : Tab} (h : Forked w B p mb r p2 r2 U) (ho : Out (DOut p mb r) w w') : Forked w' B p mb r p2 r2 U := by
  obtain ⟨⟨mb2, n2, a, cap, ht, hr, hk⟩, ok, len⟩ := h
  exact ⟨⟨mb2, n2, a, cap, ht.keep (ho.block _ ht.lts.1 (hk _ (.inl rfl))) (ho.block _ ht.lts.2 (hk _ (.inr (.inl rfl)))), hr.keep fun k e => ho.block k (hr.lts k e).2 (hk k (.inr (.inr e))), hk⟩, ok, len⟩
theorem Forked.below {w w' : World} {B p mb r p2 r2 : Nat} {U : Tab} (h : Forked w B p mb r p2 r2 U) (hb : Below w.heap.size w w') : Forked w' B p mb r p2 r2 U := h.out (Out.of_below hb)
theorem forked_mk {w1 w2 w3 : World} {B p mb r n p2 mb2 r2 : Nat} {a : Option Addr} {cap : Nat} {T : Tab} (hT : TabAt w1 B p mb n T) (hR : RTab w1 B r a cap T) (ok : TabOk T) (hl : T.l.length ≤ 80) (hB : B ≤ w1.heap.size)
    (f2 : TabAt w2 w1.heap.size p2 mb2 n T) (b2 : Below w1.heap.size w1 w2) (h2 : w2.heap.size ≤ r2) (f3 : RTab w3 B r2 a cap T) (b3 : Below w2.heap.size w2 w3) : Forked w3 B p mb r p2 r2 T := by
  refine ⟨⟨mb2, n, a, cap, (f2.below b3).mono hB, f3, ?_⟩, ok, hl⟩
  have l1 := hT.lts
  have l2 := hR.lt
  have l3 := f2.bp
  have l4 := f2.bm
  have l5 := b2.size
  rintro k (rfl | rfl | (rfl | ⟨ad, rfl, rfl⟩)) (e | e | e)
  · omega
  · omega
  · omega
  · omega
  · omega
  · omega
  · omega
  · omega
  · omega
  · exact (sep hT hR _ (.inr ⟨ad, rfl, rfl⟩)).1 e
  · exact (sep hT hR _ (.inr ⟨ad, rfl, rfl⟩)).2 e
  · refine hR.ne ?_
    rcases hR.row.2 with ⟨e0, _⟩ | ⟨g, cap', cur, e0, _⟩
    · cases e0
    · injection e0 with e1
      cases e1
      rw [← e]
      rfl
end Go.Proofs.YtcchlcbonfdhpaaDoor
