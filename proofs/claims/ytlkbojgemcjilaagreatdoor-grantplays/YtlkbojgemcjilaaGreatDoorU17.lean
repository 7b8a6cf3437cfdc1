/- Grants: a row of clients that grows, and is sorted. -/
import Derived.Test.YtlkbojgemcjilaaGreatDoorU16
import Derived.Deep.AppendLies
import Derived.Deep.RegionHeld3
import Derived.Shelf.SlSortCmp.NoneTotal
namespace Go.Proofs.YtlkbojgemcjilaaGreatDoor
open Go.RowKit Go.Maps Go.Shelf Go.Sort Go.Lib
set_option linter.unusedVariables false
set_option maxRecDepth 20000
theorem clInfo : (Tryz.prog.info? 56).map (fun i => (i.zero, i.size, i.bytes)) = some (some (.agg #[.string ⟨#[]⟩, .string ⟨#[]⟩, .string ⟨#[]⟩, .int .u8 0]), 4, 56) := by kernel_rfl
theorem own_someU {w : World} {B n sz : Nat} {e : TypeId} {v : Value} {xs : List Value} (h : w.ownsRow B e sz v n xs) (h0 : 0 < n) : ∃ g c, v = .slice (some ⟨g, 0, none⟩) n c := by
  rcases h.2 with ⟨_, h1⟩ | ⟨g, cap, cur, e1, _⟩
  · omega
  · exact ⟨g, cap, e1⟩
theorem app_clU {W : World} {o : Oper} {a : Act} {K : Act → World → Prop} {Q : Exit → Act → World → Prop} (sl x : Operand)
    (ho : o.op = .call { callee := .builtin .append, args := #[sl, x], argTypes := #[50, 50] }) (w : World) (c : Cl) (hW : W = w.alloc (.cells #[.string c.t, .string c.n, .string c.r, .int .u8 (c.sc : Int)] 56)) (base : Nat) (v : Value) (l : List Cl) (hs : a.eval sl = v)
    (hown : w.ownsRow base 56 4 v l.length (clCells l)) (hx : a.eval x = .slice (some ⟨w.heap.size, 0, none⟩) 1 1) (hb : l.length ≤ 2000000000) (hbase : base ≤ w.heap.size)
    (h : ∀ g m w', w'.ownsRow base 56 4 (.slice (some ⟨g, 0, none⟩) (l ++ [c]).length m) (l ++ [c]).length (clCells (l ++ [c])) → w.grownBy w' v.ownBlock → K (a.put o.dst (.slice (some ⟨g, 0, none⟩) (l ++ [c]).length m)) w') :
    o.wp Tryz.prog a W K Q := by
  subst hW
  obtain ⟨i0, hi, hz0, hz1, hz2⟩ := info_parts clInfo
  refine wp_append_own _ sl x 50 ho base 56 i0 _ 4 56 Tryz.underlying50 hi hz0 hz1 hz2 rfl (by decide) v l.length (clCells l) hs (hown.alloc _) ⟨w.heap.size, 0, none⟩ 1 1 [.string c.t, .string c.n, .string c.r, .int .u8 (c.sc : Int)] hx rfl (World.news_of_block (cs := #[.string c.t, .string c.n, .string c.r, .int .u8 (c.sc : Int)]) (t := 56) (fr := (0, 0)) (MapKept.heap_alloc w _).1) (by simp [Value.oneCell']) (by unfold maxLen; omega) (by omega) (by simp; omega) ?_
  intro v' w' h1 h2 h3
  rw [← clCells_snoc l c, show l.length + 1 = (l ++ [c]).length by simp] at h1
  obtain ⟨g, m, rfl⟩ := own_someU h1 (by simp)
  exact h g m w' h1 ((World.grownBy_alloc w _ _).trans h2)
theorem own_neU {w : World} {B n sz : Nat} {e : TypeId} {v : Value} {xs : List Value} (h : w.ownsRow B e sz v n xs) {k : Nat} {o : Obj} (hk : w.heap[k]? = some o) (ho : ∀ cs T fr, o ≠ .cells cs T fr) : v.ownBlock ≠ some k := fun e1 => by
  rcases h.2 with ⟨e2, _⟩ | ⟨g, cap, cur, e2, _, h3, _⟩
  · rw [e2] at e1
    cases e1
  · rw [e2] at e1
    have e3 : g = k := by simpa [Value.ownBlock] using e1
    rw [e3, hk] at h3
    exact ho _ _ _ (Option.some.inj h3)
theorem own_ne_range {w : World} {B n sz : Nat} {e : TypeId} {v : Value} {xs : List Value} (h : w.ownsRow B e sz v n xs) {H : Type} {k : TypeId} {R : Value → Option (DataW H × List MemPlace)} {b r c cnt : Nat} {D : DataW H} {left : Lit → Bool} (hr : w.ranges Tryz.prog k R b r c D left cnt) : v.ownBlock ≠ some b ∧ v.ownBlock ≠ some r := by
  obtain ⟨es, clock, since, seen, c0, hb, _, _, _, hrr, _⟩ := hr
  exact ⟨own_neU h hb (fun _ _ _ e => nomatch e), own_neU h hrr (fun _ _ _ e => nomatch e)⟩
/-- slices.SortFunc on a row of the call's own, which may be none -/
theorem sortOwn_any {w : World} {B n : Nat} {v : Value} {l : List Cl} (h : w.ownsRow B 56 4 v n (clCells l)) (hn : n = l.length) (hl : l.length ≤ 100000) :
    Calls Tryz.prog 62 #[v, .func (.func 63) #[] #[]] w fun e w' => e = .returned (.tuple #[]) ∧ ∃ S : List Cl, S.Perm l ∧ NameOrder S ∧ w'.ownsRow B 56 4 v S.length (clCells S) ∧ Below B w w' ∧ (∀ k, k < w.heap.size → v.ownBlock ≠ some k → w'.heap[k]? = w.heap[k]?) := by
  have h0 := h
  rcases h.2 with ⟨e, h1⟩ | ⟨g, c, cur, e, hB, hg, hc, hc9, hs, ht⟩
  · subst e
    have hn0 : l = [] := List.eq_nil_of_length_eq_zero (by omega)
    subst hn0
    have hcon := AnyF.slices_SortFunc_none Tryz.sortCl none 0 (.func (.func 63) #[] #[]) w
    change Calls Tryz.prog 62 _ _ _ at hcon
    refine hcon.mono ?_
    rintro _ _ ⟨rfl, rfl⟩
    exact ⟨rfl, [], .refl _, List.Pairwise.nil, by rw [h1] at h0; exact h0, Below.refl _ _, fun _ _ _ => rfl⟩
  · subst hn
    subst e
    refine (sortCl_any l g c w (holds_of_cl h0) (heap_lt hg) hl).mono ?_
    rintro _ w' ⟨rfl, S, p1, p2, p3, p4, p5⟩
    obtain ⟨cur', q1, q2⟩ := p5 _ _ _ hg
    refine ⟨rfl, S, p1, p2, cl_of_holds p3 q1 hB p1.length_eq.symm hc hc9 (by rw [q2, hs]), p4.below (by have := heap_lt hg; omega) (fun k hk => by rw [hk]; exact hB), fun k hk hne => p4.block k hk (fun e => hne (by rw [e]; rfl))⟩
end Go.Proofs.YtlkbojgemcjilaaGreatDoor
