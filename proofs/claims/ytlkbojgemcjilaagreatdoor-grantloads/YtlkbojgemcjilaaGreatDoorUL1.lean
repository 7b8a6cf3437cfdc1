/- YtlkbojgemcjilaaGreatDoorUG1K + YtlkbojgemcjilaaGreatDoorUL1 -/
import Derived.Test.YtlkbojgemcjilaaGreatDoorUDK
/- Grants: deeds in a row. -/
namespace Go.Proofs.YtlkbojgemcjilaaGreatDoor
open Go.RowKit Go.Maps Go.Shelf Go.Sort Go.Lib
set_option linter.unusedVariables false
set_option maxRecDepth 20000
/-- deeds that lie in a row of the world -/
structure GDs (w : World) (a : Option Addr) (l : List GDeed) : Prop where
  cells : ∀ i (h : i < l.length), ∃ b o, a = some ⟨b, o, none⟩ ∧ w.cell? ⟨b, o + i * 6, none⟩ = some (.int .i64 l[i].kind) ∧ w.cell? ⟨b, o + i * 6 + 1, none⟩ = some (.string l[i].t) ∧ w.cell? ⟨b, o + i * 6 + 2, none⟩ = some (.string l[i].u) ∧ w.cell? ⟨b, o + i * 6 + 3, none⟩ = some (.string l[i].n) ∧ w.cell? ⟨b, o + i * 6 + 4, none⟩ = some (.string l[i].r) ∧ w.cell? ⟨b, o + i * 6 + 5, none⟩ = some (.int .u8 (l[i].sc : Int))
  ok : ∀ x ∈ l, x.Ok
  length : l.length ≤ maxLen
theorem GDs.at {w w' : World} {a : Option Addr} {l : List GDeed} (h : GDs w a l) (hb : Below w.heap.size w w') {k : Nat} {x : GDeed} (hx : l[k]? = some x) : ∃ b o, a = some ⟨b, o, none⟩ ∧ w'.cell? ⟨b, o + k * 6, none⟩ = some (.int .i64 x.kind) ∧ w'.cell? ⟨b, o + k * 6 + 1, none⟩ = some (.string x.t) ∧ w'.cell? ⟨b, o + k * 6 + 2, none⟩ = some (.string x.u) ∧ w'.cell? ⟨b, o + k * 6 + 3, none⟩ = some (.string x.n) ∧ w'.cell? ⟨b, o + k * 6 + 4, none⟩ = some (.string x.r) ∧ w'.cell? ⟨b, o + k * 6 + 5, none⟩ = some (.int .u8 (x.sc : Int)) ∧ x.Ok := by
  obtain ⟨h1, h2⟩ := List.getElem?_eq_some_iff.1 hx
  obtain ⟨b, o, e, c0, c1, c2, c3, c4, c5⟩ := h.cells k h1
  rw [h2] at c0 c1 c2 c3 c4 c5
  have q := h.ok x (List.mem_of_getElem? hx)
  have f : ∀ {j : Nat} {v : Value}, w.cell? ⟨b, j, none⟩ = some v → w'.cell? ⟨b, j, none⟩ = some v := fun hc => (hb.cell (World.block_lt_of_cell? _ _ hc)).trans hc
  exact ⟨b, o, e, f c0, f c1, f c2, f c3, f c4, f c5, q⟩
theorem ownsRow_monoU {w : World} {B B' n sz : Nat} {e : TypeId} {v : Value} {xs : List Value} (h : w.ownsRow B e sz v n xs) (hB : B' ≤ B) : w.ownsRow B' e sz v n xs := by
  refine ⟨h.1, ?_⟩
  rcases h.2 with h0 | ⟨g, cap, cur, e1, hb, rest⟩
  · exact .inl h0
  · exact .inr ⟨g, cap, cur, e1, Nat.le_trans hB hb, rest⟩
theorem RG.mono {w : World} {B B' g : Nat} {s : GS} (h : RG w B g s) (hB : B' ≤ B) : RG w B' g s := by
  obtain ⟨cv, av, h1, h2, h3, h4⟩ := h
  exact ⟨cv, av, h1, ownsRow_monoU h2 hB, ownsRow_monoU h3 hB, Nat.le_trans hB h4⟩
theorem measG {N k : Nat} (h : k < N) : N - (intOf (.int .i64 (((k + 1 : Nat) : Int)))).toNat < N - (intOf (.int .i64 (k : Int))).toNat := by
  simp [intOf]
  omega
theorem nar_trans {x a c : Nat} (h1 : x &&& a = x) (h2 : a &&& c = a) : x &&& c = x := by
  rw [← h1, Nat.and_assoc, h2]
theorem pair_eq {α : Type} {R : α → α → Prop} (hs : ∀ a b, R a b → R b a) {l : List α} (h : l.Pairwise R) {a b : α} (ha : a ∈ l) (hb : b ∈ l) (hn : ¬ R a b) : a = b := by
  induction h with
  | nil => cases ha
  | cons h1 h2 ih =>
    rcases List.mem_cons.1 ha with rfl | ha' <;> rcases List.mem_cons.1 hb with rfl | hb'
    · rfl
    · exact absurd (h1 _ hb') hn
    · exact absurd (hs _ _ (h1 _ ha')) hn
    · exact ih ha' hb'
theorem gok_find {s : GS} (ok : s.Ok) {t u n : ByteArray} {a : Co} (h : fA s t u n = some a) : ∃ c, findC s t n = some c ∧ a.sc ≤ 255 ∧ c.sc ≤ 255 ∧ a.sc &&& c.sc = a.sc := by
  have h1 := List.find?_some h
  have h2 := List.mem_of_find?_eq_some h
  have h3 := isA_iff.1 h1
  obtain ⟨_, _, h5, c, hc, e1, e2, e3⟩ := ok.anames a h2
  cases hf : findC s t n with
  | none =>
    have := List.find?_eq_none.1 hf c hc
    exact absurd (isC_iff.2 ⟨e1.trans h3.1, e2.trans h3.2.2⟩) this
  | some c' =>
    have q1 := List.find?_some hf
    have q2 := List.mem_of_find?_eq_some hf
    have q3 := isC_iff.1 q1
    have : c' = c := by
      exact pair_eq (R := fun a b : Cl => ¬ (a.t = b.t ∧ a.n = b.n)) (fun _ _ h hh => h ⟨hh.1.symm, hh.2.symm⟩) ok.keys q2 hc (fun hne => hne ⟨q3.1.trans (e1.trans h3.1).symm, q3.2.trans (e2.trans h3.2.2).symm⟩)
    subst this
    exact ⟨c', rfl, h5, (ok.names c' q2).2.2.2, e3⟩
end Go.Proofs.YtlkbojgemcjilaaGreatDoor

/- GrantLess: mathematics of narrowing twice; two stores side by side. -/
namespace Go.Proofs.YtlkbojgemcjilaaGreatDoor
open Go.RowKit Go.Maps Go.Shelf Go.Sort Go.Lib
set_option linter.unusedVariables false
set_option maxRecDepth 20000
theorem findC_nar (s : GS) (t n : ByteArray) (m : Nat) : findC (s.nar t n m) t n = (findC s t n).map (narC m) := by
  unfold findC
  show List.find? (isC t n) (s.cs.map (narCs t n m)) = _
  rw [List.find?_map]
  have e : (isC t n ∘ narCs t n m) = isC t n := funext fun c => by
    obtain ⟨e1, e2, _⟩ := narCs_key t n m c
    show isC t n (narCs t n m c) = isC t n c
    unfold isC
    rw [e1, e2]
  rw [e]
  cases hf : s.cs.find? (isC t n) with
  | none => rfl
  | some c =>
    have h1 := List.find?_some hf
    show some (narCs t n m c) = some (narC m c)
    unfold narCs
    rw [if_pos h1]
theorem narCs_twice (t n : ByteArray) (x y : Nat) (c : Cl) : narCs t n y (narCs t n x c) = narCs t n (x &&& y) c := by
  by_cases h : isC t n c = true
  · have e1 : narCs t n x c = narC x c := by unfold narCs; rw [if_pos h]
    have e2 : narCs t n (x &&& y) c = narC (x &&& y) c := by unfold narCs; rw [if_pos h]
    have h2 : isC t n (narC x c) = true := h
    have e3 : narCs t n y (narC x c) = narC y (narC x c) := by unfold narCs; rw [if_pos h2]
    rw [e1, e2, e3]
    show (⟨c.t, c.n, c.r, (c.sc &&& x) &&& y⟩ : Cl) = ⟨c.t, c.n, c.r, c.sc &&& (x &&& y)⟩
    rw [Nat.and_assoc]
  · have e1 : ∀ m, narCs t n m c = c := fun m => by unfold narCs; rw [if_neg h]
    rw [e1, e1, e1]
theorem narAs_twice (t n : ByteArray) (x y : Nat) (c : Co) : narAs t n y (narAs t n x c) = narAs t n (x &&& y) c := by
  by_cases h : ofC t n c = true
  · have e1 : narAs t n x c = narA x c := by unfold narAs; rw [if_pos h]
    have e2 : narAs t n (x &&& y) c = narA (x &&& y) c := by unfold narAs; rw [if_pos h]
    have h2 : ofC t n (narA x c) = true := h
    have e3 : narAs t n y (narA x c) = narA y (narA x c) := by unfold narAs; rw [if_pos h2]
    rw [e1, e2, e3]
    show (⟨c.t, c.u, c.n, (c.sc &&& x) &&& y⟩ : Co) = ⟨c.t, c.u, c.n, c.sc &&& (x &&& y)⟩
    rw [Nat.and_assoc]
  · have e1 : ∀ m, narAs t n m c = c := fun m => by unfold narAs; rw [if_neg h]
    rw [e1, e1, e1]
theorem nar_nar (s : GS) (t n : ByteArray) (x y : Nat) : (s.nar t n x).nar t n y = s.nar t n (x &&& y) := by
  show (⟨(s.cs.map (narCs t n x)).map (narCs t n y), (s.al.map (narAs t n x)).map (narAs t n y)⟩ : GS) = ⟨s.cs.map (narCs t n (x &&& y)), s.al.map (narAs t n (x &&& y))⟩
  rw [List.map_map, List.map_map]
  congr 1
  · exact List.map_congr_left fun c _ => narCs_twice t n x y c
  · exact List.map_congr_left fun c _ => narAs_twice t n x y c
theorem and_255 {a : Nat} (h : a ≤ 255) : a &&& 255 = a := by
  have h1 := Nat.and_two_pow_sub_one_eq_mod a 8
  rw [show (2 ^ 8 - 1 : Nat) = 255 from rfl] at h1
  rw [h1]
  exact Nat.mod_eq_of_lt (by omega)
theorem narRs_le {s : GS} (t n : ByteArray) (m : Nat) (hm : m ≤ 255) : narRs s t n m ≤ 255 := by
  unfold narRs
  cases findC s t n with
  | none => exact Nat.zero_le _
  | some c => exact Nat.le_trans Nat.and_le_right hm
/-- what narrowing twice, once and by all leave -/
theorem less_facts (s : GS) (t n : ByteArray) (x y : Nat) (hx : x ≤ 255) (hy : y ≤ 255) : ∃ (a b : Nat) (e : Int) (S' : GS), narRs s t n x = a ∧ noneE (findC s t n).isSome = e ∧ narRs (s.nar t n x) t n y = b ∧ noneE (findC (s.nar t n x) t n).isSome = e ∧ narRs s t n (x &&& y) = b ∧ narRs ((s.nar t n x).nar t n y) t n 255 = b ∧ noneE (findC ((s.nar t n x).nar t n y) t n).isSome = e ∧ a ≤ 255 ∧ b ≤ 255 ∧ a &&& b = b ∧ ((s.nar t n x).nar t n y).nar t n 255 = S' ∧ s.nar t n (x &&& y) = S' := by
  have hxy : x &&& y ≤ 255 := Nat.le_trans Nat.and_le_left hx
  refine ⟨_, narRs s t n (x &&& y), _, s.nar t n (x &&& y), rfl, rfl, ?_, ?_, rfl, ?_, ?_, narRs_le t n x hx, narRs_le t n _ hxy, ?_, ?_, rfl⟩
  · unfold narRs
    rw [findC_nar]
    cases findC s t n with
    | none => rfl
    | some c => exact Nat.and_assoc _ _ _
  · rw [findC_nar, Option.isSome_map]
  · unfold narRs
    rw [nar_nar, findC_nar]
    cases findC s t n with
    | none => rfl
    | some c =>
      show (c.sc &&& (x &&& y)) &&& 255 = c.sc &&& (x &&& y)
      exact and_255 (Nat.le_trans Nat.and_le_right hxy)
  · rw [nar_nar, findC_nar, Option.isSome_map]
  · unfold narRs
    cases findC s t n with
    | none => exact (show (0 : Nat) &&& 0 = 0 from by decide)
    | some c =>
      show (c.sc &&& x) &&& (c.sc &&& (x &&& y)) = c.sc &&& (x &&& y)
      rw [← Nat.and_assoc c.sc x y, ← Nat.and_assoc (c.sc &&& x) (c.sc &&& x) y, Nat.and_self]
  · rw [nar_nar, nar_nar, and_255 hy]
/-- two stores side by side, and a block of another kind -/
structure Two (w : World) (B g h : Nat) (s t : GS) (c : Nat) : Prop where
  at' : ∃ X Y, GP w B g s c c X ∧ GP w B h t c c Y ∧ ∀ k, X k → ¬ Y k
section
variable {w w' : World} {B g h c : Nat} {s t s' : GS}
theorem Two.below (p : Two w B g h s t c) (hb : Below w.heap.size w w') : Two w' B g h s t c := by
  obtain ⟨X, Y, h1, h2, h3⟩ := p
  exact ⟨X, Y, h1.below hb, h2.below hb, h3⟩
theorem Two.ok1 (p : Two w B g h s t c) : s.Ok := by
  obtain ⟨X, Y, h1, h2, h3⟩ := p
  exact h1.ok
theorem Two.ok2 (p : Two w B g h s t c) : t.Ok := by
  obtain ⟨X, Y, h1, h2, h3⟩ := p
  exact h2.ok
/-- what is kept of other blocks -/
def KpS (V V' : World) : Prop := ∀ (k : Nat) (cs : Array Value) (T : TypeId) (fr : Nat × Nat), V.heap[k]? = some (.cells cs T fr) → T ≠ 49 → T ≠ 66 → V'.heap[k]? = some (.cells cs T fr)
theorem Two.nar1 (p : Two w B g h s t c) (hc : c ≤ 100000) (q n : ByteArray) (m : Nat) (ht : q.size ≤ maxLen) (hn : n.size ≤ maxLen) (hm : m ≤ 255) :
    Calls Tryz.prog 18 #[.pointer (some ⟨g, 0, none⟩), .string q, .string n, .int .u8 (m : Int)] w fun e w' => e = .returned (.tuple #[.int .u8 (narRs s q n m : Nat), .int .i64 (noneE (findC s q n).isSome)]) ∧ Two w' B g h (s.nar q n m) t c ∧ KpS w w' ∧ Below B w w' := by
  obtain ⟨X, Y, h1, h2, h3⟩ := p
  refine (gNarrow_any h1 (by omega) q n m ht hn hm).mono ?_
  rintro e w' ⟨rfl, T⟩
  have hb := T.below h1
  obtain ⟨ho, X', h5, h6⟩ := T
  refine ⟨rfl, ⟨X', Y, h5, h2.outJ ho (fun k hk hx => h3 k hx hk), fun k hx hy => ?_⟩, fun k cs T fr hk n1 n2 => h1.keep ho hk n1 n2, hb⟩
  rcases h6 k hx with h7 | h7
  · exact h3 k h7 hy
  · have := h2.lt k hy
    omega
theorem Two.nar2 (p : Two w B g h s t c) (hc : c ≤ 100000) (q n : ByteArray) (m : Nat) (ht : q.size ≤ maxLen) (hn : n.size ≤ maxLen) (hm : m ≤ 255) :
    Calls Tryz.prog 18 #[.pointer (some ⟨h, 0, none⟩), .string q, .string n, .int .u8 (m : Int)] w fun e w' => e = .returned (.tuple #[.int .u8 (narRs t q n m : Nat), .int .i64 (noneE (findC t q n).isSome)]) ∧ Two w' B g h s (t.nar q n m) c ∧ KpS w w' ∧ Below B w w' := by
  obtain ⟨X, Y, h1, h2, h3⟩ := p
  refine (gNarrow_any h2 (by omega) q n m ht hn hm).mono ?_
  rintro e w' ⟨rfl, T⟩
  have hb := T.below h2
  obtain ⟨ho, Y', h5, h6⟩ := T
  refine ⟨rfl, ⟨X, Y', h1.outJ ho (fun k hk hy => h3 k hk hy), h5, fun k hx hy => ?_⟩, fun k cs T fr hk n1 n2 => h2.keep ho hk n1 n2, hb⟩
  rcases h6 k hy with h7 | h7
  · exact h3 k hx h7
  · have := h1.lt k hx
    omega
end
end Go.Proofs.YtlkbojgemcjilaaGreatDoor
