/- Family, End, familyAt and spendError of package token, each by a contract. -/
import Derived.Test.YtlfajgmhegcnaaaKEnd
namespace Go.Proofs.Ytlfajgmhegcnaaa
open Go.RowKit Go.Maps Go.Sort Go.Shelf
set_option linter.unusedVariables false
set_option maxRecDepth 20000
set_option maxRecDepth 20000

/-- what Find tells of families -/
def fFind (next : Int) (l : List Fam.Sess) (id : Int) : Fam.Sess × Int :=
  if id < 1 ∨ next ≤ id then (Fam.sess0, 4)
  else match l.find? (fun s => s.id == id) with
    | none => (Fam.sess0, 12)
    | some s => (s, 0)
theorem fFind_ok {next : Int} {l : List Fam.Sess} {id : Int} (h : (fFind next l id).2 = 0) : (fFind next l id).1 ∈ l ∧ (fFind next l id).1.id = id := by
  unfold fFind at h ⊢
  split at h
  · cases h
  · rename_i h1
    rw [if_neg h1]
    cases hfd : l.find? (fun s => s.id == id) with
    | none => rw [hfd] at h; cases h
    | some s => exact ⟨List.mem_of_find?_eq_some hfd, by have := List.find?_some hfd; simpa using this⟩
theorem fFind_in {next : Int} {l : List Fam.Sess} (hup : l.Pairwise (fun a b => a.id < b.id)) {s : Fam.Sess} (hs : s ∈ l) (hx : 1 ≤ s.id ∧ s.id < next) : fFind next l s.id = (s, 0) := by
  unfold fFind
  rw [if_neg (by omega)]
  cases hfd : l.find? (fun t => t.id == s.id) with
  | none => have := List.find?_eq_none.1 hfd s hs; simp at this
  | some t =>
    have h1 := List.mem_of_find?_eq_some hfd
    have h2 : t.id = s.id := by have := List.find?_some hfd; simpa using this
    have : t = s := Nums1.eq (num := Fam.Sess.id) (hup.imp (fun h => by omega)) h1 hs h2
    rw [this]
theorem fFind_err {next : Int} {l : List Fam.Sess} {id : Int} (h : (fFind next l id).2 ≠ 0) : (fFind next l id).1 = Fam.sess0 := by
  unfold fFind at h ⊢
  split at h
  · rename_i h1; rw [if_pos h1]
  · rename_i h1
    rw [if_neg h1]
    cases hfd : l.find? (fun s => s.id == id) with
    | none => rfl
    | some s => rw [hfd] at h; exact absurd rfl h
theorem fam_find {w : World} {p o mb n : Nat} {next : Int} {l : List Fam.Sess} (h : Fam.NumAt w p o mb n next l) (hids : ∀ s ∈ l, 1 ≤ s.id ∧ s.id < next) (hn : next ≤ 1099511627777) (id : Int) :
    Calls Try.prog 35 #[.pointer (some ⟨p, o, none⟩), .int .i64 id] w fun e w' => e = .returned (.tuple #[Fam.sessV (fFind next l id).1, .int .i64 (fFind next l id).2]) ∧ Below w.heap.size w w' := by
  unfold fFind
  by_cases e1 : id < 1 ∨ next ≤ id
  · rw [if_pos e1]; exact Fam.find_none h id e1
  · rw [if_neg e1]
    cases hfd : l.find? (fun s => s.id == id) with
    | none => exact Fam.find_gone h id (by omega) hn (fun s hs e => by have := List.find?_eq_none.1 hfd s hs; simp [e] at this)
    | some s =>
      have hs : s ∈ l := List.mem_of_find?_eq_some hfd
      have hsid : s.id = id := by have := List.find?_some hfd; simpa using this
      subst hsid
      exact Fam.find_ok h s hs (hids s hs) hn

/-- the cells of the call's own first block -/
theorem own5 {w w2 : World} {t : Nat} {a b c d e : Value} (hb : Below (w.alloc (.cells #[a, b, c, d, e] t)).heap.size (w.alloc (.cells #[a, b, c, d, e] t)) w2) : w2.heap[w.heap.size]? = some (.cells #[a, b, c, d, e] t (0, 0)) := (hb.block _ (by simp)).trans (MapKept.heap_alloc w _).1
theorem own4 {w w2 : World} {t : Nat} {a b c d : Value} (hb : Below (w.alloc (.cells #[a, b, c, d] t)).heap.size (w.alloc (.cells #[a, b, c, d] t)) w2) : w2.heap[w.heap.size]? = some (.cells #[a, b, c, d] t (0, 0)) := (hb.block _ (by simp)).trans (MapKept.heap_alloc w _).1
theorem out_of_below {w w' : World} {B : Nat} (h : Below B w w') : Out (fun k => B ≤ k) w w' := ⟨h.os, h.tape, h.output, h.size, fun k hk hp => h.block k (by omega)⟩
theorem below_set5 {w w' : World} {B g : Nat} (h : Below B w w') (hB : B ≤ w.heap.size) (hg : B ≤ g) (a b c d e : Value) : Below B w (set5 w' g a b c d e) :=
  Out.below (P := fun k => B ≤ k) ((((((out_of_below h).setCell ⟨g, 0, none⟩ a hg).setCell ⟨g, 1, none⟩ b hg).setCell ⟨g, 2, none⟩ c hg).setCell ⟨g, 3, none⟩ d hg).setCell ⟨g, 4, none⟩ e hg) hB (fun k hk => hk)
theorem below_set4 {w w' : World} {B g : Nat} (h : Below B w w') (hB : B ≤ w.heap.size) (hg : B ≤ g) (a b c d : Value) : Below B w (set4 w' g a b c d) :=
  Out.below (P := fun k => B ≤ k) (((((out_of_below h).setCell ⟨g, 0, none⟩ a hg).setCell ⟨g, 1, none⟩ b hg).setCell ⟨g, 2, none⟩ c hg).setCell ⟨g, 3, none⟩ d hg) hB (fun k hk => hk)
theorem row5 {w : World} {g t : Nat} {a b c d e : Value} (h : w.heap[g]? = some (.cells #[a, b, c, d, e] t (0, 0))) : w.cell? ⟨g, 0, none⟩ = some a ∧ w.cell? ⟨g, 1, none⟩ = some b ∧ w.cell? ⟨g, 2, none⟩ = some c ∧ w.cell? ⟨g, 3, none⟩ = some d ∧ w.cell? ⟨g, 4, none⟩ = some e :=
  ⟨cell_of_row _ _ 0 _ _ _ h, cell_of_row _ _ 1 _ _ _ h, cell_of_row _ _ 2 _ _ _ h, cell_of_row _ _ 3 _ _ _ h, cell_of_row _ _ 4 _ _ _ h⟩
theorem row4 {w : World} {g t : Nat} {a b c d : Value} (h : w.heap[g]? = some (.cells #[a, b, c, d] t (0, 0))) : w.cell? ⟨g, 0, none⟩ = some a ∧ w.cell? ⟨g, 1, none⟩ = some b ∧ w.cell? ⟨g, 2, none⟩ = some c ∧ w.cell? ⟨g, 3, none⟩ = some d :=
  ⟨cell_of_row _ _ 0 _ _ _ h, cell_of_row _ _ 1 _ _ _ h, cell_of_row _ _ 2 _ _ _ h, cell_of_row _ _ 3 _ _ _ h⟩

set_option maxHeartbeats 1600000 in
theorem family_any {w : World} {B p mf mt n1 n2 : Nat} {T : Sto} (h : StoAt w B p mf mt n1 n2 T) (ok : StoOk T) (id : Int) :
    Calls Try.prog 13 #[.pointer (some ⟨p, 0, none⟩), .int .i64 id] w fun e w' => e = .returned (.tuple #[Fam.sessV (fFind T.nf T.fs id).1, .int .i64 (fFind T.nf T.fs id).2]) ∧ Below w.heap.size w w' := by
  have hb1 : Below w.heap.size w (w.alloc (.cells #[.int .i64 0, .int .i64 0, .string ⟨#[]⟩, .int .u8 0, .int .i64 0] 44)) := (Below.refl _ w).alloc (Nat.le_refl _) _
  have Hf := hid (fam_find (h.below hb1).numf ok.idf ok.nf.2 id)
  obtain ⟨x, hx⟩ : ∃ x, x = fFind T.nf T.fs id := ⟨_, rfl⟩
  rw [← hx] at Hf ⊢
  obtain ⟨⟨a, b, c, d, e⟩, z⟩ := x
  clear h ok hx
  unfold Fam.sessV at Hf ⊢
  dsimp only at Hf ⊢
  go_enter Try.func13, Try.ntmps13
  go_wp2_with (go_at_call 35; refine Hf.out.mono ?_; rintro e9 w2 ⟨rfl, hb2⟩; have f1 := own5 hb2; have q0 : w2.cell? ⟨w.heap.size, 0, none⟩ = some (.int .i64 0) := cell_of_row _ _ 0 _ _ _ f1; have v0 : w2.frozen? ⟨w.heap.size, 0, none⟩ = false := frozen_of_row _ _ 0 _ _ f1; have q1 : w2.cell? ⟨w.heap.size, 1, none⟩ = some (.int .i64 0) := cell_of_row _ _ 1 _ _ _ f1; have v1 : w2.frozen? ⟨w.heap.size, 1, none⟩ = false := frozen_of_row _ _ 1 _ _ f1; have q2 : w2.cell? ⟨w.heap.size, 2, none⟩ = some (.string ⟨#[]⟩) := cell_of_row _ _ 2 _ _ _ f1; have v2 : w2.frozen? ⟨w.heap.size, 2, none⟩ = false := frozen_of_row _ _ 2 _ _ f1; have q3 : w2.cell? ⟨w.heap.size, 3, none⟩ = some (.int .u8 0) := cell_of_row _ _ 3 _ _ _ f1; have v3 : w2.frozen? ⟨w.heap.size, 3, none⟩ = false := frozen_of_row _ _ 3 _ _ f1; have q4 : w2.cell? ⟨w.heap.size, 4, none⟩ = some (.int .i64 0) := cell_of_row _ _ 4 _ _ _ f1; have v4 : w2.frozen? ⟨w.heap.size, 4, none⟩ = false := frozen_of_row _ _ 4 _ _ f1; have hd := (Array.getElem?_eq_some_iff.1 f1).1; have F1 := hid f1; have HB2 := hid hb2; clear f1 hb2)
  obtain ⟨w7, hw7⟩ : ∃ w7, w7 = set5 w2 w.heap.size (.int .i64 a) (.int .i64 b) (.string c) (.int .u8 d) (.int .i64 e) := ⟨_, rfl⟩
  have f7 := set5_same F1.out (a := .int .i64 a) (b := .int .i64 b) (c := .string c) (d := .int .u8 d) (e := .int .i64 e)
  rw [← hw7] at f7
  show bodyPost _ _ _ _ _ (set5 w2 w.heap.size (.int .i64 a) (.int .i64 b) (.string c) (.int .u8 d) (.int .i64 e))
  rw [← hw7]
  obtain ⟨c0, c1, c2, c3, c4⟩ := row5 f7
  refine bodyPost_ret (v := .tuple #[.agg #[.int .i64 a, .int .i64 b, .string c, .int .u8 d, .int .i64 e], .int .i64 z]) (by simp [results, Try.results13, go_sem, c0, c1, c2, c3, c4]) rfl ⟨rfl, ?_⟩
  rw [hw7]
  exact below_set5 (hb1.trans (HB2.out.mono (by simp))) (Nat.le_refl _) (Nat.le_refl _) _ _ _ _ _

/-- is it this family? -/
def idB (id : Int) (s : Fam.Sess) : Bool := s.id == id
/-- what End does -/
def tEnd (T : Sto) (id : Int) : Sto := if (fFind T.nf T.fs id).2 ≠ 0 then T else tDrop T (idB id)
theorem tEnd_ok {T : Sto} (ok : StoOk T) (id : Int) : StoOk (tEnd T id) := by
  unfold tEnd
  split
  · exact ok
  · exact tDrop_ok ok _

end Go.Proofs.Ytlfajgmhegcnaaa
