/- Family, End, familyAt and spendError of package token, each by a contract. -/
import Derived.Test.YtmnhhomkglffcaaGreatDoorKEnd
namespace Go.Proofs.YtmnhhomkglffcaaGreatDoor
open Go.RowKit Go.Maps Go.Sort Go.Shelf
set_option linter.unusedVariables false
set_option maxRecDepth 20000

/-- what Find tells of families -/
def fFind (next : Int) (l : List Fam.Sess) (id : Int) : Fam.Sess × Int :=
  if id < 1 ∨ next ≤ id then (Fam.sess0, 4)
  else match l.find? (fun s => s.id == id) with
    | none => (Fam.sess0, 12)
    | some s => (s, 0)
theorem fFind_ok {next : Int} {l : List Fam.Sess} {id : Int} (h : (fFind next l id).2 = 0) : (fFind next l id).1 ∈ l ∧ (fFind next l id).1.id = id := by
  unfold fFind at h ⊢
  split at h
  · cases h
  · rename_i h1
    rw [if_neg h1]
    cases hfd : l.find? (fun s => s.id == id) with
    | none => rw [hfd] at h; cases h
    | some s => exact ⟨List.mem_of_find?_eq_some hfd, by have := List.find?_some hfd; simpa using this⟩
theorem fFind_in {next : Int} {l : List Fam.Sess} (hup : l.Pairwise (fun a b => a.id < b.id)) {s : Fam.Sess} (hs : s ∈ l) (hx : 1 ≤ s.id ∧ s.id < next) : fFind next l s.id = (s, 0) := by
  unfold fFind
  rw [if_neg (by omega)]
  cases hfd : l.find? (fun t => t.id == s.id) with
  | none => have := List.find?_eq_none.1 hfd s hs; simp at this
  | some t =>
    have h1 := List.mem_of_find?_eq_some hfd
    have h2 : t.id = s.id := by have := List.find?_some hfd; simpa using this
    have : t = s := Nums1.eq (num := Fam.Sess.id) (hup.imp (fun h => by omega)) h1 hs h2
    rw [this]
theorem fFind_err {next : Int} {l : List Fam.Sess} {id : Int} (h : (fFind next l id).2 ≠ 0) : (fFind next l id).1 = Fam.sess0 := by
  unfold fFind at h ⊢
  split at h
  · rename_i h1; rw [if_pos h1]
  · rename_i h1
    rw [if_neg h1]
    cases hfd : l.find? (fun s => s.id == id) with
    | none => rfl
    | some s => rw [hfd] at h; exact absurd rfl h
theorem fam_find {w : World} {p o mb n : Nat} {next : Int} {l : List Fam.Sess} (h : Fam.NumAt w p o mb n next l) (hids : ∀ s ∈ l, 1 ≤ s.id ∧ s.id < next) (hn : next ≤ 1099511627777) (id : Int) :
    Calls Tryz.prog 37 #[.pointer (some ⟨p, o, none⟩), .int .i64 id] w fun e w' => e = .returned (.tuple #[Fam.sessV (fFind next l id).1, .int .i64 (fFind next l id).2]) ∧ Below w.heap.size w w' := by
  unfold fFind
  by_cases e1 : id < 1 ∨ next ≤ id
  · rw [if_pos e1]; exact Fam.find_none h id e1
  · rw [if_neg e1]
    cases hfd : l.find? (fun s => s.id == id) with
    | none => exact Fam.find_gone h id (by omega) hn (fun s hs e => by have := List.find?_eq_none.1 hfd s hs; simp [e] at this)
    | some s =>
      have hs : s ∈ l := List.mem_of_find?_eq_some hfd
      have hsid : s.id = id := by have := List.find?_some hfd; simpa using this
      subst hsid
      exact Fam.find_ok h s hs (hids s hs) hn

/-- the cells of the call's own first block -/
theorem own5 {w w2 : World} {t : Nat} {a b c d e : Value} (hb : Below (w.alloc (.cells #[a, b, c, d, e] t)).heap.size (w.alloc (.cells #[a, b, c, d, e] t)) w2) : w2.heap[w.heap.size]? = some (.cells #[a, b, c, d, e] t (0, 0)) := (hb.block _ (by simp)).trans (MapKept.heap_alloc w _).1
theorem own4 {w w2 : World} {t : Nat} {a b c d : Value} (hb : Below (w.alloc (.cells #[a, b, c, d] t)).heap.size (w.alloc (.cells #[a, b, c, d] t)) w2) : w2.heap[w.heap.size]? = some (.cells #[a, b, c, d] t (0, 0)) := (hb.block _ (by simp)).trans (MapKept.heap_alloc w _).1
theorem out_of_below {w w' : World} {B : Nat} (h : Below B w w') : Out (fun k => B ≤ k) w w' := ⟨h.os, h.tape, h.output, h.size, fun k hk hp => h.block k (by omega)⟩
theorem below_set5 {w w' : World} {B g : Nat} (h : Below B w w') (hB : B ≤ w.heap.size) (hg : B ≤ g) (a b c d e : Value) : Below B w (set5 w' g a b c d e) :=
  Out.below (P := fun k => B ≤ k) ((((((out_of_below h).setCell ⟨g, 0, none⟩ a hg).setCell ⟨g, 1, none⟩ b hg).setCell ⟨g, 2, none⟩ c hg).setCell ⟨g, 3, none⟩ d hg).setCell ⟨g, 4, none⟩ e hg) hB (fun k hk => hk)
theorem below_set4 {w w' : World} {B g : Nat} (h : Below B w w') (hB : B ≤ w.heap.size) (hg : B ≤ g) (a b c d : Value) : Below B w (set4 w' g a b c d) :=
  Out.below (P := fun k => B ≤ k) (((((out_of_below h).setCell ⟨g, 0, none⟩ a hg).setCell ⟨g, 1, none⟩ b hg).setCell ⟨g, 2, none⟩ c hg).setCell ⟨g, 3, none⟩ d hg) hB (fun k hk => hk)
theorem row5 {w : World} {g t : Nat} {a b c d e : Value} (h : w.heap[g]? = some (.cells #[a, b, c, d, e] t (0, 0))) : w.cell? ⟨g, 0, none⟩ = some a ∧ w.cell? ⟨g, 1, none⟩ = some b ∧ w.cell? ⟨g, 2, none⟩ = some c ∧ w.cell? ⟨g, 3, none⟩ = some d ∧ w.cell? ⟨g, 4, none⟩ = some e :=
  ⟨cell_of_row _ _ 0 _ _ _ h, cell_of_row _ _ 1 _ _ _ h, cell_of_row _ _ 2 _ _ _ h, cell_of_row _ _ 3 _ _ _ h, cell_of_row _ _ 4 _ _ _ h⟩
theorem row4 {w : World} {g t : Nat} {a b c d : Value} (h : w.heap[g]? = some (.cells #[a, b, c, d] t (0, 0))) : w.cell? ⟨g, 0, none⟩ = some a ∧ w.cell? ⟨g, 1, none⟩ = some b ∧ w.cell? ⟨g, 2, none⟩ = some c ∧ w.cell? ⟨g, 3, none⟩ = some d :=
  ⟨cell_of_row _ _ 0 _ _ _ h, cell_of_row _ _ 1 _ _ _ h, cell_of_row _ _ 2 _ _ _ h, cell_of_row _ _ 3 _ _ _ h⟩

set_option maxHeartbeats 1600000 in
theorem family_any {w : World} {B p mf mt n1 n2 : Nat} {T : Sto} (h : StoAt w B p mf mt n1 n2 T) (ok : StoOk T) (id : Int) :
    Calls Tryz.prog 10 #[.pointer (some ⟨p, 0, none⟩), .int .i64 id] w fun e w' => e = .returned (.tuple #[Fam.sessV (fFind T.nf T.fs id).1, .int .i64 (fFind T.nf T.fs id).2]) ∧ Below w.heap.size w w' := by
  have hb1 : Below w.heap.size w (w.alloc (.cells #[.int .i64 0, .int .i64 0, .string ⟨#[]⟩, .int .u8 0, .int .i64 0] 35)) := (Below.refl _ w).alloc (Nat.le_refl _) _
  have Hf := hid (fam_find (h.below hb1).numf ok.idf ok.nf.2 id)
  obtain ⟨x, hx⟩ : ∃ x, x = fFind T.nf T.fs id := ⟨_, rfl⟩
  rw [← hx] at Hf ⊢
  obtain ⟨⟨a, b, c, d, e⟩, z⟩ := x
  clear h ok hx
  unfold Fam.sessV at Hf ⊢
  dsimp only at Hf ⊢
  go_enter Tryz.func10, Tryz.ntmps10
  go_wp2_with (go_at_call 37; refine Hf.out.mono ?_; rintro e9 w2 ⟨rfl, hb2⟩; have f1 := own5 hb2; have q0 : w2.cell? ⟨w.heap.size, 0, none⟩ = some (.int .i64 0) := cell_of_row _ _ 0 _ _ _ f1; have v0 : w2.frozen? ⟨w.heap.size, 0, none⟩ = false := frozen_of_row _ _ 0 _ _ f1; have q1 : w2.cell? ⟨w.heap.size, 1, none⟩ = some (.int .i64 0) := cell_of_row _ _ 1 _ _ _ f1; have v1 : w2.frozen? ⟨w.heap.size, 1, none⟩ = false := frozen_of_row _ _ 1 _ _ f1; have q2 : w2.cell? ⟨w.heap.size, 2, none⟩ = some (.string ⟨#[]⟩) := cell_of_row _ _ 2 _ _ _ f1; have v2 : w2.frozen? ⟨w.heap.size, 2, none⟩ = false := frozen_of_row _ _ 2 _ _ f1; have q3 : w2.cell? ⟨w.heap.size, 3, none⟩ = some (.int .u8 0) := cell_of_row _ _ 3 _ _ _ f1; have v3 : w2.frozen? ⟨w.heap.size, 3, none⟩ = false := frozen_of_row _ _ 3 _ _ f1; have q4 : w2.cell? ⟨w.heap.size, 4, none⟩ = some (.int .i64 0) := cell_of_row _ _ 4 _ _ _ f1; have v4 : w2.frozen? ⟨w.heap.size, 4, none⟩ = false := frozen_of_row _ _ 4 _ _ f1; have hd := (Array.getElem?_eq_some_iff.1 f1).1; have F1 := hid f1; have HB2 := hid hb2; clear f1 hb2)
  obtain ⟨w7, hw7⟩ : ∃ w7, w7 = set5 w2 w.heap.size (.int .i64 a) (.int .i64 b) (.string c) (.int .u8 d) (.int .i64 e) := ⟨_, rfl⟩
  have f7 := set5_same F1.out (a := .int .i64 a) (b := .int .i64 b) (c := .string c) (d := .int .u8 d) (e := .int .i64 e)
  rw [← hw7] at f7
  show bodyPost _ _ _ _ _ (set5 w2 w.heap.size (.int .i64 a) (.int .i64 b) (.string c) (.int .u8 d) (.int .i64 e))
  rw [← hw7]
  obtain ⟨c0, c1, c2, c3, c4⟩ := row5 f7
  refine bodyPost_ret (v := .tuple #[.agg #[.int .i64 a, .int .i64 b, .string c, .int .u8 d, .int .i64 e], .int .i64 z]) (by simp [results, Tryz.results10, go_sem, c0, c1, c2, c3, c4]) rfl ⟨rfl, ?_⟩
  rw [hw7]
  exact below_set5 (hb1.trans (HB2.out.mono (by simp))) (Nat.le_refl _) (Nat.le_refl _) _ _ _ _ _

/-- is it this family? -/
def idB (id : Int) (s : Fam.Sess) : Bool := s.id == id
set_option maxHeartbeats 800000 in
theorem endC_any (s : Fam.Sess) (x : Int) (b : Nat) (w : World) (hc0 : w.cell? ⟨b, 0, none⟩ = some (.int .i64 x)) :
    Calls Tryz.prog 64 #[.agg #[.int .i64 s.id, .int .i64 s.ses, .string s.cli, .int .u8 s.sco, .int .i64 s.nxt], .pointer (some ⟨b, 0, none⟩)] w fun e w' => e = .returned (.bool (idB x s)) ∧ Below w.heap.size w w' := by
  have hb := World.block_lt_of_cell? _ _ hc0
  go_enter Tryz.func64, Tryz.ntmps64
  go_wp2
  all_goals go_ret
  all_goals exact ⟨ret_bool (by unfold idB; simp [*]), (Below.refl _ _).alloc (Nat.le_refl _) _⟩
theorem eg_endC : ∀ args w, (callFunc 64 args).run Tryz.prog w = .ok (.enter 64 args) w := enters_of Tryz.func64 (by kernel_rfl) rfl

/-- what End does -/
def tEnd (T : Sto) (id : Int) : Sto := if (fFind T.nf T.fs id).2 ≠ 0 then T else tDrop T (idB id)
theorem tEnd_ok {T : Sto} (ok : StoOk T) (id : Int) : StoOk (tEnd T id) := by
  unfold tEnd
  split
  · exact ok
  · exact tDrop_ok ok _

set_option maxHeartbeats 1600000 in
theorem end_any {w : World} {B p mf mt n1 n2 : Nat} {T : Sto} (h : StoAt w B p mf mt n1 n2 T) (ok : StoOk T) (hln : T.fs.length ≤ 1000000000) (hlt : T.ts.length ≤ 1000000000) (id : Int) :
    Calls Tryz.prog 24 #[.pointer (some ⟨p, 0, none⟩), .int .i64 id] w fun e w' => e = .returned (.int .i64 (fFind T.nf T.fs id).2) ∧ StoAt w' B p mf mt n1 n2 (tEnd T id) ∧ Out (Mine p mf mt) w w' := by
  have hmf' : ∀ (fn : Fn) (first cap : Array Value) (w : World), (Instr.makeFunc fn first cap).run Tryz.prog w = .ok (.func fn first cap) w := fun _ _ _ _ => rfl
  have hb1 : Below w.heap.size w (w.alloc (.cells #[.int .i64 id] 3)) := (Below.refl _ w).alloc (Nat.le_refl _) _
  have h1 := h.below hb1
  have Hf := hid (family_any h1 ok id)
  have He : Hid (∀ W, Below (w.alloc (.cells #[.int .i64 id] 3)).heap.size (w.alloc (.cells #[.int .i64 id] 3)) W → Calls Tryz.prog 34 #[.pointer (some ⟨p, 0, none⟩), .func (.func 64) #[] #[.pointer (some ⟨w.heap.size, 0, none⟩)]] W fun e w' => ∃ v, e = .returned v ∧ StoAt w' B p mf mt n1 n2 (tDrop T (idB id)) ∧ Out (Mine p mf mt) W w') := fun W hW => by
    refine (ends_any (h1.below hW) ok hln hlt (idB id) 64 #[.pointer (some ⟨w.heap.size, 0, none⟩)] eg_endC (fun s hs W' hW' => ?_)).mono ?_
    · refine endC_any s id w.heap.size W' ?_
      rw [hW'.cell (p := ⟨w.heap.size, 0, none⟩) (by have := hW.size; simp at this; show w.heap.size < W.heap.size; omega), hW.cell (p := ⟨w.heap.size, 0, none⟩) (by simp), World.cell?_alloc_at _ _ _ _ rfl]; rfl
    · rintro e w' ⟨v, rfl, hrow, hst, ho⟩
      exact ⟨v, rfl, hst, ho⟩
  have H1 := hid h1
  obtain ⟨x, hx⟩ : ∃ x, x = fFind T.nf T.fs id := ⟨_, rfl⟩
  have e1 : tEnd T id = if x.2 ≠ 0 then T else tDrop T (idB id) := by unfold tEnd; rw [hx]
  rw [e1]
  rw [← hx] at Hf ⊢
  clear hx e1
  obtain ⟨⟨a, b, c, d, e⟩, z⟩ := x
  unfold Fam.sessV at Hf
  dsimp only at Hf ⊢
  have hp := h.lts.1
  clear h h1 ok hln hlt
  by_cases hz : z = 0
  · subst hz
    rw [if_neg (by simp)]
    go_enter Tryz.func24, Tryz.ntmps24
    go_wp2_with (first
      | (go_at_call 10; refine Hf.out.mono ?_; rintro e9 w2 ⟨rfl, hb2⟩; have hd2 : w.heap.size < w2.heap.size := (by have := hb2.size; simp at this; omega); have hb3 := hb2.alloc hb2.size (.cells #[.int .i64 a, .int .i64 b, .string c, .int .u8 d, .int .i64 e] 35); have HE := hid (He.out _ hb3); have HB3 := hid hb3; clear hb3 hb2)
      | (go_at_call 34; refine HE.out.mono ?_; rintro e9 w4 ⟨v, rfl, hst, ho⟩))
    go_ret
    exact ⟨rfl, hst, ((Out.of_below (P := Mine p mf mt) hb1).trans (Out.of_below HB3.out) (fun _ _ e => e)).trans ho (fun _ _ e => e)⟩
  · rw [if_pos hz]
    have q4 : (z != 0) = true := by simpa using hz
    go_enter Tryz.func24, Tryz.ntmps24
    go_wp2_with (go_at_call 10; refine Hf.out.mono ?_; rintro e9 w2 ⟨rfl, hb2⟩; have hd2 : w.heap.size < w2.heap.size := (by have := hb2.size; simp at this; omega); have HB2 := hid hb2; clear hb2)
    go_ret
    have hb3 := HB2.out.alloc HB2.out.size (.cells #[.int .i64 a, .int .i64 b, .string c, .int .u8 d, .int .i64 e] 35)
    exact ⟨rfl, H1.out.below hb3, (Out.of_below (P := Mine p mf mt) hb1).trans (Out.of_below hb3) (fun _ _ e => e)⟩
end Go.Proofs.YtmnhhomkglffcaaGreatDoor
