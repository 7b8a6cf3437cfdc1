/- The reference's store in memory; its New, time and find, each by a contract. -/
import Derived.Test.YtmnhhomkglffcaaGreatDoorKR1
namespace Go.Proofs.YtmnhhomkglffcaaGreatDoor
open Go.RowKit Go.Maps Go.Sort Go.Shelf
set_option linter.unusedVariables false
set_option maxRecDepth 20000

/-- the reference's store in memory -/
structure RAt (w : World) (B r : Nat) (a : Option Addr) (c : Nat) (a' : Option Addr) (c' : Nat) (U : Sto) : Prop where
  obj : w.heap[r]? = some (.cells #[.int .i64 U.nf, .int .i64 U.nt, .int .i64 U.noted, .slice a U.fs.length c, .slice a' U.ts.length c'] 61 (0, 0))
  rowf : w.ownsRow B 35 5 (.slice a U.fs.length c) U.fs.length (Fam.sCells U.fs)
  rowt : w.ownsRow B 55 4 (.slice a' U.ts.length c') U.ts.length (Tok.sCells U.ts)
  br : B ≤ r
  nef : (Value.slice a U.fs.length c).ownBlock ≠ some r
  net : (Value.slice a' U.ts.length c').ownBlock ≠ some r
section
variable {w w' : World} {B r : Nat} {a : Option Addr} {c : Nat} {a' : Option Addr} {c' : Nat} {U : Sto}
theorem RAt.c0 (h : RAt w B r a c a' c' U) : w.cell? ⟨r, 0, none⟩ = some (.int .i64 U.nf) := cell_of_row _ _ 0 _ _ _ h.obj
theorem RAt.c1 (h : RAt w B r a c a' c' U) : w.cell? ⟨r, 1, none⟩ = some (.int .i64 U.nt) := cell_of_row _ _ 1 _ _ _ h.obj
theorem RAt.c2 (h : RAt w B r a c a' c' U) : w.cell? ⟨r, 2, none⟩ = some (.int .i64 U.noted) := cell_of_row _ _ 2 _ _ _ h.obj
theorem RAt.c3 (h : RAt w B r a c a' c' U) : w.cell? ⟨r, 3, none⟩ = some (.slice a U.fs.length c) := cell_of_row _ _ 3 _ _ _ h.obj
theorem RAt.c4 (h : RAt w B r a c a' c' U) : w.cell? ⟨r, 4, none⟩ = some (.slice a' U.ts.length c') := cell_of_row _ _ 4 _ _ _ h.obj
theorem RAt.z (h : RAt w B r a c a' c' U) (j : Nat) : w.frozen? ⟨r, j, none⟩ = false := frozen_of_row _ _ j _ _ h.obj
theorem RAt.lt (h : RAt w B r a c a' c' U) : r < w.heap.size := (Array.getElem?_eq_some_iff.1 h.obj).1
theorem RAt.sinf (h : RAt w B r a c a' c' U) : Fam.SIn w a U.fs := Fam.sess_in h.rowf
theorem RAt.sint (h : RAt w B r a c a' c' U) : Tok.SIn w a' U.ts := Tok.sess_in h.rowt
/-- a block that the store leans on -/
def rBlk (r : Nat) (a a' : Option Addr) (k : Nat) : Prop := k = r ∨ (∃ ad, a = some ad ∧ k = ad.block) ∨ ∃ ad, a' = some ad ∧ k = ad.block
theorem row_kept {B : Nat} {e : TypeId} {size n m cap : Nat} {xs : List Value} {a : Option Addr} (h : w.ownsRow B e size (.slice a n cap) m xs) (hk : ∀ ad, a = some ad → w'.heap[ad.block]? = w.heap[ad.block]?) : w'.ownsRow B e size (.slice a n cap) m xs := by
  refine ⟨h.1, ?_⟩
  rcases h.2 with h0 | ⟨g, cap', cur, e, hg, hb, rest⟩
  · exact .inl h0
  · refine .inr ⟨g, cap', cur, e, hg, ?_, rest⟩
    injection e with e1 e2 e3
    exact (hk _ e1).trans hb
theorem RAt.keep (h : RAt w B r a c a' c' U) (hk : ∀ k, rBlk r a a' k → w'.heap[k]? = w.heap[k]?) : RAt w' B r a c a' c' U :=
  ⟨(hk r (.inl rfl)).trans h.obj, row_kept h.rowf (fun ad e => hk _ (.inr (.inl ⟨ad, e, rfl⟩))), row_kept h.rowt (fun ad e => hk _ (.inr (.inr ⟨ad, e, rfl⟩))), h.br, h.nef, h.net⟩
theorem RAt.lts (h : RAt w B r a c a' c' U) : ∀ k, rBlk r a a' k → B ≤ k ∧ k < w.heap.size := by
  rintro k (rfl | ⟨ad, rfl, rfl⟩ | ⟨ad, rfl, rfl⟩)
  · exact ⟨h.br, h.lt⟩
  · exact h.rowf.lt _ rfl
  · exact h.rowt.lt _ rfl
theorem RAt.below (h : RAt w B r a c a' c' U) (hb : Below w.heap.size w w') : RAt w' B r a c a' c' U := h.keep fun k hk => hb.block k (h.lts k hk).2
theorem RAt.mono {B' : Nat} (h : RAt w B r a c a' c' U) (hB : B' ≤ B) : RAt w B' r a c a' c' U := ⟨h.obj, h.rowf.mono hB, h.rowt.mono hB, Nat.le_trans hB h.br, h.nef, h.net⟩
theorem RAt.cells (h : RAt w B r a c a' c' U) : w.cell? ⟨r, 0, none⟩ = some (.int .i64 U.nf) ∧ w.cell? ⟨r, 1, none⟩ = some (.int .i64 U.nt) ∧ w.cell? ⟨r, 2, none⟩ = some (.int .i64 U.noted) ∧ w.cell? ⟨r, 3, none⟩ = some (.slice a U.fs.length c) ∧ w.cell? ⟨r, 4, none⟩ = some (.slice a' U.ts.length c') := ⟨h.c0, h.c1, h.c2, h.c3, h.c4⟩
/-- a row that was there already is no row of the call's own -/
theorem Out.setNew {P : Nat → Prop} (h : Out P w w') (a : Addr) (v : Value) (ha : w.heap.size ≤ a.block) : Out P w (w'.setCell a v) :=
  ((h.imp (Q := fun k => P k ∨ k = a.block) (fun i hi e => .inl e)).setCell a v (.inr rfl)).imp (fun i hi e => by rcases e with e | e; exact e; omega)
theorem Out.cells {P : Nat → Prop} (h : Out P w w') (b : Nat) (hb : b < w.heap.size) (hp : ¬ P b) : (∀ o, w'.cell? ⟨b, o, none⟩ = w.cell? ⟨b, o, none⟩) ∧ (∀ o, w'.frozen? ⟨b, o, none⟩ = w.frozen? ⟨b, o, none⟩) :=
  ⟨fun o => World.cell?_of_block (a := ⟨b, o, none⟩) (h.block b hb hp), fun o => World.frozen?_of_block (a := ⟨b, o, none⟩) (h.block b hb hp)⟩
end
/-- .. whatever it holds, but not much -/
def RSt (w : World) (B r n : Nat) : Prop := ∃ a c a' c' U, RAt w B r a c a' c' U ∧ U.fs.length ≤ n ∧ U.ts.length ≤ n
theorem RSt.more {w : World} {B r n m : Nat} (h : RSt w B r n) (hm : n ≤ m) : RSt w B r m := by
  obtain ⟨a, c, a', c', U, h1, h2, h3⟩ := h
  exact ⟨a, c, a', c', U, h1, by omega, by omega⟩
theorem RSt.below {w w' : World} {B r n : Nat} (h : RSt w B r n) (hb : Below w.heap.size w w') : RSt w' B r n := by
  obtain ⟨a, c, a', c', U, h1, h2, h3⟩ := h
  exact ⟨a, c, a', c', U, h1.below hb, h2, h3⟩

set_option maxHeartbeats 800000 in
theorem rNew_any (w : World) : Calls Tryz.prog 5 #[] w fun e w' => ∃ r, e = .returned (.pointer (some ⟨r, 0, none⟩)) ∧ RSt w' w.heap.size r 0 ∧ Below w.heap.size w w' := by
  go_enter Tryz.func5, Tryz.ntmps5
  go_wp2
  go_ret
  exact ⟨_, rfl, ⟨none, 0, none, 0, sto0, ⟨(MapKept.heap_alloc w _).1, World.ownsRow_nil _ _ _ _, World.ownsRow_nil _ _ _ _, Nat.le_refl _, by simp [Value.ownBlock], by simp [Value.ownBlock]⟩, Nat.le_refl _, Nat.le_refl _⟩, (Below.refl _ w).alloc (Nat.le_refl _) _⟩

/-- some number, and nothing is changed -/
def IntPost (w : World) (e : Ending) (w' : World) : Prop := ∃ z, e = .returned (.int .i64 z) ∧ w' = w
/-- a place and an error; where there is none the place is one -/
def FindPost (w : World) (U : Sto) (e : Ending) (w' : World) : Prop := (∃ i z : Int, e = .returned (.tuple #[.int .i64 i, .int .i64 z]) ∧ (z = 0 → ∃ (k : Nat) (s : Fam.Sess), i = (k : Int) ∧ U.fs[k]? = some s)) ∧ w' = w
set_option maxHeartbeats 800000 in
theorem rTime_any {w : World} {B r : Nat} {a : Option Addr} {c : Nat} {a' : Option Addr} {c' : Nat} {U : Sto} (h : RAt w B r a c a' c' U) (now : Int) :
    Calls Tryz.prog 58 #[.pointer (some ⟨r, 0, none⟩), .int .i64 now] w (IntPost w) := by
  have c2 := h.c2
  clear h
  go_enter Tryz.func58, Tryz.ntmps58
  go_wp2
  all_goals go_ret
  all_goals exact ⟨_, rfl, rfl⟩

set_option maxHeartbeats 1600000 in
theorem rFind_any {w : World} {B r : Nat} {a : Option Addr} {c : Nat} {a' : Option Addr} {c' : Nat} {U : Sto} (h : RAt w B r a c a' c' U) (hl : U.fs.length ≤ 1000000000) (x : Int) :
    Calls Tryz.prog 59 #[.pointer (some ⟨r, 0, none⟩), .int .i64 x] w (FindPost w U) := by
  have c0 := h.c0
  have c3 := h.c3
  have Hs := hid h.sinf
  clear h
  generalize hN : U.fs.length = N at *
  have HN := hid hN
  clear hN
  by_cases g1 : x < 1
  · have g1' : decide (x < 1) = true := by simpa using g1
    go_enter Tryz.func59, Tryz.ntmps59
    go_wp2
    go_ret2
    exact ⟨⟨_, _, rfl, fun e => absurd e (by decide)⟩, rfl⟩
  have g1' : decide (x < 1) = false := by simpa using g1
  by_cases g2 : U.nf ≤ x
  · have g2' : decide (U.nf ≤ x) = true := by simpa using g2
    go_enter Tryz.func59, Tryz.ntmps59
    go_wp2
    go_ret2
    exact ⟨⟨_, _, rfl, fun e => absurd e (by decide)⟩, rfl⟩
  have g2' : decide (U.nf ≤ x) = false := by simpa using g2
  go_enter Tryz.func59, Tryz.ntmps59
  go_wp2
  go_loop [6] (fun i => ∃ k : Nat, k ≤ N ∧ i = .int .i64 k) (fun i => N - (intOf i).toNat)
  case atStart => exact ⟨0, Nat.zero_le _, rfl⟩
  case round =>
    obtain ⟨k, hk, rfl⟩ := hrel
    by_cases hlt : k < N
    · obtain ⟨b, o, ea, h0, _⟩ := Hs.out k (by rw [HN.out]; exact hlt)
      cases ea
      have Hg : Hid (U.fs[k]? = some (U.fs[k]'(by rw [HN.out]; exact hlt))) := List.getElem?_eq_getElem _
      generalize U.fs[k]'(by rw [HN.out]; exact hlt) = s at *
      by_cases he : s.id = x
      · have b1 : (s.id == x) = true := by simpa using he
        go_wp2
        go_ret2
        exact ⟨⟨_, _, rfl, fun _ => ⟨k, s, rfl, Hg.out⟩⟩, rfl⟩
      · have b1 : (s.id == x) = false := by simpa using he
        go_wp2
        go_round
        case rel => exact ⟨k + 1, by omega, by go_num⟩
        case measure => simp [intOf]; omega
    · have e : k = N := by omega
      subst e
      go_wp2
      go_ret2
      exact ⟨⟨_, _, rfl, fun e => absurd e (by decide)⟩, rfl⟩
end Go.Proofs.YtmnhhomkglffcaaGreatDoor
