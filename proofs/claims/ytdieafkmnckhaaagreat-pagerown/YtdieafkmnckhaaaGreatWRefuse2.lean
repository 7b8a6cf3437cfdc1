/- YtdieafkmnckhaaaGreatWHas + YtdieafkmnckhaaaGreatWRefuse + YtdieafkmnckhaaaGreatWRefuse2 -/
import Derived.Test.YtdieafkmnckhaaaGreatWSort
import Derived.Test.YtdieafkmnckhaaaGreatWCommit2
/- Whether a log's disk has a page, as refuse asks it. -/
namespace Go.Proofs.YtdieafkmnckhaaaGreat
open Go.RowKit Go.Maps
set_option linter.unusedVariables false
set_option maxRecDepth 20000

theorem has_false {w : World} {B l d g cap mb n : Nat} {v : Value} {S G U : Nat} {pl : Nat → Option Nat} {ps : List (List UInt8)} {ch : List (Nat × List UInt8)} (H : LogMem w B l d g cap mb n v S G U pl ps ch) (P : Nat) (hl : ps.length = S + 1 + P) (hm : ps.length ≤ 1024) (m : Int) (hbad : m < 0 ∨ (P : Int) ≤ m) :
    ∀ u, Below w.heap.size w u → Calls Tryz.prog 84 #[.agg #[.pointer (some ⟨d, 0, none⟩), .int .i64 (S : Int)], .int .i64 m] u fun e w' => e = .returned (.bool false) ∧ Below u.heap.size u w' := fun u hu => by
  have h := has_any (H.below hu).disk S P hl hm m
  rw [decide_eq_false (show ¬ ((0 : Int) ≤ m ∧ m < (P : Int)) by omega)] at h
  exact h
theorem has_true {w : World} {B l d g cap mb n : Nat} {v : Value} {S G U : Nat} {pl : Nat → Option Nat} {ps : List (List UInt8)} {ch : List (Nat × List UInt8)} (H : LogMem w B l d g cap mb n v S G U pl ps ch) (P : Nat) (hl : ps.length = S + 1 + P) (hm : ps.length ≤ 1024) (m : Int) (hok : 0 ≤ m ∧ m < (P : Int)) :
    ∀ u, Below w.heap.size w u → Calls Tryz.prog 84 #[.agg #[.pointer (some ⟨d, 0, none⟩), .int .i64 (S : Int)], .int .i64 m] u fun e w' => e = .returned (.bool true) ∧ Below u.heap.size u w' := fun u hu => by
  have h := has_any (H.below hu).disk S P hl hm m
  rw [decide_eq_true hok] at h
  exact h
end Go.Proofs.YtdieafkmnckhaaaGreat

/- refuse of package wal, where the first page's number is none, by a contract. -/
namespace Go.Proofs.YtdieafkmnckhaaaGreat
open Go.RowKit Go.Maps
set_option linter.unusedVariables false
set_option maxRecDepth 20000
set_option linter.unusedSimpArgs false

/-- a region that is entered: what is told of a panic does not hang on the frame -/
theorem enterQ {P : Program} {ops : Array Oper} {Q : Exit → Act → World → Prop} {S : World → Prop} {id : Nat} {a : Act} {w : World} (hm : P.follows .mixedOrders = true) (hS : S w.drew) (hQ : ∀ (d : Option Tmp) (v : Value) c a w, Q (.panic c) (Act.put a d v) w → Q (.panic c) a w)
    (h : (∀ (d : Option Tmp) (v : Value) c a w, Q (.panic c) (Act.put a d v) w → Q (.panic c) a w) → S w.drew → wpAnyH P .any ops Q S ops.size (Array.replicate ops.size false) a w.drew) : (Code.region id ops true).wp P Q a w :=
  wp_region_held_drew hm hS (h hQ)
/-- an operation that yields a value -/
theorem takeH {P : Program} {ops : Array Oper} {Q : Exit → Act → World → Prop} {md : Region.Mode} {S : World → Prop} {fuel : Nat} {listed : Array Bool} {a : Act} {w : World} (hQ : ∀ (d : Option Tmp) (v : Value) c a w, Q (.panic c) (Act.put a d v) w → Q (.panic c) a w) (i : Nat) (d : Option Tmp) (v : Value) (oi : Oper) (hi : ops[i]? = some oi) (hd : oi.dst = d)
    (hs : Region.noSelect ops = true) (hf : Region.free md ops listed i = true) (hr : (Region.ready md ops listed).contains i = true) (hw : Region.wanted oi (yielded ops a.tmps) = true) (hy : ∀ w, S w → (execOp a.eval oi).run P w = .ok (.value v) w) (hS : S w)
    (h : wpAnyH P md ops Q S fuel (listed.setIfInBounds i true) (a.put d v) w) : wpAnyH P md ops Q S (fuel + 1) listed a w := by
  subst hd
  exact wpAnyH_take hi hs hf hr (fun c a w => hQ _ _ c a w) (Or.inl ⟨hw, hy⟩) hS h
/-- an operation that the guard passes over -/
theorem skipH {P : Program} {ops : Array Oper} {Q : Exit → Act → World → Prop} {md : Region.Mode} {S : World → Prop} {fuel : Nat} {listed : Array Bool} {a : Act} {w : World} (hQ : ∀ (d : Option Tmp) (v : Value) c a w, Q (.panic c) (Act.put a d v) w → Q (.panic c) a w) (i : Nat) (d : Option Tmp) (oi : Oper) (hi : ops[i]? = some oi) (hd : oi.dst = d)
    (hs : Region.noSelect ops = true) (hf : Region.free md ops listed i = true) (hr : (Region.ready md ops listed).contains i = true) (hw : Region.wanted oi (yielded ops a.tmps) = false) (hS : S w)
    (h : wpAnyH P md ops Q S fuel (listed.setIfInBounds i true) (a.put d undef) w) : wpAnyH P md ops Q S (fuel + 1) listed a w := by
  subst hd
  exact wpAnyH_take hi hs hf hr (fun c a w => hQ _ _ c a w) (Or.inr ⟨hw, rfl⟩) hS h

set_option maxHeartbeats 16000000 in
theorem refuse_first {w : World} {B l d g cap mb n : Nat} {v : Value} {S G U : Nat} {pl : Nat → Option Nat} {ps : List (List UInt8)} {ch : List (Nat × List UInt8)} (h : LogMem w B l d g cap mb n v S G U pl ps ch) (P : Nat) (hl : ps.length = S + 1 + P) (hm : ps.length ≤ 1024) (s : List PgV) (gb c j : Nat) (hs : PgsAt w gb 0 s) (hj : s.length = j + 1) (hj2 : j ≤ 99) (m : Int) (hm0 : ∀ h : 0 < s.length, s[0].1 = m) (hbad : m < 0 ∨ (P : Int) ≤ m) :
    Calls Tryz.prog 115 #[.pointer (some ⟨l, 0, none⟩), .slice (some ⟨gb, 0, none⟩) (j + 1) c] w fun e w' => e = .returned (.int .i64 2) ∧ Below w.heap.size w w' := by
  have c2 := h.c2
  have c3 := h.c3
  have H := hid h
  have k1 : w.cell? ⟨gb, 0, none⟩ = some (.int .i64 m) := by
    have := (hs 0 (by omega)).1
    rw [hm0 (by omega)] at this
    exact this
  have Hhas := hid (has_false h P hl hm m hbad)
  have g0 : (0 : Int) < (j : Int) + 1 := by omega
  clear h hs hm0 hbad hj
  go_enter Tryz.func115, Tryz.ntmps115
  go_wp2
  refine enterQ (S := fun w9 => w9.cell? ⟨l, 2, none⟩ = some (.pointer (some ⟨d, 0, none⟩)) ∧ w9.cell? ⟨l, 3, none⟩ = some (.int .i64 (S : Int)) ∧ w9.cell? ⟨gb, 0, none⟩ = some (.int .i64 m)) (by kernel_rfl) ⟨c2, c3, k1⟩ (fun d v c a w h => by cases d <;> exact h) (fun hQ hS => ?_)
  have HQ := hid hQ
  clear hQ
  refine takeH HQ.out 0 (some 7) (.pointer (some ⟨l, 0, none⟩)) _ rfl rfl (by kernel_rfl) (by kernel_rfl) (by kernel_rfl) (by kernel_rfl) (fun w0 ⟨s1, s2, s3⟩ => by go_simp) hS ?_
  simp only [Act.put, List.setIfInBounds_toArray, List.set_cons_zero, List.set_cons_succ]
  refine takeH HQ.out 1 (some 8) (.pointer (some ⟨l, 0, none⟩)) _ rfl rfl (by kernel_rfl) (by kernel_rfl) (by kernel_rfl) (by kernel_rfl) (fun w0 ⟨s1, s2, s3⟩ => by go_simp) hS ?_
  simp only [Act.put, List.setIfInBounds_toArray, List.set_cons_zero, List.set_cons_succ]
  refine takeH HQ.out 2 (some 9) (.pointer (some ⟨l, 2, none⟩)) _ rfl rfl (by kernel_rfl) (by kernel_rfl) (by kernel_rfl) (by kernel_rfl) (fun w0 ⟨s1, s2, s3⟩ => by go_simp) hS ?_
  simp only [Act.put, List.setIfInBounds_toArray, List.set_cons_zero, List.set_cons_succ]
  refine takeH HQ.out 3 (some 10) (.agg #[.pointer (some ⟨d, 0, none⟩), .int .i64 (S : Int)]) _ rfl rfl (by kernel_rfl) (by kernel_rfl) (by kernel_rfl) (by kernel_rfl) (fun w0 ⟨s1, s2, s3⟩ => by go_simp) hS ?_
  simp only [Act.put, List.setIfInBounds_toArray, List.set_cons_zero, List.set_cons_succ]
  refine takeH HQ.out 4 (some 11) (.slice (some ⟨gb, 0, none⟩) (j + 1) c) _ rfl rfl (by kernel_rfl) (by kernel_rfl) (by kernel_rfl) (by kernel_rfl) (fun w0 ⟨s1, s2, s3⟩ => by go_simp) hS ?_
  simp only [Act.put, List.setIfInBounds_toArray, List.set_cons_zero, List.set_cons_succ]
  refine takeH HQ.out 5 (some 12) (.pointer (some ⟨gb, 0, none⟩)) _ rfl rfl (by kernel_rfl) (by kernel_rfl) (by kernel_rfl) (by kernel_rfl) (fun w0 ⟨s1, s2, s3⟩ => by go_simp) hS ?_
  simp only [Act.put, List.setIfInBounds_toArray, List.set_cons_zero, List.set_cons_succ]
  refine takeH HQ.out 6 (some 13) (.pointer (some ⟨gb, 0, none⟩)) _ rfl rfl (by kernel_rfl) (by kernel_rfl) (by kernel_rfl) (by kernel_rfl) (fun w0 ⟨s1, s2, s3⟩ => by go_simp) hS ?_
  simp only [Act.put, List.setIfInBounds_toArray, List.set_cons_zero, List.set_cons_succ]
  refine takeH HQ.out 7 (some 14) (.int .i64 m) _ rfl rfl (by kernel_rfl) (by kernel_rfl) (by kernel_rfl) (by kernel_rfl) (fun w0 ⟨s1, s2, s3⟩ => by go_simp) hS ?_
  simp only [Act.put, List.setIfInBounds_toArray, List.set_cons_zero, List.set_cons_succ]
  refine wpAnyH_ready (rs := [8]) (by kernel_rfl) (by simp) ?_
  refine AllReadyH.cons rfl (fun K hK => ?_) AllReadyH.nil
  go_simp
  refine (Hhas.out _ (Below.refl _ w).drew).mono ?_
  rintro e w1 ⟨rfl, hb1'⟩
  have hb1 := undrew1 hb1'
  have Hb1 := hid hb1
  have H1 := hid (H.out.below hb1)
  have q3 := (hb1.cell (World.block_lt_of_cell? _ _ k1)).trans k1
  clear hb1 hb1' hS
  dsimp only
  refine hK.out _ _ ⟨H1.out.c2, H1.out.c3, q3⟩ (fun hS => ?_)
  clear hK K
  refine takeH HQ.out 9 (some 16) (.bool true) _ rfl rfl (by kernel_rfl) (by kernel_rfl) (by kernel_rfl) (by kernel_rfl) (fun w0 ⟨s1, s2, s3⟩ => by go_simp) hS ?_
  simp only [Act.put, List.setIfInBounds_toArray, List.set_cons_zero, List.set_cons_succ]
  refine takeH HQ.out 10 (some 17) (.bool true) _ rfl rfl (by kernel_rfl) (by kernel_rfl) (by kernel_rfl) (by kernel_rfl) (fun w0 ⟨s1, s2, s3⟩ => by go_simp) hS ?_
  simp only [Act.put, List.setIfInBounds_toArray, List.set_cons_zero, List.set_cons_succ]
  refine skipH HQ.out 11 (some 18) _ rfl rfl (by kernel_rfl) (by kernel_rfl) (by kernel_rfl) (by kernel_rfl) hS ?_
  simp only [Act.put, List.setIfInBounds_toArray, List.set_cons_zero, List.set_cons_succ]
  refine skipH HQ.out 12 (some 19) _ rfl rfl (by kernel_rfl) (by kernel_rfl) (by kernel_rfl) (by kernel_rfl) hS ?_
  simp only [Act.put, List.setIfInBounds_toArray, List.set_cons_zero, List.set_cons_succ]
  refine skipH HQ.out 13 (some 20) _ rfl rfl (by kernel_rfl) (by kernel_rfl) (by kernel_rfl) (by kernel_rfl) hS ?_
  simp only [Act.put, List.setIfInBounds_toArray, List.set_cons_zero, List.set_cons_succ]
  refine skipH HQ.out 14 (some 21) _ rfl rfl (by kernel_rfl) (by kernel_rfl) (by kernel_rfl) (by kernel_rfl) hS ?_
  simp only [Act.put, List.setIfInBounds_toArray, List.set_cons_zero, List.set_cons_succ]
  refine skipH HQ.out 15 (some 22) _ rfl rfl (by kernel_rfl) (by kernel_rfl) (by kernel_rfl) (by kernel_rfl) hS ?_
  simp only [Act.put, List.setIfInBounds_toArray, List.set_cons_zero, List.set_cons_succ]
  refine skipH HQ.out 16 (some 23) _ rfl rfl (by kernel_rfl) (by kernel_rfl) (by kernel_rfl) (by kernel_rfl) hS ?_
  simp only [Act.put, List.setIfInBounds_toArray, List.set_cons_zero, List.set_cons_succ]
  refine skipH HQ.out 17 (some 24) _ rfl rfl (by kernel_rfl) (by kernel_rfl) (by kernel_rfl) (by kernel_rfl) hS ?_
  simp only [Act.put, List.setIfInBounds_toArray, List.set_cons_zero, List.set_cons_succ]
  refine skipH HQ.out 18 (some 25) _ rfl rfl (by kernel_rfl) (by kernel_rfl) (by kernel_rfl) (by kernel_rfl) hS ?_
  simp only [Act.put, List.setIfInBounds_toArray, List.set_cons_zero, List.set_cons_succ]
  refine skipH HQ.out 19 (some 26) _ rfl rfl (by kernel_rfl) (by kernel_rfl) (by kernel_rfl) (by kernel_rfl) hS ?_
  simp only [Act.put, List.setIfInBounds_toArray, List.set_cons_zero, List.set_cons_succ]
  refine skipH HQ.out 20 (some 27) _ rfl rfl (by kernel_rfl) (by kernel_rfl) (by kernel_rfl) (by kernel_rfl) hS ?_
  simp only [Act.put, List.setIfInBounds_toArray, List.set_cons_zero, List.set_cons_succ]
  refine skipH HQ.out 21 (some 28) _ rfl rfl (by kernel_rfl) (by kernel_rfl) (by kernel_rfl) (by kernel_rfl) hS ?_
  simp only [Act.put, List.setIfInBounds_toArray, List.set_cons_zero, List.set_cons_succ]
  refine skipH HQ.out 22 (some 29) _ rfl rfl (by kernel_rfl) (by kernel_rfl) (by kernel_rfl) (by kernel_rfl) hS ?_
  simp only [Act.put, List.setIfInBounds_toArray, List.set_cons_zero, List.set_cons_succ]
  refine skipH HQ.out 23 (some 30) _ rfl rfl (by kernel_rfl) (by kernel_rfl) (by kernel_rfl) (by kernel_rfl) hS ?_
  simp only [Act.put, List.setIfInBounds_toArray, List.set_cons_zero, List.set_cons_succ]
  refine takeH HQ.out 24 (some 31) (.bool true) _ rfl rfl (by kernel_rfl) (by kernel_rfl) (by kernel_rfl) (by kernel_rfl) (fun w0 ⟨s1, s2, s3⟩ => by go_simp) hS ?_
  simp only [Act.put, List.setIfInBounds_toArray, List.set_cons_zero, List.set_cons_succ]
  refine wpAnyH_done (by kernel_rfl) ?_ _
  clear hS q3 c2 c3 k1
  go_wp2
  go_ret
  exact ⟨rfl, Hb1.out⟩
end Go.Proofs.YtdieafkmnckhaaaGreat

/- refuse of package wal, where the first page's number is one, by contracts. -/
namespace Go.Proofs.YtdieafkmnckhaaaGreat
open Go.RowKit Go.Maps
set_option linter.unusedVariables false
set_option maxRecDepth 20000

set_option maxHeartbeats 1600000 in
theorem refuse_last {w : World} {B l d g cap mb n : Nat} {v : Value} {S G U : Nat} {pl : Nat → Option Nat} {ps : List (List UInt8)} {ch : List (Nat × List UInt8)} (h : LogMem w B l d g cap mb n v S G U pl ps ch) (P : Nat) (hl : ps.length = S + 1 + P) (hm : ps.length ≤ 1024) (s : List PgV) (gb c j : Nat) (hs : PgsAt w gb 0 s) (hj : s.length = j + 1) (hj2 : j ≤ 99) (m m' : Int) (hm0 : ∀ h : 0 < s.length, s[0].1 = m) (hmj : ∀ h : j < s.length, s[j].1 = m') (hok : 0 ≤ m ∧ m < (P : Int)) (hbad : m' < 0 ∨ (P : Int) ≤ m') :
    Calls Tryz.prog 115 #[.pointer (some ⟨l, 0, none⟩), .slice (some ⟨gb, 0, none⟩) (j + 1) c] w fun e w' => e = .returned (.int .i64 2) ∧ Below w.heap.size w w' := by
  have c2 := h.c2
  have c3 := h.c3
  have H := hid h
  have k1 : w.cell? ⟨gb, 0, none⟩ = some (.int .i64 m) := by
    have := (hs 0 (by omega)).1
    rw [hm0 (by omega)] at this
    exact this
  have k2 : w.cell? ⟨gb, j * 2, none⟩ = some (.int .i64 m') := by
    have := (hs j (by omega)).1
    rw [hmj (by omega), Nat.zero_add] at this
    exact this
  have Hhas1 := hid (has_true h P hl hm m hok)
  have Hhas2 := hid (has_false h P hl hm m' hbad)
  have g0 : (0 : Int) < (j : Int) + 1 := by omega
  have g1 : (j : Int) < (j : Int) + 1 := by omega
  have g4 : ¬ (j : Int) + 1 ≤ (j : Int) := by omega
  have g5 : ¬ (j : Int) < 0 := by omega
  have g6 : IntKind.i64.wrap ((j : Int) + 1 - 1) = (j : Int) := by rw [IntKind.wrap_i64]; omega
  have g7 : IntKind.i64.wrap (j : Int) = (j : Int) := by rw [IntKind.wrap_i64]; omega
  clear h hs hm0 hbad hok hmj hj
  go_enter Tryz.func115, Tryz.ntmps115
  go_wp2
  go_region_held3 (fun w9 => w9.cell? ⟨l, 2, none⟩ = some (.pointer (some ⟨d, 0, none⟩)) ∧ w9.cell? ⟨l, 3, none⟩ = some (.int .i64 (S : Int)) ∧ w9.cell? ⟨gb, 0, none⟩ = some (.int .i64 m) ∧ w9.cell? ⟨gb, j * 2, none⟩ = some (.int .i64 m')) (first | exact ⟨c2, c3, k1, k2⟩ | exact q2.out | exact q.out)
    (first
      | ((go_at_call 84; refine (Hhas1.out _ ?_).mono ?_; exact (Below.refl _ w).drew; rintro e w1 ⟨rfl, hb1'⟩; have hb1 := undrew1 hb1'; have Hb1 := hid hb1; have H1 := hid (H.out.below hb1); have q := hid (And.intro H1.out.c2 (And.intro H1.out.c3 (And.intro ((hb1.cell (World.block_lt_of_cell? _ _ k1)).trans k1) ((hb1.cell (World.block_lt_of_cell? _ _ k2)).trans k2)))); clear hb1 hb1' Hhas1))
      | ((go_at_call 84; refine (Hhas2.out _ ?_).mono ?_; exact Hb1.out; rintro e w2 ⟨rfl, hb2⟩; have Hb2 := hid hb2; have H2 := hid (H1.out.below hb2); have q2 := hid (And.intro H2.out.c2 (And.intro H2.out.c3 (And.intro ((hb2.cell (World.block_lt_of_cell? _ _ q.out.2.2.1)).trans q.out.2.2.1) ((hb2.cell (World.block_lt_of_cell? _ _ q.out.2.2.2)).trans q.out.2.2.2)))); clear hb2)))
  clear c2 c3 k1 k2 q q2
  go_wp2
  go_ret
  exact ⟨rfl, Hb1.out.trans (Hb2.out.mono Hb1.out.size)⟩

/-- a page of a sorted group that is not such as it must be -/
def BadPg (s : List PgV) (k : Nat) : Prop := ∃ h : k < s.length, (∃ i, ∃ hi : k = i + 1, s[k].1 = (s[i]'(by omega)).1) ∨ s[k].2.2.1 ≠ 256
/-- what refuse tells of a sorted group whose numbers are pages -/
def RefPost (S U : Nat) (s : List PgV) (w : World) (e : Ending) (w' : World) : Prop :=
  ((e = .returned (.int .i64 3) ∧ ∃ k, BadPg s k) ∨ ((∀ k, ¬ BadPg s k) ∧ e = .returned (.int .i64 (if (S : Int) - (U : Int) < (s.length : Int) + 1 then 7 else 0)))) ∧ Below w.heap.size w w'

set_option maxHeartbeats 1600000 in
theorem refuse_rest {w : World} {B l d g cap mb n : Nat} {v : Value} {S G U : Nat} {pl : Nat → Option Nat} {ps : List (List UInt8)} {ch : List (Nat × List UInt8)} (h : LogMem w B l d g cap mb n v S G U pl ps ch) (P : Nat) (hl : ps.length = S + 1 + P) (hm : ps.length ≤ 1024) (hU : U ≤ S) (s : List PgV) (gb c j : Nat) (hs : PgsAt w gb 0 s) (hj : s.length = j + 1) (hj2 : j ≤ 99) (m m' : Int) (hm0 : ∀ h : 0 < s.length, s[0].1 = m) (hmj : ∀ h : j < s.length, s[j].1 = m') (hok : 0 ≤ m ∧ m < (P : Int)) (hok' : 0 ≤ m' ∧ m' < (P : Int)) :
    Calls Tryz.prog 115 #[.pointer (some ⟨l, 0, none⟩), .slice (some ⟨gb, 0, none⟩) (j + 1) c] w (RefPost S U s w) := by
  have c2 := h.c2
  have c3 := h.c3
  have H := hid h
  have k1 : w.cell? ⟨gb, 0, none⟩ = some (.int .i64 m) := by
    have := (hs 0 (by omega)).1
    rw [hm0 (by omega)] at this
    exact this
  have k2 : w.cell? ⟨gb, j * 2, none⟩ = some (.int .i64 m') := by
    have := (hs j (by omega)).1
    rw [hmj (by omega), Nat.zero_add] at this
    exact this
  have Hhas1 := hid (has_true h P hl hm m hok)
  have Hhas2 := hid (has_true h P hl hm m' hok')
  have g0 : (0 : Int) < (j : Int) + 1 := by omega
  have g1 : (j : Int) < (j : Int) + 1 := by omega
  have g4 : ¬ (j : Int) + 1 ≤ (j : Int) := by omega
  have g5 : ¬ (j : Int) < 0 := by omega
  have g6 : IntKind.i64.wrap ((j : Int) + 1 - 1) = (j : Int) := by rw [IntKind.wrap_i64]; omega
  have g7 : IntKind.i64.wrap (j : Int) = (j : Int) := by rw [IntKind.wrap_i64]; omega
  have Hs := hid hs
  have Hj := hid hj
  have Hl := hid hl
  clear h hs hm0 hok' hok hmj hj hl
  go_enter Tryz.func115, Tryz.ntmps115
  go_wp2
  go_region_held3 (fun w9 => w9.cell? ⟨l, 2, none⟩ = some (.pointer (some ⟨d, 0, none⟩)) ∧ w9.cell? ⟨l, 3, none⟩ = some (.int .i64 (S : Int)) ∧ w9.cell? ⟨gb, 0, none⟩ = some (.int .i64 m) ∧ w9.cell? ⟨gb, j * 2, none⟩ = some (.int .i64 m')) (first | exact ⟨c2, c3, k1, k2⟩ | exact q2.out | exact q.out)
    (first
      | ((go_at_call 84; refine (Hhas1.out _ ?_).mono ?_; exact (Below.refl _ w).drew; rintro e w1 ⟨rfl, hb1'⟩; have hb1 := undrew1 hb1'; have Hb1 := hid hb1; have H1 := hid (H.out.below hb1); have q := hid (And.intro H1.out.c2 (And.intro H1.out.c3 (And.intro ((hb1.cell (World.block_lt_of_cell? _ _ k1)).trans k1) ((hb1.cell (World.block_lt_of_cell? _ _ k2)).trans k2)))); clear hb1 hb1' Hhas1))
      | ((go_at_call 84; refine (Hhas2.out _ ?_).mono ?_; exact Hb1.out; rintro e w2 ⟨rfl, hb2⟩; have Hb2 := hid hb2; have H2 := hid (H1.out.below hb2); have q2 := hid (And.intro H2.out.c2 (And.intro H2.out.c3 (And.intro ((hb2.cell (World.block_lt_of_cell? _ _ q.out.2.2.1)).trans q.out.2.2.1) ((hb2.cell (World.block_lt_of_cell? _ _ q.out.2.2.2)).trans q.out.2.2.2)))); clear hb2)))
  have HbA := hid (Hb1.out.trans (Hb2.out.mono Hb1.out.size))
  clear c2 c3 k1 k2 q q2 Hb1 Hb2 H1 H2 Hhas2
  go_wp2
  go_loopw [34] (fun i wr => ∃ k : Nat, k ≤ j + 1 ∧ i = .int .i64 k ∧ (∀ q, q < k → ¬ BadPg s q) ∧ Below w.heap.size w wr) (fun i _ => j + 1 - (intOf i).toNat)
  case atStart => exact ⟨0, Nat.zero_le _, rfl, fun q hq => absurd hq (Nat.not_lt_zero _), HbA.out⟩
  case round =>
    obtain ⟨k, hk, rfl, hpre, hbel⟩ := hrel
    have Hpre := hid hpre
    have Hbel := hid hbel
    clear hpre hbel HbA
    by_cases hlt : k < j + 1
    · have hks : k < s.length := by rw [Hj.out]; exact hlt
      have hgb : gb < w.heap.size := World.block_lt_of_cell? _ _ (Hs.out k hks).1
      have HsR := hid (Hs.out.keep (Hbel.out.block gb hgb))
      have e0 := (HsR.out k hks).1
      have e1 := (HsR.out k hks).2
      rw [Nat.zero_add] at e0 e1
      have Hdup : Hid (∀ i, k = i + 1 → ∃ y, wr.cell? ⟨gb, i * 2, none⟩ = some (.int .i64 y) ∧ (s[k].1 = y → BadPg s k) ∧ (s[k].1 ≠ y → s[k].2.2.1 = 256 → ¬ BadPg s k)) := fun i hi => by
        have his : i < s.length := by omega
        have := (HsR.out i his).1
        rw [Nat.zero_add] at this
        refine ⟨_, this, fun e => ⟨hks, .inl ⟨i, hi, e⟩⟩, fun hne h256 => ?_⟩
        rintro ⟨_, ⟨i', hi', e'⟩ | h'⟩
        · obtain rfl : i' = i := by omega
          exact hne e'
        · exact h' h256
      have Hlen : Hid (s[k].2.2.1 ≠ 256 → BadPg s k) := fun h => ⟨hks, .inr h⟩
      have Hzero : Hid (k = 0 → s[k].2.2.1 = 256 → ¬ BadPg s k) := fun h0 h256 => by
        rintro ⟨_, ⟨i', hi', e'⟩ | h'⟩
        · omega
        · exact h' h256
      have Hnext : Hid (¬ BadPg s k → ∀ q, q < k + 1 → ¬ BadPg s q) := fun h q hq => by
        rcases Nat.lt_or_ge q k with h1 | h1
        · exact Hpre.out q h1
        · obtain rfl : q = k := by omega
          exact h
      generalize s[k].1 = x at *
      generalize s[k].2.1 = a at *
      generalize s[k].2.2.1 = L at *
      generalize s[k].2.2.2 = cc at *
      have d0 : (0 : Int) ≤ (k : Int) := by omega
      have d1 : (k : Int) < (j : Int) + 1 := by omega
      go_wp2
      have Hb3 := hid (Hbel.out.alloc Hbel.out.size (.cells #[.int .i64 x, .slice a L cc] 137))
      have Hy := hid (heap_alloc_new wr (.cells #[.int .i64 x, .slice a L cc] 137))
      have Hold : Hid (∀ i y, wr.cell? ⟨gb, i * 2, none⟩ = some (.int .i64 y) → (wr.alloc (.cells #[.int .i64 x, .slice a L cc] 137)).cell? ⟨gb, i * 2, none⟩ = some (.int .i64 y)) := fun i y h => (World.cell?_alloc_some _ _ _ (by rw [h]; rfl)).trans h
      generalize wr.alloc (.cells #[.int .i64 x, .slice a L cc] 137) = W at *
      generalize wr.heap.size = Y at *
      have y0 := cell_of_row _ _ 0 _ _ _ Hy.out
      have y1 := cell_of_row _ _ 1 _ _ _ Hy.out
      clear e0 e1
      by_cases h256 : L = 256
      · have b1 : ((L : Int) != 256) = false := by rw [bne_eq_false_iff_eq]; omega
        have H256 := hid h256
        clear h256
        by_cases hk0 : k = 0
        · have d6 : ¬ 0 < k := by omega
          have d3 : decide ((0 : Int) < (k : Int)) = false := decide_eq_false (by omega)
          have Hn := hid (Hnext.out (Hzero.out hk0 H256.out))
          clear hk0
          go_quiet (fail)
          go_wp2
          go_roundw
          case rel => exact ⟨k + 1, by omega, by go_num, Hn.out, Hb3.out.trans (below_drewN _ _ _)⟩
          case measure => simp [intOf]; omega
        · obtain ⟨i, hi⟩ : ∃ i, k = i + 1 := ⟨k - 1, by omega⟩
          obtain ⟨y, hy, hyb, hyg⟩ := Hdup.out i hi
          have d5 : 0 < k := by omega
          have d3 : decide ((0 : Int) < (k : Int)) = true := decide_eq_true (by omega)
          have p0 : (0 : Int) ≤ (k : Int) - 1 := by omega
          have p1 : (k : Int) - 1 < (j : Int) + 1 := by omega
          have p2 : IntKind.i64.wrap ((k : Int) - 1) = (k : Int) - 1 := by rw [IntKind.wrap_i64]; omega
          have hy' : W.cell? ⟨gb, (k - 1) * 2, none⟩ = some (.int .i64 y) := by rw [show k - 1 = i by omega]; exact Hold.out i y hy
          have Hyb := hid hyb
          have Hyg := hid hyg
          clear hy hyb hyg hi hk0
          by_cases hxy : x = y
          · have b2 : (x == y) = true := by rw [beq_iff_eq]; exact hxy
            have Hbad := hid (Hyb.out hxy)
            clear hxy
            go_quiet (fail)
            go_wp2
            go_ret
            exact ⟨.inl ⟨rfl, _, Hbad.out⟩, Hb3.out.trans (below_drewN _ _ _)⟩
          · have b2 : (x == y) = false := by rw [beq_eq_false_iff_ne]; exact hxy
            have Hn := hid (Hnext.out (Hyg.out hxy H256.out))
            clear hxy
            go_quiet (fail)
            go_wp2
            go_roundw
            case rel => exact ⟨k + 1, by omega, by go_num, Hn.out, Hb3.out.trans (below_drewN _ _ _)⟩
            case measure => simp [intOf]; omega
      · have b1 : ((L : Int) != 256) = true := by rw [bne_iff_ne]; omega
        have Hbad := hid (Hlen.out h256)
        clear h256
        by_cases hk0 : k = 0
        · have d6 : ¬ 0 < k := by omega
          have d3 : decide ((0 : Int) < (k : Int)) = false := decide_eq_false (by omega)
          clear hk0
          go_quiet (fail)
          go_wp2
          go_ret
          exact ⟨.inl ⟨rfl, _, Hbad.out⟩, Hb3.out.trans (below_drewN _ _ _)⟩
        · obtain ⟨i, hi⟩ : ∃ i, k = i + 1 := ⟨k - 1, by omega⟩
          obtain ⟨y, hy, hyb, hyg⟩ := Hdup.out i hi
          have d5 : 0 < k := by omega
          have d3 : decide ((0 : Int) < (k : Int)) = true := decide_eq_true (by omega)
          have p0 : (0 : Int) ≤ (k : Int) - 1 := by omega
          have p1 : (k : Int) - 1 < (j : Int) + 1 := by omega
          have p2 : IntKind.i64.wrap ((k : Int) - 1) = (k : Int) - 1 := by rw [IntKind.wrap_i64]; omega
          have hy' : W.cell? ⟨gb, (k - 1) * 2, none⟩ = some (.int .i64 y) := by rw [show k - 1 = i by omega]; exact Hold.out i y hy
          clear hy hyb hyg hi hk0
          by_cases hxy : x = y
          · have b2 : (x == y) = true := by rw [beq_iff_eq]; exact hxy
            clear hxy
            go_quiet (fail)
            go_wp2
            go_ret
            exact ⟨.inl ⟨rfl, _, Hbad.out⟩, Hb3.out.trans (below_drewN _ _ _)⟩
          · have b2 : (x == y) = false := by rw [beq_eq_false_iff_ne]; exact hxy
            clear hxy
            go_quiet (fail)
            go_wp2
            go_ret
            exact ⟨.inl ⟨rfl, _, Hbad.out⟩, Hb3.out.trans (below_drewN _ _ _)⟩
    · have e : k = j + 1 := by omega
      have Hall : Hid (∀ q, ¬ BadPg s q) := fun q hq => by
        obtain ⟨hq', _⟩ := id hq
        exact Hpre.out q (by rw [Hj.out] at hq'; omega) hq
      have HM := hid (H.out.below Hbel.out)
      have Hfr := hid (free_any HM.out hU (by have := Hl.out; omega))
      have Hne : Hid (needOf ((j : Int) + 1) = (j : Int) + 2) := by show _ = _; unfold needOf; rw [if_neg (by omega)]; omega
      have Hsl : Hid ((s.length : Int) + 1 = (j : Int) + 2) := by show _ = _; rw [Hj.out]; omega
      clear e
      by_cases hfull : (S : Int) - (U : Int) < (j : Int) + 2
      · go_wp2_with (first | (go_at_call 144; refine Hfr.out.mono ?_; rintro e w5 ⟨rfl, m5, rfl⟩) | (go_at_call 145; refine (need_any _ _).mono ?_; rw [Hne.out]; rintro e w6 ⟨rfl, rfl⟩))
        go_ret
        exact ⟨.inr ⟨Hall.out, by rw [Hsl.out, if_pos (by omega)]; rfl⟩, Hbel.out.trans (below_drewN _ _ _)⟩
      · go_wp2_with (first | (go_at_call 144; refine Hfr.out.mono ?_; rintro e w5 ⟨rfl, m5, rfl⟩) | (go_at_call 145; refine (need_any _ _).mono ?_; rw [Hne.out]; rintro e w6 ⟨rfl, rfl⟩))
        go_ret
        exact ⟨.inr ⟨Hall.out, by rw [Hsl.out, if_neg (by omega)]; rfl⟩, Hbel.out.trans (below_drewN _ _ _)⟩
end Go.Proofs.YtdieafkmnckhaaaGreat
