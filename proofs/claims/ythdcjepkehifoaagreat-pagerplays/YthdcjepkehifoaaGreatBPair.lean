/- A disk and a reference's disk side by side: what a write to each leaves. -/
import Derived.Test.YthdcjepkehifoaaGreatBRefWr
namespace Go.Proofs.YthdcjepkehifoaaGreat
open Go.RowKit
set_option linter.unusedVariables false
set_option maxRecDepth 20000

/-- the reference's log behind a write -/
def rLs (fs : List (List UInt8)) (ls : List (Nat × List UInt8)) (n : Int) (x : List UInt8) : List (Nat × List UInt8) := if wErr fs.length n x.length = 0 then ls ++ [(n.toNat, x)] else ls

theorem refWrite_any {w : World} {B r : Nat} {F L : Value} {vs us : List Value} {fs : List (List UInt8)} {ls : List (Nat × List UInt8)} (h : RefAt w B r F L vs us fs ls) (n : Int) (x : List UInt8) {vx : Value} {B2 : Nat} (hx : w.ownsRow B2 5 1 vx x.length (cellsOf x)) (hls : ls.length ≤ 1000000) (hbase : B ≤ w.heap.size) :
    Calls Tryz.prog 126 #[.pointer (some ⟨r, 0, none⟩), .int .i64 n, vx] w fun e w' => e = .returned (.int .i64 (wErr fs.length n x.length : Int)) ∧
      ∃ L' us', RefAt w' B r F L' vs us' fs (rLs fs ls n x) ∧ (∀ k, refBlock F L' vs us' k → refBlock F L vs us k ∨ w.heap.size ≤ k) ∧ Only r r none w w' := by
  obtain ⟨fa, fc, hF⟩ : ∃ fa fc, F = .slice fa fs.length fc := by
    rcases h.first.2 with ⟨hv, h0⟩ | ⟨g, cap, cur, hv, _⟩
    · exact ⟨none, 0, by rw [hv, h0]⟩
    · exact ⟨_, _, hv⟩
  by_cases h1 : n < 0 ∨ (fs.length : Int) ≤ n
  · have e : wErr fs.length n x.length = 2 := by unfold wErr; rw [if_pos h1]
    obtain ⟨a, c, rfl, _, _⟩ := bytes_of_own hx
    refine (refWrite_far h fa fc hF n h1 a x.length c).mono ?_
    rintro e' w' ⟨rfl, rfl⟩
    exact ⟨by rw [e]; rfl, L, us, by unfold rLs; rw [e]; exact h, fun k hk => .inl hk, Only.refl _ _ _ _⟩
  · obtain ⟨m, rfl⟩ : ∃ m : Nat, n = (m : Int) := ⟨n.toNat, by omega⟩
    have hm : m < fs.length := by omega
    by_cases h2 : x.length = 256
    · have e : wErr fs.length (m : Int) x.length = 0 := by unfold wErr; rw [if_neg h1, if_neg (by omega)]
      obtain ⟨b, c, rfl, hB, _, _⟩ := own_form hx (by omega)
      rw [h2]
      refine (refWrite_ok h fa fc hF m hm x h2 b 0 c hB hls hbase).mono ?_
      rintro e' w' ⟨rfl, L', u, hR, hb, ho⟩
      rw [h2] at e
      refine ⟨by rw [e]; rfl, L', us ++ [u], ?_, hb, ho⟩
      unfold rLs
      rw [h2, e, if_pos rfl]
      exact hR
    · have e : wErr fs.length (m : Int) x.length = 3 := by unfold wErr; rw [if_neg h1, if_pos h2]
      obtain ⟨a, c, rfl, _, _⟩ := bytes_of_own hx
      refine (refWrite_form h fa fc hF m hm a x.length c h2).mono ?_
      rintro e' w' ⟨rfl, rfl⟩
      exact ⟨by rw [e]; rfl, L, us, by unfold rLs; rw [e]; exact h, fun k hk => .inl hk, Only.refl _ _ _ _⟩

/-- a block of either disk -/
def pairBlock (d g : Nat) (v : Value) (r : Nat) (F L : Value) (vs us : List Value) (k : Nat) : Prop := (k = d ∨ k = g ∨ v.ownBlock = some k) ∨ (k = r ∨ refBlock F L vs us k)
structure Pair (w : World) (B d g cap : Nat) (v : Value) (ps : List (List UInt8)) (ch : List (Nat × List UInt8)) (r : Nat) (F L : Value) (vs us : List Value) (fs : List (List UInt8)) (ls : List (Nat × List UInt8)) : Prop where
  disk : DiskAt w B d g cap v ps ch
  ref : RefAt w B r F L vs us fs ls
  sep : ∀ k, (k = r ∨ refBlock F L vs us k) → k ≠ d ∧ k ≠ g ∧ some k ≠ v.ownBlock
/-- All blocks but those are as they were. -/
structure Out (P : Nat → Prop) (w w' : World) : Prop where
  os : w'.os = w.os
  tape : w'.tape = w.tape
  output : w'.output = w.output
  size : w.heap.size ≤ w'.heap.size
  block : ∀ k, k < w.heap.size → ¬ P k → w'.heap[k]? = w.heap[k]?
theorem Out.below {P : Nat → Prop} {w w' : World} (h : Out P w w') {B : Nat} (hB : B ≤ w.heap.size) (hP : ∀ k, P k → B ≤ k) : Below B w w' := ⟨h.os, h.tape, h.output, h.size, fun k hk => h.block k (by omega) (fun hp => by have := hP k hp; omega)⟩

theorem Pair.keep {w w' : World} {B d g cap : Nat} {v : Value} {ps : List (List UInt8)} {ch : List (Nat × List UInt8)} {r : Nat} {F L : Value} {vs us : List Value} {fs : List (List UInt8)} {ls : List (Nat × List UInt8)} (h : Pair w B d g cap v ps ch r F L vs us fs ls) (hk : ∀ k, pairBlock d g v r F L vs us k → w'.heap[k]? = w.heap[k]?) : Pair w' B d g cap v ps ch r F L vs us fs ls :=
  ⟨h.disk.keep (hk _ (.inl (.inl rfl))) (hk _ (.inl (.inr (.inl rfl)))) (fun k e => hk k (.inl (.inr (.inr e)))), h.ref.keep (hk _ (.inr (.inl rfl))) (fun k e => hk k (.inr (.inr e))), h.sep⟩
theorem Pair.lts {w : World} {B d g cap : Nat} {v : Value} {ps : List (List UInt8)} {ch : List (Nat × List UInt8)} {r : Nat} {F L : Value} {vs us : List Value} {fs : List (List UInt8)} {ls : List (Nat × List UInt8)} (h : Pair w B d g cap v ps ch r F L vs us fs ls) : ∀ k, pairBlock d g v r F L vs us k → B ≤ k ∧ k < w.heap.size := by
  rintro k ((rfl | rfl | e) | (rfl | e))
  · exact ⟨h.disk.bd, h.disk.lts.1⟩
  · exact ⟨(h.disk.pages.lt _ rfl).1, h.disk.lts.2.1⟩
  · exact h.disk.chs.lt k e
  · exact ⟨h.ref.br, h.ref.lts.1⟩
  · exact h.ref.lts.2 k e
theorem Pair.below {w w' : World} {B d g cap : Nat} {v : Value} {ps : List (List UInt8)} {ch : List (Nat × List UInt8)} {r : Nat} {F L : Value} {vs us : List Value} {fs : List (List UInt8)} {ls : List (Nat × List UInt8)} (h : Pair w B d g cap v ps ch r F L vs us fs ls) (hb : Below w.heap.size w w') : Pair w' B d g cap v ps ch r F L vs us fs ls :=
  h.keep fun k hk => hb.block k (h.lts k hk).2

theorem pair_dwrite {w : World} {B d g cap : Nat} {v : Value} {ps : List (List UInt8)} {ch : List (Nat × List UInt8)} {r : Nat} {F L : Value} {vs us : List Value} {fs : List (List UInt8)} {ls : List (Nat × List UInt8)} (h : Pair w B d g cap v ps ch r F L vs us fs ls) (n : Int) (x : List UInt8) {vx : Value} {B2 : Nat} (hx : w.ownsRow B2 5 1 vx x.length (cellsOf x))
    (hap : ∀ k, pairBlock d g v r F L vs us k → k < B2) (hch : ch.length ≤ 1000000) (hbase : B ≤ w.heap.size) :
    Calls Tryz.prog 103 #[.pointer (some ⟨d, 0, none⟩), .int .i64 n, vx] w fun e w' => e = .returned (.int .i64 (wErr ps.length n x.length : Int)) ∧
      ∃ v', Pair w' B d g cap v' (wPs ps n x) (wCh ps ch n x) r F L vs us fs ls ∧ (∀ k, pairBlock d g v' r F L vs us k → pairBlock d g v r F L vs us k ∨ w.heap.size ≤ k) ∧ Out (pairBlock d g v r F L vs us) w w' := by
  refine (write_any h.disk n x hx ⟨hap _ (.inl (.inl rfl)), hap _ (.inl (.inr (.inl rfl))), fun k e => hap k (.inl (.inr (.inr e)))⟩ hch hbase).mono ?_
  rintro e w' ⟨rfl, v', hD, hv, ho⟩
  refine ⟨rfl, v', ⟨hD, h.ref.keep ?_ ?_, ?_⟩, ?_, ⟨ho.os, ho.tape, ho.output, ho.size, fun k hk hp => ho.block k hk (fun e => hp (.inl (.inl e))) (fun e => hp (.inl (.inr (.inl e)))) (fun e => hp (.inl (.inr (.inr e.symm))))⟩⟩
  · have s := h.sep r (.inl rfl)
    exact ho.block r h.ref.lts.1 s.1 s.2.1 s.2.2
  · intro k hk
    have s := h.sep k (.inr hk)
    exact ho.block k (h.ref.lts.2 k hk).2 s.1 s.2.1 s.2.2
  · intro k hk
    have s := h.sep k hk
    refine ⟨s.1, s.2.1, ?_⟩
    rcases hv with hv | hv
    · rw [hv]; exact s.2.2
    · rw [hv]
      intro e
      have := (h.lts k (.inr hk)).2
      cases e
      omega
  · rintro k ((e | e | e) | e)
    · exact .inl (.inl (.inl e))
    · exact .inl (.inl (.inr (.inl e)))
    · rcases hv with hv | hv
      · exact .inl (.inl (.inr (.inr (by rw [← hv]; exact e))))
      · rw [hv] at e; cases e; exact .inr (by omega)
    · exact .inl (.inr e)

theorem pair_rwrite {w : World} {B d g cap : Nat} {v : Value} {ps : List (List UInt8)} {ch : List (Nat × List UInt8)} {r : Nat} {F L : Value} {vs us : List Value} {fs : List (List UInt8)} {ls : List (Nat × List UInt8)} (h : Pair w B d g cap v ps ch r F L vs us fs ls) (n : Int) (x : List UInt8) {vx : Value} {B2 : Nat} (hx : w.ownsRow B2 5 1 vx x.length (cellsOf x))
    (hls : ls.length ≤ 1000000) (hbase : B ≤ w.heap.size) :
    Calls Tryz.prog 126 #[.pointer (some ⟨r, 0, none⟩), .int .i64 n, vx] w fun e w' => e = .returned (.int .i64 (wErr fs.length n x.length : Int)) ∧
      ∃ L' us', Pair w' B d g cap v ps ch r F L' vs us' fs (rLs fs ls n x) ∧ (∀ k, pairBlock d g v r F L' vs us' k → pairBlock d g v r F L vs us k ∨ w.heap.size ≤ k) ∧ Out (pairBlock d g v r F L vs us) w w' := by
  refine (refWrite_any h.ref n x hx hls hbase).mono ?_
  rintro e w' ⟨rfl, L', us', hR, hb, ho⟩
  have s := h.sep r (.inl rfl)
  have dl := h.disk.lts
  refine ⟨rfl, L', us', ⟨h.disk.keep (ho.block d dl.1 (Ne.symm s.1) (Ne.symm s.1) (fun e => by cases e)) (ho.block g dl.2.1 (Ne.symm s.2.1) (Ne.symm s.2.1) (fun e => by cases e)) (fun k e => ho.block k (dl.2.2 k e) (fun h => s.2.2 (by rw [e, h])) (fun h => s.2.2 (by rw [e, h])) (fun e => by cases e)), hR, ?_⟩, ?_, ⟨ho.os, ho.tape, ho.output, ho.size, fun k hk hp => ho.block k hk (fun e => hp (.inr (.inl e))) (fun e => hp (.inr (.inl e))) (fun e => by cases e)⟩⟩
  · rintro k (rfl | hk)
    · exact s
    · rcases hb k hk with h1 | h1
      · exact h.sep k (.inr h1)
      · exact ⟨by omega, by omega, fun e => by have := dl.2.2 k e.symm; omega⟩
  · rintro k (e | (e | e))
    · exact .inl (.inl e)
    · exact .inl (.inr (.inl e))
    · rcases hb k e with h1 | h1
      · exact .inl (.inr (.inr h1))
      · exact .inr h1

/-- what the pages, and the changes, are behind a log -/
def psOf : List (List UInt8) → List (Nat × List UInt8) → List (List UInt8)
  | fs, [] => fs
  | fs, c :: ls => psOf (fs.set c.1 c.2) ls
def chOf : List (List UInt8) → List (Nat × List UInt8) → List (Nat × List UInt8)
  | _, [] => []
  | fs, c :: ls => (c.1, fs.getD c.1 []) :: chOf (fs.set c.1 c.2) ls
theorem psOf_length (fs : List (List UInt8)) (ls : List (Nat × List UInt8)) : (psOf fs ls).length = fs.length := by
  induction ls generalizing fs with
  | nil => rfl
  | cons c ls ih => rw [psOf, ih, List.length_set]
theorem chOf_length (fs : List (List UInt8)) (ls : List (Nat × List UInt8)) : (chOf fs ls).length = ls.length := by
  induction ls generalizing fs with
  | nil => rfl
  | cons c ls ih => rw [chOf, List.length_cons, ih, List.length_cons]
theorem psOf_snoc (fs : List (List UInt8)) (ls : List (Nat × List UInt8)) (c : Nat × List UInt8) : psOf fs (ls ++ [c]) = (psOf fs ls).set c.1 c.2 := by
  induction ls generalizing fs with
  | nil => rfl
  | cons c' ls ih => exact ih _
theorem chOf_snoc (fs : List (List UInt8)) (ls : List (Nat × List UInt8)) (c : Nat × List UInt8) : chOf fs (ls ++ [c]) = chOf fs ls ++ [(c.1, (psOf fs ls).getD c.1 [])] := by
  induction ls generalizing fs with
  | nil => rfl
  | cons c' ls ih => show _ :: chOf _ (ls ++ [c]) = _ :: (chOf _ ls ++ _); rw [ih]; rfl
theorem psOf_step (fs : List (List UInt8)) (ls : List (Nat × List UInt8)) (n : Int) (x : List UInt8) : wPs (psOf fs ls) n x = psOf fs (rLs fs ls n x) ∧ wCh (psOf fs ls) (chOf fs ls) n x = chOf fs (rLs fs ls n x) := by
  unfold wPs wCh rLs
  rw [psOf_length]
  split
  · rw [psOf_snoc, chOf_snoc]; exact ⟨rfl, rfl⟩
  · exact ⟨rfl, rfl⟩
theorem undo_psOf (fs : List (List UInt8)) (ls : List (Nat × List UInt8)) (h : ∀ c ∈ ls, c.1 < fs.length) (n : Nat) (hn : n ≤ ls.length) : undo (psOf fs ls) (chOf fs ls) n = psOf fs (ls.take n) := by
  induction ls generalizing fs n with
  | nil => simp [undo, chOf, psOf]
  | cons c ls ih =>
    have ih0 := ih (fs.set c.1 c.2) (fun q hq => by rw [List.length_set]; exact h q (List.mem_cons_of_mem _ hq))
    cases n with
    | zero =>
      have e : undo (psOf fs (c :: ls)) (chOf fs (c :: ls)) 0 = (undo (psOf (fs.set c.1 c.2) ls) (chOf (fs.set c.1 c.2) ls) 0).set c.1 (fs.getD c.1 []) := rfl
      rw [e, ih0 0 (Nat.zero_le _)]
      simp only [List.take_zero, psOf]
      have hc := h c List.mem_cons_self
      rw [List.set_set]
      apply List.ext_getElem
      · simp
      · intro i h1 h2
        rw [List.getElem_set]
        split
        · next he => subst he; simp [List.getD, List.getElem?_eq_getElem hc]
        · rfl
    | succ n => exact ih0 n (by simpa using hn)
theorem rLs_ok (fs : List (List UInt8)) (ls : List (Nat × List UInt8)) (n : Int) (x : List UInt8) (h : ∀ c ∈ ls, c.1 < fs.length ∧ c.2.length = 256) : ∀ c ∈ rLs fs ls n x, c.1 < fs.length ∧ c.2.length = 256 := by
  unfold rLs
  intro c hc
  split at hc
  · next he =>
    rcases List.mem_append.1 hc with h1 | h1
    · exact h c h1
    · rw [List.mem_singleton.1 h1]
      unfold wErr at he
      split at he
      · cases he
      · split at he
        · cases he
        · next h3 h4 => exact ⟨by show n.toNat < _; omega, by show x.length = 256; omega⟩
  · exact h c hc
theorem rLs_len (fs : List (List UInt8)) (ls : List (Nat × List UInt8)) (n : Int) (x : List UInt8) : (rLs fs ls n x).length ≤ ls.length + 1 := by
  unfold rLs; split <;> simp
end Go.Proofs.YthdcjepkehifoaaGreat
