/- A loop over a function that keeps variables of its own in memory: what is asked of such a function, and the loop's law. -/
import Derived.Test.YtbfoigppcbmikaaDoorACh
import Derived.Test.YtbfoigppcbmikaaDoorEBridge
namespace Go.Proofs.YtbfoigppcbmikaaDoor
open Go.RowKit Go.Shelf
set_option linter.unusedVariables false

/-- what lies in the blocks from lo on, below hi, may have become another; all else stays -/
abbrev Chg (lo hi : Nat) (W W' : World) : Prop := Out (fun k => lo ≤ k ∧ k < hi) W W'
/-- it speaks of what lies below B alone -/
def Beyond {β : Type} (B : Nat) (J : β → World → Prop) : Prop := ∀ s W W', J s W → Below B W W' → J s W'
theorem below_putObj {B : Nat} (W : World) (l : Nat) (o : Obj) (h : B ≤ l) : Below B W (W.putObj l o) := ⟨rfl, rfl, rfl, Nat.le_of_eq World.putObj_size.symm, fun k hk => World.putObj_heap_other (by omega)⟩
theorem Chg.below {lo hi : Nat} {W W' : World} (h : Chg lo hi W W') (hw : lo ≤ W.heap.size) : Below lo W W' := Out.below h hw (fun k hk => hk.1)

theorem Out.setRow {P : Nat → Prop} {w w' : World} (h : Out P w w') (g : Nat) (hg : P g) (cs : Array Value) : Out P w (w'.setRow g cs) :=
  ⟨h.os, h.tape, h.output, by rw [size_setRow]; exact h.size, fun k hk hp => (setRow_other _ _ _ _ (fun x => hp (by rw [x]; exact hg))).trans (h.block k hk hp)⟩
variable {α : Type} {F : Fence} {n : Nat} {P : Program}
/-- the function hands out the elements one by one, and keeps apart what it writes from what lay there -/
def SeqB (F : Fence) (n : Nat) (P : Program) (g : Nat) (lb : Array Value) (encs : α → Array Value) (lo hi : Nat) (S Sp : List α → Prop) (N : Nat) (w : World) : Prop :=
  ∀ (l : Nat) (J Jx : List α → World → Prop) (W : World), Below w.heap.size w W → Beyond W.heap.size J →
    (∀ pre x W1, J pre W1 → W.heap.size ≤ W1.heap.size → pre.length < N → YieldAt F (n - 1) P l (encs x) W1 fun e W' => (e = .returned (.bool true) ∧ J (pre ++ [x]) W' ∧ Chg lo hi W1 W') ∨ (e = .returned (.bool false) ∧ Jx (pre ++ [x]) W')) →
    J [] W → CallsIn F n P g (#[.func (.yield l) #[] #[]] ++ lb) W fun e W' => (∃ v, e = .returned v) ∧ ((∃ xs, S xs ∧ J xs W') ∨ (∃ pre, Sp pre ∧ Jx pre W'))
/-- how the body of a round may end -/
def RoundEnd (lo hi : Nat) (I : List α → World → Prop) (Ix : Code → List α → World → Prop) (xs : List α) (W : World) : Exit → Act → World → Prop
  | .normal, _, W' => Chg lo hi W W' ∧ I xs W'
  | .ret, _, W' => Chg lo hi W W' ∧ Ix .ret xs W'
  | .exit id, _, W' => Chg lo hi W W' ∧ Ix (.exit id) xs W'
  | .goto t, _, W' => Chg lo hi W W' ∧ Ix (.goto t) xs W'
  | .panic _, _, _ => False
  | .outgrown, _, _ => False
/-- a loop's record, and the block behind which its deferred calls would lie -/
structure Book (d : Nat) (r : Loop) (W : World) : Prop where
  rcd : W.heap[d + 1]? = some (.loop r)
  defs : W.heap[d]? = some (.deferred (some []))
theorem Book.keep {d : Nat} {r : Loop} {W W' : World} (h : Book d r W) (h1 : W'.heap[d + 1]? = W.heap[d + 1]?) (h2 : W'.heap[d]? = W.heap[d]?) : Book d r W' := ⟨h1.trans h.rcd, h2.trans h.defs⟩
theorem Book.put {d : Nat} {r : Loop} {W : World} (h : Book d r W) (r' : Loop) : Book d r' (W.putObj (d + 1) (.loop r')) :=
  ⟨World.putObj_heap_same (heap_lt h.rcd), (World.putObj_heap_other (by omega)).trans h.defs⟩
/-- one round: what its body leaves behind is what yield hands on -/
theorem round_ends {d lo hi : Nat} {r : Loop} {I : List α → World → Prop} {Ix : Code → List α → World → Prop} {xs : List α} {W0 W W1 : World} (hr : r.state = .ready) (hp : r.pending = none) (hhi : hi ≤ d)
    (hI : Beyond d I) (hIx : ∀ c, Beyond d (Ix c)) (hB : Book d r W) (hW : Chg lo hi W0 W) (hW1 : W1 = W.putObj (d + 1) (.loop { r with state := .busy })) (e : Exit) (a : Act) (W' : World) (h : RoundEnd lo hi I Ix xs W1 e a W') :
    roundPost P (d + 1) (fun e V => (e = .returned (.bool true) ∧ (I xs V ∧ Book d r V) ∧ Chg lo hi W0 V) ∨ (e = .returned (.bool false) ∧ ∃ c, Ix c xs V ∧ Book d { r with state := .done, pending := some c } V)) e a W' := by
  have hB1 : Book d { r with state := .busy } W1 := by rw [hW1]; exact hB.put _
  have s1 : W1.heap.size = W.heap.size := by rw [hW1]; simp
  have l1 : d + 1 < W1.heap.size := heap_lt hB1.rcd
  have fin : ∀ W', Chg lo hi W1 W' → Book d { r with state := .busy } W' := fun W' hc => hB1.keep (hc.block _ l1 (by omega)) (hc.block _ (by omega) (by omega))
  have left : ∀ (c : Code) (W' : World), Chg lo hi W1 W' → Ix c xs W' → ∃ v V, (Instr.endRound (d + 1) (some c)).run P W' = .ok v V ∧ ((Ending.returned v = .returned (.bool true) ∧ (I xs V ∧ Book d r V) ∧ Chg lo hi W0 V) ∨ (Ending.returned v = .returned (.bool false) ∧ ∃ c, Ix c xs V ∧ Book d { r with state := .done, pending := some c } V)) := fun c W' hc hi' =>
    ⟨_, _, run_endRound (some c) (fin W' hc).rcd, .inr ⟨rfl, c, hIx c xs _ _ hi' (below_putObj _ _ _ (by omega)), (fin W' hc).put _⟩⟩
  cases e with
  | normal =>
    obtain ⟨hc, hi'⟩ := h
    have hb := fin W' hc
    have hrr : ({ ({ r with state := .busy } : Loop) with state := .ready, pending := none } : Loop) = r := by
      cases r
      simp only at hr hp
      subst hr
      subst hp
      rfl
    refine ⟨_, _, run_endRound none hb.rcd, .inl ⟨rfl, ⟨hI xs _ _ hi' (below_putObj _ _ _ (by omega)), ?_⟩, ?_⟩⟩
    · have := hb.put r
      simp only [Option.isNone_none, if_true]
      rw [hrr]
      exact this
    · simp only [Option.isNone_none, if_true]
      rw [hrr]
      have s0 := hW.size
      have s2 := hc.size
      refine ⟨hc.os.trans ?_, hc.tape.trans ?_, hc.output.trans ?_, by simp; omega, fun k hk hn => ?_⟩
      · rw [hW1]; exact hW.os
      · rw [hW1]; exact hW.tape
      · rw [hW1]; exact hW.output
      · by_cases hkd : k = d + 1
        · subst hkd
          rw [World.putObj_heap_same (heap_lt hb.rcd), ← hW.block _ hk hn]
          exact hB.rcd.symm
        · rw [World.putObj_heap_other hkd, hc.block k (by omega) hn, hW1, World.putObj_heap_other hkd]
          exact hW.block k hk hn
  | ret => exact left _ _ h.1 h.2
  | exit id => exact left _ _ h.1 h.2
  | goto t => exact left _ _ h.1 h.2
  | panic c => exact h.elim
  | outgrown => exact h.elim

/-- the loop -/
theorem range_B {g : Operand} {ps : Array Tmp} {assign body : Code} {Q : Exit → Act → World → Prop} {a : Act} {w : World} (hro : F.round = none) (h1 : 1 ≤ n) {gf : Nat} {lb : Array Value} (hg : a.eval g = .func (.func gf) #[] lb) (hFg : F.fn gf) (eg : ∀ args w, (callFunc gf args).run P w = .ok (.enter gf args) w)
    {encs : α → Array Value} {lo hi : Nat} {S Sp : List α → Prop} {N : Nat} (hseq : SeqB F (n - 1) P gf lb encs lo hi S Sp N w) (hhi : hi ≤ w.heap.size) (hps : ∀ x, (encs x).size = ps.size)
    (I : List α → World → Prop) (Ix : Code → List α → World → Prop) (hI : Beyond w.heap.size I) (hIx : ∀ c, Beyond w.heap.size (Ix c)) (h0 : I [] w)
    (hround : ∀ (l : Nat) (pre : List α) (x : α) (W : World), w.heap.size + 1 < W.heap.size → I pre W → pre.length < N →
      assign.wpIn (F.inRound l) (n - 1 - 1) P (Exit.then (fun a1 W1 => Chg lo hi W W1 ∧ ∀ o, body.wpIn (F.inRound l) (n - 1 - 1) P (RoundEnd lo hi I Ix (pre ++ [x]) (W1.putObj (w.heap.size + 1) o)) a1 (W1.putObj (w.heap.size + 1) o)) (fun _ _ _ => False)) { tmps := (ps.zip (encs x)).foldl (fun t (p, v) => t.setIfInBounds p v) a.tmps, defers := [] } W)
    (hdone : ∀ (xs : List α) (W : World), S xs → I xs W → W.heap[w.heap.size]? = some (.deferred (some [])) → Q .normal { a with defers := { target := .collected w.heap.size, args := #[] } :: a.defers } W)
    (hstop : ∀ (c : Code) (pre : List α) (W : World), Sp pre → Ix c pre W → W.heap[w.heap.size]? = some (.deferred (some [])) → c.wpIn F n P Q { a with defers := { target := .collected w.heap.size, args := #[] } :: a.defers } W) :
    (Code.rangeFunc g ps assign body).wpIn F n P Q a w := by
  refine wpIn_rangeFunc fun fn hfn => ?_
  rw [hro]
  obtain ⟨r, hr⟩ : ∃ r : Loop, r = { state := .ready, pending := none, fn, tmps := a.tmps, params := ps, assign, body, defers := w.heap.size } := ⟨_, rfl⟩
  obtain ⟨d, hd⟩ : ∃ d, d = w.heap.size := ⟨_, rfl⟩
  obtain ⟨V, hV⟩ : ∃ V, V = (w.alloc (.deferred (some []))).alloc (.loop r) := ⟨_, rfl⟩
  have bV : Below w.heap.size w V := by rw [hV]; exact ((Below.refl _ w).alloc (Nat.le_refl _) _).alloc (by simp) _
  have sV : V.heap.size = d + 2 := by rw [hV, hd]; simp
  have kV : Book d r V := by
    refine ⟨?_, ?_⟩
    · rw [hV, hd]
      have := World.alloc_heap_new (w.alloc (.deferred (some []))) (.loop r)
      rwa [World.size_alloc] at this
    · rw [hV, hd]
      exact (Below.heap_alloc _ _ _ (by simp)).trans (World.alloc_heap_new w _)
  rw [← hd] at hI hIx hhi hround hdone hstop bV
  refine ⟨d + 1, [{ target := .collected d, args := #[] }], V, { target := .fn (.func gf) lb, args := #[.func (.yield (d + 1)) #[] #[]] }, V, gf, #[.func (.yield (d + 1)) #[] #[]] ++ lb, V, ?_, ?_, ?_, ?_, fun _ => h1, ?_⟩
  · rw [hV, hr, hd]
    exact run_enterLoop_outer _ _ _ _ _
  · simp only [resolve, hg]
    simp [go_sem]
  · intro f' hf'
    simp [Target.leads] at hf'
    subst hf'
    exact hFg
  · simp [invoke, go_sem, eg]
  · have keepB : ∀ {r' : Loop} {A B : World}, Book d r' A → Below V.heap.size A B → Book d r' B := fun h hb => h.keep (hb.block _ (by omega)) (hb.block _ (by omega))
    refine (hseq (d + 1) (fun pre W => I pre W ∧ Book d r W) (fun pre W => ∃ c, Ix c pre W ∧ Book d { r with state := .done, pending := some c } W) V (by rw [← hd]; exact bV)
      (fun s A B hs hb => ⟨hI s A B hs.1 (hb.mono (by omega)), keepB hs.2 hb⟩) ?_ ⟨hI _ _ _ h0 bV, kV⟩).mono ?_
    · rintro pre x W ⟨hi', hb⟩ hsz hlen
      have hy := run_yield (P := P) (args := encs x) hb.rcd (by rw [hr]; exact hps x)
      rw [hr] at hy
      refine ⟨fn, _, assign, body, hy, roundIn_of_wpIn hfn (wpIn_mono (hround (d + 1) pre x W (by omega) hi' hlen) ?_)⟩
      clear hy
      rintro e a1 W1 hp
      cases e with
      | normal =>
        obtain ⟨hc, hbody⟩ := hp
        have l1 : d + 1 < W.heap.size := by omega
        have hb1 : Book d r W1 := hb.keep (hc.block _ l1 (by omega)) (hc.block _ (by omega) (by omega))
        have hbegin := run_beginRound (P := P) hb1.rcd (by rw [hr])
        refine ⟨_, hbegin, ?_⟩
        exact wpIn_mono (hbody _) (fun e a W' h => round_ends (by rw [hr]) (by rw [hr]) hhi hI hIx hb1 hc rfl e a W' h)
      | ret => exact hp.elim
      | exit id => exact hp.elim
      | goto t => exact hp.elim
      | panic c => exact hp.elim
      | outgrown => exact hp.elim
    · rintro e W2 ⟨⟨v, rfl⟩, (⟨xs, hS, hi', hb⟩ | ⟨pre, hSp, c, hi', hb⟩)⟩
      · exact ⟨none, _, by have := run_endLoop (P := P) hb.rcd (by rw [hr]; simp); rw [hr] at this; exact this, hdone xs _ hS (hI _ _ _ hi' (below_putObj _ _ _ (by omega))) ((World.putObj_heap_other (by omega)).trans hb.defs)⟩
      · exact ⟨some c, _, by have := run_endLoop (P := P) hb.rcd (by simp); rw [hr] at this; exact this, hstop c pre _ hSp (hIx c _ _ _ hi' (below_putObj _ _ _ (by omega))) ((World.putObj_heap_other (by omega)).trans hb.defs)⟩
end Go.Proofs.YtbfoigppcbmikaaDoor
