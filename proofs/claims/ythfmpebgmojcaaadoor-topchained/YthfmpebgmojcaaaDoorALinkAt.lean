/- YthfmpebgmojcaaaDoorARange + YthfmpebgmojcaaaDoorALinks + YthfmpebgmojcaaaDoorALinkAt -/
import Derived.Test.YthfmpebgmojcaaaDoorAToNum
import Derived.Test.YthfmpebgmojcaaaDoorETag
import Derived.Test.YthfmpebgmojcaaaDoorALinks5
/- A loop over a function that keeps variables of its own in memory: what is asked of such a function, and the loop's law. -/
namespace Go.Proofs.YthfmpebgmojcaaaDoor
open Go.RowKit Go.Shelf
set_option linter.unusedVariables false
abbrev Chg (lo hi : Nat) (W W' : World) : Prop := Out (fun k => lo ≤ k ∧ k < hi) W W'
def Beyond {β : Type} (B : Nat) (J : β → World → Prop) : Prop := ∀ s W W', J s W → Below B W W' → J s W'
theorem below_putObj {B : Nat} (W : World) (l : Nat) (o : Obj) (h : B ≤ l) : Below B W (W.putObj l o) := ⟨rfl, rfl, rfl, Nat.le_of_eq World.putObj_size.symm, fun k hk => World.putObj_heap_other (by omega)⟩
theorem Chg.below {lo hi : Nat} {W W' : World} (h : Chg lo hi W W') (hw : lo ≤ W.heap.size) : Below lo W W' := Out.below h hw (fun k hk => hk.1)
theorem Out.setRow {P : Nat → Prop} {w w' : World} (h : Out P w w') (g : Nat) (hg : P g) (cs : Array Value) : Out P w (w'.setRow g cs) :=
  ⟨h.os, h.tape, h.output, by rw [size_setRow]; exact h.size, fun k hk hp => (setRow_other _ _ _ _ (fun x => hp (by rw [x]; exact hg))).trans (h.block k hk hp)⟩
variable {α : Type} {F : Fence} {n : Nat} {P : Program}
def SeqB (F : Fence) (n : Nat) (P : Program) (g : Nat) (lb : Array Value) (encs : α → Array Value) (lo hi : Nat) (S Sp : List α → Prop) (N : Nat) (w : World) : Prop :=
  ∀ (l : Nat) (J Jx : List α → World → Prop) (W : World), Below w.heap.size w W → Beyond W.heap.size J →
    (∀ pre x W1, J pre W1 → W.heap.size ≤ W1.heap.size → pre.length < N → YieldAt F (n - 1) P l (encs x) W1 fun e W' => (e = .returned (.bool true) ∧ J (pre ++ [x]) W' ∧ Chg lo hi W1 W') ∨ (e = .returned (.bool false) ∧ Jx (pre ++ [x]) W')) →
    J [] W → CallsIn F n P g (#[.func (.yield l) #[] #[]] ++ lb) W fun e W' => (∃ v, e = .returned v) ∧ ((∃ xs, S xs ∧ J xs W') ∨ (∃ pre, Sp pre ∧ Jx pre W'))
def RoundEnd (lo hi : Nat) (I : List α → World → Prop) (Ix : Code → List α → World → Prop) (xs : List α) (W : World) : Exit → Act → World → Prop
  | .normal, _, W' => Chg lo hi W W' ∧ I xs W'
  | .ret, _, W' => Chg lo hi W W' ∧ Ix .ret xs W'
  | .exit id, _, W' => Chg lo hi W W' ∧ Ix (.exit id) xs W'
  | .goto t, _, W' => Chg lo hi W W' ∧ Ix (.goto t) xs W'
  | .panic _, _, _ => False
  | .outgrown, _, _ => False
structure Book (d : Nat) (r : Loop) (W : World) : Prop where
  rcd : W.heap[d + 1]? = some (.loop r)
  defs : W.heap[d]? = some (.deferred (some []))
theorem Book.keep {d : Nat} {r : Loop} {W W' : World} (h : Book d r W) (h1 : W'.heap[d + 1]? = W.heap[d + 1]?) (h2 : W'.heap[d]? = W.heap[d]?) : Book d r W' := ⟨h1.trans h.rcd, h2.trans h.defs⟩
theorem Book.put {d : Nat} {r : Loop} {W : World} (h : Book d r W) (r' : Loop) : Book d r' (W.putObj (d + 1) (.loop r')) :=
  ⟨World.putObj_heap_same (heap_lt h.rcd), (World.putObj_heap_other (by omega)).trans h.defs⟩
theorem round_ends {d lo hi : Nat} {r : Loop} {I : List α → World → Prop} {Ix : Code → List α → World → Prop} {xs : List α} {W0 W W1 : World} (hr : r.state = .ready) (hp : r.pending = none) (hhi : hi ≤ d)
    (hI : Beyond d I) (hIx : ∀ c, Beyond d (Ix c)) (hB : Book d r W) (hW : Chg lo hi W0 W) (hW1 : W1 = W.putObj (d + 1) (.loop { r with state := .busy })) (e : Exit) (a : Act) (W' : World) (h : RoundEnd lo hi I Ix xs W1 e a W') :
    roundPost P (d + 1) (fun e V => (e = .returned (.bool true) ∧ (I xs V ∧ Book d r V) ∧ Chg lo hi W0 V) ∨ (e = .returned (.bool false) ∧ ∃ c, Ix c xs V ∧ Book d { r with state := .done, pending := some c } V)) e a W' := by
  have hB1 : Book d { r with state := .busy } W1 := by rw [hW1]; exact hB.put _
  have s1 : W1.heap.size = W.heap.size := by rw [hW1]; simp
  have l1 : d + 1 < W1.heap.size := heap_lt hB1.rcd
  have fin : ∀ W', Chg lo hi W1 W' → Book d { r with state := .busy } W' := fun W' hc => hB1.keep (hc.block _ l1 (by omega)) (hc.block _ (by omega) (by omega))
  have left : ∀ (c : Code) (W' : World), Chg lo hi W1 W' → Ix c xs W' → ∃ v V, (Instr.endRound (d + 1) (some c)).run P W' = .ok v V ∧ ((Ending.returned v = .returned (.bool true) ∧ (I xs V ∧ Book d r V) ∧ Chg lo hi W0 V) ∨ (Ending.returned v = .returned (.bool false) ∧ ∃ c, Ix c xs V ∧ Book d { r with state := .done, pending := some c } V)) := fun c W' hc hi' =>
    ⟨_, _, run_endRound (some c) (fin W' hc).rcd, .inr ⟨rfl, c, hIx c xs _ _ hi' (below_putObj _ _ _ (by omega)), (fin W' hc).put _⟩⟩
  cases e with
  | normal =>
    obtain ⟨hc, hi'⟩ := h
    have hb := fin W' hc
    have hrr : ({ ({ r with state := .busy } : Loop) with state := .ready, pending := none } : Loop) = r := by
      cases r
      simp only at hr hp
      subst hr
      subst hp
      rfl
    refine ⟨_, _, run_endRound none hb.rcd, .inl ⟨rfl, ⟨hI xs _ _ hi' (below_putObj _ _ _ (by omega)), ?_⟩, ?_⟩⟩
    · have := hb.put r
      simp only [Option.isNone_none, if_true]
      rw [hrr]
      exact this
    · simp only [Option.isNone_none, if_true]
      rw [hrr]
      have s0 := hW.size
      have s2 := hc.size
      refine ⟨hc.os.trans ?_, hc.tape.trans ?_, hc.output.trans ?_, by simp; omega, fun k hk hn => ?_⟩
      · rw [hW1]; exact hW.os
      · rw [hW1]; exact hW.tape
      · rw [hW1]; exact hW.output
      · by_cases hkd : k = d + 1
        · subst hkd
          rw [World.putObj_heap_same (heap_lt hb.rcd), ← hW.block _ hk hn]
          exact hB.rcd.symm
        · rw [World.putObj_heap_other hkd, hc.block k (by omega) hn, hW1, World.putObj_heap_other hkd]
          exact hW.block k hk hn
  | ret => exact left _ _ h.1 h.2
  | exit id => exact left _ _ h.1 h.2
  | goto t => exact left _ _ h.1 h.2
  | panic c => exact h.elim
  | outgrown => exact h.elim
theorem range_B {g : Operand} {ps : Array Tmp} {assign body : Code} {Q : Exit → Act → World → Prop} {a : Act} {w : World} (hro : F.round = none) (h1 : 1 ≤ n) {gf : Nat} {lb : Array Value} (hg : a.eval g = .func (.func gf) #[] lb) (hFg : F.fn gf) (eg : ∀ args w, (callFunc gf args).run P w = .ok (.enter gf args) w)
    {encs : α → Array Value} {lo hi : Nat} {S Sp : List α → Prop} {N : Nat} (hseq : SeqB F (n - 1) P gf lb encs lo hi S Sp N w) (hhi : hi ≤ w.heap.size) (hps : ∀ x, (encs x).size = ps.size)
    (I : List α → World → Prop) (Ix : Code → List α → World → Prop) (hI : Beyond w.heap.size I) (hIx : ∀ c, Beyond w.heap.size (Ix c)) (h0 : I [] w)
    (hround : ∀ (l : Nat) (pre : List α) (x : α) (W : World), w.heap.size + 1 < W.heap.size → I pre W → pre.length < N →
      assign.wpIn (F.inRound l) (n - 1 - 1) P (Exit.then (fun a1 W1 => Chg lo hi W W1 ∧ ∀ o, body.wpIn (F.inRound l) (n - 1 - 1) P (RoundEnd lo hi I Ix (pre ++ [x]) (W1.putObj (w.heap.size + 1) o)) a1 (W1.putObj (w.heap.size + 1) o)) (fun _ _ _ => False)) { tmps := (ps.zip (encs x)).foldl (fun t (p, v) => t.setIfInBounds p v) a.tmps, defers := [] } W)
    (hdone : ∀ (xs : List α) (W : World), S xs → I xs W → W.heap[w.heap.size]? = some (.deferred (some [])) → Q .normal { a with defers := { target := .collected w.heap.size, args := #[] } :: a.defers } W)
    (hstop : ∀ (c : Code) (pre : List α) (W : World), Sp pre → Ix c pre W → W.heap[w.heap.size]? = some (.deferred (some [])) → c.wpIn F n P Q { a with defers := { target := .collected w.heap.size, args := #[] } :: a.defers } W) :
    (Code.rangeFunc g ps assign body).wpIn F n P Q a w := by
  refine wpIn_rangeFunc fun fn hfn => ?_
  rw [hro]
  obtain ⟨r, hr⟩ : ∃ r : Loop, r = { state := .ready, pending := none, fn, tmps := a.tmps, params := ps, assign, body, defers := w.heap.size } := ⟨_, rfl⟩
  obtain ⟨d, hd⟩ : ∃ d, d = w.heap.size := ⟨_, rfl⟩
  obtain ⟨V, hV⟩ : ∃ V, V = (w.alloc (.deferred (some []))).alloc (.loop r) := ⟨_, rfl⟩
  have bV : Below w.heap.size w V := by rw [hV]; exact ((Below.refl _ w).alloc (Nat.le_refl _) _).alloc (by simp) _
  have sV : V.heap.size = d + 2 := by rw [hV, hd]; simp
  have kV : Book d r V := by
    refine ⟨?_, ?_⟩
    · rw [hV, hd]
      have := World.alloc_heap_new (w.alloc (.deferred (some []))) (.loop r)
      rwa [World.size_alloc] at this
    · rw [hV, hd]
      exact (Below.heap_alloc _ _ _ (by simp)).trans (World.alloc_heap_new w _)
  rw [← hd] at hI hIx hhi hround hdone hstop bV
  refine ⟨d + 1, [{ target := .collected d, args := #[] }], V, { target := .fn (.func gf) lb, args := #[.func (.yield (d + 1)) #[] #[]] }, V, gf, #[.func (.yield (d + 1)) #[] #[]] ++ lb, V, ?_, ?_, ?_, ?_, fun _ => h1, ?_⟩
  · rw [hV, hr, hd]
    exact run_enterLoop_outer _ _ _ _ _
  · simp only [resolve, hg]
    simp [go_sem]
  · intro f' hf'
    simp [Target.leads] at hf'
    subst hf'
    exact hFg
  · simp [invoke, go_sem, eg]
  · have keepB : ∀ {r' : Loop} {A B : World}, Book d r' A → Below V.heap.size A B → Book d r' B := fun h hb => h.keep (hb.block _ (by omega)) (hb.block _ (by omega))
    refine (hseq (d + 1) (fun pre W => I pre W ∧ Book d r W) (fun pre W => ∃ c, Ix c pre W ∧ Book d { r with state := .done, pending := some c } W) V (by rw [← hd]; exact bV)
      (fun s A B hs hb => ⟨hI s A B hs.1 (hb.mono (by omega)), keepB hs.2 hb⟩) ?_ ⟨hI _ _ _ h0 bV, kV⟩).mono ?_
    · rintro pre x W ⟨hi', hb⟩ hsz hlen
      have hy := run_yield (P := P) (args := encs x) hb.rcd (by rw [hr]; exact hps x)
      rw [hr] at hy
      refine ⟨fn, _, assign, body, hy, roundIn_of_wpIn hfn (wpIn_mono (hround (d + 1) pre x W (by omega) hi' hlen) ?_)⟩
      clear hy
      rintro e a1 W1 hp
      cases e with
      | normal =>
        obtain ⟨hc, hbody⟩ := hp
        have l1 : d + 1 < W.heap.size := by omega
        have hb1 : Book d r W1 := hb.keep (hc.block _ l1 (by omega)) (hc.block _ (by omega) (by omega))
        have hbegin := run_beginRound (P := P) hb1.rcd (by rw [hr])
        refine ⟨_, hbegin, ?_⟩
        exact wpIn_mono (hbody _) (fun e a W' h => round_ends (by rw [hr]) (by rw [hr]) hhi hI hIx hb1 hc rfl e a W' h)
      | ret => exact hp.elim
      | exit id => exact hp.elim
      | goto t => exact hp.elim
      | panic c => exact hp.elim
      | outgrown => exact hp.elim
    · rintro e W2 ⟨⟨v, rfl⟩, (⟨xs, hS, hi', hb⟩ | ⟨pre, hSp, c, hi', hb⟩)⟩
      · exact ⟨none, _, by have := run_endLoop (P := P) hb.rcd (by rw [hr]; simp); rw [hr] at this; exact this, hdone xs _ hS (hI _ _ _ hi' (below_putObj _ _ _ (by omega))) ((World.putObj_heap_other (by omega)).trans hb.defs)⟩
      · exact ⟨some c, _, by have := run_endLoop (P := P) hb.rcd (by simp); rw [hr] at this; exact this, hstop c pre _ hSp (hIx c _ _ _ hi' (below_putObj _ _ _ (by omega))) ((World.putObj_heap_other (by omega)).trans hb.defs)⟩
end Go.Proofs.YthfmpebgmojcaaaDoor
/- The links of a chain, handed out one by one: audit.links. -/
namespace Go.Proofs.YthfmpebgmojcaaaDoor
open Go.RowKit Go.Shelf
set_option linter.unusedVariables false
set_option maxRecDepth 20000
attribute [local go_sem] Oper.semAt_some
def loadL (x : Value) : Sem Value := Instr.loadAt 85 x
theorem loadL_fold (x : Value) : Instr.loadAt 85 x = loadL x := rfl
def storeL (x v : Value) : Sem Unit := Instr.storeAt 85 x v
theorem storeL_fold (x v : Value) : Instr.storeAt 85 x v = storeL x v := rfl
theorem loadL_run {w : World} {g o n : Nat} {h : List UInt8} (hr : w.rangeAt g o (lnkC n h)) (hl : h.length = 32) : (loadL (.pointer (some ⟨g, o, none⟩))).run Tryd.prog w = .ok (.agg (lnkC n h).toArray) w :=
  run_loadAt_mid w g o 85 (lnkC n h) _ hr Tryd.underlying85 rfl (by rw [lnkC_length, hl]; exact size_link)
theorem storeL_new (w : World) (n : Nat) (h : List UInt8) (hl : h.length = 32) : (storeL (.pointer (some ⟨w.heap.size, 0, none⟩)) (.agg (lnkC n h).toArray)).run Tryd.prog (w.alloc (.cells #[.int .i64 0, .int .u8 0, .int .u8 0, .int .u8 0, .int .u8 0, .int .u8 0, .int .u8 0, .int .u8 0, .int .u8 0, .int .u8 0, .int .u8 0, .int .u8 0, .int .u8 0, .int .u8 0, .int .u8 0, .int .u8 0, .int .u8 0, .int .u8 0, .int .u8 0, .int .u8 0, .int .u8 0, .int .u8 0, .int .u8 0, .int .u8 0, .int .u8 0, .int .u8 0, .int .u8 0, .int .u8 0, .int .u8 0, .int .u8 0, .int .u8 0, .int .u8 0, .int .u8 0] 85)) = .ok () (w.alloc (.cells (lnkC n h).toArray 85)) :=
  run_storeAt_new w 85 _ (lnkC n h).toArray (by rw [List.size_toArray, lnkC_length, hl]; exact size_link) (Eq.trans (b := 33) rfl (by rw [List.size_toArray, lnkC_length, hl])) (all_oneCell_toArray (lnkC_one _ _))
attribute [local go_sem ↓] loadL_fold storeL_fold
structure Lnk where
  n : Nat
  h : List UInt8
  len : h.length = 32
def lnkV (x : Lnk) : Array Value := #[.agg (lnkC x.n x.h).toArray]
def lk (c : Ch) (ok : ChOk c) (k : Nat) : Lnk := ⟨c.bn + k, c.at k, Ch.at_length ok k⟩
def lks (c : Ch) (ok : ChOk c) (k : Nat) : List Lnk := (List.range k).map (lk c ok)
theorem lks_succ (c : Ch) (ok : ChOk c) (k : Nat) : lks c ok (k + 1) = lks c ok k ++ [lk c ok k] := by simp [lks, List.range_succ]
theorem lks_length (c : Ch) (ok : ChOk c) (k : Nat) : (lks c ok k).length = k := by simp [lks]
theorem wpIn_act {F : Fence} {n : Nat} {P : Program} {c : Code} {Q : Exit → Act → World → Prop} (a : Act) {w : World} (h : ∀ A, A = a → c.wpIn F n P Q A w) : c.wpIn F n P Q a w := h a rfl
theorem Ch.at_succ (c : Ch) (k : Nat) (h : k < c.ev.length) : c.at (k + 1) = nextH (c.at k) c.ev[k] := endH_take _ _ _ h
theorem ChAt.row_at {w : World} {B g : Nat} {a0 : Option Addr} {cap : Nat} {c : Ch} (h : ChAt w B g (.slice a0 c.ev.length cap) c) (k : Nat) (hk : k < c.ev.length) : ∃ b, a0 = some ⟨b, 0, none⟩ ∧ w.rangeAt b (k * 4) (eVals c.ev[k]) := by
  rcases h.row.2 with ⟨_, h0⟩ | ⟨b, cap', cur, hv, _, hg, _, _, _, ht⟩
  · omega
  · cases hv
    refine ⟨b, rfl, fun j u hj => ?_⟩
    have hj4 : j < 4 := (List.getElem?_eq_some_iff.1 hj).1
    rw [cell_of_row _ _ _ _ _ _ hg, ← Array.getElem?_toList]
    have h1 : (cur.toList.take (c.ev.length * 4))[k * 4 + j]? = some u := by rw [ht, eCells_get _ _ hk _ hj4]; exact hj
    rw [List.getElem?_take_of_lt (by omega)] at h1
    exact h1
structure LInv (J : List Lnk → World → Prop) (B g Ab : Nat) (v : Value) (c : Ch) (ok : ChOk c) (k : Nat) (wr : World) : Prop where
  j : J (lks c ok (k + 1)) wr
  ch : ChAt wr B g v c
  cur : wr.heap[Ab]? = some (.cells (lnkC (c.bn + k) (c.at k)).toArray 85 (0, 0))
  tb : Tabs wr B
theorem LInv.next {J : List Lnk → World → Prop} {B g Ab lo hi k : Nat} {v : Value} {c : Ch} {ok : ChOk c} {W W' : World} (hch : ChAt W B g v c) (hcur : W.heap[Ab]? = some (.cells (lnkC (c.bn + k) (c.at k)).toArray 85 (0, 0))) (htb : Tabs W B)
    (hk : Chg lo hi W W') (hj : J (lks c ok (k + 1)) W') (hB : B ≤ lo) (hlo : lo ≤ W.heap.size) (hg : g < lo) (hv : ∀ k, v.ownBlock = some k → k < lo) (hA : hi ≤ Ab) : LInv J B g Ab v c ok k W' :=
  ⟨hj, hch.out hk (by omega) (fun j hj => by have := hv j hj; omega), (hk.block Ab (heap_lt hcur) (by omega)).trans hcur, htb.keep ((Chg.below hk hlo).mono hB)⟩
def LPost (J Jx : List Lnk → World → Prop) (c : Ch) (ok : ChOk c) (e : Ending) (W' : World) : Prop := (∃ v, e = .returned v) ∧ ((∃ xs, xs = lks c ok (c.ev.length + 1) ∧ J xs W') ∨ (∃ pre, (∃ k, k ≤ c.ev.length ∧ pre = lks c ok (k + 1)) ∧ Jx pre W'))
set_option maxHeartbeats 4000000 in
theorem links1_in (n l Bk B g lo hi : Nat) (v : Value) (c : Ch) (ok : ChOk c) (hc : c.cnt < 1152921504606846976) (J Jx : List Lnk → World → Prop) (W : World) (hlo : lo ≤ hi) (hhi : hi ≤ W.heap.size)
    (hJ : Beyond W.heap.size J) (hY : ∀ pre x W1, J pre W1 → W.heap.size ≤ W1.heap.size → pre.length < 66 → YieldAt Fence.wide (n - 1) Tryd.prog l (lnkV x) W1 fun e W' => (e = .returned (.bool true) ∧ J (pre ++ [x]) W' ∧ Chg lo hi W1 W') ∨ (e = .returned (.bool false) ∧ Jx (pre ++ [x]) W'))
    (H : ChAt W B g v c) (hg : g < lo) (hv : ∀ k, v.ownBlock = some k → k < lo) (hT : Tabs W B) (hB : B ≤ lo) (hBk : W.cell? ⟨Bk, 0, none⟩ = some (.pointer (some ⟨g, 0, none⟩))) (hBl : Bk < lo ∨ hi ≤ Bk) (h0 : J [] W) :
    CallsIn Fence.wide n Tryd.prog 79 #[.func (.yield l) #[] #[], .pointer (some ⟨Bk, 0, none⟩)] W (LPost J Jx c ok) := by
  have HY := hid hY
  have HJ := hid hJ
  have H0 := hid h0
  have hL0 := loadL_run H.rb ok.lb
  have hS0 := storeL_new W c.bn c.bh ok.lb
  obtain ⟨Wa, hWa⟩ : ∃ Wa, Wa = W.alloc (.cells (lnkC c.bn c.bh).toArray 85) := ⟨_, rfl⟩
  have bWa : Below W.heap.size W Wa := by rw [hWa]; exact (Below.refl _ W).alloc (Nat.le_refl _) _
  have aWa : Wa.heap[W.heap.size]? = some (.cells (lnkC c.bn c.bh).toArray 85 (0, 0)) := by rw [hWa]; exact heap_alloc_new W _
  have hL1 := loadL_run (range_whole aWa) ok.lb
  rw [← hWa] at hS0
  have kBk : Bk < W.heap.size := World.block_lt_of_cell? _ _ hBk
  obtain ⟨Ab, hAb⟩ : ∃ Ab, Ab = W.heap.size := ⟨_, rfl⟩
  have hJa : J [] Wa := HJ.out _ _ _ H0.out bWa
  obtain ⟨fn, tmps, assign, body, hy, hR⟩ := HY.out [] (lk c ok 0) Wa hJa (by rw [← hAb]; have := bWa.size; omega) (by simp)
  have hlv : lnkV (lk c ok 0) = #[.agg (lnkC c.bn c.bh).toArray] := by
    show #[Value.agg (lnkC (c.bn + 0) (c.at 0)).toArray] = _
    rw [Ch.at_zero]
    rfl
  rw [hlv] at hy
  have HR := hid hR
  have HH := hid H
  have HTb := hid hT
  have BWa := hid bWa
  have AWa := hid aWa
  have HBk := hid hBk
  have hgl : g < W.heap.size := H.lt
  have HAb := hid hAb
  clear hY hJ h0 hR H hT bWa aWa hJa hlv hWa hAb
  refine callsIn_of_wp Tryd.func79 rfl trivial ?_ rfl
  simp only [Tryd.ntmps79, List.size_toArray, List.length_cons, List.length_nil, Nat.reduceAdd, Nat.reduceSub, Array.replicate_succ, Array.replicate_zero, List.push_toArray, List.append_toArray, List.nil_append, List.cons_append]
  gi_wp2_with fail
  refine ⟨nodepth, HR.out.mono ?_⟩
  rintro e W3 (⟨rfl, hJ3, hk3⟩ | ⟨rfl, hJx3⟩)
  · have ch1 := HH.out.below BWa.out
    have li : LInv J B g Ab v c ok 0 W3 := by
      refine LInv.next (lo := lo) (hi := hi) ch1 ?_ ((HTb.out).below (by omega) BWa.out) hk3 ?_ hB (by have := BWa.out.size; omega) hg hv (by have := HAb.out; omega)
      · rw [Ch.at_zero, HAb.out]; exact AWa.out
      · rw [lks_succ]; exact hJ3
    have s3 : W.heap.size < W3.heap.size := Nat.lt_of_lt_of_le (heap_lt AWa.out) hk3.size
    have bk3 : W3.cell? ⟨Bk, 0, none⟩ = some (.pointer (some ⟨g, 0, none⟩)) := by
      have h1 : W3.heap[Bk]? = W.heap[Bk]? := (hk3.block Bk (by have := BWa.out.size; omega) (by omega)).trans (BWa.out.block Bk kBk)
      have : W3.cell? ⟨Bk, 0, none⟩ = W.cell? ⟨Bk, 0, none⟩ := by simp only [World.cell?, h1]
      rw [this]
      exact HBk.out
    obtain ⟨a0, cap, rfl⟩ := HH.out.val
    have c66 := li.ch.c66 ok.l
    obtain ⟨N, hN⟩ : ∃ N, N = c.ev.length := ⟨_, rfl⟩
    have hN64 : N ≤ 64 := by rw [hN]; exact ok.few
    rw [← hN] at c66
    have HN := hid hN
    have LI := hid li
    have J3 := hid hJ3
    clear hJ3 li hN ch1 hk3 HR hy hL0 hS0 hL1 HTb HH BWa AWa
    gi_wp2
    clear c66 bk3
    gi_loopw [19] (fun v19 wr => ∃ k : Nat, v19 = .int .i64 (k : Int) ∧ k ≤ N ∧ LInv J B g Ab (.slice a0 c.ev.length cap) c ok k wr ∧ W.heap.size < wr.heap.size) (fun v19 _ => N - (intOf v19).toNat)
    case atStart => exact ⟨0, rfl, Nat.zero_le _, LI.out, s3⟩
    case round =>
      obtain ⟨k, rfl, hkN, hli, hsz⟩ := hrel
      have LK := hid hli
      clear hli LI
      by_cases hlt : k < N
      · have d1 : (k : Int) < (N : Int) := by omega
        have d0 : (0 : Int) ≤ (k : Int) := by omega
        have hkl : k < c.ev.length := by rw [← HN.out]; exact hlt
        obtain ⟨b, hb, rb⟩ := LK.out.ch.row_at k hkl
        obtain ⟨e, he⟩ : ∃ e, e = c.ev[k] := ⟨_, rfl⟩
        rw [← he] at rb
        have q0 : wr.cell? ⟨b, k * 4, none⟩ = some (.int .i64 (e.num : Int)) := rb 0 _ rfl
        have q1 : wr.cell? ⟨b, k * 4 + 1, none⟩ = some (.int .i64 (e.tim : Int)) := rb 1 _ rfl
        have q2 : wr.cell? ⟨b, k * 4 + 2, none⟩ = some (.string e.what) := rb 2 _ rfl
        have q3 : wr.cell? ⟨b, k * 4 + 3, none⟩ = some (.string e.who) := rb 3 _ rfl
        have hem : e ∈ c.ev := by rw [he]; exact List.getElem_mem _
        have hnum : e.num = c.bn + (k + 1) := by rw [he, ok.num k hkl]; omega
        have hti : e.tim ≤ 4611686018427387904 := by have := ok.tim e hem; have := ok.las; omega
        have hsi := ok.siz e hem
        have hat := Ch.at_succ c k hkl
        rw [← he] at hat
        have HE := hid he
        have Hnum := hid hnum
        have Hat := hid hat
        have Hsi := hid hsi
        have Hti := hid hti
        have Hem := hid hem
        obtain rfl : a0 = some ⟨b, 0, none⟩ := hb
        clear he hnum hat hsi hti hem rb
        gi_wp2_with fail
        rw [show (#[.int .i64 (e.num : Int), .int .i64 (e.tim : Int), .string e.what, .string e.who] : Array Value) = (eVals e).toArray from rfl]
        obtain ⟨W5, hW5⟩ : ∃ W5, W5 = wr.alloc (.cells (eVals e).toArray 55) := ⟨_, rfl⟩
        obtain ⟨V0, hV0⟩ : ∃ V0, V0 = W5.drew := ⟨_, rfl⟩
        rw [← hW5]
        have b5 : Below wr.heap.size wr V0 := by rw [hV0, hW5]; exact ((Below.refl _ wr).alloc (Nat.le_refl _) _).drew
        have s5 : V0.heap[wr.heap.size]? = some (.cells (eVals e).toArray 55 (0, 0)) := by rw [hV0, hW5]; exact heap_alloc_new wr _
        have hAw : Ab < wr.heap.size := heap_lt LK.out.cur
        have T5 : Tabs V0 B := LK.out.tb.below (by omega) b5
        have hc' := hc
        unfold Ch.cnt at hc'
        have hnu : e.num ≤ 4611686018427387904 := by rw [Hnum.out]; omega
        refine wpIn_act _ fun A hA => ?_
        have sz : A.tmps.size = 36 := by rw [hA]; rfl
        have e3 : A.eval (.tmp 3) = .pointer (some ⟨Ab, 0, none⟩) := by rw [hA, HAb.out]; rfl
        have e5 : A.eval (.tmp 5) = .pointer (some ⟨wr.heap.size, 0, none⟩) := by rw [hA]; rfl
        refine wpIn_split _ (links_region5 (ro := none) sz e3 e5 hV0 ((b5.block Ab hAw).trans LK.out.cur) (Ch.at_length ok k) s5 hnu Hti.out Hsi.out.1 Hsi.out.2 T5.tab T5.kat) ?_
        rintro _ V5 ⟨aC, cC, rfl, ha5, o5⟩
        rw [hA]
        simp only [Act.put, List.setIfInBounds_toArray, List.set_cons_succ, List.set_cons_zero]
        rw [Hnum.out, ← Hat.out] at ha5
        have hl5 : (c.at (k + 1)).length = 32 := Ch.at_length ok (k + 1)
        have hL5 := loadL_run (range_whole ha5) hl5
        have hbV : Below W.heap.size wr V5 := (b5.mono (by omega)).trans (o5.below (by have := b5.size; omega) (fun j hj => by have := HAb.out; omega))
        have hJ5 := HJ.out _ _ _ LK.out.j hbV
        obtain ⟨fn, tmps, assign, body, hy, hR⟩ := HY.out _ (lk c ok (k + 1)) V5 hJ5 (by have := hbV.size; omega) (by rw [lks_length]; omega)
        have hlv : lnkV (lk c ok (k + 1)) = #[.agg (lnkC (c.bn + (k + 1)) (c.at (k + 1))).toArray] := rfl
        rw [hlv] at hy
        have ch5 : ChAt V5 B g (.slice (some ⟨b, 0, none⟩) c.ev.length cap) c := (LK.out.ch.below b5).out o5 (by have := HAb.out; omega) (fun j hj => by have := hv j hj; have := HAb.out; omega)
        have t5 : Tabs V5 B := T5.keep ((o5.below (by have := b5.size; omega) (fun j hj => by have := HAb.out; omega)).mono (show B ≤ W.heap.size by omega))
        have HR := hid hR
        have HA5 := hid ha5
        have CH5 := hid ch5
        have TB5 := hid t5
        have Hsz5 := hid hbV.size
        have HAb2 := HAb.out
        subst HAb2
        clear hR hlv sz e3 e5 hA A ha5 ch5 t5 hbV hJ5 o5 T5 b5 s5 hV0 hW5 q0 q1 q2 q3
        gi_wp2_with fail
        refine ⟨nodepth, HR.out.mono ?_⟩
        rintro x W6 (⟨rfl, hJ6, hk6⟩ | ⟨rfl, hJx6⟩)
        · have li6 : LInv J B g W.heap.size (.slice (some ⟨b, 0, none⟩) c.ev.length cap) c ok (k + 1) W6 := LInv.next CH5.out HA5.out TB5.out hk6 (by rw [lks_succ]; exact hJ6) hB (by have := Hsz5.out; omega) hg hv (by omega)
          have LI6 := hid li6
          have s6 := hk6.size
          have s7 := Hsz5.out
          clear hJ6 hk6 li6 HR hy hL5
          gi_wp2
          go_roundw
          case rel => exact ⟨k + 1, by go_num, by omega, LI6.out, by omega⟩
          case measure => simp [intOf]; omega
        · have HX := hid hJx6
          clear hJx6 HR hy hL5
          gi_wp2
          refine bodyPost_ret (results_none rfl _ _ _) rfl ?_
          exact ⟨⟨_, rfl⟩, .inr ⟨_, ⟨k + 1, by rw [← HN.out]; omega, (lks_succ c ok (k + 1)).symm⟩, HX.out⟩⟩
      · have d1 : ¬ (k : Int) < (N : Int) := by omega
        have hkk : k = N := by omega
        gi_wp2
        go_end0
        exact ⟨⟨_, rfl⟩, .inl ⟨_, rfl, by rw [← HN.out, ← hkk]; exact LK.out.j⟩⟩
  · have HX := hid hJx3
    clear hJx3 HR hy hL0 hS0 hL1
    gi_wp2
    refine bodyPost_ret (results_none rfl _ _ _) rfl ?_
    exact ⟨⟨_, rfl⟩, .inr ⟨_, ⟨0, Nat.zero_le _, by rw [lks_succ]; rfl⟩, HX.out⟩⟩
theorem links_seq (n Bk B g lo hi : Nat) (v : Value) (c : Ch) (ok : ChOk c) (hc : c.cnt < 1152921504606846976) (w : World) (hlo : lo ≤ hi) (hhi : hi ≤ w.heap.size) (H : ChAt w B g v c) (hg : g < lo) (hv : ∀ k, v.ownBlock = some k → k < lo) (hT : Tabs w B) (hB : B ≤ lo)
    (hBk : w.cell? ⟨Bk, 0, none⟩ = some (.pointer (some ⟨g, 0, none⟩))) (hBl : Bk < lo ∨ hi ≤ Bk) :
    SeqB Fence.wide n Tryd.prog 79 #[.pointer (some ⟨Bk, 0, none⟩)] lnkV lo hi (fun xs => xs = lks c ok (c.ev.length + 1)) (fun pre => ∃ k, k ≤ c.ev.length ∧ pre = lks c ok (k + 1)) 66 w :=
  fun l J Jx W hW hJ hY h0 => links1_in n l Bk B g lo hi v c ok hc J Jx W hlo (Nat.le_trans hhi hW.size) hJ hY (H.below hW) hg hv (hT.below (by omega) hW) hB ((hW.cell (p := ⟨Bk, 0, none⟩) (World.block_lt_of_cell? _ _ hBk)).trans hBk) hBl h0
set_option maxHeartbeats 400000 in
theorem links_any (w : World) (p : Option Addr) : Calls Tryd.prog 43 #[.pointer p] w fun e w' => e = .returned (.func (.func 79) #[] #[.pointer (some ⟨w.heap.size, 0, none⟩)]) ∧ w' = w.alloc (.cells #[.pointer p] 24) := by
  go_enter Tryd.func43, Tryd.ntmps43
  go_wp2
  go_ret
  exact ⟨rfl, rfl⟩
end Go.Proofs.YthfmpebgmojcaaaDoor
/- The link of a number: audit.linkAt. -/
namespace Go.Proofs.YthfmpebgmojcaaaDoor
open Go.RowKit Go.Shelf
set_option linter.unusedVariables false
set_option maxRecDepth 20000
attribute [local go_sem] Oper.semAt_some
attribute [local go_sem ↓] loadL_fold storeL_fold
end Go.Proofs.YthfmpebgmojcaaaDoor
