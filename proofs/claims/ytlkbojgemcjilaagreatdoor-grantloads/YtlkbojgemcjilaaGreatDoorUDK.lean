/- Grants: do of the laws, on the program's store and the reference's; blocks of others stay. (Printed by gen/ud1k.py.) -/
import Derived.Test.YtlkbojgemcjilaaGreatDoorUR10
import Derived.Deep.RegionHeld3
namespace Go.Proofs.YtlkbojgemcjilaaGreatDoor
open Go.RowKit Go.Maps Go.Shelf Go.Sort Go.Lib
set_option linter.unusedVariables false
set_option maxRecDepth 20000
/-- both stores in memory; K: blocks of others, that their calls leave -/
structure PR (K : Nat → Prop) (w : World) (B g gr : Nat) (s r : GS) (c d : Nat) : Prop where
  gp : ∃ X, GP w B g s c d X ∧ ∀ k, K k → ¬ X k
  rg : RG w B gr r
  kl : ∀ k, K k → k < w.heap.size
  kg : ¬ K gr
/-- blocks of other kinds stay, and those of others -/
def KpU (K : Nat → Prop) (V V' : World) : Prop := (∀ (k : Nat) (cs : Array Value) (T : TypeId), V.heap[k]? = some (.cells cs T (0, 0)) → T ≠ 49 → T ≠ 66 → T ≠ 53 → V'.heap[k]? = some (.cells cs T (0, 0))) ∧ ∀ k, K k → k < V.heap.size → V'.heap[k]? = V.heap[k]?
section
variable {K : Nat → Prop} {w w' : World} {B g gr c d c' d' : Nat} {s r s' r' : GS}
theorem KpU.below (h : Below w.heap.size w w') : KpU K w w' := ⟨fun k cs T hk _ _ _ => (h.block k (heap_lt hk)).trans hk, fun k _ hk => h.block k hk⟩
theorem KpU.trans {w'' : World} (h : KpU K w w') (k : KpU K w' w'') : KpU K w w'' := ⟨fun i cs T hk n1 n2 n3 => k.1 i cs T (h.1 i cs T hk n1 n2 n3) n1 n2 n3, fun i hi hk => by
  have h1 := h.2 i hi hk
  have h2 : i < w'.heap.size := by
    rw [Array.getElem?_eq_getElem hk] at h1
    exact heap_lt h1
  exact (k.2 i hi h2).trans h1⟩
theorem own_typed {n sz : Nat} {e : TypeId} {v : Value} {xs : List Value} (h : w.ownsRow B e sz v n xs) {P : Nat → Prop} (ho : OutJ P w w') (hp : ∀ k cs, w.heap[k]? = some (.cells cs e (0, 0)) → ¬ P k) : w'.ownsRow B e sz v n xs := by
  refine ⟨h.1, ?_⟩
  rcases h.2 with h0 | ⟨g, cap, cur, e1, hb, hg, rest⟩
  · exact .inl h0
  · exact .inr ⟨g, cap, cur, e1, hb, (ho.block g (heap_lt hg) (hp g _ hg)).trans hg, rest⟩
theorem PT.not {k : Nat} {cs : Array Value} {T : TypeId} (h : PT w k) (hk : w.heap[k]? = some (.cells cs T (0, 0))) (h1 : T ≠ 49) (h2 : T ≠ 66) : False := by
  rcases h with ⟨es, c, e⟩ | ⟨cs', T', fr', e, hT⟩
  · rw [hk] at e; cases e
  · rw [hk] at e; cases e; exact hT.elim h1 h2
theorem PR.below (h : PR K w B g gr s r c d) (hb : Below w.heap.size w w') : PR K w' B g gr s r c d := by
  obtain ⟨⟨X, h1, hx⟩, h2, h3, h4⟩ := h
  exact ⟨⟨X, h1.below hb, hx⟩, h2.below hb, fun k hk => Nat.lt_of_lt_of_le (h3 k hk) hb.size, h4⟩
theorem PR.prog (h : PR K w B g gr s r c d) {X : Nat → Prop} (h1 : GP w B g s c d X ∧ ∀ k, K k → ¬ X k) (t : Turned w w' B g s' c' d' X) : PR K w' B g gr s' r c' d' ∧ KpU K w w' ∧ Below B w w' := by
  obtain ⟨_, ⟨cv, av, h2⟩, h3, h4⟩ := h
  obtain ⟨h1, hx⟩ := h1
  have hn : ∀ {k : Nat} {cs : Array Value} {T : TypeId}, w.heap[k]? = some (.cells cs T (0, 0)) → T ≠ 49 → T ≠ 66 → ¬ X k := fun {k cs T} hk n1 n2 hx => (h1.typed k hx).not hk n1 n2
  obtain ⟨ho, X', h5, h6⟩ := t
  refine ⟨⟨⟨X', h5, fun k hk hx' => ?_⟩, ⟨cv, av, (ho.block gr h2.lt (hn h2.obj (by decide) (by decide))).trans h2.obj, own_typed h2.cs ho (fun k cs hk => hn hk (by decide) (by decide)), own_typed h2.al ho (fun k cs hk => hn hk (by decide) (by decide)), h2.bg⟩, fun k hk => Nat.lt_of_lt_of_le (h3 k hk) ho.size, h4⟩, ⟨fun k cs T hk n1 n2 _ => h1.keep ho hk n1 n2, fun k hk hl => ho.block k hl (hx k hk)⟩, ho.below h1.base h1.ge⟩
  rcases h6 k hx' with h7 | h7
  · exact hx k hk h7
  · have := h3 k hk
    omega
theorem PR.ref (h : PR K w B g gr s r c d) (ho : OutJ (fun k => k = gr) w w') (hr : RG w' B gr r') : PR K w' B g gr s r' c d ∧ KpU K w w' ∧ Below B w w' := by
  obtain ⟨⟨X, h1, hx⟩, ⟨cv, av, h2⟩, h3, h4⟩ := h
  refine ⟨⟨⟨X, h1.outJ ho (fun k hk e => ?_), hx⟩, hr, fun k hk => Nat.lt_of_lt_of_le (h3 k hk) ho.size, h4⟩, ⟨fun k cs T hk _ _ n3 => (ho.block k (heap_lt hk) (fun e => ?_)).trans hk, fun k hk hl => ho.block k hl (fun e => h4 (e ▸ hk))⟩, ho.below h1.base (fun k hk => by rw [hk]; exact h2.bg)⟩
  · exact (h1.typed k hk).not (by rw [e]; exact h2.obj) (by decide) (by decide)
  · rw [e, h2.obj] at hk
    cases hk
    exact n3 rfl
theorem PR.base (h : PR K w B g gr s r c d) : B ≤ w.heap.size := by
  obtain ⟨⟨X, h1, _⟩, _⟩ := h
  exact h1.base
theorem PR.ok (h : PR K w B g gr s r c d) : s.Ok := by
  obtain ⟨⟨X, h1, _⟩, _⟩ := h
  exact h1.ok
theorem PR.cl (h : PR K w B g gr s r c d) : s.cs.length ≤ c := by
  obtain ⟨⟨X, h1, _⟩, _⟩ := h
  exact h1.cl
theorem PR.al (h : PR K w B g gr s r c d) : s.al.length ≤ d := by
  obtain ⟨⟨X, h1, _⟩, _⟩ := h
  exact h1.al
/-- what is told of a call: its answer, and what it leaves -/
def Told (K : Nat → Prop) (w : World) (B g gr : Nat) (v : Value) (s r : GS) (c d : Nat) (e : Ending) (w' : World) : Prop := e = .returned v ∧ PR K w' B g gr s r c d ∧ KpU K w w' ∧ Below B w w'
theorem told_p (h : PR K w B g gr s r c d) {X : Nat → Prop} (h1 : GP w B g s c d X ∧ ∀ k, K k → ¬ X k) {v : Value} {e : Ending} (t : e = .returned v ∧ Turned w w' B g s' c' d' X) : Told K w B g gr v s' r c' d' e w' := ⟨t.1, h.prog h1 t.2⟩
theorem told_r (h : PR K w B g gr s r c d) {v : Value} {e : Ending} (t : e = .returned v ∧ OutJ (fun k => k = gr) w w' ∧ RG w' B gr r') : Told K w B g gr v s r' c d e w' := ⟨t.1, h.ref t.2.1 t.2.2⟩
theorem told_b (h : PR K w B g gr s r c d) {v : Value} {e : Ending} (t : e = .returned v ∧ Below w.heap.size w w') : Told K w B g gr v s r c d e w' := ⟨t.1, h.below t.2, KpU.below t.2, t.2.mono h.base⟩
end
/-- a deed -/
structure GDeed where
  kind : Int
  t : ByteArray
  u : ByteArray
  n : ByteArray
  r : ByteArray
  sc : Nat
structure GDeed.Ok (x : GDeed) : Prop where
  t : x.t.size ≤ 9223372036854775807
  u : x.u.size ≤ 9223372036854775807
  n : x.n.size ≤ 9223372036854775807
  r : x.r.size ≤ 9223372036854775807
  sc : x.sc ≤ 255
def gdC (x : GDeed) : Array Value := #[.int .i64 x.kind, .string x.t, .string x.u, .string x.n, .string x.r, .int .u8 (x.sc : Int)]
/-- what a deed makes of a store -/
def stepG (s : GS) (x : GDeed) : GS :=
  if x.kind = 0 then s.reg ⟨x.t, x.n, x.r, x.sc⟩ else if x.kind = 1 then s.nar x.t x.n x.sc else if x.kind = 2 then s.dropC x.t x.n else if x.kind = 3 then s.alw ⟨x.t, x.u, x.n, x.sc⟩ else if x.kind = 4 then s.dropA x.t x.u x.n else if x.kind = 5 then s.dropU x.t x.u else s
set_option maxHeartbeats 32000000 in
theorem doG_any {K : Nat → Prop} {w : World} {B g gr : Nat} {s : GS} {c d : Nat} (h : PR K w B g gr s s c d) (hc : c ≤ 100000) (hd : d ≤ 17592186044) (x : GDeed) (hx : x.Ok) :
    Calls Tryz.prog 11 #[.pointer (some ⟨g, 0, none⟩), .pointer (some ⟨gr, 0, none⟩), .agg (gdC x)] w fun e w' => Told K w B g gr (.bool true) (stepG s x) (stepG s x) (c + 1) (d + 1) e w' := by
  obtain ⟨W, hW⟩ : ∃ W, W = w.alloc (.cells (gdC x) 33) := ⟨_, rfl⟩
  have b0 : Below w.heap.size w W := by rw [hW]; exact (Below.refl _ w).alloc (Nat.le_refl _) _
  have x0 : W.heap[w.heap.size]? = some (.cells (gdC x) 33 (0, 0)) := by rw [hW]; exact heap_allocN w _
  have h0 := hid (h.below b0)
  have HX := hid (fun (V : World) (hV : V.heap[w.heap.size]? = some (.cells (gdC x) 33 (0, 0))) => (show V.cell? ⟨w.heap.size, 0, none⟩ = some (.int .i64 x.kind) ∧ V.cell? ⟨w.heap.size, 1, none⟩ = some (.string x.t) ∧ V.cell? ⟨w.heap.size, 2, none⟩ = some (.string x.u) ∧ V.cell? ⟨w.heap.size, 3, none⟩ = some (.string x.n) ∧ V.cell? ⟨w.heap.size, 4, none⟩ = some (.string x.r) ∧ V.cell? ⟨w.heap.size, 5, none⟩ = some (.int .u8 (x.sc : Int)) from
    ⟨(cell_of_rowU _ _ 0 _ _ _ hV).trans rfl, (cell_of_rowU _ _ 1 _ _ _ hV).trans rfl, (cell_of_rowU _ _ 2 _ _ _ hV).trans rfl, (cell_of_rowU _ _ 3 _ _ _ hV).trans rfl, (cell_of_rowU _ _ 4 _ _ _ hV).trans rfl, (cell_of_rowU _ _ 5 _ _ _ hV).trans rfl⟩))
  obtain ⟨y0, y1, y2, y3, y4, y5⟩ := HX.out W x0
  have X0 := hid x0
  have HW := hid hW.symm
  have B0 := hid (b0.mono h.base)
  have KW := hid (KpU.below (K := K) b0)
  have Hx := hid hx
  have Hc := hid (And.intro hc hd)
  have hmono : ∀ (V : World) (s' : GS) (c' d' : Nat), PR K V B g gr s' s' c' d' → c' ≤ c + 1 → d' ≤ d + 1 → PR K V B g gr s' s' (c + 1) (d + 1) := fun V s' c' d' hp h1 h2 => by
    obtain ⟨⟨X, q1, qx⟩, q2, q3, q4⟩ := hp
    obtain ⟨mc, L, t4, t5⟩ := q1.at'
    exact ⟨⟨X, ⟨⟨mc, L, t4.mono h2, t5⟩, Nat.le_trans q1.cl h1, Nat.le_trans q1.al h2, q1.base⟩, qx⟩, q2, q3, q4⟩
  have Hmono := hid hmono
  unfold gdC at HW HX X0 ⊢
  rw [hW] at y0 y1 y2 y3 y4 y5
  unfold gdC at y0 y1 y2 y3 y4 y5
  clear h b0 x0 hW hx hc hd hmono
  obtain ⟨kd, t, u, n, r, sc⟩ := x
  dsimp only at *
  have HS : Hid (∀ s' : GS, s' = stepG s ⟨kd, t, u, n, r, sc⟩ → stepG s ⟨kd, t, u, n, r, sc⟩ = s') := fun s' e => e.symm
  obtain ⟨s9, hs9⟩ : ∃ s9, s9 = stepG s ⟨kd, t, u, n, r, sc⟩ := ⟨_, rfl⟩
  rw [← hs9]
  unfold stepG at hs9
  dsimp only at hs9
  clear HS
  by_cases e0 : kd = 0
  · as_aux_lemma =>
      rw [if_pos e0] at hs9
      have HS9 := hid hs9
      clear hs9
      have f0 : (kd == 0) = true := by simpa using e0
      have HP := hid (fun (V : World) (hp : PR K V B g gr s s c d) => (show Calls Tryz.prog 19 #[.pointer (some ⟨g, 0, none⟩), .agg #[.string t, .string n, .string r, .int .u8 (sc : Int)]] V fun e w' => Told K V B g gr (.int .i64 (regEs s ⟨t, n, r, sc⟩ : Nat)) (s.reg ⟨t, n, r, sc⟩) s (c + 1) (d + 1) e w' from by
        obtain ⟨X, h1⟩ := hp.gp
        exact (gRegister_any h1.1 (by have := Hc.out; omega) (by have := Hc.out; omega) ⟨t, n, r, sc⟩ ⟨Hx.out.t, Hx.out.n, Hx.out.r, Hx.out.sc⟩).mono (fun e w' t => told_p hp h1 t)))
      have HR := hid (fun (V : World) (s5 : GS) (hp0 : PR K V B g gr s s c d) => trivial)
      clear HR
      have hp0 := h0.out
      have hok := hp0.ok
      have HR := hid (fun (V : World) (s5 : GS) (hp : PR K V B g gr s5 s (c + 1) (d + 1)) => (show Calls Tryz.prog 23 #[.pointer (some ⟨gr, 0, none⟩), .agg #[.string t, .string n, .string r, .int .u8 (sc : Int)]] V fun e w' => Told K V B g gr (.int .i64 (regEs s ⟨t, n, r, sc⟩ : Nat)) s5 (s.reg ⟨t, n, r, sc⟩) (c + 1) (d + 1) e w' from (rregister_any hp.rg hp.base (by have := hp0.cl; have := Hc.out; omega) ⟨t, n, r, sc⟩ ⟨Hx.out.t, Hx.out.n, Hx.out.r, Hx.out.sc⟩).mono (fun e w' t => told_r hp t)))
      clear hp0 hok e0
      obtain ⟨W1, hW1⟩ : ∃ W1, W1 = W.alloc (.cells #[.string t, .string n, .string r, .int .u8 (sc : Int)] 56) := ⟨_, rfl⟩
      have sW : W.heap.size = w.heap.size + 1 := by rw [← HW.out]; simp
      have bW1 : Below W.heap.size W W1 := by rw [hW1]; exact (Below.refl _ W).alloc (Nat.le_refl _) _
      have X1 : Hid (W1.heap[w.heap.size + 1]? = some (.cells #[.string t, .string n, .string r, .int .u8 (sc : Int)] 56 (0, 0))) := by show _ = _; rw [hW1, ← sW]; exact heap_allocN W _
      have HX1 := hid (fun (V : World) (hV : V.heap[w.heap.size + 1]? = some (.cells #[.string t, .string n, .string r, .int .u8 (sc : Int)] 56 (0, 0))) => (show V.cell? ⟨w.heap.size + 1, 0, none⟩ = some (.string t) ∧ V.cell? ⟨w.heap.size + 1, 1, none⟩ = some (.string n) ∧ V.cell? ⟨w.heap.size + 1, 2, none⟩ = some (.string r) ∧ V.cell? ⟨w.heap.size + 1, 3, none⟩ = some (.int .u8 (sc : Int)) from
        ⟨(cell_of_rowU _ _ 0 _ _ _ hV).trans rfl, (cell_of_rowU _ _ 1 _ _ _ hV).trans rfl, (cell_of_rowU _ _ 2 _ _ _ hV).trans rfl, (cell_of_rowU _ _ 3 _ _ _ hV).trans rfl⟩))
      have ZP := hid ((h0.out.below bW1).below (below_dN _ W1 1))
      have ZB := hid ((B0.out.trans (bW1.mono h0.out.base)).trans (below_dN B W1 1))
      have ZK := hid ((KW.out.trans (KpU.below bW1)).trans (KpU.below (below_dN _ W1 1)))
      have ZX : Hid (W1.drew.heap[w.heap.size + 1]? = some (.cells #[.string t, .string n, .string r, .int .u8 (sc : Int)] 56 (0, 0))) := X1.out
      have HW1 : Hid ((w.alloc (.cells #[.int .i64 kd, .string t, .string u, .string n, .string r, .int .u8 (sc : Int)] 33)).alloc (.cells #[.string t, .string n, .string r, .int .u8 (sc : Int)] 56) = W1) := by show _ = _; rw [HW.out, hW1]
      clear hW1 sW bW1
      have z := hid (HX1.out _ ZX.out)
      go_enter Tryz.func11, Tryz.ntmps11
      go_wp2
      rw [HW1.out]
      go_region_held3 (fun w9 => w9.cell? ⟨w.heap.size + 1, 0, none⟩ = some (.string t) ∧ w9.cell? ⟨w.heap.size + 1, 1, none⟩ = some (.string n) ∧ w9.cell? ⟨w.heap.size + 1, 2, none⟩ = some (.string r) ∧ w9.cell? ⟨w.heap.size + 1, 3, none⟩ = some (.int .u8 (sc : Int)))
        (exact z.out)
        (first
          | (go_at_call 23; refine (HR.out _ _ (by exact ZQ.out)).mono ?_; rintro _ w4 ⟨rfl, p4, k4, b4⟩; have ZE := hid p4; have ZB := hid (ZB.out.trans b4); have ZK := hid (ZK.out.trans k4); have ZX := hid (k4.1 _ _ _ ZX.out (by decide) (by decide) (by decide)); have z := hid (HX1.out _ ZX.out); clear p4 k4 b4 HR)
          | (go_at_call 19; refine (HP.out _ (by exact ZP.out)).mono ?_; rintro _ w3 ⟨rfl, p3, k3, b3⟩; have ZQ := hid p3; have ZB := hid (ZB.out.trans b3); have ZK := hid (ZK.out.trans k3); have ZX := hid (k3.1 _ _ _ ZX.out (by decide) (by decide) (by decide)); have z := hid (HX1.out _ ZX.out); clear p3 k3 b3 HP))
      go_wp2
      go_ret
      exact ⟨rfl, by rw [HS9.out]; exact Hmono.out _ _ _ _ ZE.out (by omega) (by omega), ZK.out, ZB.out⟩
  by_cases e1 : kd = 1
  · as_aux_lemma =>
      rw [if_neg e0] at hs9
      rw [if_pos e1] at hs9
      have HS9 := hid hs9
      clear hs9
      have f0 : (kd == 0) = false := by simpa using e0
      have f1 : (kd == 1) = true := by simpa using e1
      have HP := hid (fun (V : World) (hp : PR K V B g gr s s c d) => (show Calls Tryz.prog 18 #[.pointer (some ⟨g, 0, none⟩), .string t, .string n, .int .u8 (sc : Int)] V fun e w' => Told K V B g gr (.tuple #[.int .u8 (narRs s t n sc : Nat), .int .i64 (noneE (findC s t n).isSome)]) (s.nar t n sc) s (c) (d) e w' from by
        obtain ⟨X, h1⟩ := hp.gp
        exact (gNarrow_any h1.1 (by have := Hc.out; omega) t n sc (by have := Hx.out.t; unfold maxLen; omega) (by have := Hx.out.n; unfold maxLen; omega) Hx.out.sc).mono (fun e w' t => told_p hp h1 t)))
      have HR := hid (fun (V : World) (s5 : GS) (hp0 : PR K V B g gr s s c d) => trivial)
      clear HR
      have hp0 := h0.out
      have hok := hp0.ok
      have HR := hid (fun (V : World) (s5 : GS) (hp : PR K V B g gr s5 s (c) (d)) => (show Calls Tryz.prog 24 #[.pointer (some ⟨gr, 0, none⟩), .string t, .string n, .int .u8 (sc : Int)] V fun e w' => Told K V B g gr (.tuple #[.int .u8 (narRs s t n sc : Nat), .int .i64 (noneE (findC s t n).isSome)]) s5 (s.nar t n sc) (c) (d) e w' from (rnarrow_any hp.rg hok hp.base (by have := hp0.cl; have := Hc.out; omega) (by have := hp0.al; have := Hc.out; omega) t n sc Hx.out.sc).mono (fun e w' t => told_r hp t)))
      clear hp0 hok e0 e1
      have ZP := hid (h0.out.below (Below.refl _ W))
      have ZB := hid (B0.out.trans (Below.refl B W))
      have ZK := hid (KW.out.trans (KpU.below (Below.refl _ W)))
      have ZX : Hid (W.heap[w.heap.size]? = some (.cells #[.int .i64 kd, .string t, .string u, .string n, .string r, .int .u8 (sc : Int)] 33 (0, 0))) := X0.out
      have z := hid (HX.out _ ZX.out)
      go_enter Tryz.func11, Tryz.ntmps11
      go_wp2_with (first
        | (go_at_call 24; refine (HR.out _ _ (by exact ZQ.out)).mono ?_; rintro _ w4 ⟨rfl, p4, k4, b4⟩; have ZE := hid p4; have ZB := hid (ZB.out.trans b4); have ZK := hid (ZK.out.trans k4); have ZX := hid (k4.1 _ _ _ ZX.out (by decide) (by decide) (by decide)); skip; clear p4 k4 b4 HR)
        | (go_at_call 18; rw [HW.out]; refine (HP.out _ (by exact ZP.out)).mono ?_; rintro _ w3 ⟨rfl, p3, k3, b3⟩; have ZQ := hid p3; have ZB := hid (ZB.out.trans b3); have ZK := hid (ZK.out.trans k3); have ZX := hid (k3.1 _ _ _ ZX.out (by decide) (by decide) (by decide)); obtain ⟨q0, q1, q2, q3, q4, q5⟩ := HX.out _ ZX.out; clear p3 k3 b3 HP))
      go_ret
      exact ⟨rfl, by rw [HS9.out]; exact Hmono.out _ _ _ _ ZE.out (by omega) (by omega), ZK.out, ZB.out⟩
  by_cases e2 : kd = 2
  · as_aux_lemma =>
      rw [if_neg e0] at hs9
      rw [if_neg e1] at hs9
      rw [if_pos e2] at hs9
      have HS9 := hid hs9
      clear hs9
      have f0 : (kd == 0) = false := by simpa using e0
      have f1 : (kd == 1) = false := by simpa using e1
      have f2 : (kd == 2) = true := by simpa using e2
      have HP := hid (fun (V : World) (hp : PR K V B g gr s s c d) => (show Calls Tryz.prog 25 #[.pointer (some ⟨g, 0, none⟩), .string t, .string n] V fun e w' => Told K V B g gr (.int .i64 (noneE (findC s t n).isSome)) (s.dropC t n) s (c) (d) e w' from by
        obtain ⟨X, h1⟩ := hp.gp
        exact (gDrop_any h1.1 t n (by have := Hx.out.t; unfold maxLen; omega) (by have := Hx.out.n; unfold maxLen; omega)).mono (fun e w' t => told_p hp h1 t)))
      have HR := hid (fun (V : World) (s5 : GS) (hp0 : PR K V B g gr s s c d) => trivial)
      clear HR
      have hp0 := h0.out
      have hok := hp0.ok
      have HR := hid (fun (V : World) (s5 : GS) (hp : PR K V B g gr s5 s (c) (d)) => (show Calls Tryz.prog 26 #[.pointer (some ⟨gr, 0, none⟩), .string t, .string n] V fun e w' => Told K V B g gr (.int .i64 (noneE (findC s t n).isSome)) s5 (s.dropC t n) (c) (d) e w' from (rdrop_any hp.rg hok hp.base (by have := hp0.cl; have := Hc.out; omega) (by have := hp0.al; have := Hc.out; omega) t n).mono (fun e w' t => told_r hp t)))
      clear hp0 hok e0 e1 e2
      have ZP := hid (h0.out.below (below_dN _ W 1))
      have ZB := hid (B0.out.trans (below_dN B W 1))
      have ZK := hid (KW.out.trans (KpU.below (below_dN _ W 1)))
      have ZX : Hid (W.drew.heap[w.heap.size]? = some (.cells #[.int .i64 kd, .string t, .string u, .string n, .string r, .int .u8 (sc : Int)] 33 (0, 0))) := X0.out
      have z := hid (HX.out _ ZX.out)
      go_enter Tryz.func11, Tryz.ntmps11
      go_wp2
      rw [HW.out]
      go_region_held3 (fun w9 => w9.cell? ⟨w.heap.size, 0, none⟩ = some (.int .i64 kd) ∧ w9.cell? ⟨w.heap.size, 1, none⟩ = some (.string t) ∧ w9.cell? ⟨w.heap.size, 2, none⟩ = some (.string u) ∧ w9.cell? ⟨w.heap.size, 3, none⟩ = some (.string n) ∧ w9.cell? ⟨w.heap.size, 4, none⟩ = some (.string r) ∧ w9.cell? ⟨w.heap.size, 5, none⟩ = some (.int .u8 (sc : Int)))
        (exact z.out)
        (first
          | (go_at_call 26; refine (HR.out _ _ (by exact ZQ.out)).mono ?_; rintro _ w4 ⟨rfl, p4, k4, b4⟩; have ZE := hid p4; have ZB := hid (ZB.out.trans b4); have ZK := hid (ZK.out.trans k4); have ZX := hid (k4.1 _ _ _ ZX.out (by decide) (by decide) (by decide)); have z := hid (HX.out _ ZX.out); clear p4 k4 b4 HR)
          | (go_at_call 25; refine (HP.out _ (by exact ZP.out)).mono ?_; rintro _ w3 ⟨rfl, p3, k3, b3⟩; have ZQ := hid p3; have ZB := hid (ZB.out.trans b3); have ZK := hid (ZK.out.trans k3); have ZX := hid (k3.1 _ _ _ ZX.out (by decide) (by decide) (by decide)); have z := hid (HX.out _ ZX.out); clear p3 k3 b3 HP))
      go_wp2
      go_ret
      exact ⟨rfl, by rw [HS9.out]; exact Hmono.out _ _ _ _ ZE.out (by omega) (by omega), ZK.out, ZB.out⟩
  by_cases e3 : kd = 3
  · as_aux_lemma =>
      rw [if_neg e0] at hs9
      rw [if_neg e1] at hs9
      rw [if_neg e2] at hs9
      rw [if_pos e3] at hs9
      have HS9 := hid hs9
      clear hs9
      have f0 : (kd == 0) = false := by simpa using e0
      have f1 : (kd == 1) = false := by simpa using e1
      have f2 : (kd == 2) = false := by simpa using e2
      have f3 : (kd == 3) = true := by simpa using e3
      have HP := hid (fun (V : World) (hp : PR K V B g gr s s c d) => (show Calls Tryz.prog 20 #[.pointer (some ⟨g, 0, none⟩), .agg #[.string t, .string u, .string n, .int .u8 (sc : Int)]] V fun e w' => Told K V B g gr (.int .i64 (allEs s ⟨t, u, n, sc⟩ : Nat)) (s.alw ⟨t, u, n, sc⟩) s (c) (d + 1) e w' from by
        obtain ⟨X, h1⟩ := hp.gp
        exact (gAllow_any h1.1 (by have := Hc.out; omega) (by have := Hc.out; omega) ⟨t, u, n, sc⟩ (by have := Hx.out.t; unfold maxLen; omega) (by have := Hx.out.u; unfold maxLen; omega) (by have := Hx.out.n; unfold maxLen; omega) Hx.out.sc).mono (fun e w' t => told_p hp h1 t)))
      have HR := hid (fun (V : World) (s5 : GS) (hp0 : PR K V B g gr s s c d) => trivial)
      clear HR
      have hp0 := h0.out
      have hok := hp0.ok
      have HR := hid (fun (V : World) (s5 : GS) (hp : PR K V B g gr s5 s (c) (d + 1)) => (show Calls Tryz.prog 27 #[.pointer (some ⟨gr, 0, none⟩), .agg #[.string t, .string u, .string n, .int .u8 (sc : Int)]] V fun e w' => Told K V B g gr (.int .i64 (allEs s ⟨t, u, n, sc⟩ : Nat)) s5 (s.alw ⟨t, u, n, sc⟩) (c) (d + 1) e w' from (rallow_any hp.rg hok hp.base (by have := hp0.cl; have := Hc.out; omega) (by have := hp0.al; have := Hc.out; omega) t u n sc Hx.out.t Hx.out.u Hx.out.sc).mono (fun e w' t => told_r hp t)))
      clear hp0 hok e0 e1 e2 e3
      obtain ⟨W1, hW1⟩ : ∃ W1, W1 = W.alloc (.cells #[.string t, .string u, .string n, .int .u8 (sc : Int)] 59) := ⟨_, rfl⟩
      have sW : W.heap.size = w.heap.size + 1 := by rw [← HW.out]; simp
      have bW1 : Below W.heap.size W W1 := by rw [hW1]; exact (Below.refl _ W).alloc (Nat.le_refl _) _
      have X1 : Hid (W1.heap[w.heap.size + 1]? = some (.cells #[.string t, .string u, .string n, .int .u8 (sc : Int)] 59 (0, 0))) := by show _ = _; rw [hW1, ← sW]; exact heap_allocN W _
      have HX1 := hid (fun (V : World) (hV : V.heap[w.heap.size + 1]? = some (.cells #[.string t, .string u, .string n, .int .u8 (sc : Int)] 59 (0, 0))) => (show V.cell? ⟨w.heap.size + 1, 0, none⟩ = some (.string t) ∧ V.cell? ⟨w.heap.size + 1, 1, none⟩ = some (.string u) ∧ V.cell? ⟨w.heap.size + 1, 2, none⟩ = some (.string n) ∧ V.cell? ⟨w.heap.size + 1, 3, none⟩ = some (.int .u8 (sc : Int)) from
        ⟨(cell_of_rowU _ _ 0 _ _ _ hV).trans rfl, (cell_of_rowU _ _ 1 _ _ _ hV).trans rfl, (cell_of_rowU _ _ 2 _ _ _ hV).trans rfl, (cell_of_rowU _ _ 3 _ _ _ hV).trans rfl⟩))
      have ZP := hid ((h0.out.below bW1).below (below_dN _ W1 1))
      have ZB := hid ((B0.out.trans (bW1.mono h0.out.base)).trans (below_dN B W1 1))
      have ZK := hid ((KW.out.trans (KpU.below bW1)).trans (KpU.below (below_dN _ W1 1)))
      have ZX : Hid (W1.drew.heap[w.heap.size + 1]? = some (.cells #[.string t, .string u, .string n, .int .u8 (sc : Int)] 59 (0, 0))) := X1.out
      have HW1 : Hid ((w.alloc (.cells #[.int .i64 kd, .string t, .string u, .string n, .string r, .int .u8 (sc : Int)] 33)).alloc (.cells #[.string t, .string u, .string n, .int .u8 (sc : Int)] 59) = W1) := by show _ = _; rw [HW.out, hW1]
      clear hW1 sW bW1
      have z := hid (HX1.out _ ZX.out)
      go_enter Tryz.func11, Tryz.ntmps11
      go_wp2
      rw [HW1.out]
      go_region_held3 (fun w9 => w9.cell? ⟨w.heap.size + 1, 0, none⟩ = some (.string t) ∧ w9.cell? ⟨w.heap.size + 1, 1, none⟩ = some (.string u) ∧ w9.cell? ⟨w.heap.size + 1, 2, none⟩ = some (.string n) ∧ w9.cell? ⟨w.heap.size + 1, 3, none⟩ = some (.int .u8 (sc : Int)))
        (exact z.out)
        (first
          | (go_at_call 27; refine (HR.out _ _ (by exact ZQ.out)).mono ?_; rintro _ w4 ⟨rfl, p4, k4, b4⟩; have ZE := hid p4; have ZB := hid (ZB.out.trans b4); have ZK := hid (ZK.out.trans k4); have ZX := hid (k4.1 _ _ _ ZX.out (by decide) (by decide) (by decide)); have z := hid (HX1.out _ ZX.out); clear p4 k4 b4 HR)
          | (go_at_call 20; refine (HP.out _ (by exact ZP.out)).mono ?_; rintro _ w3 ⟨rfl, p3, k3, b3⟩; have ZQ := hid p3; have ZB := hid (ZB.out.trans b3); have ZK := hid (ZK.out.trans k3); have ZX := hid (k3.1 _ _ _ ZX.out (by decide) (by decide) (by decide)); have z := hid (HX1.out _ ZX.out); clear p3 k3 b3 HP))
      go_wp2
      go_ret
      exact ⟨rfl, by rw [HS9.out]; exact Hmono.out _ _ _ _ ZE.out (by omega) (by omega), ZK.out, ZB.out⟩
  by_cases e4 : kd = 4
  · as_aux_lemma =>
      rw [if_neg e0] at hs9
      rw [if_neg e1] at hs9
      rw [if_neg e2] at hs9
      rw [if_neg e3] at hs9
      rw [if_pos e4] at hs9
      have HS9 := hid hs9
      clear hs9
      have f0 : (kd == 0) = false := by simpa using e0
      have f1 : (kd == 1) = false := by simpa using e1
      have f2 : (kd == 2) = false := by simpa using e2
      have f3 : (kd == 3) = false := by simpa using e3
      have f4 : (kd == 4) = true := by simpa using e4
      have HP := hid (fun (V : World) (hp : PR K V B g gr s s c d) => (show Calls Tryz.prog 28 #[.pointer (some ⟨g, 0, none⟩), .agg #[.string t, .string u], .string n] V fun e w' => Told K V B g gr (.int .i64 (noneE (fA s t u n).isSome)) (s.dropA t u n) s (c) (d) e w' from by
        obtain ⟨X, h1⟩ := hp.gp
        exact (gWithdraw_any h1.1 t u n (by have := Hx.out.t; unfold maxLen; omega) (by have := Hx.out.u; unfold maxLen; omega) (by have := Hx.out.n; unfold maxLen; omega)).mono (fun e w' t => told_p hp h1 t)))
      have HR := hid (fun (V : World) (s5 : GS) (hp0 : PR K V B g gr s s c d) => trivial)
      clear HR
      have hp0 := h0.out
      have hok := hp0.ok
      have HR := hid (fun (V : World) (s5 : GS) (hp : PR K V B g gr s5 s (c) (d)) => (show Calls Tryz.prog 29 #[.pointer (some ⟨gr, 0, none⟩), .agg #[.string t, .string u], .string n] V fun e w' => Told K V B g gr (.int .i64 (noneE (fA s t u n).isSome)) s5 (s.dropA t u n) (c) (d) e w' from (rwithdraw_any hp.rg hok hp.base (by have := hp0.al; have := Hc.out; omega) t u n).mono (fun e w' t => told_r hp t)))
      clear hp0 hok e0 e1 e2 e3 e4
      have ZP := hid (h0.out.below (below_dN _ W 1))
      have ZB := hid (B0.out.trans (below_dN B W 1))
      have ZK := hid (KW.out.trans (KpU.below (below_dN _ W 1)))
      have ZX : Hid (W.drew.heap[w.heap.size]? = some (.cells #[.int .i64 kd, .string t, .string u, .string n, .string r, .int .u8 (sc : Int)] 33 (0, 0))) := X0.out
      have z := hid (HX.out _ ZX.out)
      go_enter Tryz.func11, Tryz.ntmps11
      go_wp2
      rw [HW.out]
      go_region_held3 (fun w9 => w9.cell? ⟨w.heap.size, 0, none⟩ = some (.int .i64 kd) ∧ w9.cell? ⟨w.heap.size, 1, none⟩ = some (.string t) ∧ w9.cell? ⟨w.heap.size, 2, none⟩ = some (.string u) ∧ w9.cell? ⟨w.heap.size, 3, none⟩ = some (.string n) ∧ w9.cell? ⟨w.heap.size, 4, none⟩ = some (.string r) ∧ w9.cell? ⟨w.heap.size, 5, none⟩ = some (.int .u8 (sc : Int)))
        (exact z.out)
        (first
          | (go_at_call 29; refine (HR.out _ _ (by exact ZQ.out)).mono ?_; rintro _ w4 ⟨rfl, p4, k4, b4⟩; have ZE := hid p4; have ZB := hid (ZB.out.trans b4); have ZK := hid (ZK.out.trans k4); have ZX := hid (k4.1 _ _ _ ZX.out (by decide) (by decide) (by decide)); have z := hid (HX.out _ ZX.out); clear p4 k4 b4 HR)
          | (go_at_call 28; refine (HP.out _ (by exact ZP.out)).mono ?_; rintro _ w3 ⟨rfl, p3, k3, b3⟩; have ZQ := hid p3; have ZB := hid (ZB.out.trans b3); have ZK := hid (ZK.out.trans k3); have ZX := hid (k3.1 _ _ _ ZX.out (by decide) (by decide) (by decide)); have z := hid (HX.out _ ZX.out); clear p3 k3 b3 HP))
      go_wp2
      go_ret
      exact ⟨rfl, by rw [HS9.out]; exact Hmono.out _ _ _ _ ZE.out (by omega) (by omega), ZK.out, ZB.out⟩
  by_cases e5 : kd = 5
  · as_aux_lemma =>
      rw [if_neg e0] at hs9
      rw [if_neg e1] at hs9
      rw [if_neg e2] at hs9
      rw [if_neg e3] at hs9
      rw [if_neg e4] at hs9
      rw [if_pos e5] at hs9
      have HS9 := hid hs9
      clear hs9
      have f0 : (kd == 0) = false := by simpa using e0
      have f1 : (kd == 1) = false := by simpa using e1
      have f2 : (kd == 2) = false := by simpa using e2
      have f3 : (kd == 3) = false := by simpa using e3
      have f4 : (kd == 4) = false := by simpa using e4
      have f5 : (kd == 5) = true := by simpa using e5
      have HP := hid (fun (V : World) (hp : PR K V B g gr s s c d) => (show Calls Tryz.prog 30 #[.pointer (some ⟨g, 0, none⟩), .agg #[.string t, .string u]] V fun e w' => Told K V B g gr (.int .i64 (consN s t u : Nat)) (s.dropU t u) s (c) (d) e w' from by
        obtain ⟨X, h1⟩ := hp.gp
        exact (gDropUser_any h1.1 (by have := Hc.out; omega) t u (by have := Hx.out.t; unfold maxLen; omega) (by have := Hx.out.u; unfold maxLen; omega)).mono (fun e w' t => told_p hp h1 t)))
      have HR := hid (fun (V : World) (s5 : GS) (hp0 : PR K V B g gr s s c d) => trivial)
      clear HR
      have hp0 := h0.out
      have hok := hp0.ok
      have HR := hid (fun (V : World) (s5 : GS) (hp : PR K V B g gr s5 s (c) (d)) => (show Calls Tryz.prog 31 #[.pointer (some ⟨gr, 0, none⟩), .agg #[.string t, .string u]] V fun e w' => Told K V B g gr (.int .i64 (consN s t u : Nat)) s5 (s.dropU t u) (c) (d) e w' from (rdropUser_any hp.rg hp.base (by have := hp0.al; have := Hc.out; omega) t u).mono (fun e w' t => told_r hp t)))
      clear hp0 hok e0 e1 e2 e3 e4 e5
      have ZP := hid (h0.out.below (below_dN _ W 1))
      have ZB := hid (B0.out.trans (below_dN B W 1))
      have ZK := hid (KW.out.trans (KpU.below (below_dN _ W 1)))
      have ZX : Hid (W.drew.heap[w.heap.size]? = some (.cells #[.int .i64 kd, .string t, .string u, .string n, .string r, .int .u8 (sc : Int)] 33 (0, 0))) := X0.out
      have z := hid (HX.out _ ZX.out)
      go_enter Tryz.func11, Tryz.ntmps11
      go_wp2
      rw [HW.out]
      go_region_held3 (fun w9 => w9.cell? ⟨w.heap.size, 0, none⟩ = some (.int .i64 kd) ∧ w9.cell? ⟨w.heap.size, 1, none⟩ = some (.string t) ∧ w9.cell? ⟨w.heap.size, 2, none⟩ = some (.string u) ∧ w9.cell? ⟨w.heap.size, 3, none⟩ = some (.string n) ∧ w9.cell? ⟨w.heap.size, 4, none⟩ = some (.string r) ∧ w9.cell? ⟨w.heap.size, 5, none⟩ = some (.int .u8 (sc : Int)))
        (exact z.out)
        (first
          | (go_at_call 31; refine (HR.out _ _ (by exact ZQ.out)).mono ?_; rintro _ w4 ⟨rfl, p4, k4, b4⟩; have ZE := hid p4; have ZB := hid (ZB.out.trans b4); have ZK := hid (ZK.out.trans k4); have ZX := hid (k4.1 _ _ _ ZX.out (by decide) (by decide) (by decide)); have z := hid (HX.out _ ZX.out); clear p4 k4 b4 HR)
          | (go_at_call 30; refine (HP.out _ (by exact ZP.out)).mono ?_; rintro _ w3 ⟨rfl, p3, k3, b3⟩; have ZQ := hid p3; have ZB := hid (ZB.out.trans b3); have ZK := hid (ZK.out.trans k3); have ZX := hid (k3.1 _ _ _ ZX.out (by decide) (by decide) (by decide)); have z := hid (HX.out _ ZX.out); clear p3 k3 b3 HP))
      go_wp2
      go_ret
      exact ⟨rfl, by rw [HS9.out]; exact Hmono.out _ _ _ _ ZE.out (by omega) (by omega), ZK.out, ZB.out⟩
  as_aux_lemma =>
    rw [if_neg e0] at hs9
    rw [if_neg e1] at hs9
    rw [if_neg e2] at hs9
    rw [if_neg e3] at hs9
    rw [if_neg e4] at hs9
    rw [if_neg e5] at hs9
    have HS9 := hid hs9
    clear hs9
    have f0 : (kd == 0) = false := by simpa using e0
    have f1 : (kd == 1) = false := by simpa using e1
    have f2 : (kd == 2) = false := by simpa using e2
    have f3 : (kd == 3) = false := by simpa using e3
    have f4 : (kd == 4) = false := by simpa using e4
    have f5 : (kd == 5) = false := by simpa using e5
    have HP := hid (fun (V : World) (hp : PR K V B g gr s s c d) => (show Calls Tryz.prog 21 #[.pointer (some ⟨g, 0, none⟩), .agg #[.string t, .string u], .string n, .string r, .int .u8 (sc : Int)] V fun e w' => Told K V B g gr (.int .i64 (mayRs s t u n r sc : Nat)) (s) s (c) (d) e w' from by
      obtain ⟨X, h1⟩ := hp.gp
      exact (gMay_any h1.1 t u n r sc (by have := Hx.out.t; unfold maxLen; omega) (by have := Hx.out.u; unfold maxLen; omega) (by have := Hx.out.n; unfold maxLen; omega) Hx.out.sc).mono (fun e w' t => told_b hp ⟨t.1, t.2⟩)))
    have HR := hid (fun (V : World) (s5 : GS) (hp0 : PR K V B g gr s s c d) => trivial)
    clear HR
    have hp0 := h0.out
    have hok := hp0.ok
    have HR := hid (fun (V : World) (s5 : GS) (hp : PR K V B g gr s5 s (c) (d)) => (show Calls Tryz.prog 32 #[.pointer (some ⟨gr, 0, none⟩), .agg #[.string t, .string u], .string n, .string r, .int .u8 (sc : Int)] V fun e w' => Told K V B g gr (.int .i64 (mayRs s t u n r sc : Nat)) s5 (s) (c) (d) e w' from (rmay_any hp.rg hok (by have := hp0.cl; have := Hc.out; omega) (by have := hp0.al; have := Hc.out; omega) t u n r sc Hx.out.sc).mono (fun e w' t => told_b hp ⟨t.1, t.2⟩)))
    clear hp0 hok e0 e1 e2 e3 e4 e5
    have ZP := hid (h0.out.below (below_dN _ W 1))
    have ZB := hid (B0.out.trans (below_dN B W 1))
    have ZK := hid (KW.out.trans (KpU.below (below_dN _ W 1)))
    have ZX : Hid (W.drew.heap[w.heap.size]? = some (.cells #[.int .i64 kd, .string t, .string u, .string n, .string r, .int .u8 (sc : Int)] 33 (0, 0))) := X0.out
    have z := hid (HX.out _ ZX.out)
    go_enter Tryz.func11, Tryz.ntmps11
    go_wp2
    rw [HW.out]
    go_region_held3 (fun w9 => w9.cell? ⟨w.heap.size, 0, none⟩ = some (.int .i64 kd) ∧ w9.cell? ⟨w.heap.size, 1, none⟩ = some (.string t) ∧ w9.cell? ⟨w.heap.size, 2, none⟩ = some (.string u) ∧ w9.cell? ⟨w.heap.size, 3, none⟩ = some (.string n) ∧ w9.cell? ⟨w.heap.size, 4, none⟩ = some (.string r) ∧ w9.cell? ⟨w.heap.size, 5, none⟩ = some (.int .u8 (sc : Int)))
      (exact z.out)
      (first
        | (go_at_call 32; refine (HR.out _ _ (by exact ZQ.out)).mono ?_; rintro _ w4 ⟨rfl, p4, k4, b4⟩; have ZE := hid p4; have ZB := hid (ZB.out.trans b4); have ZK := hid (ZK.out.trans k4); have ZX := hid (k4.1 _ _ _ ZX.out (by decide) (by decide) (by decide)); have z := hid (HX.out _ ZX.out); clear p4 k4 b4 HR)
        | (go_at_call 21; refine (HP.out _ (by exact ZP.out)).mono ?_; rintro _ w3 ⟨rfl, p3, k3, b3⟩; have ZQ := hid p3; have ZB := hid (ZB.out.trans b3); have ZK := hid (ZK.out.trans k3); have ZX := hid (k3.1 _ _ _ ZX.out (by decide) (by decide) (by decide)); have z := hid (HX.out _ ZX.out); clear p3 k3 b3 HP))
    go_wp2
    go_ret
    exact ⟨rfl, by rw [HS9.out]; exact Hmono.out _ _ _ _ ZE.out (by omega) (by omega), ZK.out, ZB.out⟩
end Go.Proofs.YtlkbojgemcjilaaGreatDoor
