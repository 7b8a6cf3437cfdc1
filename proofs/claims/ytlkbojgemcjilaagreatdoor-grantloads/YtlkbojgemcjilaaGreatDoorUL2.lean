/- GrantLess: what its end keeps; Fork and Rows by the state alone. -/
import Derived.Test.YtlkbojgemcjilaaGreatDoorUL1
import Derived.Test.YtlkbojgemcjilaaGreatDoorUF2
import Derived.Test.YtlkbojgemcjilaaGreatDoorGR2
namespace Go.Proofs.YtlkbojgemcjilaaGreatDoor
open Go.RowKit Go.Maps Go.Shelf Go.Sort Go.Lib
set_option linter.unusedVariables false
set_option maxRecDepth 20000
section
variable {w w' : World} {B B' g mc d c : Nat} {L : List Reg} {s t : GS} {X : Nat → Prop}
theorem SAt.rebase (h : SAt w B g mc L s d) (hB : B' ≤ B) : SAt w B' g mc L s d :=
  ⟨h.ok, h.cs, h.obj, h.cm, fun p hp => by
    obtain ⟨k1, k2, k3⟩ := h.regs p hp
    exact ⟨Nat.le_trans hB k1, Nat.le_trans hB k2, k3⟩, h.ndr, h.ndm, Nat.le_trans hB h.bg, Nat.le_trans hB h.bm⟩
theorem gFork_any (h : GP w B g s c c X) (hc : c ≤ 100000) :
    Calls Tryz.prog 9 #[.pointer (some ⟨g, 0, none⟩)] w fun e w' => ∃ g2 Y, e = .returned (.pointer (some ⟨g2, 0, none⟩)) ∧ Below w.heap.size w w' ∧ GP w' B g2 s c c Y ∧ ∀ k, Y k → w.heap.size ≤ k := by
  obtain ⟨mc, L, h1, h2⟩ := h.at'
  have hcl := h.cl
  have hL : L.length ≤ c := by rw [← List.length_map (f := (·.c)), h1.cs]; exact hcl
  refine (fork_any h1 (by omega)).mono ?_
  rintro _ w' ⟨g2, mc2, N, rfl, hb, hF, hp⟩
  have hN : N.length ≤ c := by
    have := hp.length_eq
    rw [List.length_map] at this
    omega
  obtain ⟨L2, hS, hge⟩ := hF.sat h1.ok hp hN (Nat.le_refl _)
  exact ⟨g2, _, rfl, hb, GP.mk' (hS.rebase h.base) hcl h.al (Nat.le_trans h.base hb.size), hge⟩
theorem gRows2_any (h : GP w B g s c d X) (hc : c ≤ 400) (hd : s.al.length ≤ 900000) (hT : TabAt w) : Calls Tryz.prog 14 #[.pointer (some ⟨g, 0, none⟩)] w (Xr.PRowsG w s) := by
  obtain ⟨mc, L, h1, h2⟩ := h.at'
  have hcl := h.cl
  have hal := h.al
  exact Xr.rows_any h1 (by rw [← List.length_map (f := (·.c)), h1.cs]; omega) (by omega) hT
theorem gRows_any (h : GP w B g s c c X) (hc : c ≤ 400) (hT : TabAt w) : Calls Tryz.prog 14 #[.pointer (some ⟨g, 0, none⟩)] w (Xr.PRowsG w s) := by
  obtain ⟨mc, L, h1, h2⟩ := h.at'
  have hcl := h.cl
  have hal := h.al
  exact Xr.rows_any h1 (by rw [← List.length_map (f := (·.c)), h1.cs]; omega) (by omega) hT
theorem Two.of_fork (h : GP w B g s c c X) (hc : c ≤ 100000) :
    Calls Tryz.prog 9 #[.pointer (some ⟨g, 0, none⟩)] w fun e w' => ∃ g2, e = .returned (.pointer (some ⟨g2, 0, none⟩)) ∧ Below w.heap.size w w' ∧ Two w' B g g2 s s c :=
  (gFork_any h hc).mono (by
    rintro _ w' ⟨g2, Y, rfl, hb, hY, hge⟩
    exact ⟨g2, rfl, hb, X, Y, h.below hb, hY, fun k hx hy => by have h1 := h.lt k hx; have h2 := hge k hy; omega⟩)
theorem Two.rows1 {h : Nat} (p : Two w B g h s t c) (hc : c ≤ 400) (hT : TabAt w) : Calls Tryz.prog 14 #[.pointer (some ⟨g, 0, none⟩)] w (Xr.PRowsG w s) := by
  obtain ⟨X, Y, h1, h2, h3⟩ := p
  exact gRows_any h1 hc hT
theorem Two.rows2 {h : Nat} (p : Two w B g h s t c) (hc : c ≤ 400) (hT : TabAt w) : Calls Tryz.prog 14 #[.pointer (some ⟨h, 0, none⟩)] w (Xr.PRowsG w t) := by
  obtain ⟨X, Y, h1, h2, h3⟩ := p
  exact gRows_any h2 hc hT
end
theorem mOfG_cols {s : GS} : ∀ x ∈ Xr.mOfG s, x.cols.length ≤ 1000 := fun x hx => by
  unfold Xr.mOfG at hx
  rcases List.mem_append.1 hx with hx | hx <;> obtain ⟨y, _, rfl⟩ := List.mem_map.1 hx
  · exact (show (2 : Nat) ≤ 1000 by omega)
  · exact (show (1 : Nat) ≤ 1000 by omega)
theorem Two.len1 {w : World} {B g h c : Nat} {s t : GS} (p : Two w B g h s t c) : s.cs.length + s.al.length ≤ 2 * c := by
  obtain ⟨X, Y, h1, _⟩ := p
  have := h1.cl
  have := h1.al
  omega
/-- rows of the same store, by two calls, are the same -/
theorem less_same2 {w1 w2 : World} {B1 B2 : Nat} {s : GS} (ok : s.Ok) (hl : s.cs.length + s.al.length ≤ 1000000) {v1 v2 : Value} {r1 r2 : List Xr.RC} {m1 m2 : List Xr.Rw} (hb : Below w1.heap.size w1 w2)
    (o1 : w1.ownsRow B1 79 2 v1 r1.length (Xr.rcCells r1)) (i1 : Xr.RowsIs w1 r1 m1) (p1 : m1.Perm (Xr.mOfG s)) (q1 : Xr.InOrder Xr.keyR m1)
    (o2 : w2.ownsRow B2 79 2 v2 r2.length (Xr.rcCells r2)) (i2 : Xr.RowsIs w2 r2 m2) (p2 : m2.Perm (Xr.mOfG s)) (q2 : Xr.InOrder Xr.keyR m2) :
    Calls Tryz.prog 13 #[v1, v2] w2 fun e w' => e = .returned (.bool true) ∧ Below w2.heap.size w2 w' := by
  obtain rfl := Xr.same_rowsG ok p1 p2 q1 q2
  refine Xr.sameRows_any (Xr.own_onW o1 hb) o2 (i1.below hb) i2 ?_ (fun x hx => mOfG_cols x (p1.mem_iff.1 hx))
  rw [p1.length_eq]
  unfold Xr.mOfG
  rw [List.length_append, List.length_map, List.length_map]
  omega
/-- rows of the same store, by two calls, are the same -/
theorem less_same {w1 w2 : World} {B1 B2 c : Nat} {s : GS} (ok : s.Ok) (hc : c ≤ 1000) (hl : s.cs.length + s.al.length ≤ 2 * c) {v1 v2 : Value} {r1 r2 : List Xr.RC} {m1 m2 : List Xr.Rw} (hb : Below w1.heap.size w1 w2)
    (o1 : w1.ownsRow B1 79 2 v1 r1.length (Xr.rcCells r1)) (i1 : Xr.RowsIs w1 r1 m1) (p1 : m1.Perm (Xr.mOfG s)) (q1 : Xr.InOrder Xr.keyR m1)
    (o2 : w2.ownsRow B2 79 2 v2 r2.length (Xr.rcCells r2)) (i2 : Xr.RowsIs w2 r2 m2) (p2 : m2.Perm (Xr.mOfG s)) (q2 : Xr.InOrder Xr.keyR m2) :
    Calls Tryz.prog 13 #[v1, v2] w2 fun e w' => e = .returned (.bool true) ∧ Below w2.heap.size w2 w' := by
  obtain rfl := Xr.same_rowsG ok p1 p2 q1 q2
  refine Xr.sameRows_any (Xr.own_onW o1 hb) o2 (i1.below hb) i2 ?_ (fun x hx => mOfG_cols x (p1.mem_iff.1 hx))
  rw [p1.length_eq]
  unfold Xr.mOfG
  rw [List.length_append, List.length_map, List.length_map]
  omega
/-- what the loop over deeds keeps -/
structure GDk (K : Nat → Prop) (w0 : World) (x : GDeed) (g gr k : Nat) (T : GS) (wr : World) : Prop where
  pr : PR K wr w0.heap.size g gr T T k k
  be : Below w0.heap.size w0 wr
  ob : wr.heap[w0.heap.size]? = some (.cells (gdC x) 33 (0, 0))
theorem GDk.below {K : Nat → Prop} {w0 wr w' : World} {x : GDeed} {g gr k : Nat} {T : GS} (h : GDk K w0 x g gr k T wr) (hb : Below wr.heap.size wr w') : GDk K w0 x g gr k T w' :=
  ⟨h.pr.below hb, Below.on' h.be hb, (hb.block _ (heap_lt h.ob)).trans h.ob⟩
theorem GDk.told {K : Nat → Prop} {w0 wr w' : World} {x : GDeed} {g gr k : Nat} {T T' : GS} {v : Value} {e : Ending} (h : GDk K w0 x g gr k T wr) (t : Told K wr w0.heap.size g gr v T' T' (k + 1) (k + 1) e w') : GDk K w0 x g gr (k + 1) T' w' :=
  ⟨t.2.1, h.be.trans t.2.2.2, t.2.2.1.1 _ _ _ h.ob (by decide) (by decide) (by decide)⟩
def NoK (k : Nat) : Prop := False
theorem gdk_start {w0 w1 w2 w3 : World} {x : GDeed} {g gr : Nat} {X : Nat → Prop} (b1 : Below (w0.alloc (.cells (gdC x) 33)).heap.size (w0.alloc (.cells (gdC x) 33)) w1) (h1 : GP w1 w0.heap.size g s0U 0 0 X) (b2 : Below w1.heap.size w1 w2) (h2 : RG w2 w1.heap.size gr s0U) (b3 : Below w2.heap.size w2 w3) : GDk NoK w0 x g gr 0 s0U w3 := by
  have b0 : Below w0.heap.size w0 (w0.alloc (.cells (gdC x) 33)) := (Below.refl _ w0).alloc (Nat.le_refl _) _
  have k1 := Below.on' b0 b1
  refine GDk.below ⟨⟨⟨X, h1.below b2, fun k hk => hk.elim⟩, h2.mono k1.size, fun k hk => hk.elim, fun hk => hk⟩, Below.on' k1 b2, ?_⟩ b3
  have o1 : w1.heap[w0.heap.size]? = some (.cells (gdC x) 33 (0, 0)) := (b1.block _ (by simp)).trans (heap_allocN w0 _)
  exact (b2.block _ (heap_lt o1)).trans o1
/-- two stores, and the deed's block -/
structure TD (w0 wr : World) (x : GDeed) (g h : Nat) (s t : GS) (c : Nat) : Prop where
  two : Two wr w0.heap.size g h s t c
  be : Below w0.heap.size w0 wr
  ob : wr.heap[w0.heap.size]? = some (.cells (gdC x) 33 (0, 0))
section
variable {w0 wr w' : World} {x : GDeed} {g h c : Nat} {s t : GS}
theorem TD.below (p : TD w0 wr x g h s t c) (hb : Below wr.heap.size wr w') : TD w0 w' x g h s t c := ⟨p.two.below hb, Below.on' p.be hb, (hb.block _ (heap_lt p.ob)).trans p.ob⟩
theorem TD.nar1 (p : TD w0 wr x g h s t c) (hc : c ≤ 100000) (hx : x.Ok) (m : Nat) (hm : m ≤ 255) :
    Calls Tryz.prog 18 #[.pointer (some ⟨g, 0, none⟩), .string x.t, .string x.n, .int .u8 (m : Int)] wr fun e w' => e = .returned (.tuple #[.int .u8 (narRs s x.t x.n m : Nat), .int .i64 (noneE (findC s x.t x.n).isSome)]) ∧ TD w0 w' x g h (s.nar x.t x.n m) t c :=
  (p.two.nar1 hc x.t x.n m hx.t hx.n hm).mono (by
    rintro e w' ⟨rfl, h1, h2, h3⟩
    exact ⟨rfl, h1, p.be.trans h3, h2 _ _ _ _ p.ob (by decide) (by decide)⟩)
theorem TD.nar2 (p : TD w0 wr x g h s t c) (hc : c ≤ 100000) (hx : x.Ok) (m : Nat) (hm : m ≤ 255) :
    Calls Tryz.prog 18 #[.pointer (some ⟨h, 0, none⟩), .string x.t, .string x.n, .int .u8 (m : Int)] wr fun e w' => e = .returned (.tuple #[.int .u8 (narRs t x.t x.n m : Nat), .int .i64 (noneE (findC t x.t x.n).isSome)]) ∧ TD w0 w' x g h s (t.nar x.t x.n m) c :=
  (p.two.nar2 hc x.t x.n m hx.t hx.n hm).mono (by
    rintro e w' ⟨rfl, h1, h2, h3⟩
    exact ⟨rfl, h1, p.be.trans h3, h2 _ _ _ _ p.ob (by decide) (by decide)⟩)
end
theorem lcells {V : World} {b : Nat} {x : GDeed} (hV : V.heap[b]? = some (.cells (gdC x) 33 (0, 0))) : V.cell? ⟨b, 1, none⟩ = some (.string x.t) ∧ V.cell? ⟨b, 2, none⟩ = some (.string x.u) ∧ V.cell? ⟨b, 3, none⟩ = some (.string x.n) ∧ V.cell? ⟨b, 5, none⟩ = some (.int .u8 (x.sc : Int)) :=
  ⟨(cell_of_rowU _ _ 1 _ _ _ hV).trans rfl, (cell_of_rowU _ _ 2 _ _ _ hV).trans rfl, (cell_of_rowU _ _ 3 _ _ _ hV).trans rfl, (cell_of_rowU _ _ 5 _ _ _ hV).trans rfl⟩
end Go.Proofs.YtlkbojgemcjilaaGreatDoor
