/- Grants: same of the laws: what both tell of a user and a client. -/
import Derived.Test.YtlkbojgemcjilaaGreatDoorUDK
import Derived.Test.YtlkbojgemcjilaaGreatDoorUP1
namespace Go.Proofs.YtlkbojgemcjilaaGreatDoor
open Go.RowKit Go.Maps Go.Shelf Go.Sort Go.Lib
set_option linter.unusedVariables false
set_option maxRecDepth 20000
theorem nameL_key (x : Cl) : nameL x = keyCl x := (toList_data x.n).symm
theorem clients_same {s : GS} (ok : s.Ok) (t : ByteArray) {S S' : List Cl} (p : S.Perm (s.cs.filter (inT t))) (o : NameOrder S) (p' : S'.Perm (s.cs.filter (inT t))) (o' : Xr.InOrder keyCl S') : S = S' := by
  refine Xr.uniq keyCl (p.trans p'.symm) (o.imp fun {a b} h => by rw [← nameL_key, ← nameL_key]; exact h) o' fun a ha b hb e => ?_
  obtain ⟨a1, a2⟩ := List.mem_filter.1 (p.mem_iff.1 ha)
  obtain ⟨b1, b2⟩ := List.mem_filter.1 (p.mem_iff.1 hb)
  exact ok.c_inj a1 b1 ((of_decide_eq_true a2).trans (of_decide_eq_true b2).symm) ((str_eqU _ _).2 e)
theorem consents_same {s : GS} (ok : s.Ok) (t u : ByteArray) {S : List Cl} {A : List Co} (o : NameOrder S) (p : (consS s t u S).Perm (s.al.filter (isU t u))) (p' : A.Perm (s.al.filter (isU t u))) (o' : Xr.InOrder keyCo A) : consS s t u S = A := by
  have ho : Xr.InOrder keyCo (consS s t u S) := by
    unfold consS
    refine List.Pairwise.filterMap (fun c => fA s t u c.n) (fun c c' h a ha b hb => ?_) o
    obtain ⟨_, _, _, e1⟩ := fA_some ha
    obtain ⟨_, _, _, e2⟩ := fA_some hb
    show ¬ b.n.toList < a.n.toList
    rw [e1, e2, toList_data, toList_data]
    exact h
  refine Xr.uniq keyCo (p.trans p'.symm) ho o' fun a ha b hb e => ?_
  obtain ⟨a1, a2⟩ := List.mem_filter.1 (p.mem_iff.1 ha)
  obtain ⟨b1, b2⟩ := List.mem_filter.1 (p.mem_iff.1 hb)
  have q1 := isU_iff.1 a2
  have q2 := isU_iff.1 b2
  exact ok.a_inj a1 b1 (q1.1.trans q2.1.symm) (q1.2.trans q2.2.symm) ((str_eqU _ _).2 e)
/-- what the questions answer -/
theorem same_facts (s : GS) (t u n : ByteArray) : ∃ (c1 : Cl) (a1 : Co) (e1 e2 : Int), ((findC s t n).map clC).getD clC0 = clC c1 ∧ noneE (findC s t n).isSome = e1 ∧ ((fA s t u n).map coC).getD clC0 = coC a1 ∧ noneE (fA s t u n).isSome = e2 := by
  have h1 : ∃ c, ((findC s t n).map clC).getD clC0 = clC c := by
    cases findC s t n with
    | none => exact ⟨⟨⟨#[]⟩, ⟨#[]⟩, ⟨#[]⟩, 0⟩, rfl⟩
    | some c => exact ⟨c, rfl⟩
  have h2 : ∃ a, ((fA s t u n).map coC).getD clC0 = coC a := by
    cases fA s t u n with
    | none => exact ⟨⟨⟨#[]⟩, ⟨#[]⟩, ⟨#[]⟩, 0⟩, rfl⟩
    | some a => exact ⟨a, rfl⟩
  obtain ⟨c, h1⟩ := h1
  obtain ⟨a, h2⟩ := h2
  exact ⟨c, a, _, _, h1, rfl, h2, rfl⟩
structure SMd (K : Nat → Prop) (w V : World) (x : GDeed) (B g gr : Nat) (s : GS) (c d : Nat) : Prop where
  pr : PR K V B g gr s s c d
  be : Below w.heap.size w V
  ob : V.heap[w.heap.size]? = some (.cells (gdC x) 33 (0, 0))
section
variable {K : Nat → Prop} {w V V' : World} {x : GDeed} {B g gr c d : Nat} {s : GS}
theorem SMd.below (h : SMd K w V x B g gr s c d) (hb : Below V.heap.size V V') : SMd K w V' x B g gr s c d := ⟨h.pr.below hb, Below.on' h.be hb, (hb.block _ (heap_lt h.ob)).trans h.ob⟩
theorem SMd.al (h : SMd K w V x B g gr s c d) (o : Obj) : SMd K w (V.alloc o) x B g gr s c d := h.below ((Below.refl _ V).alloc (Nat.le_refl _) o)
theorem q_step {k : Nat} {o' : Obj} (hq : V.heap[k]? = some o') (hb : Below V.heap.size V V') (o : Obj) : (V'.alloc o).heap[k]? = some o' :=
  (Below.heap_alloc _ _ _ (heap_lt ((hb.block _ (heap_lt hq)).trans hq))).trans ((hb.block _ (heap_lt hq)).trans hq)
end
theorem scells {V : World} {b : Nat} {x : GDeed} (hV : V.heap[b]? = some (.cells (gdC x) 33 (0, 0))) : V.cell? ⟨b, 1, none⟩ = some (.string x.t) ∧ V.cell? ⟨b, 2, none⟩ = some (.string x.u) ∧ V.cell? ⟨b, 3, none⟩ = some (.string x.n) :=
  ⟨(cell_of_rowU _ _ 1 _ _ _ hV).trans rfl, (cell_of_rowU _ _ 2 _ _ _ hV).trans rfl, (cell_of_rowU _ _ 3 _ _ _ hV).trans rfl⟩
theorem fcells {V : World} {b : Nat} {T : TypeId} {v0 v1 v2 v3 : Value} (hV : V.heap[b]? = some (.cells #[v0, v1, v2, v3] T (0, 0))) : V.cell? ⟨b, 0, none⟩ = some v0 ∧ V.cell? ⟨b, 1, none⟩ = some v1 ∧ V.cell? ⟨b, 2, none⟩ = some v2 ∧ V.cell? ⟨b, 3, none⟩ = some v3 :=
  ⟨(cell_of_rowU _ _ 0 _ _ _ hV).trans rfl, (cell_of_rowU _ _ 1 _ _ _ hV).trans rfl, (cell_of_rowU _ _ 2 _ _ _ hV).trans rfl, (cell_of_rowU _ _ 3 _ _ _ hV).trans rfl⟩
theorem measG2 {N k : Nat} (h : k < N) : N - (intOf (.int .i64 (((k + 1 : Nat) : Int)))).toNat < N - (intOf (.int .i64 (k : Int))).toNat := by
  simp [intOf]
  omega
/-- rows of four cells, one by one -/
def CAt (V : World) (a : Option Addr) (l : List Cl) : Prop := ∀ i (hi : i < l.length), ∃ b, a = some ⟨b, 0, none⟩ ∧ V.cell? ⟨b, i * 4, none⟩ = some (.string l[i].t) ∧ V.cell? ⟨b, i * 4 + 1, none⟩ = some (.string l[i].n) ∧ V.cell? ⟨b, i * 4 + 2, none⟩ = some (.string l[i].r) ∧ V.cell? ⟨b, i * 4 + 3, none⟩ = some (.int .u8 (l[i].sc : Int))
def AAt (V : World) (a : Option Addr) (l : List Co) : Prop := ∀ i (hi : i < l.length), ∃ b, a = some ⟨b, 0, none⟩ ∧ V.cell? ⟨b, i * 4, none⟩ = some (.string l[i].t) ∧ V.cell? ⟨b, i * 4 + 1, none⟩ = some (.string l[i].u) ∧ V.cell? ⟨b, i * 4 + 2, none⟩ = some (.string l[i].n) ∧ V.cell? ⟨b, i * 4 + 3, none⟩ = some (.int .u8 (l[i].sc : Int))
theorem cell_up {V V' : World} (hb : Below V.heap.size V V') {a : Addr} {v : Value} (h : V.cell? a = some v) : V'.cell? a = some v := (hb.cell (World.block_lt_of_cell? _ _ h)).trans h
theorem CAt.below {V V' : World} {a : Option Addr} {l : List Cl} (h : CAt V a l) (hb : Below V.heap.size V V') : CAt V' a l := fun i hi => by
  obtain ⟨b, e, d0, d1, d2, d3⟩ := h i hi
  exact ⟨b, e, cell_up hb d0, cell_up hb d1, cell_up hb d2, cell_up hb d3⟩
theorem AAt.below {V V' : World} {a : Option Addr} {l : List Co} (h : AAt V a l) (hb : Below V.heap.size V V') : AAt V' a l := fun i hi => by
  obtain ⟨b, e, d0, d1, d2, d3⟩ := h i hi
  exact ⟨b, e, cell_up hb d0, cell_up hb d1, cell_up hb d2, cell_up hb d3⟩
theorem CAt.of {V : World} {B : Nat} {a : Option Addr} {l : List Cl} {cp : Nat} (h : V.ownsRow B 56 4 (.slice a l.length cp) l.length (clCells l)) : CAt V a l := by
  obtain ⟨a', cp', e, hx⟩ := clAt h
  injection e with e1 e2 e3
  subst e1
  exact hx
theorem AAt.of {V : World} {B : Nat} {a : Option Addr} {l : List Co} {cp : Nat} (h : V.ownsRow B 59 4 (.slice a l.length cp) l.length (coCells l)) : AAt V a l := by
  obtain ⟨a', cp', e, hx⟩ := coAt h
  injection e with e1 e2 e3
  subst e1
  exact hx
set_option maxHeartbeats 16000000 in
theorem sameG_any {K : Nat → Prop} {w : World} {B g gr : Nat} {s : GS} {c d : Nat} (h : PR K w B g gr s s c d) (hc : c ≤ 100000) (hd : d ≤ 100000) (x : GDeed) (hx : x.Ok) :
    Calls Tryz.prog 12 #[.pointer (some ⟨g, 0, none⟩), .pointer (some ⟨gr, 0, none⟩), .agg (gdC x)] w fun e w' => e = .returned (.bool true) ∧ Below w.heap.size w w' := by
  obtain ⟨W, hW⟩ : ∃ W, W = w.alloc (.cells (gdC x) 33) := ⟨_, rfl⟩
  have b0 : Below w.heap.size w W := by rw [hW]; exact (Below.refl _ w).alloc (Nat.le_refl _) _
  have x0 : W.heap[w.heap.size]? = some (.cells (gdC x) 33 (0, 0)) := by rw [hW]; exact heap_allocN w _
  have HW := hid hW.symm
  have D0 := hid (show SMd K w W x B g gr s c d from ⟨h.below b0, b0, x0⟩)
  have HX := hid hx
  have Hok := hid h.ok
  have hcl := h.cl
  have hal := h.al
  obtain ⟨x1, x2, x3⟩ := scells x0
  have HS := hid (fun (V : World) (hV : SMd K w V x B g gr s c d) => scells hV.ob)
  obtain ⟨kd, t, u, n, r, sc⟩ := x
  unfold gdC at HW
  dsimp only at x1 x2 x3 HW HS
  obtain ⟨c1, a1, e1, e2, f1, f2, f3, f4⟩ := same_facts s t u n
  have HC1 := hid (fun (V : World) (hV : SMd K w V ⟨kd, t, u, n, r, sc⟩ B g gr s c d) => (show Calls Tryz.prog 33 #[.pointer (some ⟨g, 0, none⟩), .string t, .string n] V fun e w' => e = .returned (.tuple #[.agg #[.string c1.t, .string c1.n, .string c1.r, .int .u8 (c1.sc : Int)], .int .i64 e1]) ∧ Below V.heap.size V w' from by
    obtain ⟨X, h1⟩ := hV.pr.gp
    have h9 := gClient_any h1.1 t n HX.out.t HX.out.n
    rw [f1, f2] at h9
    exact h9))
  have HC2 := hid (fun (V : World) (hV : SMd K w V ⟨kd, t, u, n, r, sc⟩ B g gr s c d) => (show Calls Tryz.prog 34 #[.pointer (some ⟨gr, 0, none⟩), .string t, .string n] V fun e w' => e = .returned (.tuple #[.agg #[.string c1.t, .string c1.n, .string c1.r, .int .u8 (c1.sc : Int)], .int .i64 e1]) ∧ Below V.heap.size V w' from by
    have h9 := rClientP_any hV.pr.rg (by omega) t n
    rw [f1, f2] at h9
    exact h9))
  have HC3 := hid (fun (V : World) (hV : SMd K w V ⟨kd, t, u, n, r, sc⟩ B g gr s c d) => (show Calls Tryz.prog 35 #[.pointer (some ⟨g, 0, none⟩), .agg #[.string t, .string u], .string n] V fun e w' => e = .returned (.tuple #[.agg #[.string a1.t, .string a1.u, .string a1.n, .int .u8 (a1.sc : Int)], .int .i64 e2]) ∧ Below V.heap.size V w' from by
    obtain ⟨X, h1⟩ := hV.pr.gp
    have h9 := gConsent_any h1.1 t u n HX.out.t HX.out.u HX.out.n
    rw [f3, f4] at h9
    exact h9))
  have HC4 := hid (fun (V : World) (hV : SMd K w V ⟨kd, t, u, n, r, sc⟩ B g gr s c d) => (show Calls Tryz.prog 36 #[.pointer (some ⟨gr, 0, none⟩), .agg #[.string t, .string u], .string n] V fun e w' => e = .returned (.tuple #[.agg #[.string a1.t, .string a1.u, .string a1.n, .int .u8 (a1.sc : Int)], .int .i64 e2]) ∧ Below V.heap.size V w' from by
    have h9 := rConsentP_any hV.pr.rg (by omega) t u n
    rw [f3, f4] at h9
    exact h9))
  have HC5 := hid (fun (V : World) (hV : SMd K w V ⟨kd, t, u, n, r, sc⟩ B g gr s c d) => (show Calls Tryz.prog 37 #[.pointer (some ⟨g, 0, none⟩), .string t] V fun e w' => ∃ a S cp, e = .returned (.slice a S.length cp) ∧ S.Perm (s.cs.filter (inT t)) ∧ NameOrder S ∧ w'.ownsRow V.heap.size 56 4 (.slice a S.length cp) S.length (clCells S) ∧ Below V.heap.size V w' from by
    obtain ⟨X, h1⟩ := hV.pr.gp
    refine (gClients_any h1.1 hc t HX.out.t).mono ?_
    rintro e w' ⟨v, S, rfl, p, o, q, b⟩
    obtain ⟨a, cp, rfl, _⟩ := clAt q
    exact ⟨a, S, cp, rfl, p, o, q, b⟩))
  have HC6 := hid (fun (V : World) (hV : SMd K w V ⟨kd, t, u, n, r, sc⟩ B g gr s c d) => (show Calls Tryz.prog 38 #[.pointer (some ⟨gr, 0, none⟩), .string t] V fun e w' => ∃ a S cp, e = .returned (.slice a S.length cp) ∧ S.Perm (s.cs.filter (inT t)) ∧ Xr.InOrder keyCl S ∧ w'.ownsRow V.heap.size 56 4 (.slice a S.length cp) S.length (clCells S) ∧ Below V.heap.size V w' from by
    refine (rClients_any hV.pr.rg (by omega) t).mono ?_
    rintro e w' ⟨v, S, rfl, p, o, q, b⟩
    obtain ⟨a, cp, rfl, _⟩ := clAt q
    exact ⟨a, S, cp, rfl, p, o, q, b⟩))
  have HC7 := hid (fun (V : World) (hV : SMd K w V ⟨kd, t, u, n, r, sc⟩ B g gr s c d) => (show Calls Tryz.prog 39 #[.pointer (some ⟨g, 0, none⟩), .agg #[.string t, .string u]] V fun e w' => ∃ a A S cp, e = .returned (.slice a (A : List Co).length cp) ∧ A = consS s t u S ∧ NameOrder S ∧ A.Perm (s.al.filter (isU t u)) ∧ w'.ownsRow V.heap.size 59 4 (.slice a A.length cp) A.length (coCells A) ∧ Below V.heap.size V w' from by
    obtain ⟨X, h1⟩ := hV.pr.gp
    refine (gConsents_any h1.1 hc t u HX.out.t HX.out.u).mono ?_
    rintro e w' ⟨v, S, cp, rfl, p, o, q, b, p2⟩
    exact ⟨v, _, S, cp, rfl, rfl, o, p2, q, b⟩))
  have HC8 := hid (fun (V : World) (hV : SMd K w V ⟨kd, t, u, n, r, sc⟩ B g gr s c d) => (show Calls Tryz.prog 40 #[.pointer (some ⟨gr, 0, none⟩), .agg #[.string t, .string u]] V fun e w' => ∃ a A cp, e = .returned (.slice a (A : List Co).length cp) ∧ A.Perm (s.al.filter (isU t u)) ∧ Xr.InOrder keyCo A ∧ w'.ownsRow V.heap.size 59 4 (.slice a A.length cp) A.length (coCells A) ∧ Below V.heap.size V w' from by
    refine (rConsents_any hV.pr.rg (by omega) t u).mono ?_
    rintro e w' ⟨v, S, rfl, p, o, q, b⟩
    obtain ⟨a, cp, rfl, _⟩ := coAt q
    exact ⟨a, S, cp, rfl, p, o, q, b⟩))
  have Hlen : Hid (s.cs.length ≤ 100000 ∧ s.al.length ≤ 100000) := by show _ ∧ _; omega
  clear h b0 x0 hW hx f1 f2 f3 f4 hcl hal hc hd
  unfold gdC
  dsimp only
  go_enter Tryz.func12, Tryz.ntmps12
  go_wp2_with (first
    | (go_at_call 33; rw [HW.out]; refine (HC1.out _ D0.out).mono ?_; rintro _ w1 ⟨rfl, b1⟩; have D1 := D0.out.below b1; clear x1 x2 x3; obtain ⟨x1, x2, x3⟩ := HS.out _ D1; have l1 := heap_lt D1.ob; have E1 := hid (D1.al (.cells #[.string c1.t, .string c1.n, .string c1.r, .int .u8 (c1.sc : Int)] 56)); have Q1 := hid (heap_allocN w1 (.cells #[.string c1.t, .string c1.n, .string c1.r, .int .u8 (c1.sc : Int)] 56)); clear b1 D1 D0 HC1)
    | (go_at_call 34; refine (HC2.out _ E1.out).mono ?_; rintro _ w2 ⟨rfl, b2⟩; have D2 := E1.out.below b2; clear x1 x2 x3 l1; obtain ⟨x1, x2, x3⟩ := HS.out _ D2; have l1 := heap_lt D2.ob; have E2 := hid (D2.al (.cells #[.string c1.t, .string c1.n, .string c1.r, .int .u8 (c1.sc : Int)] 56)); have P1 := hid (q_step Q1.out b2 (.cells #[.string c1.t, .string c1.n, .string c1.r, .int .u8 (c1.sc : Int)] 56)); have Q2 := hid (heap_allocN w2 (.cells #[.string c1.t, .string c1.n, .string c1.r, .int .u8 (c1.sc : Int)] 56)); clear b2 D2 E1 HC2 Q1)
    | (go_at_call 35; refine (HC3.out _ E2.out).mono ?_; rintro _ w3 ⟨rfl, b3⟩; have D3 := E2.out.below b3; clear x1 x2 x3 l1; obtain ⟨x1, x2, x3⟩ := HS.out _ D3; have l1 := heap_lt D3.ob; have E3 := hid (D3.al (.cells #[.string a1.t, .string a1.u, .string a1.n, .int .u8 (a1.sc : Int)] 59)); have R1 := hid (q_step P1.out b3 (.cells #[.string a1.t, .string a1.u, .string a1.n, .int .u8 (a1.sc : Int)] 59)); have R2 := hid (q_step Q2.out b3 (.cells #[.string a1.t, .string a1.u, .string a1.n, .int .u8 (a1.sc : Int)] 59)); have Q3 := hid (heap_allocN w3 (.cells #[.string a1.t, .string a1.u, .string a1.n, .int .u8 (a1.sc : Int)] 59)); clear b3 D3 E2 HC3 P1 Q2)
    | (go_at_call 36; refine (HC4.out _ E3.out).mono ?_; rintro _ w4 ⟨rfl, b4⟩; have D4 := E3.out.below b4; clear x1 x2 x3 l1; obtain ⟨x1, x2, x3⟩ := HS.out _ D4; have l1 := heap_lt D4.ob; have E4 := hid (D4.al (.cells #[.string a1.t, .string a1.u, .string a1.n, .int .u8 (a1.sc : Int)] 59)); have S1 := hid (q_step R1.out b4 (.cells #[.string a1.t, .string a1.u, .string a1.n, .int .u8 (a1.sc : Int)] 59)); have S2 := hid (q_step R2.out b4 (.cells #[.string a1.t, .string a1.u, .string a1.n, .int .u8 (a1.sc : Int)] 59)); have S3 := hid (q_step Q3.out b4 (.cells #[.string a1.t, .string a1.u, .string a1.n, .int .u8 (a1.sc : Int)] 59)); have S4 := hid (heap_allocN w4 (.cells #[.string a1.t, .string a1.u, .string a1.n, .int .u8 (a1.sc : Int)] 59)); clear b4 D4 E3 HC4 R1 R2 Q3)
    | go_in)
  obtain ⟨V4, hV4⟩ : ∃ V4, V4 = w4.alloc (.cells #[.string a1.t, .string a1.u, .string a1.n, .int .u8 (a1.sc : Int)] 59) := ⟨_, rfl⟩
  rw [← hV4] at E4 S1 S2 S3 S4 ⊢
  clear hV4 x1 x2 x3 l1
  have z := hid (E4.out.below (below_dN V4.heap.size V4 1))
  have BB : Hid (Below V4.heap.size V4 V4.drew) := below_dN V4.heap.size V4 1
  go_region_held3 (fun w9 => w9.cell? ⟨w.heap.size, 1, none⟩ = some (.string t))
    (exact (HS.out _ z.out).1)
    (first
      | (go_at_call 37; refine (HC5.out _ (by exact z.out)).mono ?_; rintro _ w5 ⟨a5, S5, p5, rfl, h51, h52, h53, b5⟩; have z := hid (z.out.below b5); have BB := hid (Below.on' BB.out b5); have G5 := hid (CAt.of h53); have P5 := hid (And.intro h51 h52); first | (have G6 := hid (G6.out.below b5)) | skip; clear h51 h52 h53 b5)
      | (go_at_call 38; refine (HC6.out _ (by exact z.out)).mono ?_; rintro _ w5 ⟨a6, S6, p6, rfl, h61, h62, h63, b6⟩; have z := hid (z.out.below b6); have BB := hid (Below.on' BB.out b6); have G6 := hid (CAt.of h63); have P6 := hid (And.intro h61 h62); first | (have G5 := hid (G5.out.below b6)) | skip; clear h61 h62 h63 b6))
  all_goals
    obtain rfl := clients_same Hok.out t P5.out.1 P5.out.2 P6.out.1 P6.out.2
    clear P6 HC5 HC6
    have z := hid (z.out.below (below_dN w5.heap.size w5 1))
    have BB := hid (Below.on' BB.out (below_dN w5.heap.size w5 1))
    have G5 := hid (G5.out.below (below_dN w5.heap.size w5 1))
    have G6 := hid (G6.out.below (below_dN w5.heap.size w5 1))
    go_wp2_with fail
    go_region_held3 (fun w9 => w9.cell? ⟨w.heap.size, 1, none⟩ = some (.string t) ∧ w9.cell? ⟨w.heap.size, 2, none⟩ = some (.string u))
      (exact ⟨(HS.out _ z.out).1, (HS.out _ z.out).2.1⟩)
      (first
        | (go_at_call 39; refine (HC7.out _ (by exact z.out)).mono ?_; rintro _ w9 ⟨a7, A7, S7, p7, rfl, h71, h72, h73, h74, b7⟩; have z := hid (z.out.below b7); have BB := hid (Below.on' BB.out b7); have G7 := hid (AAt.of h74); have P7 := hid (And.intro h71 (And.intro h72 h73)); have G5 := hid (G5.out.below b7); have G6 := hid (G6.out.below b7); first | (have G8 := hid (G8.out.below b7)) | skip; clear h71 h72 h73 h74 b7)
        | (go_at_call 40; refine (HC8.out _ (by exact z.out)).mono ?_; rintro _ w9 ⟨a8, A8, p8, rfl, h81, h82, h83, b8⟩; have z := hid (z.out.below b8); have BB := hid (Below.on' BB.out b8); have G8 := hid (AAt.of h83); have P8 := hid (And.intro h81 h82); have G5 := hid (G5.out.below b8); have G6 := hid (G6.out.below b8); first | (have G7 := hid (G7.out.below b8)) | skip; clear h81 h82 h83 b8))
  all_goals
    have e9 : A7 = A8 := by
      obtain ⟨q1, q2, q3⟩ := P7.out
      subst q1
      exact consents_same Hok.out t u q2 q3 P8.out.1 P8.out.2
    subst e9
    have hn5 : S5.length ≤ 100000 := by
      rw [P5.out.1.length_eq]
      exact Nat.le_trans (List.length_filter_le _ _) Hlen.out.1
    have hn7 : A7.length ≤ 100000 := by
      rw [P8.out.1.length_eq]
      exact Nat.le_trans (List.length_filter_le _ _) Hlen.out.2
    obtain ⟨k0, k1, k2, k3⟩ := fcells ((BB.out.block _ (heap_lt S1.out)).trans S1.out)
    obtain ⟨l0, l1, l2, l3⟩ := fcells ((BB.out.block _ (heap_lt S2.out)).trans S2.out)
    obtain ⟨m0, m1, m2, m3⟩ := fcells ((BB.out.block _ (heap_lt S3.out)).trans S3.out)
    obtain ⟨n0, n1, n2, n3⟩ := fcells ((BB.out.block _ (heap_lt S4.out)).trans S4.out)
    have Zb := hid z.out.be
    obtain ⟨N5, hN5⟩ : ∃ N5, N5 = S5.length := ⟨_, rfl⟩
    obtain ⟨N7, hN7⟩ : ∃ N7, N7 = A7.length := ⟨_, rfl⟩
    rw [← hN5, ← hN7]
    rw [← hN5] at hn5
    rw [← hN7] at hn7
    have HN5 := hid hN5
    have HN7 := hid hN7
    clear hN5 hN7 P5 P7 P8 HC7 HC8 z BB S1 S2 S3 S4
    go_wp2_with go_in
    go_loopw [19] (fun i wr => ∃ k : Nat, k ≤ N5 ∧ i = .int .i64 (k : Int) ∧ Below w9.heap.size w9 wr) (fun i _ => N5 - (intOf i).toNat)
    case atStart => exact ⟨0, Nat.zero_le _, rfl, Below.refl _ _⟩
    case round =>
      obtain ⟨k, hk, rfl, hb⟩ := hrel
      have Hb := hid hb
      clear hb k0 k1 k2 k3 l0 l1 l2 l3 m0 m1 m2 m3 n0 n1 n2 n3
      by_cases hlt : k < N5
      · have g1 : (k : Int) < (N5 : Int) := by omega
        have g2 : decide ((k : Int) < (N5 : Int)) = true := by simpa using hlt
        have g0 : (0 : Int) ≤ (k : Int) := by omega
        obtain ⟨bb5, rfl, d0, d1, d2, d3⟩ := G5.out k (by rw [← HN5.out]; exact hlt)
        obtain ⟨bb6, rfl, f0, f1, f2, f3⟩ := G6.out k (by rw [← HN5.out]; exact hlt)
        obtain ⟨y, hy⟩ : ∃ y, y = S5[k]'(by rw [← HN5.out]; exact hlt) := ⟨_, rfl⟩
        rw [← hy] at d0 d1 d2 d3 f0 f1 f2 f3
        clear hy
        obtain ⟨yt, yn, yr, ys⟩ := y
        simp only at d0 d1 d2 d3 f0 f1 f2 f3
        have b9 := Below.on' Hb.out (below_dN wr.heap.size wr 1)
        have z := hid (And.intro (cell_up b9 d0) (And.intro (cell_up b9 d1) (And.intro (cell_up b9 d2) (And.intro (cell_up b9 d3) (And.intro (cell_up b9 f0) (And.intro (cell_up b9 f1) (And.intro (cell_up b9 f2) (cell_up b9 f3))))))))
        have B9 := hid b9
        clear d0 d1 d2 d3 f0 f1 f2 f3 b9
        go_wp2_with fail
        go_region_held3 (fun V => V.cell? ⟨bb5, k * 4, none⟩ = some (.string yt) ∧ V.cell? ⟨bb5, k * 4 + 1, none⟩ = some (.string yn) ∧ V.cell? ⟨bb5, k * 4 + 2, none⟩ = some (.string yr) ∧ V.cell? ⟨bb5, k * 4 + 3, none⟩ = some (.int .u8 (ys : Int)) ∧ V.cell? ⟨bb6, k * 4, none⟩ = some (.string yt) ∧ V.cell? ⟨bb6, k * 4 + 1, none⟩ = some (.string yn) ∧ V.cell? ⟨bb6, k * 4 + 2, none⟩ = some (.string yr) ∧ V.cell? ⟨bb6, k * 4 + 3, none⟩ = some (.int .u8 (ys : Int)))
          (exact z.out)
          (fail)
        go_wp2_with go_in
        go_roundw
        case rel => exact ⟨k + 1, by omega, by go_num, B9.out⟩
        case measure => exact measG2 hlt
      · have e : k = N5 := by omega
        subst e
        have g1 : ¬ (k : Int) < (k : Int) := by omega
        obtain ⟨VL, hVL⟩ : ∃ VL, VL = wr := ⟨_, rfl⟩
        subst hVL
        go_wp2_with go_in
        go_loopw [20] (fun i wr => ∃ j : Nat, j ≤ N7 ∧ i = .int .i64 (j : Int) ∧ Below w9.heap.size w9 wr) (fun i _ => N7 - (intOf i).toNat)
        case atStart => exact ⟨0, Nat.zero_le _, rfl, Hb.out⟩
        case round =>
          obtain ⟨j, hj, rfl, hb⟩ := hrel
          have Hb := hid hb
          clear hb g1
          by_cases hlt : j < N7
          · have g1 : (j : Int) < (N7 : Int) := by omega
            have g2 : decide ((j : Int) < (N7 : Int)) = true := by simpa using hlt
            have g0 : (0 : Int) ≤ (j : Int) := by omega
            obtain ⟨bb7, rfl, d0, d1, d2, d3⟩ := G7.out j (by rw [← HN7.out]; exact hlt)
            obtain ⟨bb8, rfl, f0, f1, f2, f3⟩ := G8.out j (by rw [← HN7.out]; exact hlt)
            obtain ⟨y, hy⟩ : ∃ y, y = A7[j]'(by rw [← HN7.out]; exact hlt) := ⟨_, rfl⟩
            rw [← hy] at d0 d1 d2 d3 f0 f1 f2 f3
            clear hy
            obtain ⟨yt, yu, yn, ys⟩ := y
            simp only at d0 d1 d2 d3 f0 f1 f2 f3
            have b9 := Below.on' Hb.out (below_dN wr.heap.size wr 1)
            have z := hid (And.intro (cell_up b9 d0) (And.intro (cell_up b9 d1) (And.intro (cell_up b9 d2) (And.intro (cell_up b9 d3) (And.intro (cell_up b9 f0) (And.intro (cell_up b9 f1) (And.intro (cell_up b9 f2) (cell_up b9 f3))))))))
            have B9 := hid b9
            clear d0 d1 d2 d3 f0 f1 f2 f3 b9
            go_wp2_with fail
            go_region_held3 (fun V => V.cell? ⟨bb7, j * 4, none⟩ = some (.string yt) ∧ V.cell? ⟨bb7, j * 4 + 1, none⟩ = some (.string yu) ∧ V.cell? ⟨bb7, j * 4 + 2, none⟩ = some (.string yn) ∧ V.cell? ⟨bb7, j * 4 + 3, none⟩ = some (.int .u8 (ys : Int)) ∧ V.cell? ⟨bb8, j * 4, none⟩ = some (.string yt) ∧ V.cell? ⟨bb8, j * 4 + 1, none⟩ = some (.string yu) ∧ V.cell? ⟨bb8, j * 4 + 2, none⟩ = some (.string yn) ∧ V.cell? ⟨bb8, j * 4 + 3, none⟩ = some (.int .u8 (ys : Int)))
              (exact z.out)
              (fail)
            go_wp2_with go_in
            go_roundw
            case rel => exact ⟨j + 1, by omega, by go_num, B9.out⟩
            case measure => exact measG2 hlt
          · have e : j = N7 := by omega
            subst e
            have g1 : ¬ (j : Int) < (j : Int) := by omega
            go_wp2_with go_in
            go_ret
            exact ⟨rfl, Below.on' Zb.out Hb.out⟩
end Go.Proofs.YtlkbojgemcjilaaGreatDoor
