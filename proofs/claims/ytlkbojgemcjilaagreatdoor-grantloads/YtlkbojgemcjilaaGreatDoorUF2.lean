/- YtlkbojgemcjilaaGreatDoorUF1 + YtlkbojgemcjilaaGreatDoorUF2 -/
import Derived.Test.YtlkbojgemcjilaaGreatDoorU25
import Derived.Shelf.SlMaps.Clone
import Derived.Deep.RegionHeld3
/- Grants: a store in the making, for Fork. -/
namespace Go.Proofs.YtlkbojgemcjilaaGreatDoor
open Go.RowKit Go.Maps Go.Shelf Go.Sort Go.Lib
set_option linter.unusedVariables false
set_option maxRecDepth 20000
theorem lift_perm {α β : Type} (f : α → β) : ∀ (m : List β) (N : List α), (N.map f).Perm m → ∃ L : List α, L.Perm N ∧ L.map f = m
  | [], N, h => by
    have h1 := h.length_eq
    rw [List.length_map] at h1
    obtain rfl := List.eq_nil_of_length_eq_zero h1
    exact ⟨[], .refl _, rfl⟩
  | b :: m, N, h => by
    obtain ⟨x, hx, rfl⟩ := List.mem_map.1 (h.mem_iff.2 List.mem_cons_self)
    obtain ⟨s, t, rfl⟩ := List.append_of_mem hx
    have h1 : ((s ++ t).map f).Perm m := by
      refine List.Perm.cons_inv (a := f x) (List.Perm.trans ?_ h)
      rw [List.map_append, List.map_append, List.map_cons]
      exact List.perm_middle.symm
    obtain ⟨L, p, e⟩ := lift_perm f m (s ++ t) h1
    exact ⟨x :: L, (p.cons x).trans List.perm_middle.symm, by rw [List.map_cons, e]⟩
theorem fC_perm_none {N : List Reg} {t n : ByteArray} (h : ∀ p ∈ N, ¬ (p.c.t = t ∧ p.c.n = n)) : fC N t n = none := List.find?_eq_none.2 fun p hp e => h p hp (isC_iff.1 e)
/-- a store in the making: clients of one list, consents of another -/
structure FAt (w : World) (B g mc : Nat) (N : List Reg) (al : List Co) (d : Nat) : Prop where
  obj : w.heap[g]? = some (.cells #[.map (some mc)] 49 (0, 0))
  cm : ∃ V, w.ownsMap Tryz.prog 62 RV mc N.length V ∧ CRel V N
  regs : ∀ p ∈ N, RegIn w B p al d
  ndr : (N.map (·.r)).Nodup
  ndm : (mc :: N.map (·.m)).Nodup
  bg : B ≤ g
  bm : B ≤ mc
section
variable {w w' : World} {B g mc d : Nat} {N L : List Reg} {s : GS} {al : List Co}
theorem FAt.below (h : FAt w B g mc N al d) (hb : Below w.heap.size w w') : FAt w' B g mc N al d := by
  have hgr : w.grownBy w' none := ⟨hb.os, hb.tape, hb.output, hb.size, fun k hk _ => hb.block k hk⟩
  obtain ⟨V, h1, h2⟩ := h.cm
  exact ⟨(hb.block g (heap_lt h.obj)).trans h.obj, ⟨V, h1.kept hgr (by simp), h2⟩, fun p hp => (h.regs p hp).below hb, h.ndr, h.ndm, h.bg, h.bm⟩
theorem FAt.lt (h : FAt w B g mc N al d) : g < w.heap.size := heap_lt h.obj
theorem FAt.mlt (h : FAt w B g mc N al d) : mc < w.heap.size := by
  obtain ⟨_, h9, _⟩ := h.cm
  exact map_new_ne h9
theorem FAt.c0 (h : FAt w B g mc N al d) : w.cell? ⟨g, 0, none⟩ = some (.map (some mc)) := (cell_of_rowU _ _ 0 _ _ _ h.obj).trans rfl
theorem FAt.new (h : SAt w B g mc [] ⟨[], []⟩ 0) (al : List Co) (d : Nat) : FAt w B g mc [] al d := by
  obtain ⟨n, V, h1, h2, h3⟩ := h.cm
  have hn : n = 0 := by omega
  subst hn
  exact ⟨h.obj, ⟨V, h1, h3⟩, (fun p hp => nomatch hp), h.ndr, h.ndm, h.bg, h.bm⟩
/-- a client more -/
theorem FAt.add {w1 : World} (h : FAt w B g mc N al d) (hz : ∀ q ∈ N, q.c.t.size ≤ maxLen ∧ q.c.n.size ≤ maxLen) (p : Reg) (ht : p.c.t.size ≤ maxLen) (hn : p.c.n.size ≤ maxLen) (hf : fC N p.c.t p.c.n = none) {V : DataW Value} (hV : CRel V N) (hb : Below w.heap.size w w1)
    (hm0 : w1.ownsMap Tryz.prog 62 RV mc N.length V) (hm : w'.ownsMap Tryz.prog 62 RV mc (N.length + 1) (V.put (keyP p.c.t p.c.n) (.held (.pointer (some ⟨p.r, 0, none⟩))))) (hg : w1.grownBy w' (some mc))
    (hp : RegIn w1 B p al d) (hrw : w.heap.size ≤ p.r) (hmw : w.heap.size ≤ p.m) : FAt w' B g mc (N ++ [p]) al d := by
  have h1 := h.below hb
  have hmc := h.mlt
  have hall : ∀ q ∈ N, q.r < w.heap.size ∧ q.m < w.heap.size := fun q hq => by
    obtain ⟨_, _, h3, _, _, h4, _⟩ := h.regs q hq
    exact ⟨heap_lt h3, map_new_ne h4⟩
  refine ⟨?_, ⟨_, ?_, hV.put hz p.c ht hn hf p.r p.m⟩, fun q hq => ?_, ?_, ?_, h.bg, h.bm⟩
  · exact (hg.block g h1.lt (fun e => cells_ne_map hm0 h1.obj (Option.some.inj e))).trans h1.obj
  · rw [List.length_append]
    exact hm
  · rcases List.mem_append.1 hq with hq | hq
    · exact (h1.regs q hq).kept hg (cells_ne_map hm0 (h1.regs q hq).2.2.1) (fun e => (List.nodup_cons.1 h.ndm).1 (List.mem_map.2 ⟨q, hq, e⟩))
    · obtain rfl := List.mem_singleton.1 hq
      exact hp.kept hg (cells_ne_map hm0 hp.2.2.1) (by omega)
  · rw [List.map_append]
    refine List.nodup_append.2 ⟨h.ndr, by simp, fun a ha b hb e => ?_⟩
    obtain ⟨q, hq, rfl⟩ := List.mem_map.1 ha
    simp at hb
    have := (hall q hq).1
    omega
  · rw [List.map_append, ← List.cons_append]
    refine List.nodup_append.2 ⟨h.ndm, by simp, fun a ha b hb e => ?_⟩
    simp at hb
    rcases List.mem_cons.1 ha with rfl | ha
    · omega
    · obtain ⟨q, hq, rfl⟩ := List.mem_map.1 ha
      have := (hall q hq).2
      omega
/-- it is made -/
theorem FAt.sat (h : FAt w B g mc N s.al d) (ok : s.Ok) (hp : (N.map (·.c)).Perm s.cs) {d' : Nat} (h1 : N.length ≤ d') (h2 : d ≤ d') : ∃ L, SAt w B g mc L s d' ∧ ∀ k, MineU g mc L k → B ≤ k := by
  obtain ⟨L, p, e⟩ := lift_perm (·.c) s.cs N hp
  obtain ⟨V, q1, q2⟩ := h.cm
  have hS : SAt w B g mc L s d' := by
    refine ⟨ok, e, h.obj, ⟨_, V, q1, h1, ⟨q2.tidy, fun t u ht hu => ?_, fun x hx => q2.at' x (p.mem_iff.1 hx), by rw [q2.size, p.length_eq]⟩⟩, fun x hx => (h.regs x (p.mem_iff.1 hx)).mono h2, ?_, ?_, h.bg, h.bm⟩
    · rw [q2.has t u ht hu]
      exact (Bool.eq_iff_iff.2 (by simp only [List.any_eq_true]; exact ⟨fun ⟨x, hx, hy⟩ => ⟨x, p.mem_iff.2 hx, hy⟩, fun ⟨x, hx, hy⟩ => ⟨x, p.mem_iff.1 hx, hy⟩⟩))
    · exact (p.map _).nodup_iff.2 h.ndr
    · exact ((p.map _).cons mc).nodup_iff.2 h.ndm
  exact ⟨L, hS, hS.mine_ge⟩
set_option maxHeartbeats 800000 in
theorem cloneS_any {w : World} {mb : Nat} {es : Array MapEntry} {clock : Nat} (hb : w.heap[mb]? = some (.map es clock)) :
    Calls Tryz.prog 22 #[.map (some mb)] w fun e w' => e = .returned (.map (some w.heap.size)) ∧ w' = w.alloc (.map es clock) := by
  have hq := fun w => run_eql_map_nil_sl (P := Tryz.prog) w 64 _ _ (some mb) Tryz.underlying64
  go_enter Tryz.func22, Tryz.ntmps22
  go_wp2
  rw [run_callFunc_extern Tryz.func57 (by kernel_rfl) (by kernel_rfl) (by kernel_rfl) (e := Extern.MapsClone.clone) (by kernel_rfl), run_maps_clone_sl w 64 hb]
  simp only [Result.andThen]
  rw [Oper.upon_value]
  go_wp2
  rw [run_typeAssert_map_sl _ 64 _ _ _ _ Tryz.underlying64]
  simp only [Result.andThen]
  rw [Oper.upon_value]
  go_wp2
  go_ret
  exact ⟨rfl, rfl⟩
theorem cloneS_map {w : World} {mb n : Nat} {D : DataW Unit} (h : w.ownsMap Tryz.prog 9 (plainElem Tryz.prog 31) mb n D) :
    Calls Tryz.prog 22 #[.map (some mb)] w fun e w' => e = .returned (.map (some w.heap.size)) ∧ w'.ownsMap Tryz.prog 9 (plainElem Tryz.prog 31) w.heap.size n D ∧ Below w.heap.size w w' ∧ w'.heap.size = w.heap.size + 1 := by
  obtain ⟨es, clock, hb, r⟩ := h
  refine (cloneS_any hb).mono ?_
  rintro e w' ⟨rfl, rfl⟩
  exact ⟨rfl, ⟨es, clock, (MapKept.heap_alloc w _).1, r⟩, (Below.refl _ w).alloc (Nat.le_refl _) _, by simp⟩
end
end Go.Proofs.YtlkbojgemcjilaaGreatDoor

/- Grants: Fork, the walk. -/
namespace Go.Proofs.YtlkbojgemcjilaaGreatDoor
open Go.RowKit Go.Maps Go.Shelf Go.Sort Go.Lib
set_option linter.unusedVariables false
set_option maxRecDepth 20000
/-- what a round of Fork reads -/
structure SF (V : World) (g2 mc2 ab : Nat) (p : Reg) : Prop where
  ob : V.heap[g2]? = some (.cells #[.map (some mc2)] 49 (0, 0))
  pl : V.heap[ab]? = some (.cells #[.string p.c.t, .string p.c.n] 62 (0, 0))
  rg : V.heap[p.r]? = some (.cells (regCells p) 66 (0, 0))
theorem SF.below {V V' : World} {g2 mc2 ab : Nat} {p : Reg} (h : SF V g2 mc2 ab p) (hb : Below V.heap.size V V') : SF V' g2 mc2 ab p := ⟨(hb.block _ (heap_lt h.ob)).trans h.ob, (hb.block _ (heap_lt h.pl)).trans h.pl, (hb.block _ (heap_lt h.rg)).trans h.rg⟩
theorem SF.turn {V V' : World} {g2 mc2 ab m : Nat} {p : Reg} (h : SF V g2 mc2 ab p) (hg : V.grownBy V' (some m)) (hm : ∀ cs t fr, V.heap[m]? ≠ some (.cells cs t fr)) : SF V' g2 mc2 ab p :=
  ⟨(hg.block _ (heap_lt h.ob) (fun e => by cases e; exact hm _ _ _ h.ob)).trans h.ob, (hg.block _ (heap_lt h.pl) (fun e => by cases e; exact hm _ _ _ h.pl)).trans h.pl, (hg.block _ (heap_lt h.rg) (fun e => by cases e; exact hm _ _ _ h.rg)).trans h.rg⟩
theorem SF.six {V : World} {g2 mc2 ab : Nat} {p : Reg} (h : SF V g2 mc2 ab p) : V.cell? ⟨g2, 0, none⟩ = some (.map (some mc2)) ∧ V.cell? ⟨ab, 0, none⟩ = some (.string p.c.t) ∧ V.cell? ⟨ab, 1, none⟩ = some (.string p.c.n) ∧ V.cell? ⟨p.r, 0, none⟩ = some (.string p.c.r) ∧ V.cell? ⟨p.r, 1, none⟩ = some (.int .u8 (p.c.sc : Int)) ∧ V.cell? ⟨p.r, 2, none⟩ = some (.map (some p.m)) :=
  ⟨(cell_of_rowU _ _ 0 _ _ _ h.ob).trans rfl, (cell_of_rowU _ _ 0 _ _ _ h.pl).trans rfl, (cell_of_rowU _ _ 1 _ _ _ h.pl).trans rfl, (cell_of_rowU _ _ 0 _ _ _ h.rg).trans rfl, (cell_of_rowU _ _ 1 _ _ _ h.rg).trans rfl, (cell_of_rowU _ _ 2 _ _ _ h.rg).trans rfl⟩
theorem noCells {H : Type} {w : World} {k : TypeId} {R : Value → Option (DataW H × List MemPlace)} {b n : Nat} {D : DataW H} (h : w.ownsMap Tryz.prog k R b n D) : ∀ cs t fr, w.heap[b]? ≠ some (.cells cs t fr) := fun cs t fr e => by
  obtain ⟨es, clock, hb⟩ := mapObj h
  rw [hb] at e
  cases e
theorem range_noCells {H : Type} {w : World} {k : TypeId} {R : Value → Option (DataW H × List MemPlace)} {b r c cnt : Nat} {D : DataW H} {left : Lit → Bool} (hr : w.ranges Tryz.prog k R b r c D left cnt) : ∀ cs t fr, w.heap[r]? ≠ some (.cells cs t fr) := fun cs t fr h => by
  obtain ⟨es, clock, since, seen, c0, hb, _, _, _, hrr, _⟩ := hr
  rw [hrr] at h
  cases h
theorem map_neF {H H' : Type} {w : World} {k k' : TypeId} {R : Value → Option (DataW H × List MemPlace)} {R' : Value → Option (DataW H' × List MemPlace)} {b r c cnt b' n : Nat} {D : DataW H} {D' : DataW H'} {left : Lit → Bool} (hr : w.ranges Tryz.prog k R b r c D left cnt) (h : w.ownsMap Tryz.prog k' R' b' n D') : b' ≠ r := fun e => by
  obtain ⟨es, clock, hb⟩ := mapObj h
  obtain ⟨es, clock, since, seen, c0, _, _, _, _, hrr, _⟩ := hr
  rw [e, hrr] at hb
  cases hb
theorem undrewF {B : Nat} {w w' : World} (h : Below B w.drew w') : Below B w w' := ⟨h.os, h.tape, h.output, h.size, h.block⟩
/-- a client put into the new store -/
theorem fork_put {W w1 : World} {B0 g2 mc2 d k ab : Nat} {N : List Reg} {al : List Co} {D : DataW Unit} {p : Reg} (hF : FAt W B0 g2 mc2 N al d) (hB : B0 ≤ W.heap.size) (hN : N.length ≤ 100000) (hz : ∀ q ∈ N, q.c.t.size ≤ maxLen ∧ q.c.n.size ≤ maxLen) (ht : p.c.t.size ≤ maxLen) (hn : p.c.n.size ≤ maxLen) (hf : fC N p.c.t p.c.n = none)
    (hS : SF W g2 mc2 ab p) (hk : k ≤ d) (hD : ARel D (al.filter (ofC p.c.t p.c.n))) (hm1 : w1.ownsMap Tryz.prog 9 (plainElem Tryz.prog 31) W.heap.size k D) (hb1 : Below W.heap.size W w1) (hs1 : w1.heap.size = W.heap.size + 1) :
    ∃ w2, (Instr.mapUpdate 47 (.map (some mc2)) (.agg #[.string p.c.t, .string p.c.n]) (.pointer (some ⟨w1.heap.size, 0, none⟩))).run Tryz.prog (w1.alloc (.cells #[.string p.c.r, .int .u8 (p.c.sc : Int), .map (some W.heap.size)] 66)) = .ok () w2 ∧ SF w1 g2 mc2 ab p ∧ SF (w1.alloc (.cells #[.string p.c.r, .int .u8 (p.c.sc : Int), .map (some W.heap.size)] 66)) g2 mc2 ab p ∧ SF w2 g2 mc2 ab p ∧ FAt w2 B0 g2 mc2 (N ++ [⟨p.c, w1.heap.size, W.heap.size⟩]) al d ∧ OutJ (fun j => j = mc2) W w2 := by
  obtain ⟨X, hX⟩ : ∃ X, X = w1.alloc (.cells #[.string p.c.r, .int .u8 (p.c.sc : Int), .map (some W.heap.size)] 66) := ⟨_, rfl⟩
  have bX1 : Below w1.heap.size w1 X := by rw [hX]; exact (Below.refl _ _).alloc (Nat.le_refl _) _
  have bX := Below.on' hb1 bX1
  obtain ⟨V2, hown, hV2⟩ := hF.cm
  have gr : W.grownBy X none := ⟨bX.os, bX.tape, bX.output, bX.size, fun i hi _ => bX.block i hi⟩
  have hmX := hown.kept gr (by simp)
  obtain ⟨w2, hrun, hown2, ht2⟩ := hmX.store (key := .agg #[.string p.c.t, .string p.c.n]) (val := .pointer (some ⟨w1.heap.size, 0, none⟩)) (d := .held (.pointer (some ⟨w1.heap.size, 0, none⟩))) (ps := []) lawPlace Tryz.underlying47 (by unfold maxLen; omega) (keyOf_place p.c.t p.c.n ht hn) rfl
  have hg2 := ht2.grown
  have xr : X.heap[w1.heap.size]? = some (.cells #[.string p.c.r, .int .u8 (p.c.sc : Int), .map (some W.heap.size)] 66 (0, 0)) := by rw [hX]; exact heap_allocN w1 _
  have gX1 : w1.grownBy X none := ⟨bX1.os, bX1.tape, bX1.output, bX1.size, fun i hi _ => bX1.block i hi⟩
  have hp : RegIn X B0 ⟨p.c, w1.heap.size, W.heap.size⟩ al d := ⟨by show B0 ≤ w1.heap.size; omega, hB, xr, k, D, hm1.kept gX1 (by simp), hk, hD⟩
  have s1 := hS.below hb1
  have sX := hS.below bX
  rw [← hX]
  exact ⟨w2, hrun, s1, sX, sX.turn hg2 (noCells hmX), hF.add hz ⟨p.c, w1.heap.size, W.heap.size⟩ ht hn hf hV2 bX hmX hown2 hg2 hp (by show W.heap.size ≤ w1.heap.size; omega) (Nat.le_refl _), (OutJ.of_below bX).trans (OutJ.of_grown hg2 rfl)⟩
section
variable {w : World} {B g mc d : Nat} {L : List Reg} {s : GS}
theorem fork_none {N L' : List Reg} {left : Lit → Bool} {p : Reg} (e : N.map (·.c) = L'.map (·.c)) (hL : L'.Perm (L.filter fun p => !left (keyP p.c.t p.c.n))) (hl : left (keyP p.c.t p.c.n) = true) : fC N p.c.t p.c.n = none := fC_perm_none fun q hq h => by
  have h1 : q.c ∈ L'.map (·.c) := by rw [← e]; exact List.mem_map.2 ⟨q, hq, rfl⟩
  obtain ⟨q', hq', e1⟩ := List.mem_map.1 h1
  have h2 := (List.mem_filter.1 (hL.mem_iff.1 hq')).2
  replace e1 : q'.c = q.c := e1
  replace h2 : (!left (keyP q'.c.t q'.c.n)) = true := h2
  rw [e1, h.1, h.2, hl] at h2
  cases h2
theorem fork_sizes (h : SAt w B g mc L s d) {N L' : List Reg} {left : Lit → Bool} (e : N.map (·.c) = L'.map (·.c)) (hL : L'.Perm (L.filter fun p => !left (keyP p.c.t p.c.n))) : ∀ q ∈ N, q.c.t.size ≤ maxLen ∧ q.c.n.size ≤ maxLen := fun q hq => by
  have h1 : q.c ∈ L'.map (·.c) := by rw [← e]; exact List.mem_map.2 ⟨q, hq, rfl⟩
  obtain ⟨q', hq', e1⟩ := List.mem_map.1 h1
  obtain ⟨z1, z2⟩ := h.sizes (List.mem_filter.1 (hL.mem_iff.1 hq')).1
  replace e1 : q'.c = q.c := e1
  rw [← e1]
  exact ⟨by unfold maxLen; omega, by unfold maxLen; omega⟩
set_option maxHeartbeats 8000000 in
theorem fork_any (h : SAt w B g mc L s d) (hl9 : L.length ≤ 100000) :
    Calls Tryz.prog 9 #[.pointer (some ⟨g, 0, none⟩)] w fun e w' => ∃ g2 mc2 N, e = .returned (.pointer (some ⟨g2, 0, none⟩)) ∧ Below w.heap.size w w' ∧ FAt w' w.heap.size g2 mc2 N s.al d ∧ (N.map (·.c)).Perm s.cs := by
  have H := hid h
  have HN := hid (new_any w w.heap.size (Nat.le_refl _))
  have Hl9 := hid hl9
  obtain ⟨nv, V, hcm, hnv, hV⟩ := h.cm
  have HCM := hid hcm
  have HV := hid hV
  have c0 := h.c0
  clear h hcm hV hl9
  go_enter Tryz.func9, Tryz.ntmps9
  go_wp2_with (first
    | (go_at_call 6; refine HN.out.mono ?_; rintro _ wN ⟨g2, mc2, rfl, q1, q2, q3, q4⟩; have G2 := hid (And.intro q1 q2); have BN := hid q3; have FN := hid (FAt.new q4 s.al d); have c1 := (H.out.below q3).c0; have CM1 := hid (HCM.out.kept (⟨q3.os, q3.tape, q3.output, q3.size, fun i hi _ => q3.block i hi⟩ : w.grownBy wN none) (by simp)); clear q1 q2 q3 q4 HN)
    | (at_range; refine wpList_range_own _ rfl _ 47 rfl 62 63 lawPlace Tryz.underlying47 _ mc nv _ rfl CM1.out ?_; intro w3 hrg3 hg3 hs3)
    | go_in)
  go_frame
  clear c0
  go_loopw [4, 5] (fun v4 v5 wr => ∃ (left : Lit → Bool) (cnt : Nat) (L' N : List Reg), wr.ranges Tryz.prog 62 RV mc wN.heap.size nv V left cnt ∧ FAt wr w.heap.size g2 mc2 N s.al d ∧ N.map (·.c) = L'.map (·.c) ∧ L'.Perm (L.filter fun p => !left (keyP p.c.t p.c.n)) ∧ Below w.heap.size w wr) (fun _ _ wr => wr.rangeLeft mc wN.heap.size)
  case atStart =>
    have b3 : Below wN.heap.size wN w3 := ⟨hg3.os, hg3.tape, hg3.output, hg3.size, fun k hk => hg3.block k hk (by simp)⟩
    refine ⟨_, _, [], [], hrg3, FN.out.below b3, rfl, ?_, Below.on' BN.out b3⟩
    rw [List.filter_eq_nil_iff.2 fun p hp => ?_]
    obtain ⟨p1, p2⟩ := H.out.sizes hp
    rw [HV.out.has _ _ (by unfold maxLen; omega) (by unfold maxLen; omega), List.any_eq_true.2 ⟨p, hp, decide_eq_true ⟨rfl, rfl⟩⟩]
    simp
  case round =>
    obtain ⟨left, cnt, L', N, hrg, hF, hNL, hpm, hb⟩ := hrel
    have HL := hid hrg.left_eq
    have HF := hid hF
    have HNL := hid hNL
    have Hpm := hid hpm
    have Hb := hid hb
    have HrN : Hid (mc < wN.heap.size ∧ w.heap.size ≤ wN.heap.size ∧ mc < w.heap.size ∧ mc2 < wN.heap.size) := by
      have h1 := BN.out.size
      have h2 := FN.out.mlt
      have h3 := map_new_ne HCM.out
      exact ⟨by omega, h1, h3, h2⟩
    clear hF hNL hpm hb hrg3 hg3 hs3 c1
    go_wp2_with (first
      | (at_next; refine wpList_next_ranges (α := ByteArray × ByteArray) (β := Value) _ rfl _ rfl 62 lawPlace RV (fun x => .agg #[.string x.1, .string x.2]) (fun v => v) (fun key kl hk => by obtain ⟨a, b, rfl, _⟩ := place_inv hk; exact ⟨(a, b), rfl⟩) (fun v y hv => ⟨v, rfl⟩) mc wN.heap.size nv _ _ _ rfl hrg ?_ ?_)
      | go_in)
    · intro _ hl0
      have hLp : L'.Perm L := by
        have h1 := Hpm.out
        rw [List.filter_eq_self.2 (fun t _ => by rw [hl0]; rfl)] at h1
        exact h1
      have hmp : Hid ((N.map (·.c)).Perm s.cs) := by
        show (N.map (·.c)).Perm _
        rw [HNL.out, ← H.out.cs]
        exact hLp.map _
      clear hl0 hrg hLp
      go_wp2_with go_in
      go_ret
      exact ⟨g2, mc2, N, rfl, Hb.out, HF.out, hmp.out⟩
    · intro t2 u c kl y1 y2 w6 cnt' hk hl hv hat hrg6 hlt hg6 hs6 hen
      obtain ⟨t9, u9, e1, rfl, l1, l2⟩ := place_inv hk
      obtain ⟨rfl, rfl⟩ : t2 = t9 ∧ u = u9 := by simpa using e1
      clear e1
      obtain ⟨p, hp, rfl, rfl⟩ : ∃ p ∈ L, p.c.t = t2 ∧ p.c.n = u := by
        have h2 := Maps.has_true_of_atKey hat
        rw [HV.out.has _ _ l1 l2] at h2
        obtain ⟨p, hp1, hp2⟩ := List.any_eq_true.1 h2
        have e9 := of_decide_eq_true hp2
        exact ⟨p, hp1, e9.1, e9.2⟩
      obtain rfl : c = .pointer (some ⟨p.r, 0, none⟩) := by
        have h3 := hat .nil
        rw [HV.out.at' p hp] at h3
        have h4 : y1 = .held c := (congrArg Prod.fst (Option.some.inj hv)).symm
        rw [h4] at h3
        injection h3 with h3
        exact h3.symm
      have hmore := hid (H.out.more hp hl Hpm.out)
      have hnone := fork_none HNL.out Hpm.out hl
      have hsizes := fork_sizes H.out HNL.out Hpm.out
      obtain ⟨W, hW⟩ : ∃ W, W = w6.alloc (.cells #[.string p.c.t, .string p.c.n] 62) := ⟨_, rfl⟩
      have bW : Below w6.heap.size w6 W := by rw [hW]; exact (Below.refl _ _).alloc (Nat.le_refl _) _
      have b6 : Below w.heap.size w w6 := Hb.out.trans ⟨hg6.os, hg6.tape, hg6.output, hg6.size, fun k hk => hg6.block k (by have := Hb.out.size; omega) (fun e => by cases e; have := HrN.out; omega)⟩
      have bWw := Below.on' b6 bW
      have o6 : OutJ (fun j => j = wN.heap.size) wr w6 := ⟨hg6.os, hg6.tape, hg6.output, hg6.size, fun j hj hne => hg6.block j hj (fun e => hne (by cases e; rfl))⟩
      have hF6 : FAt w6 w.heap.size g2 mc2 N s.al d := by
        have hm : ∀ {H : Type} {k : TypeId} {R : Value → Option (DataW H × List MemPlace)} {b n : Nat} {D : DataW H}, wr.ownsMap Tryz.prog k R b n D → w6.ownsMap Tryz.prog k R b n D := fun {H k R b n D} h1 => h1.kept hg6 (fun e => map_neF hrg h1 (Option.some.inj e))
        have hf := HF.out
        obtain ⟨V9, v1, v2⟩ := hf.cm
        exact ⟨(hg6.block _ (heap_lt hf.obj) (fun e => range_noCells hrg _ _ _ (by rw [← Option.some.inj e]; exact hf.obj))).trans hf.obj, ⟨V9, hm v1, v2⟩, fun q hq => by
          obtain ⟨k1, k2, k3, n9, D9, k4, k5⟩ := hf.regs q hq
          exact ⟨k1, k2, (hg6.block _ (heap_lt k3) (fun e => range_noCells hrg _ _ _ (by rw [← Option.some.inj e]; exact k3))).trans k3, n9, D9, hm k4, k5⟩, hf.ndr, hf.ndm, hf.bg, hf.bm⟩
      have hFW := hF6.below bW
      have hregs := (H.out.below bWw).regs p hp
      have sfW : SF W g2 mc2 w6.heap.size p := ⟨hFW.obj, by rw [hW]; exact heap_allocN w6 _, hregs.2.2.1⟩
      obtain ⟨k, D, hM, hk9, hD⟩ := hregs.2.2.2
      have hN9 : N.length ≤ 100000 := by
        have h1 := congrArg List.length HNL.out
        rw [List.length_map, List.length_map, Hpm.out.length_eq] at h1
        have h2 := List.length_filter_le (fun p : Reg => !left (keyP p.c.t p.c.n)) L
        have := Hl9.out
        omega
      have HCl := hid (show Calls Tryz.prog 22 #[.map (some p.m)] W.drew fun e w' => e = .returned (.map (some W.heap.size)) ∧ w'.ownsMap Tryz.prog 9 (plainElem Tryz.prog 31) W.heap.size k D ∧ Below W.heap.size W w' ∧ w'.heap.size = W.heap.size + 1 from
        (cloneS_map (w := W.drew) (hM.kept (w' := W.drew) (row := none) ⟨rfl, rfl, rfl, Nat.le_refl _, fun _ _ _ => rfl⟩ (by simp))).mono (fun e w' h => ⟨h.1, h.2.1, undrewF h.2.2.1, h.2.2.2⟩))
      have HPut := hid (fun (w1 : World) (hm1 : w1.ownsMap Tryz.prog 9 (plainElem Tryz.prog 31) W.heap.size k D) (hb1 : Below W.heap.size W w1) (hs1 : w1.heap.size = W.heap.size + 1) => fork_put (p := p) hFW bWw.size hN9 hsizes l1 l2 hnone sfW hk9 hD hm1 hb1 hs1)
      have HrgW : Hid (W.ranges Tryz.prog 62 RV mc wN.heap.size nv V (fun z => left z && !z.sameKey (keyP p.c.t p.c.n)) cnt') := by show W.ranges _ _ _ _ _ _ _ _ _; rw [hW]; exact hrg6.alloc _
      have BW := hid bWw
      have Hlt := hid hlt
      have z0 := hid sfW.six
      have HW := hid hW.symm
      have Hmc : Hid (mc2 ≠ mc ∧ mc2 ≠ wN.heap.size ∧ w.heap.size ≤ mc2) := ⟨by have := HrN.out; have := G2.out; omega, by have := HrN.out; omega, G2.out.2⟩
      obtain ⟨pc, pr, pm⟩ := p
      obtain ⟨pt, pn, prd, psc⟩ := pc
      dsimp only at *
      clear hk hl hv hat hrg6 hlt hg6 hs6 hrg hp hW bW b6 bWw o6 hF6 hFW hregs sfW hM hk9 hD hN9 hnone hsizes l1 l2
      go_wp2_with go_in
      rw [HW.out]
      go_region_held3 (fun w9 => w9.cell? ⟨g2, 0, none⟩ = some (.map (some mc2)) ∧ w9.cell? ⟨w6.heap.size, 0, none⟩ = some (.string pt) ∧ w9.cell? ⟨w6.heap.size, 1, none⟩ = some (.string pn) ∧ w9.cell? ⟨pr, 0, none⟩ = some (.string prd) ∧ w9.cell? ⟨pr, 1, none⟩ = some (.int .u8 (psc : Int)) ∧ w9.cell? ⟨pr, 2, none⟩ = some (.map (some pm)))
        (first
          | exact z0.out
          | exact z1.out
          | exact z2.out
          | exact z3.out)
        ((go_at_call 22; refine HCl.out.mono ?_; rintro _ w1 ⟨rfl, hm1, hb1, hs1⟩; obtain ⟨w2, hrun, y1, y2, y3, y4, y5⟩ := HPut.out w1 hm1 hb1 hs1; have z1 := hid y1.six; have z2 := hid y2.six; have z3 := hid y3.six; have F2 := hid y4; have O2 := hid y5; clear hm1 hb1 hs1 y1 y2 y3 y4 y5))
      have g2' : Hid (W.grownBy w2 (some mc2)) := ⟨O2.out.os, O2.out.tape, O2.out.output, O2.out.size, fun i hi hne => O2.out.block i hi (fun e => hne (by rw [e]))⟩
      have R2 := HrgW.out.kept g2'.out (fun e => Hmc.out.1 (Option.some.inj e).symm) (fun e => Hmc.out.2.1 (Option.some.inj e).symm)
      go_roundw
      case rel =>
        refine ⟨_, _, _, _, _, _, _, _, _, _, _, _, _, _, _, _, _, _, _, _, _, _, _, _, _, _, _, ?_, rfl⟩
        refine ⟨_, _, L' ++ [⟨⟨pt, pn, prd, psc⟩, pr, pm⟩], _, R2, F2.out, ?_, (List.perm_append_singleton _ _).trans hmore.out, ?_⟩
        · rw [List.map_append, List.map_append, HNL.out]
          rfl
        · exact BW.out.trans (O2.out.below BW.out.size (fun k hk => by rw [hk]; exact Hmc.out.2.2))
      case measure =>
        rw [R2.left_eq, HL.out]
        exact Hlt.out
end
end Go.Proofs.YtlkbojgemcjilaaGreatDoor
