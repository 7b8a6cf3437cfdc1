/- The reference's End and Touch, each by a contract. -/
import Derived.Test.YtcchlcbonfdhpaaDoorSRef3
namespace Go.Proofs.YtcchlcbonfdhpaaDoor
open Go.RowKit Go.Maps Go.Sort Go.Shelf
set_option linter.unusedVariables false
set_option maxRecDepth 20000

set_option maxHeartbeats 1600000 in
theorem rEnd_any {w : World} {B r : Nat} {a : Option Addr} {cap : Nat} {T : Tab} (h : RTab w B r a cap T) (ok : TabOk T) (hl : T.l.length ≤ 1000000000) (hB : B ≤ w.heap.size) (id : Int) :
    Calls Tryd.prog 23 #[.pointer (some ⟨r, 0, none⟩), .int .i64 id] w fun e w' => e = .returned (.int .i64 (tEnd T id).2) ∧ (∃ a' cap', RTab w' B r a' cap' (tEnd T id).1) ∧ Out (fun k => k = r) w w' := by
  have hN1 : Nums1 Sess.id T.l := ok.up.imp (fun h => by omega)
  by_cases e1 : id < 1 ∨ T.next ≤ id
  · have e2 : tEnd T id = (T, 4) := by unfold tEnd; rw [if_pos e1]
    rw [e2]
    have Hf := hid (rFind_none h id e1)
    have HH := hid h
    clear e1 e2 h ok
    go_enter Tryd.func23, Tryd.ntmps23
    go_wp2_with (go_at_call 45; refine Hf.out.mono ?_; rintro e w2 ⟨rfl, rfl⟩)
    go_ret
    exact ⟨rfl, ⟨_, _, HH.out⟩, Out.refl _ _⟩
  · cases hfd : T.l.find? (fun s => s.id == id) with
    | none =>
      have e2 : tEnd T id = (T, 12) := by unfold tEnd; rw [if_neg e1, hfd]
      rw [e2]
      have Hf := hid (rFind_gone h hl id (by omega) (fun s hs e => by have := List.find?_eq_none.1 hfd s hs; simp [e] at this))
      have HH := hid h
      clear e1 e2 h ok hfd
      go_enter Tryd.func23, Tryd.ntmps23
      go_wp2_with (go_at_call 45; refine Hf.out.mono ?_; rintro e w2 ⟨rfl, rfl⟩)
      go_ret
      exact ⟨rfl, ⟨_, _, HH.out⟩, Out.refl _ _⟩
    | some s =>
      have hs : s ∈ T.l := List.mem_of_find?_eq_some hfd
      have hsid : s.id = id := by have := List.find?_some hfd; simpa using this
      subst hsid
      have e2 : tEnd T s.id = (⟨T.next, T.noted, butId T.l s.id⟩, 0) := by unfold tEnd; rw [if_neg e1, hfd]
      rw [e2]
      have Hf := hid (rFind_ok h hl hN1 s hs (ok.ids s hs))
      have Hd := hid (rDrop_any h hl s.id hB)
      clear e1 e2 h ok hfd hs
      go_enter Tryd.func23, Tryd.ntmps23
      go_wp2_with (first
        | (go_at_call 45; refine Hf.out.mono ?_; rintro e w2 ⟨i, rfl, hi, rfl⟩)
        | (go_at_call 49; refine Hd.out.mono ?_; rintro e w3 ⟨rfl, hR3, ho3⟩))
      go_ret
      obtain ⟨a3, c3, hR3, _⟩ := hR3
      exact ⟨rfl, ⟨a3, c3, hR3⟩, ho3⟩

theorem own_block {w : World} {B : Nat} {v : Value} {l : List Sess} (h : w.ownsRow B 42 5 v l.length (sCells l)) (hl : 0 < l.length) : ∃ g cap, v = .slice (some ⟨g, 0, none⟩) l.length cap ∧ B ≤ g ∧ ∀ j, w.frozen? ⟨g, j, none⟩ = false := by
  rcases h.2 with ⟨_, h0⟩ | ⟨g, cap, cur, rfl, hg, hb, _⟩
  · omega
  · exact ⟨g, cap, rfl, hg, fun j => frozen_of_row _ _ j _ _ hb⟩
theorem own_lt {w : World} {B g o n cap : Nat} {e : TypeId} {size : Nat} {xs : List Value} (h : w.ownsRow B e size (.slice (some ⟨g, o, none⟩) n cap) n xs) : g < w.heap.size := (h.lt g rfl).2
theorem sess_in {w : World} {B : Nat} {a : Option Addr} {cap : Nat} {l : List Sess} (h : w.ownsRow B 42 5 (.slice a l.length cap) l.length (sCells l)) : SIn w a l := by
  obtain ⟨a', cap', e, hs, _⟩ := sess_of_own h
  cases e
  exact hs

/-- a row's session laid anew, then the row and the time laid into the table -/
theorem rt_world {w4 : World} {B2 g c4 i r : Nat} {l : List Sess} {s' : Sess} {v0 v1 v2 v3 v4 x0 x1 x2 now : Value} {ty : TypeId} (e0 : v0 = .int .i64 s'.id) (e1 : v1 = .string s'.ten) (e2 : v2 = .string s'.usr) (e3 : v3 = .int .i64 s'.since) (e4 : v4 = .int .i64 s'.used)
    (hrow : w4.ownsRow B2 42 5 (.slice (some ⟨g, 0, none⟩) l.length c4) l.length (sCells l)) (hil : i < l.length) (n1 : r ≠ g) (obj : w4.heap[r]? = some (.cells #[x0, x1, x2] ty (0, 0))) {W6 : World}
    (hW : W6 = ((((((w4.setCell ⟨g, i * 5, none⟩ v0).setCell ⟨g, i * 5 + 1, none⟩ v1).setCell ⟨g, i * 5 + 2, none⟩ v2).setCell ⟨g, i * 5 + 3, none⟩ v3).setCell ⟨g, i * 5 + 4, none⟩ v4).setCell ⟨r, 2, none⟩ (.slice (some ⟨g, 0, none⟩) l.length c4)).setCell ⟨r, 1, none⟩ now) :
    W6.heap[r]? = some (.cells #[x0, now, .slice (some ⟨g, 0, none⟩) l.length c4] ty (0, 0)) ∧ W6.ownsRow B2 42 5 (.slice (some ⟨g, 0, none⟩) l.length c4) l.length (sCells (l.set i s')) ∧ (∀ k, k ≠ g → k ≠ r → W6.heap[k]? = w4.heap[k]?) ∧ (∀ (P : Nat → Prop) (w : World), Out P w w4 → P r → w.heap.size ≤ g → Out P w W6) := by
  subst e0 e1 e2 e3 e4
  have own5 := own_set hrow i hil s'
  obtain ⟨W5, hW5⟩ : ∃ W5, W5 = (((((w4.setCell ⟨g, i * 5, none⟩ (.int .i64 s'.id)).setCell ⟨g, i * 5 + 1, none⟩ (.string s'.ten)).setCell ⟨g, i * 5 + 2, none⟩ (.string s'.usr)).setCell ⟨g, i * 5 + 3, none⟩ (.int .i64 s'.since)).setCell ⟨g, i * 5 + 4, none⟩ (.int .i64 s'.used)) := ⟨_, rfl⟩
  rw [← hW5] at hW own5
  have oth5 : ∀ k, k ≠ g → W5.heap[k]? = w4.heap[k]? := fun k h1 => by
    rw [hW5, heap_setCell_other _ _ _ _ h1, heap_setCell_other _ _ _ _ h1, heap_setCell_other _ _ _ _ h1, heap_setCell_other _ _ _ _ h1, heap_setCell_other _ _ _ _ h1]
  have out5' : ∀ (P : Nat → Prop) (w : World), Out P w w4 → w.heap.size ≤ g → Out P w W5 := fun P w h hg => by
    rw [hW5]
    exact ((((h.setNew ⟨g, i * 5, none⟩ _ hg).setNew ⟨g, i * 5 + 1, none⟩ _ hg).setNew ⟨g, i * 5 + 2, none⟩ _ hg).setNew ⟨g, i * 5 + 3, none⟩ _ hg).setNew ⟨g, i * 5 + 4, none⟩ _ hg
  clear hW5
  have ob5 := (oth5 r n1).trans obj
  have ob6a := heap_setCell_same W5 r 2 _ _ (.slice (some ⟨g, 0, none⟩) l.length c4) ob5
  have ob6 := heap_setCell_same _ r 1 _ _ now ob6a
  have og := grown_of_out (((Out.refl (fun k => k = r) W5).setCell ⟨r, 2, none⟩ (.slice (some ⟨g, 0, none⟩) l.length c4) rfl).setCell ⟨r, 1, none⟩ now rfl)
  rw [← hW] at ob6 og
  refine ⟨by rw [ob6]; simp, own5.kept og (.inr (fun e => n1 (by injection e with e; exact e.symm))), fun k h1 h2 => by rw [hW, heap_setCell_other _ _ _ _ h2, heap_setCell_other _ _ _ _ h2, oth5 k h1], fun P w h hp hg => ?_⟩
  have := ((out5' P w h hg).setCell ⟨r, 2, none⟩ (.slice (some ⟨g, 0, none⟩) l.length c4) hp).setCell ⟨r, 1, none⟩ now hp
  rw [← hW] at this
  exact this

set_option maxHeartbeats 3200000 in
theorem rTouch_any {w : World} {B r : Nat} {a : Option Addr} {cap : Nat} {T : Tab} (h : RTab w B r a cap T) (ok : TabOk T) (hl : T.l.length ≤ 1000000000) (hB : B ≤ w.heap.size) (id now : Int) :
    Calls Tryd.prog 19 #[.pointer (some ⟨r, 0, none⟩), .int .i64 id, .int .i64 now] w fun e w' => e = .returned (.tuple #[sessV (tTouch T id now).2.1, .int .i64 (tTouch T id now).2.2]) ∧ (∃ a' cap', RTab w' B r a' cap' (tTouch T id now).1) ∧ Out (fun k => k = r) w w' := by
  have hr := h.lt
  have hN1 : Nums1 Sess.id T.l := ok.up.imp (fun h => by omega)
  have hb1 : Below w.heap.size w (w.alloc (.cells #[.int .i64 0, .string ⟨#[]⟩, .string ⟨#[]⟩, .int .i64 0, .int .i64 0] 42)) := (Below.refl _ w).alloc (Nat.le_refl _) _
  have h1 := h.below hb1
  have Hg := rGet_any h1 ok hl id now
  by_cases e0 : (tGet T id now).2 = 0
  · obtain ⟨g1, g2, g3, g4⟩ := tGet_ok e0
    have e2 : tTouch T id now = (⟨T.next, now, T.l.map fun x => if x.id = id then usedAt (tGet T id now).1 now else x⟩, usedAt (tGet T id now).1 now, 0) := by unfold tTouch; rw [if_neg (by simp [e0])]
    rw [e2]
    rw [e0] at Hg
    generalize (tGet T id now).1 = s at *
    subst g2
    have Hf := hid (fun W (hW : RTab W B r a cap T) => rFind_ok hW hl hN1 s g1 (ok.ids s g1))
    have H1 := hid h1
    have HN1 := hid hN1
    clear e0 e2 h h1 ok g1 g3 g4 hN1
    have hwr : w.heap.size ≠ r := by omega
    go_enter Tryd.func19, Tryd.ntmps19
    go_wp2_with (first
      | (go_at_call 21; refine Hg.mono ?_; rintro e w2 ⟨rfl, hb2⟩; unfold sessV; obtain ⟨hc, hf⟩ := bcell hb2; have hz : w.heap.size < w2.heap.size := (by have := hb2.size; simp at this; omega); have hR2 := hid ((H1.out.below hb2).below ((Below.refl _ w2).alloc (Nat.le_refl _) (.cells #[.int .i64 s.id, .string s.ten, .string s.usr, .int .i64 s.since, .int .i64 now] 42))); have c2 := hR2.out.c2)
      | (go_at_call 45; refine (Hf.out _ hR2.out).mono ?_; rintro e w3 ⟨i, rfl, hi, rfl⟩; have hil := (List.getElem?_eq_some_iff.1 hi).1)
      | (at_builtin; refine app_all _ rfl _ _ rfl (w2.heap.size + 1) rfl B a cap T.l hR2.out.row rfl (by omega) (by simp) ?_; intro v4 w4 hrow4 hg4; obtain ⟨g, c4, rfl, hgl, hgz⟩ := own_block hrow4 (by omega); have hb4 := below_of_grown hg4; have hR4 := hid (hR2.out.below hb4); have k1 := hR4.out.c1; have k2 := hR4.out.c2; have kz := hR4.out.z; have hgb : g < w4.heap.size := own_lt hrow4; obtain ⟨_, b', o', eb, d0, d1, d2, d3, d4⟩ := (sess_in hrow4).at hi; cases eb; simp only [Nat.zero_add] at d0 d1 d2 d3 d4; have x0 : w4.cell? ⟨w2.heap.size, 0, none⟩ = some (.int .i64 s.id) := ((hb4.cell (p := ⟨w2.heap.size, 0, none⟩) (by simp)).trans (World.cell?_alloc_at _ _ _ _ rfl)).trans rfl; have x1 : w4.cell? ⟨w2.heap.size, 1, none⟩ = some (.string s.ten) := ((hb4.cell (p := ⟨w2.heap.size, 1, none⟩) (by simp)).trans (World.cell?_alloc_at _ _ _ _ rfl)).trans rfl; have x2 : w4.cell? ⟨w2.heap.size, 2, none⟩ = some (.string s.usr) := ((hb4.cell (p := ⟨w2.heap.size, 2, none⟩) (by simp)).trans (World.cell?_alloc_at _ _ _ _ rfl)).trans rfl; have x3 : w4.cell? ⟨w2.heap.size, 3, none⟩ = some (.int .i64 s.since) := ((hb4.cell (p := ⟨w2.heap.size, 3, none⟩) (by simp)).trans (World.cell?_alloc_at _ _ _ _ rfl)).trans rfl; have x4 : w4.cell? ⟨w2.heap.size, 4, none⟩ = some (.int .i64 now) := ((hb4.cell (p := ⟨w2.heap.size, 4, none⟩) (by simp)).trans (World.cell?_alloc_at _ _ _ _ rfl)).trans rfl; have r0 : w4.cell? ⟨w.heap.size, 0, none⟩ = some (.int .i64 0) := (((hb4.cell (p := ⟨w.heap.size, 0, none⟩) (by simp; omega)).trans (World.cell?_alloc_past _ _ _ hz)).trans (hc _ _ (by simp))).trans ((World.cell?_alloc_at _ _ _ _ rfl).trans rfl); have r1 : w4.cell? ⟨w.heap.size, 1, none⟩ = some (.string ⟨#[]⟩) := (((hb4.cell (p := ⟨w.heap.size, 1, none⟩) (by simp; omega)).trans (World.cell?_alloc_past _ _ _ hz)).trans (hc _ _ (by simp))).trans ((World.cell?_alloc_at _ _ _ _ rfl).trans rfl); have r2 : w4.cell? ⟨w.heap.size, 2, none⟩ = some (.string ⟨#[]⟩) := (((hb4.cell (p := ⟨w.heap.size, 2, none⟩) (by simp; omega)).trans (World.cell?_alloc_past _ _ _ hz)).trans (hc _ _ (by simp))).trans ((World.cell?_alloc_at _ _ _ _ rfl).trans rfl); have r3 : w4.cell? ⟨w.heap.size, 3, none⟩ = some (.int .i64 0) := (((hb4.cell (p := ⟨w.heap.size, 3, none⟩) (by simp; omega)).trans (World.cell?_alloc_past _ _ _ hz)).trans (hc _ _ (by simp))).trans ((World.cell?_alloc_at _ _ _ _ rfl).trans rfl); have r4 : w4.cell? ⟨w.heap.size, 4, none⟩ = some (.int .i64 0) := (((hb4.cell (p := ⟨w.heap.size, 4, none⟩) (by simp; omega)).trans (World.cell?_alloc_past _ _ _ hz)).trans (hc _ _ (by simp))).trans ((World.cell?_alloc_at _ _ _ _ rfl).trans rfl); have rz : ∀ o, w4.frozen? ⟨w.heap.size, o, none⟩ = false := fun o => (((hb4.frozen (p := ⟨w.heap.size, o, none⟩) (by simp; omega)).trans (World.frozen?_alloc_past _ _ _ hz)).trans (hf _ _ (by simp))).trans (World.frozen?_alloc_at _ _ _ _ rfl); have n1 : r ≠ g := (by omega); have n2 : g ≠ r := (by omega); have n3 : w2.heap.size ≠ g := (by omega); have n4 : g ≠ w2.heap.size := (by omega); have n5 : w.heap.size ≠ g := (by omega); have n6 : g ≠ w.heap.size := (by omega); have n7 : w2.heap.size ≠ r := (by omega); have n8 : r ≠ w2.heap.size := (by omega); have n9 : r ≠ w.heap.size := (by omega); clear hc hf)
      | go_in)
    obtain ⟨W6, hW⟩ : ∃ W6, W6 = (((((((w4.setCell ⟨g, i * 5, none⟩ (.int .i64 s.id)).setCell ⟨g, i * 5 + 1, none⟩ (.string s.ten)).setCell ⟨g, i * 5 + 2, none⟩ (.string s.usr)).setCell ⟨g, i * 5 + 3, none⟩ (.int .i64 s.since)).setCell ⟨g, i * 5 + 4, none⟩ (.int .i64 now)).setCell ⟨r, 2, none⟩ (.slice (some ⟨g, 0, none⟩) T.l.length c4)).setCell ⟨r, 1, none⟩ (.int .i64 now)) := ⟨_, rfl⟩
    rw [← hW]
    obtain ⟨ob6, own6, oth6, out6⟩ := rt_world (s' := usedAt s now) rfl rfl rfl rfl rfl hrow4 hil n1 hR4.out.obj hW
    have hb14 : Below w.heap.size w w4 := (hb1.trans (hb2.mono (by simp))).alloc (by omega) (.cells #[.int .i64 s.id, .string s.ten, .string s.usr, .int .i64 s.since, .int .i64 now] 42) |>.trans (hb4.mono (by simp; omega))
    have ho6 : Out (fun k => k = r) w W6 := out6 _ _ (Out.of_below hb14) rfl (by omega)
    clear hW out6
    have s0 : W6.cell? ⟨w.heap.size, 0, none⟩ = some (.int .i64 0) := (World.cell?_of_block (a := ⟨w.heap.size, 0, none⟩) (oth6 _ n5 hwr)).trans r0
    have s1 : W6.cell? ⟨w.heap.size, 1, none⟩ = some (.string ⟨#[]⟩) := (World.cell?_of_block (a := ⟨w.heap.size, 1, none⟩) (oth6 _ n5 hwr)).trans r1
    have s2 : W6.cell? ⟨w.heap.size, 2, none⟩ = some (.string ⟨#[]⟩) := (World.cell?_of_block (a := ⟨w.heap.size, 2, none⟩) (oth6 _ n5 hwr)).trans r2
    have s3 : W6.cell? ⟨w.heap.size, 3, none⟩ = some (.int .i64 0) := (World.cell?_of_block (a := ⟨w.heap.size, 3, none⟩) (oth6 _ n5 hwr)).trans r3
    have s4 : W6.cell? ⟨w.heap.size, 4, none⟩ = some (.int .i64 0) := (World.cell?_of_block (a := ⟨w.heap.size, 4, none⟩) (oth6 _ n5 hwr)).trans r4
    have hRT : RTab W6 B r (some ⟨g, 0, none⟩) c4 ⟨T.next, now, T.l.map fun x => if x.id = s.id then usedAt s now else x⟩ := by
      rw [map_set HN1.out hi]
      refine ⟨?_, ?_, hR4.out.br, ?_⟩
      · show W6.heap[r]? = some (Obj.cells #[.int .i64 T.next, .int .i64 now, .slice (some ⟨g, 0, none⟩) (T.l.set i (usedAt s now)).length c4] _ _)
        rw [List.length_set, ob6]
      · show W6.ownsRow B _ _ (.slice (some ⟨g, 0, none⟩) (T.l.set i (usedAt s now)).length c4) (T.l.set i (usedAt s now)).length (sCells (T.l.set i (usedAt s now)))
        rw [List.length_set]
        exact own6.mono (by omega)
      · exact fun e => n2 (by injection e)
    refine bodyPost_ret (v := .tuple #[sessV (usedAt s now), .int .i64 0]) (by simp [results, Tryd.results19, go_sem, sessV, usedAt, s0, s1, s2, s3, s4]) rfl ⟨rfl, ⟨_, _, hRT.keep (fun k hk => ?_)⟩, out5 ho6 (Nat.le_refl _) _ _ _ _ _⟩
    have hk1 : k ≠ w.heap.size := by
      rcases hk with rfl | ⟨ad, e, rfl⟩
      · omega
      · cases e
        show g ≠ w.heap.size
        omega
    rw [heap_setCell_other _ _ _ _ hk1, heap_setCell_other _ _ _ _ hk1, heap_setCell_other _ _ _ _ hk1, heap_setCell_other _ _ _ _ hk1, heap_setCell_other _ _ _ _ hk1]
  · have e2 : tTouch T id now = (T, sess0, (tGet T id now).2) := by unfold tTouch; rw [if_pos (by simpa using e0)]
    rw [e2]
    have b0 : ((tGet T id now).2 == 0) = false := by simpa using e0
    generalize (tGet T id now).2 = x at *
    generalize (tGet T id now).1 = s at *
    have HH := hid h
    clear e2 h ok h1 hN1
    go_enter Tryd.func19, Tryd.ntmps19
    go_wp2_with (first
      | (go_at_call 21; refine Hg.mono ?_; rintro e w2 ⟨rfl, hb2⟩; unfold sessV; obtain ⟨hc, hf⟩ := bcell hb2; have hz : w.heap.size < w2.heap.size := (by have := hb2.size; simp at this; omega)))
    refine bodyPost_ret (v := .tuple #[sessV sess0, .int .i64 x]) (by simp [results, Tryd.results19, go_sem, sessV, sess0, hc, hz]) rfl ⟨rfl, ?_⟩
    have hb12 : Below w.heap.size w w2 := hb1.trans (hb2.mono (by simp))
    have hbF := below5a hb12 (g := w.heap.size) (Nat.le_refl _) (.int .i64 0) (.string ⟨#[]⟩) (.string ⟨#[]⟩) (.int .i64 0) (.int .i64 0) (by omega) (.cells #[.int .i64 s.id, .string s.ten, .string s.usr, .int .i64 s.since, .int .i64 s.used] 42)
    exact ⟨⟨_, _, HH.out.below hbF⟩, Out.of_below hbF⟩
end Go.Proofs.YtcchlcbonfdhpaaDoor
