/- Begin of a table of sessions, by a contract. -/
import Derived.Test.YtcchlcbonfdhpaaDoorSBegin
namespace Go.Proofs.YtcchlcbonfdhpaaDoor
open Go.RowKit Go.Maps Go.Sort Go.Shelf
set_option linter.unusedVariables false
set_option maxRecDepth 20000

theorem begun_mem {T : Tab} (ok : TabOk T) (t u : ByteArray) (now : Int) : ∀ x, x ∈ T.l ++ [begun T t u now] ↔ x = begun T t u now ∨ (x ∈ T.l ∧ x.id ≠ (begun T t u now).id) := fun x => by
  rw [List.mem_append, List.mem_singleton]
  constructor
  · rintro (h | h)
    · exact .inr ⟨h, by have := ok.ids x h; show x.id ≠ T.next; omega⟩
    · exact .inl h
  · rintro (h | h)
    · exact .inr h
    · exact .inl h.1

theorem set5_cell (w : World) (g b o : Nat) (v0 v1 v2 v3 v4 : Value) (h : b ≠ g) : (((((w.setCell ⟨g, 0, none⟩ v0).setCell ⟨g, 1, none⟩ v1).setCell ⟨g, 2, none⟩ v2).setCell ⟨g, 3, none⟩ v3).setCell ⟨g, 4, none⟩ v4).cell? ⟨b, o, none⟩ = w.cell? ⟨b, o, none⟩ :=
  World.cell?_of_block (a := ⟨b, o, none⟩) (by rw [heap_setCell_other _ _ _ _ h, heap_setCell_other _ _ _ _ h, heap_setCell_other _ _ _ _ h, heap_setCell_other _ _ _ _ h, heap_setCell_other _ _ _ _ h])

theorem set5_frozen (w : World) (g b o : Nat) (v0 v1 v2 v3 v4 : Value) (h : b ≠ g) : (((((w.setCell ⟨g, 0, none⟩ v0).setCell ⟨g, 1, none⟩ v1).setCell ⟨g, 2, none⟩ v2).setCell ⟨g, 3, none⟩ v3).setCell ⟨g, 4, none⟩ v4).frozen? ⟨b, o, none⟩ = w.frozen? ⟨b, o, none⟩ :=
  World.frozen?_of_block (a := ⟨b, o, none⟩) (by rw [heap_setCell_other _ _ _ _ h, heap_setCell_other _ _ _ _ h, heap_setCell_other _ _ _ _ h, heap_setCell_other _ _ _ _ h, heap_setCell_other _ _ _ _ h])
theorem set5_at (w : World) (g : Nat) (v0 v1 v2 v3 v4 : Value) {u0 u1 u2 u3 u4 : Value} (b0 : w.cell? ⟨g, 0, none⟩ = some u0) (b1 : w.cell? ⟨g, 1, none⟩ = some u1) (b2 : w.cell? ⟨g, 2, none⟩ = some u2) (b3 : w.cell? ⟨g, 3, none⟩ = some u3) (b4 : w.cell? ⟨g, 4, none⟩ = some u4) :
    (((((w.setCell ⟨g, 0, none⟩ v0).setCell ⟨g, 1, none⟩ v1).setCell ⟨g, 2, none⟩ v2).setCell ⟨g, 3, none⟩ v3).setCell ⟨g, 4, none⟩ v4).cell? ⟨g, 0, none⟩ = some v0 ∧ (((((w.setCell ⟨g, 0, none⟩ v0).setCell ⟨g, 1, none⟩ v1).setCell ⟨g, 2, none⟩ v2).setCell ⟨g, 3, none⟩ v3).setCell ⟨g, 4, none⟩ v4).cell? ⟨g, 1, none⟩ = some v1 ∧ (((((w.setCell ⟨g, 0, none⟩ v0).setCell ⟨g, 1, none⟩ v1).setCell ⟨g, 2, none⟩ v2).setCell ⟨g, 3, none⟩ v3).setCell ⟨g, 4, none⟩ v4).cell? ⟨g, 2, none⟩ = some v2 ∧ (((((w.setCell ⟨g, 0, none⟩ v0).setCell ⟨g, 1, none⟩ v1).setCell ⟨g, 2, none⟩ v2).setCell ⟨g, 3, none⟩ v3).setCell ⟨g, 4, none⟩ v4).cell? ⟨g, 3, none⟩ = some v3 ∧ (((((w.setCell ⟨g, 0, none⟩ v0).setCell ⟨g, 1, none⟩ v1).setCell ⟨g, 2, none⟩ v2).setCell ⟨g, 3, none⟩ v3).setCell ⟨g, 4, none⟩ v4).cell? ⟨g, 4, none⟩ = some v4 := by
  simp [go_sem, b0, b1, b2, b3, b4]

theorem give_tab {w : World} {B p mb n : Nat} {T : Tab} (h : TabAt w B p mb n T) (h0 : 0 ≤ T.next) (h1 : T.next ≤ 1099511627777) :
    Calls Tryd.prog 39 #[.pointer (some ⟨p, 1, none⟩)] w fun e w' => e = .returned (.int .i64 T.next) ∧ TabAt w' B p mb n ⟨T.next + 1, T.noted, T.l⟩ ∧ Out (fun k => k = p) w w' := by
  refine (give_any h.num h0 h1).mono ?_
  rintro e w' ⟨rfl, rfl⟩
  exact ⟨rfl, h.renext _⟩

set_option maxHeartbeats 1600000 in
theorem begin_any {w : World} {B p mb n : Nat} {T : Tab} (h : TabAt w B p mb n T) (ok : TabOk T) (hn : n ≤ 1000000) (hln : T.l.length ≤ 1000000000) (t u : ByteArray) (now : Int) (ht : t.size ≤ maxLen) (hu : u.size ≤ maxLen) :
    Calls Tryd.prog 14 #[.pointer (some ⟨p, 0, none⟩), .agg #[.string t, .string u], .int .i64 now] w fun e w' => e = .returned (.tuple #[sessV (tBegin T t u now).2.1, .int .i64 (tBegin T t u now).2.2]) ∧ TabAt w' B p mb (n + 1) (tBegin T t u now).1 ∧ Out (fun k => k = p ∨ k = mb) w w' := by
  have hp := h.lts.1
  have hm := h.lts.2
  have hb1 : Below w.heap.size w ((w.alloc (.cells #[.string t, .string u] 30)).alloc (.cells #[.int .i64 0, .string ⟨#[]⟩, .string ⟨#[]⟩, .int .i64 0, .int .i64 0] 42)) := ((Below.refl _ w).alloc (Nat.le_refl _) _).alloc (by simp) _
  have h1 := h.below hb1
  have He := beginError_any h1 ok hln t u now ht hu
  by_cases e0 : tBeginErr T t u now = 0
  · have e2 : tBegin T t u now = (⟨T.next + 1, now, T.l ++ [begun T t u now]⟩, begun T t u now, 0) := by unfold tBegin; rw [if_neg (by simp [e0])]
    obtain ⟨g1, g2, g3, g4⟩ := tBeginErr_ok e0
    have hnx := ok.nx
    rw [e2]
    rw [e0] at He
    have Hgv := hid (fun W (hW : TabAt W B p mb n T) => give_tab hW (by omega) (by omega))
    have Hk := hid (fun W (hW : TabAt W B p mb n ⟨T.next + 1, T.noted, T.l⟩) => keep_any hW (begun T t u now) now _ (begun_mem ok t u now) (by omega) (by show 1 ≤ T.next ∧ T.next ≤ 1099511627776; omega))
    have H1 := hid h1
    clear e0 e2 h h1 ok g1 g2 g4 ht hu hln
    have hwp : w.heap.size + 1 ≠ p := by omega
    have hwm : w.heap.size + 1 ≠ mb := by omega
    go_enter Tryd.func14, Tryd.ntmps14
    go_wp2_with (first
      | (go_at_call 38; refine He.mono ?_; rintro e w2 ⟨rfl, hb2⟩; obtain ⟨hc, hf⟩ := bcell hb2; have hz : w.heap.size + 1 < w2.heap.size := by have := hb2.size; simp at this; omega))
    have q0 : w2.cell? ⟨w.heap.size, 0, none⟩ = some (.string t) := by
      rw [hc _ _ (by simp; omega), World.cell?_alloc_past _ _ _ (by simp), World.cell?_alloc_at _ _ _ _ rfl]; rfl
    have q1 : w2.cell? ⟨w.heap.size, 1, none⟩ = some (.string u) := by
      rw [hc _ _ (by simp; omega), World.cell?_alloc_past _ _ _ (by simp), World.cell?_alloc_at _ _ _ _ rfl]; rfl
    have hpw : w.heap.size ≠ p := by omega
    have hp2 : p < w2.heap.size := by omega
    have hw2 : w.heap.size < w2.heap.size := by omega
    have hwlt : w.heap.size < (w2.drewN 1).heap.size := hw2
    have hne2 : ¬ w2.heap.size = p := by omega
    have hww : w.heap.size ≠ w2.heap.size := by omega
    go_region_held3 (fun w9 => w9.cell? ⟨w.heap.size, 0, none⟩ = some (.string t) ∧ w9.cell? ⟨w.heap.size, 1, none⟩ = some (.string u)) (first
      | (constructor <;> (simp only [World.cell?_drew, q0, q1]; done))
      | (constructor <;> (simp only [a0, a1]; done))
      | (constructor <;> (rw [World.cell?_alloc_past _ _ _ hw3]; simp only [a0, a1]))
      | (constructor <;> (simp only [World.cell?_drew]; rw [World.cell?_alloc_past _ _ _ hw2]; simp only [q0, q1]))
      | (constructor <;> (rw [set5_cell _ _ _ _ _ _ _ _ _ hww]; simp only [a0, a1]))) (first
      | (go_at_call 39; refine (Hgv.out _ ((H1.out.below hb2).below (below_drewN _ _ 1))).mono ?_; rintro e w3 ⟨rfl, hT3, ho3⟩; have a0 := ((ho3.cells w.heap.size hw2 hpw).1 0).trans q0; have a1 := ((ho3.cells w.heap.size hw2 hpw).1 1).trans q1; have hw3 : w.heap.size < w3.heap.size := Nat.lt_of_lt_of_le hw2 ho3.size)
      | (go_at_call 39; refine (Hgv.out _ (((H1.out.below hb2).below (below_drewN _ _ 1)).below ((Below.refl _ _).alloc (Nat.le_refl _) (.cells #[.int .i64 0, .string ⟨#[]⟩, .string ⟨#[]⟩, .int .i64 0, .int .i64 0] 42)))).mono ?_; rintro e w3 ⟨rfl, hT3, ho3⟩; have a0 := ((ho3.cells w.heap.size (by simp; omega) hpw).1 0).trans ((World.cell?_alloc_past _ _ _ hwlt).trans q0); have a1 := ((ho3.cells w.heap.size (by simp; omega) hpw).1 1).trans ((World.cell?_alloc_past _ _ _ hwlt).trans q1); have hbk := ho3.cells w2.heap.size (by simp) hne2; have bj : ∀ j v, (#[.int .i64 0, .string ⟨#[]⟩, .string ⟨#[]⟩, .int .i64 0, .int .i64 0] : Array Value)[j]? = some v → w3.cell? ⟨w2.heap.size, j, none⟩ = some v := fun j v hj => ((hbk.1 j).trans (World.cell?_alloc_at _ _ _ _ rfl)).trans hj; have b0 : w3.cell? ⟨w2.heap.size, 0, none⟩ = some (.int .i64 0) := bj 0 _ rfl; have b1 : w3.cell? ⟨w2.heap.size, 1, none⟩ = some (.string ⟨#[]⟩) := bj 1 _ rfl; have b2 : w3.cell? ⟨w2.heap.size, 2, none⟩ = some (.string ⟨#[]⟩) := bj 2 _ rfl; have b3 : w3.cell? ⟨w2.heap.size, 3, none⟩ = some (.int .i64 0) := bj 3 _ rfl; have b4 : w3.cell? ⟨w2.heap.size, 4, none⟩ = some (.int .i64 0) := bj 4 _ rfl; have bf : ∀ o, w3.frozen? ⟨w2.heap.size, o, none⟩ = false := fun o => (hbk.2 o).trans (World.frozen?_alloc_at _ _ _ _ rfl); clear hbk bj))
    · have hT4 := hT3.below ((Below.refl _ w3).alloc (Nat.le_refl _) (.cells #[.int .i64 T.next, .string t, .string u, .int .i64 now, .int .i64 now] 42))
      have hw3' : w2.heap.size ≤ w3.heap.size := ho3.size
      have ho4 : Out (fun k => k = p ∨ k = mb) w (w3.alloc (.cells #[.int .i64 T.next, .string t, .string u, .int .i64 now, .int .i64 now] 42)) := ((Out.of_below (hb1.trans (hb2.mono (by simp; omega)))).trans (ho3.imp (Q := fun k => k = p ∨ k = mb) (fun _ _ e => .inl e)).undrew (fun _ _ e => e)).trans (Out.of_below (P := fun k => k = p ∨ k = mb) ((Below.refl _ w3).alloc (Nat.le_refl _) _)) (fun _ _ e => e)
      have xj : ∀ j v, (#[.int .i64 T.next, .string t, .string u, .int .i64 now, .int .i64 now] : Array Value)[j]? = some v → (w3.alloc (.cells #[.int .i64 T.next, .string t, .string u, .int .i64 now, .int .i64 now] 42)).cell? ⟨w3.heap.size, j, none⟩ = some v := fun j v hj => (World.cell?_alloc_at _ _ _ _ rfl).trans hj
      have rj : ∀ j v, (#[.int .i64 0, .string ⟨#[]⟩, .string ⟨#[]⟩, .int .i64 0, .int .i64 0] : Array Value)[j]? = some v → (w3.alloc (.cells #[.int .i64 T.next, .string t, .string u, .int .i64 now, .int .i64 now] 42)).cell? ⟨w.heap.size + 1, j, none⟩ = some v := fun j v hj => by
        rw [World.cell?_alloc_past _ _ _ (by omega), (ho3.cells (w.heap.size + 1) hz hwp).1, World.cell?_drewN, hc _ _ (by simp), World.cell?_alloc_at _ _ _ _ (by simp)]
        exact hj
      have rf : ∀ o, (w3.alloc (.cells #[.int .i64 T.next, .string t, .string u, .int .i64 now, .int .i64 now] 42)).frozen? ⟨w.heap.size + 1, o, none⟩ = false := fun o => by
        rw [World.frozen?_alloc_past _ _ _ (by omega), (ho3.cells (w.heap.size + 1) hz hwp).2]
        exact (hf _ _ (by simp)).trans (World.frozen?_alloc_at _ _ _ _ (by simp))
      have hgl : w3.heap.size < (w3.alloc (.cells #[.int .i64 T.next, .string t, .string u, .int .i64 now, .int .i64 now] 42)).heap.size := by simp
      have hwl : w.heap.size + 1 < (w3.alloc (.cells #[.int .i64 T.next, .string t, .string u, .int .i64 now, .int .i64 now] 42)).heap.size := by simp; omega
      have hg : w2.heap.size ≤ w3.heap.size := hw3'
      have x0 : (w3.alloc (.cells #[.int .i64 T.next, .string t, .string u, .int .i64 now, .int .i64 now] 42)).cell? ⟨w3.heap.size, 0, none⟩ = some (.int .i64 T.next) := xj 0 _ rfl
      have x1 : (w3.alloc (.cells #[.int .i64 T.next, .string t, .string u, .int .i64 now, .int .i64 now] 42)).cell? ⟨w3.heap.size, 1, none⟩ = some (.string t) := xj 1 _ rfl
      have x2 : (w3.alloc (.cells #[.int .i64 T.next, .string t, .string u, .int .i64 now, .int .i64 now] 42)).cell? ⟨w3.heap.size, 2, none⟩ = some (.string u) := xj 2 _ rfl
      have x3 : (w3.alloc (.cells #[.int .i64 T.next, .string t, .string u, .int .i64 now, .int .i64 now] 42)).cell? ⟨w3.heap.size, 3, none⟩ = some (.int .i64 now) := xj 3 _ rfl
      have x4 : (w3.alloc (.cells #[.int .i64 T.next, .string t, .string u, .int .i64 now, .int .i64 now] 42)).cell? ⟨w3.heap.size, 4, none⟩ = some (.int .i64 now) := xj 4 _ rfl
      clear xj
      generalize w3.alloc (.cells #[.int .i64 T.next, .string t, .string u, .int .i64 now, .int .i64 now] 42) = W4 at *
      generalize w3.heap.size = g at *
      have HT4 := hid hT4
      have Ho4 := hid ho4
      have r0 : W4.cell? ⟨w.heap.size + 1, 0, none⟩ = some (.int .i64 0) := rj 0 _ rfl
      have r1 : W4.cell? ⟨w.heap.size + 1, 1, none⟩ = some (.string ⟨#[]⟩) := rj 1 _ rfl
      have r2 : W4.cell? ⟨w.heap.size + 1, 2, none⟩ = some (.string ⟨#[]⟩) := rj 2 _ rfl
      have r3 : W4.cell? ⟨w.heap.size + 1, 3, none⟩ = some (.int .i64 0) := rj 3 _ rfl
      have r4 : W4.cell? ⟨w.heap.size + 1, 4, none⟩ = some (.int .i64 0) := rj 4 _ rfl
      clear rj hT3 ho3 hT4 ho4 q0 q1 a0 a1
      go_wp2_with (first
        | (go_at_call 40; refine (Hk.out _ HT4.out).mono ?_; rintro e w5 ⟨rfl, hT5, ho5⟩; obtain ⟨hA, hAf⟩ := ho5.cells g hgl (by omega); obtain ⟨hB, hBf⟩ := ho5.cells (w.heap.size + 1) hwl (by omega)))
      have s0 := (hB 0).trans r0
      have s1 := (hB 1).trans r1
      have s2 := (hB 2).trans r2
      have s3 := (hB 3).trans r3
      have s4 := (hB 4).trans r4
      refine bodyPost_ret (v := .tuple #[sessV (begun T t u now), .int .i64 0]) (by simp [results, Tryd.results14, go_sem, sessV, begun, s0, s1, s2, s3, s4]) rfl ⟨rfl, hT5.set5 hwp hwm _ _ _ _ _, ?_⟩
      exact out5 (Ho4.out.trans ho5 (fun _ _ e => e)) (by omega) _ _ _ _ _
    · have hT4 := hT3.set5 (g := w2.heap.size) hne2 (by omega) (.int .i64 T.next) (.string t) (.string u) (.int .i64 now) (.int .i64 now)
      have hsz3 : w2.heap.size + 1 ≤ w3.heap.size := by have := ho3.size; simp at this; exact this
      have hb2' : Below w.heap.size w w2 := hb1.trans (hb2.mono (by simp; omega))
      have ho4 : Out (fun k => k = p ∨ k = mb) w (((((w3.setCell ⟨w2.heap.size, 0, none⟩ (.int .i64 T.next)).setCell ⟨w2.heap.size, 1, none⟩ (.string t)).setCell ⟨w2.heap.size, 2, none⟩ (.string u)).setCell ⟨w2.heap.size, 3, none⟩ (.int .i64 now)).setCell ⟨w2.heap.size, 4, none⟩ (.int .i64 now)) := out5 ((Out.of_below ((hb2'.trans (below_drewN _ _ 1)).alloc (by show w.heap.size ≤ w2.heap.size; omega) _)).trans (ho3.imp (Q := fun k => k = p ∨ k = mb) (fun _ _ e => .inl e)) (fun _ _ e => e)) (by omega) _ _ _ _ _
      have rj : ∀ j v, (#[.int .i64 0, .string ⟨#[]⟩, .string ⟨#[]⟩, .int .i64 0, .int .i64 0] : Array Value)[j]? = some v → (((((w3.setCell ⟨w2.heap.size, 0, none⟩ (.int .i64 T.next)).setCell ⟨w2.heap.size, 1, none⟩ (.string t)).setCell ⟨w2.heap.size, 2, none⟩ (.string u)).setCell ⟨w2.heap.size, 3, none⟩ (.int .i64 now)).setCell ⟨w2.heap.size, 4, none⟩ (.int .i64 now)).cell? ⟨w.heap.size + 1, j, none⟩ = some v := fun j v hj => by
        rw [set5_cell _ _ _ _ _ _ _ _ _ (by omega), (ho3.cells (w.heap.size + 1) (by simp; omega) hwp).1, World.cell?_alloc_past _ _ _ (by show _ < w2.heap.size; omega), World.cell?_drewN, hc _ _ (by simp), World.cell?_alloc_at _ _ _ _ (by simp)]
        exact hj
      have rf : ∀ o, (((((w3.setCell ⟨w2.heap.size, 0, none⟩ (.int .i64 T.next)).setCell ⟨w2.heap.size, 1, none⟩ (.string t)).setCell ⟨w2.heap.size, 2, none⟩ (.string u)).setCell ⟨w2.heap.size, 3, none⟩ (.int .i64 now)).setCell ⟨w2.heap.size, 4, none⟩ (.int .i64 now)).frozen? ⟨w.heap.size + 1, o, none⟩ = false := fun o => by
        rw [set5_frozen _ _ _ _ _ _ _ _ _ (by omega), (ho3.cells (w.heap.size + 1) (by simp; omega) hwp).2, World.frozen?_alloc_past _ _ _ (by show _ < w2.heap.size; omega)]
        exact (hf _ _ (by simp)).trans (World.frozen?_alloc_at _ _ _ _ (by simp))
      have hgl : w2.heap.size < (((((w3.setCell ⟨w2.heap.size, 0, none⟩ (.int .i64 T.next)).setCell ⟨w2.heap.size, 1, none⟩ (.string t)).setCell ⟨w2.heap.size, 2, none⟩ (.string u)).setCell ⟨w2.heap.size, 3, none⟩ (.int .i64 now)).setCell ⟨w2.heap.size, 4, none⟩ (.int .i64 now)).heap.size := by simp [World.setCell]; omega
      have hwl : w.heap.size + 1 < (((((w3.setCell ⟨w2.heap.size, 0, none⟩ (.int .i64 T.next)).setCell ⟨w2.heap.size, 1, none⟩ (.string t)).setCell ⟨w2.heap.size, 2, none⟩ (.string u)).setCell ⟨w2.heap.size, 3, none⟩ (.int .i64 now)).setCell ⟨w2.heap.size, 4, none⟩ (.int .i64 now)).heap.size := by simp [World.setCell]; omega
      have xs := set5_at w3 w2.heap.size (.int .i64 T.next) (.string t) (.string u) (.int .i64 now) (.int .i64 now) b0 b1 b2 b3 b4
      have x0 : (((((w3.setCell ⟨w2.heap.size, 0, none⟩ (.int .i64 T.next)).setCell ⟨w2.heap.size, 1, none⟩ (.string t)).setCell ⟨w2.heap.size, 2, none⟩ (.string u)).setCell ⟨w2.heap.size, 3, none⟩ (.int .i64 now)).setCell ⟨w2.heap.size, 4, none⟩ (.int .i64 now)).cell? ⟨w2.heap.size, 0, none⟩ = some (.int .i64 T.next) := xs.1
      have x1 : (((((w3.setCell ⟨w2.heap.size, 0, none⟩ (.int .i64 T.next)).setCell ⟨w2.heap.size, 1, none⟩ (.string t)).setCell ⟨w2.heap.size, 2, none⟩ (.string u)).setCell ⟨w2.heap.size, 3, none⟩ (.int .i64 now)).setCell ⟨w2.heap.size, 4, none⟩ (.int .i64 now)).cell? ⟨w2.heap.size, 1, none⟩ = some (.string t) := xs.2.1
      have x2 : (((((w3.setCell ⟨w2.heap.size, 0, none⟩ (.int .i64 T.next)).setCell ⟨w2.heap.size, 1, none⟩ (.string t)).setCell ⟨w2.heap.size, 2, none⟩ (.string u)).setCell ⟨w2.heap.size, 3, none⟩ (.int .i64 now)).setCell ⟨w2.heap.size, 4, none⟩ (.int .i64 now)).cell? ⟨w2.heap.size, 2, none⟩ = some (.string u) := xs.2.2.1
      have x3 : (((((w3.setCell ⟨w2.heap.size, 0, none⟩ (.int .i64 T.next)).setCell ⟨w2.heap.size, 1, none⟩ (.string t)).setCell ⟨w2.heap.size, 2, none⟩ (.string u)).setCell ⟨w2.heap.size, 3, none⟩ (.int .i64 now)).setCell ⟨w2.heap.size, 4, none⟩ (.int .i64 now)).cell? ⟨w2.heap.size, 3, none⟩ = some (.int .i64 now) := xs.2.2.2.1
      have x4 : (((((w3.setCell ⟨w2.heap.size, 0, none⟩ (.int .i64 T.next)).setCell ⟨w2.heap.size, 1, none⟩ (.string t)).setCell ⟨w2.heap.size, 2, none⟩ (.string u)).setCell ⟨w2.heap.size, 3, none⟩ (.int .i64 now)).setCell ⟨w2.heap.size, 4, none⟩ (.int .i64 now)).cell? ⟨w2.heap.size, 4, none⟩ = some (.int .i64 now) := xs.2.2.2.2
      clear xs b0 b1 b2 b3 b4 bf
      generalize (((((w3.setCell ⟨w2.heap.size, 0, none⟩ (.int .i64 T.next)).setCell ⟨w2.heap.size, 1, none⟩ (.string t)).setCell ⟨w2.heap.size, 2, none⟩ (.string u)).setCell ⟨w2.heap.size, 3, none⟩ (.int .i64 now)).setCell ⟨w2.heap.size, 4, none⟩ (.int .i64 now)) = W4 at *
      generalize hgg : w2.heap.size = g at *
      have hg : w.heap.size + 1 < g := by omega
      clear hgg
      have HT4 := hid hT4
      have Ho4 := hid ho4
      have r0 : W4.cell? ⟨w.heap.size + 1, 0, none⟩ = some (.int .i64 0) := rj 0 _ rfl
      have r1 : W4.cell? ⟨w.heap.size + 1, 1, none⟩ = some (.string ⟨#[]⟩) := rj 1 _ rfl
      have r2 : W4.cell? ⟨w.heap.size + 1, 2, none⟩ = some (.string ⟨#[]⟩) := rj 2 _ rfl
      have r3 : W4.cell? ⟨w.heap.size + 1, 3, none⟩ = some (.int .i64 0) := rj 3 _ rfl
      have r4 : W4.cell? ⟨w.heap.size + 1, 4, none⟩ = some (.int .i64 0) := rj 4 _ rfl
      clear rj hT3 ho3 hT4 ho4 q0 q1 a0 a1
      go_wp2_with (first
        | (go_at_call 40; refine (Hk.out _ HT4.out).mono ?_; rintro e w5 ⟨rfl, hT5, ho5⟩; obtain ⟨hA, hAf⟩ := ho5.cells g hgl (by omega); obtain ⟨hB, hBf⟩ := ho5.cells (w.heap.size + 1) hwl (by omega)))
      have s0 := (hB 0).trans r0
      have s1 := (hB 1).trans r1
      have s2 := (hB 2).trans r2
      have s3 := (hB 3).trans r3
      have s4 := (hB 4).trans r4
      refine bodyPost_ret (v := .tuple #[sessV (begun T t u now), .int .i64 0]) (by simp [results, Tryd.results14, go_sem, sessV, begun, s0, s1, s2, s3, s4]) rfl ⟨rfl, hT5.set5 hwp hwm _ _ _ _ _, ?_⟩
      exact out5 (Ho4.out.trans ho5 (fun _ _ e => e)) (by omega) _ _ _ _ _
  · have e2 : tBegin T t u now = (T, sess0, tBeginErr T t u now) := by unfold tBegin; rw [if_pos (by simpa using e0)]
    rw [e2]
    have b0 : (tBeginErr T t u now == 0) = false := by simpa using e0
    generalize tBeginErr T t u now = x at *
    have HH := hid h
    clear e2 h ok h1 ht hu hln
    go_enter Tryd.func14, Tryd.ntmps14
    go_wp2_with (first
      | (go_at_call 38; refine He.mono ?_; rintro e w2 ⟨rfl, hb2⟩; obtain ⟨hc, hf⟩ := bcell hb2; have hz : w.heap.size + 1 < w2.heap.size := by have := hb2.size; simp at this; omega))
    have hb12 : Below w.heap.size w w2 := hb1.trans (hb2.mono (by simp; omega))
    refine bodyPost_ret (v := .tuple #[sessV sess0, .int .i64 x]) (by simp [results, Tryd.results14, go_sem, sessV, sess0, hc]) rfl ⟨rfl, ?_⟩
    have hbF := below5 hb12 (g := w.heap.size + 1) (by omega) (.int .i64 0) (.string ⟨#[]⟩) (.string ⟨#[]⟩) (.int .i64 0) (.int .i64 0)
    exact ⟨(HH.out.below hbF).more (by omega), Out.of_below hbF⟩
end Go.Proofs.YtcchlcbonfdhpaaDoor
