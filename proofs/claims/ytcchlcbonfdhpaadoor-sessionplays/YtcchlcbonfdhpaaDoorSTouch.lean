/- Touch of a table of sessions, by a contract. -/
import Derived.Test.YtcchlcbonfdhpaaDoorSKeep
namespace Go.Proofs.YtcchlcbonfdhpaaDoor
open Go.RowKit Go.Maps Go.Sort Go.Shelf
set_option linter.unusedVariables false
set_option maxRecDepth 20000

theorem Out.cells {P : Nat → Prop} {w w' : World} (h : Out P w w') (b : Nat) (hb : b < w.heap.size) (hp : ¬ P b) : (∀ o, w'.cell? ⟨b, o, none⟩ = w.cell? ⟨b, o, none⟩) ∧ (∀ o, w'.frozen? ⟨b, o, none⟩ = w.frozen? ⟨b, o, none⟩) :=
  ⟨fun o => World.cell?_of_block (a := ⟨b, o, none⟩) (h.block b hb hp), fun o => World.frozen?_of_block (a := ⟨b, o, none⟩) (h.block b hb hp)⟩

theorem Out.setNew {P : Nat → Prop} {w w' : World} (h : Out P w w') (a : Addr) (v : Value) (ha : w.heap.size ≤ a.block) : Out P w (w'.setCell a v) :=
  ⟨h.os, h.tape, h.output, by have : (w'.setCell a v).heap.size = w'.heap.size := by simp [World.setCell]
                              rw [this]; exact h.size, fun k hk hp => (heap_setCell_other _ _ _ _ (by omega)).trans (h.block k hk hp)⟩
theorem out5 {P : Nat → Prop} {w w' : World} (h : Out P w w') {g : Nat} (hg : w.heap.size ≤ g) (v0 v1 v2 v3 v4 : Value) : Out P w (((((w'.setCell ⟨g, 0, none⟩ v0).setCell ⟨g, 1, none⟩ v1).setCell ⟨g, 2, none⟩ v2).setCell ⟨g, 3, none⟩ v3).setCell ⟨g, 4, none⟩ v4) :=
  ((((h.setNew ⟨g, 0, none⟩ _ hg).setNew ⟨g, 1, none⟩ _ hg).setNew ⟨g, 2, none⟩ _ hg).setNew ⟨g, 3, none⟩ _ hg).setNew ⟨g, 4, none⟩ _ hg
theorem TabAt.set5 {w : World} {B p mb n : Nat} {T : Tab} (h : TabAt w B p mb n T) {g : Nat} (h1 : g ≠ p) (h2 : g ≠ mb) (v0 v1 v2 v3 v4 : Value) : TabAt (((((w.setCell ⟨g, 0, none⟩ v0).setCell ⟨g, 1, none⟩ v1).setCell ⟨g, 2, none⟩ v2).setCell ⟨g, 3, none⟩ v3).setCell ⟨g, 4, none⟩ v4) B p mb n T := by
  have o : ∀ k, k ≠ g → (((((w.setCell ⟨g, 0, none⟩ v0).setCell ⟨g, 1, none⟩ v1).setCell ⟨g, 2, none⟩ v2).setCell ⟨g, 3, none⟩ v3).setCell ⟨g, 4, none⟩ v4).heap[k]? = w.heap[k]? := fun k hk => by
    rw [heap_setCell_other _ _ _ _ hk, heap_setCell_other _ _ _ _ hk, heap_setCell_other _ _ _ _ hk, heap_setCell_other _ _ _ _ hk, heap_setCell_other _ _ _ _ hk]
  exact h.keep (o p (Ne.symm h1)) (o mb (Ne.symm h2))
theorem TabAt.more {w : World} {B p mb n n' : Nat} {T : Tab} (h : TabAt w B p mb n T) (hn : n ≤ n') : TabAt w B p mb n' T := ⟨h.obj, h.map.mono hn, h.bp, h.bm⟩

theorem tGet_ok {T : Tab} {id now : Int} (h : (tGet T id now).2 = 0) : (tGet T id now).1 ∈ T.l ∧ (tGet T id now).1.id = id ∧ timeErr now T.noted = 0 ∧ overB (tGet T id now).1 now = false := by
  by_cases e0 : timeErr now T.noted = 0
  · by_cases e1 : id < 1 ∨ T.next ≤ id
    · unfold tGet at h
      rw [if_neg (by simp [e0]), if_pos e1] at h
      cases h
    · cases hfd : T.l.find? (fun s => s.id == id) with
      | none =>
        unfold tGet at h
        rw [if_neg (by simp [e0]), if_neg e1, hfd] at h
        cases h
      | some s =>
        have hs : s ∈ T.l := List.mem_of_find?_eq_some hfd
        have hsid : s.id = id := by have := List.find?_some hfd; simpa using this
        cases hov : overB s now
        · have e2 : tGet T id now = (s, 0) := by unfold tGet; rw [if_neg (by simp [e0]), if_neg e1, hfd]; simp [hov]
          rw [e2]
          exact ⟨hs, hsid, e0, hov⟩
        · have e2 : tGet T id now = (sess0, 12) := by unfold tGet; rw [if_neg (by simp [e0]), if_neg e1, hfd]; simp [hov]
          rw [e2] at h
          cases h
  · unfold tGet at h
    rw [if_pos e0] at h
    exact absurd h e0
theorem timeErr_ok {now noted : Int} (h : timeErr now noted = 0) : 0 ≤ now ∧ now ≤ 1099511627776 ∧ noted ≤ now := by
  unfold timeErr at h
  split at h
  · omega
  · split at h <;> omega

/-- a session, used -/
def usedAt (s : Sess) (now : Int) : Sess := ⟨s.id, s.ten, s.usr, s.since, now⟩
/-- what Touch does and tells -/
def tTouch (T : Tab) (id now : Int) : Tab × Sess × Int :=
  if (tGet T id now).2 ≠ 0 then (T, sess0, (tGet T id now).2)
  else (⟨T.next, now, T.l.map fun x => if x.id = id then usedAt (tGet T id now).1 now else x⟩, usedAt (tGet T id now).1 now, 0)

theorem touched_mem {l : List Sess} {s s' : Sess} (h1 : Nums1 Sess.id l) (hs : s ∈ l) (he : s'.id = s.id) : ∀ t, t ∈ (l.map fun x => if x.id = s.id then s' else x) ↔ t = s' ∨ (t ∈ l ∧ t.id ≠ s'.id) := fun t => by
  rw [List.mem_map]
  constructor
  · rintro ⟨x, hx, e⟩
    by_cases c : x.id = s.id
    · rw [if_pos c] at e
      exact .inl e.symm
    · rw [if_neg c] at e
      subst e
      exact .inr ⟨hx, by rw [he]; exact c⟩
  · rintro (rfl | ⟨h2, h3⟩)
    · exact ⟨s, hs, by rw [if_pos rfl]⟩
    · exact ⟨t, h2, by rw [if_neg (by rw [← he]; exact h3)]⟩

theorem tTouch_ok {T : Tab} (ok : TabOk T) (id now : Int) : TabOk (tTouch T id now).1 := by
  unfold tTouch
  split
  · exact ok
  · rename_i h
    have h0 : (tGet T id now).2 = 0 := by simpa using h
    obtain ⟨g1, g2, g3, g4⟩ := tGet_ok h0
    have tt := timeErr_ok g3
    generalize (tGet T id now).1 = s at *
    have hid' : ∀ x : Sess, (if x.id = id then usedAt s now else x).id = x.id := fun x => by
      split
      · rename_i c
        show s.id = x.id
        rw [g2, c]
      · rfl
    refine ⟨?_, ?_, ok.nx, ⟨tt.1, tt.2.1⟩, ?_⟩
    · show (T.l.map _).Pairwise _
      rw [List.pairwise_map]
      exact ok.up.imp (fun {a b} hab => by rw [hid' a, hid' b]; exact hab)
    · intro x hx
      obtain ⟨y, hy, rfl⟩ := List.mem_map.1 hx
      have := ok.ids y hy
      rw [hid' y]
      exact this
    · intro x hx
      obtain ⟨y, hy, rfl⟩ := List.mem_map.1 hx
      have h2 := ok.tm s g1
      have h3 := ok.tm y hy
      show _ ∧ _ ∧ _ ≤ now
      split
      · show 0 ≤ s.since ∧ s.since ≤ now ∧ now ≤ now
        omega
      · omega

set_option maxHeartbeats 1600000 in
theorem touch_any {w : World} {B p mb n : Nat} {T : Tab} (h : TabAt w B p mb n T) (ok : TabOk T) (hn : n ≤ 1000000) (id now : Int) :
    Calls Tryd.prog 15 #[.pointer (some ⟨p, 0, none⟩), .int .i64 id, .int .i64 now] w fun e w' => e = .returned (.tuple #[sessV (tTouch T id now).2.1, .int .i64 (tTouch T id now).2.2]) ∧ TabAt w' B p mb (n + 1) (tTouch T id now).1 ∧ Out (fun k => k = p ∨ k = mb) w w' := by
  have hp := h.lts.1
  have hm := h.lts.2
  have hb1 : Below w.heap.size w (w.alloc (.cells #[.int .i64 0, .string ⟨#[]⟩, .string ⟨#[]⟩, .int .i64 0, .int .i64 0] 42)) := (Below.refl _ w).alloc (Nat.le_refl _) _
  have h1 := h.below hb1
  have Hg := get_any h1 ok id now
  by_cases e0 : (tGet T id now).2 = 0
  · obtain ⟨g1, g2, g3, g4⟩ := tGet_ok e0
    have e2 : tTouch T id now = (⟨T.next, now, T.l.map fun x => if x.id = id then usedAt (tGet T id now).1 now else x⟩, usedAt (tGet T id now).1 now, 0) := by unfold tTouch; rw [if_neg (by simp [e0])]
    rw [e2]
    rw [e0] at Hg
    generalize (tGet T id now).1 = s at *
    subst g2
    have Hk := hid (fun W (hW : TabAt W B p mb n T) => keep_any hW (usedAt s now) now _ (touched_mem (ok.up.imp (fun h => by omega)) g1 rfl) (by omega) (ok.id1 s g1))
    have H1 := hid h1
    clear e0 e2 h h1 ok g1 g3 g4
    have hwp : w.heap.size ≠ p := by omega
    have hwm : w.heap.size ≠ mb := by omega
    go_enter Tryd.func15, Tryd.ntmps15
    go_wp2_with (first
      | (go_at_call 20; refine Hg.mono ?_; rintro e w2 ⟨rfl, hb2⟩; unfold sessV; obtain ⟨hc, hf⟩ := bcell hb2; have hz : w.heap.size < w2.heap.size := by have := hb2.size; simp at this; omega)
      | (go_at_call 40; refine (Hk.out _ ((H1.out.below hb2).below ((Below.refl _ w2).alloc (Nat.le_refl _) _))).mono ?_; rintro e w4 ⟨rfl, hT4, ho4⟩; obtain ⟨hA, hAf⟩ := ho4.cells w2.heap.size (by simp) (by omega); obtain ⟨hB, hBf⟩ := ho4.cells w.heap.size (by simp; omega) (by omega)))
    have HT4 := hid hT4
    have k4 : ∀ j v, (#[.int .i64 0, .string ⟨#[]⟩, .string ⟨#[]⟩, .int .i64 0, .int .i64 0] : Array Value)[j]? = some v → w4.cell? ⟨w.heap.size, j, none⟩ = some v := fun j v hj => by
      rw [hB, World.cell?_alloc_past _ _ _ hz, hc _ _ (by simp), World.cell?_alloc_at _ _ _ _ rfl]
      exact hj
    have k40 := k4 0 _ rfl
    have k41 := k4 1 _ rfl
    have k42 := k4 2 _ rfl
    have k43 := k4 3 _ rfl
    have k44 := k4 4 _ rfl
    have hb12 : Below w.heap.size w w2 := hb1.trans (hb2.mono (by simp))
    refine bodyPost_ret (v := .tuple #[sessV (usedAt s now), .int .i64 0]) (by simp [results, Tryd.results15, go_sem, sessV, usedAt, k40, k41, k42, k43, k44]) rfl ⟨rfl, hT4.set5 hwp hwm _ _ _ _ _, ?_⟩
    exact out5 ((Out.of_below (hb12.alloc (by omega) _)).trans ho4 (fun _ _ e => e)) (Nat.le_refl _) _ _ _ _ _
  · have e2 : tTouch T id now = (T, sess0, (tGet T id now).2) := by unfold tTouch; rw [if_pos (by simpa using e0)]
    rw [e2]
    have b0 : ((tGet T id now).2 == 0) = false := by simpa using e0
    generalize (tGet T id now).2 = x at *
    generalize (tGet T id now).1 = s at *
    have HH := hid h
    clear e2 h ok h1
    go_enter Tryd.func15, Tryd.ntmps15
    go_wp2_with (first
      | (go_at_call 20; refine Hg.mono ?_; rintro e w2 ⟨rfl, hb2⟩; unfold sessV; obtain ⟨hc, hf⟩ := bcell hb2; have hz : w.heap.size < w2.heap.size := by have := hb2.size; simp at this; omega))
    refine bodyPost_ret (v := .tuple #[sessV sess0, .int .i64 x]) (by simp [results, Tryd.results15, go_sem, sessV, sess0, hc, hz]) rfl ⟨rfl, ?_⟩
    have hb12 : Below w.heap.size w w2 := hb1.trans (hb2.mono (by simp))
    have hbF := below5a hb12 (g := w.heap.size) (Nat.le_refl _) (.int .i64 0) (.string ⟨#[]⟩) (.string ⟨#[]⟩) (.int .i64 0) (.int .i64 0) (by omega) (.cells #[.int .i64 s.id, .string s.ten, .string s.usr, .int .i64 s.since, .int .i64 s.used] 42)
    exact ⟨(HH.out.below hbF).more (by omega), Out.of_below hbF⟩
end Go.Proofs.YtcchlcbonfdhpaaDoor
