/- New, keep, Get, Touch of a table of sessions, each by a contract. -/
import Derived.Test.YtcchlcbonfdhpaaDoorSTab
namespace Go.Proofs.YtcchlcbonfdhpaaDoor
open Go.RowKit Go.Maps Go.Sort Go.Shelf
set_option linter.unusedVariables false
set_option maxRecDepth 20000

theorem TabAt.renote {w : World} {B p mb n : Nat} {T : Tab} (h : TabAt w B p mb n T) (now : Int) : TabAt (w.setCell ⟨p, 0, none⟩ (.int .i64 now)) B p mb n ⟨T.next, now, T.l⟩ ∧ Out (fun k => k = p) w (w.setCell ⟨p, 0, none⟩ (.int .i64 now)) := by
  have o : ∀ k, k ≠ p → (w.setCell ⟨p, 0, none⟩ (.int .i64 now)).heap[k]? = w.heap[k]? := fun k hk => heap_setCell_other _ _ _ _ hk
  refine ⟨⟨?_, h.map.keep (o mb (Ne.symm h.pne)), h.bp, h.bm⟩, (Out.refl _ w).setCell _ _ rfl⟩
  rw [heap_setCell_same w p 0 _ _ (.int .i64 now) h.obj]
  simp
theorem TabAt.renext {w : World} {B p mb n : Nat} {T : Tab} (h : TabAt w B p mb n T) (x : Int) : TabAt (w.setCell ⟨p, 1, none⟩ (.int .i64 x)) B p mb n ⟨x, T.noted, T.l⟩ ∧ Out (fun k => k = p) w (w.setCell ⟨p, 1, none⟩ (.int .i64 x)) := by
  have o : ∀ k, k ≠ p → (w.setCell ⟨p, 1, none⟩ (.int .i64 x)).heap[k]? = w.heap[k]? := fun k hk => heap_setCell_other _ _ _ _ hk
  refine ⟨⟨?_, h.map.keep (o mb (Ne.symm h.pne)), h.bp, h.bm⟩, (Out.refl _ w).setCell _ _ rfl⟩
  rw [heap_setCell_same w p 1 _ _ (.int .i64 x) h.obj]
  simp

theorem below5 {B : Nat} {a w : World} (h : Below B a w) {g : Nat} (hg : B ≤ g) (v0 v1 v2 v3 v4 : Value) : Below B a (((((w.setCell ⟨g, 0, none⟩ v0).setCell ⟨g, 1, none⟩ v1).setCell ⟨g, 2, none⟩ v2).setCell ⟨g, 3, none⟩ v3).setCell ⟨g, 4, none⟩ v4) :=
  ((((h.setCell hg _).setCell hg _).setCell hg _).setCell hg _).setCell hg _
theorem below5a {B : Nat} {a w : World} (h : Below B a w) {g : Nat} (hg : B ≤ g) (v0 v1 v2 v3 v4 : Value) (hw : B ≤ w.heap.size) (o : Obj) : Below B a ((((((w.setCell ⟨g, 0, none⟩ v0).setCell ⟨g, 1, none⟩ v1).setCell ⟨g, 2, none⟩ v2).setCell ⟨g, 3, none⟩ v3).setCell ⟨g, 4, none⟩ v4).alloc o) :=
  (below5 h hg v0 v1 v2 v3 v4).alloc (by simp [World.setCell]; exact hw) _

set_option maxHeartbeats 1600000 in
theorem keep_any {w : World} {B p mb n : Nat} {T : Tab} (h : TabAt w B p mb n T) (s : Sess) (now : Int) (l' : List Sess) (hl : ∀ t, t ∈ l' ↔ t = s ∨ (t ∈ T.l ∧ t.id ≠ s.id)) (hn : n ≤ 1000000000) (hs : 1 ≤ s.id ∧ s.id ≤ 1099511627776) :
    Calls Tryd.prog 40 #[.pointer (some ⟨p, 0, none⟩), .agg #[.int .i64 s.id, .string s.ten, .string s.usr, .int .i64 s.since, .int .i64 s.used], .int .i64 now] w fun e w' => e = .returned (.tuple #[]) ∧ TabAt w' B p mb (n + 1) ⟨T.next, now, l'⟩ ∧ Out (fun k => k = p ∨ k = mb) w w' := by
  have hp := h.lts.1
  have hm := h.lts.2
  have hpm := h.pne
  have hb1 : Below w.heap.size w (w.alloc (.cells #[.int .i64 s.id, .string s.ten, .string s.usr, .int .i64 s.since, .int .i64 s.used] 42)).drew := ((Below.refl _ w).alloc (Nat.le_refl _) _).drew
  have c2 := h.c2
  have h2 := h.below hb1
  obtain ⟨D, hown, hh, ha⟩ := h2.map
  obtain ⟨w3, hrun, hown3, hturn⟩ := hown.store intKeyed Tryd.underlying37 (by unfold maxLen; omega) (zkey (x := s.id) (by omega) (by omega)) (sessR_mk s)
  have hrun' : (Instr.mapUpdate 37 (.map (some mb)) (.int .i64 s.id) (.agg #[.int .i64 s.id, .string s.ten, .string s.usr, .int .i64 s.since, .int .i64 s.used])).run Tryd.prog (w.alloc (.cells #[.int .i64 s.id, .string s.ten, .string s.usr, .int .i64 s.since, .int .i64 s.used] 42)).drew = .ok () w3 := hrun
  have h3 : TabAt w3 B p mb (n + 1) ⟨T.next, T.noted, l'⟩ := ⟨(hturn.grown.block p (by have := hb1.size; omega) (fun e => hpm (by cases e; rfl))).trans h2.obj, NMap.put hown.isMap hh ha hown3 hl, h2.bp, h2.bm⟩
  have ho3 : Out (fun k => k = p ∨ k = mb) w w3 := (Out.of_below hb1).trans (Out.of_grown (P := fun k => k = p ∨ k = mb) hturn.grown (.inr rfl)) (fun _ _ e => e)
  have H3 := hid h3
  have Ho3 := hid ho3
  have z0 := h3.z 0
  have k0 := h3.c0
  have hp3 := h3.lts.1
  clear h h2 hown hh ha hrun hown3 hturn h3 ho3 hl
  go_enter Tryd.func40, Tryd.ntmps40
  go_wp2
  go_region
  all_goals (try go_wp2)
  all_goals
    go_end0
    exact ⟨rfl, (H3.out.renote now).1, Ho3.out.setCell _ _ (.inl rfl)⟩

set_option maxHeartbeats 800000 in
theorem newNum_any (x : Int) (w : World) : Calls Tryd.prog 13 #[.int .i64 x] w fun e w' => ∃ mb, e = .returned (.agg #[.int .i64 x, .map (some mb)]) ∧ SMap w' mb 0 [] ∧ w.heap.size ≤ mb ∧ Below w.heap.size w w' := by
  have hmk := fun W => run_makeMap (P := Tryd.prog) 37 W
  have hm := NMap_made (P := Tryd.prog) (k := 3) (R := sessR) (num := Sess.id) (w.alloc (.cells #[.int .i64 x, .map (some (w.heap.size + 1))] 39))
  have hm' : SMap ((w.alloc (.cells #[.int .i64 x, .map (some (w.heap.size + 1))] 39)).alloc (.map #[] 0)) (w.heap.size + 1) 0 [] := by
    have e : (w.alloc (.cells #[.int .i64 x, .map (some (w.heap.size + 1))] 39)).heap.size = w.heap.size + 1 := by simp
    rw [e] at hm
    exact hm
  clear hm
  go_enter Tryd.func13, Tryd.ntmps13
  go_wp2
  exact bodyPost_ret (v := .agg #[.int .i64 x, .map (some (w.heap.size + 1))]) (by simp [results, Tryd.results13, go_sem]) rfl ⟨w.heap.size + 1, rfl, hm', by omega, ((Below.refl _ w).alloc (Nat.le_refl _) _).alloc (by simp) _⟩

set_option maxHeartbeats 800000 in
theorem new_any (w : World) : Calls Tryd.prog 4 #[] w fun e w' => ∃ p mb, e = .returned (.pointer (some ⟨p, 0, none⟩)) ∧ TabAt w' w.heap.size p mb 0 tab0 ∧ Below w.heap.size w w' := by
  go_enter Tryd.func4, Tryd.ntmps4
  go_wp2_with (go_at_call 13; refine (newNum_any _ _).mono ?_; rintro e w1 ⟨mb, rfl, hm, hmb, hb1⟩)
  go_ret
  refine ⟨_, mb, rfl, ⟨(MapKept.heap_alloc w1 _).1, hm.keep ((MapKept.heap_alloc w1 _).2 mb hm.lt), hb1.size, hmb⟩, hb1.alloc hb1.size _⟩

/-- what Get tells -/
def tGet (T : Tab) (id now : Int) : Sess × Int :=
  if timeErr now T.noted ≠ 0 then (sess0, timeErr now T.noted)
  else if id < 1 ∨ T.next ≤ id then (sess0, 4)
  else match T.l.find? (fun s => s.id == id) with
    | none => (sess0, 12)
    | some s => if overB s now then (sess0, 12) else (s, 0)

set_option maxHeartbeats 1600000 in
theorem get_any {w : World} {B p mb n : Nat} {T : Tab} (h : TabAt w B p mb n T) (ok : TabOk T) (id now : Int) :
    Calls Tryd.prog 20 #[.pointer (some ⟨p, 0, none⟩), .int .i64 id, .int .i64 now] w fun e w' => e = .returned (.tuple #[sessV (tGet T id now).1, .int .i64 (tGet T id now).2]) ∧ Below w.heap.size w w' := by
  have hp := h.lts.1
  have hb1 : Below w.heap.size w (w.alloc (.cells #[.int .i64 0, .string ⟨#[]⟩, .string ⟨#[]⟩, .int .i64 0, .int .i64 0] 42)) := (Below.refl _ w).alloc (Nat.le_refl _) _
  have h1 := h.below hb1
  have Ht := hid (timeError_any h1 now)
  by_cases e0 : timeErr now T.noted = 0
  · have Hte := Ht.out
    rw [e0] at Hte
    by_cases e1 : id < 1 ∨ T.next ≤ id
    · have e2 : tGet T id now = (sess0, 4) := by unfold tGet; rw [if_neg (by simp [e0]), if_pos e1]
      rw [e2]
      have Hf := hid (find_none h1.num id e1)
      clear e0 e1 e2 h Ht h1 ok
      go_enter Tryd.func20, Tryd.ntmps20
      go_wp2_with (first
        | (go_at_call 46; refine Hte.mono ?_; rintro e w2 ⟨rfl, rfl⟩)
        | (go_at_call 47; refine Hf.out.mono ?_; rintro e w2 ⟨rfl, hb2⟩; unfold sessV sess0; obtain ⟨hc, hf⟩ := bcell hb2; have hz : w.heap.size < w2.heap.size := by have := hb2.size; simp at this; omega))
      refine bodyPost_ret (v := .tuple #[sessV sess0, .int .i64 4]) (by simp [results, Tryd.results20, go_sem, sessV, sess0, hc, hz]) rfl ⟨rfl, ?_⟩
      have hb12 : Below w.heap.size w w2 := hb1.trans (hb2.mono (by simp))
      first | exact below5a hb12 (Nat.le_refl _) _ _ _ _ _ (by omega) _ | exact below5 hb12 (Nat.le_refl _) _ _ _ _ _
    · cases hfd : T.l.find? (fun s => s.id == id) with
      | none =>
        have e2 : tGet T id now = (sess0, 12) := by unfold tGet; rw [if_neg (by simp [e0]), if_neg e1, hfd]
        rw [e2]
        have Hf := hid (find_gone h1.num id (by omega) ok.nx.2 (fun s hs e => by have := List.find?_eq_none.1 hfd s hs; simp [e] at this))
        clear e0 e1 e2 h Ht h1 ok hfd
        go_enter Tryd.func20, Tryd.ntmps20
        go_wp2_with (first
          | (go_at_call 46; refine Hte.mono ?_; rintro e w2 ⟨rfl, rfl⟩)
          | (go_at_call 47; refine Hf.out.mono ?_; rintro e w2 ⟨rfl, hb2⟩; unfold sessV sess0; obtain ⟨hc, hf⟩ := bcell hb2; have hz : w.heap.size < w2.heap.size := by have := hb2.size; simp at this; omega))
        refine bodyPost_ret (v := .tuple #[sessV sess0, .int .i64 12]) (by simp [results, Tryd.results20, go_sem, sessV, sess0, hc, hz]) rfl ⟨rfl, ?_⟩
        have hb12 : Below w.heap.size w w2 := hb1.trans (hb2.mono (by simp))
        first | exact below5a hb12 (Nat.le_refl _) _ _ _ _ _ (by omega) _ | exact below5 hb12 (Nat.le_refl _) _ _ _ _ _
      | some s =>
        have hs : s ∈ T.l := List.mem_of_find?_eq_some hfd
        have hsid : s.id = id := by have := List.find?_some hfd; simpa using this
        subst hsid
        have Hf := hid (find_ok h1.num s hs (ok.ids s hs) ok.nx.2)
        have Hov := fun w => isOver_any s now w (ok.times s hs)
        cases hov : overB s now
        · have e2 : tGet T s.id now = (s, 0) := by unfold tGet; rw [if_neg (by simp [e0]), if_neg e1, hfd]; simp [hov]
          rw [e2]
          rw [hov] at Hov
          clear e0 e1 e2 h Ht h1 ok hfd hs hov
          go_enter Tryd.func20, Tryd.ntmps20
          go_wp2_with (first
            | (go_at_call 46; refine Hte.mono ?_; rintro e w2 ⟨rfl, rfl⟩)
            | (go_at_call 47; refine Hf.out.mono ?_; rintro e w2 ⟨rfl, hb2⟩; unfold sessV; obtain ⟨hc, hf⟩ := bcell hb2; have hz : w.heap.size < w2.heap.size := by have := hb2.size; simp at this; omega)
            | (go_at_call 48; refine (Hov _).mono ?_; rintro e w3 ⟨rfl, hb3⟩; obtain ⟨hc3, hf3⟩ := bcell hb3; have hz3 : w2.heap.size < w3.heap.size := by have := hb3.size; simp at this; omega))
          have k3 : ∀ j v, (#[.int .i64 0, .string ⟨#[]⟩, .string ⟨#[]⟩, .int .i64 0, .int .i64 0] : Array Value)[j]? = some v → w3.cell? ⟨w.heap.size, j, none⟩ = some v := fun j v hj => by
            rw [hc3 _ _ (by simp; omega), World.cell?_alloc_past _ _ _ hz, hc _ _ (by simp), World.cell?_alloc_at _ _ _ _ rfl]
            exact hj
          have k30 := k3 0 _ rfl
          have k31 := k3 1 _ rfl
          have k32 := k3 2 _ rfl
          have k33 := k3 3 _ rfl
          have k34 := k3 4 _ rfl
          refine bodyPost_ret (v := .tuple #[sessV s, .int .i64 0]) (by simp [results, Tryd.results20, go_sem, sessV, k30, k31, k32, k33, k34]) rfl ⟨rfl, ?_⟩
          have hb12 : Below w.heap.size w w2 := hb1.trans (hb2.mono (by simp))
          have hb13 : Below w.heap.size w w3 := (hb12.alloc (by omega) _).trans (hb3.mono (by simp; omega))
          first | exact below5 hb13 (Nat.le_refl _) _ _ _ _ _ | exact below5a hb13 (Nat.le_refl _) _ _ _ _ _ (by omega) _
        · have e2 : tGet T s.id now = (sess0, 12) := by unfold tGet; rw [if_neg (by simp [e0]), if_neg e1, hfd]; simp [hov]
          rw [e2]
          rw [hov] at Hov
          clear e0 e1 e2 h Ht h1 ok hfd hs hov
          go_enter Tryd.func20, Tryd.ntmps20
          go_wp2_with (first
            | (go_at_call 46; refine Hte.mono ?_; rintro e w2 ⟨rfl, rfl⟩)
            | (go_at_call 47; refine Hf.out.mono ?_; rintro e w2 ⟨rfl, hb2⟩; unfold sessV; obtain ⟨hc, hf⟩ := bcell hb2; have hz : w.heap.size < w2.heap.size := by have := hb2.size; simp at this; omega)
            | (go_at_call 48; refine (Hov _).mono ?_; rintro e w3 ⟨rfl, hb3⟩; obtain ⟨hc3, hf3⟩ := bcell hb3; have hz3 : w2.heap.size < w3.heap.size := by have := hb3.size; simp at this; omega))
          have k3 : ∀ j v, (#[.int .i64 0, .string ⟨#[]⟩, .string ⟨#[]⟩, .int .i64 0, .int .i64 0] : Array Value)[j]? = some v → w3.cell? ⟨w.heap.size, j, none⟩ = some v := fun j v hj => by
            rw [hc3 _ _ (by simp; omega), World.cell?_alloc_past _ _ _ hz, hc _ _ (by simp), World.cell?_alloc_at _ _ _ _ rfl]
            exact hj
          have k30 := k3 0 _ rfl
          have k31 := k3 1 _ rfl
          have k32 := k3 2 _ rfl
          have k33 := k3 3 _ rfl
          have k34 := k3 4 _ rfl
          refine bodyPost_ret (v := .tuple #[sessV sess0, .int .i64 12]) (by simp [results, Tryd.results20, go_sem, sessV, sess0, k30, k31, k32, k33, k34]) rfl ⟨rfl, ?_⟩
          have hb12 : Below w.heap.size w w2 := hb1.trans (hb2.mono (by simp))
          have hb13 : Below w.heap.size w w3 := (hb12.alloc (by omega) _).trans (hb3.mono (by simp; omega))
          first | exact below5 hb13 (Nat.le_refl _) _ _ _ _ _ | exact below5a hb13 (Nat.le_refl _) _ _ _ _ _ (by omega) _
  · have e2 : tGet T id now = (sess0, timeErr now T.noted) := by unfold tGet; rw [if_pos e0]
    rw [e2]
    have b0 : (timeErr now T.noted == 0) = false := by simpa using e0
    have Hte := Ht.out
    generalize timeErr now T.noted = x at Hte e0 b0 ⊢
    clear h ok e2 Ht
    go_enter Tryd.func20, Tryd.ntmps20
    go_wp2_with (go_at_call 46; refine Hte.mono ?_; rintro e w2 ⟨rfl, rfl⟩)
    exact bodyPost_ret (v := .tuple #[sessV sess0, .int .i64 x]) (by simp [results, Tryd.results20, go_sem, sessV, sess0]) rfl ⟨rfl, hb1⟩
end Go.Proofs.YtcchlcbonfdhpaaDoor
