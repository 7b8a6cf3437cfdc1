/- The closures of package session and the small functions over a table, each by a contract; a table of sessions in memory. -/
import Derived.Test.YtcchlcbonfdhpaaDoorSDrop
namespace Go.Proofs.YtcchlcbonfdhpaaDoor
open Go.RowKit Go.Maps Go.Sort Go.Shelf
set_option linter.unusedVariables false

/-- whose a session is -/
def ownB (t u : ByteArray) (s : Sess) : Bool := decide (s.ten.toList = t.toList) && decide (s.usr.toList = u.toList)
/-- a user's session that is not over -/
def liveB (t u : ByteArray) (now : Int) (s : Sess) : Bool := ownB t u s && !overB s now

set_option maxHeartbeats 800000 in
theorem endAll1_any (s : Sess) (t u : ByteArray) (b : Nat) (w : World) (hc0 : w.cell? ⟨b, 0, none⟩ = some (.string t)) (hc1 : w.cell? ⟨b, 1, none⟩ = some (.string u)) :
    Calls Tryd.prog 51 #[.agg #[.int .i64 s.id, .string s.ten, .string s.usr, .int .i64 s.since, .int .i64 s.used], .pointer (some ⟨b, 0, none⟩)] w fun e w' => e = .returned (.bool (ownB t u s)) ∧ Below w.heap.size w w' := by
  have hb := World.block_lt_of_cell? _ _ hc0
  go_enter Tryd.func51, Tryd.ntmps51
  go_wp2
  all_goals go_ret
  all_goals exact ⟨ret_bool (by unfold ownB; simp [*]), (Below.refl _ _).alloc (Nat.le_refl _) _⟩

set_option maxHeartbeats 800000 in
theorem sweep1_any (s : Sess) (now : Int) (b : Nat) (w : World) (hs : TimesOk s) (hc0 : w.cell? ⟨b, 0, none⟩ = some (.int .i64 now)) :
    Calls Tryd.prog 52 #[.agg #[.int .i64 s.id, .string s.ten, .string s.usr, .int .i64 s.since, .int .i64 s.used], .pointer (some ⟨b, 0, none⟩)] w fun e w' => e = .returned (.bool (overB s now)) ∧ Below w.heap.size w w' := by
  have hb := World.block_lt_of_cell? _ _ hc0
  have h0 := fun w => isOver_any s now w hs
  go_enter Tryd.func52, Tryd.ntmps52
  go_wp2_with (go_at_call 48; refine (h0 _).mono ?_; rintro e w1 ⟨rfl, hb1⟩)
  go_ret
  exact ⟨rfl, ((Below.refl _ _).alloc (Nat.le_refl _) _).trans (hb1.mono (by simp))⟩

set_option maxHeartbeats 800000 in
theorem live1_any (s : Sess) (t u : ByteArray) (now : Int) (b c : Nat) (w : World) (hs : TimesOk s) (hc0 : w.cell? ⟨b, 0, none⟩ = some (.string t)) (hc1 : w.cell? ⟨b, 1, none⟩ = some (.string u)) (hc2 : w.cell? ⟨c, 0, none⟩ = some (.int .i64 now)) :
    Calls Tryd.prog 64 #[.agg #[.int .i64 s.id, .string s.ten, .string s.usr, .int .i64 s.since, .int .i64 s.used], .pointer (some ⟨b, 0, none⟩), .pointer (some ⟨c, 0, none⟩)] w fun e w' => e = .returned (.bool (liveB t u now s)) ∧ Below w.heap.size w w' := by
  have hb := World.block_lt_of_cell? _ _ hc0
  have hc := World.block_lt_of_cell? _ _ hc2
  have h0 := fun w => isOver_any s now w hs
  by_cases h1 : s.ten.toList = t.toList
  · by_cases h2 : s.usr.toList = u.toList
    · have Ho : Hid (ownB t u s = true) := by show _ = _; unfold ownB; simp [h1, h2]
      go_enter Tryd.func64, Tryd.ntmps64
      go_wp2_with (go_at_call 48; refine (h0 _).mono ?_; rintro e w1 ⟨rfl, hb1⟩)
      go_ret
      exact ⟨ret_bool (by unfold liveB; rw [Ho.out]; simp), ((Below.refl _ _).alloc (Nat.le_refl _) _).trans (hb1.mono (by simp))⟩
    · have Ho : Hid (ownB t u s = false) := by show _ = _; unfold ownB; simp [h1, h2]
      go_enter Tryd.func64, Tryd.ntmps64
      go_wp2_with (go_at_call 48; refine (h0 _).mono ?_; rintro e w1 ⟨rfl, hb1⟩)
      go_ret
      exact ⟨ret_bool (by unfold liveB; rw [Ho.out]; simp), (Below.refl _ _).alloc (Nat.le_refl _) _⟩
  · have Ho : Hid (ownB t u s = false) := by show _ = _; unfold ownB; simp [h1]
    go_enter Tryd.func64, Tryd.ntmps64
    go_wp2_with (go_at_call 48; refine (h0 _).mono ?_; rintro e w1 ⟨rfl, hb1⟩)
    go_ret
    exact ⟨ret_bool (by unfold liveB; rw [Ho.out]; simp), (Below.refl _ _).alloc (Nat.le_refl _) _⟩

set_option maxHeartbeats 800000 in
theorem isOwner_any (t u : ByteArray) (w : World) (ht : t.size ≤ maxLen) (hu : u.size ≤ maxLen) :
    Calls Tryd.prog 58 #[.agg #[.string t, .string u]] w fun e w' => e = .returned (.bool (nameB t.data.toList && nameB u.data.toList)) ∧ Below w.heap.size w w' := by
  cases hx : nameB t.data.toList
  · go_enter Tryd.func58, Tryd.ntmps58
    go_wp2_with (go_at_call 68; refine (isName_any _ _ (by assumption)).mono ?_; rintro e w1 ⟨rfl, rfl⟩)
    go_ret
    exact ⟨rfl, (Below.refl _ _).alloc (Nat.le_refl _) _⟩
  · cases hy : nameB u.data.toList
    all_goals
      go_enter Tryd.func58, Tryd.ntmps58
      go_wp2_with (go_at_call 68; refine (isName_any _ _ (by assumption)).mono ?_; rintro e w1 ⟨rfl, rfl⟩)
      go_ret
      exact ⟨rfl, (Below.refl _ _).alloc (Nat.le_refl _) _⟩

/-- a table -/
structure Tab where
  next : Int
  noted : Int
  l : List Sess
def tab0 : Tab := ⟨1, 0, []⟩

/-- what is so of every table -/
structure TabOk (T : Tab) : Prop where
  up : T.l.Pairwise (fun a b => a.id < b.id)
  ids : ∀ s ∈ T.l, 1 ≤ s.id ∧ s.id < T.next
  nx : 1 ≤ T.next ∧ T.next ≤ 1099511627777
  nt : 0 ≤ T.noted ∧ T.noted ≤ 1099511627776
  tm : ∀ s ∈ T.l, 0 ≤ s.since ∧ s.since ≤ s.used ∧ s.used ≤ T.noted
theorem tab0_ok : TabOk tab0 := ⟨List.Pairwise.nil, fun s h => (by cases h), by decide, by decide, fun s h => (by cases h)⟩
theorem TabOk.times {T : Tab} (h : TabOk T) : ∀ s ∈ T.l, TimesOk s := fun s hs => by
  have h1 := h.tm s hs
  have h2 := h.nt
  exact ⟨h1.1, by omega, by omega, by omega⟩
theorem TabOk.id1 {T : Tab} (h : TabOk T) : ∀ s ∈ T.l, 1 ≤ s.id ∧ s.id ≤ 1099511627776 := fun s hs => by
  have h1 := h.ids s hs
  have h2 := h.nx
  omega

/-- a table in memory -/
structure TabAt (w : World) (B p mb n : Nat) (T : Tab) : Prop where
  obj : w.heap[p]? = some (.cells #[.int .i64 T.noted, .int .i64 T.next, .map (some mb)] 46 (0, 0))
  map : SMap w mb n T.l
  bp : B ≤ p
  bm : B ≤ mb
theorem TabAt.c0 {w : World} {B p mb n : Nat} {T : Tab} (h : TabAt w B p mb n T) : w.cell? ⟨p, 0, none⟩ = some (.int .i64 T.noted) := cell_of_row _ _ 0 _ _ _ h.obj
theorem TabAt.c1 {w : World} {B p mb n : Nat} {T : Tab} (h : TabAt w B p mb n T) : w.cell? ⟨p, 1, none⟩ = some (.int .i64 T.next) := cell_of_row _ _ 1 _ _ _ h.obj
theorem TabAt.c2 {w : World} {B p mb n : Nat} {T : Tab} (h : TabAt w B p mb n T) : w.cell? ⟨p, 2, none⟩ = some (.map (some mb)) := cell_of_row _ _ 2 _ _ _ h.obj
theorem TabAt.z {w : World} {B p mb n : Nat} {T : Tab} (h : TabAt w B p mb n T) (j : Nat) : w.frozen? ⟨p, j, none⟩ = false := frozen_of_row _ _ j _ _ h.obj
theorem TabAt.num {w : World} {B p mb n : Nat} {T : Tab} (h : TabAt w B p mb n T) : NumAt w p 1 mb n T.next T.l := ⟨h.c1, h.c2, h.z, h.map⟩
theorem TabAt.lts {w : World} {B p mb n : Nat} {T : Tab} (h : TabAt w B p mb n T) : p < w.heap.size ∧ mb < w.heap.size := h.num.lts
theorem TabAt.keep {w w' : World} {B p mb n : Nat} {T : Tab} (h : TabAt w B p mb n T) (hp : w'.heap[p]? = w.heap[p]?) (hm : w'.heap[mb]? = w.heap[mb]?) : TabAt w' B p mb n T := ⟨hp.trans h.obj, h.map.keep hm, h.bp, h.bm⟩
theorem TabAt.below {w w' : World} {B p mb n : Nat} {T : Tab} (h : TabAt w B p mb n T) (hb : Below w.heap.size w w') : TabAt w' B p mb n T := h.keep (hb.block p h.lts.1) (hb.block mb h.lts.2)
theorem TabAt.pne {w : World} {B p mb n : Nat} {T : Tab} (h : TabAt w B p mb n T) : p ≠ mb := h.num.pne
theorem TabAt.mono {w : World} {B B' p mb n : Nat} {T : Tab} (h : TabAt w B p mb n T) (hB : B' ≤ B) : TabAt w B' p mb n T := ⟨h.obj, h.map, Nat.le_trans hB h.bp, Nat.le_trans hB h.bm⟩

set_option maxHeartbeats 800000 in
theorem timeError_any {w : World} {B p mb n : Nat} {T : Tab} (h : TabAt w B p mb n T) (now : Int) :
    Calls Tryd.prog 46 #[.pointer (some ⟨p, 0, none⟩), .int .i64 now] w fun e w' => e = .returned (.int .i64 (timeErr now T.noted)) ∧ w' = w := by
  have c0 := h.c0
  clear h
  go_enter Tryd.func46, Tryd.ntmps46
  go_wp2_with (go_at_call 59; refine (timeErr_any _ _ _).mono ?_; rintro e w1 ⟨rfl, rfl⟩)
  go_ret
  exact ⟨rfl, rfl⟩

theorem eg_live1 : ∀ args w, (callFunc 64 args).run Tryd.prog w = .ok (.enter 64 args) w := enters_of Tryd.func64 (by kernel_rfl) rfl
theorem eg_endAll1 : ∀ args w, (callFunc 51 args).run Tryd.prog w = .ok (.enter 51 args) w := enters_of Tryd.func51 (by kernel_rfl) rfl
theorem eg_sweep1 : ∀ args w, (callFunc 52 args).run Tryd.prog w = .ok (.enter 52 args) w := enters_of Tryd.func52 (by kernel_rfl) rfl

set_option maxHeartbeats 800000 in
theorem live_any {w : World} {B p mb n : Nat} {T : Tab} (h : TabAt w B p mb n T) (ok : TabOk T) (hln : T.l.length ≤ 1000000000) (t u : ByteArray) (now : Int) :
    Calls Tryd.prog 53 #[.pointer (some ⟨p, 0, none⟩), .agg #[.string t, .string u], .int .i64 now] w fun e w' => ∃ v, e = .returned v ∧ w'.ownsRow w.heap.size 42 5 v (T.l.filter (liveB t u now)).length (sCells (T.l.filter (liveB t u now))) ∧ Below w.heap.size w w' := by
  have hmf : ∀ (fn : Fn) (first cap : Array Value) (w : World), (Instr.makeFunc fn first cap).run Tryd.prog w = .ok (.func fn first cap) w := fun _ _ _ _ => rfl
  have hb2 : Below w.heap.size w ((w.alloc (.cells #[.string t, .string u] 30)).alloc (.cells #[.int .i64 now] 3)) := ((Below.refl _ w).alloc (Nat.le_refl _) _).alloc (by simp) _
  have Ht := hid (things_any (h.below hb2).num ok.up hln ok.id1 (liveB t u now) 64 #[.pointer (some ⟨w.heap.size, 0, none⟩), .pointer (some ⟨w.heap.size + 1, 0, none⟩)] eg_live1 (fun s hs W hW => by
    refine live1_any s t u now w.heap.size (w.heap.size + 1) W (ok.times s hs) ?_ ?_ ?_
    · rw [hW.cell (p := ⟨w.heap.size, 0, none⟩) (by simp; omega), World.cell?_alloc_past _ _ _ (by simp), World.cell?_alloc_at _ _ _ _ rfl]; rfl
    · rw [hW.cell (p := ⟨w.heap.size, 1, none⟩) (by simp; omega), World.cell?_alloc_past _ _ _ (by simp), World.cell?_alloc_at _ _ _ _ rfl]; rfl
    · rw [hW.cell (p := ⟨w.heap.size + 1, 0, none⟩) (by simp), World.cell?_alloc_at _ _ _ _ (by simp)]; rfl))
  clear h
  go_enter Tryd.func53, Tryd.ntmps53
  go_wp2_with (go_at_call 63; refine Ht.out.mono ?_; rintro e w1 ⟨v, rfl, hrow, hb1⟩)
  go_ret
  exact ⟨_, rfl, hrow.mono (by simp; omega), hb2.trans (hb1.mono (by simp; omega))⟩
end Go.Proofs.YtcchlcbonfdhpaaDoor
