/- End, EndAll, Sweep and Live of a table of sessions, each by a contract. -/
import Derived.Test.YtcchlcbonfdhpaaDoorSBegin2
namespace Go.Proofs.YtcchlcbonfdhpaaDoor
open Go.RowKit Go.Maps Go.Sort Go.Shelf
set_option linter.unusedVariables false
set_option maxRecDepth 20000

/-- those with another number -/
def butId (l : List Sess) (id : Int) : List Sess := l.filter fun s => !(s.id == id)
theorem butId_mem (l : List Sess) (id : Int) (t : Sess) : t ∈ butId l id ↔ (t ∈ l ∧ t.id ≠ id) := by
  unfold butId
  rw [List.mem_filter]
  simp
/-- what End does and tells -/
def tEnd (T : Tab) (id : Int) : Tab × Int :=
  if id < 1 ∨ T.next ≤ id then (T, 4)
  else match T.l.find? (fun s => s.id == id) with
    | none => (T, 12)
    | some _ => (⟨T.next, T.noted, butId T.l id⟩, 0)
theorem TabOk.sub {T : Tab} (ok : TabOk T) {l' : List Sess} (h : l'.Sublist T.l) (noted : Int) (hn : T.noted ≤ noted ∧ noted ≤ 1099511627776) : TabOk ⟨T.next, noted, l'⟩ :=
  ⟨ok.up.sublist h, fun s hs => ok.ids s (h.subset hs), ok.nx, ⟨by have := ok.nt; show 0 ≤ noted; omega, hn.2⟩, fun s hs => by have := ok.tm s (h.subset hs); show _ ∧ _ ∧ _ ≤ noted; omega⟩
theorem tEnd_ok {T : Tab} (ok : TabOk T) (id : Int) : TabOk (tEnd T id).1 := by
  unfold tEnd
  split
  · exact ok
  · split
    · exact ok
    · exact ok.sub List.filter_sublist _ ⟨Int.le_refl _, ok.nt.2⟩

set_option maxHeartbeats 1600000 in
theorem end_any {w : World} {B p mb n : Nat} {T : Tab} (h : TabAt w B p mb n T) (ok : TabOk T) (id : Int) :
    Calls Tryd.prog 22 #[.pointer (some ⟨p, 0, none⟩), .int .i64 id] w fun e w' => e = .returned (.int .i64 (tEnd T id).2) ∧ TabAt w' B p mb n (tEnd T id).1 ∧ Out (fun k => k = p ∨ k = mb) w w' := by
  have hp := h.lts.1
  have hm := h.lts.2
  by_cases e1 : id < 1 ∨ T.next ≤ id
  · have e2 : tEnd T id = (T, 4) := by unfold tEnd; rw [if_pos e1]
    rw [e2]
    have Hf := hid (find_none h.num id e1)
    have HH := hid h
    clear e1 e2 h ok
    go_enter Tryd.func22, Tryd.ntmps22
    go_wp2_with (go_at_call 47; refine Hf.out.mono ?_; rintro e w2 ⟨rfl, hb2⟩; unfold sessV sess0)
    go_ret
    have hbF := hb2.alloc hb2.size (.cells #[.int .i64 0, .string ⟨#[]⟩, .string ⟨#[]⟩, .int .i64 0, .int .i64 0] 42)
    exact ⟨rfl, HH.out.below hbF, Out.of_below hbF⟩
  · cases hfd : T.l.find? (fun s => s.id == id) with
    | none =>
      have e2 : tEnd T id = (T, 12) := by unfold tEnd; rw [if_neg e1, hfd]
      rw [e2]
      have Hf := hid (find_gone h.num id (by omega) ok.nx.2 (fun s hs e => by have := List.find?_eq_none.1 hfd s hs; simp [e] at this))
      have HH := hid h
      clear e1 e2 h ok hfd
      go_enter Tryd.func22, Tryd.ntmps22
      go_wp2_with (go_at_call 47; refine Hf.out.mono ?_; rintro e w2 ⟨rfl, hb2⟩; unfold sessV sess0)
      go_ret
      have hbF := hb2.alloc hb2.size (.cells #[.int .i64 0, .string ⟨#[]⟩, .string ⟨#[]⟩, .int .i64 0, .int .i64 0] 42)
      exact ⟨rfl, HH.out.below hbF, Out.of_below hbF⟩
    | some s =>
      have hs : s ∈ T.l := List.mem_of_find?_eq_some hfd
      have hsid : s.id = id := by have := List.find?_some hfd; simpa using this
      subst hsid
      have e2 : tEnd T s.id = (⟨T.next, T.noted, butId T.l s.id⟩, 0) := by unfold tEnd; rw [if_neg e1, hfd]
      rw [e2]
      have Hf := hid (find_ok h.num s hs (ok.ids s hs) ok.nx.2)
      have hid1 := ok.id1 s hs
      have hkey : keyOf Tryd.prog 3 (.int .i64 s.id) = some (zk s.id) := zkey (by omega) (by omega)
      have HH := hid h
      have hpm := h.pne
      clear e1 e2 h ok hfd hs
      go_enter Tryd.func22, Tryd.ntmps22
      go_wp2_with (first
        | (go_at_call 47; refine Hf.out.mono ?_; rintro e w2 ⟨rfl, hb2⟩; unfold sessV; have hbF := hb2.alloc hb2.size (.cells #[.int .i64 s.id, .string s.ten, .string s.usr, .int .i64 s.since, .int .i64 s.used] 42); have hT3 := HH.out.below hbF; have c2 := hT3.c2; obtain ⟨D, hown, hh, ha⟩ := hT3.map; have Hh := hid hh; have Ha := hid ha; clear hh ha)
        | (at_delete; refine wpList_delete_own _ rfl _ _ 37 3 rfl 42 intKeyed Tryd.underlying37 _ mb n D rfl hown _ _ rfl hkey ?_; intro w4 hown4 hturn4)
        | go_in)
      go_ret
      refine ⟨rfl, ⟨(hturn4.grown.block p (by have := hbF.size; omega) (fun e => hpm (by cases e; rfl))).trans hT3.obj, NMap.del Hh.out Ha.out hown4 (fun t => butId_mem _ _ _), hT3.bp, hT3.bm⟩, (Out.of_below hbF).trans (Out.of_grown (P := fun k => k = p ∨ k = mb) hturn4.grown (.inr rfl)) (fun _ _ e => e)⟩

set_option maxHeartbeats 1600000 in
theorem endAll_any {w : World} {B p mb n : Nat} {T : Tab} (h : TabAt w B p mb n T) (ok : TabOk T) (hln : T.l.length ≤ 1000000000) (t u : ByteArray) :
    Calls Tryd.prog 25 #[.pointer (some ⟨p, 0, none⟩), .agg #[.string t, .string u]] w fun e w' => ∃ v, e = .returned v ∧ w'.ownsRow w.heap.size 3 1 v (T.l.filter (ownB t u)).length (zCells (wantedIds T.l (ownB t u))) ∧ TabAt w' B p mb n ⟨T.next, T.noted, T.l.filter fun s => !ownB t u s⟩ ∧ Out (fun k => k = p ∨ k = mb) w w' := by
  have hmf : ∀ (fn : Fn) (first cap : Array Value) (w : World), (Instr.makeFunc fn first cap).run Tryd.prog w = .ok (.func fn first cap) w := fun _ _ _ _ => rfl
  have hb2 : Below w.heap.size w (w.alloc (.cells #[.string t, .string u] 30)) := (Below.refl _ w).alloc (Nat.le_refl _) _
  have h2 := h.below hb2
  have Ht := hid (drop_any h2.num ok.up hln ok.id1 (ownB t u) 51 #[.pointer (some ⟨w.heap.size, 0, none⟩)] eg_endAll1 (fun s hs W hW => by
    refine endAll1_any s t u w.heap.size W ?_ ?_
    · rw [hW.cell (p := ⟨w.heap.size, 0, none⟩) (by simp), World.cell?_alloc_at _ _ _ _ rfl]; rfl
    · rw [hW.cell (p := ⟨w.heap.size, 1, none⟩) (by simp), World.cell?_alloc_at _ _ _ _ rfl]; rfl))
  have H2 := hid h2
  clear h h2 ok
  go_enter Tryd.func25, Tryd.ntmps25
  go_wp2_with (go_at_call 50; refine Ht.out.mono ?_; rintro e w1 ⟨v, rfl, hrow, hnum, ho⟩)
  go_ret
  refine ⟨_, rfl, hrow.mono (by simp), ⟨(ho.block p H2.out.lts.1 H2.out.pne).trans H2.out.obj, hnum.map, H2.out.bp, H2.out.bm⟩, (Out.of_below hb2).trans (ho.imp (Q := fun k => k = p ∨ k = mb) (fun _ _ e => .inr e)) (fun _ _ e => e)⟩

/-- what Sweep does -/
def tSweep (T : Tab) (now : Int) : Tab := if timeErr now T.noted ≠ 0 then T else ⟨T.next, now, T.l.filter fun s => !overB s now⟩
def sweepIds (T : Tab) (now : Int) : List Int := if timeErr now T.noted ≠ 0 then [] else wantedIds T.l (fun s => overB s now)
theorem tSweep_ok {T : Tab} (ok : TabOk T) (now : Int) : TabOk (tSweep T now) := by
  unfold tSweep
  split
  · exact ok
  · rename_i h
    have tt := timeErr_ok (show timeErr now T.noted = 0 by simpa using h)
    exact ok.sub List.filter_sublist _ ⟨tt.2.2, tt.2.1⟩

set_option maxHeartbeats 1600000 in
theorem sweep_any {w : World} {B p mb n : Nat} {T : Tab} (h : TabAt w B p mb n T) (ok : TabOk T) (hln : T.l.length ≤ 1000000000) (now : Int) :
    Calls Tryd.prog 27 #[.pointer (some ⟨p, 0, none⟩), .int .i64 now] w fun e w' => ∃ v, e = .returned (.tuple #[v, .int .i64 (timeErr now T.noted)]) ∧ w'.ownsRow w.heap.size 3 1 v (sweepIds T now).length (zCells (sweepIds T now)) ∧ TabAt w' B p mb n (tSweep T now) ∧ Out (fun k => k = p ∨ k = mb) w w' := by
  have hp := h.lts.1
  have hm := h.lts.2
  have hmf : ∀ (fn : Fn) (first cap : Array Value) (w : World), (Instr.makeFunc fn first cap).run Tryd.prog w = .ok (.func fn first cap) w := fun _ _ _ _ => rfl
  have hb2 : Below w.heap.size w (w.alloc (.cells #[.int .i64 now] 3)) := (Below.refl _ w).alloc (Nat.le_refl _) _
  have h2 := h.below hb2
  have Hte := timeError_any h2 now
  by_cases e0 : timeErr now T.noted = 0
  · have ea : tSweep T now = ⟨T.next, now, T.l.filter fun s => !overB s now⟩ := by unfold tSweep; rw [if_neg (by simp [e0])]
    have eb : sweepIds T now = wantedIds T.l (fun s => overB s now) := by unfold sweepIds; rw [if_neg (by simp [e0])]
    rw [e0] at Hte ⊢
    rw [ea, eb]
    obtain ⟨h3a, ho3a⟩ := h.renote now
    have hsz : (w.setCell ⟨p, 0, none⟩ (.int .i64 now)).heap.size = w.heap.size := by simp [World.setCell]
    have h3 := h3a.below ((Below.refl _ (w.setCell ⟨p, 0, none⟩ (.int .i64 now))).alloc (Nat.le_refl _) (.cells #[.int .i64 now] 3))
    have ho3 : Out (fun k => k = p ∨ k = mb) w ((w.setCell ⟨p, 0, none⟩ (.int .i64 now)).alloc (.cells #[.int .i64 now] 3)) := (ho3a.imp (Q := fun k => k = p ∨ k = mb) (fun _ _ e => .inl e)).trans (Out.of_below (P := fun k => k = p ∨ k = mb) ((Below.refl _ _).alloc (Nat.le_refl _) _)) (fun _ _ e => e)
    have hbc : ∀ W, Below ((w.setCell ⟨p, 0, none⟩ (.int .i64 now)).alloc (.cells #[.int .i64 now] 3)).heap.size ((w.setCell ⟨p, 0, none⟩ (.int .i64 now)).alloc (.cells #[.int .i64 now] 3)) W → W.cell? ⟨w.heap.size, 0, none⟩ = some (.int .i64 now) := fun W hW => by
      rw [hW.cell (p := ⟨w.heap.size, 0, none⟩) (by simp [hsz]), World.cell?_alloc_at _ _ _ _ hsz.symm]
      rfl
    have Ht := hid (drop_any h3.num ok.up hln ok.id1 (fun s => overB s now) 52 #[.pointer (some ⟨w.heap.size, 0, none⟩)] eg_sweep1 (fun s hs W hW => sweep1_any s now w.heap.size W (ok.times s hs) (hbc W hW)))
    have H3 := hid h3
    have Ho3 := hid ho3
    have c0 := h2.c0
    have z0 := h2.z 0
    clear h h2 h3 ho3 h3a ho3a hsz ok e0 ea eb hbc
    go_enter Tryd.func27, Tryd.ntmps27
    go_wp2_with (first
      | (go_at_call 46; refine Hte.mono ?_; rintro e w2 ⟨rfl, rfl⟩)
      | (go_at_call 50; refine Ht.out.mono ?_; rintro e w1 ⟨v, rfl, hrow, hnum, ho⟩))
    go_ret2
    have hl1 : (wantedIds T.l (fun s => overB s now)).length = (T.l.filter (fun s => overB s now)).length := by simp [wantedIds]
    rw [hl1]
    refine ⟨_, rfl, hrow.mono (by simp [World.setCell]), ⟨(ho.block p H3.out.lts.1 H3.out.pne).trans H3.out.obj, hnum.map, H3.out.bp, H3.out.bm⟩, Ho3.out.trans (ho.imp (Q := fun k => k = p ∨ k = mb) (fun _ _ e => .inr e)) (fun _ _ e => e)⟩
  · have ea : tSweep T now = T := by unfold tSweep; rw [if_pos (by simpa using e0)]
    have eb : sweepIds T now = [] := by unfold sweepIds; rw [if_pos (by simpa using e0)]
    rw [ea, eb]
    have b0 : (timeErr now T.noted == 0) = false := by simpa using e0
    generalize timeErr now T.noted = x at *
    have H2 := hid h2
    clear h h2 ok ea eb
    go_enter Tryd.func27, Tryd.ntmps27
    go_wp2_with (first
      | (go_at_call 46; refine Hte.mono ?_; rintro e w2 ⟨rfl, rfl⟩))
    go_ret2
    exact ⟨_, rfl, World.ownsRow_nil _ _ _ _, H2.out, Out.of_below hb2⟩

/-- what Live tells -/
def tLive (T : Tab) (t u : ByteArray) (now : Int) : List Sess := if timeErr now T.noted ≠ 0 then [] else T.l.filter (liveB t u now)

set_option maxHeartbeats 1600000 in
theorem tabLive_any {w : World} {B p mb n : Nat} {T : Tab} (h : TabAt w B p mb n T) (ok : TabOk T) (hln : T.l.length ≤ 1000000000) (t u : ByteArray) (now : Int) :
    Calls Tryd.prog 29 #[.pointer (some ⟨p, 0, none⟩), .agg #[.string t, .string u], .int .i64 now] w fun e w' => ∃ v, e = .returned (.tuple #[v, .int .i64 (timeErr now T.noted)]) ∧ w'.ownsRow w.heap.size 42 5 v (tLive T t u now).length (sCells (tLive T t u now)) ∧ Below w.heap.size w w' := by
  have hb2 : Below w.heap.size w (w.alloc (.cells #[.string t, .string u] 30)) := (Below.refl _ w).alloc (Nat.le_refl _) _
  have h2 := h.below hb2
  have Hte := timeError_any h2 now
  by_cases e0 : timeErr now T.noted = 0
  · have ea : tLive T t u now = T.l.filter (liveB t u now) := by unfold tLive; rw [if_neg (by simp [e0])]
    rw [e0] at Hte ⊢
    rw [ea]
    have Hl := hid (live_any h2 ok hln t u now)
    clear h h2 ok e0 ea
    go_enter Tryd.func29, Tryd.ntmps29
    go_wp2_with (first
      | (go_at_call 46; refine Hte.mono ?_; rintro e w2 ⟨rfl, rfl⟩)
      | (go_at_call 53; refine Hl.out.mono ?_; rintro e w1 ⟨v, rfl, hrow, hb1⟩))
    go_ret2
    exact ⟨_, rfl, hrow.mono (by simp), hb2.trans (hb1.mono (by simp))⟩
  · have ea : tLive T t u now = [] := by unfold tLive; rw [if_pos (by simpa using e0)]
    rw [ea]
    have b0 : (timeErr now T.noted == 0) = false := by simpa using e0
    generalize timeErr now T.noted = x at *
    clear h h2 ok ea
    go_enter Tryd.func29, Tryd.ntmps29
    go_wp2_with (first
      | (go_at_call 46; refine Hte.mono ?_; rintro e w2 ⟨rfl, rfl⟩))
    go_ret2
    exact ⟨_, rfl, World.ownsRow_nil _ _ _ _, hb2⟩
end Go.Proofs.YtcchlcbonfdhpaaDoor
