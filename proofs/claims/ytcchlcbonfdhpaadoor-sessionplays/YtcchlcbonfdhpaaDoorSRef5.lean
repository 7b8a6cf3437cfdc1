/- The reference's EndAll and Sweep, each by a contract. -/
import Derived.Test.YtcchlcbonfdhpaaDoorSRef4
namespace Go.Proofs.YtcchlcbonfdhpaaDoor
open Go.RowKit Go.Maps Go.Sort Go.Shelf
set_option linter.unusedVariables false
set_option maxRecDepth 20000

theorem butId_without (l : List Sess) (zs : List Int) (x : Int) : butId (without l zs) x = without l (zs ++ [x]) := by
  unfold butId without
  rw [List.filter_filter]
  refine List.filter_congr fun s _ => ?_
  rw [Bool.eq_iff_iff]
  simp
  constructor
  · rintro ⟨h1, h2⟩
    exact ⟨h2, h1⟩
  · rintro ⟨h1, h2⟩
    exact ⟨h2, h1⟩
theorem wanted_snoc {l : List Sess} {f : Sess → Bool} {k : Nat} {s : Sess} (h : l[k]? = some s) : wantedIds (l.take (k + 1)) f = wantedIds (l.take k) f ++ (if f s then [s.id] else []) := by
  unfold wantedIds
  rw [take_snoc_get h, List.filter_append, List.map_append]
  congr 1
  by_cases hf : f s = true <;> simp [hf]
theorem SIn.out {w w' : World} {r : Nat} {a : Option Addr} {l : List Sess} (h : SIn w a l) (ho : Out (fun k => k = r) w w') (hne : ∀ ad, a = some ad → ad.block ≠ r) : SIn w' a l := fun i hi => by
  obtain ⟨b, o, e, h0, h1, h2, h3, h4⟩ := h i hi
  have hb := ho.cells b (World.block_lt_of_cell? _ _ h0) (hne _ e)
  exact ⟨b, o, e, (hb.1 _).trans h0, (hb.1 _).trans h1, (hb.1 _).trans h2, (hb.1 _).trans h3, (hb.1 _).trans h4⟩
theorem RTab.ane {w : World} {B r : Nat} {a : Option Addr} {cap : Nat} {T : Tab} (h : RTab w B r a cap T) : ∀ ad, a = some ad → ad.block ≠ r := fun ad e e2 => h.ne (by rw [e, ← e2]; rfl)

theorem RTab.grown {w w' : World} {B r : Nat} {a : Option Addr} {cap : Nat} {T : Tab} {row : Option Nat} (h : RTab w B r a cap T) (hg : w.grownBy w' row) (h1 : some r ≠ row) (h2 : ∀ ad, a = some ad → some ad.block ≠ row) : RTab w' B r a cap T :=
  h.keep fun j hj => hg.block j (h.lts j hj).2 (by
    rcases hj with rfl | ⟨ad, e, rfl⟩
    · exact h1
    · exact h2 ad e)
theorem grown_cell {w w' : World} {row : Option Nat} (hg : w.grownBy w' row) (b o : Nat) (hb : b < w.heap.size) (hne : some b ≠ row) : w'.cell? ⟨b, o, none⟩ = w.cell? ⟨b, o, none⟩ := World.cell?_of_block (a := ⟨b, o, none⟩) (hg.block b hb hne)

theorem Out.drew {P : Nat → Prop} {w w' : World} (h : Out P w w') : Out P w w'.drew := ⟨h.os, h.tape, h.output, h.size, h.block⟩
theorem Out.next {P : Nat → Prop} {w0 w w' w'' : World} {row : Option Nat} (h : Out P w0 w) (hg : w.grownBy w' row) (hn : ∀ j, j < w0.heap.size → some j ≠ row) (ho : Out P w' w'') : Out P w0 w'' :=
  ⟨ho.os.trans (hg.os.trans h.os), ho.tape.trans (hg.tape.trans h.tape), ho.output.trans (hg.output.trans h.output), Nat.le_trans h.size (Nat.le_trans hg.size ho.size), fun k hk hp => by
    have h1 := h.size
    have h2 := hg.size
    rw [ho.block k (by omega) hp, hg.block k (by omega) (hn k hk), h.block k hk hp]⟩

/-- what a round of EndAll and Sweep finds -/
def ERel (w : World) (b0 : Nat) (B r : Nat) (T : Tab) (f : Sess → Bool) (k : Nat) (v : Value) (wr : World) : Prop :=
  ∃ a' cap', RTab wr B r a' cap' ⟨T.next, T.noted, without T.l (wantedIds (T.l.take k) f)⟩ ∧ wr.ownsRow b0 3 1 v (wantedIds (T.l.take k) f).length (zCells (wantedIds (T.l.take k) f)) ∧ (∀ ad, a' = some ad → some ad.block ≠ v.ownBlock) ∧ Out (fun k => k = r) w wr ∧ b0 ≤ wr.heap.size
theorem without_len (l : List Sess) (zs : List Int) : (without l zs).length ≤ l.length := List.length_filter_le _ _
theorem wanted_len (l : List Sess) (f : Sess → Bool) (k : Nat) : (wantedIds (l.take k) f).length ≤ l.length := by
  unfold wantedIds
  rw [List.length_map]
  have h1 := List.length_filter_le f (l.take k)
  have h2 : (l.take k).length ≤ l.length := by rw [List.length_take]; omega
  omega

set_option maxHeartbeats 3200000 in
theorem rEndAll_any {w : World} {B r : Nat} {a : Option Addr} {cap : Nat} {T : Tab} (h : RTab w B r a cap T) (ok : TabOk T) (hl : T.l.length ≤ 1000000000) (hB : B ≤ w.heap.size) (t u : ByteArray) :
    Calls Tryd.prog 26 #[.pointer (some ⟨r, 0, none⟩), .agg #[.string t, .string u]] w fun e w' => ∃ v, e = .returned v ∧ w'.ownsRow w.heap.size 3 1 v (wantedIds T.l (ownB t u)).length (zCells (wantedIds T.l (ownB t u))) ∧ (∃ a' cap', RTab w' B r a' cap' ⟨T.next, T.noted, T.l.filter fun s => !ownB t u s⟩) ∧ Out (fun k => k = r) w w' := by
  have hr := h.lt
  have hN1 : Nums1 Sess.id T.l := ok.up.imp (fun h => by omega)
  have hb2 : Below w.heap.size w (w.alloc (.cells #[.string t, .string u] 30)) := (Below.refl _ w).alloc (Nat.le_refl _) _
  have h2 := h.below hb2
  have c2 := h2.c2
  have HR0 : Hid (ERel w (w.heap.size + 1) B r T (ownB t u) 0 (.slice none 0 0) (w.alloc (.cells #[.string t, .string u] 30))) := ⟨a, cap, by rw [List.take_zero]; show RTab _ _ _ _ _ ⟨T.next, T.noted, without T.l []⟩; rw [without_nil]; exact h2, World.ownsRow_nil _ _ _ _, fun ad _ => by simp [Value.ownBlock], Out.of_below hb2, by simp⟩
  have HS := hid h.sin
  have Hane := hid h.ane
  have HN1 := hid hN1
  have hbt : ∀ W, Out (fun k => k = r) (w.alloc (.cells #[.string t, .string u] 30)) W → W.cell? ⟨w.heap.size, 0, none⟩ = some (.string t) ∧ W.cell? ⟨w.heap.size, 1, none⟩ = some (.string u) := fun W hW => by
    have := hW.cells w.heap.size (by simp) (by omega)
    exact ⟨(this.1 0).trans (World.cell?_alloc_at _ _ _ _ rfl), (this.1 1).trans (World.cell?_alloc_at _ _ _ _ rfl)⟩
  clear h h2 ok hN1 hbt
  go_enter Tryd.func26, Tryd.ntmps26
  go_wp2
  go_loopw [5, 7] (fun v i wr => ∃ k : Nat, k ≤ T.l.length ∧ i = .int .i64 k ∧ ERel w (w.heap.size + 1) B r T (ownB t u) k v wr ∧ wr.cell? ⟨w.heap.size, 0, none⟩ = some (.string t) ∧ wr.cell? ⟨w.heap.size, 1, none⟩ = some (.string u))
    (fun _ i _ => T.l.length - (intOf i).toNat)
  case atStart => exact ⟨0, Nat.zero_le _, rfl, HR0.out, by rw [World.cell?_alloc_at _ _ _ _ rfl]; rfl, by rw [World.cell?_alloc_at _ _ _ _ rfl]; rfl⟩
  case round =>
    obtain ⟨k, hk, rfl, ⟨a', cap', hR, hrow, hsep, ho, hzr'⟩, q0, q1⟩ := hrel
    have hzr : w.heap.size < wr.heap.size := hzr'
    have HR := hid hR
    have Hrow := hid hrow
    have Hsep := hid hsep
    have Ho := hid ho
    clear hR hrow hsep ho HR0
    by_cases hlt : k < T.l.length
    · have Hg : Hid (T.l[k]? = some T.l[k]) := List.getElem?_eq_getElem hlt
      generalize T.l[k] = s at *
      obtain ⟨_, b, o, ea, d0, d1, d2, d3, d4⟩ := (HS.out.out Ho.out Hane.out).at Hg.out
      cases ea
      have Hsn := hid (wanted_snoc (f := ownB t u) Hg.out)
      have hwl := wanted_len T.l (ownB t u) k
      by_cases h1 : s.ten.toList = t.toList ∧ s.usr.toList = u.toList
      · obtain ⟨h1, h1'⟩ := h1
        have Hf : Hid (ownB t u s = true) := by show _ = _; unfold ownB; simp [h1, h1']
        have hbl0 : b < w.heap.size := by
          obtain ⟨_, b2, o2, e2, f0, _⟩ := HS.out.at Hg.out
          cases e2
          exact World.block_lt_of_cell? _ _ f0
        have hbl : b < wr.heap.size := by omega
        go_wp2
        go_region
        all_goals
          go_wp2_with (first
            | (at_builtin; refine app_int wr.drew rfl _ _ rfl (w.heap.size + 1) u5 (wantedIds (T.l.take k) (ownB t u)) rfl Hrow.out s.id rfl (by omega) (by show w.heap.size + 1 ≤ wr.heap.size; omega) ?_; intro v' w3 hrow3 hg3; have hR3 := hid ((HR.out.keep (w' := wr.drew) (fun _ _ => rfl)).grown hg3 (row_ne_low Hrow.out (by omega)) Hsep.out); have e0 := (grown_cell hg3 b (o + k * 5) hbl (row_ne_low Hrow.out (by omega))).trans d0; have hz3 : wr.heap.size ≤ w3.heap.size := hg3.size)
            | (go_at_call 49; refine (rDrop_any hR3.out (by have := without_len T.l (wantedIds (T.l.take k) (ownB t u)); show (without T.l _).length ≤ _; omega) s.id (by omega)).mono ?_; rintro e w4 ⟨rfl, ⟨a4, c4, hR4, hfr⟩, ho4⟩)
            | go_in)
          go_roundw
          case rel =>
            have hrow4 : w4.ownsRow (w.heap.size + 1) 3 1 v' (wantedIds (T.l.take k) (ownB t u) ++ [s.id]).length (zCells (wantedIds (T.l.take k) (ownB t u) ++ [s.id])) := hrow3.kept (grown_of_out ho4) (.inr (Ne.symm (row_ne_low hrow3 (by omega))))
            have hW : ERel w (w.heap.size + 1) B r T (ownB t u) (k + 1) v' w4 := by
              refine ⟨a4, c4, ?_, ?_, fun ad e => ?_, Ho.out.drew.next hg3 (fun j hj => row_ne_low Hrow.out (by omega)) ho4, by have := ho4.size; omega⟩
              · rw [Hsn.out, Hf.out, if_pos rfl, ← butId_without]
                exact hR4
              · rw [Hsn.out, Hf.out, if_pos rfl]
                exact hrow4
              · have h1 := hfr ad e
                intro e2
                have h2 := (hrow3.lt ad.block e2.symm).2
                omega
            exact ⟨k + 1, by omega, by go_num, hW, ((ho4.cells w.heap.size (by omega) (by omega)).1 0).trans ((grown_cell hg3 w.heap.size 0 hzr (row_ne_low Hrow.out (by omega))).trans q0), ((ho4.cells w.heap.size (by omega) (by omega)).1 1).trans ((grown_cell hg3 w.heap.size 1 hzr (row_ne_low Hrow.out (by omega))).trans q1)⟩
          case measure => simp [intOf]; omega
      · have Hf : Hid (ownB t u s = false) := by
          show _ = _
          unfold ownB
          rw [Bool.and_eq_false_iff]
          by_cases c1 : s.ten.toList = t.toList
          · right
            simp
            exact fun c2 => h1 ⟨c1, c2⟩
          · left
            simp [c1]
        have hRn : Hid (ERel w (w.heap.size + 1) B r T (ownB t u) (k + 1) u5 wr.drew) := by
          refine ⟨a', cap', ?_, ?_, Hsep.out, Ho.out.trans (Out.of_below (P := fun k => k = r) (below_drewN _ _ 1)) (fun i hi e => e), hzr⟩
          · rw [Hsn.out, Hf.out]
            simp only [Bool.false_eq_true, if_false, List.append_nil]
            exact HR.out.keep (fun _ _ => rfl)
          · rw [Hsn.out, Hf.out]
            simp only [Bool.false_eq_true, if_false, List.append_nil]
            exact Hrow.out
        by_cases c1 : s.ten.toList = t.toList
        · have c2' : ¬ s.usr.toList = u.toList := fun c2 => h1 ⟨c1, c2⟩
          clear h1
          go_wp2
          go_region
          all_goals
            go_wp2
            go_roundw
            case rel => exact ⟨k + 1, by omega, by go_num, hRn.out, q0, q1⟩
            case measure => simp [intOf]; omega
        · clear h1
          go_wp2
          go_region
          all_goals
            go_wp2
            go_roundw
            case rel => exact ⟨k + 1, by omega, by go_num, hRn.out, q0, q1⟩
            case measure => simp [intOf]; omega
    · have e : k = T.l.length := by omega
      subst e
      have hR2 := HR.out
      have hrow2 := Hrow.out
      rw [List.take_length] at hrow2 hR2
      rw [without_wanted HN1.out] at hR2
      have HR2 := hid hR2
      have Hrow2 := hid hrow2
      clear hR2 hrow2
      go_wp2
      go_ret
      exact ⟨_, rfl, Hrow2.out.mono (by omega), ⟨_, _, HR2.out⟩, Ho.out⟩

set_option maxHeartbeats 3200000 in
theorem rSweep_any {w : World} {B r : Nat} {a : Option Addr} {cap : Nat} {T : Tab} (h : RTab w B r a cap T) (ok : TabOk T) (hl : T.l.length ≤ 1000000000) (hB : B ≤ w.heap.size) (now : Int) :
    Calls Tryd.prog 28 #[.pointer (some ⟨r, 0, none⟩), .int .i64 now] w fun e w' => ∃ v, e = .returned (.tuple #[v, .int .i64 (timeErr now T.noted)]) ∧ w'.ownsRow w.heap.size 3 1 v (sweepIds T now).length (zCells (sweepIds T now)) ∧ (∃ a' cap', RTab w' B r a' cap' (tSweep T now)) ∧ Out (fun k => k = r) w w' := by
  have hr := h.lt
  have hN1 : Nums1 Sess.id T.l := ok.up.imp (fun h => by omega)
  have Hte := rTime_any h now
  by_cases e0 : timeErr now T.noted = 0
  · have ea : tSweep T now = ⟨T.next, now, T.l.filter fun s => !overB s now⟩ := by unfold tSweep; rw [if_neg (by simp [e0])]
    have eb : sweepIds T now = wantedIds T.l (fun s => overB s now) := by unfold sweepIds; rw [if_neg (by simp [e0])]
    rw [e0] at Hte ⊢
    rw [ea, eb]
    have c1 := h.c1
    have z1 := h.z 1
    have h2 : RTab (w.setCell ⟨r, 1, none⟩ (.int .i64 now)) B r a cap ⟨T.next, now, T.l⟩ := by
      refine ⟨?_, h.row.kept (grown_of_out ((Out.refl (fun k => k = r) w).setCell ⟨r, 1, none⟩ _ rfl)) (.inr h.ne), h.br, h.ne⟩
      rw [heap_setCell_same w r 1 _ _ (.int .i64 now) h.obj]
      simp
    have ho2 : Out (fun k => k = r) w (w.setCell ⟨r, 1, none⟩ (.int .i64 now)) := (Out.refl _ w).setCell ⟨r, 1, none⟩ _ rfl
    have c2 := h2.c2
    have HR0 : Hid (ERel w w.heap.size B r ⟨T.next, now, T.l⟩ (fun s => overB s now) 0 (.slice none 0 0) (w.setCell ⟨r, 1, none⟩ (.int .i64 now))) := ⟨a, cap, by rw [List.take_zero]; show RTab _ _ _ _ _ ⟨T.next, now, without T.l []⟩; rw [without_nil]; exact h2, World.ownsRow_nil _ _ _ _, fun ad _ => by simp [Value.ownBlock], ho2, by simp [World.setCell]⟩
    have HS := hid h.sin
    have Hane := hid h.ane
    have HN1 := hid hN1
    have Htm := hid ok.times
    clear h h2 ho2 ok hN1 e0 ea eb
    go_enter Tryd.func28, Tryd.ntmps28
    go_wp2_with (go_at_call 43; refine Hte.mono ?_; rintro e w2 ⟨rfl, hw2⟩; have hw3 := hw2.symm; subst hw3; clear hw2)
    go_loopw [7, 9] (fun v i wr => ∃ k : Nat, k ≤ T.l.length ∧ i = .int .i64 k ∧ ERel w w.heap.size B r ⟨T.next, now, T.l⟩ (fun s => overB s now) k v wr)
      (fun _ i _ => T.l.length - (intOf i).toNat)
    case atStart => exact ⟨0, Nat.zero_le _, rfl, HR0.out⟩
    case round =>
      obtain ⟨k, hk, rfl, ⟨a', cap', hR, hrow, hsep, ho, hzr⟩⟩ := hrel
      have HR := hid hR
      have Hrow := hid hrow
      have Hsep := hid hsep
      have Ho := hid ho
      clear hR hrow hsep ho HR0
      by_cases hlt : k < T.l.length
      · have Hg : Hid (T.l[k]? = some T.l[k]) := List.getElem?_eq_getElem hlt
        generalize T.l[k] = s at *
        obtain ⟨_, b, o, ea, d0, d1, d2, d3, d4⟩ := (HS.out.out Ho.out Hane.out).at Hg.out
        cases ea
        have Hsn := hid (wanted_snoc (f := fun s => overB s now) Hg.out)
        have hwl := wanted_len T.l (fun s => overB s now) k
        have Hov := fun w => rOver_any s now w (Htm.out s (List.mem_of_getElem? Hg.out))
        have hbl0 : b < w.heap.size := by
          obtain ⟨_, b2, o2, e2, f0, _⟩ := HS.out.at Hg.out
          cases e2
          exact World.block_lt_of_cell? _ _ f0
        have hbl : b < wr.heap.size := by omega
        cases hf : overB s now
        · rw [hf] at Hov
          have Hf := hid hf
          clear hf
          go_wp2_with (go_at_call 44; refine (Hov _).mono ?_; rintro e w3 ⟨rfl, hb3⟩)
          go_roundw
          case rel =>
            refine ⟨k + 1, by omega, by go_num, a', cap', ?_, ?_, Hsep.out, Ho.out.trans (Out.of_below (P := fun k => k = r) hb3) (fun i hi e => e), by have := hb3.size; omega⟩
            · show RTab _ _ _ _ _ ⟨T.next, now, without T.l (wantedIds (T.l.take (k + 1)) (fun s => overB s now))⟩
              rw [Hsn.out, Hf.out]
              simp only [Bool.false_eq_true, if_false, List.append_nil]
              exact HR.out.below hb3
            · show w3.ownsRow _ _ _ _ (wantedIds (T.l.take (k + 1)) (fun s => overB s now)).length (zCells (wantedIds (T.l.take (k + 1)) (fun s => overB s now)))
              rw [Hsn.out, Hf.out]
              simp only [Bool.false_eq_true, if_false, List.append_nil]
              exact Hrow.out.kept (grown_of_below hb3) (Classical.em _)
          case measure => simp [intOf]; omega
        · rw [hf] at Hov
          have Hf := hid hf
          clear hf
          go_wp2_with (first
            | (go_at_call 44; refine (Hov _).mono ?_; rintro e w5 ⟨rfl, hb5⟩; have dd0 := (hb5.cell (p := ⟨b, o + k * 5, none⟩) hbl).trans d0; have Hrow5 := hid (Hrow.out.kept (grown_of_below hb5) (Classical.em _)); have hz5 := hb5.size)
            | (at_builtin; refine app_int w5 rfl _ _ rfl w.heap.size u7 (wantedIds (T.l.take k) (fun s => overB s now)) rfl Hrow5.out s.id rfl (by omega) (by omega) ?_; intro v' w3 hrow3 hg3; have hR3 := hid ((HR.out.below hb5).grown hg3 (row_ne_low Hrow5.out (by omega)) Hsep.out); have e0 := (grown_cell hg3 b (o + k * 5) (by omega) (row_ne_low Hrow5.out (by omega))).trans dd0; have hz3 : w5.heap.size ≤ w3.heap.size := hg3.size)
            | (go_at_call 49; refine (rDrop_any hR3.out (by have := without_len T.l (wantedIds (T.l.take k) (fun s => overB s now)); show (without T.l _).length ≤ _; omega) s.id (by omega)).mono ?_; rintro e w4 ⟨rfl, ⟨a4, c4, hR4, hfr⟩, ho4⟩)
            | go_in)
          go_roundw
          case rel =>
            have hrow4 : w4.ownsRow w.heap.size 3 1 v' (wantedIds (T.l.take k) (fun s => overB s now) ++ [s.id]).length (zCells (wantedIds (T.l.take k) (fun s => overB s now) ++ [s.id])) := hrow3.kept (grown_of_out ho4) (.inr (Ne.symm (row_ne_low hrow3 (by omega))))
            refine ⟨k + 1, by omega, by go_num, a4, c4, ?_, ?_, fun ad e => ?_, (Ho.out.trans (Out.of_below (P := fun k => k = r) hb5) (fun i hi e => e)).next hg3 (fun j hj => row_ne_low Hrow5.out (by omega)) ho4, by have := ho4.size; omega⟩
            · show RTab _ _ _ _ _ ⟨T.next, now, without T.l (wantedIds (T.l.take (k + 1)) (fun s => overB s now))⟩
              rw [Hsn.out, Hf.out, if_pos rfl, ← butId_without]
              exact hR4
            · show w4.ownsRow _ _ _ _ (wantedIds (T.l.take (k + 1)) (fun s => overB s now)).length (zCells (wantedIds (T.l.take (k + 1)) (fun s => overB s now)))
              rw [Hsn.out, Hf.out, if_pos rfl]
              exact hrow4
            · have h1 := hfr ad e
              intro e2
              have h2 := (hrow3.lt ad.block e2.symm).2
              omega
          case measure => simp [intOf]; omega
      · have e : k = T.l.length := by omega
        subst e
        have hR2 := HR.out
        have hrow2 := Hrow.out
        rw [List.take_length] at hrow2 hR2
        rw [without_wanted HN1.out] at hR2
        have HR2 := hid hR2
        have Hrow2 := hid hrow2
        clear hR2 hrow2
        go_wp2
        go_ret2
        exact ⟨_, rfl, Hrow2.out, ⟨_, _, HR2.out⟩, Ho.out⟩
  · have ea : tSweep T now = T := by unfold tSweep; rw [if_pos (by simpa using e0)]
    have eb : sweepIds T now = [] := by unfold sweepIds; rw [if_pos (by simpa using e0)]
    rw [ea, eb]
    have b0 : (timeErr now T.noted == 0) = false := by simpa using e0
    generalize timeErr now T.noted = x at *
    have HH := hid h
    clear h ok ea eb
    go_enter Tryd.func28, Tryd.ntmps28
    go_wp2_with (go_at_call 43; refine Hte.mono ?_; rintro e w2 ⟨rfl, hw2⟩; have hw3 := hw2.symm; subst hw3; clear hw2)
    go_ret2
    exact ⟨_, rfl, World.ownsRow_nil _ _ _ _, ⟨_, _, HH.out⟩, Out.refl _ _⟩
end Go.Proofs.YtcchlcbonfdhpaaDoor
