/- SameInts of the reference and sameSessions of the laws, each by a contract; deeds on both tables. -/
import Derived.Test.YtcchlcbonfdhpaaDoorSRef7
namespace Go.Proofs.YtcchlcbonfdhpaaDoor
open Go.RowKit Go.Maps Go.Sort Go.Shelf
set_option linter.unusedVariables false
set_option maxRecDepth 20000

set_option maxHeartbeats 1600000 in
theorem sameInts_any {w : World} {a b : Option Addr} {zs : List Int} (ha : Ints w a zs) (hb : Ints w b zs) (c d : Nat) (hl : zs.length ≤ 1000000000) :
    Calls Tryd.prog 24 #[.slice a zs.length c, .slice b zs.length d] w fun e w' => e = .returned (.bool true) ∧ Below w.heap.size w w' := by
  have Ha := hid ha
  have Hb := hid hb
  clear ha hb
  generalize hN : zs.length = N at *
  have HN := hid hN
  clear hN
  go_enter Tryd.func24, Tryd.ntmps24
  go_wp2
  go_loopw [5] (fun i wr => ∃ k : Nat, k ≤ N ∧ i = .int .i64 k ∧ Below w.heap.size w wr) (fun i _ => N - (intOf i).toNat)
  case atStart => exact ⟨0, Nat.zero_le _, rfl, Below.refl _ _⟩
  case round =>
    obtain ⟨k, hk, rfl, hbl⟩ := hrel
    have Hbl := hid hbl
    clear hbl
    by_cases hlt : k < N
    · obtain ⟨b1, o1, e1, c1⟩ := (Ha.out.below Hbl.out) k (by rw [HN.out]; exact hlt)
      obtain ⟨b2, o2, e2, c2⟩ := (Hb.out.below Hbl.out) k (by rw [HN.out]; exact hlt)
      cases e1
      cases e2
      generalize zs[k]'(by rw [HN.out]; exact hlt) = z at *
      go_wp2
      go_region
      all_goals
        go_wp2
        go_roundw
        case rel => exact ⟨k + 1, by omega, by go_num, Hbl.out.trans (below_drewN _ _ 1)⟩
        case measure => simp [intOf]; omega
    · have e : k = N := by omega
      subst e
      go_wp2
      go_ret
      exact ⟨rfl, Hbl.out⟩

set_option maxHeartbeats 3200000 in
theorem sameSess_any {w : World} {a b : Option Addr} {l : List Sess} (ha : SIn w a l) (hb : SIn w b l) (c d : Nat) (hl : l.length ≤ 1000000000) :
    Calls Tryd.prog 31 #[.slice a l.length c, .slice b l.length d] w fun e w' => e = .returned (.bool true) ∧ Below w.heap.size w w' := by
  have Ha := hid ha
  have Hb := hid hb
  clear ha hb
  go_enter Tryd.func31, Tryd.ntmps31
  go_wp2
  go_loopw [5] (fun i wr => ∃ k : Nat, k ≤ l.length ∧ i = .int .i64 k ∧ Below w.heap.size w wr) (fun i _ => l.length - (intOf i).toNat)
  case atStart => exact ⟨0, Nat.zero_le _, rfl, Below.refl _ _⟩
  case round =>
    obtain ⟨k, hk, rfl, hbl⟩ := hrel
    have Hbl := hid hbl
    clear hbl
    by_cases hlt : k < l.length
    · have Hg : Hid (l[k]? = some l[k]) := List.getElem?_eq_getElem hlt
      generalize l[k] = s at *
      obtain ⟨_, b1, o1, e1, c0, c1, c2, c3, c4⟩ := (Ha.out.below Hbl.out).at Hg.out
      obtain ⟨_, b2, o2, e2, d0, d1, d2, d3, d4⟩ := (Hb.out.below Hbl.out).at Hg.out
      cases e1
      cases e2
      go_wp2
      go_region
      all_goals
        go_wp2
        go_roundw
        case rel => exact ⟨k + 1, by omega, by go_num, Hbl.out.trans (below_drewN _ _ 1)⟩
        case measure => simp [intOf]; omega
    · have e : k = l.length := by omega
      subst e
      go_wp2
      go_ret
      exact ⟨rfl, Hbl.out⟩

/-- both tables, with the same sessions -/
structure Both (w : World) (B p mb r n : Nat) (T : Tab) : Prop where
  tab : TabAt w B p mb n T
  ref : ∃ a cap, RTab w B r a cap T
theorem sep {w : World} {B B' p mb r n : Nat} {a : Option Addr} {cap : Nat} {T T' : Tab} (h : TabAt w B p mb n T) (k : RTab w B' r a cap T') : ∀ j, rBlock r a j → j ≠ p ∧ j ≠ mb := by
  intro j hj
  obtain ⟨es, clock, hm⟩ := h.map.isMap
  rcases hj with rfl | ⟨ad, rfl, rfl⟩
  · refine ⟨?_, ?_⟩
    · rintro rfl
      have := h.obj.symm.trans k.obj
      simp at this
    · rintro rfl
      have := hm.symm.trans k.obj
      simp at this
  · rcases k.row.2 with ⟨h0, _⟩ | ⟨g, cap', cur, e, hg, hb, _⟩
    · cases h0
    · injection e with e1
      cases e1
      refine ⟨?_, ?_⟩
      · intro e2
        have e3 : g = p := e2
        rw [e3] at hb
        have := h.obj.symm.trans hb
        simp at this
      · intro e2
        have e3 : g = mb := e2
        rw [e3] at hb
        have := hm.symm.trans hb
        simp at this
theorem Both.below {w w' : World} {B p mb r n : Nat} {T : Tab} (h : Both w B p mb r n T) (hb : Below w.heap.size w w') : Both w' B p mb r n T := by
  obtain ⟨h1, a, cap, h2⟩ := h
  exact ⟨h1.below hb, a, cap, h2.below hb⟩
theorem Both.lts {w : World} {B p mb r n : Nat} {T : Tab} (h : Both w B p mb r n T) : p < w.heap.size ∧ mb < w.heap.size ∧ r < w.heap.size ∧ r ≠ p ∧ r ≠ mb ∧ B ≤ p ∧ B ≤ mb ∧ B ≤ r := by
  obtain ⟨h1, a, cap, h2⟩ := h
  exact ⟨h1.lts.1, h1.lts.2, h2.lt, (sep h1 h2 r (.inl rfl)).1, (sep h1 h2 r (.inl rfl)).2, h1.bp, h1.bm, h2.br⟩
/-- the program's table has changed: the reference's is as it was -/
theorem RTab.outP {w w' : World} {B p mb r n : Nat} {a : Option Addr} {cap : Nat} {T T' : Tab} (k : RTab w B r a cap T) (h : TabAt w B p mb n T') (ho : Out (fun k => k = p ∨ k = mb) w w') : RTab w' B r a cap T :=
  k.keep fun j hj => ho.block j (k.lts j hj).2 (fun e => by
    have := sep h k j hj
    rcases e with e | e
    · exact this.1 e
    · exact this.2 e)
theorem TabAt.outR {w w' : World} {B p mb n r : Nat} {a : Option Addr} {cap : Nat} {T T' : Tab} (h : TabAt w B p mb n T) (k : RTab w B r a cap T') (ho : Out (fun k => k = r) w w') : TabAt w' B p mb n T :=
  h.keep (ho.block p h.lts.1 (fun e => (sep h k r (.inl rfl)).1 e.symm)) (ho.block mb h.lts.2 (fun e => (sep h k r (.inl rfl)).2 e.symm))

/-- a deed -/
structure SDeed where
  kind : Int
  ten : ByteArray
  usr : ByteArray
  id : Int
  now : Int
/-- what a deed makes of a table -/
def tDo (T : Tab) (x : SDeed) : Tab :=
  if x.kind = 0 then (tBegin T x.ten x.usr x.now).1
  else if x.kind = 1 then (tTouch T x.id x.now).1
  else if x.kind = 2 then T
  else if x.kind = 3 then (tEnd T x.id).1
  else if x.kind = 4 then ⟨T.next, T.noted, T.l.filter fun s => !ownB x.ten x.usr s⟩
  else if x.kind = 5 then tSweep T x.now
  else T
theorem tDo_ok {T : Tab} (ok : TabOk T) (x : SDeed) : TabOk (tDo T x) := by
  unfold tDo
  split
  · exact tBegin_ok ok _ _ _
  · split
    · exact tTouch_ok ok _ _
    · split
      · exact ok
      · split
        · exact tEnd_ok ok _
        · split
          · exact ok.sub List.filter_sublist _ ⟨Int.le_refl _, ok.nt.2⟩
          · split
            · exact tSweep_ok ok _
            · exact ok
theorem tDo_len (T : Tab) (x : SDeed) : (tDo T x).l.length ≤ T.l.length + 1 := by
  unfold tDo
  split
  · unfold tBegin
    split
    · show T.l.length ≤ _
      omega
    · show (T.l ++ [_]).length ≤ _
      rw [List.length_append]
      simp
  · split
    · unfold tTouch
      split
      · show T.l.length ≤ _
        omega
      · show (T.l.map _).length ≤ _
        rw [List.length_map]
        omega
    · split
      · omega
      · split
        · unfold tEnd
          split
          · show T.l.length ≤ _
            omega
          · split
            · show T.l.length ≤ _
              omega
            · have := List.length_filter_le (fun s : Sess => !(s.id == x.id)) T.l
              show (T.l.filter _).length ≤ _
              omega
        · split
          · have := List.length_filter_le (fun s : Sess => !ownB x.ten x.usr s) T.l
            show (T.l.filter _).length ≤ _
            omega
          · split
            · unfold tSweep
              split
              · omega
              · have := List.length_filter_le (fun s : Sess => !overB s x.now) T.l
                show (T.l.filter _).length ≤ _
                omega
            · omega
end Go.Proofs.YtcchlcbonfdhpaaDoor
