/- YtdglmoikgmlaaaaGreatDoorJSort + YtdglmoikgmlaaaaGreatDoorJRow + YtdglmoikgmlaaaaGreatDoorJRows -/
import Derived.Test.YtdglmoikgmlaaaaGreatDoorJX1
import Derived.Test.YtdglmoikgmlaaaaGreatDoorRShelf
import Derived.Lib.Bytealg
import Derived.Lib.Strings
import Derived.Maps.RangeWalk
/- state.Sort: rows in the order of their keys' bytes. -/
namespace Go.Proofs.YtdglmoikgmlaaaaGreatDoor.Xr
open Go.RowKit Go.Maps Go.Shelf Go.Sort Go.Lib
set_option linter.unusedVariables false
set_option maxRecDepth 20000
theorem cmp_lt : ∀ a b : List UInt8, decide (Lib.compareBytes a b < 0) = decide (a < b)
  | [], [] => by simp [Lib.compareBytes]
  | [], _ :: _ => by simp [Lib.compareBytes]
  | _ :: _, [] => by simp [Lib.compareBytes]
  | a :: xs, b :: ys => by
    have ih := cmp_lt xs ys
    unfold Lib.compareBytes
    by_cases h1 : a < b
    · rw [if_pos h1, decide_eq_true (show (-1 : Int) < 0 by decide), decide_eq_true (List.cons_lt_cons_iff.2 (.inl h1))]
    · rw [if_neg h1]
      by_cases h2 : b < a
      · rw [if_pos h2, decide_eq_false (show ¬ (1 : Int) < 0 by decide), decide_eq_false]
        intro h
        rcases List.cons_lt_cons_iff.1 h with h | ⟨rfl, _⟩
        · exact h1 h
        · exact h1 h2
      · rw [if_neg h2, ih]
        have e : a = b := UInt8.le_antisymm (UInt8.not_lt.1 h2) (UInt8.not_lt.1 h1)
        subst e
        exact decide_eq_decide.2 ⟨fun h => List.cons_lt_cons_iff.2 (.inr ⟨rfl, h⟩), fun h => by
          rcases List.cons_lt_cons_iff.1 h with h | ⟨_, h⟩
          · exact absurd h h1
          · exact h⟩
set_option maxHeartbeats 1000000 in
theorem cmpString_any (a b : ByteArray) (w : World) : Calls Tryz.prog 76 #[.string a, .string b] w fun e w' => e = .returned (.int .i64 (Lib.compareBytes a.data.toList b.data.toList)) ∧ w' = w := by
  go_enter Tryz.func76, Tryz.ntmps76
  go_wp2
  rw [run_callFunc_extern Tryz.func100 (by kernel_rfl) (by kernel_rfl) (by kernel_rfl) (e := Extern.BytealgCompare.compare) (by kernel_rfl), Lib.run_compareString]
  simp only [Result.andThen]
  rw [Oper.upon_value]
  go_wp2
  go_ret
  exact ⟨rfl, rfl⟩
set_option maxHeartbeats 1000000 in
theorem compare_any (a b : ByteArray) (w : World) : Calls Tryz.prog 54 #[.string a, .string b] w fun e w' => e = .returned (.int .i64 (Lib.compareBytes a.data.toList b.data.toList)) ∧ w' = w := by
  go_enter Tryz.func54, Tryz.ntmps54
  go_wp2_with (go_at_call 76; refine (cmpString_any _ _ _).mono ?_; rintro e w' ⟨rfl, rfl⟩)
  go_ret
  exact ⟨rfl, rfl⟩
instance : Inhabited RC := ⟨⟨⟨#[]⟩, none, 0, 0⟩⟩
def encRw (x : RC) : List Value := [.string x.key, .slice x.ad x.len x.cap]
theorem encRw_one (x : RC) : ∀ v ∈ encRw x, v.oneCell' = true := fun v hv => by
  simp [encRw] at hv
  rcases hv with rfl | rfl <;> rfl
def cfRw (x y : RC) : Int := Lib.compareBytes x.key.data.toList y.key.data.toList
set_option maxHeartbeats 1000000 in
theorem closureRw_any (x y : RC) (W : World) : Calls Tryz.prog 53 #[.agg #[.string x.key, .slice x.ad x.len x.cap], .agg #[.string y.key, .slice y.ad y.len y.cap]] W fun e w' => e = .returned (.int .i64 (cfRw x y)) ∧ ∃ q os', w' = grow (W.drewN q) os' := by
  have hcon := fun W' => compare_any x.key y.key W'
  change ∀ W', Calls Tryz.prog 54 _ W' (fun e w' => e = .returned (.int .i64 (cfRw x y)) ∧ w' = W') at hcon
  generalize cfRw x y = r at hcon ⊢
  go_enter Tryz.func53, Tryz.ntmps53
  go_wp2_with (go_at_call 54; refine (hcon _).mono ?_; rintro e w' ⟨rfl, rfl⟩)
  go_ret
  exact ⟨rfl, 0, _, by rw [alloc_eq_grow, alloc_eq_grow, grow_grow]; rfl⟩
theorem ltRw (x y : RC) : ltOf cfRw x y = decide (keyL x < keyL y) := by
  unfold ltOf cfRw keyL
  rw [cmp_lt, Lib.toList_data, Lib.toList_data]
theorem swoRw : SWO (ltOf cfRw) where
  irrefl x := by rw [ltRw]; exact decide_eq_false (List.lt_irrefl _)
  trans x y z h1 h2 := by rw [ltRw] at *; exact decide_eq_true (List.lt_trans (of_decide_eq_true h1) (of_decide_eq_true h2))
  ntrans x y z h1 h2 := by rw [ltRw] at *; exact decide_eq_false (key_trans (x := keyL z) (y := keyL y) (z := keyL x) (of_decide_eq_false h2) (of_decide_eq_false h1))
theorem sort_worldR {w : World} {g n : Nat} {d : Array RC} {os : Array Obj} : OutJ (fun k => k = g) w (sortWorldK encRw 2 w g 0 n d os) := by
  refine ⟨rfl, rfl, rfl, ?_, fun k hk hne => ?_⟩
  · show w.heap.size ≤ ((putRowK encRw 2 (Sort.ahead w n) g 0 d).heap ++ os).size
    have : (putRowK encRw 2 (Sort.ahead w n) g 0 d).heap.size = w.heap.size := size_putRow _ _ _ _ _
    simp [this]
  · have hs : (putRowK encRw 2 (Sort.ahead w n) g 0 d).heap.size = w.heap.size := size_putRow _ _ _ _ _
    show ((putRowK encRw 2 (Sort.ahead w n) g 0 d).heap ++ os)[k]? = w.heap[k]?
    rw [Array.getElem?_append_left (by rw [hs]; exact hk)]
    show (w.heap.modify g _)[k]? = _
    rw [Array.getElem?_modify, if_neg (fun e => hne e.symm)]
set_option maxHeartbeats 1000000 in
theorem sortRw_any (l : List RC) (g c : Nat) (w : World) (hH : HoldsK encRw 2 w g 0 l.toArray) (hg : g < w.heap.size) (hl : l.length ≤ 1000) :
    Calls Tryz.prog 52 #[.slice (some ⟨g, 0, none⟩) l.length c, .func (.func 53) #[] #[]] w fun e w' => e = .returned (.tuple #[]) ∧ ∃ S : List RC, S.Perm l ∧ InOrder keyL S ∧ HoldsK encRw 2 w' g 0 S.toArray ∧ OutJ (fun k => k = g) w w' ∧ ∀ cur t fr, w.heap[g]? = some (.cells cur t fr) → ∃ cur', w'.heap[g]? = some (.cells cur' t fr) ∧ cur'.size = cur.size := by
  have eg : ∀ args w, (callFunc 53 args).run Tryz.prog w = .ok (.enter 53 args) w := enters_of Tryz.func53 (by kernel_rfl) rfl
  have hcon := AnyQ.slices_SortFunc Tryz.sortRw 2 Tryz.isAgg67 Tryz.sizeOf67 encRw (fun _ => rfl) encRw_one cfRw swoRw 53 #[] g 0 c l.toArray w eg (fun _ _ _ _ x y => closureRw_any x y _) hH hg (by simp; omega)
  change Calls Tryz.prog 52 _ _ _ at hcon
  rw [List.size_toArray] at hcon
  refine hcon.mono ?_
  rintro e w' ⟨rfl, d', n, os, hp, hs, rfl⟩
  have hsz : d'.size = l.length := by simpa using hp.1
  refine ⟨rfl, d'.toList, ?_, ?_, ?_, sort_worldR, fun cur t fr hcur => ?_⟩
  · have h := hp.2.2
    rw [← hsz] at h
    have e1 : d'.extract 0 d'.size = d' := by simp
    have e2 : (l.toArray).extract 0 d'.size = l.toArray := by rw [hsz]; simp
    rw [e1, e2] at h
    exact h
  · unfold InOrder
    rw [List.pairwise_iff_getElem]
    intro i j hi hj hij
    have hi' : i < d'.size := by simpa using hi
    have hj' : j < d'.size := by simpa using hj
    have h := hs i j (Nat.zero_le _) hij (by omega)
    rw [ltRw, getElem!_pos d' i hi', getElem!_pos d' j hj'] at h
    have h2 := of_decide_eq_false h
    simp only [Array.getElem_toList]
    exact h2
  · rw [Array.toArray_toList]
    refine holdsK_grow encRw 2 _ os g 0 d' ?_ (holdsK_putRowK encRw 2 _ g 0 l.toArray d' hH (by simpa using hp.1))
    show g < (putRowK encRw 2 (Sort.ahead w n) g 0 d').heap.size
    have : (putRowK encRw 2 (Sort.ahead w n) g 0 d').heap.size = w.heap.size := size_putRow _ _ _ _ _
    omega
  · have hs : (putRowK encRw 2 (Sort.ahead w n) g 0 d').heap.size = w.heap.size := size_putRow _ _ _ _ _
    refine ⟨putCells id 0 (flatK encRw 2 d') cur, ?_, by unfold putCells; simp⟩
    show ((putRowK encRw 2 (Sort.ahead w n) g 0 d').heap ++ os)[g]? = _
    rw [Array.getElem?_append_left (by rw [hs]; exact hg)]
    show (w.heap.modify g _)[g]? = _
    rw [Array.getElem?_modify, if_pos rfl, hcur]
    rfl
theorem holds_of_rw {w : World} {B g c : Nat} {l : List RC} (h : w.ownsRow B 67 2 (.slice (some ⟨g, 0, none⟩) l.length c) l.length (rcCells l)) : Sort.HoldsK encRw 2 w g 0 l.toArray := by
  intro t ht
  rw [Sort.size_flatK] at ht
  have ht' : t < l.length * 2 := by simpa using ht
  refine ⟨?_, h.frozenAt _⟩
  have e : t = t / 2 * 2 + t % 2 := by omega
  have hi : t / 2 < l.length := by omega
  rw [Nat.zero_add, h.cellAt t (by omega), Sort.get_flatK _ _ _ _ (by simpa using ht)]
  obtain ⟨g0, g1⟩ := rcCells_get l (t / 2) hi
  rw [getElem!_pos l.toArray (t / 2) (by simpa using hi)]
  simp only [List.getElem_toArray, id]
  rcases (show t % 2 = 0 ∨ t % 2 = 1 by omega) with h | h
  · rw [h] at e ⊢
    conv => lhs; rw [e]
    exact g0
  · rw [h] at e ⊢
    conv => lhs; rw [e]
    exact g1
theorem rw_of_holds {w : World} {B g c n : Nat} {l : List RC} {cur : Array Value} (h : Sort.HoldsK encRw 2 w g 0 l.toArray) (hg : w.heap[g]? = some (.cells cur 67 (0, 0))) (hB : B ≤ g) (hn : n = l.length) (hc : n ≤ c) (hc9 : c ≤ maxLen) (hs : cur.size = c * 2) : w.ownsRow B 67 2 (.slice (some ⟨g, 0, none⟩) n c) l.length (rcCells l) := by
  subst hn
  refine ⟨rcCells_length l, .inr ⟨g, c, cur, rfl, hB, hg, hc, hc9, hs, ?_⟩⟩
  apply List.ext_getElem?
  intro t
  by_cases ht : t < l.length * 2
  · rw [List.getElem?_take_of_lt ht]
    have h1 := (h t (by rw [Sort.size_flatK]; simpa using ht)).1
    rw [Nat.zero_add, cell_of_row _ _ _ _ _ _ hg, Sort.get_flatK _ _ _ _ (by simpa using ht)] at h1
    have hi : t / 2 < l.length := by omega
    rw [getElem!_pos l.toArray (t / 2) (by simpa using hi)] at h1
    simp only [List.getElem_toArray, id] at h1
    have e : t = t / 2 * 2 + t % 2 := by omega
    obtain ⟨g0, g1⟩ := rcCells_get l (t / 2) hi
    rw [Array.getElem?_toList, h1]
    rcases (show t % 2 = 0 ∨ t % 2 = 1 by omega) with h | h
    · rw [h] at e ⊢
      conv => rhs; rw [e]
      exact g0.symm
    · rw [h] at e ⊢
      conv => rhs; rw [e]
      exact g1.symm
  · rw [List.getElem?_eq_none (by simp; omega), List.getElem?_eq_none (by rw [rcCells_length]; omega)]
set_option maxHeartbeats 1000000 in
theorem stateSort_any {w : World} {B g n c : Nat} {rs : List RC} (h : w.ownsRow B 67 2 (.slice (some ⟨g, 0, none⟩) n c) rs.length (rcCells rs)) (hl : rs.length ≤ 1000) :
    Calls Tryz.prog 33 #[.slice (some ⟨g, 0, none⟩) n c] w fun e w' => e = .returned (.tuple #[]) ∧ ∃ S : List RC, S.Perm rs ∧ InOrder keyL S ∧ w'.ownsRow B 67 2 (.slice (some ⟨g, 0, none⟩) n c) S.length (rcCells S) ∧ OutJ (fun k => k = g) w w' := by
  have h2 := h.2
  rcases h2 with ⟨e, _⟩ | ⟨g2, c2, cur, e, hB, hg, hc, hc9, hs, ht⟩
  · cases e
  · have e0 := e
    injection e with e1 e2 e3
    injection e1 with e1
    injection e1 with e1
    subst e1
    subst e2
    subst e3
    have hH := holds_of_rw h
    have HS := hid (sortRw_any rs g c w hH (heap_lt hg) hl)
    have Hg := hid hg
    have Hs := hid hs
    have HB := hid hB
    have Hc := hid hc
    have Hc9 := hid hc9
    obtain ⟨m, hm⟩ : ∃ m, m = rs.length := ⟨_, rfl⟩
    rw [← hm] at HS Hc ⊢
    have Hm := hid hm
    clear h hH hg hs hB hc hc9 ht hm e0
    go_enter Tryz.func33, Tryz.ntmps33
    go_wp2_with (go_at_call 52; refine HS.out.mono ?_; rintro _ w' ⟨rfl, S, p1, p2, p3, p4, p5⟩; have P1 := hid p1; have P2 := hid p2; have P3 := hid p3; have P4 := hid p4; have P5 := hid p5; clear p1 p2 p3 p4 p5)
    go_end0
    obtain ⟨cur', q1, q2⟩ := P5.out _ _ _ Hg.out
    exact ⟨rfl, S, P1.out, P2.out, rw_of_holds P3.out q1 HB.out (by rw [Hm.out, P1.out.length_eq]) Hc.out Hc9.out (by rw [q2, Hs.out]), P4.out⟩
end Go.Proofs.YtdglmoikgmlaaaaGreatDoor.Xr

/- The program's Rows of a tree of keys: its parts. -/
namespace Go.Proofs.YtdglmoikgmlaaaaGreatDoor.Xr
open Go.RowKit Go.Maps
set_option linter.unusedVariables false
set_option maxRecDepth 20000
theorem size_rowJ : (Tryz.prog.info? 67).map (·.size) = some 2 := by kernel_rfl
def NRow (w : World) (key t : ByteArray) (e : Ending) (w' : World) : Prop := ∃ g, e = .returned (.agg #[.string key, .slice (some ⟨g, 0, none⟩) 1 1]) ∧ w'.heap[g]? = some (.cells #[.string t] 9 (0, 0)) ∧ w.heap.size ≤ g ∧ Below w.heap.size w w'
set_option maxHeartbeats 1000000 in
theorem numberRow_any (w : World) (key : ByteArray) (n : Nat) (hn : n ≤ 4611686018427387904) (hT : TabAt w) : Calls Tryz.prog 32 #[.string key, .int .i64 (n : Int)] w (NRow w key (txtJ n)) := by
  have HX := hid (fun (W : World) (hW : Below w.heap.size w W) => textJ_any n hn W (hT.belowJ hW))
  generalize txtJ n = t at *
  have b0 := (Below.refl w.heap.size w).alloc (Nat.le_refl _) (.cells #[.string ⟨#[]⟩, .slice none 0 0] 67)
  have x0 := heap_alloc_new w (.cells #[.string ⟨#[]⟩, .slice none 0 0] 67)
  obtain ⟨W0, hW0⟩ : ∃ W0, W0 = w.alloc (.cells #[.string ⟨#[]⟩, .slice none 0 0] 67) := ⟨_, rfl⟩
  rw [← hW0] at b0 x0
  have HW0 := hid hW0.symm
  have B0 := hid b0
  have X0 := hid x0
  clear b0 x0 hW0 hT
  go_enter Tryz.func32, Tryz.ntmps32
  go_wp2_with (go_at_call 50; rw [HW0.out]; refine (HX.out W0 B0.out).mono ?_; rintro _ w1 ⟨rfl, b1⟩; have B1 := hid (Below.on' B0.out b1); have x1 := (b1.block _ (heap_lt X0.out)).trans X0.out; have X1 := hid x1; have c0 : w1.cell? ⟨w.heap.size, 0, none⟩ = some (.string ⟨#[]⟩) := (cell_of_row _ _ 0 _ _ _ x1).trans rfl; have c1 : w1.cell? ⟨w.heap.size, 1, none⟩ = some (.slice none 0 0) := (cell_of_row _ _ 1 _ _ _ x1).trans rfl; have f0 : w1.frozen? ⟨w.heap.size, 0, none⟩ = false := frozen_of_row _ _ _ _ _ x1; have f1 : w1.frozen? ⟨w.heap.size, 1, none⟩ = false := frozen_of_row _ _ _ _ _ x1; have hlt := heap_lt x1; clear b1 x1)
  obtain ⟨W3, hW3⟩ : ∃ W3, W3 = (w1.setCell ⟨w.heap.size, 0, none⟩ (.string key)).setCell ⟨w.heap.size, 1, none⟩ (.slice (some ⟨w1.heap.size, 0, none⟩) 1 1) := ⟨_, rfl⟩
  rw [← hW3]
  have s3 : W3.heap.size = w1.heap.size := by rw [hW3]; simp [World.setCell]
  have x3 : W3.heap[w.heap.size]? = some (.cells #[.string key, .slice (some ⟨w1.heap.size, 0, none⟩) 1 1] 67 (0, 0)) := by
    rw [hW3, heap_setCell_same _ _ 1 _ _ _ (heap_setCell_same _ _ 0 _ _ _ X1.out)]
    rfl
  have b3 : Below w.heap.size w W3 := by
    rw [hW3]
    exact ((B1.out.setCell (Nat.le_refl _) _).setCell (Nat.le_refl _) _)
  refine bodyPost_ret (results_cell_row rfl _ _ w.heap.size 67 #[.string key, .slice (some ⟨w1.heap.size, 0, none⟩) 1 1] (0, 0) _ rfl ((Below.heap_alloc _ _ _ (heap_lt x3)).trans x3) Tryz.underlying67 rfl size_rowJ) rfl ?_
  exact ⟨w1.heap.size, rfl, by rw [← s3]; exact heap_alloc_new W3 _, B1.out.size, b3.alloc b3.size _⟩
theorem filter_more {α : Type} : ∀ {l : List α} {p p' : α → Bool} {x : α}, l.Nodup → x ∈ l → p x = false → p' x = true → (∀ y ∈ l, y ≠ x → p' y = p y) → (l.filter p').Perm (l.filter p ++ [x])
  | a :: l, p, p', x, hn, hx, h1, h2, h3 => by
    obtain ⟨n1, n2⟩ := List.nodup_cons.1 hn
    by_cases e : a = x
    · subst e
      have hc : l.filter p' = l.filter p := List.filter_congr fun y hy => h3 y (List.mem_cons_of_mem _ hy) (fun e => n1 (e ▸ hy))
      rw [List.filter_cons_of_pos h2, List.filter_cons_of_neg (by rw [h1]; simp), hc]
      exact (List.perm_append_singleton a _).symm
    · have hx' : x ∈ l := by rcases List.mem_cons.1 hx with h | h; exact absurd h.symm e; exact h
      have ih := filter_more n2 hx' h1 h2 (fun y hy => h3 y (List.mem_cons_of_mem _ hy))
      have ha := h3 a List.mem_cons_self e
      cases hp : p a with
      | true => rw [List.filter_cons_of_pos (by rw [ha, hp]), List.filter_cons_of_pos hp]; exact ih.cons a
      | false => rw [List.filter_cons_of_neg (by rw [ha, hp]; simp), List.filter_cons_of_neg (by rw [hp]; simp)]; exact ih
def hRow (n : Nat) : Rw := ⟨⟨#[35]⟩, [txtJ n]⟩
def gRow (t : ByteArray) : Rw := ⟨t, []⟩
def vRow (p : (ByteArray × ByteArray) × Nat) : Rw := ⟨p.1.1 ++ ⟨#[47]⟩ ++ p.1.2, [txtJ p.2]⟩
def mOf (s : TS) : List Rw := hRow s.n :: (s.gs.map gRow ++ s.vs.map vRow)
theorem rows_ne {w : World} {B n : Nat} {v : Value} {xs : List Value} {k : TypeId} {R : Value → Option (DataW Unit × List MemPlace)} {b r c cnt : Nat} {D : DataW Unit} {left : Lit → Bool} (h : w.ownsRow B 67 2 v n xs) (hr : w.ranges Tryz.prog k R b r c D left cnt) : v.ownBlock ≠ some b ∧ v.ownBlock ≠ some r := by
  obtain ⟨es, clock, since, seen, c0, hb, _, _, _, hrr, _⟩ := hr
  rcases h.2 with ⟨rfl, _⟩ | ⟨g, cap, cur, rfl, _, hg, _⟩
  · exact ⟨by simp [Value.ownBlock], by simp [Value.ownBlock]⟩
  · refine ⟨fun e => ?_, fun e => ?_⟩
    · have e' : g = b := by simpa [Value.ownBlock] using e
      rw [e', hb] at hg; cases hg
    · have e' : g = r := by simpa [Value.ownBlock] using e
      rw [e', hrr] at hg; cases hg
theorem col_kept {w w' : World} {a : Option Addr} {l : List ByteArray} {r : Nat} (h : ColAt w a l) (hg : w.grownBy w' (some r)) (hr : ∀ cs fr, w.heap[r]? ≠ some (.cells cs 9 fr)) : ColAt w' a l := by
  rcases h with h | ⟨b, cur, e, h1, h2⟩
  · exact .inl h
  · exact .inr ⟨b, cur, e, (hg.block b (heap_lt h1) (fun e9 => by cases e9; exact hr _ _ h1)).trans h1, h2⟩
theorem range_obj {w : World} {k : TypeId} {R : Value → Option (DataW Unit × List MemPlace)} {b r c cnt : Nat} {D : DataW Unit} {left : Lit → Bool} (hr : w.ranges Tryz.prog k R b r c D left cnt) : ∀ cs t fr, w.heap[r]? ≠ some (.cells cs t fr) := fun cs t fr h => by
  obtain ⟨es, clock, since, seen, c0, hb, _, _, _, hrr, _⟩ := hr
  rw [hrr] at h
  cases h
theorem RowsIs.turned {w w' : World} {l : List RC} {m : List Rw} (h : RowsIs w l m) {r : Nat} (hg : w.grownBy w' (some r)) (hr : ∀ cs t fr, w.heap[r]? ≠ some (.cells cs t fr)) : RowsIs w' l m := h.imp fun _ _ h => ⟨h.1, h.2.1, col_kept h.2.2 hg (fun cs fr => hr cs _ fr)⟩
end Go.Proofs.YtdglmoikgmlaaaaGreatDoor.Xr

/- The program's Rows of a tree of keys. -/
namespace Go.Proofs.YtdglmoikgmlaaaaGreatDoor.Xr
open Go.RowKit Go.Maps
set_option linter.unusedVariables false
set_option maxRecDepth 20000
theorem str_inv {v : Value} {kl : Lit} (h : Go.keyOf Tryz.prog 9 v = some kl) : ∃ s : ByteArray, v = .string s ∧ kl = .string s.data.toList ∧ s.size ≤ maxLen := by
  rw [Go.keyOf_string Tryz.underlying9] at h
  cases v <;> simp [mapKey, Tryz.underlying9] at h
  rename_i s
  exact ⟨s, rfl, h.2.symm, h.1⟩
theorem own_new1 {B : Nat} (w : World) (hB : B ≤ w.heap.size) (k : ByteArray) (ca : Option Addr) (cn cc : Nat) : (w.alloc (.cells #[.string k, .slice ca cn cc] 67)).ownsRow B 67 2 (.slice (some ⟨w.heap.size, 0, none⟩) 1 1) [RC.mk k ca cn cc].length (rcCells [RC.mk k ca cn cc]) :=
  ⟨rfl, .inr ⟨w.heap.size, 1, #[.string k, .slice ca cn cc], rfl, hB, (MapKept.heap_alloc w _).1, Nat.le_refl _, by unfold maxLen; omega, rfl, rfl⟩⟩
theorem RowsIs.perm {w : World} {S rs : List RC} (hp : S.Perm rs) : ∀ {m : List Rw}, RowsIs w rs m → ∃ m', m'.Perm m ∧ RowsIs w S m' := by
  induction hp with
  | nil => exact fun {m} h => ⟨m, List.Perm.refl _, h⟩
  | cons x _ ih =>
    intro m h
    cases m with
    | nil => exact h.elim
    | cons y m =>
      obtain ⟨m', p, h'⟩ := ih h.2
      exact ⟨y :: m', p.cons y, h.1, h'⟩
  | swap x y l =>
    intro m h
    cases m with
    | nil => exact h.elim
    | cons a m =>
      cases m with
      | nil => exact h.2.elim
      | cons b m => exact ⟨b :: a :: m, List.Perm.swap _ _ _, h.2.1, h.1, h.2.2⟩
  | trans _ _ ih1 ih2 =>
    intro m h
    obtain ⟨m1, p1, h1⟩ := ih2 h
    obtain ⟨m2, p2, h2⟩ := ih1 h1
    exact ⟨m2, p2.trans p1, h2⟩
def keyR (r : Rw) : List UInt8 := r.key.toList
theorem RowsIs.mem {w : World} : ∀ {l : List RC} {m : List Rw}, RowsIs w l m → ∀ x ∈ m, ∃ r ∈ l, keyL r = keyR x
  | [], [], _, x, hx => nomatch hx
  | r :: l, y :: m, h, x, hx => by
    rcases List.mem_cons.1 hx with rfl | hx
    · exact ⟨r, List.mem_cons_self, by unfold keyL keyR; rw [h.1.1]⟩
    · obtain ⟨r', h1, h2⟩ := RowsIs.mem h.2 x hx
      exact ⟨r', List.mem_cons_of_mem _ h1, h2⟩
  | [], _ :: _, h, _, _ => h.elim
  | _ :: _, [], h, _, _ => h.elim
theorem RowsIs.order {w : World} : ∀ {l : List RC} {m : List Rw}, RowsIs w l m → InOrder keyL l → InOrder keyR m
  | [], [], _, _ => List.Pairwise.nil
  | r :: l, y :: m, h, ho => by
    obtain ⟨h1, h2⟩ := List.pairwise_cons.1 ho
    refine List.pairwise_cons.2 ⟨fun x hx => ?_, RowsIs.order h.2 h2⟩
    obtain ⟨r', q1, q2⟩ := h.2.mem x hx
    have := h1 r' q1
    rw [q2, show keyL r = keyR y from by unfold keyL keyR; rw [h.1.1]] at this
    exact this
  | [], _ :: _, h, _ => h.elim
  | _ :: _, [], h, _ => h.elim
def PRows (w : World) (s : TS) (e : Ending) (w' : World) : Prop := ∃ v rs m, e = .returned v ∧ w'.ownsRow w.heap.size 67 2 v rs.length (rcCells rs) ∧ RowsIs w' rs m ∧ m.Perm (mOf s) ∧ InOrder keyR m ∧ Below w.heap.size w w'
theorem lit_str_inj {s t : ByteArray} (h : (Lit.string s.data.toList) = .string t.data.toList) : s = t := by
  cases s; cases t
  simp at h
  rw [h]
theorem gs_more {gs L : List ByteArray} {left : Lit → Bool} {t : ByteArray} (hn : gs.Nodup) (ht : t ∈ gs) (hl : left (.string t.data.toList) = true) (hp : L.Perm (gs.filter fun t => !left (.string t.data.toList))) : (L ++ [t]).Perm (gs.filter fun y => !(left (.string y.data.toList) && !(Lit.string y.data.toList).sameKey (.string t.data.toList))) := by
  refine (hp.append_right [t]).trans (filter_more hn ht ?_ ?_ ?_).symm
  · rw [hl]; rfl
  · rw [WideAt.sameKey_self (a := .string t.data.toList) (by exact True.intro)]; simp
  · intro y hy hne
    rw [sameKey_ne (fun e => hne (lit_str_inj e))]
    simp
theorem key_one {α β : Type} {f : α → β} : ∀ {l : List α}, (l.map f).Nodup → ∀ {x y : α}, x ∈ l → y ∈ l → f x = f y → x = y
  | a :: l, hn, x, y, hx, hy, e => by
    rw [List.map_cons, List.nodup_cons] at hn
    rcases List.mem_cons.1 hx with h1 | h1 <;> rcases List.mem_cons.1 hy with h2 | h2
    · rw [h1, h2]
    · exact absurd (List.mem_map.2 ⟨y, h2, by rw [← e, h1]⟩) hn.1
    · exact absurd (List.mem_map.2 ⟨x, h1, by rw [e, h2]⟩) hn.1
    · exact key_one hn.2 h1 h2 e
theorem vs_more {s : TS} (ok : s.Ok) {L : List ((ByteArray × ByteArray) × Nat)} {left : Lit → Bool} {p : (ByteArray × ByteArray) × Nat} (ht : p ∈ s.vs) (hl : left (keyP p.1.1 p.1.2) = true) (hp : L.Perm (s.vs.filter fun p => !left (keyP p.1.1 p.1.2))) : (L ++ [p]).Perm (s.vs.filter fun y => !(left (keyP y.1.1 y.1.2) && !(keyP y.1.1 y.1.2).sameKey (keyP p.1.1 p.1.2))) := by
  have nd_vs : s.vs.Nodup := by
    have h := ok.nodup
    unfold List.Nodup at h ⊢
    rw [List.pairwise_map] at h
    exact h.imp fun h e => h (by rw [e])
  refine (hp.append_right [p]).trans (filter_more nd_vs ht ?_ ?_ ?_).symm
  · rw [hl]; rfl
  · rw [WideAt.sameKey_self (keyP_lit _ _)]; simp
  · intro y hy hne
    have hk : keyP y.1.1 y.1.2 ≠ keyP p.1.1 p.1.2 := fun e => by
      have e1 := keyP_inj (ok.sized y hy).1 (ok.sized y hy).2 (ok.sized p ht).1 (ok.sized p ht).2 e
      exact hne (key_one ok.nodup hy ht e1)
    rw [sameKey_ne hk]
    simp
set_option maxHeartbeats 4000000 in
theorem rows_m {w : World} {B g mv mg : Nat} {root : List UInt8} {s : TS} {d : Nat} (h : TreeM w B g mv mg root s d) (hn : s.n ≤ 4611686018427387904) (hT : TabAt w) : Calls Tryz.prog 11 #[.pointer (some ⟨g, 0, none⟩)] w (PRows w s) := by
  obtain ⟨ok, hne, nv, ng, VM, GM, h1, hV, hG, d1, d2⟩ := h
  have H := hid h1
  have HT := hid hT
  have HN := hid (numberRow_any w ⟨#[35]⟩ s.n hn hT)
  have HR := hid (fun (W : World) (hW : Below w.heap.size w W) (key : ByteArray) (n : Nat) (hn : n ≤ 16) => numberRow_any W key n (by omega) (hT.belowJ hW))
  have Ok := hid ok
  have HV := hid hV
  have HG := hid hG
  have c34 := h1.c34
  clear h1 hT ok hV hG d1 d2 hne
  go_enter Tryz.func11, Tryz.ntmps11
  go_wp2_with (first
    | (go_at_call 32; refine HN.out.mono ?_; rintro _ w1 ⟨g1, rfl, x1, l1, b1⟩; have hT1 := (H.out.below b1).below ((Below.refl w1.heap.size w1).alloc (Nat.le_refl _) (.cells #[.string ⟨#[35]⟩, .slice (some ⟨g1, 0, none⟩) 1 1] 67)); have c33 := hT1.c33; have HT1 := hid hT1; have B1 := hid b1; have X1 := hid x1; have L1 := hid l1; clear b1 x1 l1 hT1)
    | (at_range; refine wpList_range_own _ rfl _ 53 rfl 9 90 lawStr Tryz.underlying53 _ mg ng _ rfl HT1.out.gm ?_; intro w3 hrg3 hg3 hs3; generalize hr : (w1.alloc (.cells #[.string ⟨#[35]⟩, .slice (some ⟨g1, 0, none⟩) 1 1] 67)).heap.size = r at hrg3 ⊢)
    | go_in)
  go_frame
  have hr1 : Hid (w1.heap.size + 1 = r) := by
    show w1.heap.size + 1 = r
    rw [← hr]; simp
  clear hr
  have O1 := hid (own_new1 w1 B1.out.size ⟨#[35]⟩ (some ⟨g1, 0, none⟩) 1 1)
  have b2 := hid (B1.out.alloc B1.out.size (.cells #[.string ⟨#[35]⟩, .slice (some ⟨g1, 0, none⟩) 1 1] 67))
  have I1 : Hid (RowsIs (w1.alloc (.cells #[.string ⟨#[35]⟩, .slice (some ⟨g1, 0, none⟩) 1 1] 67)) [RC.mk ⟨#[35]⟩ (some ⟨g1, 0, none⟩) 1 1] [hRow s.n]) := ⟨⟨rfl, rfl, .inr ⟨g1, _, rfl, (Below.heap_alloc _ _ _ (heap_lt X1.out)).trans X1.out, rfl⟩⟩, True.intro⟩
  go_loopw [3] (fun v wr => ∃ (left : Lit → Bool) (cnt : Nat) (rs : List RC) (L : List ByteArray), wr.ranges Tryz.prog 9 (unitElem (H := Unit)) mg r ng GM left cnt ∧ wr.ownsRow w.heap.size 67 2 v rs.length (rcCells rs) ∧ RowsIs wr rs (hRow s.n :: L.map gRow) ∧ L.Perm (s.gs.filter fun t => !left (.string t.data.toList)) ∧ Below w.heap.size w wr ∧ r < wr.heap.size) (fun _ wr => wr.rangeLeft mg r)
  case atStart =>
    refine ⟨_, _, [RC.mk ⟨#[35]⟩ (some ⟨g1, 0, none⟩) 1 1], [], hrg3, O1.out.kept hg3 (.inr (by simp [Value.ownBlock])), ?_, ?_, ?_, hrg3.lt⟩
    · exact I1.out.below ⟨hg3.os, hg3.tape, hg3.output, hg3.size, fun k hk => hg3.block k hk (by simp)⟩
    · rw [List.filter_eq_nil_iff.2 fun t ht => ?_]
      rw [HG.out.has, isIn_iff.2 ht]
      simp
    · exact b2.out.trans ⟨hg3.os, hg3.tape, hg3.output, hg3.size, fun k hk => hg3.block k (by have := b2.out.size; omega) (by simp)⟩
  case round =>
    obtain ⟨left, cnt, rs, L, hrg, hro, hri, hp, hb, hrl⟩ := hrel
    have HL := hid hrg.left_eq
    have Hri := hid hri
    have Hp := hid hp
    have Hb := hid hb
    have Hrl := hid hrl
    have Hro := hid hro
    clear hri hp hb hrl hro
    go_wp2_with (first
      | (at_next; refine wpList_next_ranges (α := ByteArray) (β := Unit) _ rfl _ rfl 9 lawStr (unitElem (H := Unit)) (fun x => .string x) (fun _ => .agg #[]) (fun key kl hk => by obtain ⟨a, rfl, _⟩ := str_inv hk; exact ⟨a, rfl⟩) (fun v y hv => ⟨(), (unitElem_inv hv).1⟩) mg r ng _ _ _ rfl hrg ?_ ?_)
      | go_in)
    · intro _ hl0
      rename World => Vr
      have Hl1 : Hid (L.Perm s.gs) := by
        have h1 := Hp.out
        rw [List.filter_eq_self.2 (fun t _ => by rw [hl0]; rfl)] at h1
        exact h1
      have hTr := H.out.below Hb.out
      have c32 := hTr.c32
      have HTr := hid hTr
      clear hTr hl0 hrg c33
      go_wp2_with (first
        | (at_range; refine wpList_range_own _ rfl _ 52 rfl 71 3 lawPlace Tryz.underlying52 _ mv nv _ rfl HTr.out.vm ?_; intro w5 hrg5 hg5 hs5)
        | go_in)
      go_frame
      go_loopw [3] (fun v wq => ∃ (left : Lit → Bool) (cnt : Nat) (rs2 : List RC) (L2 : List ((ByteArray × ByteArray) × Nat)), wq.ranges Tryz.prog 71 (plainElem Tryz.prog 3) mv Vr.heap.size nv VM left cnt ∧ wq.ownsRow w.heap.size 67 2 v rs2.length (rcCells rs2) ∧ RowsIs wq rs2 (hRow s.n :: (L.map gRow ++ L2.map vRow)) ∧ L2.Perm (s.vs.filter fun p => !left (keyP p.1.1 p.1.2)) ∧ Below w.heap.size w wq) (fun _ wq => wq.rangeLeft mv Vr.heap.size)
      case atStart =>
        refine ⟨_, _, rs, [], hrg5, Hro.out.kept hg5 ((Classical.em _).imp id (fun h => h)), ?_, ?_, ?_⟩
        · rw [List.map_nil, List.append_nil]
          exact Hri.out.below ⟨hg5.os, hg5.tape, hg5.output, hg5.size, fun k hk => hg5.block k hk (by simp)⟩
        · rw [List.filter_eq_nil_iff.2 fun p hp => ?_]
          rw [HV.out.has _ _ (Ok.out.sized p hp).1 (Ok.out.sized p hp).2, List.any_eq_true.2 ⟨p, hp, decide_eq_true rfl⟩]
          simp
        · exact Hb.out.trans ⟨hg5.os, hg5.tape, hg5.output, hg5.size, fun k hk => hg5.block k (by have := Hb.out.size; omega) (by simp)⟩
      case round =>
        obtain ⟨left2, cnt2, rs2, L2, hrg, hro2, hri2, hp2, hb2⟩ := hrel
        have HL2 := hid hrg.left_eq
        have Hri2 := hid hri2
        have Hp2 := hid hp2
        have Hb2 := hid hb2
        have Hro2 := hid hro2
        clear hri2 hp2 hb2 hro2
        go_wp2_with (first
          | (at_next; refine wpList_next_ranges (α := ByteArray × ByteArray) (β := Int) _ rfl _ rfl 71 lawPlace (plainElem Tryz.prog 3) (fun x => .agg #[.string x.1, .string x.2]) (fun x => .int .i64 x) (fun key kl hk => by obtain ⟨a, b, rfl, _⟩ := place_inv hk; exact ⟨(a, b), rfl⟩) (fun v y hv => by obtain ⟨c, rfl, _⟩ := plainElem_int_inv Tryz.underlying3 hv; exact ⟨c, rfl⟩) mv Vr.heap.size nv _ _ _ rfl hrg ?_ ?_)
          | go_in)
        · intro _ hl0
          have Hl2 : Hid (L2.Perm s.vs) := by
            have h1 := Hp2.out
            rw [List.filter_eq_self.2 (fun t _ => by rw [hl0]; rfl)] at h1
            exact h1
          have hlen : rs2.length ≤ 1000 ∧ rs2.length ≠ 0 := by
            have h1 := Hri2.out.length
            have h2 := Hl1.out.length_eq
            have h3 := Hl2.out.length_eq
            have h4 := Ok.out.gfew
            have h5 := Ok.out.few
            simp at h1
            omega
          obtain ⟨g8, c8, rfl⟩ : ∃ g8 c8, u3 = .slice (some ⟨g8, 0, none⟩) rs2.length c8 := by
            rcases Hro2.out.2 with ⟨_, e0⟩ | ⟨g8, c8, _, e0, _⟩
            · exact absurd e0 hlen.2
            · exact ⟨g8, c8, e0⟩
          have HS := hid (stateSort_any Hro2.out hlen.1)
          clear hl0 hrg hlen
          go_wp2_with (first
            | (go_at_call 33; refine HS.out.mono ?_; rintro _ w8 ⟨rfl, S, hpm, ho, ho8, hg8⟩; have P8 := hid hpm; have R8 := hid ho; have O8 := hid ho8; have G8 := hid hg8; clear hpm ho ho8 hg8)
            | go_in)
          go_ret
          have g8' : wr.grownBy w8 (Value.slice (some ⟨g8, 0, none⟩) rs2.length c8).ownBlock := ⟨G8.out.os, G8.out.tape, G8.out.output, G8.out.size, fun k hk hne => G8.out.block k hk (fun e => hne (by rw [e]; rfl))⟩
          obtain ⟨m', p1, p2⟩ := RowsIs.perm P8.out (Hri2.out.grown Hro2.out g8')
          refine ⟨_, S, m', rfl, O8.out, p2, p1.trans (((Hl1.out.map gRow).append (Hl2.out.map vRow)).cons _), p2.order R8.out, Hb2.out.trans ((Below.refl _ _).grown g8' Hb2.out.size (fun q hq => (Hro2.out.lt q hq).1))⟩
        · intro t u c kl y1 y2 w6 cnt' hk hl hv hat hrg6 hlt hg6 hs6 hen
          obtain ⟨t9, u9, e1, rfl, l1, l2⟩ := place_inv hk
          obtain ⟨rfl, rfl⟩ : t = t9 ∧ u = u9 := by simpa using e1
          clear e1
          obtain ⟨c9, e1, e2, _⟩ := plainElem_int_inv Tryz.underlying3 hv
          cases e1
          cases e2
          obtain ⟨n, hm, rfl⟩ : ∃ n, ((t, u), n) ∈ s.vs ∧ c = (n : Int) := by
            have h2 := Maps.has_true_of_atKey hat
            rw [HV.out.has _ _ l1 l2] at h2
            obtain ⟨p, hp1, hp2⟩ := List.any_eq_true.1 h2
            have e9 : p.1 = (t, u) := of_decide_eq_true hp2
            have h3 := HV.out.at' p hp1
            rw [e9, hat] at h3
            refine ⟨p.2, by rw [← e9]; exact hp1, ?_⟩
            simpa using h3
          have ne := rows_ne Hro2.out hrg
          have ho6 := Hro2.out.kept hg6 (.inr ne.2)
          have i6 := hid ((Hri2.out.turned hg6 (range_obj hrg)).below ((Below.refl w6.heap.size w6).alloc (Nat.le_refl _) (.cells #[.string t, .string u] 71)))
          have b6 := hid (Hb2.out.trans ⟨hg6.os, hg6.tape, hg6.output, hg6.size, fun k hk => hg6.block k (by have := Hb2.out.size; omega) (fun e => by cases e; have := Hb.out.size; omega)⟩)
          have O6 := hid (ho6.alloc (.cells #[.string t, .string u] 71))
          have Hrg6 := hid (hrg6.alloc (.cells #[.string t, .string u] 71))
          have Hlt := hid hlt
          have hlen : rs2.length ≤ 1000 := by
            have h1 := Hri2.out.length
            have h2 := Hl1.out.length_eq
            have h3 := Hp2.out.length_eq
            have h6 := List.length_filter_le (fun p : (ByteArray × ByteArray) × Nat => !left2 (keyP p.1.1 p.1.2)) s.vs
            have h4 := Ok.out.gfew
            have h5 := Ok.out.few
            simp at h1
            omega
          have Hlen := hid hlen
          have Hm := hid hm
          have nm := Ok.out.names _ hm
          have zt : t.size ≤ 9 := okN_len nm.1
          have zu : u.size ≤ 9 := okN_len nm.2.1
          have zn := hid nm.2.2.2.1
          have q1 : ¬ 9223372036854775807 < t.size + 1 := by omega
          have q2 : ¬ 9223372036854775807 < t.size + 1 + u.size := by omega
          clear zt zu
          have Hl := hid hl
          clear hk hat hv hrg6 hlt hg6 ne ho6 hlen hm hl hrg nm
          go_wp2_with (first
            | (go_at_call 32; refine (HR.out _ (b6.out.alloc b6.out.size _) _ n zn.out).mono ?_; rintro _ w7 ⟨g7, rfl, x7, l7, b7⟩; have O7 := hid (own_onW O6.out b7); have I7 := hid (i6.out.below b7); have R7 := hid (Hrg6.out.kept (grown_of_below b7) (by simp) (by simp)); have C7 := hid ((b6.out.alloc b6.out.size (.cells #[.string t, .string u] 71)).trans (b7.mono (b6.out.alloc b6.out.size (.cells #[.string t, .string u] 71)).size)); have X7 := hid x7; have ne7 := hid (rows_ne O7.out R7.out); clear x7 l7 b7)
            | (at_builtin; refine app_rowL rfl (.tmp 39) (.tmp 48) rfl w7 _ (some ⟨g7, 0, none⟩) 1 1 rfl w.heap.size _ rs2 rfl O7.out rfl (by have := Hlen.out; omega) C7.out.size ?_; intro v8 w8 ho8 hg8; have C8 := hid (C7.out.trans ((Below.refl _ _).grown hg8 C7.out.size (fun q hq => (O7.out.lt q hq).1))); have O8 := hid ho8; have I8 := hid (I7.out.grown O7.out hg8); have R8 := hid (R7.out.kept hg8 (fun e => ne7.out.1 e.symm) (fun e => ne7.out.2 e.symm)); have N8 : Hid (ColAt w8 (some ⟨g7, 0, none⟩) [txtJ n]) := ColAt.grown (w := w7) (.inr ⟨g7, _, rfl, X7.out, rfl⟩) O7.out hg8; clear ho8 hg8)
            | go_in)
          go_roundw
          case rel =>
            refine ⟨_, _, _, L2 ++ [((t, u), n)], R8.out, O8.out, ?_, vs_more Ok.out Hm.out Hl.out Hp2.out, C8.out⟩
            rw [List.map_append, ← List.append_assoc, ← List.cons_append]
            exact I8.out.app ⟨⟨rfl, rfl, N8.out⟩, True.intro⟩
          case measure =>
            rw [R8.out.left_eq, HL2.out]
            exact Hlt.out
    · intro t kl y1 y2 w4 cnt' hk hl _ hat hrg4 hlt hg4 hs4 hen
      obtain ⟨t9, e1, rfl, l1⟩ := str_inv hk
      obtain rfl : t = t9 := by simpa using e1
      clear e1
      have ht : t ∈ s.gs := by
        have h2 := Maps.has_true_of_atKey hat
        rw [HG.out.has] at h2
        exact isIn_iff.1 h2
      have ne := rows_ne Hro.out hrg
      have ho4 := Hro.out.kept hg4 (.inr ne.2)
      have ne4 := hid (rows_ne ho4 hrg4)
      have i4 := hid (Hri.out.turned hg4 (range_obj hrg))
      have b4 := hid (Hb.out.trans ⟨hg4.os, hg4.tape, hg4.output, hg4.size, fun k hk => hg4.block k (by have := Hb.out.size; omega) (fun e => by cases e; have := B1.out.size; have := hr1.out; omega)⟩)
      have O4 := hid ho4
      have Hrg4 := hid hrg4
      have Hlt := hid hlt
      have hlen : rs.length ≤ 17 := by
        have h1 := Hri.out.length
        have h2 := Hp.out.length_eq
        have h3 := List.length_filter_le (fun t : ByteArray => !left (.string t.data.toList)) s.gs
        have h4 := Ok.out.gfew
        simp at h1
        omega
      have Hlen := hid hlen
      have Hht := hid ht
      have Hl := hid hl
      have Hs4 := hid hs4
      clear hk hat hrg4 hlt hg4 ne ho4 hlen ht hl hs4 hrg
      go_wp2_with (first
        | (at_builtin; refine app_rowL rfl (.tmp 24) (.tmp 27) rfl w4 t none 0 0 rfl w.heap.size _ rs rfl O4.out rfl (by have := Hlen.out; omega) b4.out.size ?_; intro v7 w7 ho7 hg7; have b7 := hid (b4.out.trans ((Below.refl _ _).grown hg7 b4.out.size (fun q hq => (O4.out.lt q hq).1))); have O7 := hid ho7; have I7 := hid (i4.out.grown O4.out hg7); have R7 := hid (Hrg4.out.kept hg7 (fun e => ne4.out.1 e.symm) (fun e => ne4.out.2 e.symm)); clear ho7 hg7)
        | go_in)
      go_roundw
      case rel =>
        refine ⟨_, _, _, L ++ [t], R7.out, O7.out, ?_, gs_more Ok.out.gnodup Hht.out Hl.out Hp.out, b7.out, R7.out.lt⟩
        rw [List.map_append, ← List.cons_append]
        exact I7.out.app ⟨⟨rfl, rfl, .inl rfl⟩, True.intro⟩
      case measure =>
        rw [R7.out.left_eq, HL.out]
        exact Hlt.out
end Go.Proofs.YtdglmoikgmlaaaaGreatDoor.Xr
