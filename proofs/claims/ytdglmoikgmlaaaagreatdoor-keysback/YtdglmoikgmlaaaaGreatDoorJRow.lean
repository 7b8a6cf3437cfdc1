/- YtdglmoikgmlaaaaGreatDoorJSort + YtdglmoikgmlaaaaGreatDoorJRow -/
import Derived.Test.YtdglmoikgmlaaaaGreatDoorJX1
import Derived.Test.YtdglmoikgmlaaaaGreatDoorRShelf
import Derived.Lib.Bytealg
import Derived.Lib.Strings
import Derived.Maps.RangeWalk
/- state.Sort: rows in the order of their keys' bytes. -/
namespace Go.Proofs.YtdglmoikgmlaaaaGreatDoor.Xr
open Go.RowKit Go.Maps Go.Shelf Go.Sort Go.Lib
set_option linter.unusedVariables false
set_option maxRecDepth 20000
theorem cmp_lt : ∀ a b : List UInt8, decide (Lib.compareBytes a b < 0) = decide (a < b)
  | [], [] => by simp [Lib.compareBytes]
  | [], _ :: _ => by simp [Lib.compareBytes]
  | _ :: _, [] => by simp [Lib.compareBytes]
  | a :: xs, b :: ys => by
    have ih := cmp_lt xs ys
    unfold Lib.compareBytes
    by_cases h1 : a < b
    · rw [if_pos h1, decide_eq_true (show (-1 : Int) < 0 by decide), decide_eq_true (List.cons_lt_cons_iff.2 (.inl h1))]
    · rw [if_neg h1]
      by_cases h2 : b < a
      · rw [if_pos h2, decide_eq_false (show ¬ (1 : Int) < 0 by decide), decide_eq_false]
        intro h
        rcases List.cons_lt_cons_iff.1 h with h | ⟨rfl, _⟩
        · exact h1 h
        · exact h1 h2
      · rw [if_neg h2, ih]
        have e : a = b := UInt8.le_antisymm (UInt8.not_lt.1 h2) (UInt8.not_lt.1 h1)
        subst e
        exact decide_eq_decide.2 ⟨fun h => List.cons_lt_cons_iff.2 (.inr ⟨rfl, h⟩), fun h => by
          rcases List.cons_lt_cons_iff.1 h with h | ⟨_, h⟩
          · exact absurd h h1
          · exact h⟩
set_option maxHeartbeats 1000000 in
theorem cmpString_any (a b : ByteArray) (w : World) : Calls Tryz.prog 76 #[.string a, .string b] w fun e w' => e = .returned (.int .i64 (Lib.compareBytes a.data.toList b.data.toList)) ∧ w' = w := by
  go_enter Tryz.func76, Tryz.ntmps76
  go_wp2
  rw [run_callFunc_extern Tryz.func100 (by kernel_rfl) (by kernel_rfl) (by kernel_rfl) (e := Extern.BytealgCompare.compare) (by kernel_rfl), Lib.run_compareString]
  simp only [Result.andThen]
  rw [Oper.upon_value]
  go_wp2
  go_ret
  exact ⟨rfl, rfl⟩
set_option maxHeartbeats 1000000 in
theorem compare_any (a b : ByteArray) (w : World) : Calls Tryz.prog 54 #[.string a, .string b] w fun e w' => e = .returned (.int .i64 (Lib.compareBytes a.data.toList b.data.toList)) ∧ w' = w := by
  go_enter Tryz.func54, Tryz.ntmps54
  go_wp2_with (go_at_call 76; refine (cmpString_any _ _ _).mono ?_; rintro e w' ⟨rfl, rfl⟩)
  go_ret
  exact ⟨rfl, rfl⟩
instance : Inhabited RC := ⟨⟨⟨#[]⟩, none, 0, 0⟩⟩
def encRw (x : RC) : List Value := [.string x.key, .slice x.ad x.len x.cap]
theorem encRw_one (x : RC) : ∀ v ∈ encRw x, v.oneCell' = true := fun v hv => by
  simp [encRw] at hv
  rcases hv with rfl | rfl <;> rfl
def cfRw (x y : RC) : Int := Lib.compareBytes x.key.data.toList y.key.data.toList
set_option maxHeartbeats 1000000 in
theorem closureRw_any (x y : RC) (W : World) : Calls Tryz.prog 53 #[.agg #[.string x.key, .slice x.ad x.len x.cap], .agg #[.string y.key, .slice y.ad y.len y.cap]] W fun e w' => e = .returned (.int .i64 (cfRw x y)) ∧ ∃ q os', w' = grow (W.drewN q) os' := by
  have hcon := fun W' => compare_any x.key y.key W'
  change ∀ W', Calls Tryz.prog 54 _ W' (fun e w' => e = .returned (.int .i64 (cfRw x y)) ∧ w' = W') at hcon
  generalize cfRw x y = r at hcon ⊢
  go_enter Tryz.func53, Tryz.ntmps53
  go_wp2_with (go_at_call 54; refine (hcon _).mono ?_; rintro e w' ⟨rfl, rfl⟩)
  go_ret
  exact ⟨rfl, 0, _, by rw [alloc_eq_grow, alloc_eq_grow, grow_grow]; rfl⟩
theorem ltRw (x y : RC) : ltOf cfRw x y = decide (keyL x < keyL y) := by
  unfold ltOf cfRw keyL
  rw [cmp_lt, Lib.toList_data, Lib.toList_data]
theorem swoRw : SWO (ltOf cfRw) where
  irrefl x := by rw [ltRw]; exact decide_eq_false (List.lt_irrefl _)
  trans x y z h1 h2 := by rw [ltRw] at *; exact decide_eq_true (List.lt_trans (of_decide_eq_true h1) (of_decide_eq_true h2))
  ntrans x y z h1 h2 := by rw [ltRw] at *; exact decide_eq_false (key_trans (x := keyL z) (y := keyL y) (z := keyL x) (of_decide_eq_false h2) (of_decide_eq_false h1))
theorem sort_worldR {w : World} {g n : Nat} {d : Array RC} {os : Array Obj} : OutJ (fun k => k = g) w (sortWorldK encRw 2 w g 0 n d os) := by
  refine ⟨rfl, rfl, rfl, ?_, fun k hk hne => ?_⟩
  · show w.heap.size ≤ ((putRowK encRw 2 (Sort.ahead w n) g 0 d).heap ++ os).size
    have : (putRowK encRw 2 (Sort.ahead w n) g 0 d).heap.size = w.heap.size := size_putRow _ _ _ _ _
    simp [this]
  · have hs : (putRowK encRw 2 (Sort.ahead w n) g 0 d).heap.size = w.heap.size := size_putRow _ _ _ _ _
    show ((putRowK encRw 2 (Sort.ahead w n) g 0 d).heap ++ os)[k]? = w.heap[k]?
    rw [Array.getElem?_append_left (by rw [hs]; exact hk)]
    show (w.heap.modify g _)[k]? = _
    rw [Array.getElem?_modify, if_neg (fun e => hne e.symm)]
set_option maxHeartbeats 1000000 in
theorem sortRw_any (l : List RC) (g c : Nat) (w : World) (hH : HoldsK encRw 2 w g 0 l.toArray) (hg : g < w.heap.size) (hl : l.length ≤ 1000) :
    Calls Tryz.prog 52 #[.slice (some ⟨g, 0, none⟩) l.length c, .func (.func 53) #[] #[]] w fun e w' => e = .returned (.tuple #[]) ∧ ∃ S : List RC, S.Perm l ∧ InOrder keyL S ∧ HoldsK encRw 2 w' g 0 S.toArray ∧ OutJ (fun k => k = g) w w' ∧ ∀ cur t fr, w.heap[g]? = some (.cells cur t fr) → ∃ cur', w'.heap[g]? = some (.cells cur' t fr) ∧ cur'.size = cur.size := by
  have eg : ∀ args w, (callFunc 53 args).run Tryz.prog w = .ok (.enter 53 args) w := enters_of Tryz.func53 (by kernel_rfl) rfl
  have hcon := AnyQ.slices_SortFunc Tryz.sortRw 2 Tryz.isAgg67 Tryz.sizeOf67 encRw (fun _ => rfl) encRw_one cfRw swoRw 53 #[] g 0 c l.toArray w eg (fun _ _ _ _ x y => closureRw_any x y _) hH hg (by simp; omega)
  change Calls Tryz.prog 52 _ _ _ at hcon
  rw [List.size_toArray] at hcon
  refine hcon.mono ?_
  rintro e w' ⟨rfl, d', n, os, hp, hs, rfl⟩
  have hsz : d'.size = l.length := by simpa using hp.1
  refine ⟨rfl, d'.toList, ?_, ?_, ?_, sort_worldR, fun cur t fr hcur => ?_⟩
  · have h := hp.2.2
    rw [← hsz] at h
    have e1 : d'.extract 0 d'.size = d' := by simp
    have e2 : (l.toArray).extract 0 d'.size = l.toArray := by rw [hsz]; simp
    rw [e1, e2] at h
    exact h
  · unfold InOrder
    rw [List.pairwise_iff_getElem]
    intro i j hi hj hij
    have hi' : i < d'.size := by simpa using hi
    have hj' : j < d'.size := by simpa using hj
    have h := hs i j (Nat.zero_le _) hij (by omega)
    rw [ltRw, getElem!_pos d' i hi', getElem!_pos d' j hj'] at h
    have h2 := of_decide_eq_false h
    simp only [Array.getElem_toList]
    exact h2
  · rw [Array.toArray_toList]
    refine holdsK_grow encRw 2 _ os g 0 d' ?_ (holdsK_putRowK encRw 2 _ g 0 l.toArray d' hH (by simpa using hp.1))
    show g < (putRowK encRw 2 (Sort.ahead w n) g 0 d').heap.size
    have : (putRowK encRw 2 (Sort.ahead w n) g 0 d').heap.size = w.heap.size := size_putRow _ _ _ _ _
    omega
  · have hs : (putRowK encRw 2 (Sort.ahead w n) g 0 d').heap.size = w.heap.size := size_putRow _ _ _ _ _
    refine ⟨putCells id 0 (flatK encRw 2 d') cur, ?_, by unfold putCells; simp⟩
    show ((putRowK encRw 2 (Sort.ahead w n) g 0 d').heap ++ os)[g]? = _
    rw [Array.getElem?_append_left (by rw [hs]; exact hg)]
    show (w.heap.modify g _)[g]? = _
    rw [Array.getElem?_modify, if_pos rfl, hcur]
    rfl
theorem holds_of_rw {w : World} {B g c : Nat} {l : List RC} (h : w.ownsRow B 67 2 (.slice (some ⟨g, 0, none⟩) l.length c) l.length (rcCells l)) : Sort.HoldsK encRw 2 w g 0 l.toArray := by
  intro t ht
  rw [Sort.size_flatK] at ht
  have ht' : t < l.length * 2 := by simpa using ht
  refine ⟨?_, h.frozenAt _⟩
  have e : t = t / 2 * 2 + t % 2 := by omega
  have hi : t / 2 < l.length := by omega
  rw [Nat.zero_add, h.cellAt t (by omega), Sort.get_flatK _ _ _ _ (by simpa using ht)]
  obtain ⟨g0, g1⟩ := rcCells_get l (t / 2) hi
  rw [getElem!_pos l.toArray (t / 2) (by simpa using hi)]
  simp only [List.getElem_toArray, id]
  rcases (show t % 2 = 0 ∨ t % 2 = 1 by omega) with h | h
  · rw [h] at e ⊢
    conv => lhs; rw [e]
    exact g0
  · rw [h] at e ⊢
    conv => lhs; rw [e]
    exact g1
theorem rw_of_holds {w : World} {B g c n : Nat} {l : List RC} {cur : Array Value} (h : Sort.HoldsK encRw 2 w g 0 l.toArray) (hg : w.heap[g]? = some (.cells cur 67 (0, 0))) (hB : B ≤ g) (hn : n = l.length) (hc : n ≤ c) (hc9 : c ≤ maxLen) (hs : cur.size = c * 2) : w.ownsRow B 67 2 (.slice (some ⟨g, 0, none⟩) n c) l.length (rcCells l) := by
  subst hn
  refine ⟨rcCells_length l, .inr ⟨g, c, cur, rfl, hB, hg, hc, hc9, hs, ?_⟩⟩
  apply List.ext_getElem?
  intro t
  by_cases ht : t < l.length * 2
  · rw [List.getElem?_take_of_lt ht]
    have h1 := (h t (by rw [Sort.size_flatK]; simpa using ht)).1
    rw [Nat.zero_add, cell_of_row _ _ _ _ _ _ hg, Sort.get_flatK _ _ _ _ (by simpa using ht)] at h1
    have hi : t / 2 < l.length := by omega
    rw [getElem!_pos l.toArray (t / 2) (by simpa using hi)] at h1
    simp only [List.getElem_toArray, id] at h1
    have e : t = t / 2 * 2 + t % 2 := by omega
    obtain ⟨g0, g1⟩ := rcCells_get l (t / 2) hi
    rw [Array.getElem?_toList, h1]
    rcases (show t % 2 = 0 ∨ t % 2 = 1 by omega) with h | h
    · rw [h] at e ⊢
      conv => rhs; rw [e]
      exact g0.symm
    · rw [h] at e ⊢
      conv => rhs; rw [e]
      exact g1.symm
  · rw [List.getElem?_eq_none (by simp; omega), List.getElem?_eq_none (by rw [rcCells_length]; omega)]
set_option maxHeartbeats 1000000 in
theorem stateSort_any {w : World} {B g n c : Nat} {rs : List RC} (h : w.ownsRow B 67 2 (.slice (some ⟨g, 0, none⟩) n c) rs.length (rcCells rs)) (hl : rs.length ≤ 1000) :
    Calls Tryz.prog 33 #[.slice (some ⟨g, 0, none⟩) n c] w fun e w' => e = .returned (.tuple #[]) ∧ ∃ S : List RC, S.Perm rs ∧ InOrder keyL S ∧ w'.ownsRow B 67 2 (.slice (some ⟨g, 0, none⟩) n c) S.length (rcCells S) ∧ OutJ (fun k => k = g) w w' := by
  have h2 := h.2
  rcases h2 with ⟨e, _⟩ | ⟨g2, c2, cur, e, hB, hg, hc, hc9, hs, ht⟩
  · cases e
  · have e0 := e
    injection e with e1 e2 e3
    injection e1 with e1
    injection e1 with e1
    subst e1
    subst e2
    subst e3
    have hH := holds_of_rw h
    have HS := hid (sortRw_any rs g c w hH (heap_lt hg) hl)
    have Hg := hid hg
    have Hs := hid hs
    have HB := hid hB
    have Hc := hid hc
    have Hc9 := hid hc9
    obtain ⟨m, hm⟩ : ∃ m, m = rs.length := ⟨_, rfl⟩
    rw [← hm] at HS Hc ⊢
    have Hm := hid hm
    clear h hH hg hs hB hc hc9 ht hm e0
    go_enter Tryz.func33, Tryz.ntmps33
    go_wp2_with (go_at_call 52; refine HS.out.mono ?_; rintro _ w' ⟨rfl, S, p1, p2, p3, p4, p5⟩; have P1 := hid p1; have P2 := hid p2; have P3 := hid p3; have P4 := hid p4; have P5 := hid p5; clear p1 p2 p3 p4 p5)
    go_end0
    obtain ⟨cur', q1, q2⟩ := P5.out _ _ _ Hg.out
    exact ⟨rfl, S, P1.out, P2.out, rw_of_holds P3.out q1 HB.out (by rw [Hm.out, P1.out.length_eq]) Hc.out Hc9.out (by rw [q2, Hs.out]), P4.out⟩
end Go.Proofs.YtdglmoikgmlaaaaGreatDoor.Xr

/- The program's Rows of a tree of keys: its parts. -/
namespace Go.Proofs.YtdglmoikgmlaaaaGreatDoor.Xr
open Go.RowKit Go.Maps
set_option linter.unusedVariables false
set_option maxRecDepth 20000
theorem size_rowJ : (Tryz.prog.info? 67).map (·.size) = some 2 := by kernel_rfl
def NRow (w : World) (key t : ByteArray) (e : Ending) (w' : World) : Prop := ∃ g, e = .returned (.agg #[.string key, .slice (some ⟨g, 0, none⟩) 1 1]) ∧ w'.heap[g]? = some (.cells #[.string t] 9 (0, 0)) ∧ w.heap.size ≤ g ∧ Below w.heap.size w w'
set_option maxHeartbeats 1000000 in
theorem numberRow_any (w : World) (key : ByteArray) (n : Nat) (hn : n ≤ 4611686018427387904) (hT : TabAt w) : Calls Tryz.prog 32 #[.string key, .int .i64 (n : Int)] w (NRow w key (txtJ n)) := by
  have HX := hid (fun (W : World) (hW : Below w.heap.size w W) => textJ_any n hn W (hT.belowJ hW))
  generalize txtJ n = t at *
  have b0 := (Below.refl w.heap.size w).alloc (Nat.le_refl _) (.cells #[.string ⟨#[]⟩, .slice none 0 0] 67)
  have x0 := heap_alloc_new w (.cells #[.string ⟨#[]⟩, .slice none 0 0] 67)
  obtain ⟨W0, hW0⟩ : ∃ W0, W0 = w.alloc (.cells #[.string ⟨#[]⟩, .slice none 0 0] 67) := ⟨_, rfl⟩
  rw [← hW0] at b0 x0
  have HW0 := hid hW0.symm
  have B0 := hid b0
  have X0 := hid x0
  clear b0 x0 hW0 hT
  go_enter Tryz.func32, Tryz.ntmps32
  go_wp2_with (go_at_call 50; rw [HW0.out]; refine (HX.out W0 B0.out).mono ?_; rintro _ w1 ⟨rfl, b1⟩; have B1 := hid (Below.on' B0.out b1); have x1 := (b1.block _ (heap_lt X0.out)).trans X0.out; have X1 := hid x1; have c0 : w1.cell? ⟨w.heap.size, 0, none⟩ = some (.string ⟨#[]⟩) := (cell_of_row _ _ 0 _ _ _ x1).trans rfl; have c1 : w1.cell? ⟨w.heap.size, 1, none⟩ = some (.slice none 0 0) := (cell_of_row _ _ 1 _ _ _ x1).trans rfl; have f0 : w1.frozen? ⟨w.heap.size, 0, none⟩ = false := frozen_of_row _ _ _ _ _ x1; have f1 : w1.frozen? ⟨w.heap.size, 1, none⟩ = false := frozen_of_row _ _ _ _ _ x1; have hlt := heap_lt x1; clear b1 x1)
  obtain ⟨W3, hW3⟩ : ∃ W3, W3 = (w1.setCell ⟨w.heap.size, 0, none⟩ (.string key)).setCell ⟨w.heap.size, 1, none⟩ (.slice (some ⟨w1.heap.size, 0, none⟩) 1 1) := ⟨_, rfl⟩
  rw [← hW3]
  have s3 : W3.heap.size = w1.heap.size := by rw [hW3]; simp [World.setCell]
  have x3 : W3.heap[w.heap.size]? = some (.cells #[.string key, .slice (some ⟨w1.heap.size, 0, none⟩) 1 1] 67 (0, 0)) := by
    rw [hW3, heap_setCell_same _ _ 1 _ _ _ (heap_setCell_same _ _ 0 _ _ _ X1.out)]
    rfl
  have b3 : Below w.heap.size w W3 := by
    rw [hW3]
    exact ((B1.out.setCell (Nat.le_refl _) _).setCell (Nat.le_refl _) _)
  refine bodyPost_ret (results_cell_row rfl _ _ w.heap.size 67 #[.string key, .slice (some ⟨w1.heap.size, 0, none⟩) 1 1] (0, 0) _ rfl ((Below.heap_alloc _ _ _ (heap_lt x3)).trans x3) Tryz.underlying67 rfl size_rowJ) rfl ?_
  exact ⟨w1.heap.size, rfl, by rw [← s3]; exact heap_alloc_new W3 _, B1.out.size, b3.alloc b3.size _⟩
theorem filter_more {α : Type} : ∀ {l : List α} {p p' : α → Bool} {x : α}, l.Nodup → x ∈ l → p x = false → p' x = true → (∀ y ∈ l, y ≠ x → p' y = p y) → (l.filter p').Perm (l.filter p ++ [x])
  | a :: l, p, p', x, hn, hx, h1, h2, h3 => by
    obtain ⟨n1, n2⟩ := List.nodup_cons.1 hn
    by_cases e : a = x
    · subst e
      have hc : l.filter p' = l.filter p := List.filter_congr fun y hy => h3 y (List.mem_cons_of_mem _ hy) (fun e => n1 (e ▸ hy))
      rw [List.filter_cons_of_pos h2, List.filter_cons_of_neg (by rw [h1]; simp), hc]
      exact (List.perm_append_singleton a _).symm
    · have hx' : x ∈ l := by rcases List.mem_cons.1 hx with h | h; exact absurd h.symm e; exact h
      have ih := filter_more n2 hx' h1 h2 (fun y hy => h3 y (List.mem_cons_of_mem _ hy))
      have ha := h3 a List.mem_cons_self e
      cases hp : p a with
      | true => rw [List.filter_cons_of_pos (by rw [ha, hp]), List.filter_cons_of_pos hp]; exact ih.cons a
      | false => rw [List.filter_cons_of_neg (by rw [ha, hp]; simp), List.filter_cons_of_neg (by rw [hp]; simp)]; exact ih
def hRow (n : Nat) : Rw := ⟨⟨#[35]⟩, [txtJ n]⟩
def gRow (t : ByteArray) : Rw := ⟨t, []⟩
def vRow (p : (ByteArray × ByteArray) × Nat) : Rw := ⟨p.1.1 ++ ⟨#[47]⟩ ++ p.1.2, [txtJ p.2]⟩
def mOf (s : TS) : List Rw := hRow s.n :: (s.gs.map gRow ++ s.vs.map vRow)
theorem rows_ne {w : World} {B n : Nat} {v : Value} {xs : List Value} {k : TypeId} {R : Value → Option (DataW Unit × List MemPlace)} {b r c cnt : Nat} {D : DataW Unit} {left : Lit → Bool} (h : w.ownsRow B 67 2 v n xs) (hr : w.ranges Tryz.prog k R b r c D left cnt) : v.ownBlock ≠ some b ∧ v.ownBlock ≠ some r := by
  obtain ⟨es, clock, since, seen, c0, hb, _, _, _, hrr, _⟩ := hr
  rcases h.2 with ⟨rfl, _⟩ | ⟨g, cap, cur, rfl, _, hg, _⟩
  · exact ⟨by simp [Value.ownBlock], by simp [Value.ownBlock]⟩
  · refine ⟨fun e => ?_, fun e => ?_⟩
    · have e' : g = b := by simpa [Value.ownBlock] using e
      rw [e', hb] at hg; cases hg
    · have e' : g = r := by simpa [Value.ownBlock] using e
      rw [e', hrr] at hg; cases hg
theorem col_kept {w w' : World} {a : Option Addr} {l : List ByteArray} {r : Nat} (h : ColAt w a l) (hg : w.grownBy w' (some r)) (hr : ∀ cs fr, w.heap[r]? ≠ some (.cells cs 9 fr)) : ColAt w' a l := by
  rcases h with h | ⟨b, cur, e, h1, h2⟩
  · exact .inl h
  · exact .inr ⟨b, cur, e, (hg.block b (heap_lt h1) (fun e9 => by cases e9; exact hr _ _ h1)).trans h1, h2⟩
theorem range_obj {w : World} {k : TypeId} {R : Value → Option (DataW Unit × List MemPlace)} {b r c cnt : Nat} {D : DataW Unit} {left : Lit → Bool} (hr : w.ranges Tryz.prog k R b r c D left cnt) : ∀ cs t fr, w.heap[r]? ≠ some (.cells cs t fr) := fun cs t fr h => by
  obtain ⟨es, clock, since, seen, c0, hb, _, _, _, hrr, _⟩ := hr
  rw [hrr] at h
  cases h
theorem RowsIs.turned {w w' : World} {l : List RC} {m : List Rw} (h : RowsIs w l m) {r : Nat} (hg : w.grownBy w' (some r)) (hr : ∀ cs t fr, w.heap[r]? ≠ some (.cells cs t fr)) : RowsIs w' l m := h.imp fun _ _ h => ⟨h.1, h.2.1, col_kept h.2.2 hg (fun cs fr => hr cs _ fr)⟩
end Go.Proofs.YtdglmoikgmlaaaaGreatDoor.Xr
