/- state.Sort: rows in the order of their keys' bytes. -/
import Derived.Test.YtlkbojgemcjilaaGreatDoorGX1
import Derived.Test.YtlkbojgemcjilaaGreatDoorGShelf
import Derived.Lib.Bytealg
import Derived.Lib.Strings
namespace Go.Proofs.YtlkbojgemcjilaaGreatDoor.Xr
open Go.RowKit Go.Maps Go.Shelf Go.Sort Go.Lib
set_option linter.unusedVariables false
set_option maxRecDepth 20000
theorem cmp_lt : ∀ a b : List UInt8, decide (Lib.compareBytes a b < 0) = decide (a < b)
  | [], [] => by simp [Lib.compareBytes]
  | [], _ :: _ => by simp [Lib.compareBytes]
  | _ :: _, [] => by simp [Lib.compareBytes]
  | a :: xs, b :: ys => by
    have ih := cmp_lt xs ys
    unfold Lib.compareBytes
    by_cases h1 : a < b
    · rw [if_pos h1, decide_eq_true (show (-1 : Int) < 0 by decide), decide_eq_true (List.cons_lt_cons_iff.2 (.inl h1))]
    · rw [if_neg h1]
      by_cases h2 : b < a
      · rw [if_pos h2, decide_eq_false (show ¬ (1 : Int) < 0 by decide), decide_eq_false]
        intro h
        rcases List.cons_lt_cons_iff.1 h with h | ⟨rfl, _⟩
        · exact h1 h
        · exact h1 h2
      · rw [if_neg h2, ih]
        have e : a = b := UInt8.le_antisymm (UInt8.not_lt.1 h2) (UInt8.not_lt.1 h1)
        subst e
        exact decide_eq_decide.2 ⟨fun h => List.cons_lt_cons_iff.2 (.inr ⟨rfl, h⟩), fun h => by
          rcases List.cons_lt_cons_iff.1 h with h | ⟨_, h⟩
          · exact absurd h h1
          · exact h⟩
set_option maxHeartbeats 1000000 in
theorem cmpString_any (a b : ByteArray) (w : World) : Calls Tryz.prog 76 #[.string a, .string b] w fun e w' => e = .returned (.int .i64 (Lib.compareBytes a.data.toList b.data.toList)) ∧ w' = w := by
  go_enter Tryz.func76, Tryz.ntmps76
  go_wp2
  rw [run_callFunc_extern Tryz.func96 (by kernel_rfl) (by kernel_rfl) (by kernel_rfl) (e := Extern.BytealgCompare.compare) (by kernel_rfl), Lib.run_compareString]
  simp only [Result.andThen]
  rw [Oper.upon_value]
  go_wp2
  go_ret
  exact ⟨rfl, rfl⟩
set_option maxHeartbeats 1000000 in
theorem compare_any (a b : ByteArray) (w : World) : Calls Tryz.prog 64 #[.string a, .string b] w fun e w' => e = .returned (.int .i64 (Lib.compareBytes a.data.toList b.data.toList)) ∧ w' = w := by
  go_enter Tryz.func64, Tryz.ntmps64
  go_wp2_with (go_at_call 76; refine (cmpString_any _ _ _).mono ?_; rintro e w' ⟨rfl, rfl⟩)
  go_ret
  exact ⟨rfl, rfl⟩
instance : Inhabited RC := ⟨⟨⟨#[]⟩, none, 0, 0⟩⟩
def encRw (x : RC) : List Value := [.string x.key, .slice x.ad x.len x.cap]
theorem encRw_one (x : RC) : ∀ v ∈ encRw x, v.oneCell' = true := fun v hv => by
  simp [encRw] at hv
  rcases hv with rfl | rfl <;> rfl
def cfRw (x y : RC) : Int := Lib.compareBytes x.key.data.toList y.key.data.toList
set_option maxHeartbeats 1000000 in
theorem closureRw_any (x y : RC) (W : World) : Calls Tryz.prog 68 #[.agg #[.string x.key, .slice x.ad x.len x.cap], .agg #[.string y.key, .slice y.ad y.len y.cap]] W fun e w' => e = .returned (.int .i64 (cfRw x y)) ∧ ∃ q os', w' = grow (W.drewN q) os' := by
  have hcon := fun W' => compare_any x.key y.key W'
  change ∀ W', Calls Tryz.prog 64 _ W' (fun e w' => e = .returned (.int .i64 (cfRw x y)) ∧ w' = W') at hcon
  generalize cfRw x y = r at hcon ⊢
  go_enter Tryz.func68, Tryz.ntmps68
  go_wp2_with (go_at_call 64; refine (hcon _).mono ?_; rintro e w' ⟨rfl, rfl⟩)
  go_ret
  exact ⟨rfl, 0, _, by rw [alloc_eq_grow, alloc_eq_grow, grow_grow]; rfl⟩
theorem ltRw (x y : RC) : ltOf cfRw x y = decide (keyL x < keyL y) := by
  unfold ltOf cfRw keyL
  rw [cmp_lt, Lib.toList_data, Lib.toList_data]
theorem swoRw : SWO (ltOf cfRw) where
  irrefl x := by rw [ltRw]; exact decide_eq_false (List.lt_irrefl _)
  trans x y z h1 h2 := by rw [ltRw] at *; exact decide_eq_true (List.lt_trans (of_decide_eq_true h1) (of_decide_eq_true h2))
  ntrans x y z h1 h2 := by rw [ltRw] at *; exact decide_eq_false (key_trans (x := keyL z) (y := keyL y) (z := keyL x) (of_decide_eq_false h2) (of_decide_eq_false h1))
theorem sort_worldR {w : World} {g n : Nat} {d : Array RC} {os : Array Obj} : OutJ (fun k => k = g) w (sortWorldK encRw 2 w g 0 n d os) := by
  refine ⟨rfl, rfl, rfl, ?_, fun k hk hne => ?_⟩
  · show w.heap.size ≤ ((putRowK encRw 2 (Sort.ahead w n) g 0 d).heap ++ os).size
    have : (putRowK encRw 2 (Sort.ahead w n) g 0 d).heap.size = w.heap.size := size_putRow _ _ _ _ _
    simp [this]
  · have hs : (putRowK encRw 2 (Sort.ahead w n) g 0 d).heap.size = w.heap.size := size_putRow _ _ _ _ _
    show ((putRowK encRw 2 (Sort.ahead w n) g 0 d).heap ++ os)[k]? = w.heap[k]?
    rw [Array.getElem?_append_left (by rw [hs]; exact hk)]
    show (w.heap.modify g _)[k]? = _
    rw [Array.getElem?_modify, if_neg (fun e => hne e.symm)]
set_option maxHeartbeats 1000000 in
theorem sortRw_any (l : List RC) (g c : Nat) (w : World) (hH : HoldsK encRw 2 w g 0 l.toArray) (hg : g < w.heap.size) (hl : l.length ≤ 1000000) :
    Calls Tryz.prog 67 #[.slice (some ⟨g, 0, none⟩) l.length c, .func (.func 68) #[] #[]] w fun e w' => e = .returned (.tuple #[]) ∧ ∃ S : List RC, S.Perm l ∧ InOrder keyL S ∧ HoldsK encRw 2 w' g 0 S.toArray ∧ OutJ (fun k => k = g) w w' ∧ ∀ cur t fr, w.heap[g]? = some (.cells cur t fr) → ∃ cur', w'.heap[g]? = some (.cells cur' t fr) ∧ cur'.size = cur.size := by
  have eg : ∀ args w, (callFunc 68 args).run Tryz.prog w = .ok (.enter 68 args) w := enters_of Tryz.func68 (by kernel_rfl) rfl
  have hcon := AnyQ.slices_SortFunc Tryz.sortRw 2 Tryz.isAgg79 Tryz.sizeOf79 encRw (fun _ => rfl) encRw_one cfRw swoRw 68 #[] g 0 c l.toArray w eg (fun _ _ _ _ x y => closureRw_any x y _) hH hg (by simp; omega)
  change Calls Tryz.prog 67 _ _ _ at hcon
  rw [List.size_toArray] at hcon
  refine hcon.mono ?_
  rintro e w' ⟨rfl, d', n, os, hp, hs, rfl⟩
  have hsz : d'.size = l.length := by simpa using hp.1
  refine ⟨rfl, d'.toList, ?_, ?_, ?_, sort_worldR, fun cur t fr hcur => ?_⟩
  · have h := hp.2.2
    rw [← hsz] at h
    have e1 : d'.extract 0 d'.size = d' := by simp
    have e2 : (l.toArray).extract 0 d'.size = l.toArray := by rw [hsz]; simp
    rw [e1, e2] at h
    exact h
  · unfold InOrder
    rw [List.pairwise_iff_getElem]
    intro i j hi hj hij
    have hi' : i < d'.size := by simpa using hi
    have hj' : j < d'.size := by simpa using hj
    have h := hs i j (Nat.zero_le _) hij (by omega)
    rw [ltRw, getElem!_pos d' i hi', getElem!_pos d' j hj'] at h
    have h2 := of_decide_eq_false h
    simp only [Array.getElem_toList]
    exact h2
  · rw [Array.toArray_toList]
    refine holdsK_grow encRw 2 _ os g 0 d' ?_ (holdsK_putRowK encRw 2 _ g 0 l.toArray d' hH (by simpa using hp.1))
    show g < (putRowK encRw 2 (Sort.ahead w n) g 0 d').heap.size
    have : (putRowK encRw 2 (Sort.ahead w n) g 0 d').heap.size = w.heap.size := size_putRow _ _ _ _ _
    omega
  · have hs : (putRowK encRw 2 (Sort.ahead w n) g 0 d').heap.size = w.heap.size := size_putRow _ _ _ _ _
    refine ⟨putCells id 0 (flatK encRw 2 d') cur, ?_, by unfold putCells; simp⟩
    show ((putRowK encRw 2 (Sort.ahead w n) g 0 d').heap ++ os)[g]? = _
    rw [Array.getElem?_append_left (by rw [hs]; exact hg)]
    show (w.heap.modify g _)[g]? = _
    rw [Array.getElem?_modify, if_pos rfl, hcur]
    rfl
theorem holds_of_rw {w : World} {B g c : Nat} {l : List RC} (h : w.ownsRow B 79 2 (.slice (some ⟨g, 0, none⟩) l.length c) l.length (rcCells l)) : Sort.HoldsK encRw 2 w g 0 l.toArray := by
  intro t ht
  rw [Sort.size_flatK] at ht
  have ht' : t < l.length * 2 := by simpa using ht
  refine ⟨?_, h.frozenAt _⟩
  have e : t = t / 2 * 2 + t % 2 := by omega
  have hi : t / 2 < l.length := by omega
  rw [Nat.zero_add, h.cellAt t (by omega), Sort.get_flatK _ _ _ _ (by simpa using ht)]
  obtain ⟨g0, g1⟩ := rcCells_get l (t / 2) hi
  rw [getElem!_pos l.toArray (t / 2) (by simpa using hi)]
  simp only [List.getElem_toArray, id]
  rcases (show t % 2 = 0 ∨ t % 2 = 1 by omega) with h | h
  · rw [h] at e ⊢
    conv => lhs; rw [e]
    exact g0
  · rw [h] at e ⊢
    conv => lhs; rw [e]
    exact g1
theorem rw_of_holds {w : World} {B g c n : Nat} {l : List RC} {cur : Array Value} (h : Sort.HoldsK encRw 2 w g 0 l.toArray) (hg : w.heap[g]? = some (.cells cur 79 (0, 0))) (hB : B ≤ g) (hn : n = l.length) (hc : n ≤ c) (hc9 : c ≤ maxLen) (hs : cur.size = c * 2) : w.ownsRow B 79 2 (.slice (some ⟨g, 0, none⟩) n c) l.length (rcCells l) := by
  subst hn
  refine ⟨rcCells_length l, .inr ⟨g, c, cur, rfl, hB, hg, hc, hc9, hs, ?_⟩⟩
  apply List.ext_getElem?
  intro t
  by_cases ht : t < l.length * 2
  · rw [List.getElem?_take_of_lt ht]
    have h1 := (h t (by rw [Sort.size_flatK]; simpa using ht)).1
    rw [Nat.zero_add, cell_of_row _ _ _ _ _ _ hg, Sort.get_flatK _ _ _ _ (by simpa using ht)] at h1
    have hi : t / 2 < l.length := by omega
    rw [getElem!_pos l.toArray (t / 2) (by simpa using hi)] at h1
    simp only [List.getElem_toArray, id] at h1
    have e : t = t / 2 * 2 + t % 2 := by omega
    obtain ⟨g0, g1⟩ := rcCells_get l (t / 2) hi
    rw [Array.getElem?_toList, h1]
    rcases (show t % 2 = 0 ∨ t % 2 = 1 by omega) with h | h
    · rw [h] at e ⊢
      conv => rhs; rw [e]
      exact g0.symm
    · rw [h] at e ⊢
      conv => rhs; rw [e]
      exact g1.symm
  · rw [List.getElem?_eq_none (by simp; omega), List.getElem?_eq_none (by rw [rcCells_length]; omega)]
set_option maxHeartbeats 1000000 in
theorem stateSort_any {w : World} {B g n c : Nat} {rs : List RC} (h : w.ownsRow B 79 2 (.slice (some ⟨g, 0, none⟩) n c) rs.length (rcCells rs)) (hl : rs.length ≤ 1000000) :
    Calls Tryz.prog 44 #[.slice (some ⟨g, 0, none⟩) n c] w fun e w' => e = .returned (.tuple #[]) ∧ ∃ S : List RC, S.Perm rs ∧ InOrder keyL S ∧ w'.ownsRow B 79 2 (.slice (some ⟨g, 0, none⟩) n c) S.length (rcCells S) ∧ OutJ (fun k => k = g) w w' := by
  have h2 := h.2
  rcases h2 with ⟨e, _⟩ | ⟨g2, c2, cur, e, hB, hg, hc, hc9, hs, ht⟩
  · cases e
  · have e0 := e
    injection e with e1 e2 e3
    injection e1 with e1
    injection e1 with e1
    subst e1
    subst e2
    subst e3
    have hH := holds_of_rw h
    have HS := hid (sortRw_any rs g c w hH (heap_lt hg) hl)
    have Hg := hid hg
    have Hs := hid hs
    have HB := hid hB
    have Hc := hid hc
    have Hc9 := hid hc9
    obtain ⟨m, hm⟩ : ∃ m, m = rs.length := ⟨_, rfl⟩
    rw [← hm] at HS Hc ⊢
    have Hm := hid hm
    clear h hH hg hs hB hc hc9 ht hm e0
    go_enter Tryz.func44, Tryz.ntmps44
    go_wp2_with (go_at_call 67; refine HS.out.mono ?_; rintro _ w' ⟨rfl, S, p1, p2, p3, p4, p5⟩; have P1 := hid p1; have P2 := hid p2; have P3 := hid p3; have P4 := hid p4; have P5 := hid p5; clear p1 p2 p3 p4 p5)
    go_end0
    obtain ⟨cur', q1, q2⟩ := P5.out _ _ _ Hg.out
    exact ⟨rfl, S, P1.out, P2.out, rw_of_holds P3.out q1 HB.out (by rw [Hm.out, P1.out.length_eq]) Hc.out Hc9.out (by rw [q2, Hs.out]), P4.out⟩
end Go.Proofs.YtlkbojgemcjilaaGreatDoor.Xr
