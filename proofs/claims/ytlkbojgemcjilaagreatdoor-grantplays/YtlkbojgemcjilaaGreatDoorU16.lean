/- Grants: rows of clients, in the order of their names. -/
import Derived.Test.YtlkbojgemcjilaaGreatDoorU15
import Derived.Test.YtlkbojgemcjilaaGreatDoorUShelf
import Derived.Lib.Bytealg
import Derived.Lib.Strings
namespace Go.Proofs.YtlkbojgemcjilaaGreatDoor
open Go.RowKit Go.Maps Go.Shelf Go.Sort Go.Lib
set_option linter.unusedVariables false
set_option maxRecDepth 20000
instance : Inhabited Cl := ⟨⟨⟨#[]⟩, ⟨#[]⟩, ⟨#[]⟩, 0⟩⟩
def clL (x : Cl) : List Value := [.string x.t, .string x.n, .string x.r, .int .u8 (x.sc : Int)]
def clCells (l : List Cl) : List Value := l.flatMap clL
theorem clCells_length (l : List Cl) : (clCells l).length = l.length * 4 := by
  induction l with
  | nil => rfl
  | cons x r ih => rw [clCells, List.flatMap_cons, ← clCells, List.length_append, ih]; simp [clL]; omega
theorem clCells_snoc (l : List Cl) (x : Cl) : clCells (l ++ [x]) = clCells l ++ [.string x.t, .string x.n, .string x.r, .int .u8 (x.sc : Int)] := by simp [clCells, clL]
theorem clL_one (x : Cl) : ∀ v ∈ clL x, v.oneCell' = true := fun v hv => by
  simp [clL] at hv
  rcases hv with rfl | rfl | rfl | rfl <;> rfl
theorem clCells_get (l : List Cl) (i : Nat) (hi : i < l.length) : (clCells l)[i * 4]? = some (.string l[i].t) ∧ (clCells l)[i * 4 + 1]? = some (.string l[i].n) ∧ (clCells l)[i * 4 + 2]? = some (.string l[i].r) ∧ (clCells l)[i * 4 + 3]? = some (.int .u8 (l[i].sc : Int)) := by
  induction l generalizing i with
  | nil => simp at hi
  | cons x r ih =>
    rw [clCells, List.flatMap_cons, ← clCells]
    cases i with
    | zero => exact ⟨rfl, rfl, rfl, rfl⟩
    | succ m =>
      have hm : m < r.length := by simpa using hi
      have h := ih m hm
      rw [show (m + 1) * 4 = 4 + m * 4 by omega, List.getElem?_append_right (by simp [clL]), List.getElem?_append_right (by simp [clL]; omega), List.getElem?_append_right (by simp [clL]; omega), List.getElem?_append_right (by simp [clL]; omega)]
      simp only [clL, List.length_cons, List.length_nil, List.getElem_cons_succ]
      rw [show 4 + m * 4 - (0 + 1 + 1 + 1 + 1) = m * 4 by omega, show 4 + m * 4 + 1 - (0 + 1 + 1 + 1 + 1) = m * 4 + 1 by omega, show 4 + m * 4 + 2 - (0 + 1 + 1 + 1 + 1) = m * 4 + 2 by omega, show 4 + m * 4 + 3 - (0 + 1 + 1 + 1 + 1) = m * 4 + 3 by omega]
      exact h
theorem cmp_ltU : ∀ a b : List UInt8, decide (Lib.compareBytes a b < 0) = decide (a < b)
  | [], [] => by simp [Lib.compareBytes]
  | [], _ :: _ => by simp [Lib.compareBytes]
  | _ :: _, [] => by simp [Lib.compareBytes]
  | a :: xs, b :: ys => by
    have ih := cmp_ltU xs ys
    unfold Lib.compareBytes
    by_cases h1 : a < b
    · rw [if_pos h1, decide_eq_true (show (-1 : Int) < 0 by decide), decide_eq_true (List.cons_lt_cons_iff.2 (.inl h1))]
    · rw [if_neg h1]
      by_cases h2 : b < a
      · rw [if_pos h2, decide_eq_false (show ¬ (1 : Int) < 0 by decide), decide_eq_false]
        intro h
        rcases List.cons_lt_cons_iff.1 h with h | ⟨rfl, _⟩
        · exact h1 h
        · exact h1 h2
      · rw [if_neg h2, ih]
        have e : a = b := UInt8.le_antisymm (UInt8.not_lt.1 h2) (UInt8.not_lt.1 h1)
        subst e
        exact decide_eq_decide.2 ⟨fun h => List.cons_lt_cons_iff.2 (.inr ⟨rfl, h⟩), fun h => by
          rcases List.cons_lt_cons_iff.1 h with h | ⟨_, h⟩
          · exact absurd h h1
          · exact h⟩
theorem ord_trans {x y z : List UInt8} (h1 : ¬ y < x) (h2 : ¬ z < y) : ¬ z < x := List.le_trans (show x ≤ y from h1) (show y ≤ z from h2)
set_option maxHeartbeats 1000000 in
theorem cmpStringU (a b : ByteArray) (w : World) : Calls Tryz.prog 76 #[.string a, .string b] w fun e w' => e = .returned (.int .i64 (Lib.compareBytes a.data.toList b.data.toList)) ∧ w' = w := by
  go_enter Tryz.func76, Tryz.ntmps76
  go_wp2
  rw [run_callFunc_extern Tryz.func96 (by kernel_rfl) (by kernel_rfl) (by kernel_rfl) (e := Extern.BytealgCompare.compare) (by kernel_rfl), Lib.run_compareString]
  simp only [Result.andThen]
  rw [Oper.upon_value]
  go_wp2
  go_ret
  exact ⟨rfl, rfl⟩
set_option maxHeartbeats 1000000 in
theorem compareU (a b : ByteArray) (w : World) : Calls Tryz.prog 64 #[.string a, .string b] w fun e w' => e = .returned (.int .i64 (Lib.compareBytes a.data.toList b.data.toList)) ∧ w' = w := by
  go_enter Tryz.func64, Tryz.ntmps64
  go_wp2_with (go_at_call 76; refine (cmpStringU _ _ _).mono ?_; rintro e w' ⟨rfl, rfl⟩)
  go_ret
  exact ⟨rfl, rfl⟩
def cfCl (x y : Cl) : Int := Lib.compareBytes x.n.data.toList y.n.data.toList
def nameL (x : Cl) : List UInt8 := x.n.data.toList
set_option maxHeartbeats 1000000 in
theorem closureCl_any (x y : Cl) (W : World) : Calls Tryz.prog 63 #[.agg #[.string x.t, .string x.n, .string x.r, .int .u8 (x.sc : Int)], .agg #[.string y.t, .string y.n, .string y.r, .int .u8 (y.sc : Int)]] W fun e w' => e = .returned (.int .i64 (cfCl x y)) ∧ ∃ q os', w' = grow (W.drewN q) os' := by
  have hcon := fun W' => compareU x.n y.n W'
  change ∀ W', Calls Tryz.prog 64 _ W' (fun e w' => e = .returned (.int .i64 (cfCl x y)) ∧ w' = W') at hcon
  generalize cfCl x y = r at hcon ⊢
  go_enter Tryz.func63, Tryz.ntmps63
  go_wp2_with (go_at_call 64; refine (hcon _).mono ?_; rintro e w' ⟨rfl, rfl⟩)
  go_ret
  exact ⟨rfl, 0, _, by rw [alloc_eq_grow, alloc_eq_grow, grow_grow]; rfl⟩
theorem ltCl (x y : Cl) : ltOf cfCl x y = decide (nameL x < nameL y) := by
  unfold ltOf cfCl nameL
  rw [cmp_ltU]
theorem swoCl : SWO (ltOf cfCl) where
  irrefl x := by rw [ltCl]; exact decide_eq_false (List.lt_irrefl _)
  trans x y z h1 h2 := by rw [ltCl] at *; exact decide_eq_true (List.lt_trans (of_decide_eq_true h1) (of_decide_eq_true h2))
  ntrans x y z h1 h2 := by rw [ltCl] at *; exact decide_eq_false (ord_trans (x := nameL z) (y := nameL y) (z := nameL x) (of_decide_eq_false h2) (of_decide_eq_false h1))
theorem sort_worldU {w : World} {g n : Nat} {d : Array Cl} {os : Array Obj} : OutJ (fun k => k = g) w (sortWorldK clL 4 w g 0 n d os) := by
  refine ⟨rfl, rfl, rfl, ?_, fun k hk hne => ?_⟩
  · show w.heap.size ≤ ((putRowK clL 4 (Sort.ahead w n) g 0 d).heap ++ os).size
    have : (putRowK clL 4 (Sort.ahead w n) g 0 d).heap.size = w.heap.size := size_putRow _ _ _ _ _
    simp [this]
  · have hs : (putRowK clL 4 (Sort.ahead w n) g 0 d).heap.size = w.heap.size := size_putRow _ _ _ _ _
    show ((putRowK clL 4 (Sort.ahead w n) g 0 d).heap ++ os)[k]? = w.heap[k]?
    rw [Array.getElem?_append_left (by rw [hs]; exact hk)]
    show (w.heap.modify g _)[k]? = _
    rw [Array.getElem?_modify, if_neg (fun e => hne e.symm)]
/-- in the order of their names -/
def NameOrder (S : List Cl) : Prop := S.Pairwise fun a b => ¬ nameL b < nameL a
set_option maxHeartbeats 1000000 in
theorem sortCl_any (l : List Cl) (g c : Nat) (w : World) (hH : HoldsK clL 4 w g 0 l.toArray) (hg : g < w.heap.size) (hl : l.length ≤ 100000) :
    Calls Tryz.prog 62 #[.slice (some ⟨g, 0, none⟩) l.length c, .func (.func 63) #[] #[]] w fun e w' => e = .returned (.tuple #[]) ∧ ∃ S : List Cl, S.Perm l ∧ NameOrder S ∧ HoldsK clL 4 w' g 0 S.toArray ∧ OutJ (fun k => k = g) w w' ∧ ∀ cur t fr, w.heap[g]? = some (.cells cur t fr) → ∃ cur', w'.heap[g]? = some (.cells cur' t fr) ∧ cur'.size = cur.size := by
  have eg : ∀ args w, (callFunc 63 args).run Tryz.prog w = .ok (.enter 63 args) w := enters_of Tryz.func63 (by kernel_rfl) rfl
  have hcon := AnyQ.slices_SortFunc Tryz.sortCl 4 Tryz.isAgg56 Tryz.sizeOf56 clL (fun _ => rfl) clL_one cfCl swoCl 63 #[] g 0 c l.toArray w eg (fun _ _ _ _ x y => closureCl_any x y _) hH hg (by simp; omega)
  change Calls Tryz.prog 62 _ _ _ at hcon
  rw [List.size_toArray] at hcon
  refine hcon.mono ?_
  rintro e w' ⟨rfl, d', n, os, hp, hs, rfl⟩
  have hsz : d'.size = l.length := by simpa using hp.1
  refine ⟨rfl, d'.toList, ?_, ?_, ?_, sort_worldU, fun cur t fr hcur => ?_⟩
  · have h := hp.2.2
    rw [← hsz] at h
    have e1 : d'.extract 0 d'.size = d' := by simp
    have e2 : (l.toArray).extract 0 d'.size = l.toArray := by rw [hsz]; simp
    rw [e1, e2] at h
    exact h
  · unfold NameOrder
    rw [List.pairwise_iff_getElem]
    intro i j hi hj hij
    have hi' : i < d'.size := by simpa using hi
    have hj' : j < d'.size := by simpa using hj
    have h := hs i j (Nat.zero_le _) hij (by omega)
    rw [ltCl, getElem!_pos d' i hi', getElem!_pos d' j hj'] at h
    have h2 := of_decide_eq_false h
    simp only [Array.getElem_toList]
    exact h2
  · rw [Array.toArray_toList]
    refine holdsK_grow clL 4 _ os g 0 d' ?_ (holdsK_putRowK clL 4 _ g 0 l.toArray d' hH (by simpa using hp.1))
    show g < (putRowK clL 4 (Sort.ahead w n) g 0 d').heap.size
    have : (putRowK clL 4 (Sort.ahead w n) g 0 d').heap.size = w.heap.size := size_putRow _ _ _ _ _
    omega
  · have hs : (putRowK clL 4 (Sort.ahead w n) g 0 d').heap.size = w.heap.size := size_putRow _ _ _ _ _
    refine ⟨putCells id 0 (flatK clL 4 d') cur, ?_, by unfold putCells; simp⟩
    show ((putRowK clL 4 (Sort.ahead w n) g 0 d').heap ++ os)[g]? = _
    rw [Array.getElem?_append_left (by rw [hs]; exact hg)]
    show (w.heap.modify g _)[g]? = _
    rw [Array.getElem?_modify, if_pos rfl, hcur]
    rfl
theorem get4U {l : List Cl} {t : Nat} (ht : t < l.length * 4) : (clCells l)[t]? = (clL (l.toArray[t / 4]!))[t % 4]? := by
  have hi : t / 4 < l.length := by omega
  obtain ⟨g0, g1, g2, g3⟩ := clCells_get l (t / 4) hi
  rw [getElem!_pos l.toArray (t / 4) (by simpa using hi)]
  simp only [List.getElem_toArray]
  have e : t = t / 4 * 4 + t % 4 := by omega
  rcases (show t % 4 = 0 ∨ t % 4 = 1 ∨ t % 4 = 2 ∨ t % 4 = 3 by omega) with h | h | h | h <;> rw [h] at e ⊢ <;> conv => lhs; rw [e]
  · exact g0
  · exact g1
  · exact g2
  · exact g3
theorem holds_of_cl {w : World} {B g c : Nat} {l : List Cl} (h : w.ownsRow B 56 4 (.slice (some ⟨g, 0, none⟩) l.length c) l.length (clCells l)) : Sort.HoldsK clL 4 w g 0 l.toArray := by
  intro t ht
  rw [Sort.size_flatK] at ht
  have ht' : t < l.length * 4 := by simpa using ht
  refine ⟨?_, h.frozenAt _⟩
  rw [Nat.zero_add, h.cellAt t (by omega), Sort.get_flatK _ _ _ _ (by simpa using ht), get4U ht']
  rw [getElem!_pos (clL l.toArray[t / 4]!) (t % 4) (by show t % 4 < 4; omega), List.getElem?_eq_getElem (by show t % 4 < 4; omega)]
  rfl
theorem cl_of_holds {w : World} {B g c n : Nat} {l : List Cl} {cur : Array Value} (h : Sort.HoldsK clL 4 w g 0 l.toArray) (hg : w.heap[g]? = some (.cells cur 56 (0, 0))) (hB : B ≤ g) (hn : n = l.length) (hc : n ≤ c) (hc9 : c ≤ maxLen) (hs : cur.size = c * 4) : w.ownsRow B 56 4 (.slice (some ⟨g, 0, none⟩) n c) l.length (clCells l) := by
  subst hn
  refine ⟨clCells_length l, .inr ⟨g, c, cur, rfl, hB, hg, hc, hc9, hs, ?_⟩⟩
  apply List.ext_getElem?
  intro t
  by_cases ht : t < l.length * 4
  · rw [List.getElem?_take_of_lt ht]
    have h1 := (h t (by rw [Sort.size_flatK]; simpa using ht)).1
    rw [Nat.zero_add, cell_of_row _ _ _ _ _ _ hg, Sort.get_flatK _ _ _ _ (by simpa using ht)] at h1
    rw [get4U ht, Array.getElem?_toList, h1, getElem!_pos (clL l.toArray[t / 4]!) (t % 4) (by show t % 4 < 4; omega), List.getElem?_eq_getElem (by show t % 4 < 4; omega)]
    rfl
  · rw [List.getElem?_eq_none (by simp; omega), List.getElem?_eq_none (by rw [clCells_length]; omega)]
end Go.Proofs.YtlkbojgemcjilaaGreatDoor
