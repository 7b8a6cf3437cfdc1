/- YtlkbojgemcjilaaGreatDoorU16 + YtlkbojgemcjilaaGreatDoorU17 + YtlkbojgemcjilaaGreatDoorU18 -/
import Derived.Test.YtlkbojgemcjilaaGreatDoorU15
import Derived.Test.YtlkbojgemcjilaaGreatDoorUShelf
import Derived.Lib.Bytealg
import Derived.Lib.Strings
import Derived.Deep.AppendLies
import Derived.Deep.RegionHeld3
import Derived.Shelf.SlSortCmp.NoneTotal
/- Grants: rows of clients, in the order of their names. -/
namespace Go.Proofs.YtlkbojgemcjilaaGreatDoor
open Go.RowKit Go.Maps Go.Shelf Go.Sort Go.Lib
set_option linter.unusedVariables false
set_option maxRecDepth 20000
instance : Inhabited Cl := ⟨⟨⟨#[]⟩, ⟨#[]⟩, ⟨#[]⟩, 0⟩⟩
def clL (x : Cl) : List Value := [.string x.t, .string x.n, .string x.r, .int .u8 (x.sc : Int)]
def clCells (l : List Cl) : List Value := l.flatMap clL
theorem clCells_length (l : List Cl) : (clCells l).length = l.length * 4 := by
  induction l with
  | nil => rfl
  | cons x r ih => rw [clCells, List.flatMap_cons, ← clCells, List.length_append, ih]; simp [clL]; omega
theorem clCells_snoc (l : List Cl) (x : Cl) : clCells (l ++ [x]) = clCells l ++ [.string x.t, .string x.n, .string x.r, .int .u8 (x.sc : Int)] := by simp [clCells, clL]
theorem clL_one (x : Cl) : ∀ v ∈ clL x, v.oneCell' = true := fun v hv => by
  simp [clL] at hv
  rcases hv with rfl | rfl | rfl | rfl <;> rfl
theorem clCells_get (l : List Cl) (i : Nat) (hi : i < l.length) : (clCells l)[i * 4]? = some (.string l[i].t) ∧ (clCells l)[i * 4 + 1]? = some (.string l[i].n) ∧ (clCells l)[i * 4 + 2]? = some (.string l[i].r) ∧ (clCells l)[i * 4 + 3]? = some (.int .u8 (l[i].sc : Int)) := by
  induction l generalizing i with
  | nil => simp at hi
  | cons x r ih =>
    rw [clCells, List.flatMap_cons, ← clCells]
    cases i with
    | zero => exact ⟨rfl, rfl, rfl, rfl⟩
    | succ m =>
      have hm : m < r.length := by simpa using hi
      have h := ih m hm
      rw [show (m + 1) * 4 = 4 + m * 4 by omega, List.getElem?_append_right (by simp [clL]), List.getElem?_append_right (by simp [clL]; omega), List.getElem?_append_right (by simp [clL]; omega), List.getElem?_append_right (by simp [clL]; omega)]
      simp only [clL, List.length_cons, List.length_nil, List.getElem_cons_succ]
      rw [show 4 + m * 4 - (0 + 1 + 1 + 1 + 1) = m * 4 by omega, show 4 + m * 4 + 1 - (0 + 1 + 1 + 1 + 1) = m * 4 + 1 by omega, show 4 + m * 4 + 2 - (0 + 1 + 1 + 1 + 1) = m * 4 + 2 by omega, show 4 + m * 4 + 3 - (0 + 1 + 1 + 1 + 1) = m * 4 + 3 by omega]
      exact h
theorem cmp_ltU : ∀ a b : List UInt8, decide (Lib.compareBytes a b < 0) = decide (a < b)
  | [], [] => by simp [Lib.compareBytes]
  | [], _ :: _ => by simp [Lib.compareBytes]
  | _ :: _, [] => by simp [Lib.compareBytes]
  | a :: xs, b :: ys => by
    have ih := cmp_ltU xs ys
    unfold Lib.compareBytes
    by_cases h1 : a < b
    · rw [if_pos h1, decide_eq_true (show (-1 : Int) < 0 by decide), decide_eq_true (List.cons_lt_cons_iff.2 (.inl h1))]
    · rw [if_neg h1]
      by_cases h2 : b < a
      · rw [if_pos h2, decide_eq_false (show ¬ (1 : Int) < 0 by decide), decide_eq_false]
        intro h
        rcases List.cons_lt_cons_iff.1 h with h | ⟨rfl, _⟩
        · exact h1 h
        · exact h1 h2
      · rw [if_neg h2, ih]
        have e : a = b := UInt8.le_antisymm (UInt8.not_lt.1 h2) (UInt8.not_lt.1 h1)
        subst e
        exact decide_eq_decide.2 ⟨fun h => List.cons_lt_cons_iff.2 (.inr ⟨rfl, h⟩), fun h => by
          rcases List.cons_lt_cons_iff.1 h with h | ⟨_, h⟩
          · exact absurd h h1
          · exact h⟩
theorem ord_trans {x y z : List UInt8} (h1 : ¬ y < x) (h2 : ¬ z < y) : ¬ z < x := List.le_trans (show x ≤ y from h1) (show y ≤ z from h2)
set_option maxHeartbeats 1000000 in
theorem cmpStringU (a b : ByteArray) (w : World) : Calls Tryz.prog 76 #[.string a, .string b] w fun e w' => e = .returned (.int .i64 (Lib.compareBytes a.data.toList b.data.toList)) ∧ w' = w := by
  go_enter Tryz.func76, Tryz.ntmps76
  go_wp2
  rw [run_callFunc_extern Tryz.func96 (by kernel_rfl) (by kernel_rfl) (by kernel_rfl) (e := Extern.BytealgCompare.compare) (by kernel_rfl), Lib.run_compareString]
  simp only [Result.andThen]
  rw [Oper.upon_value]
  go_wp2
  go_ret
  exact ⟨rfl, rfl⟩
set_option maxHeartbeats 1000000 in
theorem compareU (a b : ByteArray) (w : World) : Calls Tryz.prog 64 #[.string a, .string b] w fun e w' => e = .returned (.int .i64 (Lib.compareBytes a.data.toList b.data.toList)) ∧ w' = w := by
  go_enter Tryz.func64, Tryz.ntmps64
  go_wp2_with (go_at_call 76; refine (cmpStringU _ _ _).mono ?_; rintro e w' ⟨rfl, rfl⟩)
  go_ret
  exact ⟨rfl, rfl⟩
def cfCl (x y : Cl) : Int := Lib.compareBytes x.n.data.toList y.n.data.toList
def nameL (x : Cl) : List UInt8 := x.n.data.toList
set_option maxHeartbeats 1000000 in
theorem closureCl_any (x y : Cl) (W : World) : Calls Tryz.prog 63 #[.agg #[.string x.t, .string x.n, .string x.r, .int .u8 (x.sc : Int)], .agg #[.string y.t, .string y.n, .string y.r, .int .u8 (y.sc : Int)]] W fun e w' => e = .returned (.int .i64 (cfCl x y)) ∧ ∃ q os', w' = grow (W.drewN q) os' := by
  have hcon := fun W' => compareU x.n y.n W'
  change ∀ W', Calls Tryz.prog 64 _ W' (fun e w' => e = .returned (.int .i64 (cfCl x y)) ∧ w' = W') at hcon
  generalize cfCl x y = r at hcon ⊢
  go_enter Tryz.func63, Tryz.ntmps63
  go_wp2_with (go_at_call 64; refine (hcon _).mono ?_; rintro e w' ⟨rfl, rfl⟩)
  go_ret
  exact ⟨rfl, 0, _, by rw [alloc_eq_grow, alloc_eq_grow, grow_grow]; rfl⟩
theorem ltCl (x y : Cl) : ltOf cfCl x y = decide (nameL x < nameL y) := by
  unfold ltOf cfCl nameL
  rw [cmp_ltU]
theorem swoCl : SWO (ltOf cfCl) where
  irrefl x := by rw [ltCl]; exact decide_eq_false (List.lt_irrefl _)
  trans x y z h1 h2 := by rw [ltCl] at *; exact decide_eq_true (List.lt_trans (of_decide_eq_true h1) (of_decide_eq_true h2))
  ntrans x y z h1 h2 := by rw [ltCl] at *; exact decide_eq_false (ord_trans (x := nameL z) (y := nameL y) (z := nameL x) (of_decide_eq_false h2) (of_decide_eq_false h1))
theorem sort_worldU {w : World} {g n : Nat} {d : Array Cl} {os : Array Obj} : OutJ (fun k => k = g) w (sortWorldK clL 4 w g 0 n d os) := by
  refine ⟨rfl, rfl, rfl, ?_, fun k hk hne => ?_⟩
  · show w.heap.size ≤ ((putRowK clL 4 (Sort.ahead w n) g 0 d).heap ++ os).size
    have : (putRowK clL 4 (Sort.ahead w n) g 0 d).heap.size = w.heap.size := size_putRow _ _ _ _ _
    simp [this]
  · have hs : (putRowK clL 4 (Sort.ahead w n) g 0 d).heap.size = w.heap.size := size_putRow _ _ _ _ _
    show ((putRowK clL 4 (Sort.ahead w n) g 0 d).heap ++ os)[k]? = w.heap[k]?
    rw [Array.getElem?_append_left (by rw [hs]; exact hk)]
    show (w.heap.modify g _)[k]? = _
    rw [Array.getElem?_modify, if_neg (fun e => hne e.symm)]
/-- in the order of their names -/
def NameOrder (S : List Cl) : Prop := S.Pairwise fun a b => ¬ nameL b < nameL a
set_option maxHeartbeats 1000000 in
theorem sortCl_any (l : List Cl) (g c : Nat) (w : World) (hH : HoldsK clL 4 w g 0 l.toArray) (hg : g < w.heap.size) (hl : l.length ≤ 100000) :
    Calls Tryz.prog 62 #[.slice (some ⟨g, 0, none⟩) l.length c, .func (.func 63) #[] #[]] w fun e w' => e = .returned (.tuple #[]) ∧ ∃ S : List Cl, S.Perm l ∧ NameOrder S ∧ HoldsK clL 4 w' g 0 S.toArray ∧ OutJ (fun k => k = g) w w' ∧ ∀ cur t fr, w.heap[g]? = some (.cells cur t fr) → ∃ cur', w'.heap[g]? = some (.cells cur' t fr) ∧ cur'.size = cur.size := by
  have eg : ∀ args w, (callFunc 63 args).run Tryz.prog w = .ok (.enter 63 args) w := enters_of Tryz.func63 (by kernel_rfl) rfl
  have hcon := AnyQ.slices_SortFunc Tryz.sortCl 4 Tryz.isAgg56 Tryz.sizeOf56 clL (fun _ => rfl) clL_one cfCl swoCl 63 #[] g 0 c l.toArray w eg (fun _ _ _ _ x y => closureCl_any x y _) hH hg (by simp; omega)
  change Calls Tryz.prog 62 _ _ _ at hcon
  rw [List.size_toArray] at hcon
  refine hcon.mono ?_
  rintro e w' ⟨rfl, d', n, os, hp, hs, rfl⟩
  have hsz : d'.size = l.length := by simpa using hp.1
  refine ⟨rfl, d'.toList, ?_, ?_, ?_, sort_worldU, fun cur t fr hcur => ?_⟩
  · have h := hp.2.2
    rw [← hsz] at h
    have e1 : d'.extract 0 d'.size = d' := by simp
    have e2 : (l.toArray).extract 0 d'.size = l.toArray := by rw [hsz]; simp
    rw [e1, e2] at h
    exact h
  · unfold NameOrder
    rw [List.pairwise_iff_getElem]
    intro i j hi hj hij
    have hi' : i < d'.size := by simpa using hi
    have hj' : j < d'.size := by simpa using hj
    have h := hs i j (Nat.zero_le _) hij (by omega)
    rw [ltCl, getElem!_pos d' i hi', getElem!_pos d' j hj'] at h
    have h2 := of_decide_eq_false h
    simp only [Array.getElem_toList]
    exact h2
  · rw [Array.toArray_toList]
    refine holdsK_grow clL 4 _ os g 0 d' ?_ (holdsK_putRowK clL 4 _ g 0 l.toArray d' hH (by simpa using hp.1))
    show g < (putRowK clL 4 (Sort.ahead w n) g 0 d').heap.size
    have : (putRowK clL 4 (Sort.ahead w n) g 0 d').heap.size = w.heap.size := size_putRow _ _ _ _ _
    omega
  · have hs : (putRowK clL 4 (Sort.ahead w n) g 0 d').heap.size = w.heap.size := size_putRow _ _ _ _ _
    refine ⟨putCells id 0 (flatK clL 4 d') cur, ?_, by unfold putCells; simp⟩
    show ((putRowK clL 4 (Sort.ahead w n) g 0 d').heap ++ os)[g]? = _
    rw [Array.getElem?_append_left (by rw [hs]; exact hg)]
    show (w.heap.modify g _)[g]? = _
    rw [Array.getElem?_modify, if_pos rfl, hcur]
    rfl
theorem get4U {l : List Cl} {t : Nat} (ht : t < l.length * 4) : (clCells l)[t]? = (clL (l.toArray[t / 4]!))[t % 4]? := by
  have hi : t / 4 < l.length := by omega
  obtain ⟨g0, g1, g2, g3⟩ := clCells_get l (t / 4) hi
  rw [getElem!_pos l.toArray (t / 4) (by simpa using hi)]
  simp only [List.getElem_toArray]
  have e : t = t / 4 * 4 + t % 4 := by omega
  rcases (show t % 4 = 0 ∨ t % 4 = 1 ∨ t % 4 = 2 ∨ t % 4 = 3 by omega) with h | h | h | h <;> rw [h] at e ⊢ <;> conv => lhs; rw [e]
  · exact g0
  · exact g1
  · exact g2
  · exact g3
theorem holds_of_cl {w : World} {B g c : Nat} {l : List Cl} (h : w.ownsRow B 56 4 (.slice (some ⟨g, 0, none⟩) l.length c) l.length (clCells l)) : Sort.HoldsK clL 4 w g 0 l.toArray := by
  intro t ht
  rw [Sort.size_flatK] at ht
  have ht' : t < l.length * 4 := by simpa using ht
  refine ⟨?_, h.frozenAt _⟩
  rw [Nat.zero_add, h.cellAt t (by omega), Sort.get_flatK _ _ _ _ (by simpa using ht), get4U ht']
  rw [getElem!_pos (clL l.toArray[t / 4]!) (t % 4) (by show t % 4 < 4; omega), List.getElem?_eq_getElem (by show t % 4 < 4; omega)]
  rfl
theorem cl_of_holds {w : World} {B g c n : Nat} {l : List Cl} {cur : Array Value} (h : Sort.HoldsK clL 4 w g 0 l.toArray) (hg : w.heap[g]? = some (.cells cur 56 (0, 0))) (hB : B ≤ g) (hn : n = l.length) (hc : n ≤ c) (hc9 : c ≤ maxLen) (hs : cur.size = c * 4) : w.ownsRow B 56 4 (.slice (some ⟨g, 0, none⟩) n c) l.length (clCells l) := by
  subst hn
  refine ⟨clCells_length l, .inr ⟨g, c, cur, rfl, hB, hg, hc, hc9, hs, ?_⟩⟩
  apply List.ext_getElem?
  intro t
  by_cases ht : t < l.length * 4
  · rw [List.getElem?_take_of_lt ht]
    have h1 := (h t (by rw [Sort.size_flatK]; simpa using ht)).1
    rw [Nat.zero_add, cell_of_row _ _ _ _ _ _ hg, Sort.get_flatK _ _ _ _ (by simpa using ht)] at h1
    rw [get4U ht, Array.getElem?_toList, h1, getElem!_pos (clL l.toArray[t / 4]!) (t % 4) (by show t % 4 < 4; omega), List.getElem?_eq_getElem (by show t % 4 < 4; omega)]
    rfl
  · rw [List.getElem?_eq_none (by simp; omega), List.getElem?_eq_none (by rw [clCells_length]; omega)]
end Go.Proofs.YtlkbojgemcjilaaGreatDoor

/- Grants: a row of clients that grows, and is sorted. -/
namespace Go.Proofs.YtlkbojgemcjilaaGreatDoor
open Go.RowKit Go.Maps Go.Shelf Go.Sort Go.Lib
set_option linter.unusedVariables false
set_option maxRecDepth 20000
theorem clInfo : (Tryz.prog.info? 56).map (fun i => (i.zero, i.size, i.bytes)) = some (some (.agg #[.string ⟨#[]⟩, .string ⟨#[]⟩, .string ⟨#[]⟩, .int .u8 0]), 4, 56) := by kernel_rfl
theorem own_someU {w : World} {B n sz : Nat} {e : TypeId} {v : Value} {xs : List Value} (h : w.ownsRow B e sz v n xs) (h0 : 0 < n) : ∃ g c, v = .slice (some ⟨g, 0, none⟩) n c := by
  rcases h.2 with ⟨_, h1⟩ | ⟨g, cap, cur, e1, _⟩
  · omega
  · exact ⟨g, cap, e1⟩
theorem app_clU {W : World} {o : Oper} {a : Act} {K : Act → World → Prop} {Q : Exit → Act → World → Prop} (sl x : Operand)
    (ho : o.op = .call { callee := .builtin .append, args := #[sl, x], argTypes := #[50, 50] }) (w : World) (c : Cl) (hW : W = w.alloc (.cells #[.string c.t, .string c.n, .string c.r, .int .u8 (c.sc : Int)] 56)) (base : Nat) (v : Value) (l : List Cl) (hs : a.eval sl = v)
    (hown : w.ownsRow base 56 4 v l.length (clCells l)) (hx : a.eval x = .slice (some ⟨w.heap.size, 0, none⟩) 1 1) (hb : l.length ≤ 2000000000) (hbase : base ≤ w.heap.size)
    (h : ∀ g m w', w'.ownsRow base 56 4 (.slice (some ⟨g, 0, none⟩) (l ++ [c]).length m) (l ++ [c]).length (clCells (l ++ [c])) → w.grownBy w' v.ownBlock → K (a.put o.dst (.slice (some ⟨g, 0, none⟩) (l ++ [c]).length m)) w') :
    o.wp Tryz.prog a W K Q := by
  subst hW
  obtain ⟨i0, hi, hz0, hz1, hz2⟩ := info_parts clInfo
  refine wp_append_own _ sl x 50 ho base 56 i0 _ 4 56 Tryz.underlying50 hi hz0 hz1 hz2 rfl (by decide) v l.length (clCells l) hs (hown.alloc _) ⟨w.heap.size, 0, none⟩ 1 1 [.string c.t, .string c.n, .string c.r, .int .u8 (c.sc : Int)] hx rfl (World.news_of_block (cs := #[.string c.t, .string c.n, .string c.r, .int .u8 (c.sc : Int)]) (t := 56) (fr := (0, 0)) (MapKept.heap_alloc w _).1) (by simp [Value.oneCell']) (by unfold maxLen; omega) (by omega) (by simp; omega) ?_
  intro v' w' h1 h2 h3
  rw [← clCells_snoc l c, show l.length + 1 = (l ++ [c]).length by simp] at h1
  obtain ⟨g, m, rfl⟩ := own_someU h1 (by simp)
  exact h g m w' h1 ((World.grownBy_alloc w _ _).trans h2)
theorem own_neU {w : World} {B n sz : Nat} {e : TypeId} {v : Value} {xs : List Value} (h : w.ownsRow B e sz v n xs) {k : Nat} {o : Obj} (hk : w.heap[k]? = some o) (ho : ∀ cs T fr, o ≠ .cells cs T fr) : v.ownBlock ≠ some k := fun e1 => by
  rcases h.2 with ⟨e2, _⟩ | ⟨g, cap, cur, e2, _, h3, _⟩
  · rw [e2] at e1
    cases e1
  · rw [e2] at e1
    have e3 : g = k := by simpa [Value.ownBlock] using e1
    rw [e3, hk] at h3
    exact ho _ _ _ (Option.some.inj h3)
theorem own_ne_range {w : World} {B n sz : Nat} {e : TypeId} {v : Value} {xs : List Value} (h : w.ownsRow B e sz v n xs) {H : Type} {k : TypeId} {R : Value → Option (DataW H × List MemPlace)} {b r c cnt : Nat} {D : DataW H} {left : Lit → Bool} (hr : w.ranges Tryz.prog k R b r c D left cnt) : v.ownBlock ≠ some b ∧ v.ownBlock ≠ some r := by
  obtain ⟨es, clock, since, seen, c0, hb, _, _, _, hrr, _⟩ := hr
  exact ⟨own_neU h hb (fun _ _ _ e => nomatch e), own_neU h hrr (fun _ _ _ e => nomatch e)⟩
/-- slices.SortFunc on a row of the call's own, which may be none -/
theorem sortOwn_any {w : World} {B n : Nat} {v : Value} {l : List Cl} (h : w.ownsRow B 56 4 v n (clCells l)) (hn : n = l.length) (hl : l.length ≤ 100000) :
    Calls Tryz.prog 62 #[v, .func (.func 63) #[] #[]] w fun e w' => e = .returned (.tuple #[]) ∧ ∃ S : List Cl, S.Perm l ∧ NameOrder S ∧ w'.ownsRow B 56 4 v S.length (clCells S) ∧ Below B w w' ∧ (∀ k, k < w.heap.size → v.ownBlock ≠ some k → w'.heap[k]? = w.heap[k]?) := by
  have h0 := h
  rcases h.2 with ⟨e, h1⟩ | ⟨g, c, cur, e, hB, hg, hc, hc9, hs, ht⟩
  · subst e
    have hn0 : l = [] := List.eq_nil_of_length_eq_zero (by omega)
    subst hn0
    have hcon := AnyF.slices_SortFunc_none Tryz.sortCl none 0 (.func (.func 63) #[] #[]) w
    change Calls Tryz.prog 62 _ _ _ at hcon
    refine hcon.mono ?_
    rintro _ _ ⟨rfl, rfl⟩
    exact ⟨rfl, [], .refl _, List.Pairwise.nil, by rw [h1] at h0; exact h0, Below.refl _ _, fun _ _ _ => rfl⟩
  · subst hn
    subst e
    refine (sortCl_any l g c w (holds_of_cl h0) (heap_lt hg) hl).mono ?_
    rintro _ w' ⟨rfl, S, p1, p2, p3, p4, p5⟩
    obtain ⟨cur', q1, q2⟩ := p5 _ _ _ hg
    refine ⟨rfl, S, p1, p2, cl_of_holds p3 q1 hB p1.length_eq.symm hc hc9 (by rw [q2, hs]), p4.below (by have := heap_lt hg; omega) (fun k hk => by rw [hk]; exact hB), fun k hk hne => p4.block k hk (fun e => hne (by rw [e]; rfl))⟩
end Go.Proofs.YtlkbojgemcjilaaGreatDoor

/- Grants: Clients. -/
namespace Go.Proofs.YtlkbojgemcjilaaGreatDoor
open Go.RowKit Go.Maps Go.Shelf Go.Sort Go.Lib
set_option linter.unusedVariables false
set_option maxRecDepth 20000
def inT (t : ByteArray) (c : Cl) : Bool := decide (c.t = t)
section
variable {w : World} {B g mc d : Nat} {L : List Reg} {s : GS}
set_option maxHeartbeats 4000000 in
theorem clients_any (h : SAt w B g mc L s d) (hl9 : L.length ≤ 100000) (t : ByteArray) (ht : t.size ≤ maxLen) :
    Calls Tryz.prog 37 #[.pointer (some ⟨g, 0, none⟩), .string t] w fun e w' => ∃ v S, e = .returned v ∧ S.Perm (s.cs.filter (inT t)) ∧ NameOrder S ∧ w'.ownsRow w.heap.size 56 4 v S.length (clCells S) ∧ Below w.heap.size w w' := by
  have H := hid h
  have Hl9 := hid hl9
  obtain ⟨nv, V, hcm, hnv, hV⟩ := h.cm
  have c0 := h.c0
  have HCM := hid hcm
  have HV := hid hV
  clear h hcm hV hl9
  go_enter Tryz.func37, Tryz.ntmps37
  go_wp2_with (first
    | (at_range; refine wpList_range_own _ rfl _ 47 rfl 62 63 lawPlace Tryz.underlying47 _ mc nv _ rfl HCM.out ?_; intro w3 hrg3 hg3 hs3)
    | go_in)
  go_frame
  clear c0
  go_loopw [5, 6, 7] (fun v5 v6 v7 wr => ∃ (left : Lit → Bool) (cnt : Nat) (L' : List Reg) (acc : List Cl), wr.ranges Tryz.prog 62 RV mc w.heap.size nv V left cnt ∧ wr.ownsRow w.heap.size 56 4 v5 acc.length (clCells acc) ∧ acc.Perm ((L'.map (·.c)).filter (inT t)) ∧ L'.Perm (L.filter fun p => !left (keyP p.c.t p.c.n)) ∧ Below w.heap.size w wr) (fun _ _ _ wr => wr.rangeLeft mc w.heap.size)
  case atStart =>
    refine ⟨_, _, [], [], hrg3, ⟨rfl, .inl ⟨rfl, rfl⟩⟩, .refl _, ?_, ⟨hg3.os, hg3.tape, hg3.output, hg3.size, fun k hk => hg3.block k hk (by simp)⟩⟩
    rw [List.filter_eq_nil_iff.2 fun p hp => ?_]
    obtain ⟨p1, p2⟩ := H.out.sizes hp
    rw [HV.out.has _ _ (by unfold maxLen; omega) (by unfold maxLen; omega), List.any_eq_true.2 ⟨p, hp, decide_eq_true ⟨rfl, rfl⟩⟩]
    simp
  case round =>
    obtain ⟨left, cnt, L', acc, hrg, hrow, hac, hpm, hb⟩ := hrel
    have HL := hid hrg.left_eq
    have Hrow := hid hrow
    have Hac := hid hac
    have Hpm := hid hpm
    have Hb := hid hb
    clear hrow hac hpm hb hrg3 hg3 hs3
    go_wp2_with (first
      | (at_next; refine wpList_next_ranges (α := ByteArray × ByteArray) (β := Value) _ rfl _ rfl 62 lawPlace RV (fun x => .agg #[.string x.1, .string x.2]) (fun v => v) (fun key kl hk => by obtain ⟨a, b, rfl, _⟩ := place_inv hk; exact ⟨(a, b), rfl⟩) (fun v y hv => ⟨v, rfl⟩) mc w.heap.size nv _ _ _ rfl hrg ?_ ?_)
      | go_in)
    · intro _ hl0
      have hLp : L'.Perm L := by
        have h1 := Hpm.out
        rw [List.filter_eq_self.2 (fun t _ => by rw [hl0]; rfl)] at h1
        exact h1
      have hperm : Hid (acc.Perm (s.cs.filter (inT t))) := by
        show acc.Perm _
        rw [← H.out.cs]
        exact Hac.out.trans ((hLp.map _).filter _)
      have hlen : acc.length ≤ 100000 := by
        rw [Hac.out.length_eq]
        refine Nat.le_trans (List.length_filter_le _ _) ?_
        rw [List.length_map, hLp.length_eq]
        exact Hl9.out
      have HS := hid (fun (W : World) (hW : W.ownsRow w.heap.size 56 4 u5 acc.length (clCells acc)) => sortOwn_any hW rfl hlen)
      clear hl0 hrg hLp hlen
      go_wp2_with (go_at_call 62; refine (HS.out _ Hrow.out).mono ?_; rintro _ w8 ⟨rfl, S, p1, p2, p3, p4, p5⟩; have P1 := hid p1; have P2 := hid p2; have P3 := hid p3; have P4 := hid p4; clear p1 p2 p3 p4 p5)
      go_ret
      exact ⟨_, S, rfl, P1.out.trans hperm.out, P2.out, P3.out, Hb.out.trans P4.out⟩
    · intro t2 u c kl y1 y2 w6 cnt' hk hl hv hat hrg6 hlt hg6 hs6 hen
      obtain ⟨t9, u9, e1, rfl, l1, l2⟩ := place_inv hk
      obtain ⟨rfl, rfl⟩ : t2 = t9 ∧ u = u9 := by simpa using e1
      clear e1
      obtain ⟨p, hp, rfl, rfl⟩ : ∃ p ∈ L, p.c.t = t2 ∧ p.c.n = u := by
        have h2 := Maps.has_true_of_atKey hat
        rw [HV.out.has _ _ l1 l2] at h2
        obtain ⟨p, hp1, hp2⟩ := List.any_eq_true.1 h2
        have e9 := of_decide_eq_true hp2
        exact ⟨p, hp1, e9.1, e9.2⟩
      obtain rfl : c = .pointer (some ⟨p.r, 0, none⟩) := by
        have h3 := hat .nil
        rw [HV.out.at' p hp] at h3
        have h4 : y1 = .held c := (congrArg Prod.fst (Option.some.inj hv)).symm
        rw [h4] at h3
        injection h3 with h3
        exact h3.symm
      have hmore := hid (H.out.more hp hl Hpm.out)
      have hne9 := own_ne_range Hrow.out hrg
      have b6 := hid (Hb.out.trans ⟨hg6.os, hg6.tape, hg6.output, hg6.size, fun k hk => hg6.block k (by have := Hb.out.size; omega) (fun e => by cases e; omega)⟩ : RowKit.Below w.heap.size w w6)
      have hlt9 := hid (fun (k : Nat) (hk : u5.ownBlock = some k) => (Hrow.out.kept hg6 (.inr hne9.2)).lt k hk)
      have hrow6 := hid ((Hrow.out.kept hg6 (.inr hne9.2)).alloc (.cells #[.string p.c.t, .string p.c.n] 62))
      have Hrg6 := hid (hrg6.alloc (.cells #[.string p.c.t, .string p.c.n] 62))
      have Hlt := hid hlt
      have Hp := hid hp
      have b7 := hid (b6.out.alloc b6.out.size (.cells #[.string p.c.t, .string p.c.n] 62))
      obtain ⟨r0, r1, r2⟩ := ((H.out.below b6.out).regs p hp).c
      have hlen : acc.length ≤ 100000 := by
        rw [Hac.out.length_eq]
        refine Nat.le_trans (List.length_filter_le _ _) ?_
        rw [List.length_map, Hpm.out.length_eq]
        exact Nat.le_trans (List.length_filter_le _ _) Hl9.out
      have HL9 := hid hlen
      clear hk hl hv hat hrg6 hlt hg6 hs6 hrg hp hne9 r2 hlen
      by_cases et : p.c.t = t
      · have q0 : (p.c.t.toList == t.toList) = true := by rw [et]; simp
        have Het := hid et
        clear et
        go_wp2_with go_in
        obtain ⟨W, hW⟩ : ∃ W, W = w6.alloc (.cells #[.string p.c.t, .string p.c.n] 62) := ⟨_, rfl⟩
        have a1 : W.cell? ⟨w6.heap.size, 1, none⟩ = some (.string p.c.n) := by rw [hW]; exact (cell_of_rowU _ _ 1 _ _ _ (heap_allocN w6 _)).trans rfl
        have a2 : W.cell? ⟨p.r, 0, none⟩ = some (.string p.c.r) := by rw [hW]; exact (World.cell?_alloc_some _ _ _ (by rw [r0]; rfl)).trans r0
        have a3 : W.cell? ⟨p.r, 1, none⟩ = some (.int .u8 (p.c.sc : Int)) := by rw [hW]; exact (World.cell?_alloc_some _ _ _ (by rw [r1]; rfl)).trans r1
        rw [← hW] at hrow6 Hrg6 b7 ⊢
        have hW9 := hid hW
        have hsW : W.heap.size = w6.heap.size + 1 := by rw [hW]; simp
        have hsz6 := b6.out.size
        have hpr : p.r < w.heap.size := heap_lt (H.out.regs p Hp.out).2.2.1
        have HKf := hid (fun (w' : World) (hg' : W.drew.grownBy w' u5.ownBlock) => (show w'.cell? ⟨w6.heap.size, 1, none⟩ = some (.string p.c.n) ∧ w'.cell? ⟨p.r, 0, none⟩ = some (.string p.c.r) ∧ w'.cell? ⟨p.r, 1, none⟩ = some (.int .u8 (p.c.sc : Int)) from
          ⟨(World.cell?_of_block (hg'.block w6.heap.size (by show _ < W.heap.size; omega) (fun e => by have := (hlt9.out _ e.symm).2; omega))).trans a1, (World.cell?_of_block (hg'.block p.r (by show _ < W.heap.size; omega) (fun e => by have := (hlt9.out _ e.symm).1; omega))).trans a2, (World.cell?_of_block (hg'.block p.r (by show _ < W.heap.size; omega) (fun e => by have := (hlt9.out _ e.symm).1; omega))).trans a3⟩))
        have hbz : Hid (w.heap.size ≤ W.drew.heap.size) := b7.out.size
        have HRW := hid (show W.drew.ownsRow w.heap.size 56 4 u5 acc.length (clCells acc) from hrow6.out.kept (row := none) ⟨rfl, rfl, rfl, Nat.le_refl _, fun _ _ _ => rfl⟩ (Classical.em _))
        clear hW r0 r1 hsW hsz6 hpr
        obtain ⟨X, hX⟩ : ∃ X, X = W.alloc (.cells #[.string t, .string p.c.n, .string p.c.r, .int .u8 (p.c.sc : Int)] 56) := ⟨_, rfl⟩
        have x1 : X.cell? ⟨w6.heap.size, 1, none⟩ = some (.string p.c.n) := by rw [hX]; exact (World.cell?_alloc_some _ _ _ (by rw [a1]; rfl)).trans a1
        have x2 : X.cell? ⟨p.r, 0, none⟩ = some (.string p.c.r) := by rw [hX]; exact (World.cell?_alloc_some _ _ _ (by rw [a2]; rfl)).trans a2
        have x3 : X.cell? ⟨p.r, 1, none⟩ = some (.int .u8 (p.c.sc : Int)) := by rw [hX]; exact (World.cell?_alloc_some _ _ _ (by rw [a3]; rfl)).trans a3
        rw [hX] at x1 x2 x3
        clear hX
        go_region_held3 (fun w9 => w9.cell? ⟨w6.heap.size, 1, none⟩ = some (.string p.c.n) ∧ w9.cell? ⟨p.r, 0, none⟩ = some (.string p.c.r) ∧ w9.cell? ⟨p.r, 1, none⟩ = some (.int .u8 (p.c.sc : Int)))
          (first
            | exact ⟨a1, a2, a3⟩
            | exact ⟨x1, x2, x3⟩
            | exact HK.out)
          (first
            | (with_reducible (show ite _ (Oper.wp _ { dst := some 38, op := _, type := _, pos := _, after := _, guard := _ } _ _ _ _) _); rw [if_pos (by simp [Region.wanted])]; refine app_clU (.tmp 24) (.tmp 37) rfl W.drew ⟨t, p.c.n, p.c.r, p.c.sc⟩ rfl w.heap.size u5 acc rfl HRW.out rfl (by have := HL9.out; omega) hbz.out ?_; intro g9 m9 w8 h8 k8; have HK := hid (HKf.out w8 k8); have H8 := hid h8; have K8 := hid k8; clear h8 k8))
        have hnr := own_ne_range hrow6.out Hrg6.out
        have R0 : W.drew.ranges Tryz.prog 62 RV mc w.heap.size nv V (fun z => left z && !z.sameKey (keyP p.c.t p.c.n)) cnt' := Hrg6.out.kept (row := none) ⟨rfl, rfl, rfl, Nat.le_refl _, fun _ _ _ => rfl⟩ (by simp) (by simp)
        have R8 := R0.kept K8.out (fun e => hnr.1 e.symm) (fun e => hnr.2 e.symm)
        have hb9 := hid (b7.out.trans ((below_dN w.heap.size W 1).grown K8.out b7.out.size (fun k hk => (HRW.out.lt k hk).1)))
        have hc9 : Hid ((⟨t, p.c.n, p.c.r, p.c.sc⟩ : Cl) = p.c) := by
          show (⟨t, p.c.n, p.c.r, p.c.sc⟩ : Cl) = p.c
          rw [← Het.out]
        clear hnr R0
        go_roundw
        case rel =>
          refine ⟨_, _, _, _, _, _, _, _, _, _, _, _, _, _, _, _, _, _, _, _, _, _, _, _, _, _, _, ?inv, rfl⟩
          refine ⟨_, _, p :: L', acc ++ [⟨t, p.c.n, p.c.r, p.c.sc⟩], R8, ?_, ?_, hmore.out, hb9.out⟩
          · have h9 := H8.out
            simpa using h9
          · rw [List.map_cons, List.filter_cons_of_pos (by unfold inT; simp [Het.out]), hc9.out]
            exact List.perm_append_comm.trans (Hac.out.cons p.c)
        case measure =>
          rw [R8.left_eq, HL.out]
          exact Hlt.out
      · have q0 : (p.c.t.toList == t.toList) = false := by
          rw [beq_eq_false_iff_ne]
          exact fun e => et ((str_eqU _ _).2 e)
        have Het := hid et
        clear et
        go_wp2_with go_in
        go_roundw
        case rel =>
          refine ⟨_, _, p :: L', acc, Hrg6.out, hrow6.out, ?_, hmore.out, b7.out⟩
          rw [List.map_cons, List.filter_cons_of_neg (by unfold inT; simp [Het.out])]
          exact Hac.out
        case measure =>
          rw [Hrg6.out.left_eq, HL.out]
          exact Hlt.out
end
end Go.Proofs.YtlkbojgemcjilaaGreatDoor
