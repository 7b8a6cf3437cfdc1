/- Grants: the program's Rows, what it keeps. -/
import Derived.Test.YtlkbojgemcjilaaGreatDoorGRm
import Derived.Test.YtlkbojgemcjilaaGreatDoorGSort
import Derived.Test.YtlkbojgemcjilaaGreatDoorGJoin
import Derived.Test.YtlkbojgemcjilaaGreatDoorU25
import Derived.Deep.RegionHeld3
namespace Go.Proofs.YtlkbojgemcjilaaGreatDoor.Xr
open Go.RowKit Go.Maps Go.Shelf Go.Sort Go.Lib
set_option linter.unusedVariables false
set_option maxRecDepth 20000
theorem RowsIs.perm {w : World} {S rs : List RC} (hp : S.Perm rs) : ∀ {m : List Rw}, RowsIs w rs m → ∃ m', m'.Perm m ∧ RowsIs w S m' := by
  induction hp with
  | nil => exact fun {m} h => ⟨m, List.Perm.refl _, h⟩
  | cons x _ ih =>
    intro m h
    cases m with
    | nil => exact h.elim
    | cons y m =>
      obtain ⟨m', p, h'⟩ := ih h.2
      exact ⟨y :: m', p.cons y, h.1, h'⟩
  | swap x y l =>
    intro m h
    cases m with
    | nil => exact h.elim
    | cons a m =>
      cases m with
      | nil => exact h.2.elim
      | cons b m => exact ⟨b :: a :: m, List.Perm.swap _ _ _, h.2.1, h.1, h.2.2⟩
  | trans _ _ ih1 ih2 =>
    intro m h
    obtain ⟨m1, p1, h1⟩ := ih2 h
    obtain ⟨m2, p2, h2⟩ := ih1 h1
    exact ⟨m2, p2.trans p1, h2⟩
theorem RowsIs.mem {w : World} : ∀ {l : List RC} {m : List Rw}, RowsIs w l m → ∀ x ∈ m, ∃ r ∈ l, keyL r = keyR x
  | [], [], _, x, hx => nomatch hx
  | r :: l, y :: m, h, x, hx => by
    rcases List.mem_cons.1 hx with rfl | hx
    · exact ⟨r, List.mem_cons_self, by unfold keyL keyR; rw [h.1.1]⟩
    · obtain ⟨r', h1, h2⟩ := RowsIs.mem h.2 x hx
      exact ⟨r', List.mem_cons_of_mem _ h1, h2⟩
  | [], _ :: _, h, _, _ => h.elim
  | _ :: _, [], h, _, _ => h.elim
theorem RowsIs.order {w : World} : ∀ {l : List RC} {m : List Rw}, RowsIs w l m → InOrder keyL l → InOrder keyR m
  | [], [], _, _ => List.Pairwise.nil
  | r :: l, y :: m, h, ho => by
    obtain ⟨h1, h2⟩ := List.pairwise_cons.1 ho
    refine List.pairwise_cons.2 ⟨fun x hx => ?_, RowsIs.order h.2 h2⟩
    obtain ⟨r', q1, q2⟩ := h.2.mem x hx
    have := h1 r' q1
    rw [q2, show keyL r = keyR y from by unfold keyL keyR; rw [h.1.1]] at this
    exact this
  | [], _ :: _, h, _ => h.elim
  | _ :: _, [], h, _ => h.elim
theorem colKept {w w' : World} {a : Option Addr} {l : List ByteArray} (h : ColAt w a l) {r : Nat} (hg : w.grownBy w' (some r)) (hr : ∀ cs t fr, w.heap[r]? ≠ some (.cells cs t fr)) : ColAt w' a l := by
  rcases h with h | ⟨b, cur, e, h1, h2⟩
  · exact .inl h
  · exact .inr ⟨b, cur, e, (hg.block b (heap_lt h1) (fun e1 => by cases e1; exact hr _ _ _ h1)).trans h1, h2⟩
theorem RowsIs.turned {w w' : World} {l : List RC} {m : List Rw} (h : RowsIs w l m) {r : Nat} (hg : w.grownBy w' (some r)) (hr : ∀ cs t fr, w.heap[r]? ≠ some (.cells cs t fr)) : RowsIs w' l m := h.imp fun _ _ h => ⟨h.1, h.2.1, colKept h.2.2 hg hr⟩
theorem range_objG {H : Type} {w : World} {k : TypeId} {R : Value → Option (DataW H × List MemPlace)} {b r c cnt : Nat} {D : DataW H} {left : Lit → Bool} (hr : w.ranges Tryz.prog k R b r c D left cnt) : ∀ cs t fr, w.heap[r]? ≠ some (.cells cs t fr) := fun cs t fr h => by
  obtain ⟨es, clock, since, seen, c0, hb, _, _, _, hrr, _⟩ := hr
  rw [hrr] at h
  cases h
def PRowsG (w : World) (s : GS) (e : Ending) (w' : World) : Prop := ∃ v rs m, e = .returned v ∧ w'.ownsRow w.heap.size 79 2 v rs.length (rcCells rs) ∧ RowsIs w' rs m ∧ m.Perm (mOfG s) ∧ InOrder keyR m ∧ Below w.heap.size w w'
theorem own_ne_ty {w : World} {B n sz k : Nat} {e T : TypeId} {v : Value} {xs : List Value} {cs : Array Value} {fr : Nat × Nat} (h : w.ownsRow B e sz v n xs) (hk : w.heap[k]? = some (.cells cs T fr)) (hT : T ≠ e) : v.ownBlock ≠ some k := fun e1 => by
  rcases h.2 with ⟨e2, _⟩ | ⟨g, cap, cur, e2, _, h3, _⟩
  · rw [e2] at e1
    cases e1
  · rw [e2] at e1
    have e3 : g = k := by simpa [Value.ownBlock] using e1
    rw [e3, hk] at h3
    injection h3 with h3
    injection h3 with _ h4 _
    exact hT h4
theorem below_al {w w' : World} (h : Below w.heap.size w w') (o : Obj) : Below w.heap.size w (w'.alloc o) := h.alloc h.size o
theorem heap_al2a (w : World) (o o' : Obj) : ((w.alloc o).alloc o').heap[w.heap.size]? = some o := (Below.heap_alloc _ _ _ (heap_lt (heap_allocN w o))).trans (heap_allocN w o)
theorem heap_al2b (w : World) (o o' : Obj) : ((w.alloc o).alloc o').heap[w.heap.size + 1]? = some o' := by
  have h := heap_allocN (w.alloc o) o'
  rw [show (w.alloc o).heap.size = w.heap.size + 1 by simp] at h
  exact h
theorem heap_alK {w : World} {k : Nat} {x : Obj} (h : w.heap[k]? = some x) (o : Obj) : (w.alloc o).heap[k]? = some x := (Below.heap_alloc _ _ _ (heap_lt h)).trans h
section
variable {w wr w' : World} {v v' : Value} {rs : List RC} {m : List Rw}
/-- rows that have come -/
structure RI (w wr : World) (v : Value) (rs : List RC) (m : List Rw) : Prop where
  own : wr.ownsRow w.heap.size 79 2 v rs.length (rcCells rs)
  is : RowsIs wr rs m
  be : Below w.heap.size w wr
theorem RI.below (h : RI w wr v rs m) (hb : Below wr.heap.size wr w') : RI w w' v rs m := ⟨own_onW h.own hb, h.is.below hb, Below.on' h.be hb⟩
theorem RI.turn (h : RI w wr v rs m) {H : Type} {k : TypeId} {R : Value → Option (DataW H × List MemPlace)} {b r c cnt : Nat} {D : DataW H} {left : Lit → Bool} (hr : wr.ranges Tryz.prog k R b r c D left cnt) (hg : wr.grownBy w' (some r)) (hB : w.heap.size ≤ r) : RI w w' v rs m :=
  ⟨h.own.kept hg (.inr (own_ne_range h.own hr).2), h.is.turned hg (range_objG hr), h.be.trans ⟨hg.os, hg.tape, hg.output, hg.size, fun k hk => hg.block k (by have := h.be.size; omega) (fun e => by cases e; omega)⟩⟩
theorem RI.app (h : RI w wr v rs m) {k : ByteArray} {ca : Option Addr} {n n' : Nat} {cols : List ByteArray} (ho : w'.ownsRow w.heap.size 79 2 v' (rs ++ [RC.mk k ca n n']).length (rcCells (rs ++ [RC.mk k ca n n']))) (hg : wr.grownBy w' v.ownBlock) (hc : ColAt wr ca cols) (hn : n = cols.length) : RI w w' v' (rs ++ [RC.mk k ca n n']) (m ++ [⟨k, cols⟩]) :=
  ⟨ho, (h.is.grown h.own hg).app ⟨⟨rfl, hn, hc.grown h.own hg⟩, True.intro⟩, h.be.trans ((Below.refl _ _).grown hg h.be.size (fun q hq => (h.own.lt q hq).1))⟩
theorem RI.rng (h : RI w wr v rs m) {H : Type} {k : TypeId} {R : Value → Option (DataW H × List MemPlace)} {b r c cnt : Nat} {D : DataW H} {left : Lit → Bool} (hr : wr.ranges Tryz.prog k R b r c D left cnt) (hg : wr.grownBy w' v.ownBlock) : w'.ranges Tryz.prog k R b r c D left cnt :=
  hr.kept hg (fun e => (own_ne_range h.own hr).1 e.symm) (fun e => (own_ne_range h.own hr).2 e.symm)
theorem RI.nil (w : World) : RI w w (.slice none 0 0) [] [] := ⟨⟨rfl, .inl ⟨rfl, rfl⟩⟩, True.intro, Below.refl _ _⟩
/-- the place and the client that a round is at -/
structure SZ (V : World) (ab : Nat) (p : Reg) : Prop where
  pl : V.heap[ab]? = some (.cells #[.string p.c.t, .string p.c.n] 62 (0, 0))
  rg : V.heap[p.r]? = some (.cells (regCells p) 66 (0, 0))
theorem SZ.below {V V' : World} {ab : Nat} {p : Reg} (h : SZ V ab p) (hb : Below V.heap.size V V') : SZ V' ab p := ⟨(hb.block _ (heap_lt h.pl)).trans h.pl, (hb.block _ (heap_lt h.rg)).trans h.rg⟩
theorem SZ.grown {V V' : World} {ab : Nat} {p : Reg} (h : SZ V ab p) {B n : Nat} {xs : List Value} (ho : V.ownsRow B 79 2 v n xs) (hg : V.grownBy V' v.ownBlock) : SZ V' ab p :=
  ⟨(hg.block _ (heap_lt h.pl) (own_ne_ty ho h.pl (by decide)).symm).trans h.pl, (hg.block _ (heap_lt h.rg) (own_ne_ty ho h.rg (by decide)).symm).trans h.rg⟩
theorem SZ.turn {V V' : World} {ab r : Nat} {p : Reg} (h : SZ V ab p) (hg : V.grownBy V' (some r)) (hr : ∀ cs t fr, V.heap[r]? ≠ some (.cells cs t fr)) : SZ V' ab p :=
  ⟨(hg.block _ (heap_lt h.pl) (fun e => by cases e; exact hr _ _ _ h.pl)).trans h.pl, (hg.block _ (heap_lt h.rg) (fun e => by cases e; exact hr _ _ _ h.rg)).trans h.rg⟩
theorem SZ.four {V : World} {ab : Nat} {p : Reg} (h : SZ V ab p) : V.cell? ⟨ab, 0, none⟩ = some (.string p.c.t) ∧ V.cell? ⟨ab, 1, none⟩ = some (.string p.c.n) ∧ V.cell? ⟨p.r, 0, none⟩ = some (.string p.c.r) ∧ V.cell? ⟨p.r, 1, none⟩ = some (.int .u8 (p.c.sc : Int)) :=
  ⟨(cell_of_rowU _ _ 0 _ _ _ h.pl).trans rfl, (cell_of_rowU _ _ 1 _ _ _ h.pl).trans rfl, (cell_of_rowU _ _ 0 _ _ _ h.rg).trans rfl, (cell_of_rowU _ _ 1 _ _ _ h.rg).trans rfl⟩
theorem SZ.two {V : World} {ab : Nat} {p : Reg} (h : SZ V ab p) : V.cell? ⟨ab, 0, none⟩ = some (.string p.c.t) ∧ V.cell? ⟨ab, 1, none⟩ = some (.string p.c.n) :=
  ⟨(cell_of_rowU _ _ 0 _ _ _ h.pl).trans rfl, (cell_of_rowU _ _ 1 _ _ _ h.pl).trans rfl⟩
theorem SZ.mp {V : World} {ab : Nat} {p : Reg} (h : SZ V ab p) : V.cell? ⟨p.r, 2, none⟩ = some (.map (some p.m)) := (cell_of_rowU _ _ 2 _ _ _ h.rg).trans rfl
end
set_option maxHeartbeats 400000 in
theorem scopesText_any (n : Nat) (h : n ≤ 255) (w : World) (ht : TabAt w) : Calls Tryz.prog 43 #[.int .u8 (n : Int)] w fun e w' => e = .returned (.string (txtJ n)) ∧ Below w.heap.size w w' := by
  have hn := textJ_any n (by omega) w ht
  generalize txtJ n = t at *
  go_enter Tryz.func43, Tryz.ntmps43
  go_wp2_with (go_at_call 66; refine hn.mono ?_; rintro e w1 ⟨rfl, hb⟩)
  go_ret
  exact ⟨rfl, hb⟩
/-- what rowOf leaves -/
def RowP (W : World) (key : ByteArray) (k : Nat) (cols : List ByteArray) (e : Ending) (w' : World) : Prop := ∃ cb, e = .returned (.agg #[.string key, .slice (some ⟨cb, 0, none⟩) k k]) ∧ ColAt w' (some ⟨cb, 0, none⟩) cols ∧ Below W.heap.size W w'
theorem rowOf2_z {W V : World} (hz : Below W.heap.size W V) {b cb : Nat} (t n r x : ByteArray) (hb : V.heap[b]? = some (.cells #[.string t, .string n] 9 (0, 0))) (hc : V.heap[cb]? = some (.cells #[.string r, .string x] 9 (0, 0))) (hl : t.size + n.size ≤ 100) :
    Calls Tryz.prog 42 #[.slice (some ⟨b, 0, none⟩) 2 2, .slice (some ⟨cb, 0, none⟩) 2 2] V (RowP W (t ++ slash ++ n) 2 [r, x]) :=
  (rowOf_any (w := V) (b := b) (k := 2) (fun U hU => join2_any ((hU.block _ (heap_lt hb)).trans hb) hl) (some ⟨cb, 0, none⟩) 2 2).mono (by
    rintro e w' ⟨rfl, h⟩
    exact ⟨cb, rfl, .inr ⟨cb, _, rfl, (h.block _ (heap_lt hc)).trans hc, rfl⟩, Below.on' hz h⟩)
theorem rowOf3_z {W V : World} (hz : Below W.heap.size W V) {b cb : Nat} (t u n x : ByteArray) (hb : V.heap[b]? = some (.cells #[.string t, .string u, .string n] 9 (0, 0))) (hc : V.heap[cb]? = some (.cells #[.string x] 9 (0, 0))) (hl : t.size + u.size + n.size ≤ 100) :
    Calls Tryz.prog 42 #[.slice (some ⟨b, 0, none⟩) 3 3, .slice (some ⟨cb, 0, none⟩) 1 1] V (RowP W (t ++ slash ++ u ++ slash ++ n) 1 [x]) :=
  (rowOf_any (w := V) (b := b) (k := 3) (fun U hU => join3_any ((hU.block _ (heap_lt hb)).trans hb) hl) (some ⟨cb, 0, none⟩) 1 1).mono (by
    rintro e w' ⟨rfl, h⟩
    exact ⟨cb, rfl, .inr ⟨cb, _, rfl, (h.block _ (heap_lt hc)).trans hc, rfl⟩, Below.on' hz h⟩)
/-- what Sort leaves -/
def SortO (B : Nat) (wr : World) (v : Value) (rs : List RC) (e : Ending) (w' : World) : Prop := e = .returned (.tuple #[]) ∧ ∃ S : List RC, S.Perm rs ∧ InOrder keyL S ∧ w'.ownsRow B 79 2 v S.length (rcCells S) ∧ wr.grownBy w' v.ownBlock
set_option maxHeartbeats 1000000 in
theorem sortNone_any (w : World) : Calls Tryz.prog 44 #[.slice none 0 0] w fun e w' => e = .returned (.tuple #[]) ∧ w' = w := by
  have HS : Hid (Calls Tryz.prog 67 #[.slice none 0 0, .func (.func 68) #[] #[]] w fun e w' => e = .returned (.tuple #[]) ∧ w' = w) := by
    have hcon := AnyF.slices_SortFunc_none Tryz.sortRw none 0 (.func (.func 68) #[] #[]) w
    change Calls Tryz.prog 67 _ _ _ at hcon
    refine hcon.mono ?_
    rintro _ _ ⟨rfl, rfl⟩
    exact ⟨rfl, rfl⟩
  go_enter Tryz.func44, Tryz.ntmps44
  go_wp2_with (go_at_call 67; refine HS.out.mono ?_; rintro _ w' ⟨rfl, e1⟩; have E1 := hid e1; clear e1)
  go_end0
  exact ⟨rfl, E1.out⟩
theorem sortO_any {w : World} {B : Nat} {v : Value} {rs : List RC} (h : w.ownsRow B 79 2 v rs.length (rcCells rs)) (hl : rs.length ≤ 1000000) :
    Calls Tryz.prog 44 #[v] w (SortO B w v rs) := by
  have h0 := h
  rcases h.2 with ⟨e, h1⟩ | ⟨g, c, cur, e, _⟩
  · obtain rfl := List.eq_nil_of_length_eq_zero h1
    subst e
    refine (sortNone_any w).mono ?_
    rintro _ _ ⟨rfl, rfl⟩
    exact ⟨rfl, [], .refl _, List.Pairwise.nil, h0, ⟨rfl, rfl, rfl, Nat.le_refl _, fun _ _ _ => rfl⟩⟩
  · subst e
    refine (stateSort_any h hl).mono ?_
    rintro _ w' ⟨rfl, S, p1, p2, p3, p4⟩
    exact ⟨rfl, S, p1, p2, p3, ⟨p4.os, p4.tape, p4.output, p4.size, fun k hk hne => p4.block k hk (fun e => hne (by rw [e]; rfl))⟩⟩
theorem flat_len (al : List Co) : ∀ l : List Cl, (l.flatMap (rowsOfC al)).length ≤ l.length * (1 + al.length)
  | [] => by simp
  | c :: l => by
    rw [List.flatMap_cons, List.length_append, List.length_cons, Nat.succ_mul]
    have h1 := flat_len al l
    have h2 : (rowsOfC al c).length ≤ 1 + al.length := by
      unfold rowsOfC
      rw [List.length_cons, List.length_map]
      have := List.length_filter_le (ofC c.t c.n) al
      omega
    omega
theorem rows_step {A F : List Co} {m M : List Rw} {x : Rw} (hA : A.Perm F) (hm : m.Perm M) : (A.map coRow ++ (m ++ [x])).Perm ((x :: F.map coRow) ++ M) := by
  refine ((hA.map coRow).append (hm.append_right [x])).trans ?_
  rw [← List.append_assoc]
  exact List.perm_append_comm
end Go.Proofs.YtlkbojgemcjilaaGreatDoor.Xr
