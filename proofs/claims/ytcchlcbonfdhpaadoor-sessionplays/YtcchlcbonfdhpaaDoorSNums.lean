/- Numbers of numbered sessions: the range over the map, the closure, the sort; by a contract. -/
import Derived.Test.YtcchlcbonfdhpaaDoorSNum
import Derived.Test.YtcchlcbonfdhpaaDoorSShelf
import Derived.Sort.OwnSortedInts
import Derived.Maps.AppendAt
namespace Go.Proofs.YtcchlcbonfdhpaaDoor
open Go.RowKit Go.Maps Go.Sort Go.Shelf
set_option linter.unusedVariables false

/-- numbers as values -/
def zCells (t : List Int) : List Value := t.map (Value.int .i64)
theorem _root_.Go.World.ownsRow.mono {w : World} {B B' : Nat} {e : TypeId} {size : Nat} {v : Value} {n : Nat} {xs : List Value} (h : w.ownsRow B e size v n xs) (hB : B' ≤ B) : w.ownsRow B' e size v n xs := by
  refine ⟨h.1, ?_⟩
  rcases h.2 with h | ⟨g, cap, cur, hv, hg, r⟩
  · exact .inl h
  · exact .inr ⟨g, cap, cur, hv, by omega, r⟩

/-- a row of numbers of one's own is sorted -/
theorem sort_own {w : World} {B n : Nat} {v : Value} {zs : List Int} (h : w.ownsRow B 3 1 v n (zCells zs)) (hl : zs.length < 4611686018427387904) :
    Calls Tryd.prog 66 #[v] w fun e w' => e = .returned (.tuple #[]) ∧ w'.ownsRow B 3 1 v n (zCells (zs.mergeSort fun x y => decide (x ≤ y))) ∧ Below B w w' := by
  have hn : zs.length = n := by have := h.1; simpa [zCells] using this
  subst hn
  rcases h.2 with ⟨rfl, h0⟩ | ⟨g, cap, cur, rfl, hg, hb, hc, hm, hs, ht⟩
  · have e : zs = [] := List.eq_nil_of_length_eq_zero h0
    subst e
    refine (AnyM.slices_Sort_int_none Tryd.sortA none 0 w).mono ?_
    rintro e w' ⟨rfl, rfl⟩
    exact ⟨rfl, by rw [List.mergeSort_nil]; exact h, Below.refl _ _⟩
  · have hH : Holds (Value.int .i64) w g 0 zs.toArray := holds_of_blockI hb (by rw [Nat.mul_one] at ht; exact ht)
    refine (AnyM.slices_Sort_int Tryd.sortA g 0 cap zs w hH (Array.getElem?_eq_some_iff.1 hb).1 hl).mono ?_
    rintro e w' ⟨rfl, m, os, rfl⟩
    have hg2 := grownBy_sortedI (w := w) (g := g) (n := m) (os := os) (zs.mergeSort fun x y => decide (x ≤ y)).toArray
    refine ⟨rfl, ownsRow_sortedI (ss := zs) (ts := zs.mergeSort fun x y => decide (x ≤ y)) (List.length_mergeSort _) hg hb hc hm hs, hg2.os, hg2.tape, hg2.output, hg2.size, fun k hk => ?_⟩
    by_cases hk2 : k < w.heap.size
    · exact hg2.block k hk2 (fun e => by cases e; omega)
    · have := (Array.getElem?_eq_some_iff.1 hb).1
      omega

theorem grown_of_below {w w' : World} (h : Below w.heap.size w w') : w.grownBy w' none := ⟨h.os, h.tape, h.output, h.size, fun i hi _ => h.block i hi⟩
theorem below_of_grown {w w' : World} (h : w.grownBy w' none) : Below w.heap.size w w' := ⟨h.os, h.tape, h.output, h.size, fun i hi => h.block i hi (by simp)⟩
theorem Tryd.info3 : (Tryd.prog.info? 3).map (fun i => (i.zero, i.size, i.bytes)) = some (some (.int .i64 0), 1, 8) := by kernel_rfl
theorem Tryd.info42 : (Tryd.prog.info? 42).map (fun i => (i.zero, i.size, i.bytes)) = some (some (sessV sess0), 5, 56) := by kernel_rfl

/-- sessions as cells -/
def sCells (l : List Sess) : List Value := l.flatMap fun s => [.int .i64 s.id, .string s.ten, .string s.usr, .int .i64 s.since, .int .i64 s.used]
theorem sCells_length (l : List Sess) : (sCells l).length = l.length * 5 := by
  induction l with
  | nil => rfl
  | cons x r ih => rw [sCells, List.flatMap_cons, List.length_append, ← sCells, ih]; simp; omega
theorem sCells_snoc (l : List Sess) (s : Sess) : sCells (l ++ [s]) = sCells l ++ [.int .i64 s.id, .string s.ten, .string s.usr, .int .i64 s.since, .int .i64 s.used] := by simp [sCells]

/-- append(v, y), v a row of numbers of the call's own -/
theorem app_int (w : World) {ops : Array Oper} {rest : List Oper} {o : Oper} {a : Act} {Q : Exit → Act → World → Prop} (hgd : o.guard = none) (sl x : Operand)
    (ho : o.op = .call { callee := .builtin .append, args := #[sl, x], argTypes := #[58, 58] }) (base : Nat) (v : Value) (zs : List Int) (hs : a.eval sl = v)
    (hown : w.ownsRow base 3 1 v zs.length (zCells zs)) (y : Int) (hx : a.eval x = .slice (some ⟨w.heap.size, 0, none⟩) 1 1) (hb : zs.length ≤ 2000000000) (hbase : base ≤ w.heap.size)
    (h : ∀ v' w', w'.ownsRow base 3 1 v' (zs ++ [y]).length (zCells (zs ++ [y])) → w.grownBy w' v.ownBlock → wpList Tryd.prog ops Q rest (a.put o.dst v') w') :
    wpList Tryd.prog ops Q (o :: rest) a (w.alloc (.cells #[.int .i64 y] 3)) := by
  obtain ⟨i0, hi, hz0, hz1, hz2⟩ := info_parts Tryd.info3
  refine wpList_append_own _ hgd sl x 58 ho base 3 i0 (.int .i64 0) 1 8 Tryd.underlying58 hi hz0 hz1 hz2 rfl (by decide) v zs.length (zCells zs) hs (hown.alloc _) ⟨w.heap.size, 0, none⟩ 1 1 [.int .i64 y] hx rfl (cell_one_new _ _ _) (fun u hu => by simp at hu; subst hu; rfl) (by unfold maxLen; omega) (by omega) (by simp; omega) ?_
  intro v' w' h1 h2 h3
  rw [show zCells zs ++ [.int .i64 y] = zCells (zs ++ [y]) by simp [zCells], show zs.length + 1 = (zs ++ [y]).length by simp] at h1
  exact h v' w' h1 ((World.grownBy_alloc w _ _).trans h2)

/-- append(v, s), v a row of sessions of the call's own -/
theorem app_sess (w : World) {ops : Array Oper} {rest : List Oper} {o : Oper} {a : Act} {Q : Exit → Act → World → Prop} (hgd : o.guard = none) (sl x : Operand)
    (ho : o.op = .call { callee := .builtin .append, args := #[sl, x], argTypes := #[47, 47] }) (base : Nat) (v : Value) (l : List Sess) (hs : a.eval sl = v)
    (hown : w.ownsRow base 42 5 v l.length (sCells l)) (s : Sess) (hx : a.eval x = .slice (some ⟨w.heap.size, 0, none⟩) 1 1) (hb : l.length ≤ 2000000000) (hbase : base ≤ w.heap.size)
    (h : ∀ v' w', w'.ownsRow base 42 5 v' (l ++ [s]).length (sCells (l ++ [s])) → w.grownBy w' v.ownBlock → wpList Tryd.prog ops Q rest (a.put o.dst v') w') :
    wpList Tryd.prog ops Q (o :: rest) a (w.alloc (.cells #[.int .i64 s.id, .string s.ten, .string s.usr, .int .i64 s.since, .int .i64 s.used] 42)) := by
  obtain ⟨i0, hi, hz0, hz1, hz2⟩ := info_parts Tryd.info42
  refine wpList_append_own _ hgd sl x 47 ho base 42 i0 (sessV sess0) 5 56 Tryd.underlying47 hi hz0 hz1 hz2 rfl (by decide) v l.length (sCells l) hs (hown.alloc _) ⟨w.heap.size, 0, none⟩ 1 1 [.int .i64 s.id, .string s.ten, .string s.usr, .int .i64 s.since, .int .i64 s.used] hx rfl (World.news_of_block (cs := #[.int .i64 s.id, .string s.ten, .string s.usr, .int .i64 s.since, .int .i64 s.used]) (t := 42) (fr := (0, 0)) (MapKept.heap_alloc w _).1) (by simp [Value.oneCell']) (by unfold maxLen; omega) (by omega) (by simp; omega) ?_
  intro v' w' h1 h2 h3
  rw [← sCells_snoc, show l.length + 1 = (l ++ [s]).length by simp] at h1
  exact h v' w' h1 ((World.grownBy_alloc w _ _).trans h2)

/-- which sessions have come and are wanted -/
def came (f : Sess → Bool) (left : Lit → Bool) (s : Sess) : Bool := f s && !left (zk s.id)

theorem came_other {f : Sess → Bool} {left : Lit → Bool} {s t : Sess} (h : t.id ≠ s.id) : came f (fun z => left z && !z.sameKey (Lit.int .i64 s.id)) t = came f left t := by
  unfold came
  show (f t && !(left (zk t.id) && !(zk t.id).sameKey (Lit.int .i64 s.id))) = (f t && !left (zk t.id))
  rw [Maps.sameKey_ne (a := zk t.id) (b := Lit.int .i64 s.id) (fun e => h (by injection e))]
  simp
theorem came_this {f : Sess → Bool} {left : Lit → Bool} {s : Sess} : came f (fun z => left z && !z.sameKey (Lit.int .i64 s.id)) s = f s := by
  unfold came
  show (f s && !(left (zk s.id) && !(zk s.id).sameKey (zk s.id))) = f s
  rw [WideAt.sameKey_self (zk_isKey s.id)]
  simp
theorem came_no {f : Sess → Bool} {left : Lit → Bool} {l : List Sess} {s : Sess} (h1 : Nums1 Sess.id l) (hs : s ∈ l) (hf : f s = false) : l.filter (came f (fun z => left z && !z.sameKey (Lit.int .i64 s.id))) = l.filter (came f left) :=
  List.filter_congr fun t ht => by
    by_cases e : t.id = s.id
    · have := h1.eq ht hs e
      subst this
      rw [came_this, hf]
      unfold came
      rw [hf]
      rfl
    · exact came_other e
theorem came_yes {f : Sess → Bool} {left : Lit → Bool} {l : List Sess} {s : Sess} {zs : List Int} (h1 : Nums1 Sess.id l) (hs : s ∈ l) (hl : left (Lit.int .i64 s.id) = true) (hf : f s = true) (hp : zs.Perm ((l.filter (came f left)).map Sess.id)) :
    (zs ++ [s.id]).Perm ((l.filter (came f (fun z => left z && !z.sameKey (Lit.int .i64 s.id)))).map Sess.id) := by
  have h2 := taken_more (p := came f left) (p' := came f (fun z => left z && !z.sameKey (Lit.int .i64 s.id))) h1 hs (by unfold came; rw [show left (zk s.id) = true from hl]; simp) (by rw [came_this, hf]) (fun t _ e => came_other e)
  refine List.Perm.trans ?_ (h2.map Sess.id).symm
  rw [List.map_cons]
  exact (List.perm_append_comm (l₁ := zs) (l₂ := [s.id])).trans (hp.cons s.id)

/-- the numbers of what is wanted, in the list's order -/
def wantedIds (l : List Sess) (f : Sess → Bool) : List Int := (l.filter f).map Sess.id

set_option maxHeartbeats 1600000 in
theorem numbers_any {w : World} {p o mb n : Nat} {next : Int} {l : List Sess} (h : NumAt w p o mb n next l) (hup : l.Pairwise (fun a b => a.id < b.id)) (hln : l.length ≤ 1000000000) (f : Sess → Bool) (F : Nat) (cap : Array Value)
    (heg : ∀ args w, (callFunc F args).run Tryd.prog w = .ok (.enter F args) w)
    (hcl : ∀ s ∈ l, ∀ W, Below w.heap.size w W → Calls Tryd.prog F (#[.agg #[.int .i64 s.id, .string s.ten, .string s.usr, .int .i64 s.since, .int .i64 s.used]] ++ cap) W fun e w' => e = .returned (.bool (f s)) ∧ Below W.heap.size W w') :
    Calls Tryd.prog 55 #[.pointer (some ⟨p, o, none⟩), .func (.func F) #[] cap] w fun e w' => ∃ v, e = .returned v ∧ w'.ownsRow w.heap.size 3 1 v (l.filter f).length (zCells (wantedIds l f)) ∧ Below w.heap.size w w' := by
  have c1 := h.c1
  have hm := h.lts.2
  obtain ⟨D, hown, hh, ha⟩ := h.map
  have h1 : Nums1 Sess.id l := hup.imp (fun h => by omega)
  have Hh := hid hh
  have Ha := hid ha
  have Hcl := hid hcl
  have H1 := hid h1
  have Hup := hid hup
  clear hh ha hcl h1 hup h
  go_enter Tryd.func55, Tryd.ntmps55
  go_wp2_with (first
    | (at_range; refine wpList_range_own _ rfl _ 37 rfl 3 42 intKeyed Tryd.underlying37 _ mb n _ rfl hown ?_; intro w0 hrg0 hg0 hs0)
    | go_in)
  go_frame
  go_loopw [5] (fun v wr => ∃ (left : Lit → Bool) (cnt : Nat) (zs : List Int), wr.ranges Tryd.prog 3 sessR mb w.heap.size n D left cnt ∧ wr.ownsRow (w.heap.size + 1) 3 1 v zs.length (zCells zs) ∧ zs.Perm ((l.filter (came f left)).map Sess.id) ∧ Below w.heap.size w wr)
    (fun _ wr => wr.rangeLeft mb w.heap.size)
  case atStart =>
    refine ⟨_, _, [], hrg0, World.ownsRow_nil _ _ _ _, ?_, hg0.os, hg0.tape, hg0.output, hg0.size, fun k hk => hg0.block k hk (by simp)⟩
    rw [List.filter_eq_nil_iff.2 fun s hs => ?_]
    · exact List.Perm.refl _
    · unfold came
      rw [Hh.out, List.any_eq_true.2 ⟨s, hs, by simp⟩]
      simp
  case round =>
    obtain ⟨left, cnt, zs, hrg, hrow, hp, hb⟩ := hrel
    have Hp := hid hp
    have Hb := hid hb
    clear hp hb
    go_wp2_with (first
      | (at_next; refine wpList_next_ranges (α := Int) (β := Sess) _ rfl _ rfl 3 intKeyed sessR (fun x => .int .i64 x) (fun s => .agg #[.int .i64 s.id, .string s.ten, .string s.usr, .int .i64 s.since, .int .i64 s.used]) (fun key kl hkey => by obtain ⟨x, rfl, _⟩ := Maps.keyOf_int_inv Tryd.underlying3 hkey; exact ⟨x, rfl⟩) (fun v y hv => by obtain ⟨s, rfl, _⟩ := sessR_shape hv; exact ⟨s, rfl⟩) mb w.heap.size n _ _ _ rfl hrg ?_ ?_)
      | go_in)
    · intro _ hl0
      have Hz : Hid (zs.Perm (wantedIds l f)) := by
        have := Hp.out
        rw [show came f left = f from funext fun s => by unfold came; rw [hl0]; simp] at this
        exact this
      have hzl : zs.length = (l.filter f).length := by have := Hz.out.length_eq; simpa [wantedIds] using this
      have hll : zs.length ≤ 1000000000 := by have := List.length_filter_le f l; omega
      have Hs : Hid (zs.mergeSort (fun x y => decide (x ≤ y)) = wantedIds l f) := sorted_nums Hz.out (by
        unfold wantedIds
        rw [List.pairwise_map]
        exact Hup.out.sublist List.filter_sublist)
      have Hzl := hid hzl
      clear hzl
      go_wp2_with (go_at_call 66; refine (sort_own hrow (by omega)).mono ?_; rintro e w2 ⟨rfl, hrow2, hb2⟩)
      go_ret
      rw [Hs.out, Hzl.out] at hrow2
      exact ⟨_, rfl, hrow2.mono (by omega), Hb.out.trans (hb2.mono (by omega))⟩
    · intro x s kl yd yp w1 cnt1 hkey hlk hv hat hrg1 hlt hg1 hs1 hen
      obtain ⟨x', ex, rfl, hwx⟩ := Maps.keyOf_int_inv Tryd.underlying3 hkey
      cases ex
      cases hv
      have hs : s ∈ l ∧ s.id = x := by
        have h2 := Maps.has_true_of_atKey hat
        rw [Hh.out] at h2
        obtain ⟨t, ht, et⟩ := List.any_eq_true.1 h2
        have et' : t.id = x := by simpa using et
        have h3 := Ha.out t ht (.held s)
        rw [et', hat] at h3
        cases h3
        exact ⟨ht, et'⟩
      obtain ⟨hsl, rfl⟩ := hs
      have hb1 : Below w.heap.size w w1 := Hb.out.trans ⟨hg1.os, hg1.tape, hg1.output, hg1.size, fun k hk => hg1.block k (by have := Hb.out.size; omega) (fun e => by cases e; omega)⟩
      have Hb1 := hid hb1
      have Hat := hid hat
      clear hat hb1
      have hrow1 : w1.ownsRow (w.heap.size + 1) 3 1 u5 zs.length (zCells zs) := hrow.kept hg1 (.inr (Ne.symm (row_ne_low hrow (b := w.heap.size) (by omega))))
      have hz1 : w.heap.size < w1.heap.size := hrg1.lt
      obtain ⟨u, eu⟩ : ∃ u, u = f s := ⟨_, rfl⟩
      have Hu := hid eu
      have hc := Hcl.out s hsl
      rw [← eu] at hc
      clear eu hrow
      have hzl : zs.length ≤ 1000000000 := by
        have h2 := Hp.out.length_eq
        have h3 := List.length_filter_le (came f left) l
        rw [List.length_map] at h2
        omega
      cases u
      · go_wp2_with (first
          | (refine (hc _ (Hb1.out.alloc (by omega) _)).mono ?_; rintro e w2 ⟨rfl, hb2⟩)
          | go_in)
        have hrg2 := (hrg1.alloc (.cells #[.int .i64 s.id, .string s.ten, .string s.usr, .int .i64 s.since, .int .i64 s.used] 42)).kept (grown_of_below hb2) (by simp) (by simp)
        have hrow2 := (hrow1.alloc (.cells #[.int .i64 s.id, .string s.ten, .string s.usr, .int .i64 s.since, .int .i64 s.used] 42)).kept (grown_of_below hb2) (Classical.em _)
        go_roundw
        case rel => exact ⟨_, cnt1, zs, hrg2, hrow2, by rw [came_no H1.out hsl Hu.out.symm]; exact Hp.out, (Hb1.out.alloc (by omega) _).trans (hb2.mono (by simp; omega))⟩
        case measure => rw [hrg2.left_eq, hrg.left_eq]; omega
      · go_wp2_with (first
          | (refine (hc _ (Hb1.out.alloc (by omega) _)).mono ?_; rintro e w2 ⟨rfl, hb2⟩)
          | (at_builtin; refine app_int _ rfl _ _ rfl (w.heap.size + 1) u5 zs rfl ((hrow1.alloc _).kept (grown_of_below hb2) (Classical.em _)) s.id rfl (by omega) (by have := hb2.size; simp at this; omega) ?_; intro v' w3 hrow3 hg3)
          | go_in)
        have hrg3 := ((hrg1.alloc (.cells #[.int .i64 s.id, .string s.ten, .string s.usr, .int .i64 s.since, .int .i64 s.used] 42)).kept (grown_of_below hb2) (by simp) (by simp)).kept hg3 (row_ne_low hrow1 (by omega)) (row_ne_low hrow1 (by omega))
        have hb3 : Below w.heap.size w w3 := by
          have h1 := (Hb1.out.alloc (by omega) (.cells #[.int .i64 s.id, .string s.ten, .string s.usr, .int .i64 s.since, .int .i64 s.used] 42)).trans (hb2.mono (by simp; omega))
          exact h1.trans ⟨hg3.os, hg3.tape, hg3.output, hg3.size, fun k hk => hg3.block k (by have := h1.size; omega) (row_ne_low hrow1 (by omega))⟩
        go_roundw
        case rel => exact ⟨_, cnt1, zs ++ [s.id], hrg3, hrow3, came_yes H1.out hsl hlk Hu.out.symm Hp.out, hb3⟩
        case measure => rw [hrg3.left_eq, hrg.left_eq]; omega
end Go.Proofs.YtcchlcbonfdhpaaDoor
