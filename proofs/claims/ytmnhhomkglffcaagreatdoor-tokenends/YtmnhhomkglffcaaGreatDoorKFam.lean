/- Numbered things at holdfast/api.Family: how they lie in memory; Full, Give, Find, Numbers, Things, Drop, each by a contract. -/
import Derived.Test.YtmnhhomkglffcaaGreatDoorKComm
namespace Go.Proofs.YtmnhhomkglffcaaGreatDoor.Fam
open Go.RowKit Go.Maps Go.Sort Go.Shelf
set_option linter.unusedVariables false

/-- a thing -/
structure Sess where
  id : Int
  ses : Int
  cli : ByteArray
  sco : Int
  nxt : Int
/-- .. as a value -/
def sessV (s : Sess) : Value := .agg #[.int .i64 s.id, .int .i64 s.ses, .string s.cli, .int .u8 s.sco, .int .i64 s.nxt]
def sess0 : Sess := ⟨0, 0, ⟨#[]⟩, 0, 0⟩
/-- .. as a map's element -/
def sessR : Value → Option (DataW Sess × List MemPlace)
  | .agg ⟨[.int .i64 a, .int .i64 b, .string c, .int .u8 d, .int .i64 e]⟩ => some (.held ⟨a, b, c, d, e⟩, [])
  | _ => none
theorem sessR_mk (s : Sess) : sessR (sessV s) = some (.held s, []) := rfl
theorem sessR_shape {v : Value} {y : DataW Sess × List MemPlace} (h : sessR v = some y) : ∃ s, v = sessV s ∧ y = (.held s, []) := by
  unfold sessR at h
  split at h
  · cases h
    exact ⟨_, rfl, rfl⟩
  · cases h
theorem sessR_inv (v : Value) (s : Sess) (ps : List MemPlace) (h : sessR v = some (.held s, ps)) : v = sessV s := by
  obtain ⟨s', rfl, e⟩ := sessR_shape h
  cases e
  rfl

theorem sessZero (w : World) : (zeroValue 35).run Tryz.prog w = .ok (sessV sess0) w := by kernel_rfl
/-- a map of sessions -/
abbrev SMap (w : World) (mb n : Nat) (l : List Sess) : Prop := NMap Tryz.prog 3 sessR Sess.id w mb n l

/-- numbered sessions, in two cells of a block -/
structure NumAt (w : World) (p o mb n : Nat) (next : Int) (l : List Sess) : Prop where
  c0 : w.cell? ⟨p, o, none⟩ = some (.int .i64 next)
  c1 : w.cell? ⟨p, o + 1, none⟩ = some (.map (some mb))
  z : ∀ j, w.frozen? ⟨p, j, none⟩ = false
  map : SMap w mb n l
theorem NumAt.keep {w w' : World} {p o mb n : Nat} {next : Int} {l : List Sess} (h : NumAt w p o mb n next l) (hp : w'.heap[p]? = w.heap[p]?) (hm : w'.heap[mb]? = w.heap[mb]?) : NumAt w' p o mb n next l :=
  ⟨(World.cell?_of_block (a := ⟨p, o, none⟩) hp).trans h.c0, (World.cell?_of_block (a := ⟨p, o + 1, none⟩) hp).trans h.c1, fun j => (World.frozen?_of_block (a := ⟨p, j, none⟩) hp).trans (h.z j), h.map.keep hm⟩
theorem NumAt.lts {w : World} {p o mb n : Nat} {next : Int} {l : List Sess} (h : NumAt w p o mb n next l) : p < w.heap.size ∧ mb < w.heap.size := ⟨World.block_lt_of_cell? _ _ h.c0, h.map.lt⟩
theorem NumAt.below {w w' : World} {p o mb n : Nat} {next : Int} {l : List Sess} (h : NumAt w p o mb n next l) (hb : Below w.heap.size w w') : NumAt w' p o mb n next l :=
  h.keep (hb.block p h.lts.1) (hb.block mb h.lts.2)

set_option maxHeartbeats 400000 in
theorem full_any {w : World} {p o mb n : Nat} {next : Int} {l : List Sess} (h : NumAt w p o mb n next l) :
    Calls Tryz.prog 83 #[.pointer (some ⟨p, o, none⟩)] w fun e w' => e = .returned (.bool (decide (1099511627777 ≤ next))) ∧ w' = w := by
  have c0 := h.c0
  clear h
  go_enter Tryz.func83, Tryz.ntmps83
  go_wp2
  go_ret
  exact ⟨rfl, rfl⟩

set_option maxHeartbeats 400000 in
theorem give_any {w : World} {p o mb n : Nat} {next : Int} {l : List Sess} (h : NumAt w p o mb n next l) (h0 : 0 ≤ next) (h1 : next ≤ 1099511627777) :
    Calls Tryz.prog 48 #[.pointer (some ⟨p, o, none⟩)] w fun e w' => e = .returned (.int .i64 next) ∧ w' = w.setCell ⟨p, o, none⟩ (.int .i64 (next + 1)) := by
  have c0 := h.c0
  have z0 := h.z o
  clear h
  go_enter Tryz.func48, Tryz.ntmps48
  go_wp2
  go_ret
  exact ⟨rfl, rfl⟩

/-- what Find tells -/
def findErr (next : Int) (l : List Sess) (x : Int) : Int := if x < 1 ∨ next ≤ x then 4 else if l.any (fun s => s.id == x) then 0 else 12
def findOf (next : Int) (l : List Sess) (x : Int) : Sess := if x < 1 ∨ next ≤ x then sess0 else (l.find? (fun s => s.id == x)).getD sess0

set_option maxHeartbeats 800000 in
theorem find_none {w : World} {p o mb n : Nat} {next : Int} {l : List Sess} (h : NumAt w p o mb n next l) (x : Int) (hx : x < 1 ∨ next ≤ x) :
    Calls Tryz.prog 37 #[.pointer (some ⟨p, o, none⟩), .int .i64 x] w fun e w' => e = .returned (.tuple #[sessV sess0, .int .i64 4]) ∧ Below w.heap.size w w' := by
  have c0 := h.c0
  have hp := h.lts.1
  clear h
  by_cases h1 : x < 1
  · have g1 : decide (x < 1) = true := by simpa using h1
    go_enter Tryz.func37, Tryz.ntmps37
    go_wp2
    exact bodyPost_ret (v := .tuple #[sessV sess0, .int .i64 4]) (by simp [results, Tryz.results37, go_sem, sessV, sess0]) rfl ⟨rfl, ((Below.refl _ _).alloc (Nat.le_refl _) _).alloc (by simp) _⟩
  · have g1 : decide (x < 1) = false := by simpa using h1
    have h2 : next ≤ x := by omega
    have g2 : decide (next ≤ x) = true := by simpa using h2
    go_enter Tryz.func37, Tryz.ntmps37
    go_wp2
    exact bodyPost_ret (v := .tuple #[sessV sess0, .int .i64 4]) (by simp [results, Tryz.results37, go_sem, sessV, sess0]) rfl ⟨rfl, ((Below.refl _ _).alloc (Nat.le_refl _) _).alloc (by simp) _⟩

set_option maxHeartbeats 800000 in
theorem find_gone {w : World} {p o mb n : Nat} {next : Int} {l : List Sess} (h : NumAt w p o mb n next l) (x : Int) (hx : 1 ≤ x ∧ x < next) (hn : next ≤ 1099511627777) (hl : ∀ s ∈ l, s.id ≠ x) :
    Calls Tryz.prog 37 #[.pointer (some ⟨p, o, none⟩), .int .i64 x] w fun e w' => e = .returned (.tuple #[sessV sess0, .int .i64 12]) ∧ Below w.heap.size w w' := by
  have c0 := h.c0
  have c1 := h.c1
  have hp := h.lts.1
  have hm := h.lts.2
  have h2 : (Instr.lookup 46 (.map (some mb)) (.int .i64 x) true).run Tryz.prog ((w.alloc (.cells #[.int .i64 0, .int .i64 0, .string ⟨#[]⟩, .int .u8 0, .int .i64 0] 35)).alloc (.cells #[.int .i64 0, .int .i64 0, .string ⟨#[]⟩, .int .u8 0, .int .i64 0] 35)) = .ok (.tuple #[.agg #[.int .i64 0, .int .i64 0, .string ⟨#[]⟩, .int .u8 0, .int .i64 0], .bool false]) _ :=
    (h.map.keep (((Below.refl _ w).alloc (Nat.le_refl _) _).alloc (by simp) _ |>.block mb hm)).look_out intKeyed Tryz.underlying46 (sessZero _) (sessR_mk sess0) sessR_inv hl (zkey (by omega) (by omega))
  clear h
  have g1 : decide (x < 1) = false := by simp; omega
  have g2 : decide (next ≤ x) = false := by simp; omega
  go_enter Tryz.func37, Tryz.ntmps37
  go_wp2
  exact bodyPost_ret (v := .tuple #[sessV sess0, .int .i64 12]) (by simp [results, Tryz.results37, go_sem, sessV, sess0]) rfl ⟨rfl, (((Below.refl _ _).alloc (Nat.le_refl _) _).alloc (by simp) _).alloc (by simp; omega) _⟩

set_option maxHeartbeats 800000 in
theorem find_ok {w : World} {p o mb n : Nat} {next : Int} {l : List Sess} (h : NumAt w p o mb n next l) (s : Sess) (hs : s ∈ l) (hx : 1 ≤ s.id ∧ s.id < next) (hn : next ≤ 1099511627777) :
    Calls Tryz.prog 37 #[.pointer (some ⟨p, o, none⟩), .int .i64 s.id] w fun e w' => e = .returned (.tuple #[sessV s, .int .i64 0]) ∧ Below w.heap.size w w' := by
  have c0 := h.c0
  have c1 := h.c1
  have hp := h.lts.1
  have hm := h.lts.2
  have h2 : (Instr.lookup 46 (.map (some mb)) (.int .i64 s.id) true).run Tryz.prog ((w.alloc (.cells #[.int .i64 0, .int .i64 0, .string ⟨#[]⟩, .int .u8 0, .int .i64 0] 35)).alloc (.cells #[.int .i64 0, .int .i64 0, .string ⟨#[]⟩, .int .u8 0, .int .i64 0] 35)) = .ok (.tuple #[.agg #[.int .i64 s.id, .int .i64 s.ses, .string s.cli, .int .u8 s.sco, .int .i64 s.nxt], .bool true]) _ :=
    ((h.map.keep (((Below.refl _ w).alloc (Nat.le_refl _) _).alloc (by simp) _ |>.block mb hm)).look_in intKeyed Tryz.underlying46 (sessZero _) (sessR_mk sess0) sessR_inv hs (zkey (by omega) (by omega))).1
  clear h
  have g1 : decide (s.id < 1) = false := by simp; omega
  have g2 : decide (next ≤ s.id) = false := by simp; omega
  go_enter Tryz.func37, Tryz.ntmps37
  go_wp2
  exact bodyPost_ret (v := .tuple #[sessV s, .int .i64 0]) (by simp [results, Tryz.results37, go_sem, sessV]) rfl ⟨rfl, (((Below.refl _ _).alloc (Nat.le_refl _) _).alloc (by simp) _).alloc (by simp; omega) _⟩

theorem Tryz.info35 : (Tryz.prog.info? 35).map (fun i => (i.zero, i.size, i.bytes)) = some (some (sessV sess0), 5, 48) := by kernel_rfl

/-- sessions as cells -/
def sCells (l : List Sess) : List Value := l.flatMap fun s => [.int .i64 s.id, .int .i64 s.ses, .string s.cli, .int .u8 s.sco, .int .i64 s.nxt]
theorem sCells_length (l : List Sess) : (sCells l).length = l.length * 5 := by
  induction l with
  | nil => rfl
  | cons x r ih => rw [sCells, List.flatMap_cons, List.length_append, ← sCells, ih]; simp; omega
theorem sCells_snoc (l : List Sess) (s : Sess) : sCells (l ++ [s]) = sCells l ++ [.int .i64 s.id, .int .i64 s.ses, .string s.cli, .int .u8 s.sco, .int .i64 s.nxt] := by simp [sCells]

/-- append(v, s), v a row of sessions of the call's own -/
theorem app_sess (w : World) {ops : Array Oper} {rest : List Oper} {o : Oper} {a : Act} {Q : Exit → Act → World → Prop} (hgd : o.guard = none) (sl x : Operand)
    (ho : o.op = .call { callee := .builtin .append, args := #[sl, x], argTypes := #[41, 41] }) (base : Nat) (v : Value) (l : List Sess) (hs : a.eval sl = v)
    (hown : w.ownsRow base 35 5 v l.length (sCells l)) (s : Sess) (hx : a.eval x = .slice (some ⟨w.heap.size, 0, none⟩) 1 1) (hb : l.length ≤ 2000000000) (hbase : base ≤ w.heap.size)
    (h : ∀ v' w', w'.ownsRow base 35 5 v' (l ++ [s]).length (sCells (l ++ [s])) → w.grownBy w' v.ownBlock → wpList Tryz.prog ops Q rest (a.put o.dst v') w') :
    wpList Tryz.prog ops Q (o :: rest) a (w.alloc (.cells #[.int .i64 s.id, .int .i64 s.ses, .string s.cli, .int .u8 s.sco, .int .i64 s.nxt] 35)) := by
  obtain ⟨i0, hi, hz0, hz1, hz2⟩ := info_parts Tryz.info35
  refine wpList_append_own _ hgd sl x 41 ho base 35 i0 (sessV sess0) 5 48 Tryz.underlying41 hi hz0 hz1 hz2 rfl (by decide) v l.length (sCells l) hs (hown.alloc _) ⟨w.heap.size, 0, none⟩ 1 1 [.int .i64 s.id, .int .i64 s.ses, .string s.cli, .int .u8 s.sco, .int .i64 s.nxt] hx rfl (World.news_of_block (cs := #[.int .i64 s.id, .int .i64 s.ses, .string s.cli, .int .u8 s.sco, .int .i64 s.nxt]) (t := 35) (fr := (0, 0)) (MapKept.heap_alloc w _).1) (by simp [Value.oneCell']) (by unfold maxLen; omega) (by omega) (by simp; omega) ?_
  intro v' w' h1 h2 h3
  rw [← sCells_snoc, show l.length + 1 = (l ++ [s]).length by simp] at h1
  exact h v' w' h1 ((World.grownBy_alloc w _ _).trans h2)

/-- which sessions have come and are wanted -/
def came (f : Sess → Bool) (left : Lit → Bool) (s : Sess) : Bool := f s && !left (zk s.id)

theorem came_other {f : Sess → Bool} {left : Lit → Bool} {s t : Sess} (h : t.id ≠ s.id) : came f (fun z => left z && !z.sameKey (Lit.int .i64 s.id)) t = came f left t := by
  unfold came
  show (f t && !(left (zk t.id) && !(zk t.id).sameKey (Lit.int .i64 s.id))) = (f t && !left (zk t.id))
  rw [Maps.sameKey_ne (a := zk t.id) (b := Lit.int .i64 s.id) (fun e => h (by injection e))]
  simp
theorem came_this {f : Sess → Bool} {left : Lit → Bool} {s : Sess} : came f (fun z => left z && !z.sameKey (Lit.int .i64 s.id)) s = f s := by
  unfold came
  show (f s && !(left (zk s.id) && !(zk s.id).sameKey (zk s.id))) = f s
  rw [WideAt.sameKey_self (zk_isKey s.id)]
  simp
theorem came_no {f : Sess → Bool} {left : Lit → Bool} {l : List Sess} {s : Sess} (h1 : Nums1 Sess.id l) (hs : s ∈ l) (hf : f s = false) : l.filter (came f (fun z => left z && !z.sameKey (Lit.int .i64 s.id))) = l.filter (came f left) :=
  List.filter_congr fun t ht => by
    by_cases e : t.id = s.id
    · have := h1.eq ht hs e
      subst this
      rw [came_this, hf]
      unfold came
      rw [hf]
      rfl
    · exact came_other e
theorem came_yes {f : Sess → Bool} {left : Lit → Bool} {l : List Sess} {s : Sess} {zs : List Int} (h1 : Nums1 Sess.id l) (hs : s ∈ l) (hl : left (Lit.int .i64 s.id) = true) (hf : f s = true) (hp : zs.Perm ((l.filter (came f left)).map Sess.id)) :
    (zs ++ [s.id]).Perm ((l.filter (came f (fun z => left z && !z.sameKey (Lit.int .i64 s.id)))).map Sess.id) := by
  have h2 := taken_more (p := came f left) (p' := came f (fun z => left z && !z.sameKey (Lit.int .i64 s.id))) h1 hs (by unfold came; rw [show left (zk s.id) = true from hl]; simp) (by rw [came_this, hf]) (fun t _ e => came_other e)
  refine List.Perm.trans ?_ (h2.map Sess.id).symm
  rw [List.map_cons]
  exact (List.perm_append_comm (l₁ := zs) (l₂ := [s.id])).trans (hp.cons s.id)

/-- the numbers of what is wanted, in the list's order -/
def wantedIds (l : List Sess) (f : Sess → Bool) : List Int := (l.filter f).map Sess.id

set_option maxHeartbeats 1600000 in
theorem numbers_any {w : World} {p o mb n : Nat} {next : Int} {l : List Sess} (h : NumAt w p o mb n next l) (hup : l.Pairwise (fun a b => a.id < b.id)) (hln : l.length ≤ 1000000000) (f : Sess → Bool) (F : Nat) (cap : Array Value)
    (heg : ∀ args w, (callFunc F args).run Tryz.prog w = .ok (.enter F args) w)
    (hcl : ∀ s ∈ l, ∀ W, Below w.heap.size w W → Calls Tryz.prog F (#[.agg #[.int .i64 s.id, .int .i64 s.ses, .string s.cli, .int .u8 s.sco, .int .i64 s.nxt]] ++ cap) W fun e w' => e = .returned (.bool (f s)) ∧ Below W.heap.size W w') :
    Calls Tryz.prog 75 #[.pointer (some ⟨p, o, none⟩), .func (.func F) #[] cap] w fun e w' => ∃ v, e = .returned v ∧ w'.ownsRow w.heap.size 3 1 v (l.filter f).length (zCells (wantedIds l f)) ∧ Below w.heap.size w w' := by
  have c1 := h.c1
  have hm := h.lts.2
  obtain ⟨D, hown, hh, ha⟩ := h.map
  have h1 : Nums1 Sess.id l := hup.imp (fun h => by omega)
  have Hh := hid hh
  have Ha := hid ha
  have Hcl := hid hcl
  have H1 := hid h1
  have Hup := hid hup
  clear hh ha hcl h1 hup h
  go_enter Tryz.func75, Tryz.ntmps75
  go_wp2_with (first
    | (at_range; refine wpList_range_own _ rfl _ 46 rfl 3 35 intKeyed Tryz.underlying46 _ mb n _ rfl hown ?_; intro w0 hrg0 hg0 hs0)
    | go_in)
  go_frame
  go_loopw [5] (fun v wr => ∃ (left : Lit → Bool) (cnt : Nat) (zs : List Int), wr.ranges Tryz.prog 3 sessR mb w.heap.size n D left cnt ∧ wr.ownsRow (w.heap.size + 1) 3 1 v zs.length (zCells zs) ∧ zs.Perm ((l.filter (came f left)).map Sess.id) ∧ Below w.heap.size w wr)
    (fun _ wr => wr.rangeLeft mb w.heap.size)
  case atStart =>
    refine ⟨_, _, [], hrg0, World.ownsRow_nil _ _ _ _, ?_, hg0.os, hg0.tape, hg0.output, hg0.size, fun k hk => hg0.block k hk (by simp)⟩
    rw [List.filter_eq_nil_iff.2 fun s hs => ?_]
    · exact List.Perm.refl _
    · unfold came
      rw [Hh.out, List.any_eq_true.2 ⟨s, hs, by simp⟩]
      simp
  case round =>
    obtain ⟨left, cnt, zs, hrg, hrow, hp, hb⟩ := hrel
    have Hp := hid hp
    have Hb := hid hb
    clear hp hb
    go_wp2_with (first
      | (at_next; refine wpList_next_ranges (α := Int) (β := Sess) _ rfl _ rfl 3 intKeyed sessR (fun x => .int .i64 x) (fun s => .agg #[.int .i64 s.id, .int .i64 s.ses, .string s.cli, .int .u8 s.sco, .int .i64 s.nxt]) (fun key kl hkey => by obtain ⟨x, rfl, _⟩ := Maps.keyOf_int_inv Tryz.underlying3 hkey; exact ⟨x, rfl⟩) (fun v y hv => by obtain ⟨s, rfl, _⟩ := sessR_shape hv; exact ⟨s, rfl⟩) mb w.heap.size n _ _ _ rfl hrg ?_ ?_)
      | go_in)
    · intro _ hl0
      have Hz : Hid (zs.Perm (wantedIds l f)) := by
        have := Hp.out
        rw [show came f left = f from funext fun s => by unfold came; rw [hl0]; simp] at this
        exact this
      have hzl : zs.length = (l.filter f).length := by have := Hz.out.length_eq; simpa [wantedIds] using this
      have hll : zs.length ≤ 1000000000 := by have := List.length_filter_le f l; omega
      have Hs : Hid (zs.mergeSort (fun x y => decide (x ≤ y)) = wantedIds l f) := sorted_nums Hz.out (by
        unfold wantedIds
        rw [List.pairwise_map]
        exact Hup.out.sublist List.filter_sublist)
      have Hzl := hid hzl
      clear hzl
      go_wp2_with (go_at_call 87; refine (sort_own hrow (by omega)).mono ?_; rintro e w2 ⟨rfl, hrow2, hb2⟩)
      go_ret
      rw [Hs.out, Hzl.out] at hrow2
      exact ⟨_, rfl, hrow2.mono (by omega), Hb.out.trans (hb2.mono (by omega))⟩
    · intro x s kl yd yp w1 cnt1 hkey hlk hv hat hrg1 hlt hg1 hs1 hen
      obtain ⟨x', ex, rfl, hwx⟩ := Maps.keyOf_int_inv Tryz.underlying3 hkey
      cases ex
      cases hv
      have hs : s ∈ l ∧ s.id = x := by
        have h2 := Maps.has_true_of_atKey hat
        rw [Hh.out] at h2
        obtain ⟨t, ht, et⟩ := List.any_eq_true.1 h2
        have et' : t.id = x := by simpa using et
        have h3 := Ha.out t ht (.held s)
        rw [et', hat] at h3
        cases h3
        exact ⟨ht, et'⟩
      obtain ⟨hsl, rfl⟩ := hs
      have hb1 : Below w.heap.size w w1 := Hb.out.trans ⟨hg1.os, hg1.tape, hg1.output, hg1.size, fun k hk => hg1.block k (by have := Hb.out.size; omega) (fun e => by cases e; omega)⟩
      have Hb1 := hid hb1
      have Hat := hid hat
      clear hat hb1
      have hrow1 : w1.ownsRow (w.heap.size + 1) 3 1 u5 zs.length (zCells zs) := hrow.kept hg1 (.inr (Ne.symm (row_ne_low hrow (b := w.heap.size) (by omega))))
      have hz1 : w.heap.size < w1.heap.size := hrg1.lt
      obtain ⟨u, eu⟩ : ∃ u, u = f s := ⟨_, rfl⟩
      have Hu := hid eu
      have hc := Hcl.out s hsl
      rw [← eu] at hc
      clear eu hrow
      have hzl : zs.length ≤ 1000000000 := by
        have h2 := Hp.out.length_eq
        have h3 := List.length_filter_le (came f left) l
        rw [List.length_map] at h2
        omega
      cases u
      · go_wp2_with (first
          | (refine (hc _ (Hb1.out.alloc (by omega) _)).mono ?_; rintro e w2 ⟨rfl, hb2⟩)
          | go_in)
        have hrg2 := (hrg1.alloc (.cells #[.int .i64 s.id, .int .i64 s.ses, .string s.cli, .int .u8 s.sco, .int .i64 s.nxt] 35)).kept (grown_of_below hb2) (by simp) (by simp)
        have hrow2 := (hrow1.alloc (.cells #[.int .i64 s.id, .int .i64 s.ses, .string s.cli, .int .u8 s.sco, .int .i64 s.nxt] 35)).kept (grown_of_below hb2) (Classical.em _)
        go_roundw
        case rel => exact ⟨_, cnt1, zs, hrg2, hrow2, by rw [came_no H1.out hsl Hu.out.symm]; exact Hp.out, (Hb1.out.alloc (by omega) _).trans (hb2.mono (by simp; omega))⟩
        case measure => rw [hrg2.left_eq, hrg.left_eq]; omega
      · go_wp2_with (first
          | (refine (hc _ (Hb1.out.alloc (by omega) _)).mono ?_; rintro e w2 ⟨rfl, hb2⟩)
          | (at_builtin; refine app_int _ rfl _ _ rfl (w.heap.size + 1) u5 zs rfl ((hrow1.alloc _).kept (grown_of_below hb2) (Classical.em _)) s.id rfl (by omega) (by have := hb2.size; simp at this; omega) ?_; intro v' w3 hrow3 hg3)
          | go_in)
        have hrg3 := ((hrg1.alloc (.cells #[.int .i64 s.id, .int .i64 s.ses, .string s.cli, .int .u8 s.sco, .int .i64 s.nxt] 35)).kept (grown_of_below hb2) (by simp) (by simp)).kept hg3 (row_ne_low hrow1 (by omega)) (row_ne_low hrow1 (by omega))
        have hb3 : Below w.heap.size w w3 := by
          have h1 := (Hb1.out.alloc (by omega) (.cells #[.int .i64 s.id, .int .i64 s.ses, .string s.cli, .int .u8 s.sco, .int .i64 s.nxt] 35)).trans (hb2.mono (by simp; omega))
          exact h1.trans ⟨hg3.os, hg3.tape, hg3.output, hg3.size, fun k hk => hg3.block k (by have := h1.size; omega) (row_ne_low hrow1 (by omega))⟩
        go_roundw
        case rel => exact ⟨_, cnt1, zs ++ [s.id], hrg3, hrow3, came_yes H1.out hsl hlk Hu.out.symm Hp.out, hb3⟩
        case measure => rw [hrg3.left_eq, hrg.left_eq]; omega

theorem wantedIds_get {l : List Sess} {f : Sess → Bool} {k : Nat} (h : k < (wantedIds l f).length) : ∃ s, s ∈ l ∧ f s = true ∧ (wantedIds l f)[k] = s.id ∧ (l.filter f)[k]? = some s := by
  have h' : k < (l.filter f).length := by simpa [wantedIds] using h
  refine ⟨(l.filter f)[k], (List.mem_filter.1 (List.getElem_mem h')).1, (List.mem_filter.1 (List.getElem_mem h')).2, by simp [wantedIds], by simp [h']⟩

theorem NumAt.pne {w : World} {p o mb n : Nat} {next : Int} {l : List Sess} (h : NumAt w p o mb n next l) : p ≠ mb := by
  rintro rfl
  obtain ⟨es, clock, hb⟩ := h.map.isMap
  have := h.c0
  simp [World.cell?, hb] at this
/-- those whose numbers are not among some -/
def without (l : List Sess) (zs : List Int) : List Sess := l.filter fun s => !zs.contains s.id
theorem without_nil (l : List Sess) : without l [] = l := by unfold without; exact List.filter_eq_self.2 fun s _ => by simp
theorem without_snoc (l : List Sess) (zs : List Int) (x : Int) (t : Sess) : t ∈ without l (zs ++ [x]) ↔ (t ∈ without l zs ∧ t.id ≠ x) := by
  unfold without
  rw [List.mem_filter, List.mem_filter]
  simp only [List.contains_eq_mem, List.mem_append, List.mem_singleton, Bool.not_eq_true', decide_eq_false_iff_not, not_or]
  exact ⟨fun ⟨a, b, c⟩ => ⟨⟨a, b⟩, c⟩, fun ⟨⟨a, b⟩, c⟩ => ⟨a, b, c⟩⟩
theorem without_wanted {l : List Sess} (h1 : Nums1 Sess.id l) (f : Sess → Bool) : without l (wantedIds l f) = l.filter fun s => !f s := by
  unfold without
  refine List.filter_congr fun s hs => ?_
  congr 1
  rw [Bool.eq_iff_iff, List.contains_iff_mem]
  unfold wantedIds
  rw [List.mem_map]
  constructor
  · rintro ⟨t, ht, e⟩
    obtain ⟨h2, h3⟩ := List.mem_filter.1 ht
    have := h1.eq h2 hs e
    subst this
    exact h3
  · intro hf
    exact ⟨s, List.mem_filter.2 ⟨hs, hf⟩, rfl⟩

set_option maxHeartbeats 1600000 in
theorem drop_any {w : World} {p o mb n : Nat} {next : Int} {l : List Sess} (h : NumAt w p o mb n next l) (hup : l.Pairwise (fun a b => a.id < b.id)) (hln : l.length ≤ 1000000000) (hid1 : ∀ s ∈ l, 1 ≤ s.id ∧ s.id ≤ 1099511627776) (f : Sess → Bool) (F : Nat) (cap : Array Value)
    (heg : ∀ args w, (callFunc F args).run Tryz.prog w = .ok (.enter F args) w)
    (hcl : ∀ s ∈ l, ∀ W, Below w.heap.size w W → Calls Tryz.prog F (#[.agg #[.int .i64 s.id, .int .i64 s.ses, .string s.cli, .int .u8 s.sco, .int .i64 s.nxt]] ++ cap) W fun e w' => e = .returned (.bool (f s)) ∧ Below W.heap.size W w') :
    Calls Tryz.prog 71 #[.pointer (some ⟨p, o, none⟩), .func (.func F) #[] cap] w fun e w' => ∃ v, e = .returned v ∧ w'.ownsRow w.heap.size 3 1 v (l.filter f).length (zCells (wantedIds l f)) ∧ NumAt w' p o mb n next (l.filter fun s => !f s) ∧ Out (fun k => k = mb) w w' := by
  have h1 : Nums1 Sess.id l := hup.imp (fun h => by omega)
  have Hn := hid (numbers_any h hup hln f F cap heg hcl)
  have H := hid h
  have H1 := hid h1
  have hpne := h.pne
  have hmlt := h.lts.2
  have hll : (l.filter f).length ≤ 1000000000 := Nat.le_trans (List.length_filter_le f l) hln
  have Hid1 := hid hid1
  clear h hup hcl heg hid1 h1
  go_enter Tryz.func71, Tryz.ntmps71
  go_wp2_with (go_at_call 75; refine Hn.out.mono ?_; rintro e w2 ⟨v, rfl, hrow, hb2⟩; obtain ⟨a, c, rfl, hints, hcap⟩ := ints_of_own hrow)
  have Hints := hid hints
  have Hb2 := hid hb2
  have Hrow := hid hrow
  have hzl : (wantedIds l f).length = (l.filter f).length := by simp [wantedIds]
  generalize hN : (wantedIds l f).length = N at *
  have HN := hid hN
  have Hzl := hid hzl
  have hN2 : N ≤ 1000000000 := by omega
  clear hints hb2 hrow hcap hN hzl
  go_loopw [13] (fun i wr => ∃ k : Nat, k ≤ N ∧ i = .int .i64 k ∧ NumAt wr p o mb n next (without l ((wantedIds l f).take k)) ∧ Out (fun k => k = mb) w2 wr)
    (fun i _ => N - (intOf i).toNat)
  case atStart => exact ⟨0, Nat.zero_le _, rfl, by rw [List.take_zero, without_nil]; exact H.out.below Hb2.out, Out.refl _ _⟩
  case round =>
    obtain ⟨k, hk, rfl, hNum, ho⟩ := hrel
    have Ho := hid ho
    have HNum := hid hNum
    clear ho hNum
    by_cases hlt : k < N
    · obtain ⟨s, hsl, hfs, he1, he2⟩ := wantedIds_get (l := l) (f := f) (k := k) (by rw [HN.out]; exact hlt)
      obtain ⟨b, o', ea, hc⟩ := Hints.out k (by rw [HN.out]; exact hlt)
      cases ea
      have hbb : b ≠ mb := by
        rintro rfl
        rcases Hrow.out.2 with ⟨h0, _⟩ | ⟨g, cap', cur, h0, hg, _⟩
        · cases h0
        · cases h0
          omega
      have hc2 := (World.cell?_of_block (a := ⟨b, o' + k, none⟩) (Ho.out.block b (World.block_lt_of_cell? _ _ hc) hbb)).trans hc
      rw [he1] at hc2
      have Hs : Hid ((wantedIds l f).take (k + 1) = (wantedIds l f).take k ++ [s.id]) := take_snoc_get (by rw [← he1]; simp [HN.out, hlt])
      have c1 := HNum.out.c1
      obtain ⟨D, hown, hh, ha⟩ := HNum.out.map
      have Hh := hid hh
      have Ha := hid ha
      have hkey : keyOf Tryz.prog 3 (.int .i64 s.id) = some (zk s.id) := zkey (by have := Hid1.out s hsl; omega) (by have := Hid1.out s hsl; omega)
      clear he1 he2 hc hh ha
      go_wp2_with (first
        | (at_delete; refine wpList_delete_own _ rfl _ _ 46 3 rfl 35 intKeyed Tryz.underlying46 _ mb n D rfl hown _ _ rfl hkey ?_; intro w3 hown3 hturn3)
        | go_in)
      go_roundw
      case rel =>
        have ho3 : Out (fun k => k = mb) wr w3 := Out.of_grown hturn3.grown rfl
        refine ⟨k + 1, by omega, by go_num, ?_, Ho.out.trans ho3 (fun _ _ e => e)⟩
        rw [Hs.out]
        have hp3 := ho3.block p HNum.out.lts.1 hpne
        exact ⟨(World.cell?_of_block (a := ⟨p, o, none⟩) hp3).trans HNum.out.c0, (World.cell?_of_block (a := ⟨p, o + 1, none⟩) hp3).trans HNum.out.c1, fun j => (World.frozen?_of_block (a := ⟨p, j, none⟩) hp3).trans (HNum.out.z j), NMap.del Hh.out Ha.out hown3 (fun t => without_snoc _ _ _ _)⟩
      case measure => simp [intOf]; omega
    · have e : k = N := by omega
      subst e
      go_wp2
      go_ret
      have h3 := HNum.out
      rw [show (wantedIds l f).take k = wantedIds l f from List.take_of_length_le (by have := HN.out; omega), without_wanted H1.out] at h3
      refine ⟨_, rfl, ?_, h3, (Out.of_below Hb2.out).trans Ho.out (fun _ _ e => e)⟩
      have h4 := Hrow.out.kept (grown_of_out Ho.out) (.inr (Ne.symm (row_ne_low Hrow.out hmlt)))
      exact h4
set_option maxHeartbeats 800000 in
theorem newNum_any (x : Int) (w : World) : Calls Tryz.prog 14 #[.int .i64 x] w fun e w' => ∃ mb, e = .returned (.agg #[.int .i64 x, .map (some mb)]) ∧ SMap w' mb 0 [] ∧ w.heap.size ≤ mb ∧ Below w.heap.size w w' := by
  have hmk := fun W => run_makeMap (P := Tryz.prog) 46 W
  have hm := NMap_made (P := Tryz.prog) (k := 3) (R := sessR) (num := Sess.id) (w.alloc (.cells #[.int .i64 x, .map (some (w.heap.size + 1))] 48))
  have hm' : SMap ((w.alloc (.cells #[.int .i64 x, .map (some (w.heap.size + 1))] 48)).alloc (.map #[] 0)) (w.heap.size + 1) 0 [] := by
    have e : (w.alloc (.cells #[.int .i64 x, .map (some (w.heap.size + 1))] 48)).heap.size = w.heap.size + 1 := by simp
    rw [e] at hm
    exact hm
  clear hm
  go_enter Tryz.func14, Tryz.ntmps14
  go_wp2
  exact bodyPost_ret (v := .agg #[.int .i64 x, .map (some (w.heap.size + 1))]) (by simp [results, Tryz.results14, go_sem]) rfl ⟨w.heap.size + 1, rfl, hm', by omega, ((Below.refl _ w).alloc (Nat.le_refl _) _).alloc (by simp) _⟩

end Go.Proofs.YtmnhhomkglffcaaGreatDoor.Fam
