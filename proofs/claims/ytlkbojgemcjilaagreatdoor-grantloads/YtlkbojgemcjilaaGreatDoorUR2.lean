/- Grants: the reference's Clients, in the order of names. (Printed by gen/ur2.py.) -/
import Derived.Test.YtlkbojgemcjilaaGreatDoorUR1
import Derived.Test.YtlkbojgemcjilaaGreatDoorJXm
import Derived.Laws.AppendOwnNone
namespace Go.Proofs.YtlkbojgemcjilaaGreatDoor
open Go.RowKit Go.Maps Go.Shelf Go.Sort Go.Lib
set_option linter.unusedVariables false
set_option maxRecDepth 20000
theorem take_getU {α : Type} {l : List α} {k : Nat} {x : α} (h : l[k]? = some x) : l.take (k + 1) = l.take k ++ [x] := by
  obtain ⟨hk, rfl⟩ := List.getElem?_eq_some_iff.1 h
  exact List.take_succ_eq_append_getElem hk
theorem triU (a b : ByteArray) : (Op.bytesLess a.toList b.toList = true ∧ True) ∨ (Op.bytesLess a.toList b.toList = false ∧ (a.toList == b.toList) = true) ∨ (Op.bytesLess a.toList b.toList = false ∧ (a.toList == b.toList) = false ∧ b.toList < a.toList) := by
  rw [bytesLess_eq]
  by_cases h1 : a.toList < b.toList
  · exact .inl ⟨decide_eq_true h1, trivial⟩
  · by_cases h2 : a.toList = b.toList
    · exact .inr (.inl ⟨decide_eq_false h1, by simpa using h2⟩)
    · refine .inr (.inr ⟨decide_eq_false h1, by simpa using h2, ?_⟩)
      by_cases h4 : b.toList < a.toList
      · exact h4
      · exact absurd (Xr.key_tot h1 h4) h2

theorem clCells_app (a b : List Cl) : clCells (a ++ b) = clCells a ++ clCells b := by simp [clCells]
theorem clCells_len : ∀ l : List Cl, (clCells l).length = l.length * 4
  | [] => rfl
  | x :: l => by
    have := clCells_len l
    have e : clCells (x :: l) = [.string x.t, .string x.n, .string x.r, .int .u8 (x.sc : Int)] ++ clCells l := rfl
    rw [e, List.length_append, this, List.length_cons]
    simp
    omega
theorem clCells_oneU (l : List Cl) : ∀ u ∈ clCells l, u.oneCell' = true := by
  intro u hu
  obtain ⟨x, _, h⟩ := List.mem_flatMap.1 hu
  simp only [clL, List.mem_cons, List.not_mem_nil, or_false] at h
  rcases h with rfl | rfl | rfl | rfl <;> rfl
theorem clCells_take (l : List Cl) (p : Nat) (hp : p ≤ l.length) : clCells (l.take p) = (clCells l).take (p * 4) := by
  have e : clCells l = clCells (l.take p) ++ clCells (l.drop p) := by rw [← clCells_app, List.take_append_drop]
  have hl : (clCells (l.take p)).length = p * 4 := by rw [clCells_len, List.length_take]; omega
  rw [show (clCells l).take (p * 4) = (clCells (l.take p) ++ clCells (l.drop p)).take (p * 4) by rw [← e]]
  exact (List.take_left' hl).symm
theorem clCells_drop (l : List Cl) (p : Nat) (hp : p ≤ l.length) : clCells (l.drop p) = (clCells l).drop (p * 4) := by
  have e : clCells l = clCells (l.take p) ++ clCells (l.drop p) := by rw [← clCells_app, List.take_append_drop]
  have hl : (clCells (l.take p)).length = p * 4 := by rw [clCells_len, List.length_take]; omega
  rw [show (clCells l).drop (p * 4) = (clCells (l.take p) ++ clCells (l.drop p)).drop (p * 4) by rw [← e]]
  exact (List.drop_left' hl).symm
/-- elements that lie where a value says -/
def SrcCl (w : World) (sv : Value) (l : List Cl) : Prop := (sv = .slice none 0 0 ∧ l = []) ∨ ∃ b o c, sv = .slice (some ⟨b, o, none⟩) l.length c ∧ ∀ j u, (clCells l)[j]? = some u → w.cell? ⟨b, o + j, none⟩ = some u
theorem app_clS {w : World} {ops : Array Oper} {rest : List Oper} {o : Oper} {a : Act} {Q : Exit → Act → World → Prop} (hgd : o.guard = none) (sl x : Operand)
    (ho : o.op = .call { callee := .builtin .append, args := #[sl, x], argTypes := #[50, 50] }) (base : Nat) (v : Value) (l : List Cl) (hs : a.eval sl = v) (hown : w.ownsRow base 56 4 v l.length (clCells l))
    (v2 : Value) (l2 : List Cl) (hx : a.eval x = v2) (hsrc : SrcCl w v2 l2) (hb : l.length + l2.length ≤ 2000000000000) (hbase : base ≤ w.heap.size)
    (h : ∀ v' w', w'.ownsRow base 56 4 v' (l ++ l2).length (clCells (l ++ l2)) → w.grownBy w' v.ownBlock → wpList Tryz.prog ops Q rest (a.put o.dst v') w') :
    wpList Tryz.prog ops Q (o :: rest) a w := by
  obtain ⟨i0, hi, hz0, hz1, hz2⟩ := info_parts clInfo
  rcases hsrc with ⟨rfl, rfl⟩ | ⟨b, off, c, rfl, hc⟩
  · refine wpList_append_own_none hgd sl x 50 ho base 56 i0 4 Tryz.underlying50 hi v l.length (clCells l) hs hown hx (h _ _ ?_ ⟨rfl, rfl, rfl, Nat.le_refl _, fun _ _ _ => rfl⟩)
    rw [List.append_nil]
    exact hown
  · refine wpList_append_own w hgd sl x 50 ho base 56 i0 (.agg #[.string ⟨#[]⟩, .string ⟨#[]⟩, .string ⟨#[]⟩, .int .u8 0]) 4 56 Tryz.underlying50 hi hz0 hz1 hz2 rfl (by decide) v l.length (clCells l) hs hown ⟨b, off, none⟩ l2.length c (clCells l2) hx (clCells_len l2) (fun j u hj => ?_) (clCells_oneU l2) (by unfold maxLen; omega) (by omega) hbase ?_
    · rw [show (⟨b, off, none⟩ : Addr).add j = ⟨b, off + j, none⟩ by unfold Addr.add; split <;> simp_all]
      exact hc j u hj
    · intro v' w' h1 h2 h3
      refine h v' w' ?_ h2
      rw [clCells_app, List.length_append]
      exact h1
theorem app_clL {W : World} {ops : Array Oper} {rest : List Oper} {o : Oper} {a : Act} {Q : Exit → Act → World → Prop} (hgd : o.guard = none) (sl x : Operand)
    (ho : o.op = .call { callee := .builtin .append, args := #[sl, x], argTypes := #[50, 50] }) (w : World) (y : Cl) (hW : W = w.alloc (.cells #[.string y.t, .string y.n, .string y.r, .int .u8 (y.sc : Int)] 56)) (base : Nat) (v : Value) (l : List Cl) (hs : a.eval sl = v)
    (hown : w.ownsRow base 56 4 v l.length (clCells l)) (hx : a.eval x = .slice (some ⟨w.heap.size, 0, none⟩) 1 1) (hb : l.length ≤ 2000000000000) (hbase : base ≤ w.heap.size)
    (h : ∀ v' w', w'.ownsRow base 56 4 v' (l ++ [y]).length (clCells (l ++ [y])) → w.grownBy w' v.ownBlock → wpList Tryz.prog ops Q rest (a.put o.dst v') w') :
    wpList Tryz.prog ops Q (o :: rest) a W := by
  subst hW
  obtain ⟨i0, hi, hz0, hz1, hz2⟩ := info_parts clInfo
  refine wpList_append_own _ hgd sl x 50 ho base 56 i0 (.agg #[.string ⟨#[]⟩, .string ⟨#[]⟩, .string ⟨#[]⟩, .int .u8 0]) 4 56 Tryz.underlying50 hi hz0 hz1 hz2 rfl (by decide) v l.length (clCells l) hs (hown.alloc _) ⟨w.heap.size, 0, none⟩ 1 1 [.string y.t, .string y.n, .string y.r, .int .u8 (y.sc : Int)] hx rfl (World.news_of_block (cs := #[.string y.t, .string y.n, .string y.r, .int .u8 (y.sc : Int)]) (t := 56) (fr := (0, 0)) (MapKept.heap_alloc w _).1) (by simp [Value.oneCell']) (by unfold maxLen; omega) (by omega) (by simp; omega) ?_
  intro v' w' h1 h2 h3
  refine h v' w' ?_ ((World.grownBy_alloc w _ _).trans h2)
  rw [clCells_app, List.length_append]
  exact h1
theorem srcCl_cells {w : World} {B g n c : Nat} {S : List Cl} (h : w.ownsRow B 56 4 (.slice (some ⟨g, 0, none⟩) n c) S.length (clCells S)) : ∀ j u, (clCells S)[j]? = some u → w.cell? ⟨g, j, none⟩ = some u := fun j u hj => by
  have hjl : j < (clCells S).length := (List.getElem?_eq_some_iff.1 hj).1
  rw [clCells_len] at hjl
  rcases h.2 with ⟨e, _⟩ | ⟨g2, cap, cur, e, hb, hg, _⟩
  · cases e
  · injection e with e1 e2 e3
    subst e2
    have := World.ownsRow.cellAt h j hjl
    rw [← hj]
    exact this
theorem srcCl_take {w : World} {B g n c p : Nat} {S : List Cl} (h : w.ownsRow B 56 4 (.slice (some ⟨g, 0, none⟩) n c) S.length (clCells S)) (hp : p ≤ S.length) : SrcCl w (.slice (some ⟨g, 0, none⟩) p c) (S.take p) := by
  refine .inr ⟨g, 0, c, by rw [List.length_take]; congr 1; omega, fun j u hj => ?_⟩
  rw [Nat.zero_add]
  refine srcCl_cells h j u ?_
  rw [clCells_take _ _ hp] at hj
  rw [List.getElem?_take] at hj
  split at hj
  · exact hj
  · cases hj
theorem srcCl_drop {w : World} {B g n c p o m c' : Nat} {S : List Cl} (h : w.ownsRow B 56 4 (.slice (some ⟨g, 0, none⟩) n c) S.length (clCells S)) (hp : p ≤ S.length) (hm : m = S.length - p) (ho : p < S.length → o = p * 4) : SrcCl w (.slice (some ⟨g, o, none⟩) m c') (S.drop p) := by
  refine .inr ⟨g, o, c', by rw [List.length_drop, hm], fun j u hj => ?_⟩
  rw [clCells_drop _ _ hp, List.getElem?_drop] at hj
  have hjl := (List.getElem?_eq_some_iff.1 hj).1
  rw [clCells_len] at hjl
  rw [ho (by omega)]
  exact srcCl_cells h _ u hj
def keyCl (x : Cl) : List UInt8 := x.n.toList
def GtCl (S : List Cl) (x : Cl) (p : Nat) : Prop := ∀ y ∈ S.drop p, keyCl x < keyCl y
/-- what has come, in order -/
def RCl (V : World) (l : List Cl) (v : Value) (w : World) : Prop := ∃ S : List Cl, w.ownsRow V.heap.size 56 4 v S.length (clCells S) ∧ S.Perm l ∧ Xr.InOrder keyCl S ∧ Below V.heap.size V w ∧ (S.length = 0 → v = .slice none 0 0)
def SortCl (V : World) (l : List Cl) (e : Ending) (w' : World) : Prop := ∃ v S, e = .returned v ∧ w'.ownsRow V.heap.size 56 4 v S.length (clCells S) ∧ S.Perm l ∧ Xr.InOrder keyCl S ∧ Below V.heap.size V w'
/-- the source's k-th, in a world behind -/
def AtCl (g : Nat) (cv : Value) (b k : Nat) (x : Cl) (X : World) : Prop := X.cell? ⟨g, 0, none⟩ = some cv ∧ X.cell? ⟨b, k * 4, none⟩ = some (.string x.t) ∧ X.cell? ⟨b, k * 4 + 1, none⟩ = some (.string x.n) ∧ X.cell? ⟨b, k * 4 + 2, none⟩ = some (.string x.r) ∧ X.cell? ⟨b, k * 4 + 3, none⟩ = some (.int .u8 (x.sc : Int))
set_option maxHeartbeats 16000000 in
theorem rClients_any {w : World} {B g : Nat} {s : GS} (h : RG w B g s) (hl : s.cs.length ≤ 1000000000000) (t : ByteArray) :
    Calls Tryz.prog 38 #[.pointer (some ⟨g, 0, none⟩), .string t] w fun e w' => ∃ v S, e = .returned v ∧ S.Perm (s.cs.filter (inT t)) ∧ Xr.InOrder keyCl S ∧ w'.ownsRow w.heap.size 56 4 v S.length (clCells S) ∧ Below w.heap.size w w' := by
  obtain ⟨V, hV⟩ : ∃ V, V = w := ⟨_, rfl⟩
  rw [← hV] at h ⊢
  have B0 : Hid (Below V.heap.size V V) := Below.refl _ _
  clear hV
  obtain ⟨cv, av, h⟩ := h
  obtain ⟨a0, cap0, ecv, _⟩ := clAt h.cs
  obtain ⟨N, hN⟩ : ∃ N, N = s.cs.length := ⟨_, rfl⟩
  rw [← hN] at ecv hl
  have HN := hid hN
  have HO := hid h
  have Hc := hid (fun (X : World) (hX : Below V.heap.size V X) => (show X.cell? ⟨g, 0, none⟩ = some (.slice a0 N cap0) from by rw [← ecv]; exact (h.below hX).c0))
  have HRow := hid (fun (k : Nat) (hk : k < s.cs.length) => (show ∃ b, a0 = some ⟨b, 0, none⟩ ∧ ∀ (X : World) (hX : Below V.heap.size V X), AtCl g (.slice (some ⟨b, 0, none⟩) N cap0) b k s.cs[k] X from by
    obtain ⟨a9, c9, e9, h9⟩ := clAt h.cs
    obtain ⟨b, eb, _⟩ := h9 k hk
    rw [ecv] at e9
    injection e9 with e1 e2 e3
    subst e1
    refine ⟨b, eb, fun X hX => ?_⟩
    obtain ⟨a8, c8, e8, h8⟩ := clAt (h.below hX).cs
    rw [ecv] at e8
    injection e8 with f1 f2 f3
    subst f1
    obtain ⟨b8, eb8, q0, q1, q2, q3⟩ := h8 k hk
    rw [eb] at eb8
    have : b = b8 := by simpa using eb8
    subst this
    refine ⟨?_, q0, q1, q2, q3⟩
    rw [← eb, ← ecv]
    exact (h.below hX).c0))
  clear h ecv hN
  go_enter Tryz.func38, Tryz.ntmps38
  go_wp2
  go_loopw [5, 6] (fun v i wr => ∃ k : Nat, k ≤ N ∧ i = .int .i64 (k : Int) ∧ RCl V ((s.cs.take k).filter (inT t)) v wr) (fun _ i _ => N - (intOf i).toNat)
  case atStart => exact ⟨0, Nat.zero_le _, rfl, [], World.ownsRow_nil _ _ _ _, List.Perm.refl _, List.Pairwise.nil, Below.refl _ _, fun _ => rfl⟩
  case round =>
    obtain ⟨k, hk, rfl, S, ho, hpm, hor, hb, hz0⟩ := hrel
    have HOk := hid ho
    have HB := hid hb
    have Hpm := hid hpm
    have Hor := hid hor
    have Hc0 := Hc.out wr hb
    have HSb : Hid (S.length ≤ 1000000000000) := by
      show S.length ≤ _
      rw [hpm.length_eq]
      refine Nat.le_trans (List.length_filter_le _ _) (Nat.le_trans (List.length_take_le _ _) ?_)
      omega
    by_cases hlt : k < N
    · have g1 : (k : Int) < (N : Int) := by omega
      have g1' : decide ((k : Int) < (N : Int)) = true := by simp; omega
      have g0 : (0 : Int) ≤ (k : Int) := by omega
      have hkr : k < s.cs.length := by have := HN.out; omega
      obtain ⟨x, hxk⟩ : ∃ x, s.cs[k]? = some x := ⟨_, List.getElem?_eq_getElem hkr⟩
      have Htk := hid (take_getU hxk)
      obtain ⟨b, rfl, hat⟩ := HRow.out k hkr
      obtain ⟨_, hxe⟩ := List.getElem?_eq_some_iff.1 hxk
      rw [hxe] at hat
      have Hat := hid hat
      have Hlt := hid hlt
      clear hxk hkr hat hxe hlt hk
      obtain ⟨x1, x2, x3, x4⟩ := x
      obtain ⟨w3, hw3⟩ : ∃ w3, w3 = wr := ⟨_, rfl⟩
      rw [← hw3] at HOk HB Hc0 ⊢
      clear hw3 ho hpm hor
      obtain ⟨a00, a01, a02, a03, a04⟩ := Hat.out w3 HB.out
      simp only at a01 a02 a03 a04
      cases q0 : (x1.toList == t.toList)
      · have hf : Hid (inT t ⟨x1, x2, x3, x4⟩ = false) := by
          show decide (x1 = t) = false
          rw [← eqU]; exact q0
        clear hb
        go_wp2
        go_roundw
        case rel => exact ⟨k + 1, by have := Hlt.out; omega, by go_num, S, HOk.out, by rw [Htk.out, List.filter_append, List.filter_cons_of_neg (by rw [hf.out]; simp), List.filter_nil, List.append_nil]; exact Hpm.out, Hor.out, HB.out, by assumption⟩
        case measure => exact measU _ _ _ Hlt.out rfl
      · have hf : Hid (inT t ⟨x1, x2, x3, x4⟩ = true) := by
          show decide (x1 = t) = true
          rw [← eqU]; exact q0
        obtain ⟨m, hm⟩ : ∃ m, m = S.length := ⟨_, rfl⟩
        have Hm := hid hm
        have hmb : m ≤ 1000000000000 := by have := HSb.out; omega
        by_cases hkz : m = 0
        · have hv0 := hz0 (by omega)
          subst hv0
          subst hkz
          have hS0 : S = [] := List.eq_nil_of_length_eq_zero (by omega)
          have HS0 := hid hS0
          have HPS : Hid (0 ≤ S.length) := Nat.zero_le _
          have Hgt : Hid (∀ y ∈ S.drop 0, keyCl (⟨x1, x2, x3, x4⟩ : Cl) < keyCl y) := fun y hy => by rw [HS0.out] at hy; cases hy
          have HLe : Hid (∀ (h : 0 < 0), ¬ keyCl (⟨x1, x2, x3, x4⟩ : Cl) < keyCl (S[0 - 1]'(by omega))) := fun h => absurd h (by omega)
          clear hz0 hS0 hb hm
          go_wp2
          go_loopw [7] (fun i wr => i = .int .i64 (0 : Nat) ∧ Below w3.heap.size w3 wr) (fun _ _ => 0)
          case atStart => exact ⟨rfl, Below.refl _ _⟩
          case round =>
            obtain ⟨rfl, hb4⟩ := hrel
            have C4 := hid (fun (q : Nat) => Below.on' hb4 (below_dN wr.heap.size wr q))
            obtain ⟨k40, k41, k42, k43, k44⟩ := Hat.out wr (HB.out.trans (hb4.mono HB.out.size))
            simp only at k41 k42 k43 k44
            clear hb4
            go_wp2
            go_quiet (fail)
            go_wp2_with (first
              | (at_builtin; refine app_clS rfl (.tmp 70) (.tmp 73) rfl w3.heap.size v7 _ rfl O7.out _ (S.drop 0) rfl (.inl ⟨rfl, by rw [HS0.out]; rfl⟩) (by rw [List.length_append, List.length_take, List.length_drop, List.length_singleton]; have := HSb.out; omega) C7.out.size ?_; intro v9 w9 ho9 hg9; have C9 := hid (C7.out.trans ((Below.refl _ _).grown hg9 C7.out.size (fun q hq => (O7.out.lt q hq).1))); have O9 := hid ho9; clear ho9 hg9)
              | (at_builtin; refine app_clL rfl (.tmp 60) (.tmp 68) rfl w5 ⟨x1, x2, x3, x4⟩ rfl w3.heap.size v5 (S.take 0) rfl O5.out rfl (by rw [List.length_take]; have := HSb.out; omega) C5.out.size ?_; intro v7 w7 ho7 hg7; have C7 := hid (C5.out.trans ((Below.refl _ _).grown hg7 C5.out.size (fun q hq => (O5.out.lt q hq).1))); have O7 := hid ho7; have S7 := hid (own_onU HOk.out C7.out); clear ho7 hg7)
              | (at_builtin; refine app_clS rfl (.tmp 55) (.tmp 58) rfl w3.heap.size (.slice none 0 0) [] rfl (World.ownsRow_nil _ _ _ _) _ (S.take 0) rfl (.inl ⟨rfl, rfl⟩) (by rw [List.length_nil, List.length_take]; have := HSb.out; omega) (C4.out _).size ?_; intro v5 w5 ho5 hg5; have C5 := hid ((C4.out _).trans ((Below.refl _ _).grown hg5 (C4.out _).size (fun q hq => by cases hq))); have O5 : Hid (w5.ownsRow w3.heap.size 56 4 v5 (S.take 0).length (clCells (S.take 0))) := ho5; obtain ⟨k50, k51, k52, k53, k54⟩ := Hat.out w5 (HB.out.trans (C5.out.mono HB.out.size)); simp only at k51 k52 k53 k54; clear ho5 hg5))
            go_roundw
            case rel => exact ⟨k + 1, by have := Hlt.out; omega, by go_num, S.take 0 ++ (⟨x1, x2, x3, x4⟩ : Cl) :: S.drop 0, by have := own_baseU O9.out HB.out.size; simpa using this, by rw [Htk.out, List.filter_append, List.filter_cons_of_pos (by rw [hf.out]), List.filter_nil]; exact (Xr.ins_perm S _ 0).trans (List.Perm.append_right _ Hpm.out), Xr.ins_order keyCl Hor.out _ 0 HPS.out Hgt.out HLe.out, HB.out.trans (C9.out.mono HB.out.size), fun h => by simp at h⟩
            case measure => exact measU _ _ _ Hlt.out rfl
        · have hmp : 0 < m := by omega
          obtain ⟨g', c3, e3, hkc⟩ : ∃ g' c3, u5 = .slice (some ⟨g', 0, none⟩) S.length c3 ∧ S.length ≤ c3 := by
            rcases HOk.out.2 with ⟨_, hz⟩ | ⟨g', c3, cur, e, _, _, hc, _⟩
            · omega
            · exact ⟨g', c3, e, hc⟩
          rw [← hm] at e3 hkc
          subst e3
          clear hz0 hkz hb hm
          have gkc : (m : Int) ≤ (c3 : Int) := by omega
          go_wp2
          go_loopw [7] (fun i wr => ∃ p : Nat, p ≤ m ∧ i = .int .i64 (p : Int) ∧ GtCl S (⟨x1, x2, x3, x4⟩ : Cl) p ∧ Below w3.heap.size w3 wr) (fun i _ => (intOf i).toNat)
          case atStart => exact ⟨m, Nat.le_refl _, rfl, (fun y hy => by rw [List.drop_of_length_le (by have := Hm.out; omega)] at hy; cases hy), Below.refl _ _⟩
          case round =>
            obtain ⟨p, hp, rfl, hgt, hb4⟩ := hrel
            have Hgt := hid hgt
            have C4 := hid (fun (q : Nat) => Below.on' hb4 (below_dN wr.heap.size wr q))
            have SW := hid (fun (q : Nat) => own_onU HOk.out (Below.on' hb4 (below_dN wr.heap.size wr q)))
            obtain ⟨k40, k41, k42, k43, k44⟩ := Hat.out wr (HB.out.trans (hb4.mono HB.out.size))
            simp only at k41 k42 k43 k44
            have gpc : (p : Int) ≤ (c3 : Int) := by omega
            have gpk : (p : Int) ≤ (m : Int) := by omega
            have Hp := hid hp
            have HPS : Hid (p ≤ S.length) := by
              show p ≤ S.length
              have := Hm.out
              omega
            by_cases hp0 : p = 0
            · subst hp0
              have HLe : Hid (∀ (h : 0 < 0), ¬ keyCl (⟨x1, x2, x3, x4⟩ : Cl) < keyCl (S[0 - 1]'(by omega))) := fun h => absurd h (by omega)
              have hc0 : ¬ c3 = 0 := by omega
              clear hb4 hgt
              go_wp2
              go_quiet (fail)
              go_wp2_with (first
                | (at_builtin; refine app_clS rfl (.tmp 70) (.tmp 73) rfl w3.heap.size v7 _ rfl O7.out _ (S.drop 0) rfl (srcCl_drop S7.out HPS.out (by have := Hm.out; omega) (fun _ => rfl)) (by rw [List.length_append, List.length_take, List.length_drop, List.length_singleton]; have := HSb.out; omega) C7.out.size ?_; intro v9 w9 ho9 hg9; have C9 := hid (C7.out.trans ((Below.refl _ _).grown hg9 C7.out.size (fun q hq => (O7.out.lt q hq).1))); have O9 := hid ho9; clear ho9 hg9)
                | (at_builtin; refine app_clL rfl (.tmp 60) (.tmp 68) rfl w5 ⟨x1, x2, x3, x4⟩ rfl w3.heap.size v5 (S.take 0) rfl O5.out rfl (by rw [List.length_take]; have := HSb.out; omega) C5.out.size ?_; intro v7 w7 ho7 hg7; have C7 := hid (C5.out.trans ((Below.refl _ _).grown hg7 C5.out.size (fun q hq => (O5.out.lt q hq).1))); have O7 := hid ho7; have S7 := hid (own_onU HOk.out C7.out); clear ho7 hg7)
                | (at_builtin; refine app_clS rfl (.tmp 55) (.tmp 58) rfl w3.heap.size (.slice none 0 0) [] rfl (World.ownsRow_nil _ _ _ _) _ (S.take 0) rfl (srcCl_take (SW.out _) HPS.out) (by rw [List.length_nil, List.length_take]; have := HSb.out; omega) (C4.out _).size ?_; intro v5 w5 ho5 hg5; have C5 := hid ((C4.out _).trans ((Below.refl _ _).grown hg5 (C4.out _).size (fun q hq => by cases hq))); have O5 : Hid (w5.ownsRow w3.heap.size 56 4 v5 (S.take 0).length (clCells (S.take 0))) := ho5; obtain ⟨k50, k51, k52, k53, k54⟩ := Hat.out w5 (HB.out.trans (C5.out.mono HB.out.size)); simp only at k51 k52 k53 k54; clear ho5 hg5))
              go_roundw
              case rel => exact ⟨k + 1, by have := Hlt.out; omega, by go_num, S.take 0 ++ (⟨x1, x2, x3, x4⟩ : Cl) :: S.drop 0, by have := own_baseU O9.out HB.out.size; simpa using this, by rw [Htk.out, List.filter_append, List.filter_cons_of_pos (by rw [hf.out]), List.filter_nil]; exact (Xr.ins_perm S _ 0).trans (List.Perm.append_right _ Hpm.out), Xr.ins_order keyCl Hor.out _ 0 HPS.out Hgt.out HLe.out, HB.out.trans (C9.out.mono HB.out.size), fun h => by simp at h⟩
              case measure => exact measU _ _ _ Hlt.out rfl
            · skip
              have hp0' : 0 < p := by omega
              obtain ⟨y, hy⟩ : ∃ y, S[p - 1]? = some y := ⟨_, List.getElem?_eq_getElem (by have := Hm.out; omega)⟩
              obtain ⟨hyl, hye⟩ := List.getElem?_eq_some_iff.1 hy
              obtain ⟨aq, capq, ev2, hq⟩ := clAt (own_onU HOk.out hb4)
              obtain ⟨gq, eq1, l0, l1, l2, l3⟩ := hq (p - 1) hyl
              rw [eq1] at ev2
              injection ev2 with z1 z2 z3
              have z4 : g' = gq := by simpa using z1
              subst z4
              rw [hye] at l0 l1 l2 l3
              have gp1 : (0 : Int) ≤ (p : Int) - 1 := by omega
              have gp2 : (p : Int) - 1 < (m : Int) := by omega
              have gpd : decide (0 < p) = true := by simp; omega
              have gpd' : decide ((0 : Int) < (p : Int)) = true := by simp; omega
              have gw : IntKind.i64.wrap ((p : Int) - 1) = (p : Int) - 1 := by rw [IntKind.wrap_i64]; omega
              have gt : ((p : Int) - 1).toNat = p - 1 := by omega
              have Hye := hid hye
              have hdr : S.drop (p - 1) = y :: S.drop p := by
                rw [List.drop_eq_getElem_cons hyl, hye]
                congr 2
                omega
              have Hdr := hid hdr
              have Hyl := hid hyl
              obtain ⟨y1, y2, y3, y4⟩ := y
              dsimp only at l0 l1 l2 l3
              clear hb4 hgt z1 z2 z3 hdr hy hye eq1 hq l3
              rcases triU y2 x2 with ⟨t1, t2⟩ | ⟨t1, t2⟩ | ⟨t1, t2, t3⟩
              · skip
                have HLe : Hid (∀ (h : 0 < p), ¬ keyCl (⟨x1, x2, x3, x4⟩ : Cl) < keyCl (S[p - 1]'Hyl.out)) := fun h => by
                  rw [Hye.out]
                  exact fun h9 => absurd (of_decide_eq_true (by rw [← bytesLess_eq]; exact t1)) (List.lt_asymm h9)
                by_cases hck : c3 = p
                · have hpk : p = m := by omega
                  subst hck
                  have Hpk := hid hpk
                  clear hpk
                  go_wp2
                  go_quiet (fail)
                  go_wp2_with (first
                    | (at_builtin; refine app_clS rfl (.tmp 70) (.tmp 73) rfl w3.heap.size v7 _ rfl O7.out _ (S.drop c3) rfl (srcCl_drop S7.out HPS.out (by have := Hm.out; omega) (fun h => by have := Hm.out; have := Hpk.out; omega)) (by rw [List.length_append, List.length_take, List.length_drop, List.length_singleton]; have := HSb.out; omega) C7.out.size ?_; intro v9 w9 ho9 hg9; have C9 := hid (C7.out.trans ((Below.refl _ _).grown hg9 C7.out.size (fun q hq => (O7.out.lt q hq).1))); have O9 := hid ho9; clear ho9 hg9)
                    | (at_builtin; refine app_clL rfl (.tmp 60) (.tmp 68) rfl w5 ⟨x1, x2, x3, x4⟩ rfl w3.heap.size v5 (S.take c3) rfl O5.out rfl (by rw [List.length_take]; have := HSb.out; omega) C5.out.size ?_; intro v7 w7 ho7 hg7; have C7 := hid (C5.out.trans ((Below.refl _ _).grown hg7 C5.out.size (fun q hq => (O5.out.lt q hq).1))); have O7 := hid ho7; have S7 := hid (own_onU HOk.out C7.out); clear ho7 hg7)
                    | (at_builtin; refine app_clS rfl (.tmp 55) (.tmp 58) rfl w3.heap.size (.slice none 0 0) [] rfl (World.ownsRow_nil _ _ _ _) _ (S.take c3) rfl (srcCl_take (SW.out _) HPS.out) (by rw [List.length_nil, List.length_take]; have := HSb.out; omega) (C4.out _).size ?_; intro v5 w5 ho5 hg5; have C5 := hid ((C4.out _).trans ((Below.refl _ _).grown hg5 (C4.out _).size (fun q hq => by cases hq))); have O5 : Hid (w5.ownsRow w3.heap.size 56 4 v5 (S.take c3).length (clCells (S.take c3))) := ho5; obtain ⟨k50, k51, k52, k53, k54⟩ := Hat.out w5 (HB.out.trans (C5.out.mono HB.out.size)); simp only at k51 k52 k53 k54; clear ho5 hg5))
                  go_roundw
                  case rel => exact ⟨k + 1, by have := Hlt.out; omega, by go_num, S.take c3 ++ (⟨x1, x2, x3, x4⟩ : Cl) :: S.drop c3, by have := own_baseU O9.out HB.out.size; simpa using this, by rw [Htk.out, List.filter_append, List.filter_cons_of_pos (by rw [hf.out]), List.filter_nil]; exact (Xr.ins_perm S _ c3).trans (List.Perm.append_right _ Hpm.out), Xr.ins_order keyCl Hor.out _ c3 HPS.out Hgt.out HLe.out, HB.out.trans (C9.out.mono HB.out.size), fun h => by simp at h⟩
                  case measure => exact measU _ _ _ Hlt.out rfl
                · have hck2 : ¬ p = c3 := fun e => hck e.symm
                  go_wp2
                  go_quiet (fail)
                  go_wp2_with (first
                    | (at_builtin; refine app_clS rfl (.tmp 70) (.tmp 73) rfl w3.heap.size v7 _ rfl O7.out _ (S.drop p) rfl (srcCl_drop S7.out HPS.out (by have := Hm.out; omega) (fun _ => rfl)) (by rw [List.length_append, List.length_take, List.length_drop, List.length_singleton]; have := HSb.out; omega) C7.out.size ?_; intro v9 w9 ho9 hg9; have C9 := hid (C7.out.trans ((Below.refl _ _).grown hg9 C7.out.size (fun q hq => (O7.out.lt q hq).1))); have O9 := hid ho9; clear ho9 hg9)
                    | (at_builtin; refine app_clL rfl (.tmp 60) (.tmp 68) rfl w5 ⟨x1, x2, x3, x4⟩ rfl w3.heap.size v5 (S.take p) rfl O5.out rfl (by rw [List.length_take]; have := HSb.out; omega) C5.out.size ?_; intro v7 w7 ho7 hg7; have C7 := hid (C5.out.trans ((Below.refl _ _).grown hg7 C5.out.size (fun q hq => (O5.out.lt q hq).1))); have O7 := hid ho7; have S7 := hid (own_onU HOk.out C7.out); clear ho7 hg7)
                    | (at_builtin; refine app_clS rfl (.tmp 55) (.tmp 58) rfl w3.heap.size (.slice none 0 0) [] rfl (World.ownsRow_nil _ _ _ _) _ (S.take p) rfl (srcCl_take (SW.out _) HPS.out) (by rw [List.length_nil, List.length_take]; have := HSb.out; omega) (C4.out _).size ?_; intro v5 w5 ho5 hg5; have C5 := hid ((C4.out _).trans ((Below.refl _ _).grown hg5 (C4.out _).size (fun q hq => by cases hq))); have O5 : Hid (w5.ownsRow w3.heap.size 56 4 v5 (S.take p).length (clCells (S.take p))) := ho5; obtain ⟨k50, k51, k52, k53, k54⟩ := Hat.out w5 (HB.out.trans (C5.out.mono HB.out.size)); simp only at k51 k52 k53 k54; clear ho5 hg5))
                  go_roundw
                  case rel => exact ⟨k + 1, by have := Hlt.out; omega, by go_num, S.take p ++ (⟨x1, x2, x3, x4⟩ : Cl) :: S.drop p, by have := own_baseU O9.out HB.out.size; simpa using this, by rw [Htk.out, List.filter_append, List.filter_cons_of_pos (by rw [hf.out]), List.filter_nil]; exact (Xr.ins_perm S _ p).trans (List.Perm.append_right _ Hpm.out), Xr.ins_order keyCl Hor.out _ p HPS.out Hgt.out HLe.out, HB.out.trans (C9.out.mono HB.out.size), fun h => by simp at h⟩
                  case measure => exact measU _ _ _ Hlt.out rfl
              · skip
                have HLe : Hid (∀ (h : 0 < p), ¬ keyCl (⟨x1, x2, x3, x4⟩ : Cl) < keyCl (S[p - 1]'Hyl.out)) := fun h => by
                  rw [Hye.out]
                  have e9 : y2.toList = x2.toList := by simpa using t2
                  show ¬ x2.toList < y2.toList
                  rw [e9]
                  exact List.lt_irrefl _
                by_cases hck : c3 = p
                · have hpk : p = m := by omega
                  subst hck
                  have Hpk := hid hpk
                  clear hpk
                  go_wp2
                  go_quiet (fail)
                  go_wp2_with (first
                    | (at_builtin; refine app_clS rfl (.tmp 70) (.tmp 73) rfl w3.heap.size v7 _ rfl O7.out _ (S.drop c3) rfl (srcCl_drop S7.out HPS.out (by have := Hm.out; omega) (fun h => by have := Hm.out; have := Hpk.out; omega)) (by rw [List.length_append, List.length_take, List.length_drop, List.length_singleton]; have := HSb.out; omega) C7.out.size ?_; intro v9 w9 ho9 hg9; have C9 := hid (C7.out.trans ((Below.refl _ _).grown hg9 C7.out.size (fun q hq => (O7.out.lt q hq).1))); have O9 := hid ho9; clear ho9 hg9)
                    | (at_builtin; refine app_clL rfl (.tmp 60) (.tmp 68) rfl w5 ⟨x1, x2, x3, x4⟩ rfl w3.heap.size v5 (S.take c3) rfl O5.out rfl (by rw [List.length_take]; have := HSb.out; omega) C5.out.size ?_; intro v7 w7 ho7 hg7; have C7 := hid (C5.out.trans ((Below.refl _ _).grown hg7 C5.out.size (fun q hq => (O5.out.lt q hq).1))); have O7 := hid ho7; have S7 := hid (own_onU HOk.out C7.out); clear ho7 hg7)
                    | (at_builtin; refine app_clS rfl (.tmp 55) (.tmp 58) rfl w3.heap.size (.slice none 0 0) [] rfl (World.ownsRow_nil _ _ _ _) _ (S.take c3) rfl (srcCl_take (SW.out _) HPS.out) (by rw [List.length_nil, List.length_take]; have := HSb.out; omega) (C4.out _).size ?_; intro v5 w5 ho5 hg5; have C5 := hid ((C4.out _).trans ((Below.refl _ _).grown hg5 (C4.out _).size (fun q hq => by cases hq))); have O5 : Hid (w5.ownsRow w3.heap.size 56 4 v5 (S.take c3).length (clCells (S.take c3))) := ho5; obtain ⟨k50, k51, k52, k53, k54⟩ := Hat.out w5 (HB.out.trans (C5.out.mono HB.out.size)); simp only at k51 k52 k53 k54; clear ho5 hg5))
                  go_roundw
                  case rel => exact ⟨k + 1, by have := Hlt.out; omega, by go_num, S.take c3 ++ (⟨x1, x2, x3, x4⟩ : Cl) :: S.drop c3, by have := own_baseU O9.out HB.out.size; simpa using this, by rw [Htk.out, List.filter_append, List.filter_cons_of_pos (by rw [hf.out]), List.filter_nil]; exact (Xr.ins_perm S _ c3).trans (List.Perm.append_right _ Hpm.out), Xr.ins_order keyCl Hor.out _ c3 HPS.out Hgt.out HLe.out, HB.out.trans (C9.out.mono HB.out.size), fun h => by simp at h⟩
                  case measure => exact measU _ _ _ Hlt.out rfl
                · have hck2 : ¬ p = c3 := fun e => hck e.symm
                  go_wp2
                  go_quiet (fail)
                  go_wp2_with (first
                    | (at_builtin; refine app_clS rfl (.tmp 70) (.tmp 73) rfl w3.heap.size v7 _ rfl O7.out _ (S.drop p) rfl (srcCl_drop S7.out HPS.out (by have := Hm.out; omega) (fun _ => rfl)) (by rw [List.length_append, List.length_take, List.length_drop, List.length_singleton]; have := HSb.out; omega) C7.out.size ?_; intro v9 w9 ho9 hg9; have C9 := hid (C7.out.trans ((Below.refl _ _).grown hg9 C7.out.size (fun q hq => (O7.out.lt q hq).1))); have O9 := hid ho9; clear ho9 hg9)
                    | (at_builtin; refine app_clL rfl (.tmp 60) (.tmp 68) rfl w5 ⟨x1, x2, x3, x4⟩ rfl w3.heap.size v5 (S.take p) rfl O5.out rfl (by rw [List.length_take]; have := HSb.out; omega) C5.out.size ?_; intro v7 w7 ho7 hg7; have C7 := hid (C5.out.trans ((Below.refl _ _).grown hg7 C5.out.size (fun q hq => (O5.out.lt q hq).1))); have O7 := hid ho7; have S7 := hid (own_onU HOk.out C7.out); clear ho7 hg7)
                    | (at_builtin; refine app_clS rfl (.tmp 55) (.tmp 58) rfl w3.heap.size (.slice none 0 0) [] rfl (World.ownsRow_nil _ _ _ _) _ (S.take p) rfl (srcCl_take (SW.out _) HPS.out) (by rw [List.length_nil, List.length_take]; have := HSb.out; omega) (C4.out _).size ?_; intro v5 w5 ho5 hg5; have C5 := hid ((C4.out _).trans ((Below.refl _ _).grown hg5 (C4.out _).size (fun q hq => by cases hq))); have O5 : Hid (w5.ownsRow w3.heap.size 56 4 v5 (S.take p).length (clCells (S.take p))) := ho5; obtain ⟨k50, k51, k52, k53, k54⟩ := Hat.out w5 (HB.out.trans (C5.out.mono HB.out.size)); simp only at k51 k52 k53 k54; clear ho5 hg5))
                  go_roundw
                  case rel => exact ⟨k + 1, by have := Hlt.out; omega, by go_num, S.take p ++ (⟨x1, x2, x3, x4⟩ : Cl) :: S.drop p, by have := own_baseU O9.out HB.out.size; simpa using this, by rw [Htk.out, List.filter_append, List.filter_cons_of_pos (by rw [hf.out]), List.filter_nil]; exact (Xr.ins_perm S _ p).trans (List.Perm.append_right _ Hpm.out), Xr.ins_order keyCl Hor.out _ p HPS.out Hgt.out HLe.out, HB.out.trans (C9.out.mono HB.out.size), fun h => by simp at h⟩
                  case measure => exact measU _ _ _ Hlt.out rfl
              · have hgt' : GtCl S (⟨x1, x2, x3, x4⟩ : Cl) (p - 1) := fun z hz => by
                  rw [Hdr.out] at hz
                  rcases List.mem_cons.1 hz with rfl | hz
                  · exact t3
                  · exact Hgt.out z hz
                have Hgt' := hid hgt'
                clear hgt' t3
                have C5 := hid (C4.out 0)
                go_wp2
                go_quiet (fail)
                go_wp2
                go_roundw
                case rel => exact ⟨p - 1, by omega, by go_num, Hgt'.out, C4.out _⟩
                case measure => simp [intOf]; omega
    · have e : k = N := by omega
      subst e
      have g1 : ¬ (k : Int) < (k : Int) := by omega
      have g1' : decide ((k : Int) < (k : Int)) = false := by simp
      have hall : s.cs.take k = s.cs := List.take_of_length_le (by have := HN.out; omega)
      rw [hall] at Hpm
      clear ho hpm hor hb hz0 hall
      go_wp2
      go_ret
      first
        | exact ⟨_, S, rfl, Hpm.out, Hor.out, own_baseU HOk.out B0.out.size, B0.out.trans (HB.out.mono B0.out.size)⟩
        | exact ⟨_, rfl, S, Hpm.out, Hor.out, own_baseU HOk.out B0.out.size, B0.out.trans (HB.out.mono B0.out.size)⟩
end Go.Proofs.YtlkbojgemcjilaaGreatDoor
