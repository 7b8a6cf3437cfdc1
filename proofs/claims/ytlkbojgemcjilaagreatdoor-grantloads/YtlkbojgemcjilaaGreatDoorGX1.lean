/- The reference's Sorted of any rows: in the order of their keys' bytes. (Printed by gen/jsorted.py.) -/
import Derived.Test.YtlkbojgemcjilaaGreatDoorGX0
import Derived.Test.YtlkbojgemcjilaaGreatDoorJXm
namespace Go.Proofs.YtlkbojgemcjilaaGreatDoor.Xr
open Go.RowKit
set_option linter.unusedVariables false
set_option maxRecDepth 20000
theorem rcCells_take (l : List RC) (p : Nat) (hp : p ≤ l.length) : rcCells (l.take p) = (rcCells l).take (p * 2) := by
  have e : rcCells l = rcCells (l.take p) ++ rcCells (l.drop p) := by rw [← rcCells_app, List.take_append_drop]
  have hl : (rcCells (l.take p)).length = p * 2 := by rw [rcCells_length, List.length_take]; omega
  rw [show (rcCells l).take (p * 2) = (rcCells (l.take p) ++ rcCells (l.drop p)).take (p * 2) by rw [← e]]
  exact (List.take_left' hl).symm
theorem rcCells_drop (l : List RC) (p : Nat) (hp : p ≤ l.length) : rcCells (l.drop p) = (rcCells l).drop (p * 2) := by
  have e : rcCells l = rcCells (l.take p) ++ rcCells (l.drop p) := by rw [← rcCells_app, List.take_append_drop]
  have hl : (rcCells (l.take p)).length = p * 2 := by rw [rcCells_length, List.length_take]; omega
  rw [show (rcCells l).drop (p * 2) = (rcCells (l.take p) ++ rcCells (l.drop p)).drop (p * 2) by rw [← e]]
  exact (List.drop_left' hl).symm
/-- rows that lie where a value says -/
def Src (w : World) (sv : Value) (l : List RC) : Prop := (sv = .slice none 0 0 ∧ l = []) ∨ ∃ b o c, sv = .slice (some ⟨b, o, none⟩) l.length c ∧ ∀ j u, (rcCells l)[j]? = some u → w.cell? ⟨b, o + j, none⟩ = some u
theorem app_rowsS {w : World} {ops : Array Oper} {rest : List Oper} {o : Oper} {a : Act} {Q : Exit → Act → World → Prop} (hgd : o.guard = none) (sl x : Operand)
    (ho : o.op = .call { callee := .builtin .append, args := #[sl, x], argTypes := #[35, 35] }) (base : Nat) (v : Value) (l : List RC) (hs : a.eval sl = v) (hown : w.ownsRow base 79 2 v l.length (rcCells l))
    (v2 : Value) (l2 : List RC) (hx : a.eval x = v2) (hsrc : Src w v2 l2) (hb : l.length + l2.length ≤ 3000000000) (hbase : base ≤ w.heap.size)
    (h : ∀ v' w', w'.ownsRow base 79 2 v' (l ++ l2).length (rcCells (l ++ l2)) → w.grownBy w' v.ownBlock → wpList Tryz.prog ops Q rest (a.put o.dst v') w') :
    wpList Tryz.prog ops Q (o :: rest) a w := by
  obtain ⟨i0, hi, hz0, hz1, hz2⟩ := info_parts infoRow
  rcases hsrc with ⟨rfl, rfl⟩ | ⟨b, off, c, rfl, hc⟩
  · refine wpList_append_own_none hgd sl x 35 ho base 79 i0 2 Tryz.underlying35 hi v l.length (rcCells l) hs hown hx (h _ _ ?_ ⟨rfl, rfl, rfl, Nat.le_refl _, fun _ _ _ => rfl⟩)
    rw [List.append_nil]
    exact hown
  · refine wpList_append_own w hgd sl x 35 ho base 79 i0 (.agg #[.string ⟨#[]⟩, .slice none 0 0]) 2 40 Tryz.underlying35 hi hz0 hz1 hz2 rfl (by decide) v l.length (rcCells l) hs hown ⟨b, off, none⟩ l2.length c (rcCells l2) hx (rcCells_length l2) (fun j u hj => ?_) (rcCells_one l2) (by unfold maxLen; omega) (by omega) hbase ?_
    · rw [show (⟨b, off, none⟩ : Addr).add j = ⟨b, off + j, none⟩ by unfold Addr.add; split <;> simp_all]
      exact hc j u hj
    · intro v' w' h1 h2 h3
      refine h v' w' ?_ h2
      rw [rcCells_app, List.length_append]
      exact h1
theorem src_cells {w : World} {B g n c : Nat} {S : List RC} (h : w.ownsRow B 79 2 (.slice (some ⟨g, 0, none⟩) n c) S.length (rcCells S)) : ∀ j u, (rcCells S)[j]? = some u → w.cell? ⟨g, j, none⟩ = some u := fun j u hj => by
  have hjl : j < (rcCells S).length := (List.getElem?_eq_some_iff.1 hj).1
  rw [rcCells_length] at hjl
  rcases h.2 with ⟨e, _⟩ | ⟨g2, cap, cur, e, hb, hg, _⟩
  · cases e
  · injection e with e1 e2 e3
    subst e2
    have := World.ownsRow.cellAt h j hjl
    rw [← hj]
    exact this
theorem src_take {w : World} {B g n c p : Nat} {S : List RC} (h : w.ownsRow B 79 2 (.slice (some ⟨g, 0, none⟩) n c) S.length (rcCells S)) (hp : p ≤ S.length) : Src w (.slice (some ⟨g, 0, none⟩) p c) (S.take p) := by
  refine .inr ⟨g, 0, c, by rw [List.length_take]; congr 1; omega, fun j u hj => ?_⟩
  rw [Nat.zero_add]
  refine src_cells h j u ?_
  rw [rcCells_take _ _ hp] at hj
  rw [List.getElem?_take] at hj
  split at hj
  · exact hj
  · cases hj
theorem src_drop {w : World} {B g n c p o m c' : Nat} {S : List RC} (h : w.ownsRow B 79 2 (.slice (some ⟨g, 0, none⟩) n c) S.length (rcCells S)) (hp : p ≤ S.length) (hm : m = S.length - p) (ho : p < S.length → o = p * 2) : Src w (.slice (some ⟨g, o, none⟩) m c') (S.drop p) := by
  refine .inr ⟨g, o, c', by rw [List.length_drop, hm], fun j u hj => ?_⟩
  rw [rcCells_drop _ _ hp, List.getElem?_drop] at hj
  have hjl := (List.getElem?_eq_some_iff.1 hj).1
  rw [rcCells_length] at hjl
  rw [ho (by omega)]
  exact src_cells h _ u hj
theorem take_get {α : Type} {l : List α} {k : Nat} {x : α} (h : l[k]? = some x) : l.take (k + 1) = l.take k ++ [x] := by
  obtain ⟨hk, rfl⟩ := List.getElem?_eq_some_iff.1 h
  exact List.take_succ_eq_append_getElem hk
theorem rows_get {w : World} {B : Nat} {v : Value} {rs : List RC} (h : w.ownsRow B 79 2 v rs.length (rcCells rs)) {k : Nat} {x : RC} (hk : rs[k]? = some x) : ∃ g cap, v = .slice (some ⟨g, 0, none⟩) rs.length cap ∧ w.cell? ⟨g, k * 2, none⟩ = some (.string x.key) ∧ w.cell? ⟨g, k * 2 + 1, none⟩ = some (.slice x.ad x.len x.cap) := by
  obtain ⟨hk2, rfl⟩ := List.getElem?_eq_some_iff.1 hk
  exact rows_at h k hk2
def keyL (r : RC) : List UInt8 := r.key.toList
/-- what has come, in order -/
def SRel (V : World) (rs : List RC) (k : Nat) (v : Value) (w : World) : Prop := ∃ S : List RC, w.ownsRow V.heap.size 79 2 v S.length (rcCells S) ∧ S.Perm (rs.take k) ∧ InOrder keyL S ∧ Below V.heap.size V w ∧ (k = 0 → v = .slice none 0 0)
def SortP (V : World) (rs : List RC) (e : Ending) (w' : World) : Prop := ∃ v S, e = .returned v ∧ w'.ownsRow V.heap.size 79 2 v S.length (rcCells S) ∧ S.Perm rs ∧ InOrder keyL S ∧ Below V.heap.size V w'
def GtS (S : List RC) (x : RC) (p : Nat) : Prop := ∀ y ∈ S.drop p, keyL x < keyL y
theorem tri (a b : ByteArray) : (Op.bytesLess a.toList b.toList = true ∧ True) ∨ (Op.bytesLess a.toList b.toList = false ∧ (a.toList == b.toList) = true) ∨ (Op.bytesLess a.toList b.toList = false ∧ (a.toList == b.toList) = false ∧ b.toList < a.toList) := by
  rw [bytesLess_eq]
  by_cases h1 : a.toList < b.toList
  · exact .inl ⟨decide_eq_true h1, trivial⟩
  · by_cases h2 : a.toList = b.toList
    · exact .inr (.inl ⟨decide_eq_false h1, by simpa using h2⟩)
    · refine .inr (.inr ⟨decide_eq_false h1, by simpa using h2, ?_⟩)
      by_cases h4 : b.toList < a.toList
      · exact h4
      · exact absurd (key_tot h1 h4) h2
set_option maxHeartbeats 12800000 in
theorem sortedG_any {V : World} {B : Nat} {v : Value} {rs : List RC} (ho : V.ownsRow B 79 2 v rs.length (rcCells rs)) (hl : rs.length ≤ 1000000) :
    Calls Tryz.prog 46 #[v] V (SortP V rs) := by
  have HO := hid ho
  obtain ⟨a0, c0, e0⟩ := slice_of_own ho
  obtain ⟨N, hN⟩ : ∃ N, N = rs.length := ⟨_, rfl⟩
  rw [← hN] at hl e0
  have HN := hid hN
  have E0 := hid e0
  rw [e0]
  clear ho hN e0
  go_enter Tryz.func46, Tryz.ntmps46
  go_wp2
  go_loopw [3, 4] (fun v i wr => ∃ k : Nat, k ≤ N ∧ i = .int .i64 k ∧ SRel V rs k v wr) (fun _ i _ => N - (intOf i).toNat)
  case atStart => exact ⟨0, Nat.zero_le _, rfl, [], World.ownsRow_nil _ _ _ _, List.Perm.refl _, List.Pairwise.nil, Below.refl _ _, fun _ => rfl⟩
  case round =>
    obtain ⟨k, hk, rfl, S, ho, hpm, hor, hb, hk0⟩ := hrel
    have HOk := hid ho
    have HB := hid hb
    have Hpm := hid hpm
    have Hor := hid hor
    have hSl : S.length = k := by rw [hpm.length_eq, List.length_take]; have := HN.out; omega
    have HSl := hid hSl
    by_cases hlt : k < N
    · have g1 : (k : Int) < (N : Int) := by omega
      have g0 : (0 : Int) ≤ (k : Int) := by omega
      have hkr : k < rs.length := by have := HN.out; omega
      have Hkr := hid hkr
      obtain ⟨x, hxk⟩ : ∃ x, rs[k]? = some x := ⟨_, List.getElem?_eq_getElem hkr⟩
      have Htk := hid (take_get hxk)
      have HRow := hid (fun (W : World) (hW : Below V.heap.size V W) => by have := rows_get (own_onW HO.out hW) hxk; rw [← HN.out, E0.out] at this; exact this)
      obtain ⟨xk, xa, xn, xc⟩ := x
      clear hxk hkr
      obtain ⟨w3, hw3⟩ : ∃ w3, w3 = wr := ⟨_, rfl⟩
      rw [← hw3] at HOk HB ⊢
      clear hw3 ho hpm hor hb
      by_cases hkz : k = 0
      · have hv0 := hk0 hkz
        subst hv0
        subst hkz
        have hS0 : S = [] := List.eq_nil_of_length_eq_zero hSl
        have HS0 := hid hS0
        have Hgt : Hid (∀ y ∈ S.drop 0, keyL (RC.mk xk xa xn xc) < keyL y) := fun y hy => by rw [HS0.out] at hy; cases hy
        have HLe : Hid (∀ (h : 0 < 0), ¬ keyL (RC.mk xk xa xn xc) < keyL (S[0 - 1]'(by omega))) := fun h => absurd h (by omega)
        clear hk0 hSl hS0
        go_wp2
        go_loopw [5] (fun i wr => i = .int .i64 (0 : Nat) ∧ Below w3.heap.size w3 wr) (fun _ _ => 0)
        case atStart => exact ⟨rfl, Below.refl _ _⟩
        case round =>
          obtain ⟨rfl, hb4⟩ := hrel
          have C4 := hid (fun (q : Nat) => Below.on' hb4 (below_drewN wr.heap.size wr q))
          obtain ⟨g, cap, ev1, ka, kb⟩ := HRow.out wr (HB.out.trans (hb4.mono HB.out.size))
          injection ev1 with x1 x2 x3
          subst x1
          clear hb4 x2 x3
          go_wp2
          go_quiet (fail)
          go_wp2_with (first
            | (at_builtin; refine app_rowsS rfl (.tmp 45) (.tmp 48) rfl w3.heap.size v7 _ rfl O7.out _ (S.drop 0) rfl (.inl ⟨rfl, by rw [HS0.out]; rfl⟩) (by rw [List.length_append, List.length_take, List.length_drop, List.length_singleton]; have := HSl.out; omega) C7.out.size ?_; intro v9 w9 ho9 hg9; have C9 := hid (C7.out.trans ((Below.refl _ _).grown hg9 C7.out.size (fun q hq => (O7.out.lt q hq).1))); have O9 := hid ho9; clear ho9 hg9)
            | (at_builtin; refine app_rowL rfl (.tmp 38) (.tmp 43) rfl w5 xk xa xn xc rfl w3.heap.size v5 (S.take 0) rfl O5.out rfl (by rw [List.length_take]; have := HSl.out; omega) C5.out.size ?_; intro v7 w7 ho7 hg7; have C7 := hid (C5.out.trans ((Below.refl _ _).grown hg7 C5.out.size (fun q hq => (O5.out.lt q hq).1))); have O7 := hid ho7; have S7 := hid (own_onW HOk.out C7.out); clear ho7 hg7)
            | (at_builtin; refine app_rowsS rfl (.tmp 33) (.tmp 36) rfl w3.heap.size (.slice none 0 0) [] rfl (World.ownsRow_nil _ _ _ _) _ (S.take 0) rfl (.inl ⟨rfl, rfl⟩) (by rw [List.length_nil, List.length_take]; have := HSl.out; omega) (C4.out _).size ?_; intro v5 w5 ho5 hg5; have C5 := hid ((C4.out _).trans ((Below.refl _ _).grown hg5 (C4.out _).size (fun q hq => by cases hq))); have O5 : Hid (w5.ownsRow w3.heap.size 79 2 v5 (S.take 0).length (rcCells (S.take 0))) := ho5; obtain ⟨g5, cap5, ev5, ka5, kb5⟩ := HRow.out w5 (HB.out.trans (C5.out.mono HB.out.size)); injection ev5 with y1 y2 y3; have y4 : g = g5 := (by simpa using y1); subst y4; clear ho5 hg5 y1 y2 y3))
          go_roundw
          case rel => exact ⟨0 + 1, by omega, by go_num, S.take 0 ++ RC.mk xk xa xn xc :: S.drop 0, by have := own_mono O9.out HB.out.size; simpa using this, by rw [Htk.out]; exact (ins_perm S _ 0).trans (List.Perm.append_right _ Hpm.out), ins_order keyL Hor.out _ 0 (by have := HSl.out; omega) Hgt.out HLe.out, HB.out.trans (C9.out.mono HB.out.size), fun h => by omega⟩
          case measure => simp [intOf]; omega
      · have hkp : 0 < k := by omega
        obtain ⟨g', c3, e3, hkc⟩ : ∃ g' c3, u3 = .slice (some ⟨g', 0, none⟩) S.length c3 ∧ S.length ≤ c3 := by
          rcases HOk.out.2 with ⟨_, hz⟩ | ⟨g', c3, cur, e, _, _, hc, _⟩
          · omega
          · exact ⟨g', c3, e, hc⟩
        rw [hSl] at e3 hkc
        subst e3
        clear hk0 hSl hkz
        have gkc : (k : Int) ≤ (c3 : Int) := by omega
        go_wp2
        go_loopw [5] (fun i wr => ∃ p : Nat, p ≤ k ∧ i = .int .i64 (p : Int) ∧ GtS S (RC.mk xk xa xn xc) p ∧ Below w3.heap.size w3 wr) (fun i _ => (intOf i).toNat)
        case atStart => exact ⟨k, Nat.le_refl _, rfl, (fun y hy => by rw [List.drop_of_length_le (by have := HSl.out; omega)] at hy; cases hy), Below.refl _ _⟩
        case round =>
          obtain ⟨p, hp, rfl, hgt, hb4⟩ := hrel
          have Hgt := hid hgt
          have C4 := hid (fun (q : Nat) => Below.on' hb4 (below_drewN wr.heap.size wr q))
          have SW := hid (fun (q : Nat) => own_onW HOk.out (Below.on' hb4 (below_drewN wr.heap.size wr q)))
          obtain ⟨g, cap, ev1, ka, kb⟩ := HRow.out wr (HB.out.trans (hb4.mono HB.out.size))
          injection ev1 with x1 x2 x3
          subst x1
          have gpc : (p : Int) ≤ (c3 : Int) := by omega
          have gpk : (p : Int) ≤ (k : Int) := by omega
          have Hp := hid hp
          have HpS : Hid (p ≤ S.length) := by
            show p ≤ S.length
            have := HSl.out
            omega
          by_cases hp0 : p = 0
          · subst hp0
            have HLe : Hid (∀ (h : 0 < 0), ¬ keyL (RC.mk xk xa xn xc) < keyL (S[0 - 1]'(by omega))) := fun h => absurd h (by omega)
            have hc0 : ¬ c3 = 0 := by omega
            clear hb4 x2 x3 hgt
            go_wp2
            go_quiet (fail)
            go_wp2_with (first
              | (at_builtin; refine app_rowsS rfl (.tmp 45) (.tmp 48) rfl w3.heap.size v7 _ rfl O7.out _ (S.drop 0) rfl (src_drop S7.out HpS.out (by have := HSl.out; omega) (fun _ => rfl)) (by rw [List.length_append, List.length_take, List.length_drop, List.length_singleton]; have := HSl.out; omega) C7.out.size ?_; intro v9 w9 ho9 hg9; have C9 := hid (C7.out.trans ((Below.refl _ _).grown hg9 C7.out.size (fun q hq => (O7.out.lt q hq).1))); have O9 := hid ho9; clear ho9 hg9)
              | (at_builtin; refine app_rowL rfl (.tmp 38) (.tmp 43) rfl w5 xk xa xn xc rfl w3.heap.size v5 (S.take 0) rfl O5.out rfl (by rw [List.length_take]; have := HSl.out; omega) C5.out.size ?_; intro v7 w7 ho7 hg7; have C7 := hid (C5.out.trans ((Below.refl _ _).grown hg7 C5.out.size (fun q hq => (O5.out.lt q hq).1))); have O7 := hid ho7; have S7 := hid (own_onW HOk.out C7.out); clear ho7 hg7)
              | (at_builtin; refine app_rowsS rfl (.tmp 33) (.tmp 36) rfl w3.heap.size (.slice none 0 0) [] rfl (World.ownsRow_nil _ _ _ _) _ (S.take 0) rfl (src_take (SW.out _) HpS.out) (by rw [List.length_nil, List.length_take]; have := HSl.out; omega) (C4.out _).size ?_; intro v5 w5 ho5 hg5; have C5 := hid ((C4.out _).trans ((Below.refl _ _).grown hg5 (C4.out _).size (fun q hq => by cases hq))); have O5 : Hid (w5.ownsRow w3.heap.size 79 2 v5 (S.take 0).length (rcCells (S.take 0))) := ho5; obtain ⟨g5, cap5, ev5, ka5, kb5⟩ := HRow.out w5 (HB.out.trans (C5.out.mono HB.out.size)); injection ev5 with y1 y2 y3; have y4 : g = g5 := (by simpa using y1); subst y4; clear ho5 hg5 y1 y2 y3))
            go_roundw
            case rel => exact ⟨k + 1, by omega, by go_num, S.take 0 ++ RC.mk xk xa xn xc :: S.drop 0, by have := own_mono O9.out HB.out.size; simpa using this, by rw [Htk.out]; exact (ins_perm S _ 0).trans (List.Perm.append_right _ Hpm.out), ins_order keyL Hor.out _ 0 (by have := HSl.out; omega) Hgt.out HLe.out, HB.out.trans (C9.out.mono HB.out.size), fun h => by omega⟩
            case measure => simp [intOf]; omega
          · skip
            have hp0' : 0 < p := by omega
            obtain ⟨y, hy⟩ : ∃ y, S[p - 1]? = some y := ⟨_, List.getElem?_eq_getElem (by have := HSl.out; omega)⟩
            obtain ⟨gq, capq, ev2, la, lb⟩ := rows_get (own_onW HOk.out hb4) hy
            injection ev2 with z1 z2 z3
            have z4 : g' = gq := by simpa using z1
            subst z4
            have gp1 : (0 : Int) ≤ (p : Int) - 1 := by omega
            have gp2 : (p : Int) - 1 < (k : Int) := by omega
            have gpd : decide (0 < p) = true := by simp; omega
            have gw : IntKind.i64.wrap ((p : Int) - 1) = (p : Int) - 1 := by rw [IntKind.wrap_i64]; omega
            have gt : ((p : Int) - 1).toNat = p - 1 := by omega
            obtain ⟨hyl, hye⟩ := List.getElem?_eq_some_iff.1 hy
            have Hye := hid hye
            have hdr : S.drop (p - 1) = y :: S.drop p := by
              rw [List.drop_eq_getElem_cons hyl, hye]
              congr 2
              omega
            have Hdr := hid hdr
            obtain ⟨yk, ya, yn, yc⟩ := y
            clear hb4 x2 x3 hgt z1 z2 z3 lb hdr hy hye
            dsimp only at la
            rcases tri yk xk with ⟨t1, t2⟩ | ⟨t1, t2⟩ | ⟨t1, t2, t3⟩
            · skip
              have HLe : Hid (∀ (h : 0 < p), ¬ keyL (RC.mk xk xa xn xc) < keyL (S[p - 1]'(by have := HSl.out; omega))) := fun h => by
                rw [Hye.out]
                exact fun h9 => absurd (of_decide_eq_true (by rw [← bytesLess_eq]; exact t1)) (List.lt_asymm h9)
              by_cases hck : c3 = p
              · have hpk : p = k := by omega
                subst hck
                have Hpk := hid hpk
                clear hpk
                go_wp2
                go_quiet (fail)
                go_wp2_with (first
                  | (at_builtin; refine app_rowsS rfl (.tmp 45) (.tmp 48) rfl w3.heap.size v7 _ rfl O7.out _ (S.drop c3) rfl (src_drop S7.out HpS.out (by have := HSl.out; omega) (fun h => by have := HSl.out; have := Hpk.out; omega)) (by rw [List.length_append, List.length_take, List.length_drop, List.length_singleton]; have := HSl.out; omega) C7.out.size ?_; intro v9 w9 ho9 hg9; have C9 := hid (C7.out.trans ((Below.refl _ _).grown hg9 C7.out.size (fun q hq => (O7.out.lt q hq).1))); have O9 := hid ho9; clear ho9 hg9)
                  | (at_builtin; refine app_rowL rfl (.tmp 38) (.tmp 43) rfl w5 xk xa xn xc rfl w3.heap.size v5 (S.take c3) rfl O5.out rfl (by rw [List.length_take]; have := HSl.out; omega) C5.out.size ?_; intro v7 w7 ho7 hg7; have C7 := hid (C5.out.trans ((Below.refl _ _).grown hg7 C5.out.size (fun q hq => (O5.out.lt q hq).1))); have O7 := hid ho7; have S7 := hid (own_onW HOk.out C7.out); clear ho7 hg7)
                  | (at_builtin; refine app_rowsS rfl (.tmp 33) (.tmp 36) rfl w3.heap.size (.slice none 0 0) [] rfl (World.ownsRow_nil _ _ _ _) _ (S.take c3) rfl (src_take (SW.out _) HpS.out) (by rw [List.length_nil, List.length_take]; have := HSl.out; omega) (C4.out _).size ?_; intro v5 w5 ho5 hg5; have C5 := hid ((C4.out _).trans ((Below.refl _ _).grown hg5 (C4.out _).size (fun q hq => by cases hq))); have O5 : Hid (w5.ownsRow w3.heap.size 79 2 v5 (S.take c3).length (rcCells (S.take c3))) := ho5; obtain ⟨g5, cap5, ev5, ka5, kb5⟩ := HRow.out w5 (HB.out.trans (C5.out.mono HB.out.size)); injection ev5 with y1 y2 y3; have y4 : g = g5 := (by simpa using y1); subst y4; clear ho5 hg5 y1 y2 y3))
                go_roundw
                case rel => exact ⟨k + 1, by omega, by go_num, S.take c3 ++ RC.mk xk xa xn xc :: S.drop c3, by have := own_mono O9.out HB.out.size; simpa using this, by rw [Htk.out]; exact (ins_perm S _ c3).trans (List.Perm.append_right _ Hpm.out), ins_order keyL Hor.out _ c3 (by have := HSl.out; omega) Hgt.out HLe.out, HB.out.trans (C9.out.mono HB.out.size), fun h => by omega⟩
                case measure => simp [intOf]; omega
              · have hck2 : ¬ p = c3 := fun e => hck e.symm
                go_wp2
                go_quiet (fail)
                go_wp2_with (first
                  | (at_builtin; refine app_rowsS rfl (.tmp 45) (.tmp 48) rfl w3.heap.size v7 _ rfl O7.out _ (S.drop p) rfl (src_drop S7.out HpS.out (by have := HSl.out; omega) (fun _ => rfl)) (by rw [List.length_append, List.length_take, List.length_drop, List.length_singleton]; have := HSl.out; omega) C7.out.size ?_; intro v9 w9 ho9 hg9; have C9 := hid (C7.out.trans ((Below.refl _ _).grown hg9 C7.out.size (fun q hq => (O7.out.lt q hq).1))); have O9 := hid ho9; clear ho9 hg9)
                  | (at_builtin; refine app_rowL rfl (.tmp 38) (.tmp 43) rfl w5 xk xa xn xc rfl w3.heap.size v5 (S.take p) rfl O5.out rfl (by rw [List.length_take]; have := HSl.out; omega) C5.out.size ?_; intro v7 w7 ho7 hg7; have C7 := hid (C5.out.trans ((Below.refl _ _).grown hg7 C5.out.size (fun q hq => (O5.out.lt q hq).1))); have O7 := hid ho7; have S7 := hid (own_onW HOk.out C7.out); clear ho7 hg7)
                  | (at_builtin; refine app_rowsS rfl (.tmp 33) (.tmp 36) rfl w3.heap.size (.slice none 0 0) [] rfl (World.ownsRow_nil _ _ _ _) _ (S.take p) rfl (src_take (SW.out _) HpS.out) (by rw [List.length_nil, List.length_take]; have := HSl.out; omega) (C4.out _).size ?_; intro v5 w5 ho5 hg5; have C5 := hid ((C4.out _).trans ((Below.refl _ _).grown hg5 (C4.out _).size (fun q hq => by cases hq))); have O5 : Hid (w5.ownsRow w3.heap.size 79 2 v5 (S.take p).length (rcCells (S.take p))) := ho5; obtain ⟨g5, cap5, ev5, ka5, kb5⟩ := HRow.out w5 (HB.out.trans (C5.out.mono HB.out.size)); injection ev5 with y1 y2 y3; have y4 : g = g5 := (by simpa using y1); subst y4; clear ho5 hg5 y1 y2 y3))
                go_roundw
                case rel => exact ⟨k + 1, by omega, by go_num, S.take p ++ RC.mk xk xa xn xc :: S.drop p, by have := own_mono O9.out HB.out.size; simpa using this, by rw [Htk.out]; exact (ins_perm S _ p).trans (List.Perm.append_right _ Hpm.out), ins_order keyL Hor.out _ p (by have := HSl.out; omega) Hgt.out HLe.out, HB.out.trans (C9.out.mono HB.out.size), fun h => by omega⟩
                case measure => simp [intOf]; omega
            · skip
              have HLe : Hid (∀ (h : 0 < p), ¬ keyL (RC.mk xk xa xn xc) < keyL (S[p - 1]'(by have := HSl.out; omega))) := fun h => by
                rw [Hye.out]
                have e9 : yk.toList = xk.toList := by simpa using t2
                show ¬ xk.toList < yk.toList
                rw [e9]
                exact List.lt_irrefl _
              by_cases hck : c3 = p
              · have hpk : p = k := by omega
                subst hck
                have Hpk := hid hpk
                clear hpk
                go_wp2
                go_quiet (fail)
                go_wp2_with (first
                  | (at_builtin; refine app_rowsS rfl (.tmp 45) (.tmp 48) rfl w3.heap.size v7 _ rfl O7.out _ (S.drop c3) rfl (src_drop S7.out HpS.out (by have := HSl.out; omega) (fun h => by have := HSl.out; have := Hpk.out; omega)) (by rw [List.length_append, List.length_take, List.length_drop, List.length_singleton]; have := HSl.out; omega) C7.out.size ?_; intro v9 w9 ho9 hg9; have C9 := hid (C7.out.trans ((Below.refl _ _).grown hg9 C7.out.size (fun q hq => (O7.out.lt q hq).1))); have O9 := hid ho9; clear ho9 hg9)
                  | (at_builtin; refine app_rowL rfl (.tmp 38) (.tmp 43) rfl w5 xk xa xn xc rfl w3.heap.size v5 (S.take c3) rfl O5.out rfl (by rw [List.length_take]; have := HSl.out; omega) C5.out.size ?_; intro v7 w7 ho7 hg7; have C7 := hid (C5.out.trans ((Below.refl _ _).grown hg7 C5.out.size (fun q hq => (O5.out.lt q hq).1))); have O7 := hid ho7; have S7 := hid (own_onW HOk.out C7.out); clear ho7 hg7)
                  | (at_builtin; refine app_rowsS rfl (.tmp 33) (.tmp 36) rfl w3.heap.size (.slice none 0 0) [] rfl (World.ownsRow_nil _ _ _ _) _ (S.take c3) rfl (src_take (SW.out _) HpS.out) (by rw [List.length_nil, List.length_take]; have := HSl.out; omega) (C4.out _).size ?_; intro v5 w5 ho5 hg5; have C5 := hid ((C4.out _).trans ((Below.refl _ _).grown hg5 (C4.out _).size (fun q hq => by cases hq))); have O5 : Hid (w5.ownsRow w3.heap.size 79 2 v5 (S.take c3).length (rcCells (S.take c3))) := ho5; obtain ⟨g5, cap5, ev5, ka5, kb5⟩ := HRow.out w5 (HB.out.trans (C5.out.mono HB.out.size)); injection ev5 with y1 y2 y3; have y4 : g = g5 := (by simpa using y1); subst y4; clear ho5 hg5 y1 y2 y3))
                go_roundw
                case rel => exact ⟨k + 1, by omega, by go_num, S.take c3 ++ RC.mk xk xa xn xc :: S.drop c3, by have := own_mono O9.out HB.out.size; simpa using this, by rw [Htk.out]; exact (ins_perm S _ c3).trans (List.Perm.append_right _ Hpm.out), ins_order keyL Hor.out _ c3 (by have := HSl.out; omega) Hgt.out HLe.out, HB.out.trans (C9.out.mono HB.out.size), fun h => by omega⟩
                case measure => simp [intOf]; omega
              · have hck2 : ¬ p = c3 := fun e => hck e.symm
                go_wp2
                go_quiet (fail)
                go_wp2_with (first
                  | (at_builtin; refine app_rowsS rfl (.tmp 45) (.tmp 48) rfl w3.heap.size v7 _ rfl O7.out _ (S.drop p) rfl (src_drop S7.out HpS.out (by have := HSl.out; omega) (fun _ => rfl)) (by rw [List.length_append, List.length_take, List.length_drop, List.length_singleton]; have := HSl.out; omega) C7.out.size ?_; intro v9 w9 ho9 hg9; have C9 := hid (C7.out.trans ((Below.refl _ _).grown hg9 C7.out.size (fun q hq => (O7.out.lt q hq).1))); have O9 := hid ho9; clear ho9 hg9)
                  | (at_builtin; refine app_rowL rfl (.tmp 38) (.tmp 43) rfl w5 xk xa xn xc rfl w3.heap.size v5 (S.take p) rfl O5.out rfl (by rw [List.length_take]; have := HSl.out; omega) C5.out.size ?_; intro v7 w7 ho7 hg7; have C7 := hid (C5.out.trans ((Below.refl _ _).grown hg7 C5.out.size (fun q hq => (O5.out.lt q hq).1))); have O7 := hid ho7; have S7 := hid (own_onW HOk.out C7.out); clear ho7 hg7)
                  | (at_builtin; refine app_rowsS rfl (.tmp 33) (.tmp 36) rfl w3.heap.size (.slice none 0 0) [] rfl (World.ownsRow_nil _ _ _ _) _ (S.take p) rfl (src_take (SW.out _) HpS.out) (by rw [List.length_nil, List.length_take]; have := HSl.out; omega) (C4.out _).size ?_; intro v5 w5 ho5 hg5; have C5 := hid ((C4.out _).trans ((Below.refl _ _).grown hg5 (C4.out _).size (fun q hq => by cases hq))); have O5 : Hid (w5.ownsRow w3.heap.size 79 2 v5 (S.take p).length (rcCells (S.take p))) := ho5; obtain ⟨g5, cap5, ev5, ka5, kb5⟩ := HRow.out w5 (HB.out.trans (C5.out.mono HB.out.size)); injection ev5 with y1 y2 y3; have y4 : g = g5 := (by simpa using y1); subst y4; clear ho5 hg5 y1 y2 y3))
                go_roundw
                case rel => exact ⟨k + 1, by omega, by go_num, S.take p ++ RC.mk xk xa xn xc :: S.drop p, by have := own_mono O9.out HB.out.size; simpa using this, by rw [Htk.out]; exact (ins_perm S _ p).trans (List.Perm.append_right _ Hpm.out), ins_order keyL Hor.out _ p (by have := HSl.out; omega) Hgt.out HLe.out, HB.out.trans (C9.out.mono HB.out.size), fun h => by omega⟩
                case measure => simp [intOf]; omega
            · have hgt' : GtS S (RC.mk xk xa xn xc) (p - 1) := fun z hz => by
                rw [Hdr.out] at hz
                rcases List.mem_cons.1 hz with rfl | hz
                · exact t3
                · exact Hgt.out z hz
              have Hgt' := hid hgt'
              clear hgt' t3
              have C5 := hid (C4.out 0)
              go_wp2
              go_quiet (fail)
              go_wp2
              go_roundw
              case rel => exact ⟨p - 1, by omega, by go_num, Hgt'.out, C4.out _⟩
              case measure => simp [intOf]; omega
    · have e : k = N := by omega
      subst e
      have g1 : ¬ (k : Int) < (k : Int) := by omega
      have hall : rs.take k = rs := List.take_of_length_le (by have := HN.out; omega)
      rw [hall] at Hpm
      clear ho hpm hor hb hk0 hall hSl
      go_wp2
      go_ret
      exact ⟨_, S, rfl, HOk.out, Hpm.out, Hor.out, HB.out⟩
end Go.Proofs.YtlkbojgemcjilaaGreatDoor.Xr
