/- The reference's Sorted on rows that are in order. -/
import Derived.Test.YtcchlcbonfdhpaaDoorXSame
import Derived.Test.YtcchlcbonfdhpaaDoorXTx
namespace Go.Proofs.YtcchlcbonfdhpaaDoor
open Go.RowKit Go.Maps Go.Sort Go.Shelf
set_option linter.unusedVariables false
set_option maxRecDepth 20000
/-- append(v, row), v a row of rows of the call's own -/
theorem app_rowL {W : World} {ops : Array Oper} {rest : List Oper} {o : Oper} {a : Act} {Q : Exit → Act → World → Prop} (hgd : o.guard = none) (sl x : Operand)
    (ho : o.op = .call { callee := .builtin .append, args := #[sl, x], argTypes := #[34, 34] }) (w : World) (k : ByteArray) (ca : Option Addr) (cn cc : Nat) (hW : W = w.alloc (.cells #[.string k, .slice ca cn cc] 67)) (base : Nat) (v : Value) (l : List RC) (hs : a.eval sl = v)
    (hown : w.ownsRow base 67 2 v l.length (rcCells l)) (hx : a.eval x = .slice (some ⟨w.heap.size, 0, none⟩) 1 1) (hb : l.length ≤ 2000000000) (hbase : base ≤ w.heap.size)
    (h : ∀ v' w', w'.ownsRow base 67 2 v' (l ++ [RC.mk k ca cn cc]).length (rcCells (l ++ [RC.mk k ca cn cc])) → w.grownBy w' v.ownBlock → wpList Tryd.prog ops Q rest (a.put o.dst v') w') :
    wpList Tryd.prog ops Q (o :: rest) a W := by
  subst hW
  obtain ⟨i0, hi, hz0, hz1, hz2⟩ := info_parts Tryd.info67
  refine wpList_append_own _ hgd sl x 34 ho base 67 i0 (.agg #[.string ⟨#[]⟩, .slice none 0 0]) 2 40 Tryd.underlying34 hi hz0 hz1 hz2 rfl (by decide) v l.length (rcCells l) hs (hown.alloc _) ⟨w.heap.size, 0, none⟩ 1 1 [.string k, .slice ca cn cc] hx rfl (World.news_of_block (cs := #[.string k, .slice ca cn cc]) (t := 67) (fr := (0, 0)) (MapKept.heap_alloc w _).1) (by simp [Value.oneCell']) (by unfold maxLen; omega) (by omega) (by simp; omega) ?_
  intro v' w' h1 h2 h3
  refine h v' w' ?_ ((World.grownBy_alloc w _ _).trans h2)
  rw [rcCells_snoc, List.length_append]
  exact h1
/-- append(v, nothing) -/
theorem app_rowN {w : World} {ops : Array Oper} {rest : List Oper} {o : Oper} {a : Act} {Q : Exit → Act → World → Prop} (hgd : o.guard = none) (sl x : Operand)
    (ho : o.op = .call { callee := .builtin .append, args := #[sl, x], argTypes := #[34, 34] }) (base : Nat) (v : Value) (l : List RC) (hs : a.eval sl = v)
    (hown : w.ownsRow base 67 2 v l.length (rcCells l)) (ad : Addr) (c : Nat) (hx : a.eval x = .slice (some ad) 0 c) (hb : l.length ≤ 2000000000) (hbase : base ≤ w.heap.size)
    (h : ∀ v' w', w'.ownsRow base 67 2 v' l.length (rcCells l) → w.grownBy w' v.ownBlock → wpList Tryd.prog ops Q rest (a.put o.dst v') w') :
    wpList Tryd.prog ops Q (o :: rest) a w := by
  obtain ⟨i0, hi, hz0, hz1, hz2⟩ := info_parts Tryd.info67
  refine wpList_append_own w hgd sl x 34 ho base 67 i0 (.agg #[.string ⟨#[]⟩, .slice none 0 0]) 2 40 Tryd.underlying34 hi hz0 hz1 hz2 rfl (by decide) v l.length (rcCells l) hs hown ad 0 c [] hx rfl (fun j u hj => by simp at hj) (fun u hu => by cases hu) (by unfold maxLen; omega) (by omega) hbase ?_
  intro v' w' h1 h2 h3
  refine h v' w' ?_ h2
  rw [List.append_nil] at h1
  exact h1
set_option maxHeartbeats 12800000 in
theorem sorted_any {V : World} {B : Nat} {v : Value} {rs : List RC} {m : List Rw} (ho : V.ownsRow B 67 2 v rs.length (rcCells rs)) (hi : RowsIs V rs m) (hl : rs.length ≤ 1000000) (hup : ∀ k (h : k + 1 < rs.length), Op.bytesLess rs[k].key.toList rs[k + 1].key.toList = true) :
    Calls Tryd.prog 37 #[v] V (RowsPost V m) := by
  have HO := hid ho
  have HI := hid hi
  have Hup := hid hup
  obtain ⟨a0, c0, e0⟩ := slice_of_own ho
  obtain ⟨N, hN⟩ : ∃ N, N = rs.length := ⟨_, rfl⟩
  rw [← hN] at hl e0
  have HN := hid hN
  have E0 := hid e0
  rw [e0]
  clear ho hi hup hN e0
  go_enter Tryd.func37, Tryd.ntmps37
  go_wp2
  go_loopw [3, 4] (fun v i wr => ∃ k : Nat, k ≤ N ∧ i = .int .i64 k ∧ wr.ownsRow V.heap.size 67 2 v (rs.take k).length (rcCells (rs.take k)) ∧ Below V.heap.size V wr)
    (fun _ i _ => N - (intOf i).toNat)
  case atStart => exact ⟨0, Nat.zero_le _, rfl, World.ownsRow_nil _ _ _ _, Below.refl _ _⟩
  case round =>
    obtain ⟨k, hk, rfl, ho, hb⟩ := hrel
    have HOk := hid ho
    have HB := hid hb
    have htl : (rs.take k).length = k := by rw [List.length_take]; have := HN.out; omega
    have Htl := hid htl
    obtain ⟨a3, c3, e3⟩ := slice_of_own ho
    rw [htl] at e3
    subst e3
    clear ho hb htl
    by_cases hlt : k < N
    · have g1 : (k : Int) < (N : Int) := by omega
      have g0 : (0 : Int) ≤ (k : Int) := by omega
      have hcase : (a3 = none ∧ c3 = 0 ∧ k = 0) ∨ ∃ g', a3 = some ⟨g', 0, none⟩ ∧ k ≤ c3 := by
        rcases HOk.out.2 with ⟨hv, hz⟩ | ⟨g', cap', cur, hv, _, _, hc, _⟩
        · injection hv with h1 h2 h3
          exact .inl ⟨h1, h3, h2⟩
        · injection hv with h1 h2 h3
          exact .inr ⟨g', h1, by rw [h3, h2]; exact hc⟩
      rcases hcase with ⟨rfl, rfl, rfl⟩ | ⟨g', rfl, hkc⟩
      · skip
        obtain ⟨w3, hw3⟩ : ∃ w3, w3 = wr := ⟨_, rfl⟩
        rw [← hw3] at HOk HB ⊢
        clear hw3
        go_wp2
        go_loopw [5] (fun i wr => i = .int .i64 (0 : Nat) ∧ Below w3.heap.size w3 wr) (fun _ _ => 0)
        case atStart => exact ⟨rfl, Below.refl _ _⟩
        case round =>
          obtain ⟨rfl, hb4⟩ := hrel
          have HB4 := hid hb4
          have HBB := hid (Below.on' HB.out hb4)
          obtain ⟨g, cap, ev1, ka, kb⟩ := rows_at (own_onW HO.out HBB.out) 0 (by have := HN.out; omega)
          rw [E0.out] at ev1
          injection ev1 with x1 x2 x3
          subst x1
          have B5 := hid (fun (q : Nat) => Below.on' HBB.out (below_drewN _ _ q))
          have OW := hid (fun (q : Nat) => own_onW (own_onW HOk.out HB4.out) (below_drewN _ _ q))
          clear hb4 x2 x3

          go_wp2
          go_quiet (fail)
          go_wp2_with (first
            | (at_builtin; refine app_rows rfl _ _ rfl V.heap.size (.slice none 0 0) [] rfl (World.ownsRow_nil _ _ _ _) V.heap.size _ (rs.take 0) rfl (OW.out _) (by rw [List.length_nil]; have := Htl.out; omega) (B5.out _).size ?_; intro v5 w5 ho5 hg5; have B6 := hid ((B5.out _).trans ((Below.refl _ _).grown hg5 (B5.out _).size (fun q hq => by cases hq))); have O6 : Hid (w5.ownsRow V.heap.size 67 2 v5 (rs.take 0).length (rcCells (rs.take 0))) := ho5; have hq6 := rows_at (own_onW HO.out B6.out) 0 (by have := HN.out; omega); obtain ⟨g6, cap6, ev6, ka6, kb6⟩ := hq6; rw [E0.out] at ev6; injection ev6 with y1 y2 y3; have y4 : g = g6 := (by simpa using y1); subst y4; clear ho5 hg5 y1 y2 y3)
            | (at_builtin; refine app_rowL rfl _ _ rfl _ _ _ _ _ rfl V.heap.size v5 (rs.take 0) rfl O6.out rfl (by have := Htl.out; omega) B6.out.size ?_; intro v7 w7 ho7 hg7; have B7 := hid (B6.out.trans ((Below.refl _ _).grown hg7 B6.out.size (fun q hq => (O6.out.lt q hq).1))); have O7 := hid ho7; clear ho7 hg7)
            | (at_builtin; obtain ⟨i0, hi, _, _, _⟩ := info_parts Tryd.info67; refine wpList_append_own_none rfl _ _ 34 rfl V.heap.size 67 i0 2 Tryd.underlying34 hi v7 _ _ rfl O7.out rfl ?_; have O8 := hid O7.out; have B8 := hid B7.out))
          go_roundw
          case rel => exact ⟨0 + 1, by omega, by go_num, by rw [List.take_succ_eq_append_getElem (by have := HN.out; omega)]; exact O8.out, B8.out⟩
          case measure => simp [intOf]; omega
      · have gc : (k : Int) ≤ (c3 : Int) := by omega
        by_cases hk0 : k = 0
        · subst hk0
          obtain ⟨w3, hw3⟩ : ∃ w3, w3 = wr := ⟨_, rfl⟩
          rw [← hw3] at HOk HB ⊢
          clear hw3
          go_wp2
          go_loopw [5] (fun i wr => i = .int .i64 (0 : Nat) ∧ Below w3.heap.size w3 wr) (fun _ _ => 0)
          case atStart => exact ⟨rfl, Below.refl _ _⟩
          case round =>
            obtain ⟨rfl, hb4⟩ := hrel
            have HB4 := hid hb4
            have HBB := hid (Below.on' HB.out hb4)
            obtain ⟨g, cap, ev1, ka, kb⟩ := rows_at (own_onW HO.out HBB.out) 0 (by have := HN.out; omega)
            rw [E0.out] at ev1
            injection ev1 with x1 x2 x3
            subst x1
            have B5 := hid (fun (q : Nat) => Below.on' HBB.out (below_drewN _ _ q))
            have OW := hid (fun (q : Nat) => own_onW (own_onW HOk.out HB4.out) (below_drewN _ _ q))
            clear hb4 x2 x3

            go_wp2
            go_quiet (fail)
            go_wp2_with (first
              | (at_builtin; refine app_rows rfl _ _ rfl V.heap.size (.slice none 0 0) [] rfl (World.ownsRow_nil _ _ _ _) V.heap.size _ (rs.take 0) rfl (OW.out _) (by rw [List.length_nil]; have := Htl.out; omega) (B5.out _).size ?_; intro v5 w5 ho5 hg5; have B6 := hid ((B5.out _).trans ((Below.refl _ _).grown hg5 (B5.out _).size (fun q hq => by cases hq))); have O6 : Hid (w5.ownsRow V.heap.size 67 2 v5 (rs.take 0).length (rcCells (rs.take 0))) := ho5; have hq6 := rows_at (own_onW HO.out B6.out) 0 (by have := HN.out; omega); obtain ⟨g6, cap6, ev6, ka6, kb6⟩ := hq6; rw [E0.out] at ev6; injection ev6 with y1 y2 y3; have y4 : g = g6 := (by simpa using y1); subst y4; clear ho5 hg5 y1 y2 y3)
              | (at_builtin; refine app_rowL rfl _ _ rfl _ _ _ _ _ rfl V.heap.size v5 (rs.take 0) rfl O6.out rfl (by have := Htl.out; omega) B6.out.size ?_; intro v7 w7 ho7 hg7; have B7 := hid (B6.out.trans ((Below.refl _ _).grown hg7 B6.out.size (fun q hq => (O6.out.lt q hq).1))); have O7 := hid ho7; clear ho7 hg7)
              | (at_builtin; refine app_rowN rfl _ _ rfl V.heap.size v7 _ rfl O7.out _ _ rfl (by rw [List.length_append, List.length_singleton]; have := Htl.out; omega) B7.out.size ?_; intro v9 w9 ho9 hg9; have B8 := hid (B7.out.trans ((Below.refl _ _).grown hg9 B7.out.size (fun q hq => (O7.out.lt q hq).1))); have O8 := hid ho9; clear ho9 hg9))
            go_roundw
            case rel => exact ⟨0 + 1, by omega, by go_num, by rw [List.take_succ_eq_append_getElem (by have := HN.out; omega)]; exact O8.out, B8.out⟩
            case measure => simp [intOf]; omega
        · have gk : (0 : Int) < (k : Int) := by omega
          by_cases hck : c3 = k
          · cases hck
            obtain ⟨w3, hw3⟩ : ∃ w3, w3 = wr := ⟨_, rfl⟩
            rw [← hw3] at HOk HB ⊢
            clear hw3
            go_wp2
            go_loopw [5] (fun i wr => i = .int .i64 (k : Nat) ∧ Below w3.heap.size w3 wr) (fun _ _ => 0)
            case atStart => exact ⟨rfl, Below.refl _ _⟩
            case round =>
              obtain ⟨rfl, hb4⟩ := hrel
              have HB4 := hid hb4
              have HBB := hid (Below.on' HB.out hb4)
              obtain ⟨g, cap, ev1, ka, kb⟩ := rows_at (own_onW HO.out HBB.out) k (by have := HN.out; omega)
              rw [E0.out] at ev1
              injection ev1 with x1 x2 x3
              subst x1
              have B5 := hid (fun (q : Nat) => Below.on' HBB.out (below_drewN _ _ q))
              have OW := hid (fun (q : Nat) => own_onW (own_onW HOk.out HB4.out) (below_drewN _ _ q))
              clear hb4 x2 x3
              obtain ⟨gq, capq, ev2, la, lb⟩ := rows_at (own_onW HOk.out HB4.out) (k - 1) (by rw [Htl.out]; omega)
              injection ev2 with z1 z2 z3
              have z4 : g' = gq := by simpa using z1
              subst z4
              clear z1
              clear z2 z3 lb
              have hlk : Op.bytesLess (rs[k - 1]'(by have := HN.out; omega)).key.toList (rs[k]'(by have := HN.out; omega)).key.toList = true := by
                have h9 := Hup.out (k - 1) (by have := HN.out; omega)
                have e9 : k - 1 + 1 = k := by omega
                simpa only [e9] using h9
              have gk1 : (0 : Int) ≤ (k : Int) - 1 := by omega
              have gk2 : (k : Int) - 1 < (k : Int) := by omega
              have gkd : decide (0 < k) = true := by simp; omega
              have gw : IntKind.i64.wrap ((k : Int) - 1) = (k : Int) - 1 := by rw [IntKind.wrap_i64]; omega
              have gt : ((k : Int) - 1).toNat = k - 1 := by omega
              go_wp2
              go_quiet (fail)
              go_wp2_with (first
                | (at_builtin; refine app_rows rfl _ _ rfl V.heap.size (.slice none 0 0) [] rfl (World.ownsRow_nil _ _ _ _) V.heap.size _ (rs.take k) rfl (OW.out _) (by rw [List.length_nil]; have := Htl.out; omega) (B5.out _).size ?_; intro v5 w5 ho5 hg5; have B6 := hid ((B5.out _).trans ((Below.refl _ _).grown hg5 (B5.out _).size (fun q hq => by cases hq))); have O6 : Hid (w5.ownsRow V.heap.size 67 2 v5 (rs.take k).length (rcCells (rs.take k))) := ho5; have hq6 := rows_at (own_onW HO.out B6.out) k (by have := HN.out; omega); obtain ⟨g6, cap6, ev6, ka6, kb6⟩ := hq6; rw [E0.out] at ev6; injection ev6 with y1 y2 y3; have y4 : g = g6 := (by simpa using y1); subst y4; clear ho5 hg5 y1 y2 y3)
                | (at_builtin; refine app_rowL rfl _ _ rfl _ _ _ _ _ rfl V.heap.size v5 (rs.take k) rfl O6.out rfl (by have := Htl.out; omega) B6.out.size ?_; intro v7 w7 ho7 hg7; have B7 := hid (B6.out.trans ((Below.refl _ _).grown hg7 B6.out.size (fun q hq => (O6.out.lt q hq).1))); have O7 := hid ho7; clear ho7 hg7)
                | (at_builtin; refine app_rowN rfl _ _ rfl V.heap.size v7 _ rfl O7.out _ _ rfl (by rw [List.length_append, List.length_singleton]; have := Htl.out; omega) B7.out.size ?_; intro v9 w9 ho9 hg9; have B8 := hid (B7.out.trans ((Below.refl _ _).grown hg9 B7.out.size (fun q hq => (O7.out.lt q hq).1))); have O8 := hid ho9; clear ho9 hg9))
              go_roundw
              case rel => exact ⟨k + 1, by omega, by go_num, by rw [List.take_succ_eq_append_getElem (by have := HN.out; omega)]; exact O8.out, B8.out⟩
              case measure => simp [intOf]; omega
          · have hck2 : ¬ k = c3 := fun e => hck e.symm
            obtain ⟨w3, hw3⟩ : ∃ w3, w3 = wr := ⟨_, rfl⟩
            rw [← hw3] at HOk HB ⊢
            clear hw3
            go_wp2
            go_loopw [5] (fun i wr => i = .int .i64 (k : Nat) ∧ Below w3.heap.size w3 wr) (fun _ _ => 0)
            case atStart => exact ⟨rfl, Below.refl _ _⟩
            case round =>
              obtain ⟨rfl, hb4⟩ := hrel
              have HB4 := hid hb4
              have HBB := hid (Below.on' HB.out hb4)
              obtain ⟨g, cap, ev1, ka, kb⟩ := rows_at (own_onW HO.out HBB.out) k (by have := HN.out; omega)
              rw [E0.out] at ev1
              injection ev1 with x1 x2 x3
              subst x1
              have B5 := hid (fun (q : Nat) => Below.on' HBB.out (below_drewN _ _ q))
              have OW := hid (fun (q : Nat) => own_onW (own_onW HOk.out HB4.out) (below_drewN _ _ q))
              clear hb4 x2 x3
              obtain ⟨gq, capq, ev2, la, lb⟩ := rows_at (own_onW HOk.out HB4.out) (k - 1) (by rw [Htl.out]; omega)
              injection ev2 with z1 z2 z3
              have z4 : g' = gq := by simpa using z1
              subst z4
              clear z1
              clear z2 z3 lb
              have hlk : Op.bytesLess (rs[k - 1]'(by have := HN.out; omega)).key.toList (rs[k]'(by have := HN.out; omega)).key.toList = true := by
                have h9 := Hup.out (k - 1) (by have := HN.out; omega)
                have e9 : k - 1 + 1 = k := by omega
                simpa only [e9] using h9
              have gk1 : (0 : Int) ≤ (k : Int) - 1 := by omega
              have gk2 : (k : Int) - 1 < (k : Int) := by omega
              have gkd : decide (0 < k) = true := by simp; omega
              have gw : IntKind.i64.wrap ((k : Int) - 1) = (k : Int) - 1 := by rw [IntKind.wrap_i64]; omega
              have gt : ((k : Int) - 1).toNat = k - 1 := by omega
              go_wp2
              go_quiet (fail)
              go_wp2_with (first
                | (at_builtin; refine app_rows rfl _ _ rfl V.heap.size (.slice none 0 0) [] rfl (World.ownsRow_nil _ _ _ _) V.heap.size _ (rs.take k) rfl (OW.out _) (by rw [List.length_nil]; have := Htl.out; omega) (B5.out _).size ?_; intro v5 w5 ho5 hg5; have B6 := hid ((B5.out _).trans ((Below.refl _ _).grown hg5 (B5.out _).size (fun q hq => by cases hq))); have O6 : Hid (w5.ownsRow V.heap.size 67 2 v5 (rs.take k).length (rcCells (rs.take k))) := ho5; have hq6 := rows_at (own_onW HO.out B6.out) k (by have := HN.out; omega); obtain ⟨g6, cap6, ev6, ka6, kb6⟩ := hq6; rw [E0.out] at ev6; injection ev6 with y1 y2 y3; have y4 : g = g6 := (by simpa using y1); subst y4; clear ho5 hg5 y1 y2 y3)
                | (at_builtin; refine app_rowL rfl _ _ rfl _ _ _ _ _ rfl V.heap.size v5 (rs.take k) rfl O6.out rfl (by have := Htl.out; omega) B6.out.size ?_; intro v7 w7 ho7 hg7; have B7 := hid (B6.out.trans ((Below.refl _ _).grown hg7 B6.out.size (fun q hq => (O6.out.lt q hq).1))); have O7 := hid ho7; clear ho7 hg7)
                | (at_builtin; refine app_rowN rfl _ _ rfl V.heap.size v7 _ rfl O7.out _ _ rfl (by rw [List.length_append, List.length_singleton]; have := Htl.out; omega) B7.out.size ?_; intro v9 w9 ho9 hg9; have B8 := hid (B7.out.trans ((Below.refl _ _).grown hg9 B7.out.size (fun q hq => (O7.out.lt q hq).1))); have O8 := hid ho9; clear ho9 hg9))
              go_roundw
              case rel => exact ⟨k + 1, by omega, by go_num, by rw [List.take_succ_eq_append_getElem (by have := HN.out; omega)]; exact O8.out, B8.out⟩
              case measure => simp [intOf]; omega
    · have e : k = N := by omega
      subst e
      have g1 : ¬ (k : Int) < (k : Int) := by omega
      have h3 := HOk.out
      rw [List.take_of_length_le (by have := HN.out; omega)] at h3
      have H3 := hid h3
      clear h3
      go_wp2
      go_ret
      exact ⟨_, rs, rfl, H3.out, HI.out.below HB.out, HB.out⟩
end Go.Proofs.YtcchlcbonfdhpaaDoor
