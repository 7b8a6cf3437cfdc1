/- The parts of a key, as the reference reads them. -/
import Derived.Test.YtgjahhfpfdgjhaaDoorPMath
namespace Go.Proofs.YtgjahhfpfdgjhaaDoor
open Go.RowKit
set_option linter.unusedVariables false

/-- append(v, c): which blocks turn -/
theorem app_litK (w : World) {ops : Array Oper} {rest : List Oper} {o : Oper} {a : Act} {Q : Exit → Act → World → Prop} (hgd : o.guard = none) (s x : Operand)
    (ho : o.op = .call { callee := .builtin .append, args := #[s, x], argTypes := #[23, 23] }) (base : Nat) (v : Value) (xs : List UInt8) (hs : a.eval s = v)
    (hown : w.ownsRow base 5 1 v xs.length (cellsOf xs)) (c : UInt8) (hx : a.eval x = .slice (some ⟨w.heap.size, 0, none⟩) 1 1) (hb : xs.length ≤ 1000000) (hbase : base ≤ w.heap.size)
    (h : ∀ v' w', w'.ownsRow base 5 1 v' (xs ++ [c]).length (cellsOf (xs ++ [c])) → Below base w w' → (∀ j, j < w.heap.size → some j ≠ v.ownBlock → w'.heap[j]? = w.heap[j]?) → wpList Tryd.prog ops Q rest (a.put o.dst v') w') :
    wpList Tryd.prog ops Q (o :: rest) a (w.alloc (.cells #[.int .u8 (c.toNat : Int)] 5)) := by
  obtain ⟨i0, hi, hz0, hz1, hz2⟩ := info_parts Tryd.info5
  refine wpList_append_own _ hgd s x 23 ho base 5 i0 (.int .u8 0) 1 1 Tryd.underlying23 hi hz0 hz1 hz2 rfl (by decide) v xs.length (cellsOf xs) hs (hown.alloc _) ⟨w.heap.size, 0, none⟩ 1 1 [.int .u8 (c.toNat : Int)] hx rfl (cell_one_new _ _ _) (fun u hu => by simp at hu; subst hu; rfl) (by unfold maxLen; omega) (by omega) (by simp; omega) ?_
  intro v' w' h1 h2 h3
  have e : cellsOf xs ++ [.int .u8 (c.toNat : Int)] = cellsOf (xs ++ [c]) := by simp [cellsOf]
  have e2 : xs.length + 1 = (xs ++ [c]).length := by simp
  rw [e, e2] at h1
  refine h v' w' h1 (((Below.refl _ _).alloc hbase _).trans ((Below.refl _ _).grown h2 (by simp; omega) (fun k hk => (hown.lt k hk).1))) fun j hj hne => ?_
  rw [h2.block j (by simp; omega) hne]
  exact Below.heap_alloc _ _ _ hj
/-- append(v, text): which blocks turn -/
theorem app_textK (w : World) {ops : Array Oper} {rest : List Oper} {o : Oper} {a : Act} {Q : Exit → Act → World → Prop} (hgd : o.guard = none) (sl x : Operand)
    (ho : o.op = .call { callee := .builtin .append, args := #[sl, x], argTypes := #[22, 22] }) (base : Nat) (v : Value) (xs : List ByteArray) (hs : a.eval sl = v)
    (hown : w.ownsRow base 9 1 v xs.length (strsOf xs)) (s : ByteArray) (hx : a.eval x = .slice (some ⟨w.heap.size, 0, none⟩) 1 1) (hb : xs.length ≤ 1000000) (hbase : base ≤ w.heap.size)
    (h : ∀ v' w', w'.ownsRow base 9 1 v' (xs ++ [s]).length (strsOf (xs ++ [s])) → Below base w w' → (∀ j, j < w.heap.size → some j ≠ v.ownBlock → w'.heap[j]? = w.heap[j]?) → wpList Tryd.prog ops Q rest (a.put o.dst v') w') :
    wpList Tryd.prog ops Q (o :: rest) a (w.alloc (.cells #[.string s] 9)) := by
  obtain ⟨i0, hi, hz0, hz1, hz2⟩ := info_parts Tryd.info9
  refine wpList_append_own _ hgd sl x 22 ho base 9 i0 (.string ⟨#[]⟩) 1 16 Tryd.underlying22 hi hz0 hz1 hz2 rfl (by decide) v xs.length (strsOf xs) hs (hown.alloc _) ⟨w.heap.size, 0, none⟩ 1 1 [.string s] hx rfl (cell_one_new _ _ _) (fun u hu => by simp at hu; subst hu; rfl) (by unfold maxLen; omega) (by omega) (by simp; omega) ?_
  intro v' w' h1 h2 h3
  have e : strsOf xs ++ [.string s] = strsOf (xs ++ [s]) := by simp [strsOf]
  have e2 : xs.length + 1 = (xs ++ [s]).length := by simp
  rw [e, e2] at h1
  refine h v' w' h1 (((Below.refl _ _).alloc hbase _).trans ((Below.refl _ _).grown h2 (by simp; omega) (fun k hk => (hown.lt k hk).1))) fun j hj hne => ?_
  rw [h2.block j (by simp; omega) hne]
  exact Below.heap_alloc _ _ _ hj
theorem own_otherK {w w' : World} {B B' e e' n n' : Nat} {u v : Value} {ys zs : List Value} (h : w.ownsRow B e 1 u n ys) (h' : w.ownsRow B' e' 1 v n' zs) (hte : e ≠ e') (hk : ∀ j, j < w.heap.size → some j ≠ v.ownBlock → w'.heap[j]? = w.heap[j]?) : w'.ownsRow B e 1 u n ys := by
  refine ⟨h.1, ?_⟩
  rcases h.2 with h0 | ⟨g, cap, cur, hv, hg, hgb, r⟩
  · exact .inl h0
  · refine .inr ⟨g, cap, cur, hv, hg, (hk g (Array.getElem?_eq_some_iff.1 hgb).1 (fun e => ?_)).trans hgb, r⟩
    rcases h'.2 with ⟨rfl, _⟩ | ⟨g', cap', cur', hv', _, hgb', _⟩
    · simp [Value.ownBlock] at e
    · rw [hv'] at e
      have hgg : g = g' := by simpa [Value.ownBlock] using e
      rw [hgg, hgb'] at hgb
      simp at hgb
      exact hte hgb.2.symm

set_option maxHeartbeats 4000000 in
set_option maxRecDepth 20000 in
theorem refParts_any (x : List UInt8) (a : Option Addr) (cap : Nat) (w : World) (hB : Bytes w a x) (hlen : x.length ≤ 140737488351232) :
    Calls Tryd.prog 15 #[.slice a x.length cap] w (TextsPost (parRes x) (parErr x) w) := by
  by_cases h64 : 64 < x.length
  · have e1 : parErr x = 6 := by unfold parErr; rw [if_pos h64]
    have e2 : parRes x = [] := by unfold parRes; rw [e1, if_neg (by omega)]
    rw [e1, e2]
    have d0 : (64 : Int) < (x.length : Int) := by omega
    go_enter Tryd.func15, Tryd.ntmps15
    go_wp2
    go_ret2
    exact TextsPost.none _ (Below.refl _ _)
  have Hnone := hid (parErr_none x h64)
  have Hsome := hid (parErr_some x h64)
  generalize parErr x = er at *
  generalize parRes x = rr at *
  have HB := hid hB
  obtain ⟨N, hN⟩ : ∃ N, N = x.length := ⟨_, rfl⟩
  have HN := hid hN
  rw [← hN] at h64 ⊢
  have d0 : ¬ (64 : Int) < (N : Int) := by omega
  clear hB hN hlen
  go_enter Tryd.func15, Tryd.ntmps15
  go_wp2
  clear d0
  go_loopw [4, 5, 6, 7] (fun v4 v5 v6 v7 wr => ∃ (k : Nat) (out : List ByteArray) (part : List UInt8), k ≤ N ∧ v7 = .int .i64 (k : Int) ∧ v6 = .bool (decide (part ≠ [])) ∧
      wr.ownsRow w.heap.size 9 1 v4 out.length (strsOf out) ∧ wr.ownsRow w.heap.size 5 1 v5 part.length (cellsOf part) ∧ Below w.heap.size w wr ∧ x = keyOf (bs out) ++ esc part ++ x.drop k ∧ out.length ≤ k ∧ part.length ≤ k) (fun _ _ _ v7 _ => N - (intOf v7).toNat)
  case atStart => exact ⟨0, [], [], Nat.zero_le _, rfl, by simp, World.ownsRow_nil _ _ _ _, World.ownsRow_nil _ _ _ _, Below.refl _ _, by simp [bs, keyOf, esc], Nat.le_refl _, Nat.le_refl _⟩
  case round =>
    obtain ⟨k, out, part, hk, rfl, rfl, hown4, hown5, hbel, hx, hok, hpk⟩ := hrel
    have Hown4 := hid hown4
    have Hown5 := hid hown5
    have Hbel := hid hbel
    have Hx := hid hx
    have hsz := hbel.size
    clear hown4 hown5 hbel hx
    by_cases hlt : k < N
    · have d1 : (k : Int) < (N : Int) := by omega
      have hkx : k < x.length := by have := HN.out; omega
      obtain ⟨b, o, ha, hc⟩ := (HB.out.below Hbel.out) k hkx
      subst ha
      have Hd := hid (drop_get x k hkx)
      generalize hcc : x[k]'hkx = c at hc Hd
      clear hcc
      by_cases h0 : c = 0
      · subst h0
        have q0 : (((0 : UInt8).toNat : Int) != 0) = false := by simp
        have q0' : ((0 : UInt8).toNat : Int) = 0 := by simp
        have hk1 : k + 1 ≤ N := by omega
        by_cases hlt2 : k + 1 < N
        · have d2 : (k : Int) + 1 < (N : Int) := by omega
          have hkx2 : k + 1 < x.length := by have := HN.out; omega
          obtain ⟨b', o', ha', hc2⟩ := (HB.out.below Hbel.out) (k + 1) hkx2
          cases ha'
          have Hd2 := hid (drop_get x (k + 1) hkx2)
          generalize hdd : x[k + 1]'hkx2 = d at hc2 Hd2
          clear hdd
          have j0 : (0 : Int) ≤ (k : Int) + 1 := by omega
          have hc3 : wr.cell? ⟨b, o + ((k : Int) + 1).toNat, none⟩ = some (.int .u8 (d.toNat : Int)) := by rw [show ((k : Int) + 1).toNat = k + 1 by omega]; exact hc2
          have w7 : IntKind.i64.wrap ((k : Int) + 1) = (k : Int) + 1 := by rw [IntKind.wrap_i64]; omega
          by_cases h255 : d = 255
          · subst h255
            have q1 : (((255 : UInt8).toNat : Int) == 255) = true := by simp
            go_wp2_with (at_builtin; refine app_litK _ rfl (.tmp 43) (.tmp 44) rfl w.heap.size _ part rfl Hown5.out 0 rfl (by omega) hsz ?_; intro v1 w1 ho1 hb1 hk1'; have Ho1 := hid ho1; have Hb1 := hid hb1; have Ho4 := hid (own_otherK Hown4.out Hown5.out (by decide) hk1'); clear ho1 hb1 hk1')
            go_roundw
            case rel =>
              refine ⟨k + 2, out, part ++ [0], by omega, by go_num, by simp, Ho4.out, Ho1.out, Hbel.out.trans Hb1.out, ?_, by omega, by simp; omega⟩
              conv => lhs; rw [Hx.out, Hd.out, Hd2.out]
              rw [esc_append]
              simp [esc]
            case measure => simp [intOf]; omega
          · have q1 : ((d.toNat : Int) == 255) = false := by
              rw [beq_eq_false_iff_ne]
              intro e
              exact h255 (UInt8.toNat_inj.1 (by have : d.toNat = 255 := by omega
                                                rw [this]; rfl))
            by_cases h1 : d = 1
            · subst h1
              have q2 : (((1 : UInt8).toNat : Int) == 1) = true := by simp
              obtain ⟨a5, c5, rfl, hB5, hc5⟩ := bytes_of_own Hown5.out
              have hcv := conv_all wr a5 c5 part hB5
              obtain ⟨sp, hsp⟩ : ∃ sp, sp = mkText part := ⟨_, rfl⟩
              rw [show (⟨part.toArray⟩ : ByteArray) = sp from hsp.symm] at hcv
              have Hsp := hid hsp
              clear hB5 hc5 hsp
              go_wp2_with (at_builtin; refine app_textK _ rfl (.tmp 58) (.tmp 61) rfl w.heap.size _ out rfl Hown4.out sp rfl (by omega) hsz ?_; intro v1 w1 ho1 hb1 hk1'; have Ho1 := hid ho1; have Hb1 := hid hb1; clear ho1 hb1 hk1')
              go_roundw
              case rel =>
                refine ⟨k + 2, out ++ [sp], [], by omega, by go_num, by simp, Ho1.out, World.ownsRow_nil _ _ _ _, Hbel.out.trans Hb1.out, ?_, by simp; omega, by simp⟩
                conv => lhs; rw [Hx.out, Hd.out, Hd2.out]
                rw [show bs (out ++ [sp]) = bs out ++ [part] by rw [Hsp.out]; simp [bs, mkText], key_append]
                simp [esc, keyOf]
              case measure => simp [intOf]; omega
            · have q2 : ((d.toNat : Int) == 1) = false := by
                rw [beq_eq_false_iff_ne]
                intro e
                exact h1 (UInt8.toNat_inj.1 (by have : d.toNat = 1 := by omega
                                                rw [this]; rfl))
              have hbad : ∀ ps, ¬ IsParts x ps := fun ps hp => by
                have h9 := hp.1.trans Hx.out
                rw [Hd.out, Hd2.out] at h9
                have := (key_stuck _ _ _ _ h9 (Or.inr (Or.inr ⟨d, _, rfl, h1, h255⟩))).2.2
                cases this
              obtain ⟨e1, e2⟩ := Hnone.out hbad
              subst e1
              subst e2
              clear hbad
              go_wp2
              go_ret2
              exact TextsPost.none _ Hbel.out
        · have d2 : ¬ (k : Int) + 1 < (N : Int) := by omega
          have w7 : IntKind.i64.wrap ((k : Int) + 1) = (k : Int) + 1 := by rw [IntKind.wrap_i64]; omega
          have hbad : ∀ ps, ¬ IsParts x ps := fun ps hp => by
            have h9 := hp.1.trans Hx.out
            rw [Hd.out, List.drop_eq_nil_of_le (by have := HN.out; omega)] at h9
            have := (key_stuck _ _ _ _ h9 (Or.inr (Or.inl rfl))).2.2
            cases this
          obtain ⟨e1, e2⟩ := Hnone.out hbad
          subst e1
          subst e2
          clear hbad
          go_wp2
          go_ret2
          exact TextsPost.none _ Hbel.out
      · have q0 : ((c.toNat : Int) != 0) = true := by
          rw [bne_iff_ne]
          intro e
          exact h0 (UInt8.toNat_inj.1 (by simpa using e))
        go_wp2_with (at_builtin; refine app_litK _ rfl (.tmp 22) (.tmp 27) rfl w.heap.size _ part rfl Hown5.out c rfl (by omega) hsz ?_; intro v1 w1 ho1 hb1 hk1; have Ho1 := hid ho1; have Hb1 := hid hb1; have Ho4 := hid (own_otherK Hown4.out Hown5.out (by decide) hk1); clear ho1 hb1 hk1)
        go_roundw
        case rel =>
          refine ⟨k + 1, out, part ++ [c], by omega, by go_num, by simp, Ho4.out, Ho1.out, Hbel.out.trans Hb1.out, ?_, by omega, by simp; omega⟩
          conv => lhs; rw [Hx.out, Hd.out]
          rw [esc_append]
          simp [esc, h0]
        case measure => simp [intOf]; omega
    · have d1 : ¬ (k : Int) < (N : Int) := by omega
      have hxe : x = keyOf (bs out) ++ esc part := by
        have h9 := Hx.out
        rw [List.drop_eq_nil_of_le (by have := HN.out; omega), List.append_nil] at h9
        exact h9
      have hbl : (bs out).length = out.length := by unfold bs; simp
      by_cases hp0 : part = []
      · subst hp0
        have hxk : keyOf (bs out) = x := by rw [hxe]; simp [esc]
        have q6 : decide (([] : List UInt8) ≠ []) = false := by simp
        obtain ⟨a4, c4, rfl, hT4, hc4⟩ := texts_of_own Hown4.out
        have HT4 := hid hT4
        clear hT4 hxe
        by_cases hl : out.length < 1
        · have l1 : (out.length : Int) < 1 := by omega
          obtain ⟨e1, e2⟩ := Hnone.out (fun ps hp => by have := (key_inj _ _).1 (hp.1.trans hxk.symm); rw [this] at hp; have := hp.2; omega)
          subst e1
          subst e2
          clear hxk
          go_wp2
          go_ret2
          exact TextsPost.none _ Hbel.out
        · have l1 : ¬ (out.length : Int) < 1 := by omega
          by_cases hl8 : 8 < out.length
          · have l2 : (8 : Int) < (out.length : Int) := by omega
            obtain ⟨e1, e2⟩ := Hnone.out (fun ps hp => by have := (key_inj _ _).1 (hp.1.trans hxk.symm); rw [this] at hp; have := hp.2; omega)
            subst e1
            subst e2
            clear hxk
            go_wp2
            go_ret2
            exact TextsPost.none _ Hbel.out
          · have l2 : ¬ (8 : Int) < (out.length : Int) := by omega
            obtain ⟨e1, e2⟩ := Hsome.out (bs out) ⟨hxk, by omega, by omega⟩
            rw [mk_bsT] at e2
            subst e1
            subst e2
            clear hxk
            go_wp2
            go_ret2
            exact ⟨a4, c4, rfl, HT4.out, Hbel.out, hc4⟩
      · have q6 : decide (part ≠ []) = true := by simp [hp0]
        obtain ⟨e1, e2⟩ := Hnone.out (fun ps hp => by
          have h9 := hp.1.trans hxe
          rw [← List.append_nil (keyOf (bs out) ++ esc part)] at h9
          exact hp0 (key_stuck _ _ _ _ h9 (Or.inl rfl)).2.1)
        subst e1
        subst e2
        clear hxe
        go_wp2
        go_ret2
        exact TextsPost.none _ Hbel.out
end Go.Proofs.YtgjahhfpfdgjhaaDoor
