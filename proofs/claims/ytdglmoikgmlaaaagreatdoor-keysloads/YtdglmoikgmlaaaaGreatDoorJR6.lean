/- The reference's Rotate, by a contract. -/
import Derived.Test.YtdglmoikgmlaaaaGreatDoorJLoad
namespace Go.Proofs.YtdglmoikgmlaaaaGreatDoor
open Go.RowKit Go.Maps
set_option linter.unusedVariables false
set_option maxRecDepth 20000
theorem verInfo : (Tryz.prog.info? 76).map (fun i => (i.zero, i.size, i.bytes)) = some (some (.agg #[.string ⟨#[]⟩, .string ⟨#[]⟩, .int .i64 0]), 3, 40) := by kernel_rfl
theorem verC_snoc (l : List ((ByteArray × ByteArray) × Nat)) (p : (ByteArray × ByteArray) × Nat) : verC (l ++ [p]) = verC l ++ [.string p.1.1, .string p.1.2, .int .i64 (p.2 : Int)] := by simp [verC]
theorem app_ver (w : World) {ops : Array Oper} {rest : List Oper} {o : Oper} {a : Act} {Q : Exit → Act → World → Prop} (hgd : o.guard = none) (sl x : Operand)
    (ho : o.op = .call { callee := .builtin .append, args := #[sl, x], argTypes := #[57, 57] }) (base : Nat) (v : Value) (l : List ((ByteArray × ByteArray) × Nat)) (hs : a.eval sl = v)
    (hown : w.ownsRow base 76 3 v l.length (verC l)) (t u : ByteArray) (n : Nat) (hx : a.eval x = .slice (some ⟨w.heap.size, 0, none⟩) 1 1) (hb : l.length ≤ 2000000000) (hbase : base ≤ w.heap.size)
    (h : ∀ v' w', w'.ownsRow base 76 3 v' (l ++ [((t, u), n)]).length (verC (l ++ [((t, u), n)])) → w.grownBy w' v.ownBlock → wpList Tryz.prog ops Q rest (a.put o.dst v') w') :
    wpList Tryz.prog ops Q (o :: rest) a (w.alloc (.cells #[.string t, .string u, .int .i64 (n : Int)] 76)) := by
  obtain ⟨i0, hi, hz0, hz1, hz2⟩ := info_parts verInfo
  refine wpList_append_own _ hgd sl x 57 ho base 76 i0 _ 3 40 Tryz.underlying57 hi hz0 hz1 hz2 rfl (by decide) v l.length (verC l) hs (hown.alloc _) ⟨w.heap.size, 0, none⟩ 1 1 [.string t, .string u, .int .i64 (n : Int)] hx rfl (World.news_of_block (cs := #[.string t, .string u, .int .i64 (n : Int)]) (t := 76) (fr := (0, 0)) (MapKept.heap_alloc w _).1) (by simp [Value.oneCell']) (by unfold maxLen; omega) (by omega) (by simp; omega) ?_
  intro v' w' h1 h2 h3
  rw [← verC_snoc l ((t, u), n), show l.length + 1 = (l ++ [((t, u), n)]).length by simp] at h1
  exact h v' w' h1 ((World.grownBy_alloc w _ _).trans h2)
theorem own_slice {w : World} {B n sz : Nat} {e : TypeId} {v : Value} {xs : List Value} (h : w.ownsRow B e sz v n xs) (h0 : 0 < n) : ∃ g m c, v = .slice (some ⟨g, 0, none⟩) m c := by
  rcases h.2 with ⟨_, h1⟩ | ⟨g, cap, cur, e1, _⟩
  · omega
  · exact ⟨g, n, cap, e1⟩
theorem own_any {w : World} {B n sz : Nat} {e : TypeId} {v : Value} {xs : List Value} (h : w.ownsRow B e sz v n xs) : ∃ a c, v = .slice a n c := by
  rcases h.2 with ⟨e1, h1⟩ | ⟨g, cap, cur, e1, _⟩
  · exact ⟨none, 0, by rw [e1, h1]⟩
  · exact ⟨_, cap, e1⟩
theorem filt_take {vs : List ((ByteArray × ByteArray) × Nat)} (f : (ByteArray × ByteArray) × Nat → Bool) {k : Nat} (h : k < vs.length) : (vs.take (k + 1)).filter f = (vs.take k).filter f ++ (if f vs[k] then [vs[k]] else []) := by
  rw [List.take_succ_eq_append_getElem h, List.filter_append]
  congr 1
  by_cases hf : f vs[k] = true <;> simp [hf]
theorem filt_few (vs : List ((ByteArray × ByteArray) × Nat)) (f : (ByteArray × ByteArray) × Nat → Bool) (k : Nat) : ((vs.take k).filter f).length ≤ vs.length := by
  have h1 := List.length_filter_le f (vs.take k)
  have h2 : (vs.take k).length ≤ vs.length := by rw [List.length_take]; omega
  omega
section
variable {w w' : World} {B g : Nat} {root : List UInt8} {s : TS} {gv lv : Value}
theorem RTree.setL (h : RTree w B g root s gv lv) {v : Value} {vs : List ((ByteArray × ByteArray) × Nat)} (hl : w.ownsRow B 76 3 v vs.length (verC vs)) : RTree (w.setCell ⟨g, 34, none⟩ v) B g root { s with vs := vs } gv v := by
  have o := OutJ.setCell (P := fun k => k = g) w ⟨g, 34, none⟩ v rfl
  have ne : ∀ (e : TypeId) k cs, w.heap[k]? = some (.cells cs e (0, 0)) → e ≠ 59 → ¬ k = g := fun e k cs hk he e2 => by
    subst e2; rw [h.obj] at hk; cases hk; exact he rfl
  refine ⟨?_, own_outJ h.gone o (fun k cs hk => ne _ k cs hk (by decide)), own_outJ hl o (fun k cs hk => ne _ k cs hk (by decide)), h.len, h.bg⟩
  rw [heap_setCell_same w g 34 _ _ _ h.obj, List.setIfInBounds_toArray]
  unfold refC
  rw [List.set_append_right _ _ (by rw [cellsOf_length, h.len]; omega), cellsOf_length, h.len]
  rfl
theorem RTree.setN (h : RTree w B g root s gv lv) (m : Nat) : RTree (w.setCell ⟨g, 32, none⟩ (.int .i64 (m : Int))) B g root { s with n := m } gv lv := by
  have o := OutJ.setCell (P := fun k => k = g) w ⟨g, 32, none⟩ (.int .i64 (m : Int)) rfl
  have ne : ∀ (e : TypeId) k cs, w.heap[k]? = some (.cells cs e (0, 0)) → e ≠ 59 → ¬ k = g := fun e k cs hk he e2 => by
    subst e2; rw [h.obj] at hk; cases hk; exact he rfl
  refine ⟨?_, own_outJ h.gone o (fun k cs hk => ne _ k cs hk (by decide)), own_outJ h.vers o (fun k cs hk => ne _ k cs hk (by decide)), h.len, h.bg⟩
  rw [heap_setCell_same w g 32 _ _ _ h.obj, List.setIfInBounds_toArray]
  unfold refC
  rw [List.set_append_right _ _ (by rw [cellsOf_length, h.len]; omega), cellsOf_length, h.len]
  rfl
theorem RTree.fz (h : RTree w B g root s gv lv) (o : Nat) : w.frozen? ⟨g, o, none⟩ = false := frozen_of_row _ _ _ _ _ h.obj
end
def RotP (w : World) (B g : Nat) (root : List UInt8) (r : TS × (Nat × Nat)) (e : Ending) (w' : World) : Prop := e = .returned (.tuple #[.int .i64 (r.2.1 : Int), .int .i64 (r.2.2 : Int)]) ∧ RT w' B g root r.1 ∧ OutJ (RM w B g) w w'
set_option maxHeartbeats 1000000 in
theorem rRot_err {w : World} {g : Nat} (t u : ByteArray) (z c : Int) (hc : c ≠ 0) (H : Calls Tryz.prog 30 #[.pointer (some ⟨g, 0, none⟩), .string t, .string u] w fun e w' => e = .returned (.tuple #[.int .i64 z, .int .i64 c]) ∧ Below w.heap.size w w') :
    Calls Tryz.prog 21 #[.pointer (some ⟨g, 0, none⟩), .string t, .string u] w fun e w' => e = .returned (.tuple #[.int .i64 0, .int .i64 c]) ∧ Below w.heap.size w w' := by
  have q0 : (c != 0) = true := by simpa using hc
  go_enter Tryz.func21, Tryz.ntmps21
  go_wp2_with (go_at_call 30; refine H.mono ?_; rintro _ w1 ⟨rfl, b1⟩)
  go_ret2
  exact ⟨rfl, b1⟩
set_option maxHeartbeats 2000000 in
theorem rRot_full {w : World} {B g : Nat} {root : List UInt8} {s : TS} {gv lv : Value} (h : RTree w B g root s gv lv) (t u : ByteArray) (c : Nat) (hf : c = 16 ∨ (c = 1 ∧ s.vs.length = 16)) (HC : Calls Tryz.prog 30 #[.pointer (some ⟨g, 0, none⟩), .string t, .string u] w fun e w' => e = .returned (.tuple #[.int .i64 (c : Int), .int .i64 0]) ∧ Below w.heap.size w w') :
    Calls Tryz.prog 21 #[.pointer (some ⟨g, 0, none⟩), .string t, .string u] w fun e w' => e = .returned (.tuple #[.int .i64 0, .int .i64 7]) ∧ Below w.heap.size w w' := by
  have H := hid h
  obtain ⟨a, cap, rfl, hx⟩ := vers_of_own h.vers
  clear h hx
  rcases hf with rfl | ⟨rfl, hsz⟩
  · go_enter Tryz.func21, Tryz.ntmps21
    go_wp2_with (go_at_call 30; refine HC.mono ?_; rintro _ w1 ⟨rfl, b1⟩)
    go_ret2
    exact ⟨rfl, b1⟩
  · rw [hsz] at H
    go_enter Tryz.func21, Tryz.ntmps21
    go_wp2_with (go_at_call 30; refine HC.mono ?_; rintro _ w1 ⟨rfl, b1⟩; have c34 := (H.out.below b1).c34; have B1 := hid b1; clear b1)
    go_ret2
    exact ⟨rfl, B1.out⟩
set_option maxHeartbeats 4000000 in
theorem rRot_ok {w : World} {B g : Nat} {root : List UInt8} {s : TS} {gv lv : Value} (h : RTree w B g root s gv lv) (hB : B ≤ w.heap.size) (hv : s.vs.length ≤ 16) (t u : ByteArray) (c : Nat) (hc : c < 16) (hf : ¬ (c = 1 ∧ s.vs.length = 16)) (HC : Calls Tryz.prog 30 #[.pointer (some ⟨g, 0, none⟩), .string t, .string u] w fun e w' => e = .returned (.tuple #[.int .i64 (c : Int), .int .i64 0]) ∧ Below w.heap.size w w') :
    Calls Tryz.prog 21 #[.pointer (some ⟨g, 0, none⟩), .string t, .string u] w (RotP w B g root (s.rot t u (c + 1), (c + 1, 0))) := by
  have H := hid h
  obtain ⟨a, cap, rfl, hx⟩ := vers_of_own h.vers
  obtain ⟨m, hm⟩ : ∃ m, m = s.vs.length := ⟨_, rfl⟩
  rw [← hm] at H
  have Hm := hid hm
  have hm9 : m ≤ 16 := by omega
  have d1 : decide (16 ≤ (c : Int)) = false := by simp; omega
  have hca : ((c : Int) + 1) = ((c + 1 : Nat) : Int) := by omega
  have Hca := hid hca
  have HB := hid hB
  have HF : Hid (c = 1 → decide (16 ≤ (m : Int)) = false) := fun h1 => by simp; omega
  clear h hx hm hv hf hca hB
  obtain ⟨f, hff⟩ : ∃ f : (ByteArray × ByteArray) × Nat → Bool, f = fun p => !isAt t u p := ⟨_, rfl⟩
  have Hff := hid hff
  clear hff
  by_cases h1 : c = 1
  · have d3 := HF.out h1
    have q9 : ((c : Int) == 1) = true := by simp; omega
    clear h1
    go_enter Tryz.func21, Tryz.ntmps21
    go_wp2_with (go_at_call 30; refine HC.mono ?_; rintro _ w1 ⟨rfl, b1⟩; have c34 := (H.out.below b1).c34; have B1 := hid b1; clear b1)
    go_loopw [10, 11] (fun v i wr => ∃ k : Nat, k ≤ m ∧ i = .int .i64 (k : Int) ∧ wr.ownsRow w.heap.size 76 3 v ((s.vs.take k).filter f).length (verC ((s.vs.take k).filter f)) ∧ Below w.heap.size w wr) (fun _ i _ => m - (intOf i).toNat)
    case atStart => exact ⟨0, Nat.zero_le _, rfl, World.ownsRow_nil _ _ _ _, B1.out⟩
    case round =>
      clear c34
      obtain ⟨k, hk, rfl, hrow, hb⟩ := hrel
      have Hrow := hid hrow
      have Hb := hid hb
      have c34 := (H.out.below hb).c34
      clear hrow hb
      have hfl := filt_few s.vs f k
      have hfl9 : ((s.vs.take k).filter f).length ≤ 16 := by have := Hm.out; omega
      clear hfl
      by_cases hlt : k < m
      · have g1 : decide ((k : Int) < (m : Int)) = true := by simp; omega
        have hkl : k < s.vs.length := by have := Hm.out; omega
        obtain ⟨a9, cap9, e9, hx9⟩ := vers_of_own (H.out.below Hb.out).vers
        injection e9 with e1 e2 e3
        obtain ⟨bb, rfl, d0, d1, d2⟩ := hx9 k hkl
        subst e1
        clear e2 e3 hx9
        have Hstep := hid (filt_take f hkl)
        have Hat := hid (isAt_eq t u s.vs[k])
        obtain ⟨x, hxk⟩ : ∃ x, x = s.vs[k] := ⟨_, rfl⟩
        rw [← hxk] at Hstep Hat d0 d1 d2
        clear hxk
        obtain ⟨⟨x1, x2⟩, xn⟩ := x
        simp only at d0 d1 d2
        cases q0 : (x1.toList == t.toList)
        · have Hq : Hid (f ((x1, x2), xn) = true) := by
            show _ = _
            rw [Hff.out]
            show (!isAt t u ((x1, x2), xn)) = true
            rw [Hat.out]; simp only [q0]; rfl
          clear Hat
          go_wp2_with (at_builtin; refine app_ver _ rfl (.tmp 67) (.tmp 75) rfl w.heap.size _ _ rfl Hrow.out x1 x2 xn rfl (by omega) Hb.out.size ?_; intro v2 w2 ho2 hg2)
          go_roundw
          case rel => exact ⟨k + 1, by omega, by go_num, by rw [Hstep.out, if_pos Hq.out]; exact ho2, Hb.out.trans ((Below.refl _ _).grown hg2 Hb.out.size (fun j hj => (Hrow.out.lt j hj).1))⟩
          case measure => simp [intOf]; omega
        · cases q1 : (x2.toList == u.toList)
          · have Hq : Hid (f ((x1, x2), xn) = true) := by
              show _ = _
              rw [Hff.out]
              show (!isAt t u ((x1, x2), xn)) = true
              rw [Hat.out]; simp only [q0, q1]; rfl
            clear Hat
            go_wp2_with (at_builtin; refine app_ver _ rfl (.tmp 67) (.tmp 75) rfl w.heap.size _ _ rfl Hrow.out x1 x2 xn rfl (by omega) Hb.out.size ?_; intro v2 w2 ho2 hg2)
            go_roundw
            case rel => exact ⟨k + 1, by omega, by go_num, by rw [Hstep.out, if_pos Hq.out]; exact ho2, Hb.out.trans ((Below.refl _ _).grown hg2 Hb.out.size (fun j hj => (Hrow.out.lt j hj).1))⟩
            case measure => simp [intOf]; omega
          · have Hq : Hid (f ((x1, x2), xn) = false) := by
              show _ = _
              rw [Hff.out]
              show (!isAt t u ((x1, x2), xn)) = false
              rw [Hat.out]; simp only [q0, q1]; rfl
            clear Hat
            go_wp2
            go_roundw
            case rel => exact ⟨k + 1, by omega, by go_num, by rw [Hstep.out, if_neg (by rw [Hq.out]; simp), List.append_nil]; exact Hrow.out, Hb.out⟩
            case measure => simp [intOf]; omega
      · have g1 : decide ((k : Int) < (m : Int)) = false := by simp; omega
        have hall : s.vs.take k = s.vs := by have := Hm.out; exact List.take_of_length_le (by omega)
        rw [hall] at Hrow hfl9
        clear hall
        go_wp2_with (at_builtin; rw [Hca.out]; refine app_ver _ rfl (.tmp 78) (.tmp 84) rfl w.heap.size _ _ rfl Hrow.out t u (c + 1) rfl (by omega) Hb.out.size ?_; intro v2 w2 ho2 hg2; obtain ⟨g9, m9, c9, rfl⟩ := own_slice ho2 (by simp); have B2 := hid (Hb.out.trans ((Below.refl _ _).grown hg2 Hb.out.size (fun j hj => (Hrow.out.lt j hj).1))); have c34' := (H.out.below B2.out).c34; have f34 := (H.out.below B2.out).fz 34)
        go_ret2
        have hz := (H.out.below B2.out).setL (own_mono ho2 HB.out)
        rw [Hff.out] at hz
        exact ⟨by rw [Hca.out]; rfl, ⟨gv, _, hz⟩, (OutJ.of_below B2.out).trans (OutJ.setCell w2 ⟨g, 34, none⟩ _ ⟨H.out.bg, .inl rfl⟩)⟩
  · have q9 : ((c : Int) == 1) = false := by simp; omega
    clear h1
    go_enter Tryz.func21, Tryz.ntmps21
    go_wp2_with (go_at_call 30; refine HC.mono ?_; rintro _ w1 ⟨rfl, b1⟩; have c34 := (H.out.below b1).c34; have B1 := hid b1; clear b1)
    go_loopw [10, 11] (fun v i wr => ∃ k : Nat, k ≤ m ∧ i = .int .i64 (k : Int) ∧ wr.ownsRow w.heap.size 76 3 v ((s.vs.take k).filter f).length (verC ((s.vs.take k).filter f)) ∧ Below w.heap.size w wr) (fun _ i _ => m - (intOf i).toNat)
    case atStart => exact ⟨0, Nat.zero_le _, rfl, World.ownsRow_nil _ _ _ _, B1.out⟩
    case round =>
      clear c34
      obtain ⟨k, hk, rfl, hrow, hb⟩ := hrel
      have Hrow := hid hrow
      have Hb := hid hb
      have c34 := (H.out.below hb).c34
      clear hrow hb
      have hfl := filt_few s.vs f k
      have hfl9 : ((s.vs.take k).filter f).length ≤ 16 := by have := Hm.out; omega
      clear hfl
      by_cases hlt : k < m
      · have g1 : decide ((k : Int) < (m : Int)) = true := by simp; omega
        have hkl : k < s.vs.length := by have := Hm.out; omega
        obtain ⟨a9, cap9, e9, hx9⟩ := vers_of_own (H.out.below Hb.out).vers
        injection e9 with e1 e2 e3
        obtain ⟨bb, rfl, d0, d1, d2⟩ := hx9 k hkl
        subst e1
        clear e2 e3 hx9
        have Hstep := hid (filt_take f hkl)
        have Hat := hid (isAt_eq t u s.vs[k])
        obtain ⟨x, hxk⟩ : ∃ x, x = s.vs[k] := ⟨_, rfl⟩
        rw [← hxk] at Hstep Hat d0 d1 d2
        clear hxk
        obtain ⟨⟨x1, x2⟩, xn⟩ := x
        simp only at d0 d1 d2
        cases q0 : (x1.toList == t.toList)
        · have Hq : Hid (f ((x1, x2), xn) = true) := by
            show _ = _
            rw [Hff.out]
            show (!isAt t u ((x1, x2), xn)) = true
            rw [Hat.out]; simp only [q0]; rfl
          clear Hat
          go_wp2_with (at_builtin; refine app_ver _ rfl (.tmp 67) (.tmp 75) rfl w.heap.size _ _ rfl Hrow.out x1 x2 xn rfl (by omega) Hb.out.size ?_; intro v2 w2 ho2 hg2)
          go_roundw
          case rel => exact ⟨k + 1, by omega, by go_num, by rw [Hstep.out, if_pos Hq.out]; exact ho2, Hb.out.trans ((Below.refl _ _).grown hg2 Hb.out.size (fun j hj => (Hrow.out.lt j hj).1))⟩
          case measure => simp [intOf]; omega
        · cases q1 : (x2.toList == u.toList)
          · have Hq : Hid (f ((x1, x2), xn) = true) := by
              show _ = _
              rw [Hff.out]
              show (!isAt t u ((x1, x2), xn)) = true
              rw [Hat.out]; simp only [q0, q1]; rfl
            clear Hat
            go_wp2_with (at_builtin; refine app_ver _ rfl (.tmp 67) (.tmp 75) rfl w.heap.size _ _ rfl Hrow.out x1 x2 xn rfl (by omega) Hb.out.size ?_; intro v2 w2 ho2 hg2)
            go_roundw
            case rel => exact ⟨k + 1, by omega, by go_num, by rw [Hstep.out, if_pos Hq.out]; exact ho2, Hb.out.trans ((Below.refl _ _).grown hg2 Hb.out.size (fun j hj => (Hrow.out.lt j hj).1))⟩
            case measure => simp [intOf]; omega
          · have Hq : Hid (f ((x1, x2), xn) = false) := by
              show _ = _
              rw [Hff.out]
              show (!isAt t u ((x1, x2), xn)) = false
              rw [Hat.out]; simp only [q0, q1]; rfl
            clear Hat
            go_wp2
            go_roundw
            case rel => exact ⟨k + 1, by omega, by go_num, by rw [Hstep.out, if_neg (by rw [Hq.out]; simp), List.append_nil]; exact Hrow.out, Hb.out⟩
            case measure => simp [intOf]; omega
      · have g1 : decide ((k : Int) < (m : Int)) = false := by simp; omega
        have hall : s.vs.take k = s.vs := by have := Hm.out; exact List.take_of_length_le (by omega)
        rw [hall] at Hrow hfl9
        clear hall
        go_wp2_with (at_builtin; rw [Hca.out]; refine app_ver _ rfl (.tmp 78) (.tmp 84) rfl w.heap.size _ _ rfl Hrow.out t u (c + 1) rfl (by omega) Hb.out.size ?_; intro v2 w2 ho2 hg2; obtain ⟨g9, m9, c9, rfl⟩ := own_slice ho2 (by simp); have B2 := hid (Hb.out.trans ((Below.refl _ _).grown hg2 Hb.out.size (fun j hj => (Hrow.out.lt j hj).1))); have c34' := (H.out.below B2.out).c34; have f34 := (H.out.below B2.out).fz 34)
        go_ret2
        have hz := (H.out.below B2.out).setL (own_mono ho2 HB.out)
        rw [Hff.out] at hz
        exact ⟨by rw [Hca.out]; rfl, ⟨gv, _, hz⟩, (OutJ.of_below B2.out).trans (OutJ.setCell w2 ⟨g, 34, none⟩ _ ⟨H.out.bg, .inl rfl⟩)⟩
theorem rRotate_any {w : World} {B g : Nat} {root : List UInt8} {s : TS} (h : RT w B g root s) (ok : s.Ok) (hB : B ≤ w.heap.size) (t u : ByteArray) (ht : t.size ≤ maxLen) (hu : u.size ≤ maxLen) :
    Calls Tryz.prog 21 #[.pointer (some ⟨g, 0, none⟩), .string t, .string u] w (RotP w B g root (s.rotR t u)) := by
  obtain ⟨gv, lv, h⟩ := h
  have hf := ok.few
  have hg := ok.gfew
  have HC := rCurrent_any h (by omega) (by omega) t u ht hu
  unfold TS.rotR
  by_cases he : (s.cur t u).2 ≠ 0
  · rw [if_pos he]
    refine (rRot_err t u _ _ (by omega) HC).mono fun e w' h9 => ?_
    exact ⟨h9.1, ⟨gv, lv, h.below h9.2⟩, OutJ.of_below h9.2⟩
  · rw [if_neg he]
    have he0 : (s.cur t u).2 = 0 := by omega
    obtain ⟨n1, n2, hg, hc⟩ := cur_ok he0
    obtain ⟨v1, v2⟩ := verOf_ok ok t u
    rw [he0] at HC
    by_cases hf : (s.cur t u).1 = 16 ∨ ((s.cur t u).1 = 1 ∧ s.vs.length = 16)
    · rw [if_pos hf]
      refine (rRot_full h t u _ hf HC).mono fun e w' h9 => ?_
      exact ⟨h9.1, ⟨gv, lv, h.below h9.2⟩, OutJ.of_below h9.2⟩
    · rw [if_neg hf]
      exact rRot_ok h hB ok.few t u _ (by omega) (fun h9 => hf (.inr h9)) HC
end Go.Proofs.YtdglmoikgmlaaaaGreatDoor
