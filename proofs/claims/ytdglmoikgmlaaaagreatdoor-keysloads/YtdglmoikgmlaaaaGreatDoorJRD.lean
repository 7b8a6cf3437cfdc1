/- The reference's Destroy, by a contract. -/
import Derived.Test.YtdglmoikgmlaaaaGreatDoorJR6
namespace Go.Proofs.YtdglmoikgmlaaaaGreatDoor
open Go.RowKit Go.Maps
set_option linter.unusedVariables false
set_option maxRecDepth 20000
theorem strInfo : (Tryz.prog.info? 9).map (fun i => (i.zero, i.size, i.bytes)) = some (some (.string ⟨#[]⟩), 1, 16) := by kernel_rfl
theorem cell_new1 (w : World) (v : Value) (t : TypeId) : ∀ (j : Nat) (u : Value), [v][j]? = some u → (w.alloc (.cells #[v] t)).cell? ((⟨w.heap.size, 0, none⟩ : Addr).add j) = some u := fun j u hj => by
  have hj0 : j = 0 := by have := (List.getElem?_eq_some_iff.1 hj).1; simpa using this
  subst hj0
  rw [show ((⟨w.heap.size, 0, none⟩ : Addr).add 0) = ⟨w.heap.size, 0, none⟩ by rfl, World.cell?_alloc_at _ _ _ _ rfl]
  exact hj
theorem app_txt (w : World) {ops : Array Oper} {rest : List Oper} {o : Oper} {a : Act} {Q : Exit → Act → World → Prop} (hgd : o.guard = none) (sl x : Operand)
    (ho : o.op = .call { callee := .builtin .append, args := #[sl, x], argTypes := #[56, 56] }) (base : Nat) (v : Value) (l : List ByteArray) (hs : a.eval sl = v)
    (hown : w.ownsRow base 9 1 v l.length (l.map .string)) (t : ByteArray) (hx : a.eval x = .slice (some ⟨w.heap.size, 0, none⟩) 1 1) (hb : l.length ≤ 2000000000) (hbase : base ≤ w.heap.size)
    (h : ∀ v' w', w'.ownsRow base 9 1 v' (l ++ [t]).length ((l ++ [t]).map .string) → w.grownBy w' v.ownBlock → wpList Tryz.prog ops Q rest (a.put o.dst v') w') :
    wpList Tryz.prog ops Q (o :: rest) a (w.alloc (.cells #[.string t] 9)) := by
  obtain ⟨i0, hi, hz0, hz1, hz2⟩ := info_parts strInfo
  refine wpList_append_own _ hgd sl x 56 ho base 9 i0 _ 1 16 Tryz.underlying56 hi hz0 hz1 hz2 rfl (by decide) v l.length (l.map .string) hs (hown.alloc _) ⟨w.heap.size, 0, none⟩ 1 1 [.string t] hx rfl (cell_new1 w _ _) (by simp [Value.oneCell']) (by unfold maxLen; omega) (by omega) (by simp; omega) ?_
  intro v' w' h1 h2 h3
  rw [show l.map Value.string ++ [.string t] = (l ++ [t]).map .string by simp, show l.length + 1 = (l ++ [t]).length by simp] at h1
  exact h v' w' h1 ((World.grownBy_alloc w _ _).trans h2)
theorem own_blk {w : World} {B n sz : Nat} {e : TypeId} {v : Value} {xs : List Value} {k : Nat} (h : w.ownsRow B e sz v n xs) (hk : v.ownBlock = some k) : B ≤ k ∧ ∃ cs, w.heap[k]? = some (.cells cs e (0, 0)) := by
  rcases h.2 with ⟨rfl, _⟩ | ⟨g, cap, cur, rfl, hb, hg, _⟩
  · cases hk
  · cases hk; exact ⟨hb, _, hg⟩
theorem RTree.grown {w w' : World} {B g : Nat} {root : List UInt8} {s : TS} {gv lv v : Value} {gs : List ByteArray} (h : RTree w B g root s gv lv) (hg : w.grownBy w' gv.ownBlock) (hl : w'.ownsRow B 9 1 v gs.length (gs.map .string)) : RTree (w'.setCell ⟨g, 33, none⟩ v) B g root { s with gs := gs } v lv ∧ w'.cell? ⟨g, 33, none⟩ = some gv ∧ w'.frozen? ⟨g, 33, none⟩ = false := by
  have o : OutJ (fun k => gv.ownBlock = some k) w w' := ⟨hg.os, hg.tape, hg.output, hg.size, fun k hk hp => hg.block k hk (fun e => hp e.symm)⟩
  have ne : ∀ (e : TypeId) k cs, w.heap[k]? = some (.cells cs e (0, 0)) → e ≠ 9 → ¬ gv.ownBlock = some k := fun e k cs hk he e2 => by
    obtain ⟨_, c2, h2⟩ := own_blk h.gone e2
    rw [hk] at h2; cases h2; exact he rfl
  have hobj : w'.heap[g]? = some (.cells (refC root s.n gv lv).toArray 59 (0, 0)) := (o.block g h.lt (ne _ g _ h.obj (by decide))).trans h.obj
  have hv := own_outJ h.vers o (fun k cs hk => ne _ k cs hk (by decide))
  have o2 := OutJ.setCell (P := fun k => k = g) w' ⟨g, 33, none⟩ v rfl
  have ne2 : ∀ (e : TypeId) k cs, w'.heap[k]? = some (.cells cs e (0, 0)) → e ≠ 59 → ¬ k = g := fun e k cs hk he e2 => by
    subst e2; rw [hobj] at hk; cases hk; exact he rfl
  refine ⟨⟨?_, own_outJ hl o2 (fun k cs hk => ne2 _ k cs hk (by decide)), own_outJ hv o2 (fun k cs hk => ne2 _ k cs hk (by decide)), h.len, h.bg⟩, ?_, frozen_of_row _ _ _ _ _ hobj⟩
  · rw [heap_setCell_same w' g 33 _ _ _ hobj, List.setIfInBounds_toArray]
    unfold refC
    rw [List.set_append_right _ _ (by rw [cellsOf_length, h.len]; omega), cellsOf_length, h.len]
    rfl
  · rw [cell_of_row _ _ _ _ _ _ hobj, refC, List.getElem?_toArray, List.getElem?_append_right (by rw [cellsOf_length, h.len]; omega), cellsOf_length, h.len]
    rfl
theorem str_kept (t : ByteArray) (p : (ByteArray × ByteArray) × Nat) : keptT t p = !(p.1.1.toList == t.toList) := by
  unfold keptT
  have h1 : (p.1.1.toList == t.toList) = decide (p.1.1 = t) := by
    by_cases e : p.1.1 = t
    · rw [e]; simp
    · rw [decide_eq_false e, beq_eq_false_iff_ne]; exact fun e' => e ((str_eqJ _ _).2 e')
  rw [h1]
def DesP (w : World) (B g : Nat) (root : List UInt8) (r : TS × Nat) (e : Ending) (w' : World) : Prop := e = .returned (.int .i64 (r.2 : Int)) ∧ RT w' B g root r.1 ∧ OutJ (RM w B g) w w'
set_option maxHeartbeats 4000000 in
theorem rDes_ok {w : World} {B g : Nat} {root : List UInt8} {s : TS} {gv lv : Value} (h : RTree w B g root s gv lv) (hB : B ≤ w.heap.size) (hv : s.vs.length ≤ 16) (t : ByteArray) (ht : t.size ≤ maxLen) (hn : okN t = true) (hg : isIn s.gs t = false) (hgl : s.gs.length < 16) :
    Calls Tryz.prog 23 #[.pointer (some ⟨g, 0, none⟩), .string t] w (DesP w B g root (s.des t, 0)) := by
  have H1 := refIsName_any t w ht
  rw [show nameB t.data.toList = true from hn] at H1
  have HG := isGone_any h (by omega) t
  rw [hg] at HG
  have H1 := hid H1
  have HG := hid HG
  have H := hid h
  obtain ⟨a1, cap1, e1, _⟩ := textsJ_of_own h.gone
  subst e1
  have c33 := h.c33
  have Hlt : Hid (s.gs.length ≤ 2000000000) := by
    show s.gs.length ≤ 2000000000
    omega
  obtain ⟨m1, hm1⟩ : ∃ m1, m1 = s.gs.length := ⟨_, rfl⟩
  rw [← hm1] at c33 H
  have d1 : decide (16 ≤ (m1 : Int)) = false := by simp; omega
  have Hm1 := hid hm1
  obtain ⟨a, cap, rfl, hx⟩ := vers_of_own h.vers
  obtain ⟨m, hm⟩ : ∃ m, m = s.vs.length := ⟨_, rfl⟩
  rw [← hm] at H
  have Hm := hid hm
  have hm9 : m ≤ 16 := by omega
  have HB := hid hB
  clear h hx hm hv hB hn hg ht hgl hm1
  go_enter Tryz.func23, Tryz.ntmps23
  go_wp2_with (first
    | (go_at_call 38; refine H1.out.mono ?_; rintro _ w1 ⟨rfl, e1⟩; subst w1; clear H1)
    | (go_at_call 41; refine HG.out.mono ?_; rintro _ w1 ⟨rfl, e1⟩; subst w1; clear HG)
    | (at_builtin; refine app_txt w rfl (.tmp 29) (.tmp 31) rfl B (.slice a1 m1 cap1) s.gs rfl H.out.gone t rfl Hlt.out HB.out ?_; intro v2 w2 ho2 hg2; obtain ⟨g9, m9, c9, rfl⟩ := own_slice ho2 (by simp); obtain ⟨hR2, c33', f33⟩ := H.out.grown hg2 ho2; have HR2 := hid hR2; have HG2 := hid hg2; clear hR2 ho2 hg2))
  obtain ⟨W3, hW3⟩ : ∃ W3, W3 = w2.setCell ⟨g, 33, none⟩ (.slice (some ⟨g9, 0, none⟩) m9 c9) := ⟨_, rfl⟩
  rw [← hW3] at HR2 ⊢
  have HO3 : Hid (OutJ (RM w B g) w W3) := by
    show OutJ _ _ _
    refine OutJ.trans (b := w2) ⟨HG2.out.os, HG2.out.tape, HG2.out.output, HG2.out.size, fun k hk hp => HG2.out.block k hk (fun e => hp ?_)⟩ ?_
    · obtain ⟨b9, cs9, h9⟩ := own_blk H.out.gone e.symm
      exact ⟨b9, .inr ⟨cs9, _, h9⟩⟩
    · rw [hW3]; exact OutJ.setCell w2 ⟨g, 33, none⟩ _ ⟨H.out.bg, .inl rfl⟩
  have HB3 : Hid (B ≤ W3.heap.size) := Nat.le_trans HB.out HO3.out.size
  clear hW3 HG2 H c33 c33' f33
  go_loopw [5, 6] (fun v i wr => ∃ k : Nat, k ≤ m ∧ i = .int .i64 (k : Int) ∧ wr.ownsRow W3.heap.size 76 3 v ((s.vs.take k).filter (keptT t)).length (verC ((s.vs.take k).filter (keptT t))) ∧ Below W3.heap.size W3 wr) (fun _ i _ => m - (intOf i).toNat)
  case atStart => exact ⟨0, Nat.zero_le _, rfl, World.ownsRow_nil _ _ _ _, Below.refl _ _⟩
  case round =>
    obtain ⟨k, hk, rfl, hrow, hb⟩ := hrel
    have Hrow := hid hrow
    have Hb := hid hb
    have c34 := (HR2.out.below hb).c34
    clear hrow hb
    have hfl := filt_few s.vs (keptT t) k
    have hfl9 : ((s.vs.take k).filter (keptT t)).length ≤ 16 := by have := Hm.out; omega
    clear hfl
    by_cases hlt : k < m
    · have g1 : decide ((k : Int) < (m : Int)) = true := by simp; omega
      have hkl : k < s.vs.length := by have := Hm.out; omega
      obtain ⟨a9, cap9, e9, hx9⟩ := vers_of_own (HR2.out.below Hb.out).vers
      injection e9 with e1 e2 e3
      obtain ⟨bb, rfl, d0, d1', d2⟩ := hx9 k hkl
      subst e1
      clear e2 e3 hx9
      have Hstep := hid (filt_take (keptT t) hkl)
      have Hat := hid (str_kept t s.vs[k])
      obtain ⟨x, hxk⟩ : ∃ x, x = s.vs[k] := ⟨_, rfl⟩
      change wr.cell? ⟨bb, k * 3, none⟩ = some (.string s.vs[k].1.1) at d0
      change wr.cell? ⟨bb, k * 3 + 1, none⟩ = some (.string s.vs[k].1.2) at d1'
      change wr.cell? ⟨bb, k * 3 + 2, none⟩ = some (.int .i64 (s.vs[k].2 : Int)) at d2
      rw [← hxk] at Hstep Hat d0 d1' d2
      clear hxk
      obtain ⟨⟨x1, x2⟩, xn⟩ := x
      simp only at d0 d1' d2
      cases q0 : (x1.toList == t.toList)
      · have Hq : Hid (keptT t ((x1, x2), xn) = true) := Hat.out.trans (by simp only [q0]; rfl)
        clear Hat
        go_wp2_with (at_builtin; refine app_ver _ rfl (.tmp 54) (.tmp 62) rfl W3.heap.size _ _ rfl Hrow.out x1 x2 xn rfl (by omega) Hb.out.size ?_; intro v2 w2 ho2 hg2)
        go_roundw
        case rel => exact ⟨k + 1, by omega, by go_num, by rw [Hstep.out, if_pos Hq.out]; exact ho2, Hb.out.trans ((Below.refl _ _).grown hg2 Hb.out.size (fun j hj => (Hrow.out.lt j hj).1))⟩
        case measure => simp [intOf]; omega
      · have Hq : Hid (keptT t ((x1, x2), xn) = false) := Hat.out.trans (by simp only [q0]; rfl)
        clear Hat
        go_wp2
        go_roundw
        case rel => exact ⟨k + 1, by omega, by go_num, by rw [Hstep.out, if_neg (by rw [Hq.out]; simp), List.append_nil]; exact Hrow.out, Hb.out⟩
        case measure => simp [intOf]; omega
    · have g1 : decide ((k : Int) < (m : Int)) = false := by simp; omega
      have hall : s.vs.take k = s.vs := by have := Hm.out; exact List.take_of_length_le (by omega)
      rw [hall] at Hrow hfl9
      clear hall
      have f34 := (HR2.out.below Hb.out).fz 34
      obtain ⟨a8, c8, rfl⟩ := own_any Hrow.out
      have Hz := hid ((HR2.out.below Hb.out).setL (own_mono Hrow.out HB3.out))
      obtain ⟨n8, hn8⟩ : ∃ n8, n8 = (s.vs.filter (keptT t)).length := ⟨_, rfl⟩
      rw [← hn8] at Hz ⊢
      have Hn8 := hid hn8
      clear hn8 hfl9
      go_wp2
      go_ret
      exact ⟨rfl, ⟨_, _, Hz.out⟩, (HO3.out.trans (OutJ.of_below Hb.out)).trans (OutJ.setCell wr ⟨g, 34, none⟩ _ ⟨HR2.out.bg, .inl rfl⟩)⟩
set_option maxHeartbeats 1000000 in
theorem rDes_no {w : World} {B g : Nat} {root : List UInt8} {s : TS} {gv lv : Value} (h : RTree w B g root s gv lv) (t : ByteArray) (ht : t.size ≤ maxLen) (hgl : s.gs.length ≤ 1000) (r : Nat) (hr : (okN t = false ∧ r = 8) ∨ (okN t = true ∧ isIn s.gs t = true ∧ r = 12) ∨ (okN t = true ∧ isIn s.gs t = false ∧ 16 ≤ s.gs.length ∧ r = 7)) :
    Calls Tryz.prog 23 #[.pointer (some ⟨g, 0, none⟩), .string t] w fun e w' => e = .returned (.int .i64 (r : Int)) ∧ w' = w := by
  have H1 := refIsName_any t w ht
  have HG := isGone_any h hgl t
  rcases hr with ⟨hn, rfl⟩ | ⟨hn, hg, rfl⟩ | ⟨hn, hg, hl, rfl⟩
  · rw [show nameB t.data.toList = false from hn] at H1
    have H2 := hid H1
    clear H1 HG h hn
    go_enter Tryz.func23, Tryz.ntmps23
    go_wp2_with (go_at_call 38; refine H2.out.mono ?_; rintro _ w1 ⟨rfl, e1⟩; subst w1)
    go_ret
    exact ⟨rfl, rfl⟩
  · rw [show nameB t.data.toList = true from hn] at H1
    rw [hg] at HG
    have H2 := hid H1
    have H3 := hid HG
    clear H1 HG h hn hg
    go_enter Tryz.func23, Tryz.ntmps23
    go_wp2_with (first
      | (go_at_call 38; refine H2.out.mono ?_; rintro _ w1 ⟨rfl, e1⟩; subst w1)
      | (go_at_call 41; refine H3.out.mono ?_; rintro _ w1 ⟨rfl, e1⟩; subst w1))
    go_ret
    exact ⟨rfl, rfl⟩
  · rw [show nameB t.data.toList = true from hn] at H1
    rw [hg] at HG
    have H2 := hid H1
    have H3 := hid HG
    obtain ⟨a1, cap1, e1, _⟩ := textsJ_of_own h.gone
    have c33 := h.c33
    rw [e1] at c33
    obtain ⟨m1, hm1⟩ : ∃ m1, m1 = s.gs.length := ⟨_, rfl⟩
    rw [← hm1] at c33 hl
    have d1 : decide (16 ≤ (m1 : Int)) = true := by simp; omega
    clear H1 HG h hn hg hm1 hl e1
    go_enter Tryz.func23, Tryz.ntmps23
    go_wp2_with (first
      | (go_at_call 38; refine H2.out.mono ?_; rintro _ w1 ⟨rfl, e1⟩; subst w1)
      | (go_at_call 41; refine H3.out.mono ?_; rintro _ w1 ⟨rfl, e1⟩; subst w1))
    go_ret
    exact ⟨rfl, rfl⟩
theorem rDestroy_any {w : World} {B g : Nat} {root : List UInt8} {s : TS} (h : RT w B g root s) (ok : s.Ok) (hB : B ≤ w.heap.size) (t : ByteArray) (ht : t.size ≤ maxLen) :
    Calls Tryz.prog 23 #[.pointer (some ⟨g, 0, none⟩), .string t] w (DesP w B g root (s.desR t)) := by
  obtain ⟨gv, lv, h⟩ := h
  have hgl := ok.gfew
  have no : ∀ r : Nat, (okN t = false ∧ r = 8) ∨ (okN t = true ∧ isIn s.gs t = true ∧ r = 12) ∨ (okN t = true ∧ isIn s.gs t = false ∧ 16 ≤ s.gs.length ∧ r = 7) → Calls Tryz.prog 23 #[.pointer (some ⟨g, 0, none⟩), .string t] w (DesP w B g root (s, r)) := fun r hr =>
    (rDes_no h t ht (by omega) r hr).mono fun e w' h9 => by
      obtain ⟨rfl, rfl⟩ := h9
      exact ⟨rfl, ⟨gv, lv, h⟩, OutJ.of_below (Below.refl _ _)⟩
  unfold TS.desR
  by_cases hn : okN t = true
  · rw [if_pos hn]
    by_cases hg : isIn s.gs t = true
    · rw [if_pos hg]
      exact no 12 (.inr (.inl ⟨hn, hg, rfl⟩))
    · rw [if_neg hg]
      have hg' : isIn s.gs t = false := by simpa using hg
      by_cases hf : s.gs.length = 16
      · rw [if_pos hf]
        exact no 7 (.inr (.inr ⟨hn, hg', by omega, rfl⟩))
      · rw [if_neg hf]
        exact rDes_ok h hB ok.few t ht hn hg' (by omega)
  · rw [if_neg hn]
    exact no 8 (.inl ⟨by simpa using hn, rfl⟩)
end Go.Proofs.YtdglmoikgmlaaaaGreatDoor
