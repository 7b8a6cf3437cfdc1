/- YtdglmoikgmlaaaaGreatDoorJR1 + YtdglmoikgmlaaaaGreatDoorJR2 + YtdglmoikgmlaaaaGreatDoorJR3 + YtdglmoikgmlaaaaGreatDoorJR4 + YtdglmoikgmlaaaaGreatDoorJR5 + YtdglmoikgmlaaaaGreatDoorJLoad -/
import Derived.Test.YtdglmoikgmlaaaaGreatDoorJToNum
import Derived.Test.YtdglmoikgmlaaaaGreatDoorJTake2
/- The reference's tree of keys in memory: New, isGone, Current, by contracts. -/
namespace Go.Proofs.YtdglmoikgmlaaaaGreatDoor
open Go.RowKit Go.Maps
set_option linter.unusedVariables false
set_option maxRecDepth 20000
theorem row_none (v : Value) : v.ownBlock = none ∨ v.ownBlock ≠ (none : Option Nat) := by cases v.ownBlock with | none => exact .inl rfl | some x => exact .inr (by simp)
def verC (vs : List ((ByteArray × ByteArray) × Nat)) : List Value := vs.flatMap fun p => [.string p.1.1, .string p.1.2, .int .i64 (p.2 : Int)]
def refC (root : List UInt8) (n : Nat) (gv lv : Value) : List Value := cellsOf root ++ [.int .i64 (n : Int), gv, lv]
structure RTree (w : World) (B g : Nat) (root : List UInt8) (s : TS) (gv lv : Value) : Prop where
  obj : w.heap[g]? = some (.cells (refC root s.n gv lv).toArray 59 (0, 0))
  gone : w.ownsRow B 9 1 gv s.gs.length (s.gs.map .string)
  vers : w.ownsRow B 76 3 lv s.vs.length (verC s.vs)
  len : root.length = 32
  bg : B ≤ g
section
variable {w w' : World} {B g : Nat} {root : List UInt8} {s : TS} {gv lv : Value}
theorem RTree.lt (h : RTree w B g root s gv lv) : g < w.heap.size := heap_lt h.obj
theorem RTree.c32 (h : RTree w B g root s gv lv) : w.cell? ⟨g, 32, none⟩ = some (.int .i64 (s.n : Int)) := by
  rw [cell_of_row _ _ _ _ _ _ h.obj, refC, List.getElem?_toArray, List.getElem?_append_right (by rw [cellsOf_length, h.len]; omega), cellsOf_length, h.len]
  rfl
theorem RTree.c33 (h : RTree w B g root s gv lv) : w.cell? ⟨g, 33, none⟩ = some gv := by
  rw [cell_of_row _ _ _ _ _ _ h.obj, refC, List.getElem?_toArray, List.getElem?_append_right (by rw [cellsOf_length, h.len]; omega), cellsOf_length, h.len]
  rfl
theorem RTree.c34 (h : RTree w B g root s gv lv) : w.cell? ⟨g, 34, none⟩ = some lv := by
  rw [cell_of_row _ _ _ _ _ _ h.obj, refC, List.getElem?_toArray, List.getElem?_append_right (by rw [cellsOf_length, h.len]; omega), cellsOf_length, h.len]
  rfl
theorem RTree.below (h : RTree w B g root s gv lv) (hb : Below w.heap.size w w') : RTree w' B g root s gv lv := by
  have hgr : w.grownBy w' none := ⟨hb.os, hb.tape, hb.output, hb.size, fun k hk _ => hb.block k hk⟩
  exact ⟨(hb.block g h.lt).trans h.obj, h.gone.kept hgr (row_none _), h.vers.kept hgr (row_none _), h.len, h.bg⟩
end
end Go.Proofs.YtdglmoikgmlaaaaGreatDoor
/- The reference's isGone and Current. -/
namespace Go.Proofs.YtdglmoikgmlaaaaGreatDoor
open Go.RowKit Go.Maps
set_option linter.unusedVariables false
set_option maxRecDepth 20000
theorem verC_at : ∀ (vs : List ((ByteArray × ByteArray) × Nat)) (i : Nat) (h : i < vs.length), (verC vs)[i * 3]? = some (.string vs[i].1.1) ∧ (verC vs)[i * 3 + 1]? = some (.string vs[i].1.2) ∧ (verC vs)[i * 3 + 2]? = some (.int .i64 (vs[i].2 : Int))
  | p :: vs, 0, _ => ⟨rfl, rfl, rfl⟩
  | p :: vs, i + 1, h => by
    have h2 := verC_at vs i (by simpa using h)
    have e : verC (p :: vs) = [.string p.1.1, .string p.1.2, .int .i64 (p.2 : Int)] ++ verC vs := by unfold verC; rw [List.flatMap_cons]
    rw [e, List.getElem?_append_right (by simp; omega), List.getElem?_append_right (by simp; omega), List.getElem?_append_right (by simp; omega)]
    simp only [List.length_cons, List.length_nil, List.getElem_cons_succ]
    rw [show (i + 1) * 3 - (0 + 1 + 1 + 1) = i * 3 by omega, show (i + 1) * 3 + 1 - (0 + 1 + 1 + 1) = i * 3 + 1 by omega, show (i + 1) * 3 + 2 - (0 + 1 + 1 + 1) = i * 3 + 2 by omega]
    exact h2
theorem vers_of_own {w : World} {B : Nat} {v : Value} {vs : List ((ByteArray × ByteArray) × Nat)} (h : w.ownsRow B 76 3 v vs.length (verC vs)) : ∃ a cap, v = .slice a vs.length cap ∧ ∀ i (hi : i < vs.length), ∃ b, a = some ⟨b, 0, none⟩ ∧ w.cell? ⟨b, i * 3, none⟩ = some (.string vs[i].1.1) ∧ w.cell? ⟨b, i * 3 + 1, none⟩ = some (.string vs[i].1.2) ∧ w.cell? ⟨b, i * 3 + 2, none⟩ = some (.int .i64 (vs[i].2 : Int)) := by
  rcases h.2 with ⟨rfl, h0⟩ | ⟨g, cap, cur, rfl, hb, hg, hc, hm, hs, ht⟩
  · exact ⟨none, 0, by rw [h0], fun i hi => by omega⟩
  · refine ⟨some ⟨g, 0, none⟩, cap, rfl, fun i hi => ⟨g, rfl, ?_⟩⟩
    obtain ⟨a0, a1, a2⟩ := verC_at vs i hi
    have cell : ∀ j z, j < vs.length * 3 → (verC vs)[j]? = some z → w.cell? ⟨g, j, none⟩ = some z := fun j z hj hz => by
      rw [cell_of_row _ _ _ _ _ _ hg]
      rw [← ht, List.getElem?_take_of_lt hj] at hz
      simpa using hz
    exact ⟨cell _ _ (by omega) a0, cell _ _ (by omega) a1, cell _ _ (by omega) a2⟩
theorem textsJ_of_own {w : World} {B : Nat} {v : Value} {xs : List ByteArray} (h : w.ownsRow B 9 1 v xs.length (xs.map .string)) : ∃ a cap, v = .slice a xs.length cap ∧ Texts w a xs := by
  rcases h.2 with ⟨rfl, h0⟩ | ⟨g, cap, cur, rfl, hb, hg, hc, hm, hs, ht⟩
  · exact ⟨none, 0, by rw [h0], fun i hi => by omega⟩
  · refine ⟨some ⟨g, 0, none⟩, cap, rfl, fun i hi => ⟨g, 0, rfl, ?_⟩⟩
    rw [Nat.zero_add, cell_of_row _ _ _ _ _ _ hg]
    have hz : (xs.map Value.string)[i]? = some (.string xs[i]) := by simp [hi]
    rw [← ht, List.getElem?_take_of_lt (by omega)] at hz
    simpa using hz
end Go.Proofs.YtdglmoikgmlaaaaGreatDoor
/- The reference's isGone and Current, by contracts. -/
namespace Go.Proofs.YtdglmoikgmlaaaaGreatDoor
open Go.RowKit Go.Maps
set_option linter.unusedVariables false
set_option maxRecDepth 20000
theorem isIn_take {gs : List ByteArray} {t : ByteArray} {k : Nat} (h : k < gs.length) : isIn (gs.take (k + 1)) t = (isIn (gs.take k) t || decide (gs[k] = t)) := by
  unfold isIn
  rw [List.take_succ_eq_append_getElem h, List.any_append]
  simp
set_option maxHeartbeats 2000000 in
theorem isGone_any {w : World} {B g : Nat} {root : List UInt8} {s : TS} {gv lv : Value} (h : RTree w B g root s gv lv) (hf : s.gs.length ≤ 1000) (t : ByteArray) :
    Calls Tryz.prog 41 #[.pointer (some ⟨g, 0, none⟩), .string t] w fun e w' => e = .returned (.bool (isIn s.gs t)) ∧ w' = w := by
  obtain ⟨a, cap, rfl, hx⟩ := textsJ_of_own h.gone
  have c33 := h.c33
  obtain ⟨m, hm⟩ : ∃ m, m = s.gs.length := ⟨_, rfl⟩
  rw [← hm] at c33
  have Hm := hid hm
  have Hx := hid hx
  have hm9 : m ≤ 1000 := by omega
  obtain ⟨r, hr⟩ : ∃ r, r = isIn s.gs t := ⟨_, rfl⟩
  rw [← hr]
  have Hr := hid hr
  clear h hx hm hf hr
  go_enter Tryz.func41, Tryz.ntmps41
  go_wp2
  go_loopw [5] (fun i wr => ∃ k : Nat, k ≤ m ∧ i = .int .i64 (k : Int) ∧ wr = w ∧ isIn (s.gs.take k) t = false) (fun i _ => m - (intOf i).toNat)
  case atStart => exact ⟨0, Nat.zero_le _, rfl, rfl, rfl⟩
  case round =>
    obtain ⟨k, hk, rfl, rfl, hpre⟩ := hrel
    by_cases hlt : k < m
    · have g1 : decide ((k : Int) < (m : Int)) = true := by simp; omega
      have hkl : k < s.gs.length := by have := Hm.out; omega
      obtain ⟨bb, oo, rfl, hc⟩ := Hx.out k hkl
      have Hstep := hid (isIn_take (t := t) hkl)
      have Hmem := hid (List.getElem_mem hkl)
      have Hpre := hid hpre
      clear hpre
      obtain ⟨x, hxk⟩ : ∃ x, x = s.gs[k] := ⟨_, rfl⟩
      rw [← hxk] at Hstep Hmem hc
      clear hxk
      by_cases e : x = t
      · have q0 : (x.toList == t.toList) = true := by rw [e]; simp
        have He := hid e
        clear e
        go_wp2
        go_ret
        refine ⟨?_, rfl⟩
        have : isIn s.gs t = true := isIn_iff.2 (He.out ▸ Hmem.out)
        rw [Hr.out, this]
        rfl
      · have q0 : (x.toList == t.toList) = false := by
          rw [beq_eq_false_iff_ne]
          exact fun e' => e ((str_eqJ _ _).2 e')
        have He := hid e
        clear e
        go_wp2
        go_roundw
        case rel => exact ⟨k + 1, by omega, by go_num, by first | rfl | trivial, by rw [Hstep.out, Hpre.out]; simpa using He.out⟩
        case measure => simp [intOf]; omega
    · have g1 : decide ((k : Int) < (m : Int)) = false := by simp; omega
      have hfin : isIn s.gs t = false := by
        have := Hm.out
        rw [List.take_of_length_le (by omega)] at hpre
        exact hpre
      have Hfin := hid hfin
      clear hfin hpre
      go_wp2
      go_ret
      refine ⟨?_, rfl⟩
      rw [Hr.out, Hfin.out]
      rfl
end Go.Proofs.YtdglmoikgmlaaaaGreatDoor
/- The reference's New and Current, by contracts. -/
namespace Go.Proofs.YtdglmoikgmlaaaaGreatDoor
open Go.RowKit Go.Maps
set_option linter.unusedVariables false
set_option maxRecDepth 20000
theorem built_ref (root : List UInt8) (h : root.length = 32) : Tryz.prog.built 59 [(0, .agg (bvs root))] = some (refC root 0 (.slice none 0 0) (.slice none 0 0)).toArray := by
  obtain ⟨x0, x1, x2, x3, x4, x5, x6, x7, x8, x9, x10, x11, x12, x13, x14, x15, x16, x17, x18, x19, x20, x21, x22, x23, x24, x25, x26, x27, x28, x29, x30, x31, rfl⟩ := len32J root h
  kernel_rfl
def buildRf (ps : Array (Nat × Value)) : Sem Value := Instr.build 59 ps
theorem buildRf_fold (ps : Array (Nat × Value)) : Instr.build 59 ps = buildRf ps := rfl
section
attribute [local go_sem ↓] buildRf_fold
set_option maxHeartbeats 2000000 in
theorem rNew_any (w : World) (root : List UInt8) (hl : root.length = 32) : Calls Tryz.prog 7 #[.agg (bvs root)] w fun e w' => ∃ g, e = .returned (.pointer (some ⟨g, 0, none⟩)) ∧ RTree w' w.heap.size g root ⟨[], [], 0⟩ (.slice none 0 0) (.slice none 0 0) ∧ Below w.heap.size w w' := by
  obtain ⟨O, hO⟩ : ∃ O, O = bvs root := ⟨_, rfl⟩
  obtain ⟨W, hW⟩ : ∃ W, W = w.alloc (.cells O 23) := ⟨_, rfl⟩
  have x0 : W.heap[w.heap.size]? = some (.cells O 23 (0, 0)) := by rw [hW]; exact heap_alloc_new w _
  have hI : (Tryz.prog.info? 23).map (·.size) = some O.size := by rw [hO]; exact (show HV (bvs root) root from ⟨rfl, hl⟩).info
  obtain ⟨RC, hRC⟩ : ∃ RC : Array Value, RC = (refC root 0 (.slice none 0 0) (.slice none 0 0)).toArray := ⟨_, rfl⟩
  have hB6 : ∀ (W : World), (buildRf #[(0, .agg O)]).run Tryz.prog W = .ok (.agg RC) W := fun W => by
    rw [hO, hRC]
    exact run_build (P := Tryz.prog) W 59 #[(0, .agg (bvs root))] _ (built_ref root hl)
  have HX0 := hid x0
  have HI := hid hI
  have HW := hid hW
  have HRC := hid hRC
  have Hl := hid hl
  have hb0 : Below w.heap.size w W := by rw [hW]; exact (Below.refl _ w).alloc (Nat.le_refl _) _
  have HB0 := hid hb0
  rw [← hO]
  clear hO hW x0 hI hRC hl hb0
  go_enter Tryz.func7, Tryz.ntmps7
  go_wp2_with (with_reducible show Go.wpList _ _ _ _ _ _; rw [← HW.out]; refine wpList_load_row rfl 23 _ rfl w.heap.size rfl _ _ _ _ HX0.out Tryz.underlying23 rfl HI.out ?_)
  go_ret
  have hbw := HB0.out.size
  refine ⟨W.heap.size, rfl, ⟨?_, World.ownsRow_nil _ _ _ _, World.ownsRow_nil _ _ _ _, Hl.out, hbw⟩, HB0.out.alloc hbw _⟩
  rw [HRC.out]
  exact heap_alloc_new _ _
end
theorem verOf_at {vs : List ((ByteArray × ByteArray) × Nat)} {t u : ByteArray} {k : Nat} (h : k < vs.length) (hp : (vs.take k).any (isAt t u) = false) (he : isAt t u vs[k] = true) : verOf vs t u = vs[k].2 := by
  unfold verOf
  have : vs.find? (isAt t u) = some vs[k] := by
    obtain ⟨x, hx⟩ : ∃ x, x = vs[k] := ⟨_, rfl⟩
    rw [← hx] at he ⊢
    have e : vs = vs.take k ++ x :: vs.drop (k + 1) := by rw [hx, ← List.drop_eq_getElem_cons h, List.take_append_drop]
    rw [e, List.find?_append, List.find?_eq_none.2 (fun p hp' => by have := List.any_eq_false.1 hp p hp'; simpa using this)]
    simp only [Option.none_or]
    rw [List.find?_cons, he]
  rw [this]
  rfl
theorem verOf_none {vs : List ((ByteArray × ByteArray) × Nat)} {t u : ByteArray} (hp : vs.any (isAt t u) = false) : verOf vs t u = 1 := by
  unfold verOf
  rw [List.find?_eq_none.2 (fun p hp' => by have := List.any_eq_false.1 hp p hp'; simpa using this)]
  rfl
theorem any_take {vs : List ((ByteArray × ByteArray) × Nat)} {f : (ByteArray × ByteArray) × Nat → Bool} {k : Nat} (h : k < vs.length) : (vs.take (k + 1)).any f = ((vs.take k).any f || f vs[k]) := by
  rw [List.take_succ_eq_append_getElem h, List.any_append]
  simp
theorem isAt_eq (t u : ByteArray) (p : (ByteArray × ByteArray) × Nat) : isAt t u p = ((p.1.1.toList == t.toList) && (p.1.2.toList == u.toList)) := by
  unfold isAt
  obtain ⟨⟨a, b⟩, n⟩ := p
  have h1 : (a.toList == t.toList) = decide (a = t) := by
    by_cases e : a = t
    · subst e; simp
    · rw [decide_eq_false e, beq_eq_false_iff_ne]; exact fun e' => e ((str_eqJ _ _).2 e')
  have h2 : (b.toList == u.toList) = decide (b = u) := by
    by_cases e : b = u
    · subst e; simp
    · rw [decide_eq_false e, beq_eq_false_iff_ne]; exact fun e' => e ((str_eqJ _ _).2 e')
  rw [h1, h2]
  simp [Prod.mk.injEq]
set_option maxHeartbeats 2000000 in
theorem rCurrent_any {w : World} {B g : Nat} {root : List UInt8} {s : TS} {gv lv : Value} (h : RTree w B g root s gv lv) (hf : s.gs.length ≤ 1000) (hv : s.vs.length ≤ 1000) (t u : ByteArray) (ht : t.size ≤ maxLen) (hu : u.size ≤ maxLen) :
    Calls Tryz.prog 30 #[.pointer (some ⟨g, 0, none⟩), .string t, .string u] w fun e w' => e = .returned (.tuple #[.int .i64 ((s.cur t u).1 : Int), .int .i64 ((s.cur t u).2 : Int)]) ∧ Below w.heap.size w w' := by
  have H1 := refIsName_any t w ht
  have H2 := refIsName_any u w hu
  have HG := isGone_any h hf t
  have hr := (Below.refl w.heap.size w)
  by_cases n1 : okN t = true
  · rw [show nameB t.data.toList = true from n1] at H1
    by_cases n2 : okN u = true
    · rw [show nameB u.data.toList = true from n2] at H2
      by_cases hg : isIn s.gs t = true
      · have hc : s.cur t u = (0, 12) := by unfold TS.cur; rw [if_pos (by rw [n1, n2]; rfl), if_pos hg]
        rw [hc]
        rw [hg] at HG
        have H1 := hid H1
        have H2 := hid H2
        have HG := hid HG
        clear h n1 n2 hg hc ht hu hf hv
        go_enter Tryz.func30, Tryz.ntmps30
        go_wp2_with (first
          | (go_at_call 38; first | (refine H1.out.mono ?_; rintro _ w1 ⟨rfl, e1⟩; subst w1; clear H1) | (refine H2.out.mono ?_; rintro _ w1 ⟨rfl, e1⟩; subst w1; clear H2))
          | (go_at_call 41; refine HG.out.mono ?_; rintro _ w1 ⟨rfl, e1⟩; subst w1))
        go_ret2
        exact ⟨rfl, hr⟩
      · have hg' : isIn s.gs t = false := by simpa using hg
        have hc : s.cur t u = (verOf s.vs t u, 0) := by unfold TS.cur; rw [if_pos (by rw [n1, n2]; rfl), if_neg hg]
        rw [hc]
        rw [hg'] at HG
        have H1 := hid H1
        have H2 := hid H2
        have HG := hid HG
        obtain ⟨a, cap, rfl, hx⟩ := vers_of_own h.vers
        have c34 := h.c34
        obtain ⟨m, hm⟩ : ∃ m, m = s.vs.length := ⟨_, rfl⟩
        rw [← hm] at c34
        have Hm := hid hm
        have Hx := hid hx
        have hm9 : m ≤ 1000 := by omega
        obtain ⟨r, hr9⟩ : ∃ r, r = verOf s.vs t u := ⟨_, rfl⟩
        rw [← hr9]
        have Hr := hid hr9
        clear h n1 n2 hg hc ht hu hf hv hg' hx hm hr9
        go_enter Tryz.func30, Tryz.ntmps30
        go_wp2_with (first
          | (go_at_call 38; first | (refine H1.out.mono ?_; rintro _ w1 ⟨rfl, e1⟩; subst w1; clear H1) | (refine H2.out.mono ?_; rintro _ w1 ⟨rfl, e1⟩; subst w1; clear H2))
          | (go_at_call 41; refine HG.out.mono ?_; rintro _ w1 ⟨rfl, e1⟩; subst w1))
        go_loopw [8] (fun i wr => ∃ k : Nat, k ≤ m ∧ i = .int .i64 (k : Int) ∧ wr = w ∧ (s.vs.take k).any (isAt t u) = false) (fun i _ => m - (intOf i).toNat)
        case atStart => exact ⟨0, Nat.zero_le _, rfl, rfl, rfl⟩
        case round =>
          obtain ⟨k, hk, rfl, rfl, hpre⟩ := hrel
          by_cases hlt : k < m
          · have g1 : decide ((k : Int) < (m : Int)) = true := by simp; omega
            have hkl : k < s.vs.length := by have := Hm.out; omega
            obtain ⟨bb, rfl, d0, d1, d2⟩ := Hx.out k hkl
            have Hstep := hid (any_take (f := isAt t u) hkl)
            have Hat := hid (isAt_eq t u s.vs[k])
            have Hver := hid (fun he => verOf_at (t := t) (u := u) hkl hpre he)
            have Hpre := hid hpre
            clear hpre
            obtain ⟨x, hxk⟩ : ∃ x, x = s.vs[k] := ⟨_, rfl⟩
            rw [← hxk] at Hstep Hat d0 d1 d2 Hver
            clear hxk
            obtain ⟨⟨x1, x2⟩, xn⟩ := x
            simp only at d0 d1 d2
            cases q0 : (x1.toList == t.toList)
            · have Hq : Hid (isAt t u ((x1, x2), xn) = false) := Hat.out.trans (by simp only [q0]; rfl)
              go_wp2
              go_roundw
              case rel => exact ⟨k + 1, by omega, by go_num, by first | rfl | trivial, by rw [Hstep.out, Hpre.out, Hq.out]; rfl⟩
              case measure => simp [intOf]; omega
            · cases q1 : (x2.toList == u.toList)
              · have Hq : Hid (isAt t u ((x1, x2), xn) = false) := Hat.out.trans (by simp only [q0, q1]; rfl)
                go_wp2
                go_roundw
                case rel => exact ⟨k + 1, by omega, by go_num, by first | rfl | trivial, by rw [Hstep.out, Hpre.out, Hq.out]; rfl⟩
                case measure => simp [intOf]; omega
              · have Hq : Hid (isAt t u ((x1, x2), xn) = true) := Hat.out.trans (by simp only [q0, q1]; rfl)
                go_wp2
                go_ret2
                refine ⟨?_, hr⟩
                rw [Hr.out, Hver.out Hq.out]
                rfl
          · have g1 : decide ((k : Int) < (m : Int)) = false := by simp; omega
            have hfin : verOf s.vs t u = 1 := by
              have := Hm.out
              rw [List.take_of_length_le (by omega)] at hpre
              exact verOf_none hpre
            have Hfin := hid hfin
            clear hfin hpre
            go_wp2
            go_ret2
            refine ⟨?_, hr⟩
            rw [Hr.out, Hfin.out]
            rfl
    · have n2' : nameB u.data.toList = false := by show okN u = false; simpa using n2
      rw [n2'] at H2
      have hc : s.cur t u = (0, 8) := by unfold TS.cur; rw [if_neg (by rw [n1]; simpa using n2)]
      rw [hc]
      have H1 := hid H1
      have H2 := hid H2
      clear h n1 n2 n2' hc ht hu hf hv HG
      go_enter Tryz.func30, Tryz.ntmps30
      go_wp2_with (go_at_call 38; first | (refine H1.out.mono ?_; rintro _ w1 ⟨rfl, e1⟩; subst w1; clear H1) | (refine H2.out.mono ?_; rintro _ w1 ⟨rfl, e1⟩; subst w1; clear H2))
      go_ret2
      exact ⟨rfl, hr⟩
  · have n1' : nameB t.data.toList = false := by show okN t = false; simpa using n1
    rw [n1'] at H1
    have hc : s.cur t u = (0, 8) := by unfold TS.cur; rw [if_neg (by intro hh; exact n1 ((Bool.and_eq_true _ _).mp hh).1)]
    rw [hc]
    have H1 := hid H1
    clear h n1 n1' hc ht hu hf hv HG H2
    go_enter Tryz.func30, Tryz.ntmps30
    go_wp2_with (go_at_call 38; refine H1.out.mono ?_; rintro _ w1 ⟨rfl, e1⟩; subst w1; clear H1)
    go_ret2
    exact ⟨rfl, hr⟩
end Go.Proofs.YtdglmoikgmlaaaaGreatDoor
/- The program's tree and the reference's one beside one another: what each leaves of the other. -/
namespace Go.Proofs.YtdglmoikgmlaaaaGreatDoor
open Go.RowKit Go.Maps
set_option linter.unusedVariables false
set_option maxRecDepth 20000
def RT (w : World) (B g : Nat) (root : List UInt8) (s : TS) : Prop := ∃ gv lv, RTree w B g root s gv lv
def RM (w : World) (B g k : Nat) : Prop := B ≤ k ∧ (k = g ∨ ∃ cs fr, w.heap[k]? = some (.cells cs 9 fr))
theorem own_outJ {P : Nat → Prop} {w w' : World} {B n sz : Nat} {e : TypeId} {v : Value} {xs : List Value} (h : w.ownsRow B e sz v n xs) (ho : OutJ P w w') (hp : ∀ k cs, w.heap[k]? = some (.cells cs e (0, 0)) → ¬ P k) : w'.ownsRow B e sz v n xs := by
  refine ⟨h.1, ?_⟩
  rcases h.2 with h0 | ⟨g, cap, cur, e1, hb, hg, rest⟩
  · exact .inl h0
  · exact .inr ⟨g, cap, cur, e1, hb, (ho.block g (heap_lt hg) (hp g _ hg)).trans hg, rest⟩
theorem map_outJ {P : Nat → Prop} {w w' : World} {p : Program} {k : TypeId} {R : Value → Option (DataW Unit × List MemPlace)} {b n : Nat} {D : DataW Unit} (h : w.ownsMap p k R b n D) (ho : OutJ P w w') (hp : ¬ P b) : w'.ownsMap p k R b n D := by
  have hlt := h.lt
  obtain ⟨es, clock, hb, rest⟩ := h
  exact ⟨es, clock, (ho.block b hlt hp).trans hb, rest⟩
section
variable {w w' : World} {B g mv mg : Nat} {root : List UInt8} {s : TS} {d : Nat}
theorem TreeM.outJ {P : Nat → Prop} (h : TreeM w B g mv mg root s d) (ho : OutJ P w w') (h1 : ¬ P g) (h2 : ¬ P mv) (h3 : ¬ P mg) : TreeM w' B g mv mg root s d := by
  obtain ⟨ok, hne, nv, ng, V, G, t, rest⟩ := h
  exact ⟨ok, hne, nv, ng, V, G, ⟨(ho.block g t.lt h1).trans t.obj, map_outJ t.vm ho h2, map_outJ t.gm ho h3, t.len, t.bg, t.bv, t.bm⟩, rest⟩
theorem TreeM.blocks (h : TreeM w B g mv mg root s d) : (∃ cs, w.heap[g]? = some (.cells cs 55 (0, 0))) ∧ (∃ es c, w.heap[mv]? = some (.map es c)) ∧ (∃ es c, w.heap[mg]? = some (.map es c)) ∧ B ≤ g ∧ B ≤ mv ∧ B ≤ mg := by
  obtain ⟨ok, hne, nv, ng, V, G, t, rest⟩ := h
  obtain ⟨e1, c1, hb1, _⟩ := t.vm
  obtain ⟨e2, c2, hb2, _⟩ := t.gm
  exact ⟨⟨_, t.obj⟩, ⟨_, _, hb1⟩, ⟨_, _, hb2⟩, t.bg, t.bv, t.bm⟩
theorem TreeM.below_of (h : TreeM w B g mv mg root s d) (ho : OutJ (Mine g mv mg) w w') (hB : B ≤ w.heap.size) : Below B w w' := by
  obtain ⟨_, _, _, h1, h2, h3⟩ := h.blocks
  exact ho.below hB (fun k hk => by rcases hk with rfl | rfl | rfl <;> assumption)
theorem mine_typed (h : TreeM w B g mv mg root s d) {k : Nat} {cs : Array Value} {e : TypeId} (hk : w.heap[k]? = some (.cells cs e (0, 0))) (he : e ≠ 55) : ¬ Mine g mv mg k := by
  obtain ⟨⟨c0, h0⟩, ⟨e1, c1, h1⟩, ⟨e2, c2, h2⟩, _⟩ := h.blocks
  rintro (rfl | rfl | rfl)
  · rw [h0] at hk; cases hk; exact he rfl
  · rw [h1] at hk; cases hk
  · rw [h2] at hk; cases hk
theorem RTree.prog {g2 B2 : Nat} {root2 : List UInt8} {s2 : TS} {gv lv : Value} (r : RTree w B2 g2 root2 s2 gv lv) (h : TreeM w B g mv mg root s d) (ho : OutJ (Mine g mv mg) w w') : RTree w' B2 g2 root2 s2 gv lv :=
  ⟨(ho.block g2 r.lt (mine_typed h r.obj (by decide))).trans r.obj, own_outJ r.gone ho (fun k cs hk => mine_typed h hk (by decide)), own_outJ r.vers ho (fun k cs hk => mine_typed h hk (by decide)), r.len, r.bg⟩
theorem RT.prog {g2 B2 : Nat} {root2 : List UInt8} {s2 : TS} (r : RT w B2 g2 root2 s2) (h : TreeM w B g mv mg root s d) (ho : OutJ (Mine g mv mg) w w') : RT w' B2 g2 root2 s2 := by
  obtain ⟨gv, lv, r⟩ := r
  exact ⟨gv, lv, r.prog h ho⟩
theorem RT.below {g2 B2 : Nat} {root2 : List UInt8} {s2 : TS} (r : RT w B2 g2 root2 s2) (hb : Below w.heap.size w w') : RT w' B2 g2 root2 s2 := by
  obtain ⟨gv, lv, r⟩ := r
  exact ⟨gv, lv, r.below hb⟩
theorem bytes_prog {B2 n : Nat} {v : Value} {xs : List Value} (o : w.ownsRow B2 5 1 v n xs) (h : TreeM w B g mv mg root s d) (ho : OutJ (Mine g mv mg) w w') : w'.ownsRow B2 5 1 v n xs :=
  own_outJ o ho (fun k cs hk => mine_typed h hk (by decide))
theorem bytes_ref {B2 g2 B3 n : Nat} {root2 : List UInt8} {s2 : TS} {v : Value} {xs : List Value} (o : w.ownsRow B3 5 1 v n xs) (r : RT w B2 g2 root2 s2) (ho : OutJ (RM w B2 g2) w w') : w'.ownsRow B3 5 1 v n xs := by
  obtain ⟨gv, lv, r⟩ := r
  refine own_outJ o ho (fun k cs hk => ?_)
  rintro ⟨_, rfl | ⟨c2, f2, h2⟩⟩
  · have := r.obj; rw [hk] at this; cases this
  · rw [hk] at h2; cases h2
theorem TreeM.ref {g2 B2 : Nat} {root2 : List UInt8} {s2 : TS} (h : TreeM w B g mv mg root s d) (r : RT w B2 g2 root2 s2) (ho : OutJ (RM w B2 g2) w w') : TreeM w' B g mv mg root s d := by
  obtain ⟨⟨c0, h0⟩, ⟨e1, c1, h1⟩, ⟨e2, c2, h2⟩, _⟩ := h.blocks
  obtain ⟨gv, lv, r⟩ := r
  refine h.outJ ho ?_ ?_ ?_
  · rintro ⟨_, rfl | ⟨c3, f3, h3⟩⟩
    · have := r.obj; rw [h0] at this; cases this
    · rw [h0] at h3; cases h3
  · rintro ⟨_, rfl | ⟨c3, f3, h3⟩⟩
    · have := r.obj; rw [h1] at this; cases this
    · rw [h1] at h3; cases h3
  · rintro ⟨_, rfl | ⟨c3, f3, h3⟩⟩
    · have := r.obj; rw [h2] at this; cases this
    · rw [h2] at h3; cases h3
theorem RM.below {B2 g2 : Nat} (ho : OutJ (RM w B2 g2) w w') (hB : B2 ≤ w.heap.size) : Below B2 w w' := ho.below hB (fun k hk => hk.1)
end
end Go.Proofs.YtdglmoikgmlaaaaGreatDoor
/- Load of a tree of keys, of any rows. -/
namespace Go.Proofs.YtdglmoikgmlaaaaGreatDoor.Xr
open Go.RowKit Go.Maps
set_option linter.unusedVariables false
set_option maxRecDepth 20000
def LoadP (w : World) (root : List UInt8) (o : Option TS) (e : Ending) (w' : World) : Prop := Below w.heap.size w w' ∧ match o with
  | some s => ∃ g mv mg, e = .returned (.tuple #[.pointer (some ⟨g, 0, none⟩), .int .i64 0]) ∧ TreeM w' w.heap.size g mv mg root s 41
  | none => e = .returned (.tuple #[.pointer none, .int .i64 3])
theorem LoadP.no {w w' : World} {root : List UInt8} (hb : Below w.heap.size w w') : LoadP w root none (.returned (.tuple #[.pointer none, .int .i64 3])) w' := ⟨hb, rfl⟩
theorem TreeM.upL {w : World} {B g mv mg : Nat} {root : List UInt8} {s : TS} {d d' : Nat} (h : TreeM w B g mv mg root s d) (hd : d ≤ d') : TreeM w B g mv mg root s d' := by
  obtain ⟨ok, hne, nv, ng, V, G, h1, hV, hG, l1, l2⟩ := h
  exact ⟨ok, hne, nv, ng, V, G, h1, hV, hG, by omega, by omega⟩
theorem loadF_take {m : List Rw} {k : Nat} (hk : k < m.length) {s : TS} (h : loadF TS0 (m.take k) = some s) : loadF TS0 (m.take (k + 1)) = takeR s m[k] := by
  rw [List.take_succ_eq_append_getElem hk, loadF_snoc, h]
  rfl
theorem loadF_pre {m : List Rw} {k : Nat} (h : loadF TS0 (m.take k) = none) : loadF TS0 m = none := by
  rw [← List.take_append_drop k m, loadF_app, h]
  rfl
theorem loadR_some {r : Rw} {m : List Rw} (hh : r.key = headK) (hr : riseB (r :: m) = true) : loadR (r :: m) = loadF TS0 (r :: m) := by
  unfold loadR
  rw [if_pos ⟨⟨_, _, rfl, hh⟩, (riseB_iff _).1 hr⟩]
theorem loadR_nil : loadR [] = none := by
  unfold loadR
  rw [if_neg]
  rintro ⟨⟨r, m, e, _⟩, _⟩
  cases e
theorem loadR_head {r : Rw} {m : List Rw} (hh : r.key ≠ headK) : loadR (r :: m) = none := by
  unfold loadR
  rw [if_neg]
  rintro ⟨⟨r, m, e, h⟩, _⟩
  injection e with e1 e2
  subst e1
  exact hh h
theorem loadR_rise {m : List Rw} (hr : riseB m = false) : loadR m = none := by
  unfold loadR
  rw [if_neg]
  rintro ⟨_, h⟩
  rw [(riseB_iff _).2 h] at hr
  cases hr
set_option maxHeartbeats 4000000 in
theorem load_any {w : World} {root : List UInt8} (lk : root.length = 32) (m : List Rw) (hs : Small m) (a : Option Addr) (n cap : Nat) (hn : n = m.length) (h : RIn w a m) (hfew : (m.head?.map (·.key)) = some headK → riseB m = true → ∀ k s, k ≤ m.length → loadF TS0 (m.take k) = some s → k ≤ 40) :
    Calls Tryz.prog 13 #[.agg (bvs root), .slice a n cap] w (LoadP w root (loadR m)) := by
  obtain ⟨O, hO⟩ : ∃ O, O = bvs root := ⟨_, rfl⟩
  obtain ⟨W, hW⟩ : ∃ W, W = w.alloc (.cells O 23) := ⟨_, rfl⟩
  have x0 : W.heap[w.heap.size]? = some (.cells O 23 (0, 0)) := by rw [hW]; exact heap_alloc_new w _
  have hI : (Tryz.prog.info? 23).map (·.size) = some O.size := by rw [hO]; exact (show HV (bvs root) root from ⟨rfl, lk⟩).info
  have hb0 : Below w.heap.size w W := by rw [hW]; exact (Below.refl _ w).alloc (Nat.le_refl _) _
  have X0 := hid x0
  have HI := hid hI
  have HW := hid hW
  have B0 := hid hb0
  have HO := hid hO
  have HR := hid (h.below hb0)
  have H0 := hid h
  have HS := hid (rising_any a n cap hn (h.below hb0) hs.1)
  have Hn := hid hn
  have Hs := hid hs
  have Hlk := hid lk
  have hn9 : n ≤ 140737488351232 := by rw [hn]; exact hs.1
  rw [← hO]
  clear hO hW x0 hI hb0 h hn hs lk
  by_cases hn0 : n = 0
  · have e0 : m = [] := List.eq_nil_of_length_eq_zero (by have := Hn.out; omega)
    have eL : Hid (loadR m = none) := by rw [Hid, e0]; exact loadR_nil
    have d1 : (((n : Nat) : Int) == 0) = true := by simp; omega
    clear hn0 e0 HS
    go_enter Tryz.func13, Tryz.ntmps13
    go_wp2
    go_ret2
    rw [eL.out]
    refine LoadP.no ?_
    rw [← HW.out]
    exact B0.out
  have d1 : (((n : Nat) : Int) == 0) = false := by simp; omega
  obtain ⟨r, m', em⟩ : ∃ r m', m = r :: m' := by
    cases m with
    | nil => have := Hn.out; exact absurd this hn0
    | cons r m' => exact ⟨r, m', rfl⟩
  obtain ⟨b, o, ad, cp, rfl, c1, _⟩ := HR.out 0 (by have := Hn.out; omega)
  have hm0 : m[0]'(by have := Hn.out; omega) = r := by simp [em]
  rw [hm0, Nat.zero_mul, Nat.add_zero] at c1
  have g0 : (0 : Int) < (n : Int) := by omega
  rw [HW.out] at c1
  by_cases hh : r.key = headK
  · have e2 : (r.key.toList == [35]) = true := by rw [hh]; decide +kernel
    cases hr : riseB m with
    | false =>
      rw [hr] at HS
      have eL : Hid (loadR m = none) := loadR_rise hr
      clear hm0 em hh hr hfew
      go_enter Tryz.func13, Tryz.ntmps13
      go_wp2_with (go_at_call 36; rw [← HW.out]; refine HS.out.mono ?_; rintro _ w1 ⟨rfl, b1⟩; have B1 := hid (Below.on' B0.out b1); clear b1)
      go_ret2
      rw [eL.out]
      exact LoadP.no B1.out
    | true =>
      rw [hr] at HS
      have eL : Hid (loadR m = loadF TS0 m) := by rw [Hid, em]; exact loadR_some hh (by rw [← em]; exact hr)
      have Few := hid (hfew (by rw [em]; simp [hh]) hr)
      have HNew := hid (fun (V : World) => (show Calls Tryz.prog 6 #[.agg O] V (fun e w' => ∃ g mv mg, e = .returned (.pointer (some ⟨g, 0, none⟩)) ∧ TreeAt w' V.heap.size g root mv mg 0 0 (.map []) (.map []) 0 ∧ Below V.heap.size V w' ∧ mv ≠ mg) by rw [HO.out]; exact new_any V root Hlk.out))
      clear hm0 em hh hr hfew
      go_enter Tryz.func13, Tryz.ntmps13
      go_wp2_with (first
        | (go_at_call 36; rw [← HW.out]; refine HS.out.mono ?_; rintro _ w1 ⟨rfl, b1⟩; have B1 := hid (Below.on' B0.out b1); have X1 := hid ((b1.block _ (heap_lt X0.out)).trans X0.out); clear b1)
        | (with_reducible show Go.wpList _ _ _ _ _ _; refine wpList_load_row rfl 23 _ rfl w.heap.size rfl _ _ _ _ X1.out Tryz.underlying23 rfl HI.out ?_)
        | (go_at_call 6; refine (HNew.out w1).mono ?_; rintro _ w2 ⟨g, mv, mg, rfl, t2, b2, hne⟩; have T2 := hid (treeM_new t2 hne B1.out.size); have B2 := hid (Below.on' B1.out b2); clear t2 b2 hne))
      go_loopw [28] (fun i wr => ∃ (k : Nat) (s : TS), i = .int .i64 (k : Int) ∧ k ≤ n ∧ loadF TS0 (m.take k) = some s ∧ TreeM wr w.heap.size g mv mg root s k ∧ Below w.heap.size w wr) (fun i _ => n - (intOf i).toNat)
      case atStart => exact ⟨0, TS0, rfl, Nat.zero_le _, rfl, T2.out, B2.out⟩
      case round =>
        obtain ⟨k, s, rfl, hk, hld, ht, hb⟩ := hrel
        have HT := hid ht
        have HB := hid hb
        have Hld := hid hld
        have hk8 := Few.out k s (by have := Hn.out; omega) hld
        clear ht hb hld
        by_cases hlt : k < n
        · have g1 : (k : Int) < (n : Int) := by omega
          have g2 : (0 : Int) ≤ (k : Int) := by omega
          have hkm : k < m.length := by have := Hn.out; omega
          obtain ⟨b', o', ad', cp', eq', q1, q2, q3⟩ := (H0.out.below HB.out) k hkm
          injection eq' with eq'
          injection eq' with eb eo
          subst eb eo
          have hst := hid (loadF_take hkm Hld.out)
          have hsm := Hs.out.2 _ (List.getElem_mem hkm)
          obtain ⟨x, hx⟩ : ∃ x, x = m[k] := ⟨_, rfl⟩
          rw [← hx] at hst hsm q1 q2 q3
          clear hx
          have Hsm := hid hsm
          have Q3 := hid q3
          have HTk := hid (fun (V : World) (hV : Below wr.heap.size wr V) => take_any (HT.out.below hV) (by omega) x ad' x.cols.length cp' rfl (q3.below hV) hsm.2.1 hsm.2.2 hsm.1)
          obtain ⟨ncol, hncol⟩ : ∃ ncol, ncol = x.cols.length := ⟨_, rfl⟩
          rw [← hncol] at q2 HTk
          have q4 : wr.cell? ⟨b, o + k * 2 + 1, none⟩ = some (.slice ad' ncol cp') := q2
          clear q2
          clear q3 hsm hncol
          generalize x.key = xk at *
          cases ho : takeR s x with
          | none =>
            rw [ho] at HTk hst
            clear ho
            go_wp2_with (go_at_call 37; refine (HTk.out _ ((Below.refl _ _).alloc (Nat.le_refl _) _)).mono ?_; rintro _ w4 ⟨rfl, t4, o4⟩)
            go_ret2
            rw [eL.out, loadF_pre hst.out]
            refine LoadP.no ?_
            have ba := (Below.refl wr.heap.size wr).alloc (Nat.le_refl _) (.cells #[.string xk, .slice ad' ncol cp'] 67)
            have bb := (HT.out.below ba).below_of o4 (Nat.le_trans HB.out.size ba.size)
            exact Below.trans (Below.on' HB.out ba) bb
          | some s' =>
            rw [ho] at HTk hst
            clear ho
            go_wp2_with (go_at_call 37; refine (HTk.out _ ((Below.refl _ _).alloc (Nat.le_refl _) _)).mono ?_; rintro _ w4 ⟨rfl, t4, o4⟩)
            go_roundw
            case rel =>
              have ba := (Below.refl wr.heap.size wr).alloc (Nat.le_refl _) (.cells #[.string xk, .slice ad' ncol cp'] 67)
              have bb := (HT.out.below ba).below_of o4 (Nat.le_trans HB.out.size ba.size)
              exact ⟨k + 1, s', by go_num, by omega, hst.out, t4 s' rfl, Below.trans (Below.on' HB.out ba) bb⟩
            case measure => simp [intOf]; omega
        · have ek : k = n := by omega
          subst ek
          have g1 : ¬ (k : Int) < (k : Int) := by omega
          go_wp2
          go_ret2
          have h1 := Hld.out
          rw [List.take_of_length_le (by have := Hn.out; omega)] at h1
          rw [eL.out, h1]
          exact ⟨HB.out, g, mv, mg, rfl, TreeM.upL HT.out (by omega)⟩
  · have e2 : (r.key.toList == [35]) = false := by
      rw [beq_eq_false_iff_ne]
      intro e
      exact hh ((str_eq _ _).2 (e.trans (by decide +kernel)))
    have eL : Hid (loadR m = none) := by rw [Hid, em]; exact loadR_head hh
    clear hm0 em HS hh
    go_enter Tryz.func13, Tryz.ntmps13
    go_wp2
    go_ret2
    rw [eL.out]
    refine LoadP.no ?_
    rw [← HW.out]
    exact B0.out
end Go.Proofs.YtdglmoikgmlaaaaGreatDoor.Xr
