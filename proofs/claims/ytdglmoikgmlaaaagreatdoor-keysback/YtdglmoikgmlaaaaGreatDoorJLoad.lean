/- Load of a tree of keys, of any rows. -/
import Derived.Test.YtdglmoikgmlaaaaGreatDoorJTake2
import Derived.Test.YtdglmoikgmlaaaaGreatDoorJR5
namespace Go.Proofs.YtdglmoikgmlaaaaGreatDoor.Xr
open Go.RowKit Go.Maps
set_option linter.unusedVariables false
set_option maxRecDepth 20000
/-- what Load tells -/
def LoadP (w : World) (root : List UInt8) (o : Option TS) (e : Ending) (w' : World) : Prop := Below w.heap.size w w' ∧ match o with
  | some s => ∃ g mv mg, e = .returned (.tuple #[.pointer (some ⟨g, 0, none⟩), .int .i64 0]) ∧ TreeM w' w.heap.size g mv mg root s 801
  | none => e = .returned (.tuple #[.pointer none, .int .i64 3])
theorem LoadP.no {w w' : World} {root : List UInt8} (hb : Below w.heap.size w w') : LoadP w root none (.returned (.tuple #[.pointer none, .int .i64 3])) w' := ⟨hb, rfl⟩
theorem TreeM.upL {w : World} {B g mv mg : Nat} {root : List UInt8} {s : TS} {d d' : Nat} (h : TreeM w B g mv mg root s d) (hd : d ≤ d') : TreeM w B g mv mg root s d' := by
  obtain ⟨ok, hne, nv, ng, V, G, h1, hV, hG, l1, l2⟩ := h
  exact ⟨ok, hne, nv, ng, V, G, h1, hV, hG, by omega, by omega⟩
theorem loadF_take {m : List Rw} {k : Nat} (hk : k < m.length) {s : TS} (h : loadF TS0 (m.take k) = some s) : loadF TS0 (m.take (k + 1)) = takeR s m[k] := by
  rw [List.take_succ_eq_append_getElem hk, loadF_snoc, h]
  rfl
theorem loadF_pre {m : List Rw} {k : Nat} (h : loadF TS0 (m.take k) = none) : loadF TS0 m = none := by
  rw [← List.take_append_drop k m, loadF_app, h]
  rfl
theorem loadR_some {r : Rw} {m : List Rw} (hh : r.key = headK) (hr : riseB (r :: m) = true) : loadR (r :: m) = loadF TS0 (r :: m) := by
  unfold loadR
  rw [if_pos ⟨⟨_, _, rfl, hh⟩, (riseB_iff _).1 hr⟩]
theorem loadR_nil : loadR [] = none := by
  unfold loadR
  rw [if_neg]
  rintro ⟨⟨r, m, e, _⟩, _⟩
  cases e
theorem loadR_head {r : Rw} {m : List Rw} (hh : r.key ≠ headK) : loadR (r :: m) = none := by
  unfold loadR
  rw [if_neg]
  rintro ⟨⟨r, m, e, h⟩, _⟩
  injection e with e1 e2
  subst e1
  exact hh h
theorem loadR_rise {m : List Rw} (hr : riseB m = false) : loadR m = none := by
  unfold loadR
  rw [if_neg]
  rintro ⟨_, h⟩
  rw [(riseB_iff _).2 h] at hr
  cases hr
set_option maxHeartbeats 4000000 in
theorem load_any {w : World} {root : List UInt8} (lk : root.length = 32) (m : List Rw) (hs : Small m) (a : Option Addr) (n cap : Nat) (hn : n = m.length) (h : RIn w a m) (hfew : riseB m = true → ∀ k s, k ≤ m.length → loadF TS0 (m.take k) = some s → k ≤ 800) :
    Calls Tryz.prog 13 #[.agg (bvs root), .slice a n cap] w (LoadP w root (loadR m)) := by
  obtain ⟨O, hO⟩ : ∃ O, O = bvs root := ⟨_, rfl⟩
  obtain ⟨W, hW⟩ : ∃ W, W = w.alloc (.cells O 23) := ⟨_, rfl⟩
  have x0 : W.heap[w.heap.size]? = some (.cells O 23 (0, 0)) := by rw [hW]; exact heap_alloc_new w _
  have hI : (Tryz.prog.info? 23).map (·.size) = some O.size := by rw [hO]; exact (show HV (bvs root) root from ⟨rfl, lk⟩).info
  have hb0 : Below w.heap.size w W := by rw [hW]; exact (Below.refl _ w).alloc (Nat.le_refl _) _
  have X0 := hid x0
  have HI := hid hI
  have HW := hid hW
  have B0 := hid hb0
  have HO := hid hO
  have HR := hid (h.below hb0)
  have H0 := hid h
  have HS := hid (rising_any a n cap hn (h.below hb0) hs.1)
  have Hn := hid hn
  have Hs := hid hs
  have Hlk := hid lk
  have hn9 : n ≤ 140737488351232 := by rw [hn]; exact hs.1
  rw [← hO]
  clear hO hW x0 hI hb0 h hn hs lk
  by_cases hn0 : n = 0
  · have e0 : m = [] := List.eq_nil_of_length_eq_zero (by have := Hn.out; omega)
    have eL : Hid (loadR m = none) := by rw [Hid, e0]; exact loadR_nil
    have d1 : (((n : Nat) : Int) == 0) = true := by simp; omega
    clear hn0 e0 HS
    go_enter Tryz.func13, Tryz.ntmps13
    go_wp2
    go_ret2
    rw [eL.out]
    refine LoadP.no ?_
    rw [← HW.out]
    exact B0.out
  have d1 : (((n : Nat) : Int) == 0) = false := by simp; omega
  obtain ⟨r, m', em⟩ : ∃ r m', m = r :: m' := by
    cases m with
    | nil => have := Hn.out; exact absurd this hn0
    | cons r m' => exact ⟨r, m', rfl⟩
  obtain ⟨b, o, ad, cp, rfl, c1, _⟩ := HR.out 0 (by have := Hn.out; omega)
  have hm0 : m[0]'(by have := Hn.out; omega) = r := by simp [em]
  rw [hm0, Nat.zero_mul, Nat.add_zero] at c1
  have g0 : (0 : Int) < (n : Int) := by omega
  rw [HW.out] at c1
  by_cases hh : r.key = headK
  · have e2 : (r.key.toList == [35]) = true := by rw [hh]; decide +kernel
    cases hr : riseB m with
    | false =>
      rw [hr] at HS
      have eL : Hid (loadR m = none) := loadR_rise hr
      clear hm0 em hh hr hfew
      go_enter Tryz.func13, Tryz.ntmps13
      go_wp2_with (go_at_call 36; rw [← HW.out]; refine HS.out.mono ?_; rintro _ w1 ⟨rfl, b1⟩; have B1 := hid (Below.on' B0.out b1); clear b1)
      go_ret2
      rw [eL.out]
      exact LoadP.no B1.out
    | true =>
      rw [hr] at HS
      have eL : Hid (loadR m = loadF TS0 m) := by rw [Hid, em]; exact loadR_some hh (by rw [← em]; exact hr)
      have Few := hid (hfew hr)
      have HNew := hid (fun (V : World) => (show Calls Tryz.prog 6 #[.agg O] V (fun e w' => ∃ g mv mg, e = .returned (.pointer (some ⟨g, 0, none⟩)) ∧ TreeAt w' V.heap.size g root mv mg 0 0 (.map []) (.map []) 0 ∧ Below V.heap.size V w' ∧ mv ≠ mg) by rw [HO.out]; exact new_any V root Hlk.out))
      clear hm0 em hh hr hfew
      go_enter Tryz.func13, Tryz.ntmps13
      go_wp2_with (first
        | (go_at_call 36; rw [← HW.out]; refine HS.out.mono ?_; rintro _ w1 ⟨rfl, b1⟩; have B1 := hid (Below.on' B0.out b1); have X1 := hid ((b1.block _ (heap_lt X0.out)).trans X0.out); clear b1)
        | (with_reducible show Go.wpList _ _ _ _ _ _; refine wpList_load_row rfl 23 _ rfl w.heap.size rfl _ _ _ _ X1.out Tryz.underlying23 rfl HI.out ?_)
        | (go_at_call 6; refine (HNew.out w1).mono ?_; rintro _ w2 ⟨g, mv, mg, rfl, t2, b2, hne⟩; have T2 := hid (treeM_new t2 hne B1.out.size); have B2 := hid (Below.on' B1.out b2); clear t2 b2 hne))
      go_loopw [28] (fun i wr => ∃ (k : Nat) (s : TS), i = .int .i64 (k : Int) ∧ k ≤ n ∧ loadF TS0 (m.take k) = some s ∧ TreeM wr w.heap.size g mv mg root s k ∧ Below w.heap.size w wr) (fun i _ => n - (intOf i).toNat)
      case atStart => exact ⟨0, TS0, rfl, Nat.zero_le _, rfl, T2.out, B2.out⟩
      case round =>
        obtain ⟨k, s, rfl, hk, hld, ht, hb⟩ := hrel
        have HT := hid ht
        have HB := hid hb
        have Hld := hid hld
        have hk8 := Few.out k s (by have := Hn.out; omega) hld
        clear ht hb hld
        by_cases hlt : k < n
        · have g1 : (k : Int) < (n : Int) := by omega
          have g2 : (0 : Int) ≤ (k : Int) := by omega
          have hkm : k < m.length := by have := Hn.out; omega
          obtain ⟨b', o', ad', cp', eq', q1, q2, q3⟩ := (H0.out.below HB.out) k hkm
          injection eq' with eq'
          injection eq' with eb eo
          subst eb eo
          have hst := hid (loadF_take hkm Hld.out)
          have hsm := Hs.out.2 _ (List.getElem_mem hkm)
          obtain ⟨x, hx⟩ : ∃ x, x = m[k] := ⟨_, rfl⟩
          rw [← hx] at hst hsm q1 q2 q3
          clear hx
          have Hsm := hid hsm
          have Q3 := hid q3
          have HTk := hid (fun (V : World) (hV : Below wr.heap.size wr V) => take_any (HT.out.below hV) (by omega) x ad' x.cols.length cp' rfl (q3.below hV) hsm.2.1 hsm.2.2 hsm.1)
          obtain ⟨ncol, hncol⟩ : ∃ ncol, ncol = x.cols.length := ⟨_, rfl⟩
          rw [← hncol] at q2 HTk
          have q4 : wr.cell? ⟨b, o + k * 2 + 1, none⟩ = some (.slice ad' ncol cp') := q2
          clear q2
          clear q3 hsm hncol
          generalize x.key = xk at *
          cases ho : takeR s x with
          | none =>
            rw [ho] at HTk hst
            clear ho
            go_wp2_with (go_at_call 37; refine (HTk.out _ ((Below.refl _ _).alloc (Nat.le_refl _) _)).mono ?_; rintro _ w4 ⟨rfl, t4, o4⟩)
            go_ret2
            rw [eL.out, loadF_pre hst.out]
            refine LoadP.no ?_
            have ba := (Below.refl wr.heap.size wr).alloc (Nat.le_refl _) (.cells #[.string xk, .slice ad' ncol cp'] 67)
            have bb := (HT.out.below ba).below_of o4 (Nat.le_trans HB.out.size ba.size)
            exact Below.trans (Below.on' HB.out ba) bb
          | some s' =>
            rw [ho] at HTk hst
            clear ho
            go_wp2_with (go_at_call 37; refine (HTk.out _ ((Below.refl _ _).alloc (Nat.le_refl _) _)).mono ?_; rintro _ w4 ⟨rfl, t4, o4⟩)
            go_roundw
            case rel =>
              have ba := (Below.refl wr.heap.size wr).alloc (Nat.le_refl _) (.cells #[.string xk, .slice ad' ncol cp'] 67)
              have bb := (HT.out.below ba).below_of o4 (Nat.le_trans HB.out.size ba.size)
              exact ⟨k + 1, s', by go_num, by omega, hst.out, t4 s' rfl, Below.trans (Below.on' HB.out ba) bb⟩
            case measure => simp [intOf]; omega
        · have ek : k = n := by omega
          subst ek
          have g1 : ¬ (k : Int) < (k : Int) := by omega
          go_wp2
          go_ret2
          have h1 := Hld.out
          rw [List.take_of_length_le (by have := Hn.out; omega)] at h1
          rw [eL.out, h1]
          exact ⟨HB.out, g, mv, mg, rfl, TreeM.upL HT.out (by omega)⟩
  · have e2 : (r.key.toList == [35]) = false := by
      rw [beq_eq_false_iff_ne]
      intro e
      exact hh ((str_eq _ _).2 (e.trans (by decide +kernel)))
    have eL : Hid (loadR m = none) := by rw [Hid, em]; exact loadR_head hh
    clear hm0 em HS hh
    go_enter Tryz.func13, Tryz.ntmps13
    go_wp2
    go_ret2
    rw [eL.out]
    refine LoadP.no ?_
    rw [← HW.out]
    exact B0.out
end Go.Proofs.YtdglmoikgmlaaaaGreatDoor.Xr
