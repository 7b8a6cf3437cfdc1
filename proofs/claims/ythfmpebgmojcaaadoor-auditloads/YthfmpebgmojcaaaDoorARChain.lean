/- YthfmpebgmojcaaaDoorARefRow + YthfmpebgmojcaaaDoorARBytes + YthfmpebgmojcaaaDoorARChain -/
import Derived.Test.YthfmpebgmojcaaaDoorTkH
import Derived.Test.YthfmpebgmojcaaaDoorAFn
import Derived.Test.YthfmpebgmojcaaaDoorARefSum
import Derived.Test.YthfmpebgmojcaaaDoorABytes
import Derived.Test.YthfmpebgmojcaaaDoorARefNum
/- The reference's Row, by a contract. -/
namespace Go.Proofs.YthfmpebgmojcaaaDoor
open Go.RowKit
set_option linter.unusedVariables false
set_option maxRecDepth 20000
set_option maxHeartbeats 400000 in
theorem refRow_any (l : List ByteArray) (a : Option Addr) (cap : Nat) (w : World) (hT : Texts w a l) (hsz : ∀ s ∈ l, s.size ≤ 140737488351232) (hlen : l.length ≤ 140737488351232) :
    Calls Tryd.prog 105 #[.slice a l.length cap] w fun e w' => ∃ a' cap', e = .returned (.tuple #[.slice a' (rowRes l).length cap', .int .i64 (rowErr l : Int)]) ∧ Bytes w' a' (rowRes l) ∧ Below w.heap.size w w' ∧ (rowRes l).length ≤ cap' ∧ (a' = none → cap' = 0) := by
  by_cases h8 : 8 < l.length
  · have e1 : rowErr l = 2 := by unfold rowErr; rw [if_pos h8]
    have e2 : rowRes l = [] := by unfold rowRes; rw [e1, if_neg (by omega)]
    rw [e1, e2]
    go_enter Tryd.func105, Tryd.ntmps105
    go_wp2
    go_ret2
    exact ⟨none, 0, rfl, fun i hi => by simp at hi, Below.refl _ _, Nat.le_refl _, fun _ => rfl⟩
  have HT := hid hT
  have Hsz := hid hsz
  clear hT hsz
  have Hown := hid (own_lit w l.length (by omega))
  have E : Hid (∀ e r, rowErr l = e → rowRes l = r → rowErr l = e) := fun _ _ h _ => h
  generalize he : rowErr l = er
  generalize hr : rowRes l = rr
  have He := hid he
  have Hr := hid hr
  clear he hr E
  go_enter Tryd.func105, Tryd.ntmps105
  go_wp2_with fail
  go_loopw [4, 5] (fun v i wr => ∃ k : Nat, k ≤ l.length ∧ i = .int .i64 k ∧ wr.ownsRow w.heap.size 5 1 v (rowTo l k).length (cellsOf (rowTo l k)) ∧ Below w.heap.size w wr ∧ ∀ s ∈ l.take k, s.size ≤ 70) (fun _ i _ => l.length - (intOf i).toNat)
  case atStart => exact ⟨0, Nat.zero_le _, rfl, Hown.out, (Below.refl _ _).alloc (Nat.le_refl _) _, by simp⟩
  case round =>
    obtain ⟨k, hk, rfl, hownr, hbel, hsm⟩ := hrel
    have hbd := rowTo_bound l k hk hsm
    have Hownr := hid hownr
    have hszr := hbel.size
    have Hbel := hid hbel
    have Hsm := hid hsm
    clear hownr hbel hsm
    by_cases hlt : k < l.length
    · obtain ⟨b, o, ha, hcw⟩ := HT.out k hlt
      have hblt : b < w.heap.size := World.block_lt_of_cell? _ _ hcw
      have hc := (Hbel.out.cell (p := ⟨b, o + k, none⟩) hblt).trans hcw
      clear hcw
      have Hstep := hid (rowTo_step l k hlt)
      have Hmem : Hid (l[k]'hlt ∈ l) := List.getElem_mem _
      have Htk : Hid (l.take (k + 1) = l.take k ++ [l[k]'hlt]) := List.take_succ_eq_append_getElem hlt
      generalize (l[k]'hlt) = s at hc Hstep Hmem Htk
      subst ha
      have hs47 := Hsz.out s Hmem.out
      by_cases h70 : 70 < s.size
      · have e1 : er = 6 := by
          rw [← He.out]
          unfold rowErr
          rw [if_neg h8, if_pos (List.any_eq_true.2 ⟨s, Hmem.out, by simpa using h70⟩)]
        have e2 : rr = [] := by rw [← Hr.out]; unfold rowRes; rw [He.out, e1, if_neg (by omega)]
        subst e1
        subst e2
        go_wp2
        go_ret2
        exact ⟨none, 0, rfl, fun i hi => by simp at hi, Hbel.out, Nat.le_refl _, fun _ => rfl⟩
      · generalize hys : rowTo l k = ys at Hownr hbd Hstep
        have Hys := hid hys
        clear hys
        go_wp2_with (first | (at_builtin; refine app_nat _ rfl (.tmp 25) (.tmp 32) rfl w.heap.size _ ys rfl Hownr.out s.size (by omega) rfl (by omega) (by omega) ?_; intro v1 w1 ho1 hb1 hs1; have hc1 := (hb1.cell (p := ⟨b, o + k, none⟩) hblt).trans hc) | (at_builtin; refine app_str _ rfl (.tmp 34) (.tmp 38) rfl w.heap.size _ (ys ++ [UInt8.ofNat s.size]) rfl ho1 s rfl (by simp; omega) (by have := hb1.size; omega) ?_; intro v2 w2 ho2 hb2 hs2))
        go_roundw
        case rel =>
          refine ⟨k + 1, by omega, by go_num, by rw [Hstep.out]; exact ho2, Hbel.out.trans (hb1.trans hb2), ?_⟩
          intro t ht
          rw [Htk.out] at ht
          rcases List.mem_append.1 ht with h | h
          · exact Hsm.out t h
          · have : t = s := by simpa using h
            subst this
            omega
        case measure => simp [intOf]; omega
    · have hk' : k = l.length := by omega
      have hany : l.any (fun s => decide (70 < s.size)) = false := by
        rw [← Bool.not_eq_true, List.any_eq_true]
        rintro ⟨s, hs, h⟩
        have := Hsm.out s (by rw [hk', List.take_length]; exact hs)
        simp at h
        omega
      have hrow : rowTo l k = rowOf (bs l) := by
        unfold rowTo rowOf
        rw [hk', List.take_length]
        simp [bs]
      rw [hrow] at Hownr hbd
      obtain ⟨av, cv, hv, hB, hcap, hnone⟩ := bytes_ofH Hownr.out
      have Hnone := hid hnone
      clear hnone
      have HB := hid hB
      clear hB
      by_cases h72 : 72 < (rowOf (bs l)).length
      · have e1 : er = 6 := by
          rw [← He.out]
          unfold rowErr
          rw [if_neg h8, hany, if_neg (by simp), if_pos h72]
        have e2 : rr = [] := by rw [← Hr.out]; unfold rowRes; rw [He.out, e1, if_neg (by omega)]
        subst e1
        subst e2
        subst hv
        clear hany hrow hk'
        go_wp2
        go_ret2
        exact ⟨none, 0, rfl, fun i hi => by simp at hi, Hbel.out, Nat.le_refl _, fun _ => rfl⟩
      · have e1 : er = 0 := by
          rw [← He.out]
          unfold rowErr
          rw [if_neg h8, hany, if_neg (by simp), if_neg h72]
        have e2 : rr = rowOf (bs l) := by rw [← Hr.out]; unfold rowRes; rw [He.out, e1, if_pos rfl]
        subst e1
        subst e2
        subst hv
        clear hany hrow hk'
        go_wp2
        go_ret2
        exact ⟨av, cv, rfl, HB.out, Hbel.out, hcap, Hnone.out⟩
end Go.Proofs.YthfmpebgmojcaaaDoor
/- The reference's bytes of an event: holdfastref14.Bytes by a contract (printed out of ABytes by gen/arbytes.py). -/
namespace Go.Proofs.YthfmpebgmojcaaaDoor
open Go.RowKit
set_option linter.unusedVariables false
set_option maxRecDepth 20000
theorem rNum_any (n : Nat) (h : n ≤ 4611686018427387904) (w : World) : Calls Tryd.prog 36 #[.int .i64 (n : Int)] w fun e w' => e = .returned (.string (txt n)) ∧ Below w.heap.size w w' := refNum_any n h w
def RBPost (w : World) (l : List UInt8) (x : Ending) (w' : World) : Prop := ∃ a cap, x = .returned (.slice a l.length cap) ∧ Bytes w' a l ∧ Below w.heap.size w w' ∧ l.length ≤ cap ∧ (a = none → cap = 0)
theorem hf_rnum : ∀ (args : Array Value) (w : World), (callFunc 36 args).run Tryd.prog w = .ok (.enter 36 args) w := fun args w => by simp [go_sem]
theorem hf_rrow : ∀ (args : Array Value) (w : World), (callFunc 105 args).run Tryd.prog w = .ok (.enter 105 args) w := fun args w => by simp [go_sem]
set_option maxHeartbeats 2000000 in
theorem rBytes_any (w : World) (e : Ev) (hn : e.num ≤ 4611686018427387904) (ht : e.tim ≤ 4611686018427387904) (h1 : e.what.size ≤ 12) (h2 : e.who.size ≤ 30) :
    Calls Tryd.prog 81 #[.agg (eVals e).toArray] w (RBPost w (evB e)) := by
  have HR := hid (fun (p q : ByteArray) (hp : p.size ≤ 100) (hq : q.size ≤ 100) (W : World) (ad : Option Addr) (h : Texts W ad [p, q, e.what, e.who]) => refRow_any [p, q, e.what, e.who] ad 4 W h (fun s hs => by simp at hs; rcases hs with rfl | rfl | rfl | rfl <;> omega) (by simp))
  have N1 : ∀ n, n ≤ 4611686018427387904 → (txt n).size ≤ 100 := fun n h => by
    show (numT n).toArray.size ≤ 100
    unfold numT
    split
    · decide
    · rw [List.size_toArray, List.length_cons, lo_length]
      have := (Nat.log2_lt (by omega)).2 (show n < 2 ^ 63 by omega)
      omega
  obtain ⟨pt, hpt⟩ : ∃ pt, pt = txt e.num := ⟨_, rfl⟩
  obtain ⟨qt, hqt⟩ : ∃ qt, qt = txt e.tim := ⟨_, rfl⟩
  have hl : Hid (rowRes [pt, qt, e.what, e.who] = evB e) := by
    show _ = _
    rw [hpt, hqt]; rfl
  have C1 := hid (fun W => rNum_any e.num hn W)
  have C2 := hid (fun W => rNum_any e.tim ht W)
  have s1 := N1 e.num hn
  have s2 := N1 e.tim ht
  rw [← hpt] at C1 s1
  rw [← hqt] at C2 s2
  have HR := hid (HR.out pt qt s1 s2)
  rw [hl.out] at HR
  clear hl N1 hpt hqt
  generalize evB e = l at *
  generalize ((rowErr [pt, qt, e.what, e.who] : Nat) : Int) = er at *
  unfold eVals
  generalize e.num = p at *
  generalize e.tim = q at *
  generalize e.what = r at *
  generalize e.who = s at *
  clear hn ht s1 s2 h1 h2
  obtain ⟨W, hW⟩ : ∃ W, W = w.alloc (.cells #[.int .i64 (p : Int), .int .i64 (q : Int), .string r, .string s] 55) := ⟨_, rfl⟩
  have hb1 : Below w.heap.size w W := by rw [hW]; exact (Below.refl _ w).alloc (Nat.le_refl _) _
  have t0 : W.heap[w.heap.size]? = some (.cells #[.int .i64 (p : Int), .int .i64 (q : Int), .string r, .string s] 55 (0, 0)) := by rw [hW]; exact heap_alloc_new w _
  have d0 := (Array.getElem?_eq_some_iff.1 t0).1
  have q0 : W.cell? ⟨w.heap.size, 0, none⟩ = some (.int .i64 (p : Int)) := cell_of_row _ _ 0 _ _ _ t0
  have q1 : W.cell? ⟨w.heap.size, 1, none⟩ = some (.int .i64 (q : Int)) := cell_of_row _ _ 1 _ _ _ t0
  have q2 : W.cell? ⟨w.heap.size, 2, none⟩ = some (.string r) := cell_of_row _ _ 2 _ _ _ t0
  have q3 : W.cell? ⟨w.heap.size, 3, none⟩ = some (.string s) := cell_of_row _ _ 3 _ _ _ t0
  have HW := hid hW
  have HB := hid hb1
  clear hb1 hW t0
  go_enter Tryd.func81, Tryd.ntmps81
  go_wp2
  rw [← HW.out]
  have hm : Tryd.prog.follows .mixedOrders = true := by kernel_rfl
  refine wp_act _ fun A hA => ?_
  have sz : A.tmps.size = 21 := by rw [hA]; rfl
  have e1 : A.eval (.tmp 1) = .pointer (some ⟨w.heap.size, 0, none⟩) := by rw [hA]; rfl
  have hs0 : Below W.heap.size W W.drew := (Below.refl _ W).drew
  refine wp_split (fun a V => ∃ (w2 : World) (aC : Option Addr) (cC : Nat), a = ⟨#[.agg #[.int .i64 (p : Int), .int .i64 (q : Int), .string r, .string s], .pointer (some ⟨w.heap.size, 0, none⟩), .slice none 0 0, .slice aC l.length cC, .int .i64 er, .tuple #[.slice aC l.length cC, .int .i64 er], .pointer (some ⟨w.heap.size, 0, none⟩), .int .i64 (p : Int), .string pt, .pointer (some ⟨w.heap.size, 1, none⟩), .int .i64 (q : Int), .string qt, .pointer (some ⟨w.heap.size, 2, none⟩), .string r, .pointer (some ⟨w.heap.size, 3, none⟩), .string s, .slice (some ⟨w2.heap.size, 0, none⟩) 4 4, .tuple #[.slice aC l.length cC, .int .i64 er], .slice aC l.length cC, .int .i64 er, undef], []⟩ ∧ Bytes V aC l ∧ Below w.heap.size w V ∧ l.length ≤ cC ∧ (aC = none → cC = 0)) ?_ ?_
  · refine wp_region_held (S := fun V => Below W.heap.size W V) hm ?_
    show wpAnyH _ _ _ _ _ _ _ A W.drew
    refine tkH (i := 0) (d := 6) (v := .pointer (some ⟨w.heap.size, 0, none⟩)) rfl rfl (y_ev 0 (by decide) (by simp [Region.wanted]) (.tmp 1) rfl w.heap.size e1) hs0 ?_
    refine tkH (i := 1) (d := 7) (v := .int .i64 (p : Int)) rfl rfl (y_loadI (by simp [Region.wanted]) (.tmp 6) rfl w.heap.size 0 _ (ev_eq _ _ (by simp [sz])) (fun V hV => (hV.cell (p := ⟨w.heap.size, 0, none⟩) d0).trans q0)) hs0 ?_
    refine tkH (i := 3) (d := 9) (v := .pointer (some ⟨w.heap.size, 1, none⟩)) rfl rfl (y_ev 1 (by decide) (by simp [Region.wanted]) (.tmp 1) rfl w.heap.size (evn (evn e1))) hs0 ?_
    refine tkH (i := 4) (d := 10) (v := .int .i64 (q : Int)) rfl rfl (y_loadI (by simp [Region.wanted]) (.tmp 9) rfl w.heap.size 1 _ (ev_eq _ _ (by simp [put_sz, sz])) (fun V hV => (hV.cell (p := ⟨w.heap.size, 1, none⟩) d0).trans q1)) hs0 ?_
    refine tkH (i := 6) (d := 12) (v := .pointer (some ⟨w.heap.size, 2, none⟩)) rfl rfl (y_ev 2 (by decide) (by simp [Region.wanted]) (.tmp 1) rfl w.heap.size (evn (evn (evn (evn e1))))) hs0 ?_
    refine tkH (i := 7) (d := 13) (v := .string r) rfl rfl (y_loadS (by simp [Region.wanted]) (.tmp 12) rfl w.heap.size 2 _ (ev_eq _ _ (by simp [put_sz, sz])) (fun V hV => (hV.cell (p := ⟨w.heap.size, 2, none⟩) d0).trans q2)) hs0 ?_
    refine tkH (i := 8) (d := 14) (v := .pointer (some ⟨w.heap.size, 3, none⟩)) rfl rfl (y_ev 3 (by decide) (by simp [Region.wanted]) (.tmp 1) rfl w.heap.size (evn (evn (evn (evn (evn (evn e1))))))) hs0 ?_
    refine tkH (i := 9) (d := 15) (v := .string s) rfl rfl (y_loadS (by simp [Region.wanted]) (.tmp 14) rfl w.heap.size 3 _ (ev_eq _ _ (by simp [put_sz, sz])) (fun V hV => (hV.cell (p := ⟨w.heap.size, 3, none⟩) d0).trans q3)) hs0 ?_
    refine wpAnyH_all (rs := [2]) (by kernel_rfl) (by simp) fun i1 hm1 => ?_
    obtain rfl : i1 = 2 := by simpa using hm1
    refine wpOp_own rfl rfl fun K1 hK1 => ?_
    refine wp_calls1 36 hf_rnum (.tmp 7) _ rfl (.int .i64 (p : Int)) (evn (evn (evn (evn (evn (evn (ev_eq _ _ (by simp [put_sz, sz])))))))) ?_
    refine (C1.out _).mono ?_
    rintro _ w1 ⟨rfl, hb1⟩
    have hs1 := hs0.trans (hb1.mono hs0.size)
    refine ⟨_, rfl, hK1 _ _ ⟨(hs1), ?_⟩⟩
    clear hK1 K1 hm1
    show wpAnyH _ _ _ _ _ _ _ (((((((((A.put (some 6) (.pointer (some ⟨w.heap.size, 0, none⟩))).put (some 7) (.int .i64 (p : Int))).put (some 9) (.pointer (some ⟨w.heap.size, 1, none⟩))).put (some 10) (.int .i64 (q : Int))).put (some 12) (.pointer (some ⟨w.heap.size, 2, none⟩))).put (some 13) (.string r)).put (some 14) (.pointer (some ⟨w.heap.size, 3, none⟩))).put (some 15) (.string s)).put (some 8) (.string pt)) _
    refine wpAnyH_all (rs := [5]) (by kernel_rfl) (by simp) fun i2 hm2 => ?_
    obtain rfl : i2 = 5 := by simpa using hm2
    refine wpOp_own rfl rfl fun K2 hK2 => ?_
    refine wp_calls1 36 hf_rnum (.tmp 10) _ rfl (.int .i64 (q : Int)) (evn (evn (evn (evn (evn (ev_eq _ _ (by simp [put_sz, sz]))))))) ?_
    refine (C2.out _).mono ?_
    rintro _ w2 ⟨rfl, hb2⟩
    have hs2 := hs1.trans (hb2.mono hs1.size)
    refine ⟨_, rfl, hK2 _ _ ⟨(hs2), ?_⟩⟩
    clear hK2 K2 hm2
    show wpAnyH _ _ _ _ _ _ _ ((((((((((A.put (some 6) (.pointer (some ⟨w.heap.size, 0, none⟩))).put (some 7) (.int .i64 (p : Int))).put (some 9) (.pointer (some ⟨w.heap.size, 1, none⟩))).put (some 10) (.int .i64 (q : Int))).put (some 12) (.pointer (some ⟨w.heap.size, 2, none⟩))).put (some 13) (.string r)).put (some 14) (.pointer (some ⟨w.heap.size, 3, none⟩))).put (some 15) (.string s)).put (some 8) (.string pt)).put (some 11) (.string qt)) _
    refine wpAnyH_all (rs := [10]) (by kernel_rfl) (by simp) fun i3 hm3 => ?_
    obtain rfl : i3 = 10 := by simpa using hm3
    refine wpOp_own rfl rfl fun K3 hK3 => ?_
    refine wp_build4 (.tmp 8) (.tmp 11) (.tmp 13) (.tmp 15) rfl pt qt r s (evn (ev_eq _ _ (by simp [put_sz, sz]))) (ev_eq _ _ (by simp [put_sz, sz])) (evn (evn (evn (evn (ev_eq _ _ (by simp [put_sz, sz])))))) (evn (evn (ev_eq _ _ (by simp [put_sz, sz])))) ?_
    have hs3 := hs2.alloc hs2.size (.cells #[.string pt, .string qt, .string r, .string s] 9)
    refine hK3 _ _ ⟨(hs3), ?_⟩
    clear hK3 K3 hm3
    show wpAnyH _ _ _ _ _ _ _ (((((((((((A.put (some 6) (.pointer (some ⟨w.heap.size, 0, none⟩))).put (some 7) (.int .i64 (p : Int))).put (some 9) (.pointer (some ⟨w.heap.size, 1, none⟩))).put (some 10) (.int .i64 (q : Int))).put (some 12) (.pointer (some ⟨w.heap.size, 2, none⟩))).put (some 13) (.string r)).put (some 14) (.pointer (some ⟨w.heap.size, 3, none⟩))).put (some 15) (.string s)).put (some 8) (.string pt)).put (some 11) (.string qt)).put (some 16) (.slice (some ⟨w2.heap.size, 0, none⟩) 4 4)) _
    refine wpAnyH_all (rs := [11]) (by kernel_rfl) (by simp) fun i4 hm4 => ?_
    obtain rfl : i4 = 11 := by simpa using hm4
    refine wpOp_own rfl rfl fun K4 hK4 => ?_
    refine wp_calls1 105 hf_rrow (.tmp 16) _ rfl (.slice (some ⟨w2.heap.size, 0, none⟩) 4 4) (ev_eq _ _ (by simp [put_sz, sz])) ?_
    refine (HR.out _ _ (texts_new _ _ _ _)).mono ?_
    rintro _ w4 ⟨aC, cC, rfl, hbyC, hbC, hcC, hnC⟩
    have hs4 := hs3.trans (hbC.mono hs3.size)
    refine ⟨_, rfl, hK4 _ _ ⟨(hs4), ?_⟩⟩
    clear hK4 K4 hm4
    show wpAnyH _ _ _ _ _ _ _ ((((((((((((A.put (some 6) (.pointer (some ⟨w.heap.size, 0, none⟩))).put (some 7) (.int .i64 (p : Int))).put (some 9) (.pointer (some ⟨w.heap.size, 1, none⟩))).put (some 10) (.int .i64 (q : Int))).put (some 12) (.pointer (some ⟨w.heap.size, 2, none⟩))).put (some 13) (.string r)).put (some 14) (.pointer (some ⟨w.heap.size, 3, none⟩))).put (some 15) (.string s)).put (some 8) (.string pt)).put (some 11) (.string qt)).put (some 16) (.slice (some ⟨w2.heap.size, 0, none⟩) 4 4)).put (some 17) (.tuple #[.slice aC l.length cC, .int .i64 er])) _
    refine tkH (i := 12) (d := 5) (v := .tuple #[.slice aC l.length cC, .int .i64 er]) rfl rfl (yields_move (by simp [Region.wanted]) (.tmp 17) rfl _ (ev_eq _ _ (by simp [put_sz, sz]))) (hs4) ?_
    refine tkH (i := 13) (d := 18) (v := .slice aC l.length cC) rfl rfl (y_ext0 (by simp [Region.wanted]) (.tmp 5) rfl _ _ (ev_eq _ _ (by simp [put_sz, sz]))) (hs4) ?_
    refine tkH (i := 14) (d := 19) (v := .int .i64 er) rfl rfl (y_ext1 (by simp [Region.wanted]) (.tmp 5) rfl _ _ (evn (ev_eq _ _ (by simp [put_sz, sz])))) (hs4) ?_
    refine tkH (i := 15) (d := 3) (v := .slice aC l.length cC) rfl rfl (y_assign (by simp [Region.wanted]) (.tmp 18) rfl _ (evn (ev_eq _ _ (by simp [put_sz, sz])))) (hs4) ?_
    refine tkH (i := 16) (d := 4) (v := .int .i64 er) rfl rfl (y_assign (by simp [Region.wanted]) (.tmp 19) rfl _ (evn (ev_eq _ _ (by simp [put_sz, sz])))) (hs4) ?_
    refine wpAnyH_done (by kernel_rfl) ⟨rfl, w2, aC, cC, ?_, hbyC, HB.out.trans (hs4.mono HB.out.size), hcC, hnC⟩ _
    rw [hA]
    simp [Act.put]
  · rintro _ V ⟨w2, aC, cC, rfl, hby, hb, hcc, hnn⟩
    have HBy := hid hby
    have Hnn := hid hnn
    have HBb := hid hb
    clear hby hb hnn e1 sz hA
    go_wp2
    go_ret
    exact ⟨aC, cC, rfl, HBy.out, HBb.out, hcc, Hnn.out⟩
end Go.Proofs.YthfmpebgmojcaaaDoor
/- The reference's chained hash: holdfastref07.Chain by a contract. -/
namespace Go.Proofs.YthfmpebgmojcaaaDoor
open Go.RowKit
set_option linter.unusedVariables false
set_option maxRecDepth 20000
set_option maxHeartbeats 1000000 in
theorem refChain_any {w : World} {h : List UInt8} {H : Array Value} (hH : HV H h) (b : List UInt8) (a : Option Addr) (n cap : Nat) (hn : n = b.length) (hB : Bytes w a b) (hl : b.length ≤ 1000) (hc : a = none → cap = 0) :
    Calls Tryd.prog 80 #[.agg H, .slice a n cap] w fun e w' => ∃ O, e = .returned (.agg O) ∧ Hid (HV O (sha (h ++ b))) ∧ Below w.heap.size w w' := by
  obtain ⟨Z, hZ⟩ : ∃ Z, Z = bvs (List.replicate 32 0) := ⟨_, rfl⟩
  have zh := (zero_of_info zero_hash).1
  rw [← hZ] at zh
  have hz : Hid (HV Z (List.replicate 32 0)) := by
    show HV _ _
    rw [hZ]; exact hv_zero
  have zh := hid zh
  have HB := hid hB
  have HH := hid hH
  have Hn := hid hn
  have Hc := hid hc
  have lh : h.length = 32 := hH.len
  have hsz : (Tryd.prog.info? 69).map (·.size) = some H.size := hH.info
  have x0 : Hid (((w.alloc (.cells H 69)).alloc (.cells Z 69)).heap[w.heap.size]? = some (.cells H 69 (0, 0))) := heap_alloc2_old w _ _
  have y0 : Hid (((w.alloc (.cells H 69)).alloc (.cells Z 69)).heap[w.heap.size + 1]? = some (.cells Z 69 (0, 0))) := heap_alloc2_new w _ _
  have b0 : Hid (Below w.heap.size w ((w.alloc (.cells H 69)).alloc (.cells Z 69))) := ((Below.refl _ w).alloc (Nat.le_refl _) _).alloc (by simp) _
  clear hZ hB hH hn hc
  go_enter Tryd.func80, Tryd.ntmps80
  go_wp2_with (first
    | (with_reducible show Go.wpList _ _ _ _ _ _; refine wpList_alloc_row rfl 69 rfl Z zh.out ?_)
    | (with_reducible show Go.wpList _ _ _ _ _ _; refine wpList_load_row rfl 69 _ rfl w.heap.size rfl _ _ _ _ x0.out Tryd.underlying69 rfl hsz ?_)
    | (go_at_call 103; refine (refBytesOf_any HH.out).mono ?_; rintro _ W1 ⟨v, rfl, ho, hb1⟩; have Ho := hid ho; have Hb1 := hid hb1; clear ho hb1)
    | (at_builtin; refine app_srcH _ rfl (.tmp 8) (.tmp 9) rfl w.heap.size _ h rfl (own_mono Ho.out (by simp; omega)) a n cap b Hn.out rfl (HB.out.below (Below.on' b0.out Hb1.out)) Hc.out (by omega) (Below.on' b0.out Hb1.out).size ?_; intro v' W2 ho' hg'; have Ho' := hid ho'; have Hg' := hid hg'; clear ho' hg'))
  have k1 := Below.on' b0.out Hb1.out
  have b2 : Hid (Below w.heap.size w W2) := k1.grown Hg'.out k1.size fun j ej => ((own_mono Ho.out (by simp; omega) : W1.ownsRow w.heap.size 5 1 v h.length (cellsOf h)).lt j ej).1
  have y2 : Hid (W2.heap[w.heap.size + 1]? = some (.cells Z 69 (0, 0))) := by
    have y1 : W1.heap[w.heap.size + 1]? = some (.cells Z 69 (0, 0)) := (Hb1.out.block _ (heap_lt y0.out)).trans y0.out
    refine (Hg'.out.block _ (heap_lt y1) (fun e => ?_)).trans y1
    have := (Ho.out.lt _ e.symm).1
    simp at this
    omega
  obtain ⟨a7, c7, rfl, hB7, hc7, hn7⟩ := bytes_ofH Ho'.out
  have HB7 := hid hB7
  have Hn7 := hid hn7
  have ll : (h ++ b).length ≤ 2000 := by rw [List.length_append]; omega
  clear hB7 hn7 Ho Ho' Hg' Hb1 k1 b0 x0 y0 HB Hc HH hsz
  go_wp2_with (first
    | (go_at_call 104; refine (sumOk _ (h ++ b) a7 _ c7 rfl HB7.out Hn7.out (by omega) hc7).mono ?_; rintro _ w5 ⟨O, rfl, hO, hb5⟩; have b5 := hid (Below.on' b2.out hb5); have y5 := hid ((hb5.block _ (heap_lt y2.out)).trans y2.out); clear hb5)
    | (with_reducible show Go.wpList _ _ _ _ _ _; refine wpList_store_row rfl 69 (.tmp 4) (.tmp 11) rfl (w.heap.size + 1) O rfl rfl 69 Z y5.out hO.out.info (hz.out.size.trans hO.out.size.symm) hO.out.one ?_))
  refine bodyPost_ret (results_cell_row rfl _ _ (w.heap.size + 1) 69 O (0, 0) _ rfl (setRow_heap _ _ _ _ _ _ y5.out) Tryd.underlying69 rfl hO.out.info) rfl ⟨O, rfl, hO, b5.out.setRow (by omega) _⟩
end Go.Proofs.YthfmpebgmojcaaaDoor
