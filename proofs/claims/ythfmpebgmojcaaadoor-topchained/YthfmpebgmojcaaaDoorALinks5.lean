/- YthfmpebgmojcaaaDoorAAdd + YthfmpebgmojcaaaDoorAAnc + YthfmpebgmojcaaaDoorALinks5 -/
import Derived.Test.YthfmpebgmojcaaaDoorTkH
import Derived.Test.YthfmpebgmojcaaaDoorAAdd6
/- audit.Add by a contract. -/
namespace Go.Proofs.YthfmpebgmojcaaaDoor
open Go.RowKit
set_option linter.unusedVariables false
set_option maxRecDepth 20000
def ev0 : Ev := ⟨0, 0, ⟨#[]⟩, ⟨#[]⟩⟩
def addEv (c : Ch) (t : Int) (what who : ByteArray) : Ev := if addE c t what who = 0 then newE c t what who else ev0
def addR (c : Ch) (t : Int) (what who : ByteArray) : Ch := if addE c t what who = 0 then addC c t what who else c
theorem addR_ok {c : Ch} (ok : ChOk c) (t : Int) (what who : ByteArray) : ChOk (addR c t what who) := by
  unfold addR
  split
  · rename_i h; exact addC_ok ok h
  · exact ok
theorem addR_sound {c : Ch} (ok : ChOk c) (h : Sound c) (t : Int) (what who : ByteArray) : Sound (addR c t what who) := by
  unfold addR
  split
  · exact h.add ok t what who
  · exact h
theorem addR_cnt (c : Ch) (t : Int) (what who : ByteArray) : (addR c t what who).cnt ≤ c.cnt + 1 := by
  unfold addR
  split
  · simp [addC, Ch.cnt]; omega
  · omega
def Grew (w : World) (v v' : Value) : Prop := ∀ k, v'.ownBlock = some k → v.ownBlock = some k ∨ w.heap.size ≤ k
def AddPost (w : World) (B g : Nat) (v : Value) (c : Ch) (t : Int) (what who : ByteArray) (x : Ending) (w' : World) : Prop :=
  ∃ v', x = .returned (.tuple #[.agg (eVals (addEv c t what who)).toArray, .int .i64 (addE c t what who)]) ∧ ChAt w' B g v' (addR c t what who) ∧ Out (CBlk g v) w w' ∧ Grew w v v'
theorem size_evs (e : Ev) : (Tryd.prog.info? 55).map (·.size) = some (eVals e).toArray.size := size_ev
theorem size_evl (e : Ev) : (Tryd.prog.info? 55).map (·.size) = some (eVals e).length := size_ev
theorem ev_sizes (e d : Ev) : (eVals e).toArray.size = (eVals d).toArray.size := rfl
theorem built_ev : Tryd.prog.built 55 [] = some (eVals ev0).toArray := by kernel_rfl
theorem ev_one (e : Ev) : (eVals e).toArray.all (·.oneCell') = true := all_oneCell_toArray (by rw [← eCells_one]; exact eCells_oneCell _)
set_option maxHeartbeats 4000000 in
theorem add_any {w : World} {B g : Nat} {v : Value} {c : Ch} (h : ChAt w B g v c) (ok : ChOk c) (hc : c.cnt < 1152921504606846976) (hB : B ≤ w.heap.size) (t : Int) (what who : ByteArray) (h1 : what.size ≤ 9223372036854775807) (h2 : who.size ≤ 9223372036854775807) (hT : Tabs w B) :
    Calls Tryd.prog 20 #[.pointer (some ⟨g, 0, none⟩), .int .i64 t, .string what, .string who] w (AddPost w B g v c t what who) := by
  obtain ⟨W0, hW0⟩ : ∃ W0, W0 = w.alloc (.cells (eVals ev0).toArray 55) := ⟨_, rfl⟩
  have b0 : Below w.heap.size w W0 := by rw [hW0]; exact (Below.refl _ w).alloc (Nat.le_refl _) _
  have r0 : W0.heap[w.heap.size]? = some (.cells (eVals ev0).toArray 55 (0, 0)) := by rw [hW0]; exact heap_alloc_new w _
  have H0 := h.below b0
  have HE := hid (addError_any H0 ok t what who h1 h2)
  by_cases he : addE c t what who = 0
  · have hpost : Hid (∀ x w', (∃ v', x = .returned (.tuple #[.agg (eVals (newE c t what who)).toArray, .int .i64 0]) ∧ ChAt w' B g v' (addC c t what who) ∧ Out (CBlk g v) w w' ∧ Grew w v v') → AddPost w B g v c t what who x w') := fun x w' hx => by
      unfold AddPost addEv addR
      rw [if_pos he, if_pos he, he]
      exact hx
    rw [he] at HE
    obtain ⟨t1, t2, t3, t4, t5, t6⟩ := addE_zero he
    obtain ⟨tn, rfl⟩ : ∃ tn : Nat, t = (tn : Int) := ⟨t.toNat, by omega⟩
    have HC := hid (count_any H0 ok hc)
    have en : Hid (newE c (tn : Int) what who = ⟨c.cnt + 1, tn, what, who⟩) := rfl
    obtain ⟨a0, c0, rfl⟩ := h.val
    have hne := hid h.ne
    have hlts := hid h.lts
    have H0' := hid H0
    have OK := hid ok
    have HT := hid hT
    have HB0 := hid b0
    have HW := hid hW0
    obtain ⟨m, hm⟩ : ∃ m, m = c.cnt := ⟨_, rfl⟩
    have Hm := hid hm
    rw [← hm] at HC hc
    have hblk := hid h.blk
    clear h ok hT hW0 hm h1 h2 he t1 t5 H0 b0 t6
    have r0' := hid r0
    clear r0
    refine (Calls.mono ?_ hpost.out)
    clear hpost
    go_enter Tryd.func20, Tryd.ntmps20
    go_wp2_with (first
      | (go_at_call 59; rw [show w.alloc (.cells #[.int .i64 0, .int .i64 0, .string ⟨#[]⟩, .string ⟨#[]⟩] 55) = W0 from HW.out.symm]; refine HE.out.mono ?_; rintro x w9 ⟨rfl, e9⟩; subst w9)
      | (go_at_call 23; refine HC.out.mono ?_; rintro x w1 ⟨rfl, hb1⟩))
    obtain ⟨e, hee⟩ : ∃ e, e = newE c (tn : Int) what who := ⟨_, rfl⟩
    have hev : (#[.int .i64 ((m : Int) + 1), .int .i64 (tn : Int), .string what, .string who] : Array Value) = (eVals e).toArray := by
      rw [hee, en.out, ← Hm.out]
      simp [eVals]
    have he1 : e.num = m + 1 := by rw [hee, en.out, ← Hm.out]
    have he2 : e.tim = tn := by rw [hee, en.out]
    have he3 : e.what = what := by rw [hee, en.out]
    have he4 : e.who = who := by rw [hee, en.out]
    have HEE := hid hee
    rw [hev]
    clear hee en
    obtain ⟨W5, hW5⟩ : ∃ W5, W5 = w1.alloc (.cells (eVals e).toArray 55) := ⟨_, rfl⟩
    obtain ⟨V0, hV0⟩ : ∃ V0, V0 = W5.drew := ⟨_, rfl⟩
    rw [← hW5]
    have bw1 : Below w.heap.size w w1 := HB0.out.trans (hb1.mono HB0.out.size)
    have b5 : Below w1.heap.size w1 V0 := by rw [hV0, hW5]; exact ((Below.refl _ w1).alloc (Nat.le_refl _) _).drew
    have bwV : Below w.heap.size w V0 := bw1.trans (b5.mono bw1.size)
    have H5 : ChAt V0 B g (.slice a0 c.ev.length c0) c := (H0'.out.below hb1).below b5
    have s5 : V0.heap[w1.heap.size]? = some (.cells (eVals e).toArray 55 (0, 0)) := by rw [hV0, hW5]; exact heap_alloc_new w1 _
    have r5 : V0.heap[w.heap.size]? = some (.cells (eVals ev0).toArray 55 (0, 0)) := by
      rw [b5.block _ (Nat.lt_of_lt_of_le (heap_lt r0'.out) hb1.size), hb1.block _ (heap_lt r0'.out)]
      exact r0'.out
    have hlw : w.heap.size < w1.heap.size := Nat.lt_of_lt_of_le (heap_lt r0'.out) hb1.size
    have hneE : (Value.slice a0 c.ev.length c0).ownBlock ≠ some w1.heap.size := fun x => by
      have := (hlts.out _ x).2
      omega
    have hneR : ¬ CBlk g (.slice a0 c.ev.length c0) w.heap.size := fun x => by
      rcases x with x | x
      · have := H0'.out
        have h1 := r0'.out
        rw [x, this.obj] at h1
        injection h1 with h1
        injection h1 with _ h1
        exact absurd h1 (by decide)
      · have := (hlts.out _ x).2
        omega
    refine wp_act _ fun A hA => ?_
    have sz : A.tmps.size = 53 := by rw [hA]; rfl
    have e0 : A.eval (.tmp 0) = .pointer (some ⟨g, 0, none⟩) := by rw [hA]; rfl
    have e11 : A.eval (.tmp 11) = .pointer (some ⟨w1.heap.size, 0, none⟩) := by rw [hA]; rfl
    refine wp_split _ (add_region5 sz e0 e11 hV0 H5 OK.out.l s5 (by have := OK.out.few; omega) (Nat.le_trans hB bwV.size) hneE) ?_
    rintro _ V6 ⟨k, cap, rfl, H6, s6, o6, hk6⟩
    have r6 := (o6.block w.heap.size (heap_lt r5) hneR).trans r5
    have bB6 : Below B w V6 := (bwV.mono hB).trans (o6.below (Nat.le_trans hB bwV.size) hblk.out)
    rw [hA]
    simp only [Act.put, List.setIfInBounds_toArray, List.set_cons_succ, List.set_cons_zero]
    clear sz e0 e11 hA A H5 s5 r5
    have H6' := hid H6
    have s6' := hid s6
    have r6' := hid r6
    have o6' := hid o6
    have hk6' := hid hk6
    have bB6' := hid bB6
    have b5' := hid b5
    clear H6 s6 r6 o6 hk6 bB6 b5 hV0 hW5 hb1
    go_wp2_with fail
    obtain ⟨V7, hV7⟩ : ∃ V7, V7 = V6.drew := ⟨_, rfl⟩
    have b67 : Below V6.heap.size V6 V7 := by rw [hV7]; exact (Below.refl _ V6).drew
    have lens6 : Lens { c with ev := c.ev ++ [e] } := ⟨OK.out.lb, OK.out.lan, OK.out.lh⟩
    have hB6 : B ≤ V6.heap.size := Nat.le_trans hB bB6'.out.size
    have T7 : Tabs V7 B := (HT.out.keep bB6'.out).below hB6 b67
    refine wp_act _ fun A hA => ?_
    have sz : A.tmps.size = 53 := by rw [hA]; rfl
    have e0 : A.eval (.tmp 0) = .pointer (some ⟨g, 0, none⟩) := by rw [hA]; rfl
    have e11 : A.eval (.tmp 11) = .pointer (some ⟨w1.heap.size, 0, none⟩) := by rw [hA]; rfl
    refine wp_split _ (add_region6 sz e0 e11 hV7 (H6'.out.below b67) lens6 ((b67.block _ (heap_lt s6'.out)).trans s6'.out) (by rw [he1]; omega) (by rw [he2]; omega) (by rw [he3]; exact t3) (by rw [he4]; exact t4) T7.tab T7.kat) ?_
    rintro _ V8 ⟨aC, cC, rfl, H8, s8, o8⟩
    rw [hA]
    simp only [Act.put, List.setIfInBounds_toArray, List.set_cons_succ, List.set_cons_zero]
    clear sz e0 e11 hA A
    have hgw : g ≠ w.heap.size := fun x => hneR (.inl x.symm)
    have r8 : V8.heap[w.heap.size]? = some (.cells (eVals ev0).toArray 55 (0, 0)) := by
      rw [o8.block _ (Nat.lt_of_lt_of_le (heap_lt r6'.out) b67.size) (fun x => hgw x.symm), b67.block _ (heap_lt r6'.out)]
      exact r6'.out
    have lens8 : Lens { c with ev := c.ev ++ [e], hd := nextH c.hd e } := ⟨OK.out.lb, OK.out.lan, nextH_length _ _⟩
    have c99 := H8.c99 lens8
    have f99 := H8.fz 99
    have H9 := H8.setLa lens8 tn
    have oW : Out (CBlk g (.slice a0 c.ev.length c0)) w V8 := ((Out.of_below bwV).trans o6'.out (fun _ _ x => x)).trans ((Out.of_below (P := fun j => j = g) b67).trans o8 (fun _ _ x => x)) (fun _ _ x => .inl x)
    have oW9 := oW.setCell ⟨g, 99, none⟩ (.int .i64 (tn : Int)) (.inl rfl)
    have s9 : (V8.setCell ⟨g, 99, none⟩ (.int .i64 (tn : Int))).heap[w1.heap.size]? = some (.cells (eVals e).toArray 55 (0, 0)) := (heap_setCell_other _ _ _ _ (fun x => by
      rw [show w1.heap.size = g from x] at s8
      have h1 := H8.obj
      rw [s8] at h1
      injection h1 with h1
      injection h1 with _ h1
      exact absurd h1 (by decide))).trans s8
    have r9 : (V8.setCell ⟨g, 99, none⟩ (.int .i64 (tn : Int))).heap[w.heap.size]? = some (.cells (eVals ev0).toArray 55 (0, 0)) := (heap_setCell_other _ _ _ _ (fun x => hgw x.symm)).trans r8
    have hadd : Hid (addC c (tn : Int) what who = { c with ev := c.ev ++ [e], hd := nextH c.hd e, la := tn }) := by
      show _ = _
      rw [HEE.out]
      rfl
    have hgr : Hid (Grew w (.slice a0 c.ev.length c0) (.slice (some ⟨k, 0, none⟩) (c.ev ++ [e]).length cap)) := fun j hj => by
      cases hj
      rcases hk6'.out with x | x
      · exact .inl x
      · exact .inr (Nat.le_trans bwV.size x)
    have hR9 := range_whole s9
    obtain ⟨V9, hV9⟩ : ∃ V9, V9 = V8.setCell ⟨g, 99, none⟩ (.int .i64 (tn : Int)) := ⟨_, rfl⟩
    have HV9 := hid hV9
    rw [← hV9] at H9 oW9 s9 r9 hR9
    have H9' := hid H9
    have oW9' := hid oW9
    have r9' := hid r9
    have hR9' := hid hR9
    have he1' := hid he1
    have hev' := hid hev
    have HEE' := hid he2
    clear H9 oW9 s9 r9 hR9 oW H8 s8 o8 r8 lens8 lens6 T7 b67 hV7 hV9 he1 he2 he3 he4 hev t2 hc
    go_wp2_with (first
      | (with_reducible show Go.wpList _ _ _ _ _ _; first
        | (refine wpList_load_mid rfl 55 _ rfl w1.heap.size 0 rfl (eVals e) _ ?_ Tryd.underlying55 rfl (size_evl e) ?_; exact HV9.out ▸ hR9'.out)
        | (rw [← HV9.out]; refine wpList_store_row rfl 55 _ _ rfl w.heap.size (eVals e).toArray rfl rfl 55 (eVals ev0).toArray r9'.out (size_evs e) (ev_sizes ev0 e) (ev_one e) ?_)))
    refine bodyPost_ret (results_row_tmp rfl _ _ w.heap.size 55 (eVals e).toArray (0, 0) _ rfl (setRow_heap _ _ _ _ _ _ r9'.out) Tryd.underlying55 rfl size_ev) rfl ?_
    refine ⟨by rw [HEE.out]; rfl, .slice (some ⟨k, 0, none⟩) (c.ev ++ [e]).length cap, ?_, ?_, hgr.out⟩
    · rw [hadd.out]
      exact H9'.out.keep (setRow_other _ _ _ _ hgw) (fun j hj => setRow_other _ _ _ _ (fun x => by
        have hj' : k = j := by cases hj; rfl
        subst hj'
        rcases hk6'.out with y | y
        · have := (hlts.out _ y).2; omega
        · have := bwV.size; have := hlw; have := b5'.out.size; omega))
    · exact ⟨oW9'.out.os, oW9'.out.tape, oW9'.out.output, by rw [size_setRow]; exact oW9'.out.size, fun j hj hp => (setRow_other _ _ _ _ (by omega)).trans (oW9'.out.block j hj hp)⟩
  · have hpost : Hid (∀ x w', (x = .returned (.tuple #[.agg (eVals ev0).toArray, .int .i64 (addE c t what who)]) ∧ ChAt w' B g v c ∧ Below w.heap.size w w') → AddPost w B g v c t what who x w') := fun x w' hx => by
      unfold AddPost addEv addR
      rw [if_neg he, if_neg he]
      exact ⟨v, hx.1, hx.2.1, Out.of_below hx.2.2, fun k hk => .inl hk⟩
    obtain ⟨er, her⟩ : ∃ er, er = addE c t what who := ⟨_, rfl⟩
    rw [← her] at HE hpost he
    have hne : (er == 0) = false := by rw [beq_eq_false_iff_ne]; exact he
    have H0' := hid H0
    have HB0 := hid b0
    have HW := hid hW0
    have r0' := hid r0
    have hgl := hid h.lt
    have hlt := hid h.lts
    refine (Calls.mono ?_ hpost.out)
    clear hpost h ok hT hW0 h1 h2 her H0 b0 r0
    go_enter Tryd.func20, Tryd.ntmps20
    go_wp2_with (first
      | (go_at_call 59; rw [show w.alloc (.cells #[.int .i64 0, .int .i64 0, .string ⟨#[]⟩, .string ⟨#[]⟩] 55) = W0 from HW.out.symm]; refine HE.out.mono ?_; rintro x w9 ⟨rfl, e9⟩; subst w9)
      | (with_reducible show Go.wpList _ _ _ _ _ _; first
        | refine wpList_build_none rfl 55 rfl (eVals ev0).toArray built_ev ?_
        | refine wpList_store_row rfl 55 _ _ rfl w.heap.size (eVals ev0).toArray rfl rfl 55 (eVals ev0).toArray r0'.out (size_evs ev0) (ev_sizes ev0 ev0) (ev_one ev0) ?_))
    refine bodyPost_ret (results_row_tmp rfl _ _ w.heap.size 55 (eVals ev0).toArray (0, 0) _ rfl (setRow_heap _ _ _ _ _ _ r0'.out) Tryd.underlying55 rfl size_ev) rfl ?_
    refine ⟨rfl, H0'.out.keep (setRow_other _ _ _ _ (by have := hgl.out; omega)) (fun j hj => setRow_other _ _ _ _ (by have := (hlt.out j hj).2; omega)), HB0.out.setRow (Nat.le_refl _) _⟩
end Go.Proofs.YthfmpebgmojcaaaDoor
/- Head, Anchored and Anchor of a chain, by contracts. -/
namespace Go.Proofs.YthfmpebgmojcaaaDoor
open Go.RowKit
set_option linter.unusedVariables false
set_option maxRecDepth 20000
theorem results_tmp_row {P : Program} {fn : Func} {p u : Tmp} {ty : TypeId} (h : fn.results = #[.tmp u, .cell p ty]) (tmps : Array Value) (w : World) (g : Nat) (t : TypeId) (cs : Array Value) (fr : Nat × Nat) (d : TypeDesc)
    (hp : tmps.getD p undef = .pointer (some ⟨g, 0, none⟩)) (hg : w.heap[g]? = some (.cells cs t fr))
    (hu : P.underlying ty = some d) (hd : (match d with | .struct _ | .array _ _ => true | _ => false) = true) (hi : (P.info? ty).map (·.size) = some cs.size) :
    (results fn tmps).run P w = .ok (.tuple #[tmps.getD u undef, .agg cs]) w := by
  have hp' : tmps[p]?.getD undef = .pointer (some ⟨g, 0, none⟩) := by simpa using hp
  simp only [results, h]
  simp [Result.andThen, hp', asAddr, run_loadVar_row w g t ty cs fr d hg hu hd hi]
theorem len32 {α : Type} (l : List α) (h : l.length = 32) : ∃ x0 x1 x2 x3 x4 x5 x6 x7 x8 x9 x10 x11 x12 x13 x14 x15 x16 x17 x18 x19 x20 x21 x22 x23 x24 x25 x26 x27 x28 x29 x30 x31, l = [x0, x1, x2, x3, x4, x5, x6, x7, x8, x9, x10, x11, x12, x13, x14, x15, x16, x17, x18, x19, x20, x21, x22, x23, x24, x25, x26, x27, x28, x29, x30, x31] := by
  obtain ⟨x0, l, rfl⟩ := List.exists_cons_of_length_eq_add_one (n := 31) h
  have h : l.length = 31 := by simpa using h
  obtain ⟨x1, l, rfl⟩ := List.exists_cons_of_length_eq_add_one (n := 30) h
  have h : l.length = 30 := by simpa using h
  obtain ⟨x2, l, rfl⟩ := List.exists_cons_of_length_eq_add_one (n := 29) h
  have h : l.length = 29 := by simpa using h
  obtain ⟨x3, l, rfl⟩ := List.exists_cons_of_length_eq_add_one (n := 28) h
  have h : l.length = 28 := by simpa using h
  obtain ⟨x4, l, rfl⟩ := List.exists_cons_of_length_eq_add_one (n := 27) h
  have h : l.length = 27 := by simpa using h
  obtain ⟨x5, l, rfl⟩ := List.exists_cons_of_length_eq_add_one (n := 26) h
  have h : l.length = 26 := by simpa using h
  obtain ⟨x6, l, rfl⟩ := List.exists_cons_of_length_eq_add_one (n := 25) h
  have h : l.length = 25 := by simpa using h
  obtain ⟨x7, l, rfl⟩ := List.exists_cons_of_length_eq_add_one (n := 24) h
  have h : l.length = 24 := by simpa using h
  obtain ⟨x8, l, rfl⟩ := List.exists_cons_of_length_eq_add_one (n := 23) h
  have h : l.length = 23 := by simpa using h
  obtain ⟨x9, l, rfl⟩ := List.exists_cons_of_length_eq_add_one (n := 22) h
  have h : l.length = 22 := by simpa using h
  obtain ⟨x10, l, rfl⟩ := List.exists_cons_of_length_eq_add_one (n := 21) h
  have h : l.length = 21 := by simpa using h
  obtain ⟨x11, l, rfl⟩ := List.exists_cons_of_length_eq_add_one (n := 20) h
  have h : l.length = 20 := by simpa using h
  obtain ⟨x12, l, rfl⟩ := List.exists_cons_of_length_eq_add_one (n := 19) h
  have h : l.length = 19 := by simpa using h
  obtain ⟨x13, l, rfl⟩ := List.exists_cons_of_length_eq_add_one (n := 18) h
  have h : l.length = 18 := by simpa using h
  obtain ⟨x14, l, rfl⟩ := List.exists_cons_of_length_eq_add_one (n := 17) h
  have h : l.length = 17 := by simpa using h
  obtain ⟨x15, l, rfl⟩ := List.exists_cons_of_length_eq_add_one (n := 16) h
  have h : l.length = 16 := by simpa using h
  obtain ⟨x16, l, rfl⟩ := List.exists_cons_of_length_eq_add_one (n := 15) h
  have h : l.length = 15 := by simpa using h
  obtain ⟨x17, l, rfl⟩ := List.exists_cons_of_length_eq_add_one (n := 14) h
  have h : l.length = 14 := by simpa using h
  obtain ⟨x18, l, rfl⟩ := List.exists_cons_of_length_eq_add_one (n := 13) h
  have h : l.length = 13 := by simpa using h
  obtain ⟨x19, l, rfl⟩ := List.exists_cons_of_length_eq_add_one (n := 12) h
  have h : l.length = 12 := by simpa using h
  obtain ⟨x20, l, rfl⟩ := List.exists_cons_of_length_eq_add_one (n := 11) h
  have h : l.length = 11 := by simpa using h
  obtain ⟨x21, l, rfl⟩ := List.exists_cons_of_length_eq_add_one (n := 10) h
  have h : l.length = 10 := by simpa using h
  obtain ⟨x22, l, rfl⟩ := List.exists_cons_of_length_eq_add_one (n := 9) h
  have h : l.length = 9 := by simpa using h
  obtain ⟨x23, l, rfl⟩ := List.exists_cons_of_length_eq_add_one (n := 8) h
  have h : l.length = 8 := by simpa using h
  obtain ⟨x24, l, rfl⟩ := List.exists_cons_of_length_eq_add_one (n := 7) h
  have h : l.length = 7 := by simpa using h
  obtain ⟨x25, l, rfl⟩ := List.exists_cons_of_length_eq_add_one (n := 6) h
  have h : l.length = 6 := by simpa using h
  obtain ⟨x26, l, rfl⟩ := List.exists_cons_of_length_eq_add_one (n := 5) h
  have h : l.length = 5 := by simpa using h
  obtain ⟨x27, l, rfl⟩ := List.exists_cons_of_length_eq_add_one (n := 4) h
  have h : l.length = 4 := by simpa using h
  obtain ⟨x28, l, rfl⟩ := List.exists_cons_of_length_eq_add_one (n := 3) h
  have h : l.length = 3 := by simpa using h
  obtain ⟨x29, l, rfl⟩ := List.exists_cons_of_length_eq_add_one (n := 2) h
  have h : l.length = 2 := by simpa using h
  obtain ⟨x30, l, rfl⟩ := List.exists_cons_of_length_eq_add_one (n := 1) h
  have h : l.length = 1 := by simpa using h
  obtain ⟨x31, l, rfl⟩ := List.exists_cons_of_length_eq_add_one (n := 0) h
  have h : l.length = 0 := by simpa using h
  obtain rfl := List.eq_nil_of_length_eq_zero h
  exact ⟨_, _, _, _, _, _, _, _, _, _, _, _, _, _, _, _, _, _, _, _, _, _, _, _, _, _, _, _, _, _, _, _, rfl⟩
theorem built_link (n : Int) (l : List UInt8) (h : l.length = 32) : Tryd.prog.built 85 [(0, .int .i64 n), (1, .agg (bvs l))] = some (.int .i64 n :: cellsOf l).toArray := by
  obtain ⟨x0, x1, x2, x3, x4, x5, x6, x7, x8, x9, x10, x11, x12, x13, x14, x15, x16, x17, x18, x19, x20, x21, x22, x23, x24, x25, x26, x27, x28, x29, x30, x31, rfl⟩ := len32 l h
  kernel_rfl
theorem y_buildL {ops : Array Oper} {S : World → Prop} {op : Oper} {a : Act} (hw : Region.wanted op (yielded ops a.tmps) = true) (x y : Operand) (ho : op.op = .build 85 #[(0, x), (1, y)]) (n : Nat) (l : List UInt8) (hl : l.length = 32) (hx : a.eval x = .int .i64 (n : Int)) (hy : a.eval y = .agg (bvs l)) : YieldsIf Tryd.prog ops S op (.agg (lnkC n l).toArray) a := by
  refine .inl ⟨hw, fun w _ => ?_⟩
  have h := run_build (P := Tryd.prog) w 85 #[(0, .int .i64 (n : Int)), (1, .agg (bvs l))] _ (built_link (n : Int) l hl)
  unfold execOp
  simp only [ho, Sem.run_bind, List.map_toArray, List.map_cons, List.map_nil, hx, hy, h, Result.andThen_ok]
  rfl
theorem hf_count : ∀ (args : Array Value) (w : World), (callFunc 23 args).run Tryd.prog w = .ok (.enter 23 args) w := fun args w => by simp [go_sem]
noncomputable def codeAnd : Code := ((Tryd.f49.body.bind (regionAt 3)).getD .skip)
noncomputable def codeAnc : Code := ((Tryd.f27.body.bind (regionAt 3)).getD .skip)
set_option maxHeartbeats 2000000 in
theorem anchored_region {V0 W5 : World} {B g R : Nat} {v : Value} {c : Ch} {Z : Array Value} {A : Act} (sz : A.tmps.size = 17) (e0 : A.eval (.tmp 0) = .pointer (some ⟨g, 0, none⟩)) (e3 : A.eval (.tmp 3) = .pointer (some ⟨R, 0, none⟩))
    (hV0 : V0 = W5.drew) (H0 : ChAt V0 B g v c) (lens : Lens c) (hZ : HV Z zero32) (r0 : V0.heap[R]? = some (.cells Z 69 (0, 0))) :
    codeAnd.wp Tryd.prog (fun x a V => x = .normal ∧ a = (((((((((((A.put (some 7) (.pointer (some ⟨g, 0, none⟩))).put (some 8) (.pointer (some ⟨g, 0, none⟩))).put (some 9) (.pointer (some ⟨g, 33, none⟩))).put (some 10) (.pointer (some ⟨g, 33, none⟩))).put (some 11) (.int .i64 (c.an : Int))).put (some 12) (.pointer (some ⟨g, 0, none⟩))).put (some 13) (.pointer (some ⟨g, 0, none⟩))).put (some 14) (.pointer (some ⟨g, 33, none⟩))).put (some 15) (.pointer (some ⟨g, 34, none⟩))).put (some 16) (.agg (bvs c.ah))).put (some 2) (.int .i64 (c.an : Int))) ∧ V = V0.setRow R (bvs c.ah)) A W5 := by
  have hm : Tryd.prog.follows .mixedOrders = true := by kernel_rfl
  have hgR : g ≠ R := fun x => by
    rw [← x, H0.obj] at r0
    injection r0 with r0
    injection r0 with _ r0
    exact absurd r0 (by decide)
  unfold codeAnd
  conv => arg 2; whnf
  refine wp_region_held (S := fun V => V.cell? ⟨g, 33, none⟩ = some (.int .i64 (c.an : Int)) ∧ V.rangeAt g 34 (cellsOf c.ah)) hm ?_
  rw [show ({ W5 with drawn := W5.drawn + 1 } : World) = V0 from hV0.symm]
  have hs0 : V0.cell? ⟨g, 33, none⟩ = some (.int .i64 (c.an : Int)) ∧ V0.rangeAt g 34 (cellsOf c.ah) := ⟨H0.c33 lens, H0.ra lens⟩
  refine tkH (i := 0) (d := 7) (v := .pointer (some ⟨g, 0, none⟩)) rfl rfl (yields_move (by simp [Region.wanted]) (.tmp 0) rfl _ e0) hs0 ?_
  refine tkH (i := 1) (d := 8) (v := .pointer (some ⟨g, 0, none⟩)) rfl rfl (y_nil (by simp [Region.wanted]) (.tmp 7) rfl _ (ev_eq _ _ (by simp [sz]))) hs0 ?_
  refine tkH (i := 2) (d := 9) (v := .pointer (some ⟨g, 33, none⟩)) rfl rfl (y_chain1 (by simp [Region.wanted]) (.tmp 8) rfl g (ev_eq _ _ (by simp [put_sz, sz]))) hs0 ?_
  refine tkH (i := 3) (d := 10) (v := .pointer (some ⟨g, 33, none⟩)) rfl rfl (y_link0 (by simp [Region.wanted]) (.tmp 9) rfl g 33 (ev_eq _ _ (by simp [put_sz, sz]))) hs0 ?_
  refine tkH (i := 4) (d := 11) (v := .int .i64 (c.an : Int)) rfl rfl (y_loadI (by simp [Region.wanted]) (.tmp 10) rfl g 33 _ (ev_eq _ _ (by simp [put_sz, sz])) (fun V hV => hV.1)) hs0 ?_
  refine tkH (i := 5) (d := 12) (v := .pointer (some ⟨g, 0, none⟩)) rfl rfl (yields_move (by simp [Region.wanted]) (.tmp 0) rfl _ (evn (evn (evn (evn (evn e0)))))) hs0 ?_
  refine tkH (i := 6) (d := 13) (v := .pointer (some ⟨g, 0, none⟩)) rfl rfl (y_nil (by simp [Region.wanted]) (.tmp 12) rfl _ (ev_eq _ _ (by simp [put_sz, sz]))) hs0 ?_
  refine tkH (i := 7) (d := 14) (v := .pointer (some ⟨g, 33, none⟩)) rfl rfl (y_chain1 (by simp [Region.wanted]) (.tmp 13) rfl g (ev_eq _ _ (by simp [put_sz, sz]))) hs0 ?_
  refine tkH (i := 8) (d := 15) (v := .pointer (some ⟨g, 34, none⟩)) rfl rfl (y_link1 (by simp [Region.wanted]) (.tmp 14) rfl g 33 (ev_eq _ _ (by simp [put_sz, sz]))) hs0 ?_
  refine tkH (i := 9) (d := 16) (v := .agg (bvs c.ah)) rfl rfl (y_loadH (by simp [Region.wanted]) (.tmp 15) rfl g 34 c.ah lens.lan (ev_eq _ _ (by simp [put_sz, sz])) (fun V hV => hV.2)) hs0 ?_
  refine tkH (i := 10) (d := 2) (v := .int .i64 (c.an : Int)) rfl rfl (y_assign (by simp [Region.wanted]) (.tmp 11) rfl _ (evn (evn (evn (evn (evn (ev_eq _ _ (by simp [put_sz, sz])))))))) hs0 ?_
  obtain ⟨A3, hA3⟩ : ∃ A3, A3 = (((((((((((A.put (some 7) (.pointer (some ⟨g, 0, none⟩))).put (some 8) (.pointer (some ⟨g, 0, none⟩))).put (some 9) (.pointer (some ⟨g, 33, none⟩))).put (some 10) (.pointer (some ⟨g, 33, none⟩))).put (some 11) (.int .i64 (c.an : Int))).put (some 12) (.pointer (some ⟨g, 0, none⟩))).put (some 13) (.pointer (some ⟨g, 0, none⟩))).put (some 14) (.pointer (some ⟨g, 33, none⟩))).put (some 15) (.pointer (some ⟨g, 34, none⟩))).put (some 16) (.agg (bvs c.ah))).put (some 2) (.int .i64 (c.an : Int))) := ⟨_, rfl⟩
  have szA3 : A3.tmps.size = 17 := by rw [hA3]; simp [put_sz, sz]
  have eA33 : A3.eval (.tmp 3) = .pointer (some ⟨R, 0, none⟩) := by rw [hA3]; exact (evn (evn (evn (evn (evn (evn (evn (evn (evn (evn (evn e3)))))))))))
  have eA316 : A3.eval (.tmp 16) = .agg (bvs c.ah) := by rw [hA3]; exact (evn (ev_eq _ _ (by simp [put_sz, sz])))
  rw [← hA3]
  refine wpAnyH_all (rs := [11]) (by kernel_rfl) (by simp) fun i1 hm1 => ?_
  obtain rfl : i1 = 11 := by simpa using hm1
  refine wpOp_own rfl rfl fun K1 hK1 => ?_
  refine wp_store_hash (.tmp 3) (.tmp 16) rfl R (bvs c.ah) Z (l := c.ah) (m := zero32) ⟨rfl, lens.lan⟩ hZ eA33 eA316 r0 ?_
  refine hK1 _ _ ⟨⟨(cell_setRow_other _ _ _ _ hgR).trans hs0.1, fun j v hj => (cell_setRow_other _ _ _ _ hgR).trans (hs0.2 j v hj)⟩, wpAnyH_done (by kernel_rfl) ⟨rfl, ?_, rfl⟩ _⟩
  show A3 = _
  rw [hA3]
set_option maxHeartbeats 2000000 in
theorem anchor_region {V0 W5 : World} {B g : Nat} {v : Value} {c : Ch} {A : Act} (sz : A.tmps.size = 21) (e0 : A.eval (.tmp 0) = .pointer (some ⟨g, 0, none⟩))
    (hV0 : V0 = W5.drew) (H0 : ChAt V0 B g v c) (ok : ChOk c) (hc : c.cnt < 1152921504606846976) :
    codeAnc.wp Tryd.prog (fun x a V => x = .normal ∧ a = ((((((((((A.put (some 7) (.pointer (some ⟨g, 0, none⟩))).put (some 8) (.pointer (some ⟨g, 0, none⟩))).put (some 10) (.pointer (some ⟨g, 0, none⟩))).put (some 11) (.pointer (some ⟨g, 0, none⟩))).put (some 12) (.pointer (some ⟨g, 67, none⟩))).put (some 13) (.agg (bvs c.hd))).put (some 9) (.int .i64 (c.cnt : Int))).put (some 14) (.agg (lnkC c.cnt c.hd).toArray)).put (some 15) (.pointer (some ⟨g, 0, none⟩))).put (some 16) (.pointer (some ⟨g, 33, none⟩))) ∧ ChAt V B g v (ancC c) ∧ Out (fun k => k = g) V0 V) A W5 := by
  have hm : Tryd.prog.follows .mixedOrders = true := by kernel_rfl
  unfold codeAnc
  conv => arg 2; whnf
  refine wp_region_held (S := fun V => V.rangeAt g 67 (cellsOf c.hd)) hm ?_
  rw [show ({ W5 with drawn := W5.drawn + 1 } : World) = V0 from hV0.symm]
  have hs0 : V0.rangeAt g 67 (cellsOf c.hd) := H0.rh ok.l
  refine tkH (i := 0) (d := 7) (v := .pointer (some ⟨g, 0, none⟩)) rfl rfl (yields_move (by simp [Region.wanted]) (.tmp 0) rfl _ e0) hs0 ?_
  refine tkH (i := 1) (d := 8) (v := .pointer (some ⟨g, 0, none⟩)) rfl rfl (yields_move (by simp [Region.wanted]) (.tmp 0) rfl _ (evn e0)) hs0 ?_
  refine tkH (i := 3) (d := 10) (v := .pointer (some ⟨g, 0, none⟩)) rfl rfl (yields_move (by simp [Region.wanted]) (.tmp 0) rfl _ (evn (evn e0))) hs0 ?_
  refine tkH (i := 4) (d := 11) (v := .pointer (some ⟨g, 0, none⟩)) rfl rfl (y_nil (by simp [Region.wanted]) (.tmp 10) rfl _ (ev_eq _ _ (by simp [put_sz, sz]))) hs0 ?_
  refine tkH (i := 5) (d := 12) (v := .pointer (some ⟨g, 67, none⟩)) rfl rfl (y_chain3 (by simp [Region.wanted]) (.tmp 11) rfl g (ev_eq _ _ (by simp [put_sz, sz]))) hs0 ?_
  refine tkH (i := 6) (d := 13) (v := .agg (bvs c.hd)) rfl rfl (y_loadH (by simp [Region.wanted]) (.tmp 12) rfl g 67 c.hd ok.lh (ev_eq _ _ (by simp [put_sz, sz])) (fun V hV => hV)) hs0 ?_
  refine wpAnyH_all (rs := [2]) (by kernel_rfl) (by simp) fun i1 hm1 => ?_
  obtain rfl : i1 = 2 := by simpa using hm1
  refine wpOp_own rfl rfl fun K1 hK1 => ?_
  refine wp_calls1 23 hf_count (.tmp 8) _ rfl (.pointer (some ⟨g, 0, none⟩)) (evn (evn (evn (evn (ev_eq _ _ (by simp [put_sz, sz])))))) ?_
  refine (count_any H0 ok hc).mono ?_
  rintro _ V1 ⟨rfl, hb1⟩
  have H1 := H0.below hb1
  have hs1 := H1.rh ok.l
  refine ⟨_, rfl, hK1 _ _ ⟨hs1, ?_⟩⟩
  clear hK1 K1 hm1
  show wpAnyH _ _ _ _ _ _ _ (((((((A.put (some 7) (.pointer (some ⟨g, 0, none⟩))).put (some 8) (.pointer (some ⟨g, 0, none⟩))).put (some 10) (.pointer (some ⟨g, 0, none⟩))).put (some 11) (.pointer (some ⟨g, 0, none⟩))).put (some 12) (.pointer (some ⟨g, 67, none⟩))).put (some 13) (.agg (bvs c.hd))).put (some 9) (.int .i64 (c.cnt : Int))) _
  refine tkH (i := 7) (d := 14) (v := .agg (lnkC c.cnt c.hd).toArray) rfl rfl (y_buildL (by simp [Region.wanted]) (.tmp 9) (.tmp 13) rfl c.cnt c.hd ok.lh (ev_eq _ _ (by simp [put_sz, sz])) (evn (ev_eq _ _ (by simp [put_sz, sz])))) hs1 ?_
  refine tkH (i := 8) (d := 15) (v := .pointer (some ⟨g, 0, none⟩)) rfl rfl (y_nil (by simp [Region.wanted]) (.tmp 7) rfl _ (evn (evn (evn (evn (evn (evn (evn (ev_eq _ _ (by simp [sz])))))))))) hs1 ?_
  refine tkH (i := 9) (d := 16) (v := .pointer (some ⟨g, 33, none⟩)) rfl rfl (y_chain1 (by simp [Region.wanted]) (.tmp 15) rfl g (ev_eq _ _ (by simp [put_sz, sz]))) hs1 ?_
  obtain ⟨A3, hA3⟩ : ∃ A3, A3 = ((((((((((A.put (some 7) (.pointer (some ⟨g, 0, none⟩))).put (some 8) (.pointer (some ⟨g, 0, none⟩))).put (some 10) (.pointer (some ⟨g, 0, none⟩))).put (some 11) (.pointer (some ⟨g, 0, none⟩))).put (some 12) (.pointer (some ⟨g, 67, none⟩))).put (some 13) (.agg (bvs c.hd))).put (some 9) (.int .i64 (c.cnt : Int))).put (some 14) (.agg (lnkC c.cnt c.hd).toArray)).put (some 15) (.pointer (some ⟨g, 0, none⟩))).put (some 16) (.pointer (some ⟨g, 33, none⟩))) := ⟨_, rfl⟩
  have szA3 : A3.tmps.size = 21 := by rw [hA3]; simp [put_sz, sz]
  have eA316 : A3.eval (.tmp 16) = .pointer (some ⟨g, 33, none⟩) := by rw [hA3]; exact (ev_eq _ _ (by simp [put_sz, sz]))
  have eA314 : A3.eval (.tmp 14) = .agg (lnkC c.cnt c.hd).toArray := by rw [hA3]; exact (evn (evn (ev_eq _ _ (by simp [put_sz, sz]))))
  rw [← hA3]
  refine wpAnyH_all (rs := [10]) (by kernel_rfl) (by simp) fun i2 hm2 => ?_
  obtain rfl : i2 = 10 := by simpa using hm2
  refine wpOp_own rfl rfl fun K2 hK2 => ?_
  refine wp_store_mid 85 (.tmp 16) (.tmp 14) rfl g 33 (lnkC c.cnt c.hd).toArray eA316 eA314 (by rw [List.size_toArray, lnkC_length, ok.lh]; exact H1.there ok.l 33 33 (by omega)) (by rw [List.size_toArray, lnkC_length, ok.lh]; exact size_link) (all_oneCell_toArray (lnkC_one _ _)) ?_
  have H2 := H1.setAnc ok.l c.cnt c.hd ok.lh
  refine hK2 _ _ ⟨H2.rh ⟨ok.lb, ok.lh, ok.lh⟩, wpAnyH_done (by kernel_rfl) ⟨rfl, ?_, H2, Out.setCells (P := fun x => x = g) g rfl _ _ _ (Out.of_below hb1)⟩ _⟩
  show A3 = _
  rw [hA3]
theorem size_hashs (l : List UInt8) (h : l.length = 32) : (Tryd.prog.info? 69).map (·.size) = some (bvs l).size := by rw [bvs_size, h]; exact size_hash
theorem size_hashl (l : List UInt8) (h : l.length = 32) : (Tryd.prog.info? 69).map (·.size) = some (cellsOf l).length := by rw [cellsOf_length, h]; exact size_hash
set_option maxHeartbeats 1000000 in
theorem anchored_any {w : World} {B g : Nat} {v : Value} {c : Ch} (h : ChAt w B g v c) (ok : Lens c) :
    Calls Tryd.prog 49 #[.pointer (some ⟨g, 0, none⟩)] w fun e w' => e = .returned (.tuple #[.int .i64 (c.an : Int), .agg (bvs c.ah)]) ∧ Below w.heap.size w w' := by
  obtain ⟨Z, hZ⟩ : ∃ Z, Z = bvs (List.replicate 32 0) := ⟨_, rfl⟩
  have zh := (zero_of_info zero_hash).1
  rw [← hZ] at zh
  have hz : Hid (HV Z zero32) := by
    show HV _ _
    rw [hZ]; exact hv_zero
  have zh := hid zh
  have H := hid h
  have OK := hid ok
  clear hZ h ok
  go_enter Tryd.func49, Tryd.ntmps49
  go_wp2_with (with_reducible show Go.wpList _ _ _ _ _ _; refine wpList_alloc_row rfl 69 rfl Z zh.out ?_)
  obtain ⟨V0, hV0⟩ : ∃ V0, V0 = (w.alloc (.cells Z 69)).drew := ⟨_, rfl⟩
  have b0 : Below w.heap.size w V0 := by rw [hV0]; exact ((Below.refl _ w).alloc (Nat.le_refl _) _).drew
  have r0 : V0.heap[w.heap.size]? = some (.cells Z 69 (0, 0)) := by rw [hV0]; exact heap_alloc_new w _
  refine wp_act _ fun A hA => ?_
  have sz : A.tmps.size = 17 := by rw [hA]; rfl
  have e0 : A.eval (.tmp 0) = .pointer (some ⟨g, 0, none⟩) := by rw [hA]; rfl
  have e3 : A.eval (.tmp 3) = .pointer (some ⟨w.heap.size, 0, none⟩) := by rw [hA]; rfl
  refine wp_split _ (anchored_region sz e0 e3 hV0 (H.out.below b0) OK.out hz.out r0) ?_
  rintro _ _ ⟨rfl, rfl⟩
  rw [hA]
  simp only [Act.put, List.setIfInBounds_toArray, List.set_cons_succ, List.set_cons_zero]
  clear sz e0 e3 hA A hV0
  have R0 := hid r0
  have B0 := hid b0
  have sh := hid (size_hashs c.ah OK.out.lan)
  clear r0 b0 zh hz OK
  go_wp2
  refine bodyPost_ret (results_tmp_row rfl _ _ w.heap.size 69 (bvs c.ah) (0, 0) _ rfl (setRow_heap _ _ _ _ _ _ R0.out) Tryd.underlying69 rfl sh.out) rfl ?_
  exact ⟨rfl, B0.out.setRow (Nat.le_refl _) _⟩
set_option maxHeartbeats 1000000 in
theorem anchor_any {w : World} {B g : Nat} {v : Value} {c : Ch} (h : ChAt w B g v c) (ok : ChOk c) (hc : c.cnt < 1152921504606846976) :
    Calls Tryd.prog 27 #[.pointer (some ⟨g, 0, none⟩)] w fun e w' => e = .returned (.tuple #[.int .i64 (c.cnt : Int), .agg (bvs c.hd)]) ∧ ChAt w' B g v (ancC c) ∧ Out (fun k => k = g) w w' := by
  obtain ⟨Z, hZ⟩ : ∃ Z, Z = bvs (List.replicate 32 0) := ⟨_, rfl⟩
  have zh := (zero_of_info zero_hash).1
  rw [← hZ] at zh
  have hz : Hid (HV Z zero32) := by
    show HV _ _
    rw [hZ]; exact hv_zero
  have zh := hid zh
  have H := hid h
  have OK := hid ok
  have sh := hid (size_hashs c.hd ok.lh)
  have lts := hid h.lts
  have lt := hid h.lt
  clear hZ h ok
  go_enter Tryd.func27, Tryd.ntmps27
  go_wp2_with (with_reducible show Go.wpList _ _ _ _ _ _; refine wpList_alloc_row rfl 69 rfl Z zh.out ?_)
  obtain ⟨V0, hV0⟩ : ∃ V0, V0 = (w.alloc (.cells Z 69)).drew := ⟨_, rfl⟩
  have b0 : Below w.heap.size w V0 := by rw [hV0]; exact ((Below.refl _ w).alloc (Nat.le_refl _) _).drew
  have r0 : V0.heap[w.heap.size]? = some (.cells Z 69 (0, 0)) := by rw [hV0]; exact heap_alloc_new w _
  refine wp_act _ fun A hA => ?_
  have sz : A.tmps.size = 21 := by rw [hA]; rfl
  have e0 : A.eval (.tmp 0) = .pointer (some ⟨g, 0, none⟩) := by rw [hA]; rfl
  refine wp_split _ (anchor_region sz e0 hV0 (H.out.below b0) OK.out hc) ?_
  rintro _ V1 ⟨rfl, H1, o1⟩
  rw [hA]
  simp only [Act.put, List.setIfInBounds_toArray, List.set_cons_succ, List.set_cons_zero]
  clear sz e0 hA A hV0
  have r1 := (o1.block _ (heap_lt r0) (by have := lt.out; omega)).trans r0
  have HA := hid (anchored_any H1 (ancC_ok OK.out).l)
  have R1 := hid r1
  have O1 : Hid (Out (fun k => k = g) w V1) := (Out.of_below b0).trans o1 (fun _ _ x => x)
  have H1' := hid H1
  have hn : Hid ((ancC c).an = c.cnt) := rfl
  have hh : Hid ((ancC c).ah = c.hd) := rfl
  rw [hn.out, hh.out] at HA
  clear r0 r1 b0 zh H1 o1 H hn hh
  go_wp2_with (first
    | (go_at_call 49; refine HA.out.mono ?_; rintro x w2 ⟨rfl, hb2⟩; have R2 := hid ((hb2.block _ (heap_lt R1.out)).trans R1.out); have B2 := hid hb2; clear hb2)
    | (with_reducible show Go.wpList _ _ _ _ _ _; refine wpList_store_row rfl 69 _ _ rfl w.heap.size (bvs c.hd) rfl rfl 69 Z R2.out sh.out (hz.out.size.trans (HV.size (l := c.hd) ⟨rfl, OK.out.lh⟩).symm) (bvs_one _) ?_))
  refine bodyPost_ret (results_tmp_row rfl _ _ w.heap.size 69 (bvs c.hd) (0, 0) _ rfl (setRow_heap _ _ _ _ _ _ R2.out) Tryd.underlying69 rfl sh.out) rfl ?_
  have hlt := lt.out
  refine ⟨rfl, (H1'.out.below B2.out).keep (setRow_other _ _ _ _ (by omega)) (fun k hk => setRow_other _ _ _ _ (by have := (lts.out k hk).2; omega)), ?_⟩
  have o2 := O1.out.on B2.out
  exact ⟨o2.os, o2.tape, o2.output, by rw [size_setRow]; exact o2.size, fun j hj hp => (setRow_other _ _ _ _ (by omega)).trans (o2.block j hj hp)⟩
set_option maxHeartbeats 1000000 in
theorem head_any {w : World} {B g : Nat} {v : Value} {c : Ch} (h : ChAt w B g v c) (ok : Lens c) :
    Calls Tryd.prog 30 #[.pointer (some ⟨g, 0, none⟩)] w fun e w' => e = .returned (.agg (bvs c.hd)) ∧ Below w.heap.size w w' := by
  obtain ⟨Z, hZ⟩ : ∃ Z, Z = bvs (List.replicate 32 0) := ⟨_, rfl⟩
  have zh := (zero_of_info zero_hash).1
  rw [← hZ] at zh
  have hz : Hid (HV Z zero32) := by
    show HV _ _
    rw [hZ]; exact hv_zero
  have zh := hid zh
  have b0 : Below w.heap.size w (w.alloc (.cells Z 69)) := (Below.refl _ w).alloc (Nat.le_refl _) _
  have rh := hid ((h.below b0).rh ok)
  have R0 : Hid ((w.alloc (.cells Z 69)).heap[w.heap.size]? = some (.cells Z 69 (0, 0))) := heap_alloc_new w _
  have B0 := hid b0
  have sh := hid (size_hashs c.hd ok.lh)
  have sl := hid (size_hashl c.hd ok.lh)
  have zs : Hid (Z.size = (bvs c.hd).size) := hz.out.size.trans (HV.size (l := c.hd) ⟨rfl, ok.lh⟩).symm
  have one := hid (bvs_one c.hd)
  have bv : Hid ((cellsOf c.hd).toArray = bvs c.hd) := rfl
  clear hZ h ok b0 hz
  generalize cellsOf c.hd = L at *
  generalize bvs c.hd = O at *
  go_enter Tryd.func30, Tryd.ntmps30
  go_wp2_with (first
    | (with_reducible show Go.wpList _ _ _ _ _ _; refine wpList_alloc_row rfl 69 rfl Z zh.out ?_)
    | (with_reducible show Go.wpList _ _ _ _ _ _; refine wpList_load_mid rfl 69 _ rfl g 67 rfl L _ rh.out Tryd.underlying69 rfl sl.out ?_; rw [bv.out])
    | (with_reducible show Go.wpList _ _ _ _ _ _; refine wpList_store_row rfl 69 _ _ rfl w.heap.size O rfl rfl 69 Z R0.out sh.out zs.out one.out ?_))
  refine bodyPost_ret (results_cell_row rfl _ _ w.heap.size 69 O (0, 0) _ rfl (setRow_heap _ _ _ _ _ _ R0.out) Tryd.underlying69 rfl sh.out) rfl ?_
  exact ⟨rfl, B0.out.setRow (Nat.le_refl _) _⟩
end Go.Proofs.YthfmpebgmojcaaaDoor
/- The next link: the region of 'at = link{event.Number, hash.Chain(at.hash, bytesOf(event))}' of audit.links, over a frame that is a letter. -/
namespace Go.Proofs.YthfmpebgmojcaaaDoor
open Go.RowKit Go.Shelf
set_option linter.unusedVariables false
set_option maxRecDepth 20000
theorem link_hash {w : World} {g n : Nat} {h : List UInt8} {t : TypeId} {fr : Nat × Nat} (hg : w.heap[g]? = some (.cells (lnkC n h).toArray t fr)) : w.rangeAt g 1 (cellsOf h) := range_mid (A := [.int .i64 (n : Int)]) (B := cellsOf h) (C := []) (by simpa [lnkC] using hg) 1 rfl
noncomputable def codeLk (n : Nat) : Code := ((Tryd.f79.body.bind (regionAt n)).getD .skip)
set_option maxHeartbeats 2000000 in
theorem links_region5 {ro : Option Nat} {nn : Nat} {V0 W5 : World} {Ab E m : Nat} {h : List UInt8} {e : Ev} {A : Act} (sz : A.tmps.size = 36) (e3 : A.eval (.tmp 3) = .pointer (some ⟨Ab, 0, none⟩)) (e5 : A.eval (.tmp 5) = .pointer (some ⟨E, 0, none⟩))
    (hV0 : V0 = W5.drew) (ha0 : V0.heap[Ab]? = some (.cells (lnkC m h).toArray 85 (0, 0))) (hh : h.length = 32) (hs0 : V0.heap[E]? = some (.cells (eVals e).toArray 55 (0, 0))) (hn : e.num ≤ 4611686018427387904) (ht : e.tim ≤ 4611686018427387904) (h12 : e.what.size ≤ 12) (h30 : e.who.size ≤ 30) (hT : TabAt V0) (hK : KAt V0) :
    (codeLk 5).wpIn (WideAt ro) nn Tryd.prog (fun x a V => x = .normal ∧ ∃ aC cC, a = ((((((((A.put (some 23) (.pointer (some ⟨E, 0, none⟩))).put (some 24) (.int .i64 (e.num : Int))).put (some 25) (.pointer (some ⟨Ab, 1, none⟩))).put (some 27) (.agg (eVals e).toArray)).put (some 26) (.agg (bvs h))).put (some 28) (.slice aC (evB e).length cC)).put (some 29) (.agg (bvs (nextH h e)))).put (some 30) (.agg (lnkC e.num (nextH h e)).toArray)) ∧
      V.heap[Ab]? = some (.cells (lnkC e.num (nextH h e)).toArray 85 (0, 0)) ∧ Out (fun k => k = Ab) V0 V) A W5 := by
  have hm : Tryd.prog.follows .mixedOrders = true := by kernel_rfl
  have hEA : E ≠ Ab := fun x => by
    rw [x, ha0] at hs0
    injection hs0 with hs0
    injection hs0 with _ hs0
    exact absurd hs0 (by decide)
  unfold codeLk
  conv => arg 4; whnf
  refine wpIn_region_heldAt (S := fun V => V.heap[E]? = some (.cells (eVals e).toArray 55 (0, 0))) hm (by kernel_rfl) ?_
  rw [show ({ W5 with drawn := W5.drawn + 1 } : World) = V0 from hV0.symm]
  refine tkH (i := 0) (d := 23) (v := .pointer (some ⟨E, 0, none⟩)) rfl rfl (y_ev 0 (by decide) (by simp [Region.wanted]) (.tmp 5) rfl E e5) hs0 ?_
  refine tkH (i := 1) (d := 24) (v := .int .i64 (e.num : Int)) rfl rfl (y_loadI (by simp [Region.wanted]) (.tmp 23) rfl E 0 _ (ev_eq _ _ (by simp [sz])) (fun V hV => range_whole hV 0 _ rfl)) hs0 ?_
  refine tkH (i := 2) (d := 25) (v := .pointer (some ⟨Ab, 1, none⟩)) rfl rfl (y_link1 (by simp [Region.wanted]) (.tmp 3) rfl Ab 0 (evn (evn e3))) hs0 ?_
  refine tkH (i := 4) (d := 27) (v := .agg (eVals e).toArray) rfl rfl (y_loadE (by simp [Region.wanted]) (.tmp 5) rfl E 0 e (evn (evn (evn e5))) (fun V hV => range_whole hV)) hs0 ?_
  refine wpAnyH_all (rs := [3, 5]) (by kernel_rfl) (by simp) fun i1 hm1 => ?_
  have hn1 : i1 = 3 ∨ i1 = 5 := by simpa using hm1
  clear hm1
  rcases hn1 with rfl | rfl
  · refine YieldsIf.wpOp rfl (y_loadH (S := fun V => V.rangeAt Ab 1 (cellsOf h)) (by simp [Region.wanted]) (.tmp 25) rfl Ab 1 h hh (evn (ev_eq _ _ (by simp [put_sz, sz]))) (fun V hV => hV)) (link_hash ha0) ⟨hs0, ?_⟩
    show wpAnyH _ _ _ _ _ _ _ (((((A.put (some 23) (.pointer (some ⟨E, 0, none⟩))).put (some 24) (.int .i64 (e.num : Int))).put (some 25) (.pointer (some ⟨Ab, 1, none⟩))).put (some 27) (.agg (eVals e).toArray)).put (some 26) (.agg (bvs h))) _
    refine wpAnyH_all (rs := [5]) (by kernel_rfl) (by simp) fun i2 hm2 => ?_
    obtain rfl : i2 = 5 := by simpa using hm2
    refine wpOp_own rfl rfl fun K2 hK2 => ?_
    refine wp_calls1 61 hf_bytesOf (.tmp 27) _ rfl (.agg (eVals e).toArray) (evn (ev_eq _ _ (by simp [put_sz, sz]))) ?_
    refine (bytesOf_any V0 e hn ht h12 h30 hT).mono ?_
    rintro _ V1 ⟨aC, cC, rfl, hby, hb1, hcC⟩
    have hs1 := (hb1.block E (heap_lt hs0)).trans hs0
    have ha1 := (hb1.block Ab (heap_lt ha0)).trans ha0
    refine ⟨_, rfl, hK2 _ _ ⟨hs1, ?_⟩⟩
    clear hK2 K2 hm2
    show wpAnyH _ _ _ _ _ _ _ ((((((A.put (some 23) (.pointer (some ⟨E, 0, none⟩))).put (some 24) (.int .i64 (e.num : Int))).put (some 25) (.pointer (some ⟨Ab, 1, none⟩))).put (some 27) (.agg (eVals e).toArray)).put (some 26) (.agg (bvs h))).put (some 28) (.slice aC (evB e).length cC)) _
    obtain ⟨A3, hA3⟩ : ∃ A3, A3 = ((((((A.put (some 23) (.pointer (some ⟨E, 0, none⟩))).put (some 24) (.int .i64 (e.num : Int))).put (some 25) (.pointer (some ⟨Ab, 1, none⟩))).put (some 27) (.agg (eVals e).toArray)).put (some 26) (.agg (bvs h))).put (some 28) (.slice aC (evB e).length cC)) := ⟨_, rfl⟩
    have szA3 : A3.tmps.size = 36 := by rw [hA3]; simp [put_sz, sz]
    have eA33 : A3.eval (.tmp 3) = .pointer (some ⟨Ab, 0, none⟩) := by rw [hA3]; exact (evn (evn (evn (evn (evn (evn e3))))))
    have eA324 : A3.eval (.tmp 24) = .int .i64 (e.num : Int) := by rw [hA3]; exact (evn (evn (evn (evn (ev_eq _ _ (by simp [put_sz, sz]))))))
    have eA326 : A3.eval (.tmp 26) = .agg (bvs h) := by rw [hA3]; exact (evn (ev_eq _ _ (by simp [put_sz, sz])))
    have eA328 : A3.eval (.tmp 28) = .slice aC (evB e).length cC := by rw [hA3]; exact (ev_eq _ _ (by simp [put_sz, sz]))
    rw [← hA3]
    refine wpAnyH_all (rs := [6]) (by kernel_rfl) (by simp) fun i3 hm3 => ?_
    obtain rfl : i3 = 6 := by simpa using hm3
    refine wpOp_own rfl rfl fun K3 hK3 => ?_
    refine wp_calls2 60 hf_chain (.tmp 26) (.tmp 28) _ rfl (.agg (bvs h)) (.slice aC (evB e).length cC) eA326 eA328 ?_
    refine (chain_any (w := V1) (h := h) (H := bvs h) ⟨rfl, hh⟩ (evB e) aC (evB e).length cC rfl hby (by have := evB_bound e; omega) hcC (hK.below hb1)).mono ?_
    rintro _ V2 ⟨O, rfl, hO, hb2⟩
    obtain rfl : O = bvs (nextH h e) := hO.out.eq
    have hs2 := (hb2.block E (heap_lt hs1)).trans hs1
    have ha2 := (hb2.block Ab (heap_lt ha1)).trans ha1
    refine ⟨_, rfl, hK3 _ _ ⟨hs2, ?_⟩⟩
    clear hK3 K3 hm3
    show wpAnyH _ _ _ _ _ _ _ (A3.put (some 29) (.agg (bvs (nextH h e)))) _
    refine tkH (i := 7) (d := 30) (v := .agg (lnkC e.num (nextH h e)).toArray) rfl rfl (y_buildL (by simp [Region.wanted]) (.tmp 24) (.tmp 29) rfl e.num (nextH h e) (nextH_length _ _) (evn eA324) (ev_eq _ _ (by simp [szA3]))) hs2 ?_
    refine wpAnyH_all (rs := [8]) (by kernel_rfl) (by simp) fun i4 hm4 => ?_
    obtain rfl : i4 = 8 := by simpa using hm4
    refine wpOp_own rfl rfl fun K4 hK4 => ?_
    refine wp_store_row 85 (.tmp 3) (.tmp 30) rfl Ab (lnkC e.num (nextH h e)).toArray (evn (evn eA33)) (ev_eq _ _ (by simp [put_sz, szA3])) 85 (lnkC m h).toArray ha2 (by rw [List.size_toArray, lnkC_length, nextH_length]; exact size_link) (by rw [List.size_toArray, List.size_toArray, lnkC_length, lnkC_length, nextH_length, hh]) (all_oneCell_toArray (lnkC_one _ _)) ?_
    have o2 : Out (fun k => k = Ab) V0 V2 := (Out.of_below hb1).on hb2
    refine hK4 _ _ ⟨(setRow_other _ _ _ _ hEA).trans hs2, wpAnyH_done (by kernel_rfl) ⟨rfl, aC, cC, ?_, setRow_heap _ _ _ _ _ _ ha2, ⟨o2.os, o2.tape, o2.output, by rw [size_setRow]; exact o2.size, fun j hj hp => (setRow_other _ _ _ _ hp).trans (o2.block j hj hp)⟩⟩ _⟩
    show ((A3.put (some 29) (.agg (bvs (nextH h e)))).put (some 30) (.agg (lnkC e.num (nextH h e)).toArray)) = _
    rw [hA3]
  · refine wpOp_own rfl rfl fun K2 hK2 => ?_
    refine wp_calls1 61 hf_bytesOf (.tmp 27) _ rfl (.agg (eVals e).toArray) (ev_eq _ _ (by simp [put_sz, sz])) ?_
    refine (bytesOf_any V0 e hn ht h12 h30 hT).mono ?_
    rintro _ V1 ⟨aC, cC, rfl, hby, hb1, hcC⟩
    have hs1 := (hb1.block E (heap_lt hs0)).trans hs0
    have ha1 := (hb1.block Ab (heap_lt ha0)).trans ha0
    refine ⟨_, rfl, hK2 _ _ ⟨hs1, ?_⟩⟩
    clear hK2 K2
    show wpAnyH _ _ _ _ _ _ _ (((((A.put (some 23) (.pointer (some ⟨E, 0, none⟩))).put (some 24) (.int .i64 (e.num : Int))).put (some 25) (.pointer (some ⟨Ab, 1, none⟩))).put (some 27) (.agg (eVals e).toArray)).put (some 28) (.slice aC (evB e).length cC)) _
    refine wpAnyH_all (rs := [3]) (by kernel_rfl) (by simp) fun i3 hm3 => ?_
    obtain rfl : i3 = 3 := by simpa using hm3
    refine YieldsIf.wpOp rfl (y_loadH (S := fun V => V.rangeAt Ab 1 (cellsOf h)) (by simp [Region.wanted]) (.tmp 25) rfl Ab 1 h hh (evn (evn (ev_eq _ _ (by simp [put_sz, sz])))) (fun V hV => hV)) (link_hash ha1) ⟨hs1, ?_⟩
    show wpAnyH _ _ _ _ _ _ _ ((((((A.put (some 23) (.pointer (some ⟨E, 0, none⟩))).put (some 24) (.int .i64 (e.num : Int))).put (some 25) (.pointer (some ⟨Ab, 1, none⟩))).put (some 27) (.agg (eVals e).toArray)).put (some 28) (.slice aC (evB e).length cC)).put (some 26) (.agg (bvs h))) _
    obtain ⟨A3, hA3⟩ : ∃ A3, A3 = ((((((A.put (some 23) (.pointer (some ⟨E, 0, none⟩))).put (some 24) (.int .i64 (e.num : Int))).put (some 25) (.pointer (some ⟨Ab, 1, none⟩))).put (some 27) (.agg (eVals e).toArray)).put (some 28) (.slice aC (evB e).length cC)).put (some 26) (.agg (bvs h))) := ⟨_, rfl⟩
    have szA3 : A3.tmps.size = 36 := by rw [hA3]; simp [put_sz, sz]
    have eA33 : A3.eval (.tmp 3) = .pointer (some ⟨Ab, 0, none⟩) := by rw [hA3]; exact (evn (evn (evn (evn (evn (evn e3))))))
    have eA324 : A3.eval (.tmp 24) = .int .i64 (e.num : Int) := by rw [hA3]; exact (evn (evn (evn (evn (ev_eq _ _ (by simp [put_sz, sz]))))))
    have eA326 : A3.eval (.tmp 26) = .agg (bvs h) := by rw [hA3]; exact (ev_eq _ _ (by simp [put_sz, sz]))
    have eA328 : A3.eval (.tmp 28) = .slice aC (evB e).length cC := by rw [hA3]; exact (evn (ev_eq _ _ (by simp [put_sz, sz])))
    rw [← hA3]
    refine wpAnyH_all (rs := [6]) (by kernel_rfl) (by simp) fun i4 hm4 => ?_
    obtain rfl : i4 = 6 := by simpa using hm4
    refine wpOp_own rfl rfl fun K4 hK4 => ?_
    refine wp_calls2 60 hf_chain (.tmp 26) (.tmp 28) _ rfl (.agg (bvs h)) (.slice aC (evB e).length cC) eA326 eA328 ?_
    refine (chain_any (w := V1) (h := h) (H := bvs h) ⟨rfl, hh⟩ (evB e) aC (evB e).length cC rfl hby (by have := evB_bound e; omega) hcC (hK.below hb1)).mono ?_
    rintro _ V2 ⟨O, rfl, hO, hb2⟩
    obtain rfl : O = bvs (nextH h e) := hO.out.eq
    have hs2 := (hb2.block E (heap_lt hs1)).trans hs1
    have ha2 := (hb2.block Ab (heap_lt ha1)).trans ha1
    refine ⟨_, rfl, hK4 _ _ ⟨hs2, ?_⟩⟩
    clear hK4 K4 hm4
    show wpAnyH _ _ _ _ _ _ _ (A3.put (some 29) (.agg (bvs (nextH h e)))) _
    refine tkH (i := 7) (d := 30) (v := .agg (lnkC e.num (nextH h e)).toArray) rfl rfl (y_buildL (by simp [Region.wanted]) (.tmp 24) (.tmp 29) rfl e.num (nextH h e) (nextH_length _ _) (evn eA324) (ev_eq _ _ (by simp [szA3]))) hs2 ?_
    refine wpAnyH_all (rs := [8]) (by kernel_rfl) (by simp) fun i5 hm5 => ?_
    obtain rfl : i5 = 8 := by simpa using hm5
    refine wpOp_own rfl rfl fun K5 hK5 => ?_
    refine wp_store_row 85 (.tmp 3) (.tmp 30) rfl Ab (lnkC e.num (nextH h e)).toArray (evn (evn eA33)) (ev_eq _ _ (by simp [put_sz, szA3])) 85 (lnkC m h).toArray ha2 (by rw [List.size_toArray, lnkC_length, nextH_length]; exact size_link) (by rw [List.size_toArray, List.size_toArray, lnkC_length, lnkC_length, nextH_length, hh]) (all_oneCell_toArray (lnkC_one _ _)) ?_
    have o2 : Out (fun k => k = Ab) V0 V2 := (Out.of_below hb1).on hb2
    refine hK5 _ _ ⟨(setRow_other _ _ _ _ hEA).trans hs2, wpAnyH_done (by kernel_rfl) ⟨rfl, aC, cC, ?_, setRow_heap _ _ _ _ _ _ ha2, ⟨o2.os, o2.tape, o2.output, by rw [size_setRow]; exact o2.size, fun j hj hp => (setRow_other _ _ _ _ hp).trans (o2.block j hj hp)⟩⟩ _⟩
    show ((A3.put (some 29) (.agg (bvs (nextH h e)))).put (some 30) (.agg (lnkC e.num (nextH h e)).toArray)) = _
    rw [hA3, put_swap (d := 28) (e := 26) _ (by decide)]
end Go.Proofs.YthfmpebgmojcaaaDoor
