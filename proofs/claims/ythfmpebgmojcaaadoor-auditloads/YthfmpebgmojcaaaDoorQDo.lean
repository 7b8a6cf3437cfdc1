/- YthfmpebgmojcaaaDoorQVer + YthfmpebgmojcaaaDoorQDo -/
import Derived.Test.YthfmpebgmojcaaaDoorTkG
import Derived.Test.YthfmpebgmojcaaaDoorARPrune
import Derived.Test.YthfmpebgmojcaaaDoorYG
import Derived.Test.YthfmpebgmojcaaaDoorADo1
/- The reference's Verify of any chain. (Printed by gen/qver.py.) -/
namespace Go.Proofs.YthfmpebgmojcaaaDoor
open Go.RowKit
set_option linter.unusedVariables false
set_option maxRecDepth 20000
set_option maxHeartbeats 2000000 in
theorem rVerify_region5F {V0 W5 : World} {B g cap : Nat} {a0 : Option Addr} {c : Ch} {A : Act} (sz : A.tmps.size = 47) (e0 : A.eval (.tmp 0) = .pointer (some ⟨g, 0, none⟩))
    (hV0 : V0 = W5.drew) (hs0 : RAt V0 B g (.slice a0 c.ev.length cap) c ∧ Below V0.heap.size V0 V0) (hdec : decide ((c.bn : Int) ≤ (c.an : Int)) = false) :
    (codeRVer 5).wp Tryd.prog (fun x a V => x = .normal ∧ a = ((((((((((((((((((((((((((((A.put (some 20) (.pointer (some ⟨g, 0, none⟩))).put (some 21) (.pointer (some ⟨g, 0, none⟩))).put (some 22) (.pointer (some ⟨g, 1, none⟩))).put (some 23) (.int .i64 (c.an : Int))).put (some 24) (.pointer (some ⟨g, 0, none⟩))).put (some 25) (.pointer (some ⟨g, 0, none⟩))).put (some 26) (.pointer (some ⟨g, 0, none⟩))).put (some 27) (.int .i64 (c.bn : Int))).put (some 28) (.bool false)).put (some 29) (.bool false)).put (some 30) (undef)).put (some 31) (undef)).put (some 32) (undef)).put (some 33) (undef)).put (some 34) (undef)).put (some 35) (undef)).put (some 36) (undef)).put (some 37) (undef)).put (some 38) (undef)).put (some 39) (undef)).put (some 41) (undef)).put (some 42) (undef)).put (some 43) (undef)).put (some 44) (undef)).put (some 40) (undef)).put (some 45) (undef)).put (some 46) (.bool false)).put (some 19) (.bool false)) ∧ Below V0.heap.size V0 V) A W5 := by
  have hm : Tryd.prog.follows .mixedOrders = true := by kernel_rfl
  have hlt : c.an < c.bn := by have := of_decide_eq_false hdec; omega
  unfold codeRVer
  conv => arg 2; whnf
  refine wp_region_G (fun _ => false) (fun V => RAt V B g (.slice a0 c.ev.length cap) c ∧ Below V0.heap.size V0 V) hm ?_
  rw [show ({ W5 with drawn := W5.drawn + 1 } : World) = V0 from hV0.symm]
  refine tkG (i := 0) (d := 20) (v := .pointer (some ⟨g, 0, none⟩)) rfl rfl (yg_mv (by simp [Region.wanted]) (.tmp 0) rfl e0) hs0 ?_
  refine tkG (i := 1) (d := 21) (v := .pointer (some ⟨g, 0, none⟩)) rfl rfl (yg_nil (by simp [Region.wanted]) (.tmp 20) rfl (ev_eq _ _ (by simp [sz]))) hs0 ?_
  refine tkG (i := 2) (d := 22) (v := .pointer (some ⟨g, 1, none⟩)) rfl rfl (yg_fld (by simp [Region.wanted]) (.tmp 21) rfl (ev_eq _ _ (by simp [put_sz, sz])) (fun w => by simp [go_sem])) hs0 ?_
  refine tkG (i := 3) (d := 23) (v := .int .i64 (c.an : Int)) rfl rfl (yg_ld (by simp [Region.wanted]) (.tmp 22) rfl (ev_eq _ _ (by simp [put_sz, sz])) (fun w hw => by have h1 := hw.1.c1; simp [go_sem, h1])) hs0 ?_
  refine tkG (i := 4) (d := 24) (v := .pointer (some ⟨g, 0, none⟩)) rfl rfl (yg_mv (by simp [Region.wanted]) (.tmp 0) rfl (evn (evn (evn (evn e0))))) hs0 ?_
  refine tkG (i := 5) (d := 25) (v := .pointer (some ⟨g, 0, none⟩)) rfl rfl (yg_nil (by simp [Region.wanted]) (.tmp 24) rfl (ev_eq _ _ (by simp [put_sz, sz]))) hs0 ?_
  refine tkG (i := 6) (d := 26) (v := .pointer (some ⟨g, 0, none⟩)) rfl rfl (yg_fld (by simp [Region.wanted]) (.tmp 25) rfl (ev_eq _ _ (by simp [put_sz, sz])) (fun w => by simp [go_sem])) hs0 ?_
  refine tkG (i := 7) (d := 27) (v := .int .i64 (c.bn : Int)) rfl rfl (yg_ld (by simp [Region.wanted]) (.tmp 26) rfl (ev_eq _ _ (by simp [put_sz, sz])) (fun w hw => by have h1 := hw.1.c0; simp [go_sem, h1])) hs0 ?_
  refine tkG (i := 8) (d := 28) (v := .bool false) rfl rfl (yg_bin (by simp [Region.wanted]) (.tmp 23) (.tmp 27) rfl (evn (evn (evn (evn (ev_eq _ _ (by simp [put_sz, sz])))))) (ev_eq _ _ (by simp [put_sz, sz])) (fun w => by simp [go_sem, hlt])) hs0 ?_
  obtain ⟨Az1, hAz1⟩ : ∃ Az1, Az1 = (((((((((A.put (some 20) (.pointer (some ⟨g, 0, none⟩))).put (some 21) (.pointer (some ⟨g, 0, none⟩))).put (some 22) (.pointer (some ⟨g, 1, none⟩))).put (some 23) (.int .i64 (c.an : Int))).put (some 24) (.pointer (some ⟨g, 0, none⟩))).put (some 25) (.pointer (some ⟨g, 0, none⟩))).put (some 26) (.pointer (some ⟨g, 0, none⟩))).put (some 27) (.int .i64 (c.bn : Int))).put (some 28) (.bool false)) := ⟨_, rfl⟩
  have szAz1 : Az1.tmps.size = 47 := by rw [hAz1]; simp [put_sz, sz]
  have eAz10 : Az1.eval (.tmp 0) = .pointer (some ⟨g, 0, none⟩) := by rw [hAz1]; exact (evn (evn (evn (evn (evn (evn (evn (evn (evn e0)))))))))
  have eAz128 : Az1.eval (.tmp 28) = .bool false := by rw [hAz1]; exact (ev_eq _ _ (by simp [put_sz, sz]))
  rw [← hAz1]
  refine tkG (i := 9) (d := 29) (v := .bool false) rfl rfl (yg_mv (by simp [Region.wanted]) (.tmp 28) rfl eAz128) hs0 ?_
  refine tkG (i := 10) (d := 30) (v := undef) rfl rfl (yg_skip (guard_t (i := 9) (d := 29) rfl rfl (by simp [put_sz, szAz1]) (ev_eq _ _ (by simp [szAz1])))) hs0 ?_
  refine tkG (i := 11) (d := 31) (v := undef) rfl rfl (yg_skip (guard_t (i := 9) (d := 29) rfl rfl (by simp [put_sz, szAz1]) (evn (ev_eq _ _ (by simp [szAz1]))))) hs0 ?_
  refine tkG (i := 12) (d := 32) (v := undef) rfl rfl (yg_skip (guard_t (i := 9) (d := 29) rfl rfl (by simp [put_sz, szAz1]) (evn (evn (ev_eq _ _ (by simp [szAz1])))))) hs0 ?_
  refine tkG (i := 13) (d := 33) (v := undef) rfl rfl (yg_skip (guard_t (i := 9) (d := 29) rfl rfl (by simp [put_sz, szAz1]) (evn (evn (evn (ev_eq _ _ (by simp [szAz1]))))))) hs0 ?_
  refine tkG (i := 14) (d := 34) (v := undef) rfl rfl (yg_skip (guard_t (i := 9) (d := 29) rfl rfl (by simp [put_sz, szAz1]) (evn (evn (evn (evn (ev_eq _ _ (by simp [szAz1])))))))) hs0 ?_
  refine tkG (i := 15) (d := 35) (v := undef) rfl rfl (yg_skip (guard_t (i := 9) (d := 29) rfl rfl (by simp [put_sz, szAz1]) (evn (evn (evn (evn (evn (ev_eq _ _ (by simp [szAz1]))))))))) hs0 ?_
  refine tkG (i := 16) (d := 36) (v := undef) rfl rfl (yg_skip (guard_t (i := 9) (d := 29) rfl rfl (by simp [put_sz, szAz1]) (evn (evn (evn (evn (evn (evn (ev_eq _ _ (by simp [szAz1])))))))))) hs0 ?_
  refine tkG (i := 17) (d := 37) (v := undef) rfl rfl (yg_skip (guard_t (i := 9) (d := 29) rfl rfl (by simp [put_sz, szAz1]) (evn (evn (evn (evn (evn (evn (evn (ev_eq _ _ (by simp [szAz1]))))))))))) hs0 ?_
  obtain ⟨Az2, hAz2⟩ : ∃ Az2, Az2 = (((((((((Az1.put (some 29) (.bool false)).put (some 30) (undef)).put (some 31) (undef)).put (some 32) (undef)).put (some 33) (undef)).put (some 34) (undef)).put (some 35) (undef)).put (some 36) (undef)).put (some 37) (undef)) := ⟨_, rfl⟩
  have szAz2 : Az2.tmps.size = 47 := by rw [hAz2]; simp [put_sz, szAz1]
  have eAz20 : Az2.eval (.tmp 0) = .pointer (some ⟨g, 0, none⟩) := by rw [hAz2]; exact (evn (evn (evn (evn (evn (evn (evn (evn (evn eAz10)))))))))
  have eAz229 : Az2.eval (.tmp 29) = .bool false := by rw [hAz2]; exact (evn (evn (evn (evn (evn (evn (evn (evn (ev_eq _ _ (by simp [szAz1]))))))))))
  have eAz230 : Az2.eval (.tmp 30) = undef := by rw [hAz2]; exact (evn (evn (evn (evn (evn (evn (evn (ev_eq _ _ (by simp [put_sz, szAz1])))))))))
  have eAz234 : Az2.eval (.tmp 34) = undef := by rw [hAz2]; exact (evn (evn (evn (ev_eq _ _ (by simp [put_sz, szAz1])))))
  have eAz237 : Az2.eval (.tmp 37) = undef := by rw [hAz2]; exact (ev_eq _ _ (by simp [put_sz, szAz1]))
  rw [← hAz2]
  refine tkG (i := 18) (d := 38) (v := undef) rfl rfl (yg_skip (guard_t (i := 9) (d := 29) rfl rfl (by simp [szAz2]) eAz229)) hs0 ?_
  refine tkG (i := 19) (d := 39) (v := undef) rfl rfl (yg_skip (guard_t (i := 9) (d := 29) rfl rfl (by simp [put_sz, szAz2]) (evn eAz229))) hs0 ?_
  refine tkG (i := 21) (d := 41) (v := undef) rfl rfl (yg_skip (guard_t (i := 9) (d := 29) rfl rfl (by simp [put_sz, szAz2]) (evn (evn eAz229)))) hs0 ?_
  refine tkG (i := 22) (d := 42) (v := undef) rfl rfl (yg_skip (guard_t (i := 9) (d := 29) rfl rfl (by simp [put_sz, szAz2]) (evn (evn (evn eAz229))))) hs0 ?_
  refine tkG (i := 23) (d := 43) (v := undef) rfl rfl (yg_skip (guard_t (i := 9) (d := 29) rfl rfl (by simp [put_sz, szAz2]) (evn (evn (evn (evn eAz229)))))) hs0 ?_
  refine tkG (i := 24) (d := 44) (v := undef) rfl rfl (yg_skip (guard_t (i := 9) (d := 29) rfl rfl (by simp [put_sz, szAz2]) (evn (evn (evn (evn (evn eAz229))))))) hs0 ?_
  refine tkG (i := 20) (d := 40) (v := undef) rfl rfl (yg_skip (guard_t (i := 9) (d := 29) rfl rfl (by simp [put_sz, szAz2]) (evn (evn (evn (evn (evn (evn eAz229)))))))) hs0 ?_
  refine tkG (i := 25) (d := 45) (v := undef) rfl rfl (yg_skip (guard_t (i := 9) (d := 29) rfl rfl (by simp [put_sz, szAz2]) (evn (evn (evn (evn (evn (evn (evn eAz229))))))))) hs0 ?_
  refine tkG (i := 26) (d := 46) (v := .bool false) rfl rfl (yg_pickF (by simp [Region.wanted]) (.tmp 29) (.tmp 45) (.const (.bool false)) rfl (evn (evn (evn (evn (evn (evn (evn (evn eAz229)))))))) rfl) hs0 ?_
  obtain ⟨Az3, hAz3⟩ : ∃ Az3, Az3 = (((((((((Az2.put (some 38) (undef)).put (some 39) (undef)).put (some 41) (undef)).put (some 42) (undef)).put (some 43) (undef)).put (some 44) (undef)).put (some 40) (undef)).put (some 45) (undef)).put (some 46) (.bool false)) := ⟨_, rfl⟩
  have szAz3 : Az3.tmps.size = 47 := by rw [hAz3]; simp [put_sz, szAz2]
  have eAz346 : Az3.eval (.tmp 46) = .bool false := by rw [hAz3]; exact (ev_eq _ _ (by simp [put_sz, szAz2]))
  rw [← hAz3]
  refine tkG (i := 27) (d := 19) (v := .bool false) rfl rfl (yg_as (by simp [Region.wanted]) (.tmp 46) rfl eAz346) hs0 ?_
  refine wpAnyG_done (by kernel_rfl) ⟨rfl, ?_, hs0.2⟩ _
  show (Az3.put (some 19) (.bool false)) = _
  rw [hAz3, hAz2, hAz1]
set_option maxHeartbeats 1000000 in
theorem rVerify_noAnc {w : World} {B g : Nat} {v : Value} {c : Ch} (h : RAt w B g v c) (ok : ChOk c) (hev : EvOk c.ev) (hba : c.an < c.bn) (hc : c.cnt < 1152921504606846976) :
    Calls Tryd.prog 12 #[.pointer (some ⟨g, 0, none⟩)] w fun e w' => e = .returned (.int .i64 (verE c)) ∧ Below w.heap.size w w' := by
  obtain ⟨a0, cap, rfl⟩ := h.val
  have H := hid h
  have OK := hid ok
  have HE := hid hev
  have h1 : c.an < 1152921504606846976 := by have := ok.anc; unfold Ch.cnt at hc; omega
  have hdec : decide ((c.bn : Int) ≤ (c.an : Int)) = false := by simp; omega
  have h3 : c.ev.length ≤ 1000 := by have := ok.few; omega
  clear h ok hev
  go_enter Tryd.func12, Tryd.ntmps12
  go_wp2_with fail
  obtain ⟨V0, hV0⟩ : ∃ V0, V0 = w.drew := ⟨_, rfl⟩
  have b0 : Below w.heap.size w V0 := by rw [hV0]; exact (Below.refl _ w).drew
  refine wp_act _ fun A hA => ?_
  have sz : A.tmps.size = 47 := by rw [hA]; rfl
  have e0 : A.eval (.tmp 0) = .pointer (some ⟨g, 0, none⟩) := by rw [hA]; rfl
  refine wp_split _ (rVerify_region3 sz e0 hV0 (H.out.below b0) OK.out.l HE.out h3) ?_
  rintro _ V1 ⟨rfl, b1⟩
  rw [hA]
  simp only [Act.put, List.setIfInBounds_toArray, List.set_cons_succ, List.set_cons_zero]
  clear sz e0 hA A hV0
  have B1 : Hid (Below w.heap.size w V1) := b0.trans (b1.mono b0.size)
  have HV : Hid (verE c = if (c.at c.ev.length == c.hd) = false then 15 else 0) := by
    show _ = _
    unfold verE
    have hnb : ¬ c.bn ≤ c.an := by omega
    by_cases q1 : c.at c.ev.length = c.hd
    · simp [q1, hnb]
    · simp [q1]
  clear b0 b1
  by_cases q1 : (c.at c.ev.length == c.hd) = false
  · rw [if_pos q1] at HV
    rw [q1, Bool.not_false]
    clear q1
    go_wp2_with fail
    go_ret
    exact ⟨congrArg (fun x => Ending.returned (.int .i64 x)) HV.out.symm, B1.out⟩
  · rw [Bool.not_eq_false] at q1
    rw [q1, Bool.not_true]
    rw [if_neg (by rw [q1]; simp)] at HV
    clear q1
    go_wp2_with fail
    obtain ⟨V2, hV2⟩ : ∃ V2, V2 = V1.drew := ⟨_, rfl⟩
    have b2 : Below V1.heap.size V1 V2 := by rw [hV2]; exact (Below.refl _ V1).drew
    refine wp_act _ fun A hA => ?_
    have sz : A.tmps.size = 47 := by rw [hA]; rfl
    have e0 : A.eval (.tmp 0) = .pointer (some ⟨g, 0, none⟩) := by rw [hA]; rfl
    refine wp_split _ (rVerify_region5F sz e0 hV2 ⟨(H.out.below B1.out).below b2, Below.refl _ _⟩ hdec) ?_
    rintro _ V3 ⟨rfl, b3⟩
    rw [hA]
    simp only [Act.put, List.setIfInBounds_toArray, List.set_cons_succ, List.set_cons_zero]
    clear sz e0 hA A
    have B3 : Hid (Below w.heap.size w V3) := Below.on' (Below.on' B1.out b2) b3
    clear b2 b3 B1
    go_wp2_with fail
    go_ret
    exact ⟨congrArg (fun x => Ending.returned (.int .i64 x)) HV.out.symm, B3.out⟩
theorem rVerify_all {w : World} {B g : Nat} {v : Value} {c : Ch} (h : RAt w B g v c) (ok : ChOk c) (hev : EvOk c.ev) (hc : c.cnt < 1152921504606846976) :
    Calls Tryd.prog 12 #[.pointer (some ⟨g, 0, none⟩)] w fun e w' => e = .returned (.int .i64 (verE c)) ∧ Below w.heap.size w w' := by
  by_cases hba : c.bn ≤ c.an
  · exact rVerify_any h ok hev hba hc
  · exact rVerify_noAnc h ok hev (by omega) hc
end Go.Proofs.YthfmpebgmojcaaaDoor
/- A deed at both chains, where the chain is any that Load gives back. (Printed by gen/qdo.py.) -/
namespace Go.Proofs.YthfmpebgmojcaaaDoor
open Go.RowKit Go.Shelf
set_option linter.unusedVariables false
set_option maxRecDepth 20000
attribute [local go_sem ↓] loadL_fold storeL_fold loadH_fold storeH_fold buildH_fold
structure Able (c : Ch) (n : Nat) : Prop where
  ok : ChOk c
  cnt : c.cnt ≤ n
theorem Able.mono {c : Ch} {n m : Nat} (h : Able c n) (hm : n ≤ m) : Able c m := ⟨h.ok, Nat.le_trans h.cnt hm⟩
theorem Able.evOk {c : Ch} {n : Nat} (h : Able c n) (hn : n ≤ 1152921504606846976) : EvOk c.ev := fun e he => by
  obtain ⟨i, hi, rfl⟩ := List.mem_iff_getElem.1 he
  have h1 := h.ok.num i hi
  have h2 := h.cnt
  have h3 := h.ok.tim _ he
  have h4 := h.ok.las
  have h5 := h.ok.siz _ he
  unfold Ch.cnt at h2
  exact ⟨by omega, by omega, h5.1, h5.2⟩
theorem Able.step {c : Ch} {n : Nat} (h : Able c n) (q : ADeed) : Able (stepD c q) (n + 1) := by
  unfold stepD
  split
  · exact ⟨addR_ok h.ok _ _ _, Nat.le_trans (addR_cnt c _ _ _) (by have := h.cnt; omega)⟩
  · split
    · exact ⟨ancC_ok h.ok, Nat.le_trans h.cnt (Nat.le_succ _)⟩
    · split
      · exact ⟨pruR_ok h.ok _, by rw [pruR_cnt h.ok]; exact Nat.le_trans h.cnt (Nat.le_succ _)⟩
      · exact h.mono (Nat.le_succ _)
set_option maxHeartbeats 4000000 in
theorem doq_add {w : World} {B g r : Nat} {v u : Value} {c : Ch} {n : Nat} (h : Pair w B g r v u c) (hm : Able c n) (hn : n ≤ 1152921504606000000) (hT : Tabs w B) (hB : B ≤ w.heap.size) (at' nn : Int) (what who : ByteArray) (s1 : what.size ≤ 9223372036854775807) (s2 : who.size ≤ 9223372036854775807) :
    Calls Tryd.prog 13 #[.pointer (some ⟨g, 0, none⟩), .pointer (some ⟨r, 0, none⟩), .agg #[.int .i64 0, .int .i64 at', .int .i64 nn, .string what, .string who]] w (DoPostF w B g r v c ⟨0, at', nn, what, who⟩) := by
  obtain ⟨W0, hW0⟩ : ∃ W0, W0 = w.alloc (.cells #[.int .i64 0, .int .i64 at', .int .i64 nn, .string what, .string who] 37) := ⟨_, rfl⟩
  have b0 : Below w.heap.size w W0 := by rw [hW0]; exact (Below.refl _ w).alloc (Nat.le_refl _) _
  have d0 : W0.heap[w.heap.size]? = some (.cells #[.int .i64 0, .int .i64 at', .int .i64 nn, .string what, .string who] 37 (0, 0)) := by rw [hW0]; exact heap_alloc_new w _
  have H0 := h.below b0
  have T0 := hT.below hB b0
  have hB0 := Nat.le_trans hB b0.size
  have hcn : c.cnt < 1152921504606846976 := by have := hm.cnt; omega
  have hNg : w.heap.size ≠ g := by have := h.ch.lt; omega
  have hNr : w.heap.size ≠ r := by have := h.rf.lt; omega
  have hNv : ¬ CBlk g v w.heap.size := fun x => by
    rcases x with x | x
    · exact hNg x
    · have := (h.ch.lts _ x).2; omega
  have HW := hid hW0
  have M := hid hm
  have Hev := hid (hm.evOk (by omega))
  have hstep : Hid (stepD c ⟨0, at', nn, what, who⟩ = addR c at' what who) := rfl
  have C1 := hid (add_any H0.ch hm.ok hcn hB0 at' what who s1 s2 T0)
  obtain ⟨p, q, ra, rb, hev⟩ : ∃ p q ra rb, addEv c at' what who = ⟨p, q, ra, rb⟩ := ⟨_, _, _, _, rfl⟩
  have hev' : (eVals (addEv c at' what who)).toArray = #[.int .i64 (p : Int), .int .i64 (q : Int), .string ra, .string rb] := by rw [hev]; rfl
  obtain ⟨er, her⟩ : ∃ er, er = addE c at' what who := ⟨_, rfl⟩
  unfold AddPost at C1
  rw [hev', ← her] at C1
  have HevE := hid hev'
  have Her := hid her
  have D0 := hid d0
  have HH0 := hid H0
  have HB0 := hid b0
  have Hh := hid h
  clear hW0 hm hev hev' her d0 H0 T0 b0 h hT
  go_enter Tryd.func13, Tryd.ntmps13
  go_wp2_with fail
  rw [show w.alloc (.cells #[.int .i64 0, .int .i64 at', .int .i64 nn, .string what, .string who] 37) = W0 from HW.out.symm]
  refine C1.out.mono ?_
  rintro _ w1 ⟨v1, rfl, h1, o1, gr1⟩
  have hm1 := HH0.out.mid h1 o1 gr1
  have d1 : w1.heap[w.heap.size]? = some (.cells #[.int .i64 0, .int .i64 at', .int .i64 nn, .string what, .string who] 37 (0, 0)) := (o1.block _ (heap_lt D0.out) hNv).trans D0.out
  have bb1 : Below B W0 w1 := o1.below hB0 HH0.out.ch.blk
  obtain ⟨w1a, hw1a⟩ : ∃ W, W = w1.alloc (.cells #[.int .i64 (p : Int), .int .i64 (q : Int), .string ra, .string rb] 55) := ⟨_, rfl⟩
  have b1a : Below w1.heap.size w1 w1a := by rw [hw1a]; exact (Below.refl _ w1).alloc (Nat.le_refl _) _
  have x1 : w1a.heap[w1.heap.size]? = some (.cells #[.int .i64 (p : Int), .int .i64 (q : Int), .string ra, .string rb] 55 (0, 0)) := by rw [hw1a]; exact heap_alloc_new w1 _
  have d1a := (b1a.block _ (heap_lt d1)).trans d1
  have k1 : w1a.cell? ⟨w.heap.size, 1, none⟩ = some (.int .i64 at') := cell_of_row _ _ 1 _ _ _ d1a
  have k3 : w1a.cell? ⟨w.heap.size, 3, none⟩ = some (.string what) := cell_of_row _ _ 3 _ _ _ d1a
  have k4 : w1a.cell? ⟨w.heap.size, 4, none⟩ = some (.string who) := cell_of_row _ _ 4 _ _ _ d1a
  have hB1 : B ≤ w1.heap.size := Nat.le_trans hB0 bb1.size
  have C2 := hid (rAdd_any (hm1.1.below b1a) M.out.ok hcn (Nat.le_trans hB1 b1a.size) at' what who s1 s2)
  unfold RAddPost at C2
  rw [HevE.out, ← Her.out] at C2
  have Hm1 := hid hm1
  have H1 := hid h1
  have BB1 := hid bb1
  have B1a := hid b1a
  have X1 := hid x1
  have HW1 := hid hw1a
  have O1 := hid o1
  have GR1 := hid gr1
  rw [hw1a] at k1 k3 k4
  clear h1 o1 gr1 hm1 d1 d1a bb1 b1a x1 hw1a C1
  go_wp2_with fail
  rw [show w1.alloc (.cells #[.int .i64 (p : Int), .int .i64 (q : Int), .string ra, .string rb] 55) = w1a from HW1.out.symm]
  refine C2.out.mono ?_
  rintro _ w2 ⟨u2, rfl, h2, o2, gr2⟩
  have hpair := pair_end (H1.out.below B1a.out) (Hm1.out.1.below B1a.out) Hm1.out.2 h2 o2 gr2
  have hE1r : w1.heap.size ≠ r := by have := Hm1.out.1.lt; omega
  have x2 := (o2.block _ (heap_lt X1.out) hE1r).trans X1.out
  have hr := Hm1.out.1.bg
  have bb2 : Below B w1a w2 := o2.below (Nat.le_trans hB1 B1a.out.size) (fun k hk => by rw [hk]; exact hr)
  obtain ⟨w3, hw3⟩ : ∃ W, W = w2.alloc (.cells #[.int .i64 (p : Int), .int .i64 (q : Int), .string ra, .string rb] 55) := ⟨_, rfl⟩
  have b3 : Below w2.heap.size w2 w3 := by rw [hw3]; exact (Below.refl _ w2).alloc (Nat.le_refl _) _
  have y1 := (b3.block _ (heap_lt x2)).trans x2
  have z0 : w3.cell? ⟨w1.heap.size, 0, none⟩ = some (.int .i64 (p : Int)) := cell_of_row _ _ 0 _ _ _ y1
  have z1 : w3.cell? ⟨w1.heap.size, 1, none⟩ = some (.int .i64 (q : Int)) := cell_of_row _ _ 1 _ _ _ y1
  have z2 : w3.cell? ⟨w1.heap.size, 2, none⟩ = some (.string ra) := cell_of_row _ _ 2 _ _ _ y1
  have z3 : w3.cell? ⟨w1.heap.size, 3, none⟩ = some (.string rb) := cell_of_row _ _ 3 _ _ _ y1
  have hfin : Hid (DoPostF w B g r v c ⟨0, at', nn, what, who⟩ (.returned (.bool true)) w3) := ⟨rfl, ⟨v1, u2, by rw [hstep.out]; exact hpair.below b3, fun k hk => (GR1.out k hk).imp id (fun x => Nat.le_trans HB0.out.size x)⟩, ((((HB0.out.mono hB).trans BB1.out).trans (B1a.out.mono hB1)).trans bb2).trans (b3.mono (Nat.le_trans (Nat.le_trans hB1 B1a.out.size) bb2.size)), do_out HB0.out O1.out B1a.out o2 b3⟩
  rw [hw3] at z0 z1 z2 z3 hfin
  clear h2 o2 gr2 hpair y1 x2 bb2 b3 hw3 C2 H1 Hm1 BB1 B1a X1 HW1 k1 k3 k4 hE1r hr
  go_wp2
  go_ret
  exact hfin.out
set_option maxHeartbeats 4000000 in
theorem doq_pru {w : World} {B g r : Nat} {v u : Value} {c : Ch} {n : Nat} (h : Pair w B g r v u c) (hm : Able c n) (hn : n ≤ 1152921504606000000) (hT : Tabs w B) (hB : B ≤ w.heap.size) (at' nn : Int) (what who : ByteArray) :
    Calls Tryd.prog 13 #[.pointer (some ⟨g, 0, none⟩), .pointer (some ⟨r, 0, none⟩), .agg #[.int .i64 2, .int .i64 at', .int .i64 nn, .string what, .string who]] w (DoPostF w B g r v c ⟨2, at', nn, what, who⟩) := by
  obtain ⟨W0, hW0⟩ : ∃ W0, W0 = w.alloc (.cells #[.int .i64 2, .int .i64 at', .int .i64 nn, .string what, .string who] 37) := ⟨_, rfl⟩
  have b0 : Below w.heap.size w W0 := by rw [hW0]; exact (Below.refl _ w).alloc (Nat.le_refl _) _
  have d0 : W0.heap[w.heap.size]? = some (.cells #[.int .i64 2, .int .i64 at', .int .i64 nn, .string what, .string who] 37 (0, 0)) := by rw [hW0]; exact heap_alloc_new w _
  have H0 := h.below b0
  have T0 := hT.below hB b0
  have hB0 := Nat.le_trans hB b0.size
  have hcn : c.cnt < 1152921504606846976 := by have := hm.cnt; omega
  have hNg : w.heap.size ≠ g := by have := h.ch.lt; omega
  have hNr : w.heap.size ≠ r := by have := h.rf.lt; omega
  have hNv : ¬ CBlk g v w.heap.size := fun x => by
    rcases x with x | x
    · exact hNg x
    · have := (h.ch.lts _ x).2; omega
  have HW := hid hW0
  have M := hid hm
  have Hev := hid (hm.evOk (by omega))
  have hstep : Hid (stepD c ⟨2, at', nn, what, who⟩ = pruR c nn) := rfl
  have C1 := hid (prune_any H0.ch hm.ok hcn T0 hB0 nn)
  unfold PruPost at C1
  obtain ⟨pn, hpn⟩ : ∃ pn, pn = pruN c nn := ⟨_, rfl⟩
  obtain ⟨pe, hpe⟩ : ∃ pe, pe = pruE c nn := ⟨_, rfl⟩
  rw [← hpn, ← hpe] at C1
  have Hpn := hid hpn
  have Hpe := hid hpe
  have D0 := hid d0
  have HH0 := hid H0
  have HB0 := hid b0
  have Hh := hid h
  clear hW0 hm hpn hpe d0 H0 T0 b0 h hT
  go_enter Tryd.func13, Tryd.ntmps13
  go_wp2_with fail
  rw [show w.alloc (.cells #[.int .i64 2, .int .i64 at', .int .i64 nn, .string what, .string who] 37) = W0 from HW.out.symm]
  refine C1.out.mono ?_
  rintro _ w1 ⟨v1, rfl, h1, o1, gr1⟩
  have hm1 := HH0.out.mid h1 o1 gr1
  have d1 : w1.heap[w.heap.size]? = some (.cells #[.int .i64 2, .int .i64 at', .int .i64 nn, .string what, .string who] 37 (0, 0)) := (o1.block _ (heap_lt D0.out) hNv).trans D0.out
  have bb1 : Below B W0 w1 := o1.below hB0 HH0.out.ch.blk
  have k2 : w1.cell? ⟨w.heap.size, 2, none⟩ = some (.int .i64 nn) := cell_of_row _ _ 2 _ _ _ d1
  have hB1 : B ≤ w1.heap.size := Nat.le_trans hB0 bb1.size
  have C2 := hid (rPrune_any hm1.1 M.out.ok Hev.out hcn hB1 nn)
  unfold RPruPost at C2
  rw [← Hpn.out, ← Hpe.out] at C2
  have Hm1 := hid hm1
  have H1 := hid h1
  have BB1 := hid bb1
  have O1 := hid o1
  have GR1 := hid gr1
  clear h1 o1 gr1 hm1 d1 bb1 C1
  go_wp2_with fail
  refine C2.out.mono ?_
  rintro _ w2 ⟨u2, rfl, h2, o2, gr2⟩
  have hpair := pair_end H1.out Hm1.out.1 Hm1.out.2 h2 o2 gr2
  have hr := Hm1.out.1.bg
  have bb2 : Below B w1 w2 := o2.below hB1 (fun k hk => by rw [hk]; exact hr)
  have hfin : Hid (DoPostF w B g r v c ⟨2, at', nn, what, who⟩ (.returned (.bool true)) w2) := ⟨rfl, ⟨v1, u2, by rw [hstep.out]; exact hpair, fun k hk => (GR1.out k hk).imp id (fun x => Nat.le_trans HB0.out.size x)⟩, ((HB0.out.mono hB).trans BB1.out).trans bb2, do_out HB0.out O1.out (Below.refl _ _) o2 (Below.refl _ _)⟩
  clear h2 o2 gr2 hpair bb2 C2 H1 Hm1 BB1 k2 hr
  go_wp2
  go_ret
  exact hfin.out
set_option maxHeartbeats 4000000 in
theorem doq_ver {w : World} {B g r : Nat} {v u : Value} {c : Ch} {n : Nat} (h : Pair w B g r v u c) (hm : Able c n) (hn : n ≤ 1152921504606000000) (hT : Tabs w B) (hB : B ≤ w.heap.size) (kd at' nn : Int) (what who : ByteArray) (n0 : kd ≠ 0) (n1 : kd ≠ 1) (n2 : kd ≠ 2) :
    Calls Tryd.prog 13 #[.pointer (some ⟨g, 0, none⟩), .pointer (some ⟨r, 0, none⟩), .agg #[.int .i64 kd, .int .i64 at', .int .i64 nn, .string what, .string who]] w (DoPostF w B g r v c ⟨kd, at', nn, what, who⟩) := by
  obtain ⟨W0, hW0⟩ : ∃ W0, W0 = w.alloc (.cells #[.int .i64 kd, .int .i64 at', .int .i64 nn, .string what, .string who] 37) := ⟨_, rfl⟩
  have b0 : Below w.heap.size w W0 := by rw [hW0]; exact (Below.refl _ w).alloc (Nat.le_refl _) _
  have d0 : W0.heap[w.heap.size]? = some (.cells #[.int .i64 kd, .int .i64 at', .int .i64 nn, .string what, .string who] 37 (0, 0)) := by rw [hW0]; exact heap_alloc_new w _
  have H0 := h.below b0
  have T0 := hT.below hB b0
  have hB0 := Nat.le_trans hB b0.size
  have hcn : c.cnt < 1152921504606846976 := by have := hm.cnt; omega
  have hNg : w.heap.size ≠ g := by have := h.ch.lt; omega
  have hNr : w.heap.size ≠ r := by have := h.rf.lt; omega
  have hNv : ¬ CBlk g v w.heap.size := fun x => by
    rcases x with x | x
    · exact hNg x
    · have := (h.ch.lts _ x).2; omega
  have HW := hid hW0
  have M := hid hm
  have Hev := hid (hm.evOk (by omega))
  have hstep : Hid (stepD c ⟨kd, at', nn, what, who⟩ = c) := by
    show _ = _
    unfold stepD
    rw [if_neg n0, if_neg n1, if_neg n2]
  have C1 := hid (verify_any H0.ch hm.ok hcn T0 hB0)
  obtain ⟨ve, hve⟩ : ∃ ve, ve = verE c := ⟨_, rfl⟩
  rw [← hve] at C1
  have Hve := hid hve
  have HH0 := hid H0
  have HB0 := hid b0
  have m0 : (kd == 0) = false := by simpa using n0
  have m1 : (kd == 1) = false := by simpa using n1
  have m2 : (kd == 2) = false := by simpa using n2
  clear hW0 hm hve d0 H0 T0 b0 h hT n0 n1 n2
  go_enter Tryd.func13, Tryd.ntmps13
  go_wp2_with fail
  rw [show w.alloc (.cells #[.int .i64 kd, .int .i64 at', .int .i64 nn, .string what, .string who] 37) = W0 from HW.out.symm]
  refine C1.out.mono ?_
  rintro _ w1 ⟨rfl, b1⟩
  have H1 := HH0.out.below b1
  have C2 := hid (rVerify_all H1.rf M.out.ok Hev.out hcn)
  rw [← Hve.out] at C2
  have Hp := hid H1
  have B1 := hid b1
  clear H1 b1 C1
  go_wp2_with fail
  refine C2.out.mono ?_
  rintro _ w2 ⟨rfl, b2⟩
  have hfin : Hid (DoPostF w B g r v c ⟨kd, at', nn, what, who⟩ (.returned (.bool true)) w2) := ⟨rfl, ⟨v, u, by rw [hstep.out]; exact Hp.out.below b2, fun k hk => .inl hk⟩, (Below.on' (Below.on' HB0.out B1.out) b2).mono hB, Out.of_below (Below.on' (Below.on' HB0.out B1.out) b2)⟩
  clear b2 C2
  go_wp2
  go_ret
  exact hfin.out
set_option maxHeartbeats 4000000 in
theorem doq_anc {w : World} {B g r : Nat} {v u : Value} {c : Ch} {n : Nat} (h : Pair w B g r v u c) (hm : Able c n) (hn : n ≤ 1152921504606000000) (hT : Tabs w B) (hB : B ≤ w.heap.size) (at' nn : Int) (what who : ByteArray) :
    Calls Tryd.prog 13 #[.pointer (some ⟨g, 0, none⟩), .pointer (some ⟨r, 0, none⟩), .agg #[.int .i64 1, .int .i64 at', .int .i64 nn, .string what, .string who]] w (DoPostF w B g r v c ⟨1, at', nn, what, who⟩) := by
  obtain ⟨W0, hW0⟩ : ∃ W0, W0 = w.alloc (.cells #[.int .i64 1, .int .i64 at', .int .i64 nn, .string what, .string who] 37) := ⟨_, rfl⟩
  have b0 : Below w.heap.size w W0 := by rw [hW0]; exact (Below.refl _ w).alloc (Nat.le_refl _) _
  have d0 : W0.heap[w.heap.size]? = some (.cells #[.int .i64 1, .int .i64 at', .int .i64 nn, .string what, .string who] 37 (0, 0)) := by rw [hW0]; exact heap_alloc_new w _
  have H0 := h.below b0
  have T0 := hT.below hB b0
  have hB0 := Nat.le_trans hB b0.size
  have hcn : c.cnt < 1152921504606846976 := by have := hm.cnt; omega
  have hNg : w.heap.size ≠ g := by have := h.ch.lt; omega
  have hNr : w.heap.size ≠ r := by have := h.rf.lt; omega
  have hNv : ¬ CBlk g v w.heap.size := fun x => by
    rcases x with x | x
    · exact hNg x
    · have := (h.ch.lts _ x).2; omega
  have HW := hid hW0
  have M := hid hm
  have Hev := hid (hm.evOk (by omega))
  have hstep : Hid (stepD c ⟨1, at', nn, what, who⟩ = ancC c) := rfl
  have C1 := hid (anchor_any H0.ch hm.ok hcn)
  obtain ⟨Z, hZ⟩ : ∃ Z, Z = bvs zero32 := ⟨_, rfl⟩
  have zh := (zero_of_info zero_hash).1
  rw [show bvs (List.replicate 32 0) = Z from hZ.symm] at zh
  have HZ := hid hZ
  obtain ⟨O, hO⟩ : ∃ O, O = bvs c.hd := ⟨_, rfl⟩
  have hlh := hm.ok.lh
  obtain ⟨m, hmm⟩ : ∃ m, m = c.cnt := ⟨_, rfl⟩
  rw [← hO, ← hmm] at C1
  have HO := hid hO
  have Hmm := hid hmm
  have hSt : ∀ W : World, (storeH (.pointer (some ⟨W.heap.size, 0, none⟩)) (.agg O)).run Tryd.prog (W.alloc (.cells Z 69)) = .ok () (W.alloc (.cells O 69)) := fun W => by
    have := storeH_new W c.hd zero32 hlh (by decide)
    rw [← hO, show bvs zero32 = Z from hZ.symm] at this
    exact this
  have heq : ∀ W, (Op.equalIn 10000 69 (.agg O) (.agg O)).run Tryd.prog W = .ok true W := fun W => by
    rw [hO, hash_eq (a := c.hd) (b := c.hd) ⟨rfl, hlh⟩ ⟨rfl, hlh⟩]
    simp
  have HH0 := hid H0
  have HB0 := hid b0
  clear hW0 hm hZ hO hmm d0 H0 T0 b0 h hT
  go_enter Tryd.func13, Tryd.ntmps13
  go_wp2_with fail
  rw [show w.alloc (.cells #[.int .i64 1, .int .i64 at', .int .i64 nn, .string what, .string who] 37) = W0 from HW.out.symm]
  refine C1.out.mono ?_
  rintro _ w1 ⟨rfl, h1, o1⟩
  have hm1 := HH0.out.mid h1 (o1.imp (fun _ _ x => .inl x)) (fun k hk => .inl hk)
  have bb1 : Below B W0 w1 := o1.below hB0 (fun k hk => by rw [hk]; exact HH0.out.ch.bg)
  obtain ⟨w1a, hw1a⟩ : ∃ W, W = w1.alloc (.cells O 69) := ⟨_, rfl⟩
  have b1a : Below w1.heap.size w1 w1a := by rw [hw1a]; exact (Below.refl _ w1).alloc (Nat.le_refl _) _
  have x1 : w1a.heap[w1.heap.size]? = some (.cells O 69 (0, 0)) := by rw [hw1a]; exact heap_alloc_new w1 _
  have hB1 : B ≤ w1.heap.size := Nat.le_trans hB0 bb1.size
  have C2 := hid (rAnchor_any (hm1.1.below b1a) M.out.ok hcn)
  rw [← HO.out, ← Hmm.out] at C2
  have Hm1 := hid hm1
  have H1 := hid h1
  have BB1 := hid bb1
  have B1a := hid b1a
  have X1 := hid x1
  have HW1 := hid hw1a
  have O1 := hid o1
  clear h1 o1 hm1 bb1 b1a x1 hw1a C1
  go_wp2_with fail
  rw [show w1.alloc (.cells O 69) = w1a from HW1.out.symm]
  refine C2.out.mono ?_
  rintro _ w2 ⟨rfl, h2, o2⟩
  have hpair := pair_end (H1.out.below B1a.out) (Hm1.out.1.below B1a.out) Hm1.out.2 h2 o2 (fun k hk => .inl hk)
  have hE1r : w1.heap.size ≠ r := by have := Hm1.out.1.lt; omega
  have x2 := (o2.block _ (heap_lt X1.out) hE1r).trans X1.out
  have hr := Hm1.out.1.bg
  have bb2 : Below B w1a w2 := o2.below (Nat.le_trans hB1 B1a.out.size) (fun k hk => by rw [hk]; exact hr)
  obtain ⟨w3, hw3⟩ : ∃ W, W = w2.alloc (.cells O 69) := ⟨_, rfl⟩
  have b3 : Below w2.heap.size w2 w3 := by rw [hw3]; exact (Below.refl _ w2).alloc (Nat.le_refl _) _
  have y1 := (b3.block _ (heap_lt x2)).trans x2
  have y2 : w3.heap[w2.heap.size]? = some (.cells O 69 (0, 0)) := by rw [hw3]; exact heap_alloc_new w2 _
  have hL1 : (loadH (.pointer (some ⟨w1.heap.size, 0, none⟩))).run Tryd.prog w3 = .ok (.agg O) w3 := loadH_run (l := c.hd) ⟨HO.out, hlh⟩ y1
  have hL2 : (loadH (.pointer (some ⟨w2.heap.size, 0, none⟩))).run Tryd.prog w3 = .ok (.agg O) w3 := loadH_run (l := c.hd) ⟨HO.out, hlh⟩ y2
  have hfin : Hid (DoPostF w B g r v c ⟨1, at', nn, what, who⟩ (.returned (.bool true)) w3) := ⟨rfl, ⟨v, u, by rw [hstep.out]; exact hpair.below b3, fun k hk => .inl hk⟩, ((((HB0.out.mono hB).trans BB1.out).trans (B1a.out.mono hB1)).trans bb2).trans (b3.mono (Nat.le_trans (Nat.le_trans hB1 B1a.out.size) bb2.size)), do_out (v := v) HB0.out (O1.out.imp (fun _ _ x => .inl x)) B1a.out o2 b3⟩
  rw [hw3] at hL1 hL2 hfin
  clear h2 o2 hpair y1 y2 x2 bb2 b3 hw3 C2 H1 Hm1 BB1 B1a X1 HW1 hE1r hr
  go_wp2
  go_ret
  exact hfin.out
theorem doq_frame {w : World} {B g r : Nat} {v u : Value} {c : Ch} {n : Nat} (h : Pair w B g r v u c) (hm : Able c n) (hn : n ≤ 1152921504606000000) (hT : Tabs w B) (hB : B ≤ w.heap.size) (q : ADeed) (s1 : q.what.size ≤ 9223372036854775807) (s2 : q.who.size ≤ 9223372036854775807) :
    Calls Tryd.prog 13 #[.pointer (some ⟨g, 0, none⟩), .pointer (some ⟨r, 0, none⟩), .agg q.vals.toArray] w (DoPostF w B g r v c q) := by
  obtain ⟨kd, at', nn, what, who⟩ := q
  by_cases h0 : kd = 0
  · subst h0; exact doq_add h hm hn hT hB at' nn what who s1 s2
  · by_cases h1 : kd = 1
    · subst h1; exact doq_anc h hm hn hT hB at' nn what who
    · by_cases h2 : kd = 2
      · subst h2; exact doq_pru h hm hn hT hB at' nn what who
      · exact doq_ver h hm hn hT hB kd at' nn what who h0 h1 h2
theorem doq_any {w : World} {B g r : Nat} {v u : Value} {c : Ch} {n : Nat} (h : Pair w B g r v u c) (hm : Able c n) (hn : n ≤ 1152921504606000000) (hT : Tabs w B) (hB : B ≤ w.heap.size) (q : ADeed) (s1 : q.what.size ≤ 9223372036854775807) (s2 : q.who.size ≤ 9223372036854775807) :
    Calls Tryd.prog 13 #[.pointer (some ⟨g, 0, none⟩), .pointer (some ⟨r, 0, none⟩), .agg q.vals.toArray] w (DoPost w B g r c q) :=
  (doq_frame h hm hn hT hB q s1 s2).mono fun _ _ h => h.do'
end Go.Proofs.YthfmpebgmojcaaaDoor
