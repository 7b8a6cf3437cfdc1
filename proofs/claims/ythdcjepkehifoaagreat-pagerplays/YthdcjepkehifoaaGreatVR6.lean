/- The regions of Pin of the reference's cache that append. -/
import Derived.Test.YthdcjepkehifoaaGreatVR5
namespace Go.Proofs.YthdcjepkehifoaaGreat
open Go.RowKit Go.Maps Go.Sort Go.Shelf
set_option linter.unusedVariables false
set_option maxRecDepth 20000
theorem put_comm (a : Act) {d e : Nat} (h : d ≠ e) (u v : Value) : (a.put (some d) u).put (some e) v = (a.put (some e) v).put (some d) u := by
  simp only [Act.put]
  rw [Array.setIfInBounds_comm _ _ h]
theorem wp_buildI {o : Oper} {a : Act} {w : World} {K : Act → World → Prop} {Q : Exit → Act → World → Prop} (x : Operand) (ho : o.op = .buildSlice 30 1 #[(0, x)]) (n : Int) (h0 : a.eval x = .int .i64 n)
    (h : K (a.put o.dst (.slice (some ⟨w.heap.size, 0, none⟩) 1 1)) (w.alloc (.cells #[.int .i64 n] 3))) : o.wp Tryz.prog a w K Q := by
  unfold Oper.wp execOp
  simp only [ho, List.map_toArray, List.map_cons, List.map_nil, h0]
  simp [go_sem]
  exact h
noncomputable def codeRPin (n : Nat) : Code := ((Tryz.f112.body.bind (regionAt n)).getD .skip)
set_option maxHeartbeats 2000000 in
theorem pin_region15 {V0 W5 : World} {b o k Z c NL pk x : Nat} {pa : Option Addr} {l : List Nat} {A : Act} (sz : A.tmps.size = 105) (e1 : A.eval (.tmp 1) = .slice (some ⟨b, o, none⟩) Z c) (e6 : A.eval (.tmp 6) = .slice pa NL pk) (e7 : A.eval (.tmp 7) = .int .i64 (k : Int)) (hV0 : V0 = W5.drew) (hNL : NL = l.length) (hk : k < Z) (hx : V0.cell? ⟨b, o + k, none⟩ = some (.int .i64 (x : Int))) (hnum : Nums V0 pa l) (hl : l.length ≤ 1000) :
    (codeRPin 15).wp Tryz.prog (fun x' a V => x' = .normal ∧ ∃ u1 u2 v3, a = (((((((((((((A.put (some 56) (.slice pa NL pk)).put (some 57) (.slice (some ⟨b, o, none⟩) Z c)).put (some 58) (.int .i64 (k : Int))).put (some 59) (.pointer (some ⟨b, o + k, none⟩))).put (some 60) (.int .i64 (x : Int))).put (some 62) (.slice (some ⟨b, o, none⟩) Z c)).put (some 63) (.int .i64 (k : Int))).put (some 64) (.pointer (some ⟨b, o + k, none⟩))).put (some 65) (.int .i64 (x : Int))).put (some 61) (u1)).put (some 66) (u2)).put (some 67) (v3)).put (some 6) (v3)) ∧ V.ownsRow V0.heap.size 3 1 v3 (rPush l x).length (natCells (rPush l x)) ∧ Below V0.heap.size V0 V) A W5 := by
  have hm : Tryz.prog.follows .mixedOrders = true := by kernel_rfl
  obtain ⟨i0, hi0, hz0, hz1, hz2⟩ := info_parts Tryz.infoInt
  have hk1 : (0 : Int) ≤ (k : Int) := by omega
  have hk2 : (k : Int) < (Z : Int) := by omega
  have hfl : (l.filter (fun y => y != x)).length ≤ 1000 := Nat.le_trans (List.length_filter_le _ _) hl
  have hrow : ∀ (V : World) (v : Value), V.ownsRow V0.heap.size 3 1 v ((l.filter (fun y => y != x)).length + 1) (natCells (l.filter (fun y => y != x)) ++ [.int .i64 (x : Int)]) = V.ownsRow V0.heap.size 3 1 v (rPush l x).length (natCells (rPush l x)) := fun V v => by
    unfold rPush natCells
    rw [List.map_append, List.length_append, List.length_singleton]
    rfl
  have hwo : ∀ V : World, Below V0.heap.size V0 V → Calls Tryz.prog 151 #[.slice pa NL pk, .int .i64 (x : Int)] V fun e w' => ∃ v, e = .returned v ∧ w'.ownsRow V.heap.size 3 1 v (l.filter (fun y => y != x)).length (natCells (l.filter fun y => y != x)) ∧ Below V.heap.size V w' := fun V hV => by
    subst hNL
    exact rwithout_any V pa l pk (fun i hi => by obtain ⟨b', o', e, hc⟩ := hnum i hi; exact ⟨b', o', e, (hV.cell (World.block_lt_of_cell? _ _ hc)).trans hc⟩) hl x
  have hs0 := hx
  have keepS : ∀ {V V' : World}, V.cell? ⟨b, o + k, none⟩ = some (.int .i64 (x : Int)) → Below V.heap.size V V' → V'.cell? ⟨b, o + k, none⟩ = some (.int .i64 (x : Int)) := fun h hb => (hb.cell (World.block_lt_of_cell? _ _ h)).trans h
  unfold codeRPin
  conv => arg 2; whnf
  refine wp_region_G (fun _ => false) (fun V => V.cell? ⟨b, o + k, none⟩ = some (.int .i64 (x : Int))) hm ?_
  rw [show ({ W5 with drawn := W5.drawn + 1 } : World) = V0 from hV0.symm]
  refine wpAnyG_take (i := 0) (v := .slice pa NL pk) rfl (by kernel_rfl) (by kernel_rfl) (by kernel_rfl) (fun _ _ _ h => nomatch h.1) (yg_mv (by simp [Region.wanted]) (.tmp 6) rfl e6) hs0 ?_
  show wpAnyG _ _ _ _ _ _ _ _ (A.put (some 56) (.slice pa NL pk)) _
  refine wpAnyG_take (i := 1) (v := .slice (some ⟨b, o, none⟩) Z c) rfl (by kernel_rfl) (by kernel_rfl) (by kernel_rfl) (fun _ _ _ h => nomatch h.1) (yg_mv (by simp [Region.wanted]) (.tmp 1) rfl ((ev_ne _ _ (by decide)).trans e1)) hs0 ?_
  show wpAnyG _ _ _ _ _ _ _ _ ((A.put (some 56) (.slice pa NL pk)).put (some 57) (.slice (some ⟨b, o, none⟩) Z c)) _
  refine wpAnyG_take (i := 2) (v := .int .i64 (k : Int)) rfl (by kernel_rfl) (by kernel_rfl) (by kernel_rfl) (fun _ _ _ h => nomatch h.1) (yg_mv (by simp [Region.wanted]) (.tmp 7) rfl ((ev_ne _ _ (by decide)).trans ((ev_ne _ _ (by decide)).trans e7))) hs0 ?_
  show wpAnyG _ _ _ _ _ _ _ _ (((A.put (some 56) (.slice pa NL pk)).put (some 57) (.slice (some ⟨b, o, none⟩) Z c)).put (some 58) (.int .i64 (k : Int))) _
  refine wpAnyG_take (i := 3) (v := .pointer (some ⟨b, o + k, none⟩)) rfl (by kernel_rfl) (by kernel_rfl) (by kernel_rfl) (fun _ _ _ h => nomatch h.1) (yg_ix (by simp [Region.wanted]) (.tmp 57) (.tmp 58) rfl ((ev_ne _ _ (by decide)).trans (ev_eq _ _ (by simp [put_sz, sz]))) (ev_eq _ _ (by simp [put_sz, sz])) (fun w => by simp [go_sem, hk1, hk2])) hs0 ?_
  show wpAnyG _ _ _ _ _ _ _ _ ((((A.put (some 56) (.slice pa NL pk)).put (some 57) (.slice (some ⟨b, o, none⟩) Z c)).put (some 58) (.int .i64 (k : Int))).put (some 59) (.pointer (some ⟨b, o + k, none⟩))) _
  refine wpAnyG_take (i := 4) (v := .int .i64 (x : Int)) rfl (by kernel_rfl) (by kernel_rfl) (by kernel_rfl) (fun _ _ _ h => nomatch h.1) (yg_ld (by simp [Region.wanted]) (.tmp 59) rfl (ev_eq _ _ (by simp [put_sz, sz])) (fun w hw => by have h1 := hw; simp [go_sem, h1])) hs0 ?_
  show wpAnyG _ _ _ _ _ _ _ _ (((((A.put (some 56) (.slice pa NL pk)).put (some 57) (.slice (some ⟨b, o, none⟩) Z c)).put (some 58) (.int .i64 (k : Int))).put (some 59) (.pointer (some ⟨b, o + k, none⟩))).put (some 60) (.int .i64 (x : Int))) _
  refine wpAnyG_take (i := 6) (v := .slice (some ⟨b, o, none⟩) Z c) rfl (by kernel_rfl) (by kernel_rfl) (by kernel_rfl) (fun _ _ _ h => nomatch h.1) (yg_mv (by simp [Region.wanted]) (.tmp 1) rfl ((ev_ne _ _ (by decide)).trans ((ev_ne _ _ (by decide)).trans ((ev_ne _ _ (by decide)).trans ((ev_ne _ _ (by decide)).trans ((ev_ne _ _ (by decide)).trans e1)))))) hs0 ?_
  show wpAnyG _ _ _ _ _ _ _ _ ((((((A.put (some 56) (.slice pa NL pk)).put (some 57) (.slice (some ⟨b, o, none⟩) Z c)).put (some 58) (.int .i64 (k : Int))).put (some 59) (.pointer (some ⟨b, o + k, none⟩))).put (some 60) (.int .i64 (x : Int))).put (some 62) (.slice (some ⟨b, o, none⟩) Z c)) _
  refine wpAnyG_take (i := 7) (v := .int .i64 (k : Int)) rfl (by kernel_rfl) (by kernel_rfl) (by kernel_rfl) (fun _ _ _ h => nomatch h.1) (yg_mv (by simp [Region.wanted]) (.tmp 7) rfl ((ev_ne _ _ (by decide)).trans ((ev_ne _ _ (by decide)).trans ((ev_ne _ _ (by decide)).trans ((ev_ne _ _ (by decide)).trans ((ev_ne _ _ (by decide)).trans ((ev_ne _ _ (by decide)).trans e7))))))) hs0 ?_
  show wpAnyG _ _ _ _ _ _ _ _ (((((((A.put (some 56) (.slice pa NL pk)).put (some 57) (.slice (some ⟨b, o, none⟩) Z c)).put (some 58) (.int .i64 (k : Int))).put (some 59) (.pointer (some ⟨b, o + k, none⟩))).put (some 60) (.int .i64 (x : Int))).put (some 62) (.slice (some ⟨b, o, none⟩) Z c)).put (some 63) (.int .i64 (k : Int))) _
  obtain ⟨Az1, hAz1⟩ : ∃ Az1, Az1 = (((((((A.put (some 56) (.slice pa NL pk)).put (some 57) (.slice (some ⟨b, o, none⟩) Z c)).put (some 58) (.int .i64 (k : Int))).put (some 59) (.pointer (some ⟨b, o + k, none⟩))).put (some 60) (.int .i64 (x : Int))).put (some 62) (.slice (some ⟨b, o, none⟩) Z c)).put (some 63) (.int .i64 (k : Int))) := ⟨_, rfl⟩
  have szAz1 : Az1.tmps.size = 105 := by rw [hAz1]; simp [put_sz, sz]
  have eAz156 : Az1.eval (.tmp 56) = .slice pa NL pk := by rw [hAz1]; exact ((ev_ne _ _ (by decide)).trans ((ev_ne _ _ (by decide)).trans ((ev_ne _ _ (by decide)).trans ((ev_ne _ _ (by decide)).trans ((ev_ne _ _ (by decide)).trans ((ev_ne _ _ (by decide)).trans (ev_eq _ _ (by simp [sz]))))))))
  have eAz160 : Az1.eval (.tmp 60) = .int .i64 (x : Int) := by rw [hAz1]; exact ((ev_ne _ _ (by decide)).trans ((ev_ne _ _ (by decide)).trans (ev_eq _ _ (by simp [put_sz, sz]))))
  have eAz162 : Az1.eval (.tmp 62) = .slice (some ⟨b, o, none⟩) Z c := by rw [hAz1]; exact ((ev_ne _ _ (by decide)).trans (ev_eq _ _ (by simp [put_sz, sz])))
  have eAz163 : Az1.eval (.tmp 63) = .int .i64 (k : Int) := by rw [hAz1]; exact (ev_eq _ _ (by simp [put_sz, sz]))
  rw [← hAz1]
  refine wpAnyG_take (i := 8) (v := .pointer (some ⟨b, o + k, none⟩)) rfl (by kernel_rfl) (by kernel_rfl) (by kernel_rfl) (fun _ _ _ h => nomatch h.1) (yg_ix (by simp [Region.wanted]) (.tmp 62) (.tmp 63) rfl eAz162 eAz163 (fun w => by simp [go_sem, hk1, hk2])) hs0 ?_
  show wpAnyG _ _ _ _ _ _ _ _ (Az1.put (some 64) (.pointer (some ⟨b, o + k, none⟩))) _
  refine wpAnyG_take (i := 9) (v := .int .i64 (x : Int)) rfl (by kernel_rfl) (by kernel_rfl) (by kernel_rfl) (fun _ _ _ h => nomatch h.1) (yg_ld (by simp [Region.wanted]) (.tmp 64) rfl (ev_eq _ _ (by simp [szAz1])) (fun w hw => by have h1 := hw; simp [go_sem, h1])) hs0 ?_
  show wpAnyG _ _ _ _ _ _ _ _ ((Az1.put (some 64) (.pointer (some ⟨b, o + k, none⟩))).put (some 65) (.int .i64 (x : Int))) _
  refine wpAnyG_all (rs := [5, 10]) (by kernel_rfl) (by simp) fun i1 hm1 => ?_
  rcases (show i1 = 5 ∨ i1 = 10 by simpa using hm1) with rfl | rfl
  · refine wpOp_own rfl rfl fun K2 hK2 => ?_
    refine wp_calls2 151 hf_without (.tmp 56) (.tmp 60) _ rfl (.slice pa NL pk) (.int .i64 (x : Int)) ((ev_ne _ _ (by decide)).trans ((ev_ne _ _ (by decide)).trans eAz156)) ((ev_ne _ _ (by decide)).trans ((ev_ne _ _ (by decide)).trans eAz160)) ?_
    refine (hwo V0 (Below.refl _ _)).mono ?_
    rintro _ V1 ⟨v1, rfl, hr1, hb1⟩
    have hs1 := keepS hs0 hb1
    refine ⟨_, rfl, hK2 _ _ ⟨.inr hs1, ?_⟩⟩
    clear hK2 K2
    show wpAnyG _ _ _ _ _ _ _ _ (((Az1.put (some 64) (.pointer (some ⟨b, o + k, none⟩))).put (some 65) (.int .i64 (x : Int))).put (some 61) (v1)) _
    refine wpAnyG_all (rs := [10]) (by kernel_rfl) (by simp) fun i3 hm3 => ?_
    obtain rfl : i3 = 10 := by simpa using hm3
    refine wpOp_own rfl rfl fun K3 hK3 => ?_
    refine wp_buildI (.tmp 65) rfl (x : Int) ((ev_ne _ _ (by decide)).trans (ev_eq _ _ (by simp [put_sz, szAz1]))) ?_
    have hbA : Below V1.heap.size V1 (V1.alloc (.cells #[.int .i64 (x : Int)] 3)) := (Below.refl _ V1).alloc (Nat.le_refl _) _
    have hs2 := keepS hs1 hbA
    refine hK3 _ _ ⟨.inr hs2, ?_⟩
    clear hK3 K3 hm3
    show wpAnyG _ _ _ _ _ _ _ _ ((((Az1.put (some 64) (.pointer (some ⟨b, o + k, none⟩))).put (some 65) (.int .i64 (x : Int))).put (some 61) (v1)).put (some 66) (.slice (some ⟨V1.heap.size, 0, none⟩) 1 1)) _
    refine wpAnyG_all (rs := [11]) (by kernel_rfl) (by simp) fun i4 hm4 => ?_
    obtain rfl : i4 = 11 := by simpa using hm4
    refine wpOp_own rfl rfl fun K4 hK4 => ?_
    refine wp_append_own _ (.tmp 61) (.tmp 66) 30 rfl V0.heap.size 3 i0 (.int .i64 0) 1 8 Tryz.underlying30 hi0 hz0 hz1 hz2 rfl (by decide) _ _ _ ((ev_ne _ _ (by decide)).trans (ev_eq _ _ (by simp [put_sz, szAz1]))) (hr1.alloc _) ⟨V1.heap.size, 0, none⟩ 1 1 [.int .i64 (x : Int)] (ev_eq _ _ (by simp [put_sz, szAz1])) rfl (World.news_of_block (cs := #[.int .i64 (x : Int)]) (t := 3) (fr := (0, 0)) (heap_alloc_new V1 _)) (by simp [Value.oneCell']) (by unfold maxLen; omega) (by omega) (by rw [World.size_alloc]; have := hb1.size; omega) (fun v3 V3 hr3 hg3 _ => ?_)
    have hb3 : Below V0.heap.size V0 V3 := (hb1.alloc hb1.size _).grown hg3 (by rw [World.size_alloc]; have := hb1.size; omega) (fun j e => (hr1.lt j e).1)
    have hs3 := keepS hs0 hb3
    rw [hrow] at hr3
    refine hK4 _ _ ⟨.inr hs3, ?_⟩
    clear hK4 K4 hm4
    show wpAnyG _ _ _ _ _ _ _ _ (((((Az1.put (some 64) (.pointer (some ⟨b, o + k, none⟩))).put (some 65) (.int .i64 (x : Int))).put (some 61) (v1)).put (some 66) (.slice (some ⟨V1.heap.size, 0, none⟩) 1 1)).put (some 67) (v3)) _
    refine wpAnyG_take (i := 12) (v := v3) rfl (by kernel_rfl) (by kernel_rfl) (by kernel_rfl) (fun _ _ _ h => nomatch h.1) (yg_as (by simp [Region.wanted]) (.tmp 67) rfl (ev_eq _ _ (by simp [put_sz, szAz1]))) hs3 ?_
    show wpAnyG _ _ _ _ _ _ _ _ ((((((Az1.put (some 64) (.pointer (some ⟨b, o + k, none⟩))).put (some 65) (.int .i64 (x : Int))).put (some 61) (v1)).put (some 66) (.slice (some ⟨V1.heap.size, 0, none⟩) 1 1)).put (some 67) (v3)).put (some 6) (v3)) _
    refine wpAnyG_done (by kernel_rfl) ⟨rfl, v1, .slice (some ⟨V1.heap.size, 0, none⟩) 1 1, v3, ?_, hr3, hb3⟩ _
    show ((((((Az1.put (some 64) (.pointer (some ⟨b, o + k, none⟩))).put (some 65) (.int .i64 (x : Int))).put (some 61) (v1)).put (some 66) (.slice (some ⟨V1.heap.size, 0, none⟩) 1 1)).put (some 67) (v3)).put (some 6) (v3)) = _
    rw [hAz1]
  · refine wpOp_own rfl rfl fun K2 hK2 => ?_
    refine wp_buildI (.tmp 65) rfl (x : Int) (ev_eq _ _ (by simp [put_sz, szAz1])) ?_
    obtain ⟨V1, hV1⟩ : ∃ V1, V1 = V0.alloc (.cells #[.int .i64 (x : Int)] 3) := ⟨_, rfl⟩
    have hbA : Below V0.heap.size V0 V1 := by rw [hV1]; exact (Below.refl _ V0).alloc (Nat.le_refl _) _
    have hnew : V1.heap[V0.heap.size]? = some (.cells #[.int .i64 (x : Int)] 3 (0, 0)) := by rw [hV1]; exact heap_alloc_new V0 _
    rw [← hV1]
    have hs2 := keepS hs0 hbA
    refine hK2 _ _ ⟨.inr hs2, ?_⟩
    clear hK2 K2
    show wpAnyG _ _ _ _ _ _ _ _ (((Az1.put (some 64) (.pointer (some ⟨b, o + k, none⟩))).put (some 65) (.int .i64 (x : Int))).put (some 66) (.slice (some ⟨V0.heap.size, 0, none⟩) 1 1)) _
    refine wpAnyG_all (rs := [5]) (by kernel_rfl) (by simp) fun i3 hm3 => ?_
    obtain rfl : i3 = 5 := by simpa using hm3
    refine wpOp_own rfl rfl fun K3 hK3 => ?_
    refine wp_calls2 151 hf_without (.tmp 56) (.tmp 60) _ rfl (.slice pa NL pk) (.int .i64 (x : Int)) ((ev_ne _ _ (by decide)).trans ((ev_ne _ _ (by decide)).trans ((ev_ne _ _ (by decide)).trans eAz156))) ((ev_ne _ _ (by decide)).trans ((ev_ne _ _ (by decide)).trans ((ev_ne _ _ (by decide)).trans eAz160))) ?_
    refine (hwo V1 hbA).mono ?_
    rintro _ V2 ⟨v1, rfl, hr1, hb1⟩
    have hs1 := keepS hs2 hb1
    have hb02 : Below V0.heap.size V0 V2 := hbA.trans (hb1.mono hbA.size)
    have hnew2 : V2.heap[V0.heap.size]? = some (.cells #[.int .i64 (x : Int)] 3 (0, 0)) := (hb1.block _ (heap_lt hnew)).trans hnew
    have hr1' := hr1.mono hbA.size
    refine ⟨_, rfl, hK3 _ _ ⟨.inr hs1, ?_⟩⟩
    clear hK3 K3 hm3
    show wpAnyG _ _ _ _ _ _ _ _ ((((Az1.put (some 64) (.pointer (some ⟨b, o + k, none⟩))).put (some 65) (.int .i64 (x : Int))).put (some 66) (.slice (some ⟨V0.heap.size, 0, none⟩) 1 1)).put (some 61) (v1)) _
    refine wpAnyG_all (rs := [11]) (by kernel_rfl) (by simp) fun i4 hm4 => ?_
    obtain rfl : i4 = 11 := by simpa using hm4
    refine wpOp_own rfl rfl fun K4 hK4 => ?_
    refine wp_append_own _ (.tmp 61) (.tmp 66) 30 rfl V0.heap.size 3 i0 (.int .i64 0) 1 8 Tryz.underlying30 hi0 hz0 hz1 hz2 rfl (by decide) _ _ _ (ev_eq _ _ (by simp [put_sz, szAz1])) hr1' ⟨V0.heap.size, 0, none⟩ 1 1 [.int .i64 (x : Int)] ((ev_ne _ _ (by decide)).trans (ev_eq _ _ (by simp [put_sz, szAz1]))) rfl (World.news_of_block hnew2) (by simp [Value.oneCell']) (by unfold maxLen; omega) (by omega) hb02.size (fun v3 V3 hr3 hg3 _ => ?_)
    have hb3 : Below V0.heap.size V0 V3 := hb02.grown hg3 hb02.size (fun j e => (hr1'.lt j e).1)
    have hs3 := keepS hs0 hb3
    rw [hrow] at hr3
    refine hK4 _ _ ⟨.inr hs3, ?_⟩
    clear hK4 K4 hm4
    show wpAnyG _ _ _ _ _ _ _ _ (((((Az1.put (some 64) (.pointer (some ⟨b, o + k, none⟩))).put (some 65) (.int .i64 (x : Int))).put (some 66) (.slice (some ⟨V0.heap.size, 0, none⟩) 1 1)).put (some 61) (v1)).put (some 67) (v3)) _
    refine wpAnyG_take (i := 12) (v := v3) rfl (by kernel_rfl) (by kernel_rfl) (by kernel_rfl) (fun _ _ _ h => nomatch h.1) (yg_as (by simp [Region.wanted]) (.tmp 67) rfl (ev_eq _ _ (by simp [put_sz, szAz1]))) hs3 ?_
    show wpAnyG _ _ _ _ _ _ _ _ ((((((Az1.put (some 64) (.pointer (some ⟨b, o + k, none⟩))).put (some 65) (.int .i64 (x : Int))).put (some 66) (.slice (some ⟨V0.heap.size, 0, none⟩) 1 1)).put (some 61) (v1)).put (some 67) (v3)).put (some 6) (v3)) _
    refine wpAnyG_done (by kernel_rfl) ⟨rfl, v1, .slice (some ⟨V0.heap.size, 0, none⟩) 1 1, v3, ?_, hr3, hb3⟩ _
    show ((((((Az1.put (some 64) (.pointer (some ⟨b, o + k, none⟩))).put (some 65) (.int .i64 (x : Int))).put (some 66) (.slice (some ⟨V0.heap.size, 0, none⟩) 1 1)).put (some 61) (v1)).put (some 67) (v3)).put (some 6) (v3)) = _
    rw [hAz1]
    rw [put_comm _ (show (66 : Nat) ≠ 61 by decide)]
set_option maxHeartbeats 2000000 in
theorem pin_region21 {V0 W5 : World} {q b o k Z c NL pk x : Nat} {pa : Option Addr} {l : List Nat} {A : Act} (sz : A.tmps.size = 105) (e0 : A.eval (.tmp 0) = .pointer (some ⟨q, 0, none⟩)) (e1 : A.eval (.tmp 1) = .slice (some ⟨b, o, none⟩) Z c) (e10 : A.eval (.tmp 10) = .int .i64 (k : Int)) (hV0 : V0 = W5.drew) (hNL : NL = l.length) (hk : k < Z) (hx : V0.cell? ⟨b, o + k, none⟩ = some (.int .i64 (x : Int))) (hnum : Nums V0 pa l) (hl : l.length ≤ 1000) (hp : V0.cell? ⟨q, 4, none⟩ = some (.slice pa NL pk)) (hz : ∀ V : World, Below V0.heap.size V0 V → V.frozen? ⟨q, 4, none⟩ = false) :
    (codeRPin 21).wp Tryz.prog (fun x' a V => x' = .normal ∧ ∃ u1 u2 a3 k3 M3 V3, a = ((((((((((((((((((A.put (some 81) (.pointer (some ⟨q, 0, none⟩))).put (some 82) (.pointer (some ⟨q, 0, none⟩))).put (some 83) (.pointer (some ⟨q, 0, none⟩))).put (some 84) (.pointer (some ⟨q, 4, none⟩))).put (some 85) (.slice pa NL pk)).put (some 86) (.slice (some ⟨b, o, none⟩) Z c)).put (some 87) (.int .i64 (k : Int))).put (some 88) (.pointer (some ⟨b, o + k, none⟩))).put (some 89) (.int .i64 (x : Int))).put (some 91) (.slice (some ⟨b, o, none⟩) Z c)).put (some 92) (.int .i64 (k : Int))).put (some 93) (.pointer (some ⟨b, o + k, none⟩))).put (some 94) (.int .i64 (x : Int))).put (some 90) (u1)).put (some 95) (u2)).put (some 96) (.slice a3 M3 k3)).put (some 97) (.pointer (some ⟨q, 0, none⟩))).put (some 98) (.pointer (some ⟨q, 4, none⟩))) ∧ M3 = (rPush l x).length ∧ V3.ownsRow V0.heap.size 3 1 (.slice a3 M3 k3) M3 (natCells (rPush l x)) ∧ Below V0.heap.size V0 V3 ∧ V = V3.setCell ⟨q, 4, none⟩ (.slice a3 M3 k3)) A W5 := by
  have hm : Tryz.prog.follows .mixedOrders = true := by kernel_rfl
  obtain ⟨i0, hi0, hz0, hz1, hz2⟩ := info_parts Tryz.infoInt
  have hk1 : (0 : Int) ≤ (k : Int) := by omega
  have hk2 : (k : Int) < (Z : Int) := by omega
  have hfl : (l.filter (fun y => y != x)).length ≤ 1000 := Nat.le_trans (List.length_filter_le _ _) hl
  have hrow : ∀ (V : World) (v : Value), V.ownsRow V0.heap.size 3 1 v ((l.filter (fun y => y != x)).length + 1) (natCells (l.filter (fun y => y != x)) ++ [.int .i64 (x : Int)]) = V.ownsRow V0.heap.size 3 1 v (rPush l x).length (natCells (rPush l x)) := fun V v => by
    unfold rPush natCells
    rw [List.map_append, List.length_append, List.length_singleton]
    rfl
  have hwo : ∀ V : World, Below V0.heap.size V0 V → Calls Tryz.prog 151 #[.slice pa NL pk, .int .i64 (x : Int)] V fun e w' => ∃ v, e = .returned v ∧ w'.ownsRow V.heap.size 3 1 v (l.filter (fun y => y != x)).length (natCells (l.filter fun y => y != x)) ∧ Below V.heap.size V w' := fun V hV => by
    subst hNL
    exact rwithout_any V pa l pk (fun i hi => by obtain ⟨b', o', e, hc⟩ := hnum i hi; exact ⟨b', o', e, (hV.cell (World.block_lt_of_cell? _ _ hc)).trans hc⟩) hl x
  have hs0 : V0.cell? ⟨q, 4, none⟩ = some (.slice pa NL pk) ∧ V0.cell? ⟨b, o + k, none⟩ = some (.int .i64 (x : Int)) := ⟨hp, hx⟩
  have keepS : ∀ {V V' : World}, (V.cell? ⟨q, 4, none⟩ = some (.slice pa NL pk) ∧ V.cell? ⟨b, o + k, none⟩ = some (.int .i64 (x : Int))) → Below V.heap.size V V' → (V'.cell? ⟨q, 4, none⟩ = some (.slice pa NL pk) ∧ V'.cell? ⟨b, o + k, none⟩ = some (.int .i64 (x : Int))) := fun h hb => ⟨(hb.cell (World.block_lt_of_cell? _ _ h.1)).trans h.1, (hb.cell (World.block_lt_of_cell? _ _ h.2)).trans h.2⟩
  unfold codeRPin
  conv => arg 2; whnf
  refine wp_region_G (fun i => i == 18) (fun V => V.cell? ⟨q, 4, none⟩ = some (.slice pa NL pk) ∧ V.cell? ⟨b, o + k, none⟩ = some (.int .i64 (x : Int))) hm ?_
  rw [show ({ W5 with drawn := W5.drawn + 1 } : World) = V0 from hV0.symm]
  refine wpAnyG_take (i := 0) (v := .pointer (some ⟨q, 0, none⟩)) rfl (by kernel_rfl) (by kernel_rfl) (by kernel_rfl) (fun _ _ _ h => nomatch h.1) (yg_mv (by simp [Region.wanted]) (.tmp 0) rfl e0) hs0 ?_
  show wpAnyG _ _ _ _ _ _ _ _ (A.put (some 81) (.pointer (some ⟨q, 0, none⟩))) _
  refine wpAnyG_take (i := 1) (v := .pointer (some ⟨q, 0, none⟩)) rfl (by kernel_rfl) (by kernel_rfl) (by kernel_rfl) (fun _ _ _ h => nomatch h.1) (yg_mv (by simp [Region.wanted]) (.tmp 0) rfl ((ev_ne _ _ (by decide)).trans e0)) hs0 ?_
  show wpAnyG _ _ _ _ _ _ _ _ ((A.put (some 81) (.pointer (some ⟨q, 0, none⟩))).put (some 82) (.pointer (some ⟨q, 0, none⟩))) _
  refine wpAnyG_take (i := 2) (v := .pointer (some ⟨q, 0, none⟩)) rfl (by kernel_rfl) (by kernel_rfl) (by kernel_rfl) (fun _ _ _ h => nomatch h.1) (yg_nil (by simp [Region.wanted]) (.tmp 82) rfl (ev_eq _ _ (by simp [put_sz, sz]))) hs0 ?_
  show wpAnyG _ _ _ _ _ _ _ _ (((A.put (some 81) (.pointer (some ⟨q, 0, none⟩))).put (some 82) (.pointer (some ⟨q, 0, none⟩))).put (some 83) (.pointer (some ⟨q, 0, none⟩))) _
  refine wpAnyG_take (i := 3) (v := .pointer (some ⟨q, 4, none⟩)) rfl (by kernel_rfl) (by kernel_rfl) (by kernel_rfl) (fun _ _ _ h => nomatch h.1) (yg_fld (by simp [Region.wanted]) (.tmp 83) rfl (ev_eq _ _ (by simp [put_sz, sz])) (fun w => by simp [go_sem])) hs0 ?_
  show wpAnyG _ _ _ _ _ _ _ _ ((((A.put (some 81) (.pointer (some ⟨q, 0, none⟩))).put (some 82) (.pointer (some ⟨q, 0, none⟩))).put (some 83) (.pointer (some ⟨q, 0, none⟩))).put (some 84) (.pointer (some ⟨q, 4, none⟩))) _
  refine wpAnyG_take (i := 4) (v := .slice pa NL pk) rfl (by kernel_rfl) (by kernel_rfl) (by kernel_rfl) (fun _ _ _ h => nomatch h.1) (yg_ld (by simp [Region.wanted]) (.tmp 84) rfl (ev_eq _ _ (by simp [put_sz, sz])) (fun w hw => by have h1 := hw.1; simp [go_sem, h1])) hs0 ?_
  show wpAnyG _ _ _ _ _ _ _ _ (((((A.put (some 81) (.pointer (some ⟨q, 0, none⟩))).put (some 82) (.pointer (some ⟨q, 0, none⟩))).put (some 83) (.pointer (some ⟨q, 0, none⟩))).put (some 84) (.pointer (some ⟨q, 4, none⟩))).put (some 85) (.slice pa NL pk)) _
  refine wpAnyG_take (i := 5) (v := .slice (some ⟨b, o, none⟩) Z c) rfl (by kernel_rfl) (by kernel_rfl) (by kernel_rfl) (fun _ _ _ h => nomatch h.1) (yg_mv (by simp [Region.wanted]) (.tmp 1) rfl ((ev_ne _ _ (by decide)).trans ((ev_ne _ _ (by decide)).trans ((ev_ne _ _ (by decide)).trans ((ev_ne _ _ (by decide)).trans ((ev_ne _ _ (by decide)).trans e1)))))) hs0 ?_
  show wpAnyG _ _ _ _ _ _ _ _ ((((((A.put (some 81) (.pointer (some ⟨q, 0, none⟩))).put (some 82) (.pointer (some ⟨q, 0, none⟩))).put (some 83) (.pointer (some ⟨q, 0, none⟩))).put (some 84) (.pointer (some ⟨q, 4, none⟩))).put (some 85) (.slice pa NL pk)).put (some 86) (.slice (some ⟨b, o, none⟩) Z c)) _
  refine wpAnyG_take (i := 6) (v := .int .i64 (k : Int)) rfl (by kernel_rfl) (by kernel_rfl) (by kernel_rfl) (fun _ _ _ h => nomatch h.1) (yg_mv (by simp [Region.wanted]) (.tmp 10) rfl ((ev_ne _ _ (by decide)).trans ((ev_ne _ _ (by decide)).trans ((ev_ne _ _ (by decide)).trans ((ev_ne _ _ (by decide)).trans ((ev_ne _ _ (by decide)).trans ((ev_ne _ _ (by decide)).trans e10))))))) hs0 ?_
  show wpAnyG _ _ _ _ _ _ _ _ (((((((A.put (some 81) (.pointer (some ⟨q, 0, none⟩))).put (some 82) (.pointer (some ⟨q, 0, none⟩))).put (some 83) (.pointer (some ⟨q, 0, none⟩))).put (some 84) (.pointer (some ⟨q, 4, none⟩))).put (some 85) (.slice pa NL pk)).put (some 86) (.slice (some ⟨b, o, none⟩) Z c)).put (some 87) (.int .i64 (k : Int))) _
  obtain ⟨Az1, hAz1⟩ : ∃ Az1, Az1 = (((((((A.put (some 81) (.pointer (some ⟨q, 0, none⟩))).put (some 82) (.pointer (some ⟨q, 0, none⟩))).put (some 83) (.pointer (some ⟨q, 0, none⟩))).put (some 84) (.pointer (some ⟨q, 4, none⟩))).put (some 85) (.slice pa NL pk)).put (some 86) (.slice (some ⟨b, o, none⟩) Z c)).put (some 87) (.int .i64 (k : Int))) := ⟨_, rfl⟩
  have szAz1 : Az1.tmps.size = 105 := by rw [hAz1]; simp [put_sz, sz]
  have eAz11 : Az1.eval (.tmp 1) = .slice (some ⟨b, o, none⟩) Z c := by rw [hAz1]; exact ((ev_ne _ _ (by decide)).trans ((ev_ne _ _ (by decide)).trans ((ev_ne _ _ (by decide)).trans ((ev_ne _ _ (by decide)).trans ((ev_ne _ _ (by decide)).trans ((ev_ne _ _ (by decide)).trans ((ev_ne _ _ (by decide)).trans e1)))))))
  have eAz110 : Az1.eval (.tmp 10) = .int .i64 (k : Int) := by rw [hAz1]; exact ((ev_ne _ _ (by decide)).trans ((ev_ne _ _ (by decide)).trans ((ev_ne _ _ (by decide)).trans ((ev_ne _ _ (by decide)).trans ((ev_ne _ _ (by decide)).trans ((ev_ne _ _ (by decide)).trans ((ev_ne _ _ (by decide)).trans e10)))))))
  have eAz181 : Az1.eval (.tmp 81) = .pointer (some ⟨q, 0, none⟩) := by rw [hAz1]; exact ((ev_ne _ _ (by decide)).trans ((ev_ne _ _ (by decide)).trans ((ev_ne _ _ (by decide)).trans ((ev_ne _ _ (by decide)).trans ((ev_ne _ _ (by decide)).trans ((ev_ne _ _ (by decide)).trans (ev_eq _ _ (by simp [sz]))))))))
  have eAz185 : Az1.eval (.tmp 85) = .slice pa NL pk := by rw [hAz1]; exact ((ev_ne _ _ (by decide)).trans ((ev_ne _ _ (by decide)).trans (ev_eq _ _ (by simp [put_sz, sz]))))
  have eAz186 : Az1.eval (.tmp 86) = .slice (some ⟨b, o, none⟩) Z c := by rw [hAz1]; exact ((ev_ne _ _ (by decide)).trans (ev_eq _ _ (by simp [put_sz, sz])))
  have eAz187 : Az1.eval (.tmp 87) = .int .i64 (k : Int) := by rw [hAz1]; exact (ev_eq _ _ (by simp [put_sz, sz]))
  rw [← hAz1]
  refine wpAnyG_take (i := 7) (v := .pointer (some ⟨b, o + k, none⟩)) rfl (by kernel_rfl) (by kernel_rfl) (by kernel_rfl) (fun _ _ _ h => nomatch h.1) (yg_ix (by simp [Region.wanted]) (.tmp 86) (.tmp 87) rfl eAz186 eAz187 (fun w => by simp [go_sem, hk1, hk2])) hs0 ?_
  show wpAnyG _ _ _ _ _ _ _ _ (Az1.put (some 88) (.pointer (some ⟨b, o + k, none⟩))) _
  refine wpAnyG_take (i := 8) (v := .int .i64 (x : Int)) rfl (by kernel_rfl) (by kernel_rfl) (by kernel_rfl) (fun _ _ _ h => nomatch h.1) (yg_ld (by simp [Region.wanted]) (.tmp 88) rfl (ev_eq _ _ (by simp [szAz1])) (fun w hw => by have h1 := hw.2; simp [go_sem, h1])) hs0 ?_
  show wpAnyG _ _ _ _ _ _ _ _ ((Az1.put (some 88) (.pointer (some ⟨b, o + k, none⟩))).put (some 89) (.int .i64 (x : Int))) _
  refine wpAnyG_take (i := 10) (v := .slice (some ⟨b, o, none⟩) Z c) rfl (by kernel_rfl) (by kernel_rfl) (by kernel_rfl) (fun _ _ _ h => nomatch h.1) (yg_mv (by simp [Region.wanted]) (.tmp 1) rfl ((ev_ne _ _ (by decide)).trans ((ev_ne _ _ (by decide)).trans eAz11))) hs0 ?_
  show wpAnyG _ _ _ _ _ _ _ _ (((Az1.put (some 88) (.pointer (some ⟨b, o + k, none⟩))).put (some 89) (.int .i64 (x : Int))).put (some 91) (.slice (some ⟨b, o, none⟩) Z c)) _
  refine wpAnyG_take (i := 11) (v := .int .i64 (k : Int)) rfl (by kernel_rfl) (by kernel_rfl) (by kernel_rfl) (fun _ _ _ h => nomatch h.1) (yg_mv (by simp [Region.wanted]) (.tmp 10) rfl ((ev_ne _ _ (by decide)).trans ((ev_ne _ _ (by decide)).trans ((ev_ne _ _ (by decide)).trans eAz110)))) hs0 ?_
  show wpAnyG _ _ _ _ _ _ _ _ ((((Az1.put (some 88) (.pointer (some ⟨b, o + k, none⟩))).put (some 89) (.int .i64 (x : Int))).put (some 91) (.slice (some ⟨b, o, none⟩) Z c)).put (some 92) (.int .i64 (k : Int))) _
  refine wpAnyG_take (i := 12) (v := .pointer (some ⟨b, o + k, none⟩)) rfl (by kernel_rfl) (by kernel_rfl) (by kernel_rfl) (fun _ _ _ h => nomatch h.1) (yg_ix (by simp [Region.wanted]) (.tmp 91) (.tmp 92) rfl ((ev_ne _ _ (by decide)).trans (ev_eq _ _ (by simp [put_sz, szAz1]))) (ev_eq _ _ (by simp [put_sz, szAz1])) (fun w => by simp [go_sem, hk1, hk2])) hs0 ?_
  show wpAnyG _ _ _ _ _ _ _ _ (((((Az1.put (some 88) (.pointer (some ⟨b, o + k, none⟩))).put (some 89) (.int .i64 (x : Int))).put (some 91) (.slice (some ⟨b, o, none⟩) Z c)).put (some 92) (.int .i64 (k : Int))).put (some 93) (.pointer (some ⟨b, o + k, none⟩))) _
  refine wpAnyG_take (i := 13) (v := .int .i64 (x : Int)) rfl (by kernel_rfl) (by kernel_rfl) (by kernel_rfl) (fun _ _ _ h => nomatch h.1) (yg_ld (by simp [Region.wanted]) (.tmp 93) rfl (ev_eq _ _ (by simp [put_sz, szAz1])) (fun w hw => by have h1 := hw.2; simp [go_sem, h1])) hs0 ?_
  show wpAnyG _ _ _ _ _ _ _ _ ((((((Az1.put (some 88) (.pointer (some ⟨b, o + k, none⟩))).put (some 89) (.int .i64 (x : Int))).put (some 91) (.slice (some ⟨b, o, none⟩) Z c)).put (some 92) (.int .i64 (k : Int))).put (some 93) (.pointer (some ⟨b, o + k, none⟩))).put (some 94) (.int .i64 (x : Int))) _
  refine wpAnyG_all (rs := [9, 14]) (by kernel_rfl) (by simp) fun i1 hm1 => ?_
  rcases (show i1 = 9 ∨ i1 = 14 by simpa using hm1) with rfl | rfl
  · refine wpOp_own rfl rfl fun K2 hK2 => ?_
    refine wp_calls2 151 hf_without (.tmp 85) (.tmp 89) _ rfl (.slice pa NL pk) (.int .i64 (x : Int)) ((ev_ne _ _ (by decide)).trans ((ev_ne _ _ (by decide)).trans ((ev_ne _ _ (by decide)).trans ((ev_ne _ _ (by decide)).trans ((ev_ne _ _ (by decide)).trans ((ev_ne _ _ (by decide)).trans eAz185)))))) ((ev_ne _ _ (by decide)).trans ((ev_ne _ _ (by decide)).trans ((ev_ne _ _ (by decide)).trans ((ev_ne _ _ (by decide)).trans (ev_eq _ _ (by simp [put_sz, szAz1])))))) ?_
    refine (hwo V0 (Below.refl _ _)).mono ?_
    rintro _ V1 ⟨v1, rfl, hr1, hb1⟩
    have hs1 := keepS hs0 hb1
    refine ⟨_, rfl, hK2 _ _ ⟨.inr hs1, ?_⟩⟩
    clear hK2 K2
    show wpAnyG _ _ _ _ _ _ _ _ (((((((Az1.put (some 88) (.pointer (some ⟨b, o + k, none⟩))).put (some 89) (.int .i64 (x : Int))).put (some 91) (.slice (some ⟨b, o, none⟩) Z c)).put (some 92) (.int .i64 (k : Int))).put (some 93) (.pointer (some ⟨b, o + k, none⟩))).put (some 94) (.int .i64 (x : Int))).put (some 90) (v1)) _
    refine wpAnyG_all (rs := [14]) (by kernel_rfl) (by simp) fun i3 hm3 => ?_
    obtain rfl : i3 = 14 := by simpa using hm3
    refine wpOp_own rfl rfl fun K3 hK3 => ?_
    refine wp_buildI (.tmp 94) rfl (x : Int) ((ev_ne _ _ (by decide)).trans (ev_eq _ _ (by simp [put_sz, szAz1]))) ?_
    have hbA : Below V1.heap.size V1 (V1.alloc (.cells #[.int .i64 (x : Int)] 3)) := (Below.refl _ V1).alloc (Nat.le_refl _) _
    have hs2 := keepS hs1 hbA
    refine hK3 _ _ ⟨.inr hs2, ?_⟩
    clear hK3 K3 hm3
    show wpAnyG _ _ _ _ _ _ _ _ ((((((((Az1.put (some 88) (.pointer (some ⟨b, o + k, none⟩))).put (some 89) (.int .i64 (x : Int))).put (some 91) (.slice (some ⟨b, o, none⟩) Z c)).put (some 92) (.int .i64 (k : Int))).put (some 93) (.pointer (some ⟨b, o + k, none⟩))).put (some 94) (.int .i64 (x : Int))).put (some 90) (v1)).put (some 95) (.slice (some ⟨V1.heap.size, 0, none⟩) 1 1)) _
    obtain ⟨Az2, hAz2⟩ : ∃ Az2, Az2 = ((((((((Az1.put (some 88) (.pointer (some ⟨b, o + k, none⟩))).put (some 89) (.int .i64 (x : Int))).put (some 91) (.slice (some ⟨b, o, none⟩) Z c)).put (some 92) (.int .i64 (k : Int))).put (some 93) (.pointer (some ⟨b, o + k, none⟩))).put (some 94) (.int .i64 (x : Int))).put (some 90) (v1)).put (some 95) (.slice (some ⟨V1.heap.size, 0, none⟩) 1 1)) := ⟨_, rfl⟩
    have szAz2 : Az2.tmps.size = 105 := by rw [hAz2]; simp [put_sz, szAz1]
    have eAz281 : Az2.eval (.tmp 81) = .pointer (some ⟨q, 0, none⟩) := by rw [hAz2]; exact ((ev_ne _ _ (by decide)).trans ((ev_ne _ _ (by decide)).trans ((ev_ne _ _ (by decide)).trans ((ev_ne _ _ (by decide)).trans ((ev_ne _ _ (by decide)).trans ((ev_ne _ _ (by decide)).trans ((ev_ne _ _ (by decide)).trans ((ev_ne _ _ (by decide)).trans eAz181))))))))
    have eAz290 : Az2.eval (.tmp 90) = v1 := by rw [hAz2]; exact ((ev_ne _ _ (by decide)).trans (ev_eq _ _ (by simp [put_sz, szAz1])))
    have eAz295 : Az2.eval (.tmp 95) = .slice (some ⟨V1.heap.size, 0, none⟩) 1 1 := by rw [hAz2]; exact (ev_eq _ _ (by simp [put_sz, szAz1]))
    rw [← hAz2]
    refine wpAnyG_all (rs := [15]) (by kernel_rfl) (by simp) fun i4 hm4 => ?_
    obtain rfl : i4 = 15 := by simpa using hm4
    refine wpOp_own rfl rfl fun K4 hK4 => ?_
    refine wp_append_own _ (.tmp 90) (.tmp 95) 30 rfl V0.heap.size 3 i0 (.int .i64 0) 1 8 Tryz.underlying30 hi0 hz0 hz1 hz2 rfl (by decide) _ _ _ eAz290 (hr1.alloc _) ⟨V1.heap.size, 0, none⟩ 1 1 [.int .i64 (x : Int)] eAz295 rfl (World.news_of_block (cs := #[.int .i64 (x : Int)]) (t := 3) (fr := (0, 0)) (heap_alloc_new V1 _)) (by simp [Value.oneCell']) (by unfold maxLen; omega) (by omega) (by rw [World.size_alloc]; have := hb1.size; omega) (fun v3 V3 hr3 hg3 _ => ?_)
    have hb3 : Below V0.heap.size V0 V3 := (hb1.alloc hb1.size _).grown hg3 (by rw [World.size_alloc]; have := hb1.size; omega) (fun j e => (hr1.lt j e).1)
    have hs3 := keepS hs0 hb3
    rw [hrow] at hr3
    obtain ⟨a3, k3, hv3⟩ := own_slc hr3
    obtain ⟨M3, hM3⟩ : ∃ M3, M3 = (rPush l x).length := ⟨_, rfl⟩
    rw [← hM3] at hv3 hr3
    subst hv3
    refine hK4 _ _ ⟨.inr hs3, ?_⟩
    clear hK4 K4 hm4
    show wpAnyG _ _ _ _ _ _ _ _ (Az2.put (some 96) (.slice a3 M3 k3)) _
    refine wpAnyG_one (i := 16) (v := .pointer (some ⟨q, 0, none⟩)) rfl (by kernel_rfl) (yg_nil (by simp [Region.wanted]) (.tmp 81) rfl ((ev_ne _ _ (by decide)).trans eAz281)) hs3 ?_
    show wpAnyG _ _ _ _ _ _ _ _ ((Az2.put (some 96) (.slice a3 M3 k3)).put (some 97) (.pointer (some ⟨q, 0, none⟩))) _
    refine wpAnyG_one (i := 17) (v := .pointer (some ⟨q, 4, none⟩)) rfl (by kernel_rfl) (yg_fld (by simp [Region.wanted]) (.tmp 97) rfl (ev_eq _ _ (by simp [put_sz, szAz2])) (fun w => by simp [go_sem])) hs3 ?_
    show wpAnyG _ _ _ _ _ _ _ _ (((Az2.put (some 96) (.slice a3 M3 k3)).put (some 97) (.pointer (some ⟨q, 0, none⟩))).put (some 98) (.pointer (some ⟨q, 4, none⟩))) _
    refine wpAnyG_all (rs := [18]) (by kernel_rfl) (by simp) fun i5 hm5 => ?_
    obtain rfl : i5 = 18 := by simpa using hm5
    refine wpOp_own rfl rfl fun K5 hK5 => ?_
    refine wp_storeI (.tmp 98) (.tmp 96) rfl q 4 a3 M3 k3 (.slice pa NL pk) (ev_eq _ _ (by simp [put_sz, szAz2])) ((ev_ne _ _ (by decide)).trans ((ev_ne _ _ (by decide)).trans (ev_eq _ _ (by simp [szAz2])))) hs3.1 (hz V3 hb3) ?_
    refine hK5 _ _ ⟨.inl rfl, wpAnyG_done (by kernel_rfl) ⟨rfl, v1, .slice (some ⟨V1.heap.size, 0, none⟩) 1 1, a3, k3, M3, V3, ?_, hM3, hr3, hb3, rfl⟩ _⟩
    show (((Az2.put (some 96) (.slice a3 M3 k3)).put (some 97) (.pointer (some ⟨q, 0, none⟩))).put (some 98) (.pointer (some ⟨q, 4, none⟩))) = _
    rw [hAz2, hAz1]
  · refine wpOp_own rfl rfl fun K2 hK2 => ?_
    refine wp_buildI (.tmp 94) rfl (x : Int) (ev_eq _ _ (by simp [put_sz, szAz1])) ?_
    obtain ⟨V1, hV1⟩ : ∃ V1, V1 = V0.alloc (.cells #[.int .i64 (x : Int)] 3) := ⟨_, rfl⟩
    have hbA : Below V0.heap.size V0 V1 := by rw [hV1]; exact (Below.refl _ V0).alloc (Nat.le_refl _) _
    have hnew : V1.heap[V0.heap.size]? = some (.cells #[.int .i64 (x : Int)] 3 (0, 0)) := by rw [hV1]; exact heap_alloc_new V0 _
    rw [← hV1]
    have hs2 := keepS hs0 hbA
    refine hK2 _ _ ⟨.inr hs2, ?_⟩
    clear hK2 K2
    show wpAnyG _ _ _ _ _ _ _ _ (((((((Az1.put (some 88) (.pointer (some ⟨b, o + k, none⟩))).put (some 89) (.int .i64 (x : Int))).put (some 91) (.slice (some ⟨b, o, none⟩) Z c)).put (some 92) (.int .i64 (k : Int))).put (some 93) (.pointer (some ⟨b, o + k, none⟩))).put (some 94) (.int .i64 (x : Int))).put (some 95) (.slice (some ⟨V0.heap.size, 0, none⟩) 1 1)) _
    refine wpAnyG_all (rs := [9]) (by kernel_rfl) (by simp) fun i3 hm3 => ?_
    obtain rfl : i3 = 9 := by simpa using hm3
    refine wpOp_own rfl rfl fun K3 hK3 => ?_
    refine wp_calls2 151 hf_without (.tmp 85) (.tmp 89) _ rfl (.slice pa NL pk) (.int .i64 (x : Int)) ((ev_ne _ _ (by decide)).trans ((ev_ne _ _ (by decide)).trans ((ev_ne _ _ (by decide)).trans ((ev_ne _ _ (by decide)).trans ((ev_ne _ _ (by decide)).trans ((ev_ne _ _ (by decide)).trans ((ev_ne _ _ (by decide)).trans eAz185))))))) ((ev_ne _ _ (by decide)).trans ((ev_ne _ _ (by decide)).trans ((ev_ne _ _ (by decide)).trans ((ev_ne _ _ (by decide)).trans ((ev_ne _ _ (by decide)).trans (ev_eq _ _ (by simp [put_sz, szAz1]))))))) ?_
    refine (hwo V1 hbA).mono ?_
    rintro _ V2 ⟨v1, rfl, hr1, hb1⟩
    have hs1 := keepS hs2 hb1
    have hb02 : Below V0.heap.size V0 V2 := hbA.trans (hb1.mono hbA.size)
    have hnew2 : V2.heap[V0.heap.size]? = some (.cells #[.int .i64 (x : Int)] 3 (0, 0)) := (hb1.block _ (heap_lt hnew)).trans hnew
    have hr1' := hr1.mono hbA.size
    refine ⟨_, rfl, hK3 _ _ ⟨.inr hs1, ?_⟩⟩
    clear hK3 K3 hm3
    show wpAnyG _ _ _ _ _ _ _ _ ((((((((Az1.put (some 88) (.pointer (some ⟨b, o + k, none⟩))).put (some 89) (.int .i64 (x : Int))).put (some 91) (.slice (some ⟨b, o, none⟩) Z c)).put (some 92) (.int .i64 (k : Int))).put (some 93) (.pointer (some ⟨b, o + k, none⟩))).put (some 94) (.int .i64 (x : Int))).put (some 95) (.slice (some ⟨V0.heap.size, 0, none⟩) 1 1)).put (some 90) (v1)) _
    obtain ⟨Az2, hAz2⟩ : ∃ Az2, Az2 = ((((((((Az1.put (some 88) (.pointer (some ⟨b, o + k, none⟩))).put (some 89) (.int .i64 (x : Int))).put (some 91) (.slice (some ⟨b, o, none⟩) Z c)).put (some 92) (.int .i64 (k : Int))).put (some 93) (.pointer (some ⟨b, o + k, none⟩))).put (some 94) (.int .i64 (x : Int))).put (some 95) (.slice (some ⟨V0.heap.size, 0, none⟩) 1 1)).put (some 90) (v1)) := ⟨_, rfl⟩
    have szAz2 : Az2.tmps.size = 105 := by rw [hAz2]; simp [put_sz, szAz1]
    have eAz281 : Az2.eval (.tmp 81) = .pointer (some ⟨q, 0, none⟩) := by rw [hAz2]; exact ((ev_ne _ _ (by decide)).trans ((ev_ne _ _ (by decide)).trans ((ev_ne _ _ (by decide)).trans ((ev_ne _ _ (by decide)).trans ((ev_ne _ _ (by decide)).trans ((ev_ne _ _ (by decide)).trans ((ev_ne _ _ (by decide)).trans ((ev_ne _ _ (by decide)).trans eAz181))))))))
    have eAz290 : Az2.eval (.tmp 90) = v1 := by rw [hAz2]; exact (ev_eq _ _ (by simp [put_sz, szAz1]))
    have eAz295 : Az2.eval (.tmp 95) = .slice (some ⟨V0.heap.size, 0, none⟩) 1 1 := by rw [hAz2]; exact ((ev_ne _ _ (by decide)).trans (ev_eq _ _ (by simp [put_sz, szAz1])))
    rw [← hAz2]
    refine wpAnyG_all (rs := [15]) (by kernel_rfl) (by simp) fun i4 hm4 => ?_
    obtain rfl : i4 = 15 := by simpa using hm4
    refine wpOp_own rfl rfl fun K4 hK4 => ?_
    refine wp_append_own _ (.tmp 90) (.tmp 95) 30 rfl V0.heap.size 3 i0 (.int .i64 0) 1 8 Tryz.underlying30 hi0 hz0 hz1 hz2 rfl (by decide) _ _ _ eAz290 hr1' ⟨V0.heap.size, 0, none⟩ 1 1 [.int .i64 (x : Int)] eAz295 rfl (World.news_of_block hnew2) (by simp [Value.oneCell']) (by unfold maxLen; omega) (by omega) hb02.size (fun v3 V3 hr3 hg3 _ => ?_)
    have hb3 : Below V0.heap.size V0 V3 := hb02.grown hg3 hb02.size (fun j e => (hr1'.lt j e).1)
    have hs3 := keepS hs0 hb3
    rw [hrow] at hr3
    obtain ⟨a3, k3, hv3⟩ := own_slc hr3
    obtain ⟨M3, hM3⟩ : ∃ M3, M3 = (rPush l x).length := ⟨_, rfl⟩
    rw [← hM3] at hv3 hr3
    subst hv3
    refine hK4 _ _ ⟨.inr hs3, ?_⟩
    clear hK4 K4 hm4
    show wpAnyG _ _ _ _ _ _ _ _ (Az2.put (some 96) (.slice a3 M3 k3)) _
    refine wpAnyG_one (i := 16) (v := .pointer (some ⟨q, 0, none⟩)) rfl (by kernel_rfl) (yg_nil (by simp [Region.wanted]) (.tmp 81) rfl ((ev_ne _ _ (by decide)).trans eAz281)) hs3 ?_
    show wpAnyG _ _ _ _ _ _ _ _ ((Az2.put (some 96) (.slice a3 M3 k3)).put (some 97) (.pointer (some ⟨q, 0, none⟩))) _
    refine wpAnyG_one (i := 17) (v := .pointer (some ⟨q, 4, none⟩)) rfl (by kernel_rfl) (yg_fld (by simp [Region.wanted]) (.tmp 97) rfl (ev_eq _ _ (by simp [put_sz, szAz2])) (fun w => by simp [go_sem])) hs3 ?_
    show wpAnyG _ _ _ _ _ _ _ _ (((Az2.put (some 96) (.slice a3 M3 k3)).put (some 97) (.pointer (some ⟨q, 0, none⟩))).put (some 98) (.pointer (some ⟨q, 4, none⟩))) _
    refine wpAnyG_all (rs := [18]) (by kernel_rfl) (by simp) fun i5 hm5 => ?_
    obtain rfl : i5 = 18 := by simpa using hm5
    refine wpOp_own rfl rfl fun K5 hK5 => ?_
    refine wp_storeI (.tmp 98) (.tmp 96) rfl q 4 a3 M3 k3 (.slice pa NL pk) (ev_eq _ _ (by simp [put_sz, szAz2])) ((ev_ne _ _ (by decide)).trans ((ev_ne _ _ (by decide)).trans (ev_eq _ _ (by simp [szAz2])))) hs3.1 (hz V3 hb3) ?_
    refine hK5 _ _ ⟨.inl rfl, wpAnyG_done (by kernel_rfl) ⟨rfl, v1, .slice (some ⟨V0.heap.size, 0, none⟩) 1 1, a3, k3, M3, V3, ?_, hM3, hr3, hb3, rfl⟩ _⟩
    show (((Az2.put (some 96) (.slice a3 M3 k3)).put (some 97) (.pointer (some ⟨q, 0, none⟩))).put (some 98) (.pointer (some ⟨q, 4, none⟩))) = _
    rw [hAz2, hAz1]
    rw [put_comm _ (show (95 : Nat) ≠ 90 by decide)]
end Go.Proofs.YthdcjepkehifoaaGreat
