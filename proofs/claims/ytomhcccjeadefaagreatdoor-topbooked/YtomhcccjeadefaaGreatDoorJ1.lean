/- YtomhcccjeadefaaGreatDoorEOpen + YtomhcccjeadefaaGreatDoorJ1 -/
import Derived.Test.YtomhcccjeadefaaGreatDoorEOpenY
import Derived.Test.YtomhcccjeadefaaGreatDoorHDerive
import Derived.Test.YtomhcccjeadefaaGreatDoorANum
import Derived.Test.YtomhcccjeadefaaGreatDoorSLeaf
import Derived.Maps.OwnSet
import Derived.Maps.OwnOps
import Derived.DeepKeys4
import Derived.BigQuiet
import Derived.Deep.QuietTactic
/- What was sealed, opened: seal.Open. -/
namespace Go.Proofs.YtomhcccjeadefaaGreatDoor
open Go.RowKit Go.Shelf
set_option linter.unusedVariables false
set_option maxRecDepth 20000
section
variable {P : Program} {Q : Exit → Act → World → Prop}
theorem wp_calls3 {o : Oper} {a : Act} {w : World} {K : Act → World → Prop} (f : FuncId) (hf : ∀ (args : Array Value) (w : World), (callFunc f args).run P w = .ok (.enter f args) w) (x y z : Operand) (ts : Array TypeId) (ho : o.op = .call { callee := .value (.func f), args := #[x, y, z], argTypes := ts }) (v u s : Value) (hx : a.eval x = v) (hy : a.eval y = u) (hz : a.eval z = s) (h : Calls P f #[v, u, s] w fun e w'' => ∃ v, e = .returned v ∧ K (a.put o.dst v) w'') : o.wp P a w K Q :=
  wp_calls f #[v, u, s] (by subst hx; subst hy; subst hz; simp [execOp, ho, resolve, invoke, go_sem, hf]) h
end
structure OpenPost (w : World) (key S : List UInt8) (e : Ending) (w' : World) : Prop where
  right : S.drop (S.length - 16) = tagB key (S.take (S.length - 16)) → ∃ v, e = .returned (.tuple #[v, .int .u64 (numB (S.take 8) : Int), .int .i64 0]) ∧ w'.ownsRow w.heap.size 5 1 v (cross key (numB (S.take 8)) ((S.take (S.length - 16)).drop 8)).length (cellsOf (cross key (numB (S.take 8)) ((S.take (S.length - 16)).drop 8)))
  wrong : S.drop (S.length - 16) ≠ tagB key (S.take (S.length - 16)) → e = .returned (.tuple #[.slice none 0 0, .int .u64 0, .int .i64 10])
  below : Below w.heap.size w w'
set_option maxHeartbeats 2000000 in
theorem open_any {w : World} {K : Array Value} {key : List UInt8} (hK : HV K key) (S : List UInt8) (ab ao n cap : Nat) (hn : n = S.length) (hB : Bytes w (some ⟨ab, ao, none⟩) S) (h24 : 24 ≤ n) (h48 : n ≤ 1048) (hcap : n ≤ cap) (hT : KAt w) :
    Calls Tryz.prog 28 #[.agg K, .slice (some ⟨ab, ao, none⟩) n cap] w (OpenPost w key S) := by
  have HK := hid hK
  have HB := hid hB
  have HT := hid hT
  have Hn := hid hn
  obtain ⟨tg, htg⟩ : ∃ tg, tg = S.drop (n - 16) := ⟨_, rfl⟩
  have ltg : tg.length = 16 := by rw [htg, List.length_drop]; omega
  have hBt : Bytes w (some ⟨ab, ao + (n - 16), none⟩) tg := by rw [htg]; exact hB.drop (n - 16)
  have Htg := hid htg
  have q0 : ¬ (n : Int) < 24 := by omega
  have q1 : ¬ (1048 : Int) < (n : Int) := by omega
  have q2 : IntKind.i64.wrap ((n : Int) - 16) = ((n - 16 : Nat) : Int) := by rw [IntKind.wrap_i64]; omega
  have q3 : (n : Int) - 16 = ((n - 16 : Nat) : Int) := by omega
  have hinf : (Tryz.prog.info? 27).map (·.size) = some K.size := hK.info
  have hln : S.length = n := hn.symm
  clear hK hB hT hn htg
  go_enter Tryz.func28, Tryz.ntmps28
  go_wp2_with fail
  refine (size_any _ 0 (by omega)).mono ?_
  rintro _ w1 ⟨rfl, rfl⟩
  go_wp2_with fail
  refine (size_any _ 1024 (by omega)).mono ?_
  rintro _ w1 ⟨rfl, rfl⟩
  go_wp2_with fail
  have hm : Tryz.prog.follows .mixedOrders = true := by kernel_rfl
  obtain ⟨W0, hW0⟩ : ∃ W0, W0 = (w.alloc (.cells K 27)).drew := ⟨_, rfl⟩
  have b0 : Below w.heap.size w W0 := by rw [hW0]; exact ((Below.refl _ w).alloc (Nat.le_refl _) _).drew
  have k0 : W0.heap[w.heap.size]? = some (.cells K 27 (0, 0)) := by rw [hW0]; exact heap_alloc_new w _
  have hS0 : W0.heap[w.heap.size]? = some (.cells K 27 (0, 0)) ∧ Bytes W0 (some ⟨ab, ao + (n - 16), none⟩) tg := ⟨k0, hBt.below b0⟩
  refine wp_act _ fun A hA => ?_
  refine wp_split (fun A' W => ∃ t19 t20 t21 t22 t23 t24 t25 t26 t27 t28 : Value, A' = ⟨#[.agg K, .slice (some ⟨ab, ao, none⟩) n cap, .pointer (some ⟨w.heap.size, 0, none⟩), undef, .slice none 0 0, .int .u64 0, .int .i64 0, .int .i64 ((n - 16 : Nat) : Int), A.tmps[8]!, A.tmps[9]!, A.tmps[10]!, A.tmps[11]!, A.tmps[12]!, A.tmps[13]!, A.tmps[14]!, A.tmps[15]!, A.tmps[16]!, A.tmps[17]!, A.tmps[18]!, t19, t20, t21, t22, t23, t24, t25, t26, t27, t28, .bool (!(tg == tagB key (S.take (n - 16)))), undef, undef, undef, undef, undef, undef, undef, undef, undef, undef], []⟩ ∧ W.heap[w.heap.size]? = some (.cells K 27 (0, 0)) ∧ Below w.heap.size w W) ?_ ?_
  · have sz : A.tmps.size = 40 := by rw [hA]; rfl
    have e1 : A.eval (.tmp 1) = .slice (some ⟨ab, ao, none⟩) n cap := by rw [hA]; rfl
    have e2 : A.eval (.tmp 2) = .pointer (some ⟨w.heap.size, 0, none⟩) := by rw [hA]; rfl
    have e7 : A.eval (.tmp 7) = .int .i64 ((n - 16 : Nat) : Int) := by rw [hA]; rfl
    refine wp_region_held (S := fun W9 => W9.heap[w.heap.size]? = some (.cells K 27 (0, 0)) ∧ Bytes W9 (some ⟨ab, ao + (n - 16), none⟩) tg) hm ?_
    rw [show ({ (w.alloc (.cells K 27)) with drawn := (w.alloc (.cells K 27)).drawn + 1 } : World) = W0 from hW0.symm]
    clear hW0
    refine wpAnyH_take (i := 0) (v := .slice (some ⟨ab, ao, none⟩) n cap) rfl (by kernel_rfl) (by kernel_rfl) (by kernel_rfl) (fun _ _ _ h => nomatch h.1) (yields_move (by simp [Region.wanted]) (.tmp 1) rfl _ e1) hS0 ?_
    refine wpAnyH_take (i := 1) (v := .int .i64 ((n - 16 : Nat) : Int)) rfl (by kernel_rfl) (by kernel_rfl) (by kernel_rfl) (fun _ _ _ h => nomatch h.1) (yields_move (by simp [Region.wanted]) (.tmp 7) rfl _ ((ev_ne _ _ (by decide)).trans e7)) hS0 ?_
    refine wpAnyH_take (i := 2) (v := .slice (some ⟨ab, ao + (n - 16), none⟩) (n - (n - 16)) (cap - (n - 16))) rfl (by kernel_rfl) (by kernel_rfl) (by kernel_rfl) (fun _ _ _ h => nomatch h.1) (y_from (by simp [Region.wanted]) (.tmp 19) 20 rfl ab ao n cap (n - 16) ((ev_ne _ _ (by decide)).trans (ev_eq _ _ (by simp [sz]))) (ev_eq _ _ (by simp [put_sz, sz])) (by omega) hcap) hS0 ?_
    refine wpAnyH_take (i := 3) (v := .pointer (some ⟨ab, ao + (n - 16), none⟩)) rfl (by kernel_rfl) (by kernel_rfl) (by kernel_rfl) (fun _ _ _ h => nomatch h.1) (y_arr (by simp [Region.wanted]) (.tmp 21) rfl _ _ _ (ev_eq _ _ (by simp [put_sz, sz])) (by omega)) hS0 ?_
    refine wpAnyH_take (i := 4) (v := .agg (bvs tg)) rfl (by kernel_rfl) (by kernel_rfl) (by kernel_rfl) (fun _ _ _ h => nomatch h.1) (y_loadT (by simp [Region.wanted]) (.tmp 22) rfl ab (ao + (n - 16)) tg ltg (ev_eq _ _ (by simp [put_sz, sz])) (fun _ h => h.2)) hS0 ?_
    refine wpAnyH_take (i := 5) (v := .agg K) rfl (by kernel_rfl) (by kernel_rfl) (by kernel_rfl) (fun _ _ _ h => nomatch h.1) (y_loadK (by simp [Region.wanted]) (.tmp 2) rfl w.heap.size HK.out ((ev_ne _ _ (by decide)).trans ((ev_ne _ _ (by decide)).trans ((ev_ne _ _ (by decide)).trans ((ev_ne _ _ (by decide)).trans ((ev_ne _ _ (by decide)).trans e2))))) (fun _ h => h.1)) hS0 ?_
    refine wpAnyH_take (i := 6) (v := .slice (some ⟨ab, ao, none⟩) n cap) rfl (by kernel_rfl) (by kernel_rfl) (by kernel_rfl) (fun _ _ _ h => nomatch h.1) (yields_move (by simp [Region.wanted]) (.tmp 1) rfl _ ((ev_ne _ _ (by decide)).trans ((ev_ne _ _ (by decide)).trans ((ev_ne _ _ (by decide)).trans ((ev_ne _ _ (by decide)).trans ((ev_ne _ _ (by decide)).trans ((ev_ne _ _ (by decide)).trans e1))))))) hS0 ?_
    refine wpAnyH_take (i := 7) (v := .int .i64 ((n - 16 : Nat) : Int)) rfl (by kernel_rfl) (by kernel_rfl) (by kernel_rfl) (fun _ _ _ h => nomatch h.1) (yields_move (by simp [Region.wanted]) (.tmp 7) rfl _ ((ev_ne _ _ (by decide)).trans ((ev_ne _ _ (by decide)).trans ((ev_ne _ _ (by decide)).trans ((ev_ne _ _ (by decide)).trans ((ev_ne _ _ (by decide)).trans ((ev_ne _ _ (by decide)).trans ((ev_ne _ _ (by decide)).trans e7)))))))) hS0 ?_
    refine wpAnyH_take (i := 8) (v := .slice (some ⟨ab, ao, none⟩) (n - 16) cap) rfl (by kernel_rfl) (by kernel_rfl) (by kernel_rfl) (fun _ _ _ h => nomatch h.1) (y_upto (by simp [Region.wanted]) (.tmp 25) 26 rfl ab ao n cap (n - 16) ((ev_ne _ _ (by decide)).trans (ev_eq _ _ (by simp [put_sz, sz]))) (ev_eq _ _ (by simp [put_sz, sz])) (by omega)) hS0 ?_
    obtain ⟨A2, hA2⟩ : ∃ A2, A2 = (((((((((A.put (some 19) (.slice (some ⟨ab, ao, none⟩) n cap)).put (some 20) (.int .i64 ((n - 16 : Nat) : Int))).put (some 21) (.slice (some ⟨ab, ao + (n - 16), none⟩) (n - (n - 16)) (cap - (n - 16)))).put (some 22) (.pointer (some ⟨ab, ao + (n - 16), none⟩))).put (some 23) (.agg (bvs tg))).put (some 24) (.agg K)).put (some 25) (.slice (some ⟨ab, ao, none⟩) n cap)).put (some 26) (.int .i64 ((n - 16 : Nat) : Int))).put (some 27) (.slice (some ⟨ab, ao, none⟩) (n - 16) cap)) := ⟨_, rfl⟩
    show wpAnyH _ _ _ _ _ _ _ (((((((((A.put (some 19) (.slice (some ⟨ab, ao, none⟩) n cap)).put (some 20) (.int .i64 ((n - 16 : Nat) : Int))).put (some 21) (.slice (some ⟨ab, ao + (n - 16), none⟩) (n - (n - 16)) (cap - (n - 16)))).put (some 22) (.pointer (some ⟨ab, ao + (n - 16), none⟩))).put (some 23) (.agg (bvs tg))).put (some 24) (.agg K)).put (some 25) (.slice (some ⟨ab, ao, none⟩) n cap)).put (some 26) (.int .i64 ((n - 16 : Nat) : Int))).put (some 27) (.slice (some ⟨ab, ao, none⟩) (n - 16) cap)) _
    have z2 : A2.tmps.size = 40 := by rw [hA2]; simp [put_sz, sz]
    have z24 : A2.eval (.tmp 24) = .agg K := by rw [hA2]; exact ((ev_ne _ _ (by decide)).trans ((ev_ne _ _ (by decide)).trans ((ev_ne _ _ (by decide)).trans (ev_eq _ _ (by simp [put_sz, sz])))))
    have z27 : A2.eval (.tmp 27) = .slice (some ⟨ab, ao, none⟩) (n - 16) cap := by rw [hA2]; exact (ev_eq _ _ (by simp [put_sz, sz]))
    have z23 : A2.eval (.tmp 23) = .agg (bvs tg) := by rw [hA2]; exact ((ev_ne _ _ (by decide)).trans ((ev_ne _ _ (by decide)).trans ((ev_ne _ _ (by decide)).trans ((ev_ne _ _ (by decide)).trans (ev_eq _ _ (by simp [put_sz, sz]))))))
    rw [← hA2]
    refine wpAnyH_all (rs := [9]) (by kernel_rfl) (by simp) fun i9 hm9 => ?_
    obtain rfl : i9 = 9 := by simpa using hm9
    refine wpOp_own rfl rfl fun K9 hK9 => ?_
    refine wp_calls2 51 hf_tagOf (.tmp 24) (.tmp 27) _ rfl (.agg K) (.slice (some ⟨ab, ao, none⟩) (n - 16) cap) z24 z27 ?_
    refine (tagOf_any HK.out (S.take (n - 16)) (some ⟨ab, ao, none⟩) (n - 16) cap (by rw [List.length_take]; omega) ((HB.out.below b0).take _) (fun e => by cases e) (by rw [List.length_take]; omega) (HT.out.below b0)).mono ?_
    rintro _ W1 ⟨T, rfl, hT1, hb1⟩
    have b1 : Below w.heap.size w W1 := Below.on' b0 hb1
    have k1 := (hb1.block _ (heap_lt k0)).trans k0
    refine ⟨_, rfl, hK9 _ _ ⟨⟨k1, (hBt.below b1)⟩, ?_⟩⟩
    clear hK9 K9 hm9
    show wpAnyH _ _ _ _ _ _ _ (A2.put (some 28) (.agg T)) _
    refine wpAnyH_take (i := 10) (v := .bool (!(tg == tagB key (S.take (n - 16))))) rfl (by kernel_rfl) (by kernel_rfl) (by kernel_rfl) (fun _ _ _ h => nomatch h.1) (y_neqT (by simp [Region.wanted]) (.tmp 23) (.tmp 28) rfl _ _ ⟨rfl, ltg⟩ hT1.out ((ev_ne _ _ (by decide)).trans z23) (ev_eq _ _ (by simp [z2]))) ⟨k1, hBt.below b1⟩ ?_
    refine wpAnyH_done (by kernel_rfl) ⟨rfl, (.slice (some ⟨ab, ao, none⟩) n cap : Value), (.int .i64 ((n - 16 : Nat) : Int) : Value), (.slice (some ⟨ab, ao + (n - 16), none⟩) (n - (n - 16)) (cap - (n - 16)) : Value), (.pointer (some ⟨ab, ao + (n - 16), none⟩) : Value), (.agg (bvs tg) : Value), (.agg K : Value), (.slice (some ⟨ab, ao, none⟩) n cap : Value), (.int .i64 ((n - 16 : Nat) : Int) : Value), (.slice (some ⟨ab, ao, none⟩) (n - 16) cap : Value), .agg T, ?_, k1, b1⟩ _
    rw [hA2, hA]; simp [Act.put]
  · rintro aa W ⟨t19, t20, t21, t22, t23, t24, t25, t26, t27, t28, rfl, hk, hb⟩
    have Hk := hid hk
    have Hb := hid hb
    clear hk hb k0 b0 hS0 hW0
    generalize A.tmps[8]! = x8, A.tmps[9]! = x9, A.tmps[10]! = x10, A.tmps[11]! = x11, A.tmps[12]! = x12, A.tmps[13]! = x13, A.tmps[14]! = x14, A.tmps[15]! = x15, A.tmps[16]! = x16, A.tmps[17]! = x17, A.tmps[18]! = x18
    clear hA
    by_cases heq : tg = tagB key (S.take (n - 16))
    · have hbq : (!(tg == tagB key (S.take (n - 16)))) = false := by rw [heq]; simp
      rw [hbq]
      have Heq := hid heq
      clear hbq heq
      have q8 : (8 : Int) ≤ (cap : Int) := by omega
      have HB8 : Hid (Bytes W (some ⟨ab, ao, none⟩) (S.take 8)) := (HB.out.below Hb.out).take 8
      have l8 : (S.take 8).length = 8 := by rw [List.length_take]; omega
      go_wp2_with fail
      refine (number_any (S.take 8) (some ⟨ab, ao, none⟩) 8 cap l8.symm HB8.out (by omega)).mono ?_
      rintro _ W3 ⟨rfl, hb3⟩
      have b3 : Below w.heap.size w W3 := Below.on' Hb.out hb3
      have k3 := (hb3.block _ (heap_lt Hk.out)).trans Hk.out
      clear hb3
      have B3 := hid b3
      have K3 := hid k3
      clear b3 k3
      go_wp2_with fail
      obtain ⟨W4, hW4⟩ : ∃ W4, W4 = W3.drew := ⟨_, rfl⟩
      have b4 : Below w.heap.size w W4 := by rw [hW4]; exact B3.out.drew
      have k4 : W4.heap[w.heap.size]? = some (.cells K 27 (0, 0)) := by rw [hW4]; exact K3.out
      refine wp_act _ fun A hA => ?_
      refine wp_split (fun A' W => ∃ t33 t34 t35 t36 t37 t39 v : Value, A' = (((((((((A.put (some 33) t33).put (some 34) t34).put (some 35) t35).put (some 36) t36).put (some 37) t37).put (some 39) t39).put (some 38) v).put (some 4) v).put (some 5) (.int .u64 (numB (S.take 8) : Int))).put (some 6) (.int .i64 0) ∧ W.ownsRow w.heap.size 5 1 v (cross key (numB (S.take 8)) ((S.take (n - 16)).drop 8)).length (cellsOf (cross key (numB (S.take 8)) ((S.take (n - 16)).drop 8))) ∧ Below w.heap.size w W) ?_ ?_
      · have sz : A.tmps.size = 40 := by rw [hA]; rfl
        have e1 : A.eval (.tmp 1) = .slice (some ⟨ab, ao, none⟩) n cap := by rw [hA]; rfl
        have e2 : A.eval (.tmp 2) = .pointer (some ⟨w.heap.size, 0, none⟩) := by rw [hA]; rfl
        have e5 : A.eval (.tmp 5) = .int .u64 (numB (S.take 8) : Int) := by rw [hA]; rfl
        have e7 : A.eval (.tmp 7) = .int .i64 ((n - 16 : Nat) : Int) := by rw [hA]; rfl
        refine wp_region_held (S := fun W9 => W9.heap[w.heap.size]? = some (.cells K 27 (0, 0))) hm ?_
        rw [show ({ W3 with drawn := W3.drawn + 1 } : World) = W4 from hW4.symm]
        clear hW4
        refine wpAnyH_take (i := 0) (v := .agg K) rfl (by kernel_rfl) (by kernel_rfl) (by kernel_rfl) (fun _ _ _ h => nomatch h.1) (y_loadK (by simp [Region.wanted]) (.tmp 2) rfl w.heap.size HK.out e2 (fun _ h => h)) k4 ?_
        refine wpAnyH_take (i := 1) (v := .int .u64 (numB (S.take 8) : Int)) rfl (by kernel_rfl) (by kernel_rfl) (by kernel_rfl) (fun _ _ _ h => nomatch h.1) (yields_move (by simp [Region.wanted]) (.tmp 5) rfl _ ((ev_ne _ _ (by decide)).trans e5)) k4 ?_
        refine wpAnyH_take (i := 2) (v := .slice (some ⟨ab, ao, none⟩) n cap) rfl (by kernel_rfl) (by kernel_rfl) (by kernel_rfl) (fun _ _ _ h => nomatch h.1) (yields_move (by simp [Region.wanted]) (.tmp 1) rfl _ ((ev_ne _ _ (by decide)).trans ((ev_ne _ _ (by decide)).trans e1))) k4 ?_
        refine wpAnyH_take (i := 3) (v := .int .i64 ((n - 16 : Nat) : Int)) rfl (by kernel_rfl) (by kernel_rfl) (by kernel_rfl) (fun _ _ _ h => nomatch h.1) (yields_move (by simp [Region.wanted]) (.tmp 7) rfl _ ((ev_ne _ _ (by decide)).trans ((ev_ne _ _ (by decide)).trans ((ev_ne _ _ (by decide)).trans e7)))) k4 ?_
        refine wpAnyH_take (i := 4) (v := .slice (some ⟨ab, ao + 8, none⟩) (n - 16 - 8) (cap - 8)) rfl (by kernel_rfl) (by kernel_rfl) (by kernel_rfl) (fun _ _ _ h => nomatch h.1) (y_part (by simp [Region.wanted]) (.tmp 35) 36 rfl ab ao n cap (n - 16) ((ev_ne _ _ (by decide)).trans (ev_eq _ _ (by simp [put_sz, sz]))) (ev_eq _ _ (by simp [put_sz, sz])) (by omega) (by omega)) k4 ?_
        refine wpAnyH_take (i := 6) (v := .int .u64 (numB (S.take 8) : Int)) rfl (by kernel_rfl) (by kernel_rfl) (by kernel_rfl) (fun _ _ _ h => nomatch h.1) (yields_move (by simp [Region.wanted]) (.tmp 5) rfl _ ((ev_ne _ _ (by decide)).trans ((ev_ne _ _ (by decide)).trans ((ev_ne _ _ (by decide)).trans ((ev_ne _ _ (by decide)).trans ((ev_ne _ _ (by decide)).trans e5)))))) k4 ?_
        obtain ⟨A2, hA2⟩ : ∃ A2, A2 = ((((((A.put (some 33) (.agg K)).put (some 34) (.int .u64 (numB (S.take 8) : Int))).put (some 35) (.slice (some ⟨ab, ao, none⟩) n cap)).put (some 36) (.int .i64 ((n - 16 : Nat) : Int))).put (some 37) (.slice (some ⟨ab, ao + 8, none⟩) (n - 16 - 8) (cap - 8))).put (some 39) (.int .u64 (numB (S.take 8) : Int))) := ⟨_, rfl⟩
        show wpAnyH _ _ _ _ _ _ _ ((((((A.put (some 33) (.agg K)).put (some 34) (.int .u64 (numB (S.take 8) : Int))).put (some 35) (.slice (some ⟨ab, ao, none⟩) n cap)).put (some 36) (.int .i64 ((n - 16 : Nat) : Int))).put (some 37) (.slice (some ⟨ab, ao + 8, none⟩) (n - 16 - 8) (cap - 8))).put (some 39) (.int .u64 (numB (S.take 8) : Int))) _
        have z2 : A2.tmps.size = 40 := by rw [hA2]; simp [put_sz, sz]
        have z33 : A2.eval (.tmp 33) = .agg K := by rw [hA2]; exact ((ev_ne _ _ (by decide)).trans ((ev_ne _ _ (by decide)).trans ((ev_ne _ _ (by decide)).trans ((ev_ne _ _ (by decide)).trans ((ev_ne _ _ (by decide)).trans (ev_eq _ _ (by simp [sz])))))))
        have z34 : A2.eval (.tmp 34) = .int .u64 (numB (S.take 8) : Int) := by rw [hA2]; exact ((ev_ne _ _ (by decide)).trans ((ev_ne _ _ (by decide)).trans ((ev_ne _ _ (by decide)).trans ((ev_ne _ _ (by decide)).trans (ev_eq _ _ (by simp [put_sz, sz]))))))
        have z37 : A2.eval (.tmp 37) = .slice (some ⟨ab, ao + 8, none⟩) (n - 16 - 8) (cap - 8) := by rw [hA2]; exact ((ev_ne _ _ (by decide)).trans (ev_eq _ _ (by simp [put_sz, sz])))
        have z39 : A2.eval (.tmp 39) = .int .u64 (numB (S.take 8) : Int) := by rw [hA2]; exact (ev_eq _ _ (by simp [put_sz, sz]))
        rw [← hA2]
        refine wpAnyH_all (rs := [5]) (by kernel_rfl) (by simp) fun i9 hm9 => ?_
        obtain rfl : i9 = 5 := by simpa using hm9
        refine wpOp_own rfl rfl fun K9 hK9 => ?_
        refine wp_calls3 50 hf_crossed (.tmp 33) (.tmp 34) (.tmp 37) _ rfl (.agg K) (.int .u64 (numB (S.take 8) : Int)) (.slice (some ⟨ab, ao + 8, none⟩) (n - 16 - 8) (cap - 8)) z33 z34 z37 ?_
        refine (crossed_any HK.out (numB (S.take 8)) ((S.take (n - 16)).drop 8) (some ⟨ab, ao + 8, none⟩) (n - 16 - 8) (cap - 8) (by rw [List.length_drop, List.length_take]; omega) (((HB.out.below b4).take _).drop 8) (by rw [List.length_drop, List.length_take]; omega) (HT.out.below b4)).mono ?_
        rintro _ W5 ⟨v5, rfl, hown5, hb5⟩
        have b5 : Below w.heap.size w W5 := Below.on' b4 hb5
        have k5 := (hb5.block _ (heap_lt k4)).trans k4
        refine ⟨_, rfl, hK9 _ _ ⟨k5, ?_⟩⟩
        clear hK9 K9 hm9
        show wpAnyH _ _ _ _ _ _ _ (A2.put (some 38) v5) _
        refine wpAnyH_take (i := 7) (v := v5) rfl (by kernel_rfl) (by kernel_rfl) (by kernel_rfl) (fun _ _ _ h => nomatch h.1) (y_assign (by simp [Region.wanted]) (.tmp 38) rfl _ (ev_eq _ _ (by simp [z2]))) k5 ?_
        refine wpAnyH_take (i := 8) (v := .int .u64 (numB (S.take 8) : Int)) rfl (by kernel_rfl) (by kernel_rfl) (by kernel_rfl) (fun _ _ _ h => nomatch h.1) (y_assign (by simp [Region.wanted]) (.tmp 39) rfl _ ((ev_ne _ _ (by decide)).trans ((ev_ne _ _ (by decide)).trans z39))) k5 ?_
        refine wpAnyH_take (i := 9) (v := .int .i64 0) rfl (by kernel_rfl) (by kernel_rfl) (by kernel_rfl) (fun _ _ _ h => nomatch h.1) (y_assign (by simp [Region.wanted]) (.const (.int .i64 0)) rfl _ rfl) k5 ?_
        refine wpAnyH_done (by kernel_rfl) ⟨rfl, (.agg K : Value), (.int .u64 (numB (S.take 8) : Int) : Value), (.slice (some ⟨ab, ao, none⟩) n cap : Value), (.int .i64 ((n - 16 : Nat) : Int) : Value), (.slice (some ⟨ab, ao + 8, none⟩) (n - 16 - 8) (cap - 8) : Value), (.int .u64 (numB (S.take 8) : Int) : Value), v5, ?_, own_mono hown5 b4.size, b5⟩ _
        rw [hA2, hA]; simp [Act.put]
      · rintro _ W5 ⟨t33, t34, t35, t36, t37, t39, v, rfl, hown, hb5⟩
        rw [hA]
        simp only [Act.put, List.setIfInBounds_toArray, List.set_cons_zero, List.set_cons_succ]
        have Hown := hid hown
        have Hb5 := hid hb5
        clear hown hb5 hA b4 k4 hW4
        go_wp2
        refine bodyPost_ret (results_tmp3 rfl _ _ _) rfl ⟨fun _ => ?_, fun h => ?_, Hb5.out⟩
        · rw [hln]
          exact ⟨v, rfl, Hown.out⟩
        · exact absurd (by rw [hln, ← Htg.out]; exact Heq.out) h
    · have hbq : (!(tg == tagB key (S.take (n - 16)))) = true := by simp [heq]
      rw [hbq]
      have Heq := hid heq
      clear hbq heq
      go_wp2
      refine bodyPost_ret (results_tmp3 rfl _ _ _) rfl ⟨fun h => ?_, fun _ => rfl, Hb.out⟩
      exact absurd (by rw [hln, ← Htg.out] at h; exact h) Heq.out
end Go.Proofs.YtomhcccjeadefaaGreatDoor
/- A tree of keys in memory: New, reach, version, Current, by contracts. -/
namespace Go.Proofs.YtomhcccjeadefaaGreatDoor
open Go.RowKit Go.Maps
set_option linter.unusedVariables false
set_option maxRecDepth 20000
theorem laidOutJ : laidOutB Tryz.prog = true := by kernel_rfl
theorem lawPlace : Keyed Tryz.prog 80 := Keyed.of_law (deep_law_laid laidOutJ (m := 2) (by omega) (of_decide_eq_true (by kernel_rfl)) (by kernel_rfl) (by kernel_rfl))
theorem lawStr : Keyed Tryz.prog 9 := string_keyed Tryz.underlying9
def treeC (root : List UInt8) (mv mg n : Nat) : List Value := cellsOf root ++ [.map (some mv), .map (some mg), .int .i64 (n : Int)]
structure TreeAt (w : World) (B g : Nat) (root : List UInt8) (mv mg nv ng : Nat) (V G : DataW Unit) (n : Nat) : Prop where
  obj : w.heap[g]? = some (.cells (treeC root mv mg n).toArray 58 (0, 0))
  vm : w.ownsMap Tryz.prog 80 (plainElem Tryz.prog 3) mv nv V
  gm : w.ownsMap Tryz.prog 9 (unitElem (H := Unit)) mg ng G
  len : root.length = 32
  bg : B ≤ g
  bv : B ≤ mv
  bm : B ≤ mg
section
variable {w w' : World} {B g : Nat} {root : List UInt8} {mv mg nv ng : Nat} {V G : DataW Unit} {n : Nat}
theorem TreeAt.lt (h : TreeAt w B g root mv mg nv ng V G n) : g < w.heap.size := heap_lt h.obj
theorem TreeAt.c32 (h : TreeAt w B g root mv mg nv ng V G n) : w.cell? ⟨g, 32, none⟩ = some (.map (some mv)) := by
  rw [cell_of_row _ _ _ _ _ _ h.obj, treeC, List.getElem?_toArray, List.getElem?_append_right (by rw [cellsOf_length, h.len]; omega), cellsOf_length, h.len]
  rfl
theorem TreeAt.c33 (h : TreeAt w B g root mv mg nv ng V G n) : w.cell? ⟨g, 33, none⟩ = some (.map (some mg)) := by
  rw [cell_of_row _ _ _ _ _ _ h.obj, treeC, List.getElem?_toArray, List.getElem?_append_right (by rw [cellsOf_length, h.len]; omega), cellsOf_length, h.len]
  rfl
theorem TreeAt.c34 (h : TreeAt w B g root mv mg nv ng V G n) : w.cell? ⟨g, 34, none⟩ = some (.int .i64 (n : Int)) := by
  rw [cell_of_row _ _ _ _ _ _ h.obj, treeC, List.getElem?_toArray, List.getElem?_append_right (by rw [cellsOf_length, h.len]; omega), cellsOf_length, h.len]
  rfl
theorem TreeAt.fz (h : TreeAt w B g root mv mg nv ng V G n) (o : Nat) : w.frozen? ⟨g, o, none⟩ = false := frozen_of_row _ _ _ _ _ h.obj
theorem TreeAt.below (h : TreeAt w B g root mv mg nv ng V G n) (hb : Below w.heap.size w w') : TreeAt w' B g root mv mg nv ng V G n := by
  have hgr : w.grownBy w' none := ⟨hb.os, hb.tape, hb.output, hb.size, fun k hk _ => hb.block k hk⟩
  exact ⟨(hb.block g h.lt).trans h.obj, h.vm.kept hgr (by simp), h.gm.kept hgr (by simp), h.len, h.bg, h.bv, h.bm⟩
end
def VerIs (V : DataW Unit) (kl : Lit) (c : Int) : Prop := (Maps.has V kl = true ∧ V.atKey kl (.lit (.int .i64 0)) = .lit (.int .i64 c)) ∨ (Maps.has V kl = false ∧ c = 1)
theorem zeroInt (w : World) : (zeroValue 3).run Tryz.prog w = .ok (.int .i64 0) w := by kernel_rfl
theorem zeroUnit (w : World) : (zeroValue 136).run Tryz.prog w = .ok (.agg #[]) w := by kernel_rfl
set_option maxHeartbeats 1000000 in
theorem version_ok {w : World} {B g : Nat} {root : List UInt8} {mv mg nv ng : Nat} {V G : DataW Unit} {n : Nat} (h : TreeAt w B g root mv mg nv ng V G n) (t u : ByteArray) (kl : Lit) (hk : Go.keyOf Tryz.prog 80 (.agg #[.string t, .string u]) = some kl) (c : Int) (hc : VerIs V kl c) :
    Calls Tryz.prog 26 #[.pointer (some ⟨g, 0, none⟩), .agg #[.string t, .string u]] w fun e w' => e = .returned (.int .i64 c) ∧ Below w.heap.size w w' := by
  have b0 : Below w.heap.size w (w.alloc (.cells #[.string t, .string u] 80)) := (Below.refl _ w).alloc (Nat.le_refl _) _
  have h0 := h.below b0
  have c32 := h0.c32
  obtain ⟨W, hW⟩ : ∃ W, W = w.alloc (.cells #[.string t, .string u] 80) := ⟨_, rfl⟩
  rw [← hW] at h0 b0 c32
  obtain ⟨v, ps, hrun, hv⟩ := h0.vm.look_ok (z := .int .i64 0) lawPlace Tryz.underlying55 (zeroInt _) (plainElem_int Tryz.underlying3 (by decide)) hk
  obtain ⟨c0, rfl, hc0, _⟩ := plainElem_int_inv Tryz.underlying3 hv
  have hlk : ∀ q, (Instr.lookup 55 (.map (some mv)) (.agg #[.string t, .string u]) true).run Tryz.prog (W.drewN q) = .ok (.tuple #[.int .i64 c0, .bool (Maps.has V kl)]) (W.drewN q) := by
    intro q
    obtain ⟨v, ps, hrun', hv'⟩ := (h0.below (below_drewN _ _ q)).vm.look_ok (z := .int .i64 0) lawPlace Tryz.underlying55 (zeroInt _) (plainElem_int Tryz.underlying3 (by decide)) hk
    obtain ⟨c', rfl, hc', _⟩ := plainElem_int_inv Tryz.underlying3 hv'
    have f0 : V.atKey kl (.lit (.int .i64 0)) = .lit (.int .i64 c0) := congrArg Prod.fst hc0
    have f1 : V.atKey kl (.lit (.int .i64 0)) = .lit (.int .i64 c') := congrArg Prod.fst hc'
    have e2 : DataW.lit (H := Unit) (.int .i64 c0) = .lit (.int .i64 c') := f0.symm.trans f1
    injection e2 with e3
    injection e3 with _ e4
    rw [hrun', e4]
  have e9 : V.atKey kl (.lit (.int .i64 0)) = .lit (.int .i64 c0) := congrArg Prod.fst hc0
  have x0 : W.cell? ⟨w.heap.size, 0, none⟩ = some (.string t) := by rw [hW]; exact (World.cell?_alloc_at _ _ _ _ rfl).trans rfl
  have x1 : W.cell? ⟨w.heap.size, 1, none⟩ = some (.string u) := by rw [hW]; exact (World.cell?_alloc_at _ _ _ _ rfl).trans rfl
  have hlt : g < W.heap.size := h0.lt
  have HW := hid hW
  have B0 := hid b0
  have hlk0 := hlk 0
  rcases hc with ⟨h1, h2⟩ | ⟨h1, h2⟩
  · obtain rfl : c = c0 := by
      have e2 : DataW.lit (H := Unit) (.int .i64 c) = .lit (.int .i64 c0) := h2.symm.trans e9
      injection e2 with e3
      injection e3 with _ e4
    rw [h1] at hlk
    clear h h0 hrun hv hc0 h2 e9 hW b0 h1 hk hlk0
    go_enter Tryz.func26, Tryz.ntmps26
    go_wp2
    rw [← HW.out]
    go_quiet (fail)
    go_wp2
    go_ret
    exact ⟨rfl, B0.out.trans (below_drewN _ _ _)⟩
  · subst h2
    rw [h1] at hlk
    clear h h0 hrun hv hc0 e9 hW b0 h1 hk hlk0
    go_enter Tryz.func26, Tryz.ntmps26
    go_wp2
    rw [← HW.out]
    go_quiet (fail)
    go_wp2
    go_ret
    exact ⟨rfl, B0.out.trans (below_drewN _ _ _)⟩
end Go.Proofs.YtomhcccjeadefaaGreatDoor
