/- YthfmpebgmojcaaaDoorQTk + YthfmpebgmojcaaaDoorQLd4 -/
import Derived.Test.YthfmpebgmojcaaaDoorTkG
import Derived.Test.YthfmpebgmojcaaaDoorQLd1
import Derived.Test.YthfmpebgmojcaaaDoorATk2
/- takeEvent of a chain where the row is no event's: its regions, over a frame that is a letter. -/
namespace Go.Proofs.YthfmpebgmojcaaaDoor
open Go.RowKit
set_option linter.unusedVariables false
set_option maxRecDepth 20000
def TA (R : Nat) (ad : Option Addr) (n cp : Nat) (key : ByteArray) (V : World) : Prop := V.cell? ⟨R, 0, none⟩ = some (.string key) ∧ V.cell? ⟨R, 1, none⟩ = some (.slice ad n cp)
theorem TA.below {R : Nat} {ad : Option Addr} {n cp : Nat} {key : ByteArray} {V V' : World} (h : TA R ad n cp key V) (hb : Below V.heap.size V V') : TA R ad n cp key V' :=
  ⟨(hb.cell (World.block_lt_of_cell? _ _ h.1)).trans h.1, (hb.cell (World.block_lt_of_cell? _ _ h.2)).trans h.2⟩
theorem tooLong_yes (a b : ByteArray) (ha : a.size ≤ maxLen) (hb : b.size ≤ maxLen) (hl : ¬ (a.size ≤ 12 ∧ b.size ≤ 30)) (w : World) : Calls Tryd.prog 73 #[.string a, .string b] w fun e w' => e = .returned (.bool true) ∧ w' = w := by
  refine (tooLong_any a b (Nat.le_trans ha (by decide)) (Nat.le_trans hb (by decide)) w).mono ?_
  rintro e w' ⟨rfl, rfl⟩
  exact ⟨by rw [decide_eq_true (by omega)], rfl⟩
theorem number_no (p : ByteArray) (hp : p.size ≤ maxLen) (lo hi : Nat) (h : numR p.data.toList lo hi = none) (w : World) : Calls Tryd.prog 71 #[.string p, .int .i64 (lo : Int), .int .i64 (hi : Int)] w fun e w' => e = .returned (.tuple #[.int .i64 0, .bool false]) ∧ w' = w := by
  have h1 := numberJ_any p hp lo hi w
  rw [h] at h1
  exact h1
set_option maxHeartbeats 2000000 in
theorem te_keyNo {V0 W5 : World} {R : Nat} {ad : Option Addr} {n cp : Nat} {key : ByteArray} {m : Nat} {A : Act} (sz : A.tmps.size = 69) (e3 : A.eval (.tmp 3) = .pointer (some ⟨R, 0, none⟩)) (e5 : A.eval (.tmp 5) = .int .i64 (m : Int)) (hm4 : m ≤ 4611686018427387904) (hT : TabAt V0) (hk : (key.toList == (evKey m).toList) = false) (hV0 : V0 = W5.drew) (hs0 : TA R ad n cp key V0) :
    (codeTE 2).wp Tryd.prog (fun x a V => x = .normal ∧ a = ((((((((((((((((((((((A.put (some 11) (.pointer (some ⟨R, 0, none⟩))).put (some 12) (.string key)).put (some 13) (.int .i64 (m : Int))).put (some 14) (.string (evKey m))).put (some 15) (.bool true)).put (some 16) (.bool true)).put (some 17) (undef)).put (some 18) (undef)).put (some 19) (undef)).put (some 20) (undef)).put (some 21) (.bool true)).put (some 22) (.bool true)).put (some 23) (undef)).put (some 24) (undef)).put (some 25) (undef)).put (some 26) (undef)).put (some 27) (undef)).put (some 28) (undef)).put (some 29) (undef)).put (some 30) (undef)).put (some 31) (undef)).put (some 32) (.bool true)) ∧ TA R ad n cp key V ∧ Below V0.heap.size V0 V) A W5 := by
  have hm : Tryd.prog.follows .mixedOrders = true := by kernel_rfl
  unfold codeTE
  conv => arg 2; whnf
  refine wp_region_G (fun _ => false) (TA R ad n cp key) hm ?_
  rw [show ({ W5 with drawn := W5.drawn + 1 } : World) = V0 from hV0.symm]
  refine tkG (i := 0) (d := 11) (v := .pointer (some ⟨R, 0, none⟩)) rfl rfl (yg_fld (by simp [Region.wanted]) (.tmp 3) rfl e3 (fun w => by simp [go_sem])) hs0 ?_
  refine tkG (i := 1) (d := 12) (v := .string key) rfl rfl (yg_ld (by simp [Region.wanted]) (.tmp 11) rfl (ev_eq _ _ (by simp [sz])) (fun w hw => by have h1 := hw.1; simp [go_sem, h1])) hs0 ?_
  refine tkG (i := 2) (d := 13) (v := .int .i64 (m : Int)) rfl rfl (yg_mv (by simp [Region.wanted]) (.tmp 5) rfl (evn (evn e5))) hs0 ?_
  refine wpAnyG_all (rs := [3]) (by kernel_rfl) (by simp) fun i1 hm1 => ?_
  obtain rfl : i1 = 3 := by simpa using hm1
  refine wpOp_own rfl rfl fun K1 hK1 => ?_
  refine wp_calls1 41 hf_eventKey (.tmp 13) _ rfl (.int .i64 (m : Int)) (ev_eq _ _ (by simp [put_sz, sz])) ?_
  refine (eventKey_any m hm4 V0 hT).mono ?_
  rintro _ V1 ⟨rfl, hb1⟩
  have hs1 := hs0.below hb1
  refine ⟨_, rfl, hK1 _ _ ⟨.inr hs1, ?_⟩⟩
  clear hK1 K1 hm1
  show wpAnyG _ _ _ _ _ _ _ _ ((((A.put (some 11) (.pointer (some ⟨R, 0, none⟩))).put (some 12) (.string key)).put (some 13) (.int .i64 (m : Int))).put (some 14) (.string (evKey m))) _
  refine tkG (i := 4) (d := 15) (v := .bool true) rfl rfl (yg_bin (by simp [Region.wanted]) (.tmp 12) (.tmp 14) rfl (evn (evn (ev_eq _ _ (by simp [put_sz, sz])))) (ev_eq _ _ (by simp [put_sz, sz])) (fun w => by simp [go_sem, hk])) hs1 ?_
  refine tkG (i := 5) (d := 16) (v := .bool true) rfl rfl (yg_mv (by simp [Region.wanted]) (.tmp 15) rfl (ev_eq _ _ (by simp [put_sz, sz]))) hs1 ?_
  refine tkG (i := 6) (d := 17) (v := undef) rfl rfl (yg_skip (guard_f (i := 5) (d := 16) rfl rfl (by simp [put_sz, sz]) (ev_eq _ _ (by simp [put_sz, sz])))) hs1 ?_
  refine tkG (i := 7) (d := 18) (v := undef) rfl rfl (yg_skip (guard_f (i := 5) (d := 16) rfl rfl (by simp [put_sz, sz]) (evn (ev_eq _ _ (by simp [put_sz, sz]))))) hs1 ?_
  refine tkG (i := 8) (d := 19) (v := undef) rfl rfl (yg_skip (guard_f (i := 5) (d := 16) rfl rfl (by simp [put_sz, sz]) (evn (evn (ev_eq _ _ (by simp [put_sz, sz])))))) hs1 ?_
  obtain ⟨Az1, hAz1⟩ : ∃ Az1, Az1 = (((((((((A.put (some 11) (.pointer (some ⟨R, 0, none⟩))).put (some 12) (.string key)).put (some 13) (.int .i64 (m : Int))).put (some 14) (.string (evKey m))).put (some 15) (.bool true)).put (some 16) (.bool true)).put (some 17) (undef)).put (some 18) (undef)).put (some 19) (undef)) := ⟨_, rfl⟩
  have szAz1 : Az1.tmps.size = 69 := by rw [hAz1]; simp [put_sz, sz]
  have eAz13 : Az1.eval (.tmp 3) = .pointer (some ⟨R, 0, none⟩) := by rw [hAz1]; exact (evn (evn (evn (evn (evn (evn (evn (evn (evn e3)))))))))
  have eAz116 : Az1.eval (.tmp 16) = .bool true := by rw [hAz1]; exact (evn (evn (evn (ev_eq _ _ (by simp [put_sz, sz])))))
  have eAz119 : Az1.eval (.tmp 19) = undef := by rw [hAz1]; exact (ev_eq _ _ (by simp [put_sz, sz]))
  rw [← hAz1]
  refine tkG (i := 9) (d := 20) (v := undef) rfl rfl (yg_skip (guard_f (i := 5) (d := 16) rfl rfl (by simp [szAz1]) eAz116)) hs1 ?_
  refine tkG (i := 10) (d := 21) (v := .bool true) rfl rfl (yg_pickT (by simp [Region.wanted]) (.tmp 16) (.const (.bool true)) (.tmp 20) rfl (evn eAz116) rfl) hs1 ?_
  refine tkG (i := 11) (d := 22) (v := .bool true) rfl rfl (yg_mv (by simp [Region.wanted]) (.tmp 21) rfl (ev_eq _ _ (by simp [put_sz, szAz1]))) hs1 ?_
  refine tkG (i := 12) (d := 23) (v := undef) rfl rfl (yg_skip (guard_f (i := 11) (d := 22) rfl rfl (by simp [put_sz, szAz1]) (ev_eq _ _ (by simp [put_sz, szAz1])))) hs1 ?_
  refine tkG (i := 13) (d := 24) (v := undef) rfl rfl (yg_skip (guard_f (i := 11) (d := 22) rfl rfl (by simp [put_sz, szAz1]) (evn (ev_eq _ _ (by simp [put_sz, szAz1]))))) hs1 ?_
  refine tkG (i := 14) (d := 25) (v := undef) rfl rfl (yg_skip (guard_f (i := 11) (d := 22) rfl rfl (by simp [put_sz, szAz1]) (evn (evn (ev_eq _ _ (by simp [put_sz, szAz1])))))) hs1 ?_
  refine tkG (i := 15) (d := 26) (v := undef) rfl rfl (yg_skip (guard_f (i := 11) (d := 22) rfl rfl (by simp [put_sz, szAz1]) (evn (evn (evn (ev_eq _ _ (by simp [put_sz, szAz1]))))))) hs1 ?_
  refine tkG (i := 16) (d := 27) (v := undef) rfl rfl (yg_skip (guard_f (i := 11) (d := 22) rfl rfl (by simp [put_sz, szAz1]) (evn (evn (evn (evn (ev_eq _ _ (by simp [put_sz, szAz1])))))))) hs1 ?_
  refine tkG (i := 17) (d := 28) (v := undef) rfl rfl (yg_skip (guard_f (i := 11) (d := 22) rfl rfl (by simp [put_sz, szAz1]) (evn (evn (evn (evn (evn (ev_eq _ _ (by simp [put_sz, szAz1]))))))))) hs1 ?_
  obtain ⟨Az2, hAz2⟩ : ∃ Az2, Az2 = (((((((((Az1.put (some 20) (undef)).put (some 21) (.bool true)).put (some 22) (.bool true)).put (some 23) (undef)).put (some 24) (undef)).put (some 25) (undef)).put (some 26) (undef)).put (some 27) (undef)).put (some 28) (undef)) := ⟨_, rfl⟩
  have szAz2 : Az2.tmps.size = 69 := by rw [hAz2]; simp [put_sz, szAz1]
  have eAz222 : Az2.eval (.tmp 22) = .bool true := by rw [hAz2]; exact (evn (evn (evn (evn (evn (evn (ev_eq _ _ (by simp [put_sz, szAz1]))))))))
  have eAz226 : Az2.eval (.tmp 26) = undef := by rw [hAz2]; exact (evn (evn (ev_eq _ _ (by simp [put_sz, szAz1]))))
  have eAz228 : Az2.eval (.tmp 28) = undef := by rw [hAz2]; exact (ev_eq _ _ (by simp [put_sz, szAz1]))
  rw [← hAz2]
  refine tkG (i := 18) (d := 29) (v := undef) rfl rfl (yg_skip (guard_f (i := 11) (d := 22) rfl rfl (by simp [szAz2]) eAz222)) hs1 ?_
  refine tkG (i := 19) (d := 30) (v := undef) rfl rfl (yg_skip (guard_f (i := 11) (d := 22) rfl rfl (by simp [put_sz, szAz2]) (evn eAz222))) hs1 ?_
  refine tkG (i := 20) (d := 31) (v := undef) rfl rfl (yg_skip (guard_f (i := 11) (d := 22) rfl rfl (by simp [put_sz, szAz2]) (evn (evn eAz222)))) hs1 ?_
  refine tkG (i := 21) (d := 32) (v := .bool true) rfl rfl (yg_pickT (by simp [Region.wanted]) (.tmp 22) (.const (.bool true)) (.tmp 31) rfl (evn (evn (evn eAz222))) rfl) hs1 ?_
  refine wpAnyG_done (by kernel_rfl) ⟨rfl, ?_, hs1, hb1⟩ _
  show ((((Az2.put (some 29) (undef)).put (some 30) (undef)).put (some 31) (undef)).put (some 32) (.bool true)) = _
  rw [hAz2, hAz1]
set_option maxHeartbeats 2000000 in
theorem te_colsNo {V0 W5 : World} {R : Nat} {ad : Option Addr} {n cp : Nat} {m : Nat} {A : Act} (sz : A.tmps.size = 69) (e3 : A.eval (.tmp 3) = .pointer (some ⟨R, 0, none⟩)) (e5 : A.eval (.tmp 5) = .int .i64 (m : Int)) (hm4 : m ≤ 4611686018427387904) (hT : TabAt V0) (hn2 : ((n : Int) != 3) = true) (hV0 : V0 = W5.drew) (hs0 : TA R ad n cp (evKey m) V0) :
    (codeTE 2).wp Tryd.prog (fun x a V => x = .normal ∧ a = ((((((((((((((((((((((A.put (some 11) (.pointer (some ⟨R, 0, none⟩))).put (some 12) (.string (evKey m))).put (some 13) (.int .i64 (m : Int))).put (some 14) (.string (evKey m))).put (some 15) (.bool false)).put (some 16) (.bool false)).put (some 17) (.pointer (some ⟨R, 1, none⟩))).put (some 18) (.slice ad n cp)).put (some 19) (.int .i64 (n : Int))).put (some 20) (.bool true)).put (some 21) (.bool true)).put (some 22) (.bool true)).put (some 23) (undef)).put (some 24) (undef)).put (some 25) (undef)).put (some 26) (undef)).put (some 27) (undef)).put (some 28) (undef)).put (some 29) (undef)).put (some 30) (undef)).put (some 31) (undef)).put (some 32) (.bool true)) ∧ TA R ad n cp (evKey m) V ∧ Below V0.heap.size V0 V) A W5 := by
  have hm : Tryd.prog.follows .mixedOrders = true := by kernel_rfl
  unfold codeTE
  conv => arg 2; whnf
  refine wp_region_G (fun _ => false) (TA R ad n cp (evKey m)) hm ?_
  rw [show ({ W5 with drawn := W5.drawn + 1 } : World) = V0 from hV0.symm]
  refine tkG (i := 0) (d := 11) (v := .pointer (some ⟨R, 0, none⟩)) rfl rfl (yg_fld (by simp [Region.wanted]) (.tmp 3) rfl e3 (fun w => by simp [go_sem])) hs0 ?_
  refine tkG (i := 1) (d := 12) (v := .string (evKey m)) rfl rfl (yg_ld (by simp [Region.wanted]) (.tmp 11) rfl (ev_eq _ _ (by simp [sz])) (fun w hw => by have h1 := hw.1; simp [go_sem, h1])) hs0 ?_
  refine tkG (i := 2) (d := 13) (v := .int .i64 (m : Int)) rfl rfl (yg_mv (by simp [Region.wanted]) (.tmp 5) rfl (evn (evn e5))) hs0 ?_
  refine wpAnyG_all (rs := [3]) (by kernel_rfl) (by simp) fun i1 hm1 => ?_
  obtain rfl : i1 = 3 := by simpa using hm1
  refine wpOp_own rfl rfl fun K1 hK1 => ?_
  refine wp_calls1 41 hf_eventKey (.tmp 13) _ rfl (.int .i64 (m : Int)) (ev_eq _ _ (by simp [put_sz, sz])) ?_
  refine (eventKey_any m hm4 V0 hT).mono ?_
  rintro _ V1 ⟨rfl, hb1⟩
  have hs1 := hs0.below hb1
  refine ⟨_, rfl, hK1 _ _ ⟨.inr hs1, ?_⟩⟩
  clear hK1 K1 hm1
  show wpAnyG _ _ _ _ _ _ _ _ ((((A.put (some 11) (.pointer (some ⟨R, 0, none⟩))).put (some 12) (.string (evKey m))).put (some 13) (.int .i64 (m : Int))).put (some 14) (.string (evKey m))) _
  refine tkG (i := 4) (d := 15) (v := .bool false) rfl rfl (yg_bin (by simp [Region.wanted]) (.tmp 12) (.tmp 14) rfl (evn (evn (ev_eq _ _ (by simp [put_sz, sz])))) (ev_eq _ _ (by simp [put_sz, sz])) (fun w => by simp [go_sem])) hs1 ?_
  refine tkG (i := 5) (d := 16) (v := .bool false) rfl rfl (yg_mv (by simp [Region.wanted]) (.tmp 15) rfl (ev_eq _ _ (by simp [put_sz, sz]))) hs1 ?_
  refine tkG (i := 6) (d := 17) (v := .pointer (some ⟨R, 1, none⟩)) rfl rfl (yg_fld (guard_f (i := 5) (d := 16) rfl rfl (by simp [put_sz, sz]) (ev_eq _ _ (by simp [put_sz, sz]))) (.tmp 3) rfl (evn (evn (evn (evn (evn (evn e3)))))) (fun w => by simp [go_sem])) hs1 ?_
  refine tkG (i := 7) (d := 18) (v := .slice ad n cp) rfl rfl (yg_ld (guard_f (i := 5) (d := 16) rfl rfl (by simp [put_sz, sz]) (evn (ev_eq _ _ (by simp [put_sz, sz])))) (.tmp 17) rfl (ev_eq _ _ (by simp [put_sz, sz])) (fun w hw => by have h1 := hw.2; simp [go_sem, h1])) hs1 ?_
  refine tkG (i := 8) (d := 19) (v := .int .i64 (n : Int)) rfl rfl (yg_len (guard_f (i := 5) (d := 16) rfl rfl (by simp [put_sz, sz]) (evn (evn (ev_eq _ _ (by simp [put_sz, sz]))))) 18 rfl (ev_eq _ _ (by simp [put_sz, sz])) (fun w _ => by simp [go_sem])) hs1 ?_
  obtain ⟨Az1, hAz1⟩ : ∃ Az1, Az1 = (((((((((A.put (some 11) (.pointer (some ⟨R, 0, none⟩))).put (some 12) (.string (evKey m))).put (some 13) (.int .i64 (m : Int))).put (some 14) (.string (evKey m))).put (some 15) (.bool false)).put (some 16) (.bool false)).put (some 17) (.pointer (some ⟨R, 1, none⟩))).put (some 18) (.slice ad n cp)).put (some 19) (.int .i64 (n : Int))) := ⟨_, rfl⟩
  have szAz1 : Az1.tmps.size = 69 := by rw [hAz1]; simp [put_sz, sz]
  have eAz13 : Az1.eval (.tmp 3) = .pointer (some ⟨R, 0, none⟩) := by rw [hAz1]; exact (evn (evn (evn (evn (evn (evn (evn (evn (evn e3)))))))))
  have eAz116 : Az1.eval (.tmp 16) = .bool false := by rw [hAz1]; exact (evn (evn (evn (ev_eq _ _ (by simp [put_sz, sz])))))
  have eAz119 : Az1.eval (.tmp 19) = .int .i64 (n : Int) := by rw [hAz1]; exact (ev_eq _ _ (by simp [put_sz, sz]))
  rw [← hAz1]
  refine tkG (i := 9) (d := 20) (v := .bool true) rfl rfl (yg_bin (guard_f (i := 5) (d := 16) rfl rfl (by simp [szAz1]) eAz116) (.tmp 19) (.const (.int .i64 3)) rfl eAz119 rfl (fun w => by simp [go_sem, hn2])) hs1 ?_
  refine tkG (i := 10) (d := 21) (v := .bool true) rfl rfl (yg_pickF (by simp [Region.wanted]) (.tmp 16) (.const (.bool true)) (.tmp 20) rfl (evn eAz116) (ev_eq _ _ (by simp [szAz1]))) hs1 ?_
  refine tkG (i := 11) (d := 22) (v := .bool true) rfl rfl (yg_mv (by simp [Region.wanted]) (.tmp 21) rfl (ev_eq _ _ (by simp [put_sz, szAz1]))) hs1 ?_
  refine tkG (i := 12) (d := 23) (v := undef) rfl rfl (yg_skip (guard_f (i := 11) (d := 22) rfl rfl (by simp [put_sz, szAz1]) (ev_eq _ _ (by simp [put_sz, szAz1])))) hs1 ?_
  refine tkG (i := 13) (d := 24) (v := undef) rfl rfl (yg_skip (guard_f (i := 11) (d := 22) rfl rfl (by simp [put_sz, szAz1]) (evn (ev_eq _ _ (by simp [put_sz, szAz1]))))) hs1 ?_
  refine tkG (i := 14) (d := 25) (v := undef) rfl rfl (yg_skip (guard_f (i := 11) (d := 22) rfl rfl (by simp [put_sz, szAz1]) (evn (evn (ev_eq _ _ (by simp [put_sz, szAz1])))))) hs1 ?_
  refine tkG (i := 15) (d := 26) (v := undef) rfl rfl (yg_skip (guard_f (i := 11) (d := 22) rfl rfl (by simp [put_sz, szAz1]) (evn (evn (evn (ev_eq _ _ (by simp [put_sz, szAz1]))))))) hs1 ?_
  refine tkG (i := 16) (d := 27) (v := undef) rfl rfl (yg_skip (guard_f (i := 11) (d := 22) rfl rfl (by simp [put_sz, szAz1]) (evn (evn (evn (evn (ev_eq _ _ (by simp [put_sz, szAz1])))))))) hs1 ?_
  refine tkG (i := 17) (d := 28) (v := undef) rfl rfl (yg_skip (guard_f (i := 11) (d := 22) rfl rfl (by simp [put_sz, szAz1]) (evn (evn (evn (evn (evn (ev_eq _ _ (by simp [put_sz, szAz1]))))))))) hs1 ?_
  obtain ⟨Az2, hAz2⟩ : ∃ Az2, Az2 = (((((((((Az1.put (some 20) (.bool true)).put (some 21) (.bool true)).put (some 22) (.bool true)).put (some 23) (undef)).put (some 24) (undef)).put (some 25) (undef)).put (some 26) (undef)).put (some 27) (undef)).put (some 28) (undef)) := ⟨_, rfl⟩
  have szAz2 : Az2.tmps.size = 69 := by rw [hAz2]; simp [put_sz, szAz1]
  have eAz222 : Az2.eval (.tmp 22) = .bool true := by rw [hAz2]; exact (evn (evn (evn (evn (evn (evn (ev_eq _ _ (by simp [put_sz, szAz1]))))))))
  have eAz226 : Az2.eval (.tmp 26) = undef := by rw [hAz2]; exact (evn (evn (ev_eq _ _ (by simp [put_sz, szAz1]))))
  have eAz228 : Az2.eval (.tmp 28) = undef := by rw [hAz2]; exact (ev_eq _ _ (by simp [put_sz, szAz1]))
  rw [← hAz2]
  refine tkG (i := 18) (d := 29) (v := undef) rfl rfl (yg_skip (guard_f (i := 11) (d := 22) rfl rfl (by simp [szAz2]) eAz222)) hs1 ?_
  refine tkG (i := 19) (d := 30) (v := undef) rfl rfl (yg_skip (guard_f (i := 11) (d := 22) rfl rfl (by simp [put_sz, szAz2]) (evn eAz222))) hs1 ?_
  refine tkG (i := 20) (d := 31) (v := undef) rfl rfl (yg_skip (guard_f (i := 11) (d := 22) rfl rfl (by simp [put_sz, szAz2]) (evn (evn eAz222)))) hs1 ?_
  refine tkG (i := 21) (d := 32) (v := .bool true) rfl rfl (yg_pickT (by simp [Region.wanted]) (.tmp 22) (.const (.bool true)) (.tmp 31) rfl (evn (evn (evn eAz222))) rfl) hs1 ?_
  refine wpAnyG_done (by kernel_rfl) ⟨rfl, ?_, hs1, hb1⟩ _
  show ((((Az2.put (some 29) (undef)).put (some 30) (undef)).put (some 31) (undef)).put (some 32) (.bool true)) = _
  rw [hAz2, hAz1]
set_option maxHeartbeats 2000000 in
theorem te_longNo {V0 W5 : World} {B g R b o cp : Nat} {c : Ch} {m : Nat} {p q s : ByteArray} {v : Value} {A : Act} (sz : A.tmps.size = 69) (e3 : A.eval (.tmp 3) = .pointer (some ⟨R, 0, none⟩)) (e5 : A.eval (.tmp 5) = .int .i64 (m : Int)) (hm4 : m ≤ 4611686018427387904) (hT : TabAt V0) (hq : q.size ≤ maxLen) (hsz : s.size ≤ maxLen) (hl : ¬ (q.size ≤ 12 ∧ s.size ≤ 30)) (hV0 : V0 = W5.drew) (hs0 : TE R b o cp (evKey m) p q s (fun V => ChAt V B g v c) V0) :
    (codeTE 2).wp Tryd.prog (fun x a V => x = .normal ∧ a = ((((((((((((((((((((((A.put (some 11) (.pointer (some ⟨R, 0, none⟩))).put (some 12) (.string (evKey m))).put (some 13) (.int .i64 (m : Int))).put (some 14) (.string (evKey m))).put (some 15) (.bool false)).put (some 16) (.bool false)).put (some 17) (.pointer (some ⟨R, 1, none⟩))).put (some 18) (.slice (some ⟨b, o, none⟩) 3 cp)).put (some 19) (.int .i64 3)).put (some 20) (.bool false)).put (some 21) (.bool false)).put (some 22) (.bool false)).put (some 23) (.pointer (some ⟨R, 1, none⟩))).put (some 24) (.slice (some ⟨b, o, none⟩) 3 cp)).put (some 25) (.pointer (some ⟨b, o + 1, none⟩))).put (some 26) (.string q)).put (some 27) (.pointer (some ⟨R, 1, none⟩))).put (some 28) (.slice (some ⟨b, o, none⟩) 3 cp)).put (some 29) (.pointer (some ⟨b, o + 2, none⟩))).put (some 30) (.string s)).put (some 31) (.bool true)).put (some 32) (.bool true)) ∧ TE R b o cp (evKey m) p q s (fun V => ChAt V B g v c) V ∧ Below V0.heap.size V0 V) A W5 := by
  have hm : Tryd.prog.follows .mixedOrders = true := by kernel_rfl
  unfold codeTE
  conv => arg 2; whnf
  refine wp_region_G (fun _ => false) (TE R b o cp (evKey m) p q s (fun V => ChAt V B g v c)) hm ?_
  rw [show ({ W5 with drawn := W5.drawn + 1 } : World) = V0 from hV0.symm]
  refine tkG (i := 0) (d := 11) (v := .pointer (some ⟨R, 0, none⟩)) rfl rfl (yg_fld (by simp [Region.wanted]) (.tmp 3) rfl e3 (fun w => by simp [go_sem])) hs0 ?_
  refine tkG (i := 1) (d := 12) (v := .string (evKey m)) rfl rfl (yg_ld (by simp [Region.wanted]) (.tmp 11) rfl (ev_eq _ _ (by simp [sz])) (fun w hw => by have h1 := hw.k0; simp [go_sem, h1])) hs0 ?_
  refine tkG (i := 2) (d := 13) (v := .int .i64 (m : Int)) rfl rfl (yg_mv (by simp [Region.wanted]) (.tmp 5) rfl (evn (evn e5))) hs0 ?_
  refine wpAnyG_all (rs := [3]) (by kernel_rfl) (by simp) fun i1 hm1 => ?_
  obtain rfl : i1 = 3 := by simpa using hm1
  refine wpOp_own rfl rfl fun K1 hK1 => ?_
  refine wp_calls1 41 hf_eventKey (.tmp 13) _ rfl (.int .i64 (m : Int)) (ev_eq _ _ (by simp [put_sz, sz])) ?_
  refine (eventKey_any m hm4 V0 hT).mono ?_
  rintro _ V1 ⟨rfl, hb1⟩
  have hs1 := hs0.keep hb1 (hs0.2.2.below hb1)
  refine ⟨_, rfl, hK1 _ _ ⟨.inr hs1, ?_⟩⟩
  clear hK1 K1 hm1
  show wpAnyG _ _ _ _ _ _ _ _ ((((A.put (some 11) (.pointer (some ⟨R, 0, none⟩))).put (some 12) (.string (evKey m))).put (some 13) (.int .i64 (m : Int))).put (some 14) (.string (evKey m))) _
  refine tkG (i := 4) (d := 15) (v := .bool false) rfl rfl (yg_bin (by simp [Region.wanted]) (.tmp 12) (.tmp 14) rfl (evn (evn (ev_eq _ _ (by simp [put_sz, sz])))) (ev_eq _ _ (by simp [put_sz, sz])) (fun w => by simp [go_sem])) hs1 ?_
  refine tkG (i := 5) (d := 16) (v := .bool false) rfl rfl (yg_mv (by simp [Region.wanted]) (.tmp 15) rfl (ev_eq _ _ (by simp [put_sz, sz]))) hs1 ?_
  refine tkG (i := 6) (d := 17) (v := .pointer (some ⟨R, 1, none⟩)) rfl rfl (yg_fld (guard_f (i := 5) (d := 16) rfl rfl (by simp [put_sz, sz]) (ev_eq _ _ (by simp [put_sz, sz]))) (.tmp 3) rfl (evn (evn (evn (evn (evn (evn e3)))))) (fun w => by simp [go_sem])) hs1 ?_
  refine tkG (i := 7) (d := 18) (v := .slice (some ⟨b, o, none⟩) 3 cp) rfl rfl (yg_ld (guard_f (i := 5) (d := 16) rfl rfl (by simp [put_sz, sz]) (evn (ev_eq _ _ (by simp [put_sz, sz])))) (.tmp 17) rfl (ev_eq _ _ (by simp [put_sz, sz])) (fun w hw => by have h1 := hw.k1; simp [go_sem, h1])) hs1 ?_
  refine tkG (i := 8) (d := 19) (v := .int .i64 3) rfl rfl (yg_len (guard_f (i := 5) (d := 16) rfl rfl (by simp [put_sz, sz]) (evn (evn (ev_eq _ _ (by simp [put_sz, sz]))))) 18 rfl (ev_eq _ _ (by simp [put_sz, sz])) (fun w _ => by simp [go_sem])) hs1 ?_
  obtain ⟨Az1, hAz1⟩ : ∃ Az1, Az1 = (((((((((A.put (some 11) (.pointer (some ⟨R, 0, none⟩))).put (some 12) (.string (evKey m))).put (some 13) (.int .i64 (m : Int))).put (some 14) (.string (evKey m))).put (some 15) (.bool false)).put (some 16) (.bool false)).put (some 17) (.pointer (some ⟨R, 1, none⟩))).put (some 18) (.slice (some ⟨b, o, none⟩) 3 cp)).put (some 19) (.int .i64 3)) := ⟨_, rfl⟩
  have szAz1 : Az1.tmps.size = 69 := by rw [hAz1]; simp [put_sz, sz]
  have eAz13 : Az1.eval (.tmp 3) = .pointer (some ⟨R, 0, none⟩) := by rw [hAz1]; exact (evn (evn (evn (evn (evn (evn (evn (evn (evn e3)))))))))
  have eAz116 : Az1.eval (.tmp 16) = .bool false := by rw [hAz1]; exact (evn (evn (evn (ev_eq _ _ (by simp [put_sz, sz])))))
  have eAz119 : Az1.eval (.tmp 19) = .int .i64 3 := by rw [hAz1]; exact (ev_eq _ _ (by simp [put_sz, sz]))
  rw [← hAz1]
  refine tkG (i := 9) (d := 20) (v := .bool false) rfl rfl (yg_bin (guard_f (i := 5) (d := 16) rfl rfl (by simp [szAz1]) eAz116) (.tmp 19) (.const (.int .i64 3)) rfl eAz119 rfl (fun w => by simp [go_sem])) hs1 ?_
  refine tkG (i := 10) (d := 21) (v := .bool false) rfl rfl (yg_pickF (by simp [Region.wanted]) (.tmp 16) (.const (.bool true)) (.tmp 20) rfl (evn eAz116) (ev_eq _ _ (by simp [szAz1]))) hs1 ?_
  refine tkG (i := 11) (d := 22) (v := .bool false) rfl rfl (yg_mv (by simp [Region.wanted]) (.tmp 21) rfl (ev_eq _ _ (by simp [put_sz, szAz1]))) hs1 ?_
  refine tkG (i := 12) (d := 23) (v := .pointer (some ⟨R, 1, none⟩)) rfl rfl (yg_fld (guard_f (i := 11) (d := 22) rfl rfl (by simp [put_sz, szAz1]) (ev_eq _ _ (by simp [put_sz, szAz1]))) (.tmp 3) rfl (evn (evn (evn eAz13))) (fun w => by simp [go_sem])) hs1 ?_
  refine tkG (i := 13) (d := 24) (v := .slice (some ⟨b, o, none⟩) 3 cp) rfl rfl (yg_ld (guard_f (i := 11) (d := 22) rfl rfl (by simp [put_sz, szAz1]) (evn (ev_eq _ _ (by simp [put_sz, szAz1])))) (.tmp 23) rfl (ev_eq _ _ (by simp [put_sz, szAz1])) (fun w hw => by have h1 := hw.k1; simp [go_sem, h1])) hs1 ?_
  refine tkG (i := 14) (d := 25) (v := .pointer (some ⟨b, o + 1, none⟩)) rfl rfl (yg_ix (guard_f (i := 11) (d := 22) rfl rfl (by simp [put_sz, szAz1]) (evn (evn (ev_eq _ _ (by simp [put_sz, szAz1]))))) (.tmp 24) (.const (.int .i64 1)) rfl (ev_eq _ _ (by simp [put_sz, szAz1])) rfl (fun w => by simp [go_sem])) hs1 ?_
  refine tkG (i := 15) (d := 26) (v := .string q) rfl rfl (yg_ld (guard_f (i := 11) (d := 22) rfl rfl (by simp [put_sz, szAz1]) (evn (evn (evn (ev_eq _ _ (by simp [put_sz, szAz1])))))) (.tmp 25) rfl (ev_eq _ _ (by simp [put_sz, szAz1])) (fun w hw => by have h1 := hw.2.1.2.1; simp [go_sem, h1])) hs1 ?_
  refine tkG (i := 16) (d := 27) (v := .pointer (some ⟨R, 1, none⟩)) rfl rfl (yg_fld (guard_f (i := 11) (d := 22) rfl rfl (by simp [put_sz, szAz1]) (evn (evn (evn (evn (ev_eq _ _ (by simp [put_sz, szAz1]))))))) (.tmp 3) rfl (evn (evn (evn (evn (evn (evn (evn eAz13))))))) (fun w => by simp [go_sem])) hs1 ?_
  refine tkG (i := 17) (d := 28) (v := .slice (some ⟨b, o, none⟩) 3 cp) rfl rfl (yg_ld (guard_f (i := 11) (d := 22) rfl rfl (by simp [put_sz, szAz1]) (evn (evn (evn (evn (evn (ev_eq _ _ (by simp [put_sz, szAz1])))))))) (.tmp 27) rfl (ev_eq _ _ (by simp [put_sz, szAz1])) (fun w hw => by have h1 := hw.k1; simp [go_sem, h1])) hs1 ?_
  obtain ⟨Az2, hAz2⟩ : ∃ Az2, Az2 = (((((((((Az1.put (some 20) (.bool false)).put (some 21) (.bool false)).put (some 22) (.bool false)).put (some 23) (.pointer (some ⟨R, 1, none⟩))).put (some 24) (.slice (some ⟨b, o, none⟩) 3 cp)).put (some 25) (.pointer (some ⟨b, o + 1, none⟩))).put (some 26) (.string q)).put (some 27) (.pointer (some ⟨R, 1, none⟩))).put (some 28) (.slice (some ⟨b, o, none⟩) 3 cp)) := ⟨_, rfl⟩
  have szAz2 : Az2.tmps.size = 69 := by rw [hAz2]; simp [put_sz, szAz1]
  have eAz222 : Az2.eval (.tmp 22) = .bool false := by rw [hAz2]; exact (evn (evn (evn (evn (evn (evn (ev_eq _ _ (by simp [put_sz, szAz1]))))))))
  have eAz226 : Az2.eval (.tmp 26) = .string q := by rw [hAz2]; exact (evn (evn (ev_eq _ _ (by simp [put_sz, szAz1]))))
  have eAz228 : Az2.eval (.tmp 28) = .slice (some ⟨b, o, none⟩) 3 cp := by rw [hAz2]; exact (ev_eq _ _ (by simp [put_sz, szAz1]))
  rw [← hAz2]
  refine tkG (i := 18) (d := 29) (v := .pointer (some ⟨b, o + 2, none⟩)) rfl rfl (yg_ix (guard_f (i := 11) (d := 22) rfl rfl (by simp [szAz2]) eAz222) (.tmp 28) (.const (.int .i64 2)) rfl eAz228 rfl (fun w => by simp [go_sem])) hs1 ?_
  refine tkG (i := 19) (d := 30) (v := .string s) rfl rfl (yg_ld (guard_f (i := 11) (d := 22) rfl rfl (by simp [put_sz, szAz2]) (evn eAz222)) (.tmp 29) rfl (ev_eq _ _ (by simp [szAz2])) (fun w hw => by have h1 := hw.2.1.2.2; simp [go_sem, h1])) hs1 ?_
  refine wpAnyG_all (rs := [20]) (by kernel_rfl) (by simp) fun i2 hm2 => ?_
  obtain rfl : i2 = 20 := by simpa using hm2
  refine opOwn rfl (guard_f (i := 11) (d := 22) rfl rfl (by simp [put_sz, szAz2]) (evn (evn eAz222))) fun K2 hK2 => ?_
  refine wp_calls2 73 hf_tooLong (.tmp 26) (.tmp 30) _ rfl (.string q) (.string s) (evn (evn eAz226)) (ev_eq _ _ (by simp [put_sz, szAz2])) ?_
  refine (tooLong_yes q s hq hsz hl V1).mono ?_
  rintro _ V2 ⟨rfl, e2⟩
  subst V2
  refine ⟨_, rfl, hK2 _ _ ⟨.inr hs1, ?_⟩⟩
  clear hK2 K2 hm2
  show wpAnyG _ _ _ _ _ _ _ _ (((Az2.put (some 29) (.pointer (some ⟨b, o + 2, none⟩))).put (some 30) (.string s)).put (some 31) (.bool true)) _
  refine tkG (i := 21) (d := 32) (v := .bool true) rfl rfl (yg_pickF (by simp [Region.wanted]) (.tmp 22) (.const (.bool true)) (.tmp 31) rfl (evn (evn (evn eAz222))) (ev_eq _ _ (by simp [put_sz, szAz2]))) hs1 ?_
  refine wpAnyG_done (by kernel_rfl) ⟨rfl, ?_, hs1, hb1⟩ _
  show ((((Az2.put (some 29) (.pointer (some ⟨b, o + 2, none⟩))).put (some 30) (.string s)).put (some 31) (.bool true)).put (some 32) (.bool true)) = _
  rw [hAz2, hAz1]
set_option maxHeartbeats 2000000 in
theorem te_numNo {V0 W5 : World} {B g R b o cp : Nat} {c : Ch} {key p q s : ByteArray} {v : Value} {A : Act} (sz : A.tmps.size = 69) (e3 : A.eval (.tmp 3) = .pointer (some ⟨R, 0, none⟩)) (e0 : A.eval (.tmp 0) = .pointer (some ⟨g, 0, none⟩)) (ok : Lens c) (hfew : c.ev.length ≤ 1000) (hp : p.size ≤ maxLen) (hno : numR p.data.toList (lastT c) c.la = none) (hV0 : V0 = W5.drew) (hs0 : TE R b o cp key p q s (fun V => ChAt V B g v c) V0) :
    (codeTE 4).wp Tryd.prog (fun x a V => x = .normal ∧ a = ((((((((((((((((A.put (some 34) (.pointer (some ⟨R, 1, none⟩))).put (some 35) (.slice (some ⟨b, o, none⟩) 3 cp)).put (some 36) (.pointer (some ⟨b, o, none⟩))).put (some 37) (.string p)).put (some 38) (.pointer (some ⟨g, 0, none⟩))).put (some 40) (.pointer (some ⟨g, 0, none⟩))).put (some 41) (.pointer (some ⟨g, 0, none⟩))).put (some 42) (.pointer (some ⟨g, 99, none⟩))).put (some 43) (.int .i64 (c.la : Int))).put (some 39) (.int .i64 (lastT c : Int))).put (some 44) (.tuple #[.int .i64 0, .bool false])).put (some 33) (.tuple #[.int .i64 0, .bool false])).put (some 45) (.int .i64 0)).put (some 46) (.bool false)).put (some 6) (.int .i64 0)).put (some 7) (.bool false)) ∧ TE R b o cp key p q s (fun V => ChAt V B g v c) V ∧ Below V0.heap.size V0 V) A W5 := by
  have hm : Tryd.prog.follows .mixedOrders = true := by kernel_rfl
  unfold codeTE
  conv => arg 2; whnf
  refine wp_region_G (fun _ => false) (TE R b o cp key p q s (fun V => ChAt V B g v c)) hm ?_
  rw [show ({ W5 with drawn := W5.drawn + 1 } : World) = V0 from hV0.symm]
  refine tkG (i := 0) (d := 34) (v := .pointer (some ⟨R, 1, none⟩)) rfl rfl (yg_fld (by simp [Region.wanted]) (.tmp 3) rfl e3 (fun w => by simp [go_sem])) hs0 ?_
  refine tkG (i := 1) (d := 35) (v := .slice (some ⟨b, o, none⟩) 3 cp) rfl rfl (yg_ld (by simp [Region.wanted]) (.tmp 34) rfl (ev_eq _ _ (by simp [sz])) (fun w hw => by have h1 := hw.k1; simp [go_sem, h1])) hs0 ?_
  refine tkG (i := 2) (d := 36) (v := .pointer (some ⟨b, o, none⟩)) rfl rfl (yg_ix (by simp [Region.wanted]) (.tmp 35) (.const (.int .i64 0)) rfl (ev_eq _ _ (by simp [put_sz, sz])) rfl (fun w => by simp [go_sem])) hs0 ?_
  refine tkG (i := 3) (d := 37) (v := .string p) rfl rfl (yg_ld (by simp [Region.wanted]) (.tmp 36) rfl (ev_eq _ _ (by simp [put_sz, sz])) (fun w hw => by have h1 := hw.2.1.1; simp [go_sem, h1])) hs0 ?_
  refine tkG (i := 4) (d := 38) (v := .pointer (some ⟨g, 0, none⟩)) rfl rfl (yg_mv (by simp [Region.wanted]) (.tmp 0) rfl (evn (evn (evn (evn e0))))) hs0 ?_
  refine tkG (i := 6) (d := 40) (v := .pointer (some ⟨g, 0, none⟩)) rfl rfl (yg_mv (by simp [Region.wanted]) (.tmp 0) rfl (evn (evn (evn (evn (evn e0)))))) hs0 ?_
  refine tkG (i := 7) (d := 41) (v := .pointer (some ⟨g, 0, none⟩)) rfl rfl (yg_nil (by simp [Region.wanted]) (.tmp 40) rfl (ev_eq _ _ (by simp [put_sz, sz]))) hs0 ?_
  refine tkG (i := 8) (d := 42) (v := .pointer (some ⟨g, 99, none⟩)) rfl rfl (yg_fld (by simp [Region.wanted]) (.tmp 41) rfl (ev_eq _ _ (by simp [put_sz, sz])) (fun w => by simp [go_sem])) hs0 ?_
  refine tkG (i := 9) (d := 43) (v := .int .i64 (c.la : Int)) rfl rfl (yg_ld (by simp [Region.wanted]) (.tmp 42) rfl (ev_eq _ _ (by simp [put_sz, sz])) (fun w hw => by have h1 := hw.2.2.c99 ok; simp [go_sem, h1])) hs0 ?_
  obtain ⟨Az1, hAz1⟩ : ∃ Az1, Az1 = (((((((((A.put (some 34) (.pointer (some ⟨R, 1, none⟩))).put (some 35) (.slice (some ⟨b, o, none⟩) 3 cp)).put (some 36) (.pointer (some ⟨b, o, none⟩))).put (some 37) (.string p)).put (some 38) (.pointer (some ⟨g, 0, none⟩))).put (some 40) (.pointer (some ⟨g, 0, none⟩))).put (some 41) (.pointer (some ⟨g, 0, none⟩))).put (some 42) (.pointer (some ⟨g, 99, none⟩))).put (some 43) (.int .i64 (c.la : Int))) := ⟨_, rfl⟩
  have szAz1 : Az1.tmps.size = 69 := by rw [hAz1]; simp [put_sz, sz]
  have eAz137 : Az1.eval (.tmp 37) = .string p := by rw [hAz1]; exact (evn (evn (evn (evn (evn (ev_eq _ _ (by simp [put_sz, sz])))))))
  have eAz138 : Az1.eval (.tmp 38) = .pointer (some ⟨g, 0, none⟩) := by rw [hAz1]; exact (evn (evn (evn (evn (ev_eq _ _ (by simp [put_sz, sz]))))))
  have eAz143 : Az1.eval (.tmp 43) = .int .i64 (c.la : Int) := by rw [hAz1]; exact (ev_eq _ _ (by simp [put_sz, sz]))
  rw [← hAz1]
  refine wpAnyG_all (rs := [5]) (by kernel_rfl) (by simp) fun i1 hm1 => ?_
  obtain rfl : i1 = 5 := by simpa using hm1
  refine wpOp_own rfl rfl fun K1 hK1 => ?_
  refine wp_calls1 74 hf_lastAt (.tmp 38) _ rfl (.pointer (some ⟨g, 0, none⟩)) eAz138 ?_
  refine (lastAt_any hs0.2.2 ok hfew).mono ?_
  rintro _ V1 ⟨rfl, hb1⟩
  have hs1 := hs0.keep hb1 (hs0.2.2.below hb1)
  refine ⟨_, rfl, hK1 _ _ ⟨.inr hs1, ?_⟩⟩
  clear hK1 K1 hm1
  show wpAnyG _ _ _ _ _ _ _ _ (Az1.put (some 39) (.int .i64 (lastT c : Int))) _
  refine wpAnyG_all (rs := [10]) (by kernel_rfl) (by simp) fun i2 hm2 => ?_
  obtain rfl : i2 = 10 := by simpa using hm2
  refine wpOp_own rfl rfl fun K2 hK2 => ?_
  refine wp_calls3 71 hf_stNumber (.tmp 37) (.tmp 39) (.tmp 43) _ rfl (.string p) (.int .i64 (lastT c : Int)) (.int .i64 (c.la : Int)) (evn eAz137) (ev_eq _ _ (by simp [szAz1])) (evn eAz143) ?_
  refine (number_no p hp (lastT c) c.la hno V1).mono ?_
  rintro _ V2 ⟨rfl, e2⟩
  subst V2
  refine ⟨_, rfl, hK2 _ _ ⟨.inr hs1, ?_⟩⟩
  clear hK2 K2 hm2
  show wpAnyG _ _ _ _ _ _ _ _ ((Az1.put (some 39) (.int .i64 (lastT c : Int))).put (some 44) (.tuple #[.int .i64 0, .bool false])) _
  refine tkG (i := 11) (d := 33) (v := .tuple #[.int .i64 0, .bool false]) rfl rfl (yg_mv (by simp [Region.wanted]) (.tmp 44) rfl (ev_eq _ _ (by simp [put_sz, szAz1]))) hs1 ?_
  refine tkG (i := 12) (d := 45) (v := .int .i64 0) rfl rfl (yg_ext (by simp [Region.wanted]) (.tmp 33) rfl (ev_eq _ _ (by simp [put_sz, szAz1])) (fun w => by simp [go_sem])) hs1 ?_
  refine tkG (i := 13) (d := 46) (v := .bool false) rfl rfl (yg_ext (by simp [Region.wanted]) (.tmp 33) rfl (evn (ev_eq _ _ (by simp [put_sz, szAz1]))) (fun w => by simp [go_sem])) hs1 ?_
  refine tkG (i := 14) (d := 6) (v := .int .i64 0) rfl rfl (yg_as (by simp [Region.wanted]) (.tmp 45) rfl (evn (ev_eq _ _ (by simp [put_sz, szAz1])))) hs1 ?_
  refine tkG (i := 15) (d := 7) (v := .bool false) rfl rfl (yg_as (by simp [Region.wanted]) (.tmp 46) rfl (evn (ev_eq _ _ (by simp [put_sz, szAz1])))) hs1 ?_
  refine wpAnyG_done (by kernel_rfl) ⟨rfl, ?_, hs1, hb1⟩ _
  show (((((((Az1.put (some 39) (.int .i64 (lastT c : Int))).put (some 44) (.tuple #[.int .i64 0, .bool false])).put (some 33) (.tuple #[.int .i64 0, .bool false])).put (some 45) (.int .i64 0)).put (some 46) (.bool false)).put (some 6) (.int .i64 0)).put (some 7) (.bool false)) = _
  rw [hAz1]
end Go.Proofs.YthfmpebgmojcaaaDoor
/- Loading a chain from any rows: a row that is no event's. -/
namespace Go.Proofs.YthfmpebgmojcaaaDoor
open Go.RowKit
set_option linter.unusedVariables false
set_option maxRecDepth 20000
theorem evIn_none {c : Ch} {key : ByteArray} {l : List ByteArray} (h : evIn c (key, l) = none) : key ≠ evKey (c.cnt + 1) ∨ (key = evKey (c.cnt + 1) ∧ l.length ≠ 3) ∨ ∃ t p q, l = [t, p, q] ∧ key = evKey (c.cnt + 1) ∧ (¬ (p.size ≤ 12 ∧ q.size ≤ 30) ∨ (p.size ≤ 12 ∧ q.size ≤ 30 ∧ numR t.data.toList (lastT c) c.la = none)) := by
  by_cases h1 : key = evKey (c.cnt + 1)
  · by_cases h2 : l.length = 3
    · match l, h2 with
      | [t, p, q], _ =>
        refine .inr (.inr ⟨t, p, q, rfl, h1, ?_⟩)
        by_cases h3 : p.size ≤ 12 ∧ q.size ≤ 30
        · have : evIn c (key, [t, p, q]) = (numR t.data.toList (lastT c) c.la).map fun n => ⟨c.cnt + 1, n, p, q⟩ := if_pos ⟨h1, h3.1, h3.2⟩
          rw [this] at h
          exact .inr ⟨h3.1, h3.2, by simpa using h⟩
        · exact .inl h3
    · exact .inr (.inl ⟨h1, h2⟩)
  · exact .inl h1
set_option maxHeartbeats 8000000 in
theorem takeEvent_no {w : World} {B g : Nat} {v : Value} {c : Ch} (h : ChAt w B g v c) (ok : Lens c) (hc : c.cnt < 1000000000000000000) (hB : B ≤ w.heap.size) (hT : Tabs w B) (r : TR) (ad : Option Addr) (cp : Nat) (ht : Texts w ad r.2) (hs : ∀ x ∈ r.2, x.size ≤ maxLen) (hfew : c.ev.length ≤ 1000) (hn : evIn c r = none) :
    Calls Tryd.prog 33 #[.pointer (some ⟨g, 0, none⟩), .agg #[.string r.1, .slice ad r.2.length cp]] w fun x w' => x = .returned (.bool false) ∧ Below w.heap.size w w' := by
  obtain ⟨key, l⟩ := r
  simp only at ht hs ⊢
  obtain ⟨n, hln⟩ : ∃ n, n = l.length := ⟨_, rfl⟩
  rw [← hln]
  obtain ⟨W0, hW0⟩ : ∃ W0, W0 = w.alloc (.cells #[.string key, .slice ad n cp] 75) := ⟨_, rfl⟩
  have b0 : Below w.heap.size w W0 := by rw [hW0]; exact (Below.refl _ w).alloc (Nat.le_refl _) _
  have x0 : W0.heap[w.heap.size]? = some (.cells #[.string key, .slice ad n cp] 75 (0, 0)) := by rw [hW0]; exact heap_alloc_new w _
  have ta : TA w.heap.size ad n cp key W0 := ⟨(cell_of_row _ _ 0 _ _ _ x0).trans rfl, (cell_of_row _ _ 1 _ _ _ x0).trans rfl⟩
  have h0 := h.below b0
  have HC := hid (count_len h0 ok (by omega))
  have HW := hid hW0
  have B0 := hid b0
  have TA0 := hid ta
  have HT := hid (fun (V : World) (hb : Below w.heap.size w V) => (hT.below hB hb).tab)
  obtain ⟨N, hN⟩ : ∃ N, N = c.cnt + 1 := ⟨_, rfl⟩
  have hcn : Hid ((c.cnt : Int) + 1 = (N : Int)) := by show _ = _; rw [hN]; simp
  have hN4 : N ≤ 4611686018427387904 := by omega
  have hn' := evIn_none hn
  rw [← hN] at hn'
  have HN4 := hid hN4
  obtain ⟨m, hm⟩ : ∃ m, m = c.cnt := ⟨_, rfl⟩
  rw [← hm] at HC hcn hc
  rcases hn' with h1 | ⟨h1, h2⟩ | ⟨t, p, q, rfl, h1, h2⟩
  · have d1 : (key.toList == (evKey N).toList) = false := by rw [eqQ]; exact decide_eq_false h1
    have D1 := hid d1
    clear hn hs ht hfew h ok hB hT hln hW0 b0 x0 h0 hm h1 d1 ta hN hN4
    go_enter Tryd.func33, Tryd.ntmps33
    go_wp2_with (go_at_call 23; rw [show w.alloc (.cells #[.string key, .slice ad n cp] 75) = W0 from HW.out.symm]; refine HC.out.mono ?_; rintro x w1 ⟨rfl, hb1⟩; have Hb1 := hid hb1; clear hb1)
    obtain ⟨V0, hV0⟩ : ∃ V0, V0 = w1.drew := ⟨_, rfl⟩
    have bV : Below W0.heap.size W0 V0 := by rw [hV0]; exact Hb1.out.drew
    have bwV : Below w.heap.size w V0 := Below.on' B0.out bV
    refine wp_act _ fun A hA => ?_
    have sz : A.tmps.size = 69 := by rw [hA]; rfl
    have e3 : A.eval (.tmp 3) = .pointer (some ⟨w.heap.size, 0, none⟩) := by rw [hA]; rfl
    have e5 : A.eval (.tmp 5) = .int .i64 (N : Int) := by rw [hA, ← hcn.out]; rfl
    refine wp_split _ (te_keyNo sz e3 e5 HN4.out (HT.out _ bwV) D1.out hV0 (TA0.out.below bV)) ?_
    rintro _ V2 ⟨rfl, hs2, b2⟩
    rw [hA]
    simp only [Act.put, List.setIfInBounds_toArray, List.set_cons_succ, List.set_cons_zero]
    have B2 := hid (Below.on' bwV b2)
    clear sz e3 e5 hA A hs2 b2 bwV bV hV0
    go_wp2_with fail
    go_ret
    exact ⟨rfl, B2.out⟩
  · have D1 := hid (show ¬ (n : Int) = 3 by omega)
    have D2 := hid (show ((n : Int) != 3) = true by rw [bne, beq_eq_false_iff_ne.2 D1.out]; rfl)
    subst h1
    clear hn hs ht hfew h ok hB hT hln hW0 b0 x0 h0 hm h2 ta hN hN4
    go_enter Tryd.func33, Tryd.ntmps33
    go_wp2_with (go_at_call 23; rw [show w.alloc (.cells #[.string (evKey N), .slice ad n cp] 75) = W0 from HW.out.symm]; refine HC.out.mono ?_; rintro x w1 ⟨rfl, hb1⟩; have Hb1 := hid hb1; clear hb1)
    obtain ⟨V0, hV0⟩ : ∃ V0, V0 = w1.drew := ⟨_, rfl⟩
    have bV : Below W0.heap.size W0 V0 := by rw [hV0]; exact Hb1.out.drew
    have bwV : Below w.heap.size w V0 := Below.on' B0.out bV
    refine wp_act _ fun A hA => ?_
    have sz : A.tmps.size = 69 := by rw [hA]; rfl
    have e3 : A.eval (.tmp 3) = .pointer (some ⟨w.heap.size, 0, none⟩) := by rw [hA]; rfl
    have e5 : A.eval (.tmp 5) = .int .i64 (N : Int) := by rw [hA, ← hcn.out]; rfl
    refine wp_split _ (te_colsNo sz e3 e5 HN4.out (HT.out _ bwV) D2.out hV0 (TA0.out.below bV)) ?_
    rintro _ V2 ⟨rfl, hs2, b2⟩
    rw [hA]
    simp only [Act.put, List.setIfInBounds_toArray, List.set_cons_succ, List.set_cons_zero]
    have B2 := hid (Below.on' bwV b2)
    clear sz e3 e5 hA A hs2 b2 bwV bV hV0
    go_wp2_with fail
    go_ret
    exact ⟨rfl, B2.out⟩
  · subst h1
    simp only [List.length_cons, List.length_nil] at hln
    obtain rfl : n = 3 := hln
    have ht0 := ht.below b0
    obtain ⟨b, o, rfl, j0⟩ := ht0 0 (by simp)
    obtain ⟨b1, o1, e1, j1⟩ := ht0 1 (by simp)
    cases e1
    obtain ⟨b2, o2, e2, j2⟩ := ht0 2 (by simp)
    cases e2
    have hte : TE w.heap.size b o cp (evKey N) t p q (fun V => ChAt V B g v c) W0 := ⟨x0, ⟨j0, j1, j2⟩, h0⟩
    have Hte := hid hte
    have Hh := hid h
    have OK := hid ok
    have HB := hid hB
    have zt := hid (hs t (by simp))
    have zp := hid (hs p (by simp))
    have zq := hid (hs q (by simp))
    rcases h2 with h2 | ⟨h2, h3, h4⟩
    · have D1 := hid h2
      clear hn hs ht hfew h ok hB hT hW0 b0 x0 h0 hm h2 ta hN hN4 ht0 j0 j1 j2 hte
      go_enter Tryd.func33, Tryd.ntmps33
      go_wp2_with (go_at_call 23; rw [show w.alloc (.cells #[.string (evKey N), .slice (some ⟨b, o, none⟩) 3 cp] 75) = W0 from HW.out.symm]; refine HC.out.mono ?_; rintro x w1 ⟨rfl, hb1⟩; have Hb1 := hid hb1; clear hb1)
      obtain ⟨V0, hV0⟩ : ∃ V0, V0 = w1.drew := ⟨_, rfl⟩
      have bV : Below W0.heap.size W0 V0 := by rw [hV0]; exact Hb1.out.drew
      have bwV : Below w.heap.size w V0 := Below.on' B0.out bV
      refine wp_act _ fun A hA => ?_
      have sz : A.tmps.size = 69 := by rw [hA]; rfl
      have e3 : A.eval (.tmp 3) = .pointer (some ⟨w.heap.size, 0, none⟩) := by rw [hA]; rfl
      have e5 : A.eval (.tmp 5) = .int .i64 (N : Int) := by rw [hA, ← hcn.out]; rfl
      refine wp_split _ (te_longNo sz e3 e5 HN4.out (HT.out _ bwV) zp.out zq.out D1.out hV0 (Hte.out.keep bV (Hte.out.2.2.below bV))) ?_
      rintro _ V2 ⟨rfl, hs2, b2⟩
      rw [hA]
      simp only [Act.put, List.setIfInBounds_toArray, List.set_cons_succ, List.set_cons_zero]
      have B2 := hid (Below.on' bwV b2)
      clear sz e3 e5 hA A hs2 b2 bwV bV hV0
      go_wp2_with fail
      go_ret
      exact ⟨rfl, B2.out⟩
    · have D4 := hid h4
      have D2 := hid h2
      have D3 := hid h3
      have HF := hid hfew
      clear hn hs ht hfew h ok hB hT hW0 b0 x0 h0 hm h2 h3 h4 ta hN hN4 ht0 j0 j1 j2 hte
      go_enter Tryd.func33, Tryd.ntmps33
      go_wp2_with (go_at_call 23; rw [show w.alloc (.cells #[.string (evKey N), .slice (some ⟨b, o, none⟩) 3 cp] 75) = W0 from HW.out.symm]; refine HC.out.mono ?_; rintro x w1 ⟨rfl, hb1⟩; have Hb1 := hid hb1; clear hb1)
      obtain ⟨V0, hV0⟩ : ∃ V0, V0 = w1.drew := ⟨_, rfl⟩
      have bV : Below W0.heap.size W0 V0 := by rw [hV0]; exact Hb1.out.drew
      have bwV : Below w.heap.size w V0 := Below.on' B0.out bV
      refine wp_act _ fun A hA => ?_
      have sz : A.tmps.size = 69 := by rw [hA]; rfl
      have e3 : A.eval (.tmp 3) = .pointer (some ⟨w.heap.size, 0, none⟩) := by rw [hA]; rfl
      have e5 : A.eval (.tmp 5) = .int .i64 (N : Int) := by rw [hA, ← hcn.out]; rfl
      refine wp_split _ (te_region2 sz e3 e5 HN4.out D2.out D3.out (HT.out _ bwV) hV0 (Hte.out.keep bV (Hte.out.2.2.below bV))) ?_
      rintro _ V2 ⟨rfl, hs2, b2⟩
      rw [hA]
      simp only [Act.put, List.setIfInBounds_toArray, List.set_cons_succ, List.set_cons_zero]
      have Hs2 := hid hs2
      have B2 := hid (Below.on' bwV b2)
      clear sz e3 e5 hA A hs2 b2 bwV bV hV0
      go_wp2_with fail
      obtain ⟨V3, hV3⟩ : ∃ V3, V3 = V2.drew := ⟨_, rfl⟩
      have b23 : Below V2.heap.size V2 V3 := by rw [hV3]; exact (Below.refl _ V2).drew
      refine wp_act _ fun A hA => ?_
      have sz : A.tmps.size = 69 := by rw [hA]; rfl
      have e0 : A.eval (.tmp 0) = .pointer (some ⟨g, 0, none⟩) := by rw [hA]; rfl
      have e3 : A.eval (.tmp 3) = .pointer (some ⟨w.heap.size, 0, none⟩) := by rw [hA]; rfl
      refine wp_split _ (te_numNo sz e3 e0 OK.out HF.out zt.out D4.out hV3 (Hs2.out.keep b23 (Hs2.out.2.2.below b23))) ?_
      rintro _ V4 ⟨rfl, hs4, b4⟩
      rw [hA]
      simp only [Act.put, List.setIfInBounds_toArray, List.set_cons_succ, List.set_cons_zero]
      have B4 := hid (Below.on' (Below.on' B2.out b23) b4)
      clear sz e0 e3 hA A hs4 b4 b23 hV3 Hs2 B2
      go_wp2_with fail
      go_ret
      exact ⟨rfl, B4.out⟩
end Go.Proofs.YthfmpebgmojcaaaDoor
