/- The reference's Load: a row that is no event's. (Printed by gen/qrld.py.) -/
import Derived.Test.YthfmpebgmojcaaaDoorTkG
import Derived.Test.YthfmpebgmojcaaaDoorZLd1
import Derived.Test.YthfmpebgmojcaaaDoorQTk
namespace Go.Proofs.YthfmpebgmojcaaaDoor
open Go.RowKit
set_option linter.unusedVariables false
set_option maxRecDepth 20000
set_option maxHeartbeats 4000000 in
theorem rld_keyNo {V0 W5 : World} {R p i sm : Nat} {A : Act} {m : Nat} {ad : Option Addr} {n cp : Nat} {key : ByteArray} (sz : A.tmps.size = 233) (e4 : A.eval (.tmp 4) = .int .i64 (p : Int)) (e18 : A.eval (.tmp 18) = .int .i64 (i : Int)) (e19 : A.eval (.tmp 19) = .pointer (some ⟨R, 0, none⟩)) (hsm : IntKind.i64.wrap ((p : Int) + (i : Int)) = (sm : Int)) (hmm : IntKind.i64.wrap ((sm : Int) - 3) = (m : Int)) (hm4 : m ≤ 4611686018427387904) (hk : (key.toList == (evKey m).toList) = false) (hV0 : V0 = W5.drew) (hs0 : TA R ad n cp key V0) :
    (codeRLd 17).wp Tryd.prog (fun x a V => x = .normal ∧ a = (((((((((((((((((((((((((((((((A.put (some 157) (.pointer (some ⟨R, 0, none⟩))).put (some 158) (.string key)).put (some 159) (.int .i64 (p : Int))).put (some 160) (.int .i64 (i : Int))).put (some 161) (.int .i64 (sm : Int))).put (some 162) (.int .i64 (m : Int))).put (some 163) (.string (txt m))).put (some 164) (.string (evKey m))).put (some 165) (.bool true)).put (some 166) (.bool true)).put (some 167) (undef)).put (some 168) (undef)).put (some 169) (undef)).put (some 170) (undef)).put (some 171) (.bool true)).put (some 172) (.bool true)).put (some 173) (undef)).put (some 174) (undef)).put (some 175) (undef)).put (some 176) (undef)).put (some 177) (undef)).put (some 178) (undef)).put (some 179) (.bool true)).put (some 180) (.bool true)).put (some 181) (undef)).put (some 182) (undef)).put (some 183) (undef)).put (some 184) (undef)).put (some 185) (undef)).put (some 186) (undef)).put (some 187) (.bool true)) ∧ TA R ad n cp key V ∧ Below V0.heap.size V0 V) A W5 := by
  have hm : Tryd.prog.follows .mixedOrders = true := by kernel_rfl
  unfold codeRLd
  conv => arg 2; whnf
  refine wp_region_G (fun _ => false) (TA R ad n cp key) hm ?_
  rw [show ({ W5 with drawn := W5.drawn + 1 } : World) = V0 from hV0.symm]
  refine tkG (i := 0) (d := 157) (v := .pointer (some ⟨R, 0, none⟩)) rfl rfl (yg_fld (by simp [Region.wanted]) (.tmp 19) rfl e19 (fun w => by simp [go_sem])) hs0 ?_
  refine tkG (i := 1) (d := 158) (v := .string key) rfl rfl (yg_ld (by simp [Region.wanted]) (.tmp 157) rfl (ev_eq _ _ (by simp [sz])) (fun w hw => by have h1 := hw.1; simp [go_sem, h1])) hs0 ?_
  refine tkG (i := 2) (d := 159) (v := .int .i64 (p : Int)) rfl rfl (yg_mv (by simp [Region.wanted]) (.tmp 4) rfl (evn (evn e4))) hs0 ?_
  refine tkG (i := 3) (d := 160) (v := .int .i64 (i : Int)) rfl rfl (yg_mv (by simp [Region.wanted]) (.tmp 18) rfl (evn (evn (evn e18)))) hs0 ?_
  refine tkG (i := 4) (d := 161) (v := .int .i64 (sm : Int)) rfl rfl (y_addi (by simp [Region.wanted]) (.tmp 159) (.tmp 160) rfl _ _ _ (evn (ev_eq _ _ (by simp [put_sz, sz]))) (ev_eq _ _ (by simp [put_sz, sz])) hsm) hs0 ?_
  refine tkG (i := 5) (d := 162) (v := .int .i64 (m : Int)) rfl rfl (y_subi (by simp [Region.wanted]) (.tmp 161) (.const (.int .i64 3)) rfl _ _ _ (ev_eq _ _ (by simp [put_sz, sz])) rfl hmm) hs0 ?_
  refine wpAnyG_all (rs := [6]) (by kernel_rfl) (by simp) fun i1 hm1 => ?_
  obtain rfl : i1 = 6 := by simpa using hm1
  refine wpOp_own rfl rfl fun K1 hK1 => ?_
  refine wp_calls1 36 hf_num14 (.tmp 162) _ rfl (.int .i64 (m : Int)) (ev_eq _ _ (by simp [put_sz, sz])) ?_
  refine (refNum_any m hm4 V0).mono ?_
  rintro _ V1 ⟨rfl, hb1⟩
  have hs1 := hs0.below hb1
  refine ⟨_, rfl, hK1 _ _ ⟨.inr hs1, ?_⟩⟩
  clear hK1 K1 hm1
  show wpAnyG _ _ _ _ _ _ _ _ (((((((A.put (some 157) (.pointer (some ⟨R, 0, none⟩))).put (some 158) (.string key)).put (some 159) (.int .i64 (p : Int))).put (some 160) (.int .i64 (i : Int))).put (some 161) (.int .i64 (sm : Int))).put (some 162) (.int .i64 (m : Int))).put (some 163) (.string (txt m))) _
  refine tkG (i := 7) (d := 164) (v := .string (evKey m)) rfl rfl (y_addS (by simp [Region.wanted]) (.const (.string ⟨#[110]⟩)) (.tmp 163) rfl ⟨#[110]⟩ (txt m) rfl (ev_eq _ _ (by simp [put_sz, sz])) (by have := txt_size m hm4; show ¬ 9223372036854775807 < 1 + (txt m).size; omega)) hs1 ?_
  refine tkG (i := 8) (d := 165) (v := .bool true) rfl rfl (yg_bin (by simp [Region.wanted]) (.tmp 158) (.tmp 164) rfl (evn (evn (evn (evn (evn (evn (ev_eq _ _ (by simp [put_sz, sz])))))))) (ev_eq _ _ (by simp [put_sz, sz])) (fun w => by simp [go_sem, hk])) hs1 ?_
  obtain ⟨Az1, hAz1⟩ : ∃ Az1, Az1 = (((((((((A.put (some 157) (.pointer (some ⟨R, 0, none⟩))).put (some 158) (.string key)).put (some 159) (.int .i64 (p : Int))).put (some 160) (.int .i64 (i : Int))).put (some 161) (.int .i64 (sm : Int))).put (some 162) (.int .i64 (m : Int))).put (some 163) (.string (txt m))).put (some 164) (.string (evKey m))).put (some 165) (.bool true)) := ⟨_, rfl⟩
  have szAz1 : Az1.tmps.size = 233 := by rw [hAz1]; simp [put_sz, sz]
  have eAz119 : Az1.eval (.tmp 19) = .pointer (some ⟨R, 0, none⟩) := by rw [hAz1]; exact (evn (evn (evn (evn (evn (evn (evn (evn (evn e19)))))))))
  have eAz1165 : Az1.eval (.tmp 165) = .bool true := by rw [hAz1]; exact (ev_eq _ _ (by simp [put_sz, sz]))
  rw [← hAz1]
  refine tkG (i := 9) (d := 166) (v := .bool true) rfl rfl (yg_mv (by simp [Region.wanted]) (.tmp 165) rfl eAz1165) hs1 ?_
  refine tkG (i := 10) (d := 167) (v := undef) rfl rfl (yg_skip (guard_f (i := 9) (d := 166) rfl rfl (by simp [put_sz, szAz1]) (ev_eq _ _ (by simp [szAz1])))) hs1 ?_
  refine tkG (i := 11) (d := 168) (v := undef) rfl rfl (yg_skip (guard_f (i := 9) (d := 166) rfl rfl (by simp [put_sz, szAz1]) (evn (ev_eq _ _ (by simp [szAz1]))))) hs1 ?_
  refine tkG (i := 12) (d := 169) (v := undef) rfl rfl (yg_skip (guard_f (i := 9) (d := 166) rfl rfl (by simp [put_sz, szAz1]) (evn (evn (ev_eq _ _ (by simp [szAz1])))))) hs1 ?_
  refine tkG (i := 13) (d := 170) (v := undef) rfl rfl (yg_skip (guard_f (i := 9) (d := 166) rfl rfl (by simp [put_sz, szAz1]) (evn (evn (evn (ev_eq _ _ (by simp [szAz1]))))))) hs1 ?_
  refine tkG (i := 14) (d := 171) (v := .bool true) rfl rfl (yg_pickT (by simp [Region.wanted]) (.tmp 166) (.const (.bool true)) (.tmp 170) rfl (evn (evn (evn (evn (ev_eq _ _ (by simp [szAz1])))))) rfl) hs1 ?_
  refine tkG (i := 15) (d := 172) (v := .bool true) rfl rfl (yg_mv (by simp [Region.wanted]) (.tmp 171) rfl (ev_eq _ _ (by simp [put_sz, szAz1]))) hs1 ?_
  refine tkG (i := 16) (d := 173) (v := undef) rfl rfl (yg_skip (guard_f (i := 15) (d := 172) rfl rfl (by simp [put_sz, szAz1]) (ev_eq _ _ (by simp [put_sz, szAz1])))) hs1 ?_
  refine tkG (i := 17) (d := 174) (v := undef) rfl rfl (yg_skip (guard_f (i := 15) (d := 172) rfl rfl (by simp [put_sz, szAz1]) (evn (ev_eq _ _ (by simp [put_sz, szAz1]))))) hs1 ?_
  obtain ⟨Az2, hAz2⟩ : ∃ Az2, Az2 = (((((((((Az1.put (some 166) (.bool true)).put (some 167) (undef)).put (some 168) (undef)).put (some 169) (undef)).put (some 170) (undef)).put (some 171) (.bool true)).put (some 172) (.bool true)).put (some 173) (undef)).put (some 174) (undef)) := ⟨_, rfl⟩
  have szAz2 : Az2.tmps.size = 233 := by rw [hAz2]; simp [put_sz, szAz1]
  have eAz219 : Az2.eval (.tmp 19) = .pointer (some ⟨R, 0, none⟩) := by rw [hAz2]; exact (evn (evn (evn (evn (evn (evn (evn (evn (evn eAz119)))))))))
  have eAz2172 : Az2.eval (.tmp 172) = .bool true := by rw [hAz2]; exact (evn (evn (ev_eq _ _ (by simp [put_sz, szAz1]))))
  have eAz2174 : Az2.eval (.tmp 174) = undef := by rw [hAz2]; exact (ev_eq _ _ (by simp [put_sz, szAz1]))
  rw [← hAz2]
  refine tkG (i := 18) (d := 175) (v := undef) rfl rfl (yg_skip (guard_f (i := 15) (d := 172) rfl rfl (by simp [szAz2]) eAz2172)) hs1 ?_
  refine tkG (i := 19) (d := 176) (v := undef) rfl rfl (yg_skip (guard_f (i := 15) (d := 172) rfl rfl (by simp [put_sz, szAz2]) (evn eAz2172))) hs1 ?_
  refine tkG (i := 20) (d := 177) (v := undef) rfl rfl (yg_skip (guard_f (i := 15) (d := 172) rfl rfl (by simp [put_sz, szAz2]) (evn (evn eAz2172)))) hs1 ?_
  refine tkG (i := 21) (d := 178) (v := undef) rfl rfl (yg_skip (guard_f (i := 15) (d := 172) rfl rfl (by simp [put_sz, szAz2]) (evn (evn (evn eAz2172))))) hs1 ?_
  refine tkG (i := 22) (d := 179) (v := .bool true) rfl rfl (yg_pickT (by simp [Region.wanted]) (.tmp 172) (.const (.bool true)) (.tmp 178) rfl (evn (evn (evn (evn eAz2172)))) rfl) hs1 ?_
  refine tkG (i := 23) (d := 180) (v := .bool true) rfl rfl (yg_mv (by simp [Region.wanted]) (.tmp 179) rfl (ev_eq _ _ (by simp [put_sz, szAz2]))) hs1 ?_
  refine tkG (i := 24) (d := 181) (v := undef) rfl rfl (yg_skip (guard_f (i := 23) (d := 180) rfl rfl (by simp [put_sz, szAz2]) (ev_eq _ _ (by simp [put_sz, szAz2])))) hs1 ?_
  refine tkG (i := 25) (d := 182) (v := undef) rfl rfl (yg_skip (guard_f (i := 23) (d := 180) rfl rfl (by simp [put_sz, szAz2]) (evn (ev_eq _ _ (by simp [put_sz, szAz2]))))) hs1 ?_
  refine tkG (i := 26) (d := 183) (v := undef) rfl rfl (yg_skip (guard_f (i := 23) (d := 180) rfl rfl (by simp [put_sz, szAz2]) (evn (evn (ev_eq _ _ (by simp [put_sz, szAz2])))))) hs1 ?_
  obtain ⟨Az3, hAz3⟩ : ∃ Az3, Az3 = (((((((((Az2.put (some 175) (undef)).put (some 176) (undef)).put (some 177) (undef)).put (some 178) (undef)).put (some 179) (.bool true)).put (some 180) (.bool true)).put (some 181) (undef)).put (some 182) (undef)).put (some 183) (undef)) := ⟨_, rfl⟩
  have szAz3 : Az3.tmps.size = 233 := by rw [hAz3]; simp [put_sz, szAz2]
  have eAz3180 : Az3.eval (.tmp 180) = .bool true := by rw [hAz3]; exact (evn (evn (evn (ev_eq _ _ (by simp [put_sz, szAz2])))))
  have eAz3183 : Az3.eval (.tmp 183) = undef := by rw [hAz3]; exact (ev_eq _ _ (by simp [put_sz, szAz2]))
  rw [← hAz3]
  refine tkG (i := 27) (d := 184) (v := undef) rfl rfl (yg_skip (guard_f (i := 23) (d := 180) rfl rfl (by simp [szAz3]) eAz3180)) hs1 ?_
  refine tkG (i := 28) (d := 185) (v := undef) rfl rfl (yg_skip (guard_f (i := 23) (d := 180) rfl rfl (by simp [put_sz, szAz3]) (evn eAz3180))) hs1 ?_
  refine tkG (i := 29) (d := 186) (v := undef) rfl rfl (yg_skip (guard_f (i := 23) (d := 180) rfl rfl (by simp [put_sz, szAz3]) (evn (evn eAz3180)))) hs1 ?_
  refine tkG (i := 30) (d := 187) (v := .bool true) rfl rfl (yg_pickT (by simp [Region.wanted]) (.tmp 180) (.const (.bool true)) (.tmp 186) rfl (evn (evn (evn eAz3180))) rfl) hs1 ?_
  refine wpAnyG_done (by kernel_rfl) ⟨rfl, ?_, hs1, hb1⟩ _
  show ((((Az3.put (some 184) (undef)).put (some 185) (undef)).put (some 186) (undef)).put (some 187) (.bool true)) = _
  rw [hAz3, hAz2, hAz1]
set_option maxHeartbeats 4000000 in
theorem rld_colsNo {V0 W5 : World} {R p i sm : Nat} {A : Act} {m : Nat} {ad : Option Addr} {n cp : Nat} (sz : A.tmps.size = 233) (e4 : A.eval (.tmp 4) = .int .i64 (p : Int)) (e18 : A.eval (.tmp 18) = .int .i64 (i : Int)) (e19 : A.eval (.tmp 19) = .pointer (some ⟨R, 0, none⟩)) (hsm : IntKind.i64.wrap ((p : Int) + (i : Int)) = (sm : Int)) (hmm : IntKind.i64.wrap ((sm : Int) - 3) = (m : Int)) (hm4 : m ≤ 4611686018427387904) (hn2 : ((n : Int) != 3) = true) (hV0 : V0 = W5.drew) (hs0 : TA R ad n cp (evKey m) V0) :
    (codeRLd 17).wp Tryd.prog (fun x a V => x = .normal ∧ a = (((((((((((((((((((((((((((((((A.put (some 157) (.pointer (some ⟨R, 0, none⟩))).put (some 158) (.string (evKey m))).put (some 159) (.int .i64 (p : Int))).put (some 160) (.int .i64 (i : Int))).put (some 161) (.int .i64 (sm : Int))).put (some 162) (.int .i64 (m : Int))).put (some 163) (.string (txt m))).put (some 164) (.string (evKey m))).put (some 165) (.bool false)).put (some 166) (.bool false)).put (some 167) (.pointer (some ⟨R, 1, none⟩))).put (some 168) (.slice ad n cp)).put (some 169) (.int .i64 (n : Int))).put (some 170) (.bool true)).put (some 171) (.bool true)).put (some 172) (.bool true)).put (some 173) (undef)).put (some 174) (undef)).put (some 175) (undef)).put (some 176) (undef)).put (some 177) (undef)).put (some 178) (undef)).put (some 179) (.bool true)).put (some 180) (.bool true)).put (some 181) (undef)).put (some 182) (undef)).put (some 183) (undef)).put (some 184) (undef)).put (some 185) (undef)).put (some 186) (undef)).put (some 187) (.bool true)) ∧ TA R ad n cp (evKey m) V ∧ Below V0.heap.size V0 V) A W5 := by
  have hm : Tryd.prog.follows .mixedOrders = true := by kernel_rfl
  unfold codeRLd
  conv => arg 2; whnf
  refine wp_region_G (fun _ => false) (TA R ad n cp (evKey m)) hm ?_
  rw [show ({ W5 with drawn := W5.drawn + 1 } : World) = V0 from hV0.symm]
  refine tkG (i := 0) (d := 157) (v := .pointer (some ⟨R, 0, none⟩)) rfl rfl (yg_fld (by simp [Region.wanted]) (.tmp 19) rfl e19 (fun w => by simp [go_sem])) hs0 ?_
  refine tkG (i := 1) (d := 158) (v := .string (evKey m)) rfl rfl (yg_ld (by simp [Region.wanted]) (.tmp 157) rfl (ev_eq _ _ (by simp [sz])) (fun w hw => by have h1 := hw.1; simp [go_sem, h1])) hs0 ?_
  refine tkG (i := 2) (d := 159) (v := .int .i64 (p : Int)) rfl rfl (yg_mv (by simp [Region.wanted]) (.tmp 4) rfl (evn (evn e4))) hs0 ?_
  refine tkG (i := 3) (d := 160) (v := .int .i64 (i : Int)) rfl rfl (yg_mv (by simp [Region.wanted]) (.tmp 18) rfl (evn (evn (evn e18)))) hs0 ?_
  refine tkG (i := 4) (d := 161) (v := .int .i64 (sm : Int)) rfl rfl (y_addi (by simp [Region.wanted]) (.tmp 159) (.tmp 160) rfl _ _ _ (evn (ev_eq _ _ (by simp [put_sz, sz]))) (ev_eq _ _ (by simp [put_sz, sz])) hsm) hs0 ?_
  refine tkG (i := 5) (d := 162) (v := .int .i64 (m : Int)) rfl rfl (y_subi (by simp [Region.wanted]) (.tmp 161) (.const (.int .i64 3)) rfl _ _ _ (ev_eq _ _ (by simp [put_sz, sz])) rfl hmm) hs0 ?_
  refine wpAnyG_all (rs := [6]) (by kernel_rfl) (by simp) fun i1 hm1 => ?_
  obtain rfl : i1 = 6 := by simpa using hm1
  refine wpOp_own rfl rfl fun K1 hK1 => ?_
  refine wp_calls1 36 hf_num14 (.tmp 162) _ rfl (.int .i64 (m : Int)) (ev_eq _ _ (by simp [put_sz, sz])) ?_
  refine (refNum_any m hm4 V0).mono ?_
  rintro _ V1 ⟨rfl, hb1⟩
  have hs1 := hs0.below hb1
  refine ⟨_, rfl, hK1 _ _ ⟨.inr hs1, ?_⟩⟩
  clear hK1 K1 hm1
  show wpAnyG _ _ _ _ _ _ _ _ (((((((A.put (some 157) (.pointer (some ⟨R, 0, none⟩))).put (some 158) (.string (evKey m))).put (some 159) (.int .i64 (p : Int))).put (some 160) (.int .i64 (i : Int))).put (some 161) (.int .i64 (sm : Int))).put (some 162) (.int .i64 (m : Int))).put (some 163) (.string (txt m))) _
  refine tkG (i := 7) (d := 164) (v := .string (evKey m)) rfl rfl (y_addS (by simp [Region.wanted]) (.const (.string ⟨#[110]⟩)) (.tmp 163) rfl ⟨#[110]⟩ (txt m) rfl (ev_eq _ _ (by simp [put_sz, sz])) (by have := txt_size m hm4; show ¬ 9223372036854775807 < 1 + (txt m).size; omega)) hs1 ?_
  refine tkG (i := 8) (d := 165) (v := .bool false) rfl rfl (yg_bin (by simp [Region.wanted]) (.tmp 158) (.tmp 164) rfl (evn (evn (evn (evn (evn (evn (ev_eq _ _ (by simp [put_sz, sz])))))))) (ev_eq _ _ (by simp [put_sz, sz])) (fun w => by simp [go_sem])) hs1 ?_
  obtain ⟨Az1, hAz1⟩ : ∃ Az1, Az1 = (((((((((A.put (some 157) (.pointer (some ⟨R, 0, none⟩))).put (some 158) (.string (evKey m))).put (some 159) (.int .i64 (p : Int))).put (some 160) (.int .i64 (i : Int))).put (some 161) (.int .i64 (sm : Int))).put (some 162) (.int .i64 (m : Int))).put (some 163) (.string (txt m))).put (some 164) (.string (evKey m))).put (some 165) (.bool false)) := ⟨_, rfl⟩
  have szAz1 : Az1.tmps.size = 233 := by rw [hAz1]; simp [put_sz, sz]
  have eAz119 : Az1.eval (.tmp 19) = .pointer (some ⟨R, 0, none⟩) := by rw [hAz1]; exact (evn (evn (evn (evn (evn (evn (evn (evn (evn e19)))))))))
  have eAz1165 : Az1.eval (.tmp 165) = .bool false := by rw [hAz1]; exact (ev_eq _ _ (by simp [put_sz, sz]))
  rw [← hAz1]
  refine tkG (i := 9) (d := 166) (v := .bool false) rfl rfl (yg_mv (by simp [Region.wanted]) (.tmp 165) rfl eAz1165) hs1 ?_
  refine tkG (i := 10) (d := 167) (v := .pointer (some ⟨R, 1, none⟩)) rfl rfl (yg_fld (guard_f (i := 9) (d := 166) rfl rfl (by simp [put_sz, szAz1]) (ev_eq _ _ (by simp [szAz1]))) (.tmp 19) rfl (evn eAz119) (fun w => by simp [go_sem])) hs1 ?_
  refine tkG (i := 11) (d := 168) (v := .slice ad n cp) rfl rfl (yg_ld (guard_f (i := 9) (d := 166) rfl rfl (by simp [put_sz, szAz1]) (evn (ev_eq _ _ (by simp [szAz1])))) (.tmp 167) rfl (ev_eq _ _ (by simp [put_sz, szAz1])) (fun w hw => by have h1 := hw.2; simp [go_sem, h1])) hs1 ?_
  refine tkG (i := 12) (d := 169) (v := .int .i64 (n : Int)) rfl rfl (yg_len (guard_f (i := 9) (d := 166) rfl rfl (by simp [put_sz, szAz1]) (evn (evn (ev_eq _ _ (by simp [szAz1]))))) 168 rfl (ev_eq _ _ (by simp [put_sz, szAz1])) (fun w _ => by simp [go_sem])) hs1 ?_
  refine tkG (i := 13) (d := 170) (v := .bool true) rfl rfl (yg_bin (guard_f (i := 9) (d := 166) rfl rfl (by simp [put_sz, szAz1]) (evn (evn (evn (ev_eq _ _ (by simp [szAz1])))))) (.tmp 169) (.const (.int .i64 3)) rfl (ev_eq _ _ (by simp [put_sz, szAz1])) rfl (fun w => by simp [go_sem, hn2])) hs1 ?_
  refine tkG (i := 14) (d := 171) (v := .bool true) rfl rfl (yg_pickF (by simp [Region.wanted]) (.tmp 166) (.const (.bool true)) (.tmp 170) rfl (evn (evn (evn (evn (ev_eq _ _ (by simp [szAz1])))))) (ev_eq _ _ (by simp [put_sz, szAz1]))) hs1 ?_
  refine tkG (i := 15) (d := 172) (v := .bool true) rfl rfl (yg_mv (by simp [Region.wanted]) (.tmp 171) rfl (ev_eq _ _ (by simp [put_sz, szAz1]))) hs1 ?_
  refine tkG (i := 16) (d := 173) (v := undef) rfl rfl (yg_skip (guard_f (i := 15) (d := 172) rfl rfl (by simp [put_sz, szAz1]) (ev_eq _ _ (by simp [put_sz, szAz1])))) hs1 ?_
  refine tkG (i := 17) (d := 174) (v := undef) rfl rfl (yg_skip (guard_f (i := 15) (d := 172) rfl rfl (by simp [put_sz, szAz1]) (evn (ev_eq _ _ (by simp [put_sz, szAz1]))))) hs1 ?_
  obtain ⟨Az2, hAz2⟩ : ∃ Az2, Az2 = (((((((((Az1.put (some 166) (.bool false)).put (some 167) (.pointer (some ⟨R, 1, none⟩))).put (some 168) (.slice ad n cp)).put (some 169) (.int .i64 (n : Int))).put (some 170) (.bool true)).put (some 171) (.bool true)).put (some 172) (.bool true)).put (some 173) (undef)).put (some 174) (undef)) := ⟨_, rfl⟩
  have szAz2 : Az2.tmps.size = 233 := by rw [hAz2]; simp [put_sz, szAz1]
  have eAz219 : Az2.eval (.tmp 19) = .pointer (some ⟨R, 0, none⟩) := by rw [hAz2]; exact (evn (evn (evn (evn (evn (evn (evn (evn (evn eAz119)))))))))
  have eAz2172 : Az2.eval (.tmp 172) = .bool true := by rw [hAz2]; exact (evn (evn (ev_eq _ _ (by simp [put_sz, szAz1]))))
  have eAz2174 : Az2.eval (.tmp 174) = undef := by rw [hAz2]; exact (ev_eq _ _ (by simp [put_sz, szAz1]))
  rw [← hAz2]
  refine tkG (i := 18) (d := 175) (v := undef) rfl rfl (yg_skip (guard_f (i := 15) (d := 172) rfl rfl (by simp [szAz2]) eAz2172)) hs1 ?_
  refine tkG (i := 19) (d := 176) (v := undef) rfl rfl (yg_skip (guard_f (i := 15) (d := 172) rfl rfl (by simp [put_sz, szAz2]) (evn eAz2172))) hs1 ?_
  refine tkG (i := 20) (d := 177) (v := undef) rfl rfl (yg_skip (guard_f (i := 15) (d := 172) rfl rfl (by simp [put_sz, szAz2]) (evn (evn eAz2172)))) hs1 ?_
  refine tkG (i := 21) (d := 178) (v := undef) rfl rfl (yg_skip (guard_f (i := 15) (d := 172) rfl rfl (by simp [put_sz, szAz2]) (evn (evn (evn eAz2172))))) hs1 ?_
  refine tkG (i := 22) (d := 179) (v := .bool true) rfl rfl (yg_pickT (by simp [Region.wanted]) (.tmp 172) (.const (.bool true)) (.tmp 178) rfl (evn (evn (evn (evn eAz2172)))) rfl) hs1 ?_
  refine tkG (i := 23) (d := 180) (v := .bool true) rfl rfl (yg_mv (by simp [Region.wanted]) (.tmp 179) rfl (ev_eq _ _ (by simp [put_sz, szAz2]))) hs1 ?_
  refine tkG (i := 24) (d := 181) (v := undef) rfl rfl (yg_skip (guard_f (i := 23) (d := 180) rfl rfl (by simp [put_sz, szAz2]) (ev_eq _ _ (by simp [put_sz, szAz2])))) hs1 ?_
  refine tkG (i := 25) (d := 182) (v := undef) rfl rfl (yg_skip (guard_f (i := 23) (d := 180) rfl rfl (by simp [put_sz, szAz2]) (evn (ev_eq _ _ (by simp [put_sz, szAz2]))))) hs1 ?_
  refine tkG (i := 26) (d := 183) (v := undef) rfl rfl (yg_skip (guard_f (i := 23) (d := 180) rfl rfl (by simp [put_sz, szAz2]) (evn (evn (ev_eq _ _ (by simp [put_sz, szAz2])))))) hs1 ?_
  obtain ⟨Az3, hAz3⟩ : ∃ Az3, Az3 = (((((((((Az2.put (some 175) (undef)).put (some 176) (undef)).put (some 177) (undef)).put (some 178) (undef)).put (some 179) (.bool true)).put (some 180) (.bool true)).put (some 181) (undef)).put (some 182) (undef)).put (some 183) (undef)) := ⟨_, rfl⟩
  have szAz3 : Az3.tmps.size = 233 := by rw [hAz3]; simp [put_sz, szAz2]
  have eAz3180 : Az3.eval (.tmp 180) = .bool true := by rw [hAz3]; exact (evn (evn (evn (ev_eq _ _ (by simp [put_sz, szAz2])))))
  have eAz3183 : Az3.eval (.tmp 183) = undef := by rw [hAz3]; exact (ev_eq _ _ (by simp [put_sz, szAz2]))
  rw [← hAz3]
  refine tkG (i := 27) (d := 184) (v := undef) rfl rfl (yg_skip (guard_f (i := 23) (d := 180) rfl rfl (by simp [szAz3]) eAz3180)) hs1 ?_
  refine tkG (i := 28) (d := 185) (v := undef) rfl rfl (yg_skip (guard_f (i := 23) (d := 180) rfl rfl (by simp [put_sz, szAz3]) (evn eAz3180))) hs1 ?_
  refine tkG (i := 29) (d := 186) (v := undef) rfl rfl (yg_skip (guard_f (i := 23) (d := 180) rfl rfl (by simp [put_sz, szAz3]) (evn (evn eAz3180)))) hs1 ?_
  refine tkG (i := 30) (d := 187) (v := .bool true) rfl rfl (yg_pickT (by simp [Region.wanted]) (.tmp 180) (.const (.bool true)) (.tmp 186) rfl (evn (evn (evn eAz3180))) rfl) hs1 ?_
  refine wpAnyG_done (by kernel_rfl) ⟨rfl, ?_, hs1, hb1⟩ _
  show ((((Az3.put (some 184) (undef)).put (some 185) (undef)).put (some 186) (undef)).put (some 187) (.bool true)) = _
  rw [hAz3, hAz2, hAz1]
set_option maxHeartbeats 4000000 in
theorem rld_whatNo {V0 W5 : World} {R p i sm : Nat} {A : Act} {m : Nat} {b o cp : Nat} {t q s : ByteArray} (sz : A.tmps.size = 233) (e4 : A.eval (.tmp 4) = .int .i64 (p : Int)) (e18 : A.eval (.tmp 18) = .int .i64 (i : Int)) (e19 : A.eval (.tmp 19) = .pointer (some ⟨R, 0, none⟩)) (hsm : IntKind.i64.wrap ((p : Int) + (i : Int)) = (sm : Int)) (hmm : IntKind.i64.wrap ((sm : Int) - 3) = (m : Int)) (hm4 : m ≤ 4611686018427387904) (hq : (12 : Int) < (q.size : Int)) (hV0 : V0 = W5.drew) (hs0 : TE R b o cp (evKey m) t q s (fun _ => True) V0) :
    (codeRLd 17).wp Tryd.prog (fun x a V => x = .normal ∧ a = (((((((((((((((((((((((((((((((A.put (some 157) (.pointer (some ⟨R, 0, none⟩))).put (some 158) (.string (evKey m))).put (some 159) (.int .i64 (p : Int))).put (some 160) (.int .i64 (i : Int))).put (some 161) (.int .i64 (sm : Int))).put (some 162) (.int .i64 (m : Int))).put (some 163) (.string (txt m))).put (some 164) (.string (evKey m))).put (some 165) (.bool false)).put (some 166) (.bool false)).put (some 167) (.pointer (some ⟨R, 1, none⟩))).put (some 168) (.slice (some ⟨b, o, none⟩) 3 cp)).put (some 169) (.int .i64 3)).put (some 170) (.bool false)).put (some 171) (.bool false)).put (some 172) (.bool false)).put (some 173) (.pointer (some ⟨R, 1, none⟩))).put (some 174) (.slice (some ⟨b, o, none⟩) 3 cp)).put (some 175) (.pointer (some ⟨b, o + 1, none⟩))).put (some 176) (.string q)).put (some 177) (.int .i64 (q.size : Int))).put (some 178) (.bool true)).put (some 179) (.bool true)).put (some 180) (.bool true)).put (some 181) (undef)).put (some 182) (undef)).put (some 183) (undef)).put (some 184) (undef)).put (some 185) (undef)).put (some 186) (undef)).put (some 187) (.bool true)) ∧ TE R b o cp (evKey m) t q s (fun _ => True) V ∧ Below V0.heap.size V0 V) A W5 := by
  have hm : Tryd.prog.follows .mixedOrders = true := by kernel_rfl
  unfold codeRLd
  conv => arg 2; whnf
  refine wp_region_G (fun _ => false) (TE R b o cp (evKey m) t q s (fun _ => True)) hm ?_
  rw [show ({ W5 with drawn := W5.drawn + 1 } : World) = V0 from hV0.symm]
  refine tkG (i := 0) (d := 157) (v := .pointer (some ⟨R, 0, none⟩)) rfl rfl (yg_fld (by simp [Region.wanted]) (.tmp 19) rfl e19 (fun w => by simp [go_sem])) hs0 ?_
  refine tkG (i := 1) (d := 158) (v := .string (evKey m)) rfl rfl (yg_ld (by simp [Region.wanted]) (.tmp 157) rfl (ev_eq _ _ (by simp [sz])) (fun w hw => by have h1 := hw.k0; simp [go_sem, h1])) hs0 ?_
  refine tkG (i := 2) (d := 159) (v := .int .i64 (p : Int)) rfl rfl (yg_mv (by simp [Region.wanted]) (.tmp 4) rfl (evn (evn e4))) hs0 ?_
  refine tkG (i := 3) (d := 160) (v := .int .i64 (i : Int)) rfl rfl (yg_mv (by simp [Region.wanted]) (.tmp 18) rfl (evn (evn (evn e18)))) hs0 ?_
  refine tkG (i := 4) (d := 161) (v := .int .i64 (sm : Int)) rfl rfl (y_addi (by simp [Region.wanted]) (.tmp 159) (.tmp 160) rfl _ _ _ (evn (ev_eq _ _ (by simp [put_sz, sz]))) (ev_eq _ _ (by simp [put_sz, sz])) hsm) hs0 ?_
  refine tkG (i := 5) (d := 162) (v := .int .i64 (m : Int)) rfl rfl (y_subi (by simp [Region.wanted]) (.tmp 161) (.const (.int .i64 3)) rfl _ _ _ (ev_eq _ _ (by simp [put_sz, sz])) rfl hmm) hs0 ?_
  refine wpAnyG_all (rs := [6]) (by kernel_rfl) (by simp) fun i1 hm1 => ?_
  obtain rfl : i1 = 6 := by simpa using hm1
  refine wpOp_own rfl rfl fun K1 hK1 => ?_
  refine wp_calls1 36 hf_num14 (.tmp 162) _ rfl (.int .i64 (m : Int)) (ev_eq _ _ (by simp [put_sz, sz])) ?_
  refine (refNum_any m hm4 V0).mono ?_
  rintro _ V1 ⟨rfl, hb1⟩
  have hs1 := hs0.keep hb1 trivial
  refine ⟨_, rfl, hK1 _ _ ⟨.inr hs1, ?_⟩⟩
  clear hK1 K1 hm1
  show wpAnyG _ _ _ _ _ _ _ _ (((((((A.put (some 157) (.pointer (some ⟨R, 0, none⟩))).put (some 158) (.string (evKey m))).put (some 159) (.int .i64 (p : Int))).put (some 160) (.int .i64 (i : Int))).put (some 161) (.int .i64 (sm : Int))).put (some 162) (.int .i64 (m : Int))).put (some 163) (.string (txt m))) _
  refine tkG (i := 7) (d := 164) (v := .string (evKey m)) rfl rfl (y_addS (by simp [Region.wanted]) (.const (.string ⟨#[110]⟩)) (.tmp 163) rfl ⟨#[110]⟩ (txt m) rfl (ev_eq _ _ (by simp [put_sz, sz])) (by have := txt_size m hm4; show ¬ 9223372036854775807 < 1 + (txt m).size; omega)) hs1 ?_
  refine tkG (i := 8) (d := 165) (v := .bool false) rfl rfl (yg_bin (by simp [Region.wanted]) (.tmp 158) (.tmp 164) rfl (evn (evn (evn (evn (evn (evn (ev_eq _ _ (by simp [put_sz, sz])))))))) (ev_eq _ _ (by simp [put_sz, sz])) (fun w => by simp [go_sem])) hs1 ?_
  obtain ⟨Az1, hAz1⟩ : ∃ Az1, Az1 = (((((((((A.put (some 157) (.pointer (some ⟨R, 0, none⟩))).put (some 158) (.string (evKey m))).put (some 159) (.int .i64 (p : Int))).put (some 160) (.int .i64 (i : Int))).put (some 161) (.int .i64 (sm : Int))).put (some 162) (.int .i64 (m : Int))).put (some 163) (.string (txt m))).put (some 164) (.string (evKey m))).put (some 165) (.bool false)) := ⟨_, rfl⟩
  have szAz1 : Az1.tmps.size = 233 := by rw [hAz1]; simp [put_sz, sz]
  have eAz119 : Az1.eval (.tmp 19) = .pointer (some ⟨R, 0, none⟩) := by rw [hAz1]; exact (evn (evn (evn (evn (evn (evn (evn (evn (evn e19)))))))))
  have eAz1165 : Az1.eval (.tmp 165) = .bool false := by rw [hAz1]; exact (ev_eq _ _ (by simp [put_sz, sz]))
  rw [← hAz1]
  refine tkG (i := 9) (d := 166) (v := .bool false) rfl rfl (yg_mv (by simp [Region.wanted]) (.tmp 165) rfl eAz1165) hs1 ?_
  refine tkG (i := 10) (d := 167) (v := .pointer (some ⟨R, 1, none⟩)) rfl rfl (yg_fld (guard_f (i := 9) (d := 166) rfl rfl (by simp [put_sz, szAz1]) (ev_eq _ _ (by simp [szAz1]))) (.tmp 19) rfl (evn eAz119) (fun w => by simp [go_sem])) hs1 ?_
  refine tkG (i := 11) (d := 168) (v := .slice (some ⟨b, o, none⟩) 3 cp) rfl rfl (yg_ld (guard_f (i := 9) (d := 166) rfl rfl (by simp [put_sz, szAz1]) (evn (ev_eq _ _ (by simp [szAz1])))) (.tmp 167) rfl (ev_eq _ _ (by simp [put_sz, szAz1])) (fun w hw => by have h1 := hw.k1; simp [go_sem, h1])) hs1 ?_
  refine tkG (i := 12) (d := 169) (v := .int .i64 3) rfl rfl (yg_len (guard_f (i := 9) (d := 166) rfl rfl (by simp [put_sz, szAz1]) (evn (evn (ev_eq _ _ (by simp [szAz1]))))) 168 rfl (ev_eq _ _ (by simp [put_sz, szAz1])) (fun w _ => by simp [go_sem])) hs1 ?_
  refine tkG (i := 13) (d := 170) (v := .bool false) rfl rfl (yg_bin (guard_f (i := 9) (d := 166) rfl rfl (by simp [put_sz, szAz1]) (evn (evn (evn (ev_eq _ _ (by simp [szAz1])))))) (.tmp 169) (.const (.int .i64 3)) rfl (ev_eq _ _ (by simp [put_sz, szAz1])) rfl (fun w => by simp [go_sem])) hs1 ?_
  refine tkG (i := 14) (d := 171) (v := .bool false) rfl rfl (yg_pickF (by simp [Region.wanted]) (.tmp 166) (.const (.bool true)) (.tmp 170) rfl (evn (evn (evn (evn (ev_eq _ _ (by simp [szAz1])))))) (ev_eq _ _ (by simp [put_sz, szAz1]))) hs1 ?_
  refine tkG (i := 15) (d := 172) (v := .bool false) rfl rfl (yg_mv (by simp [Region.wanted]) (.tmp 171) rfl (ev_eq _ _ (by simp [put_sz, szAz1]))) hs1 ?_
  refine tkG (i := 16) (d := 173) (v := .pointer (some ⟨R, 1, none⟩)) rfl rfl (yg_fld (guard_f (i := 15) (d := 172) rfl rfl (by simp [put_sz, szAz1]) (ev_eq _ _ (by simp [put_sz, szAz1]))) (.tmp 19) rfl (evn (evn (evn (evn (evn (evn (evn eAz119))))))) (fun w => by simp [go_sem])) hs1 ?_
  refine tkG (i := 17) (d := 174) (v := .slice (some ⟨b, o, none⟩) 3 cp) rfl rfl (yg_ld (guard_f (i := 15) (d := 172) rfl rfl (by simp [put_sz, szAz1]) (evn (ev_eq _ _ (by simp [put_sz, szAz1])))) (.tmp 173) rfl (ev_eq _ _ (by simp [put_sz, szAz1])) (fun w hw => by have h1 := hw.k1; simp [go_sem, h1])) hs1 ?_
  obtain ⟨Az2, hAz2⟩ : ∃ Az2, Az2 = (((((((((Az1.put (some 166) (.bool false)).put (some 167) (.pointer (some ⟨R, 1, none⟩))).put (some 168) (.slice (some ⟨b, o, none⟩) 3 cp)).put (some 169) (.int .i64 3)).put (some 170) (.bool false)).put (some 171) (.bool false)).put (some 172) (.bool false)).put (some 173) (.pointer (some ⟨R, 1, none⟩))).put (some 174) (.slice (some ⟨b, o, none⟩) 3 cp)) := ⟨_, rfl⟩
  have szAz2 : Az2.tmps.size = 233 := by rw [hAz2]; simp [put_sz, szAz1]
  have eAz219 : Az2.eval (.tmp 19) = .pointer (some ⟨R, 0, none⟩) := by rw [hAz2]; exact (evn (evn (evn (evn (evn (evn (evn (evn (evn eAz119)))))))))
  have eAz2172 : Az2.eval (.tmp 172) = .bool false := by rw [hAz2]; exact (evn (evn (ev_eq _ _ (by simp [put_sz, szAz1]))))
  have eAz2174 : Az2.eval (.tmp 174) = .slice (some ⟨b, o, none⟩) 3 cp := by rw [hAz2]; exact (ev_eq _ _ (by simp [put_sz, szAz1]))
  rw [← hAz2]
  refine tkG (i := 18) (d := 175) (v := .pointer (some ⟨b, o + 1, none⟩)) rfl rfl (yg_ix (guard_f (i := 15) (d := 172) rfl rfl (by simp [szAz2]) eAz2172) (.tmp 174) (.const (.int .i64 1)) rfl eAz2174 rfl (fun w => by simp [go_sem])) hs1 ?_
  refine tkG (i := 19) (d := 176) (v := .string q) rfl rfl (yg_ld (guard_f (i := 15) (d := 172) rfl rfl (by simp [put_sz, szAz2]) (evn eAz2172)) (.tmp 175) rfl (ev_eq _ _ (by simp [szAz2])) (fun w hw => by have h1 := hw.2.1.2.1; simp [go_sem, h1])) hs1 ?_
  refine tkG (i := 20) (d := 177) (v := .int .i64 (q.size : Int)) rfl rfl (yg_len (guard_f (i := 15) (d := 172) rfl rfl (by simp [put_sz, szAz2]) (evn (evn eAz2172))) 176 rfl (ev_eq _ _ (by simp [put_sz, szAz2])) (fun w _ => by simp [go_sem])) hs1 ?_
  refine tkG (i := 21) (d := 178) (v := .bool true) rfl rfl (yg_bin (guard_f (i := 15) (d := 172) rfl rfl (by simp [put_sz, szAz2]) (evn (evn (evn eAz2172)))) (.tmp 177) (.const (.int .i64 12)) rfl (ev_eq _ _ (by simp [put_sz, szAz2])) rfl (fun w => by simp [go_sem, hq])) hs1 ?_
  refine tkG (i := 22) (d := 179) (v := .bool true) rfl rfl (yg_pickF (by simp [Region.wanted]) (.tmp 172) (.const (.bool true)) (.tmp 178) rfl (evn (evn (evn (evn eAz2172)))) (ev_eq _ _ (by simp [put_sz, szAz2]))) hs1 ?_
  refine tkG (i := 23) (d := 180) (v := .bool true) rfl rfl (yg_mv (by simp [Region.wanted]) (.tmp 179) rfl (ev_eq _ _ (by simp [put_sz, szAz2]))) hs1 ?_
  refine tkG (i := 24) (d := 181) (v := undef) rfl rfl (yg_skip (guard_f (i := 23) (d := 180) rfl rfl (by simp [put_sz, szAz2]) (ev_eq _ _ (by simp [put_sz, szAz2])))) hs1 ?_
  refine tkG (i := 25) (d := 182) (v := undef) rfl rfl (yg_skip (guard_f (i := 23) (d := 180) rfl rfl (by simp [put_sz, szAz2]) (evn (ev_eq _ _ (by simp [put_sz, szAz2]))))) hs1 ?_
  refine tkG (i := 26) (d := 183) (v := undef) rfl rfl (yg_skip (guard_f (i := 23) (d := 180) rfl rfl (by simp [put_sz, szAz2]) (evn (evn (ev_eq _ _ (by simp [put_sz, szAz2])))))) hs1 ?_
  obtain ⟨Az3, hAz3⟩ : ∃ Az3, Az3 = (((((((((Az2.put (some 175) (.pointer (some ⟨b, o + 1, none⟩))).put (some 176) (.string q)).put (some 177) (.int .i64 (q.size : Int))).put (some 178) (.bool true)).put (some 179) (.bool true)).put (some 180) (.bool true)).put (some 181) (undef)).put (some 182) (undef)).put (some 183) (undef)) := ⟨_, rfl⟩
  have szAz3 : Az3.tmps.size = 233 := by rw [hAz3]; simp [put_sz, szAz2]
  have eAz3180 : Az3.eval (.tmp 180) = .bool true := by rw [hAz3]; exact (evn (evn (evn (ev_eq _ _ (by simp [put_sz, szAz2])))))
  have eAz3183 : Az3.eval (.tmp 183) = undef := by rw [hAz3]; exact (ev_eq _ _ (by simp [put_sz, szAz2]))
  rw [← hAz3]
  refine tkG (i := 27) (d := 184) (v := undef) rfl rfl (yg_skip (guard_f (i := 23) (d := 180) rfl rfl (by simp [szAz3]) eAz3180)) hs1 ?_
  refine tkG (i := 28) (d := 185) (v := undef) rfl rfl (yg_skip (guard_f (i := 23) (d := 180) rfl rfl (by simp [put_sz, szAz3]) (evn eAz3180))) hs1 ?_
  refine tkG (i := 29) (d := 186) (v := undef) rfl rfl (yg_skip (guard_f (i := 23) (d := 180) rfl rfl (by simp [put_sz, szAz3]) (evn (evn eAz3180)))) hs1 ?_
  refine tkG (i := 30) (d := 187) (v := .bool true) rfl rfl (yg_pickT (by simp [Region.wanted]) (.tmp 180) (.const (.bool true)) (.tmp 186) rfl (evn (evn (evn eAz3180))) rfl) hs1 ?_
  refine wpAnyG_done (by kernel_rfl) ⟨rfl, ?_, hs1, hb1⟩ _
  show ((((Az3.put (some 184) (undef)).put (some 185) (undef)).put (some 186) (undef)).put (some 187) (.bool true)) = _
  rw [hAz3, hAz2, hAz1]
set_option maxHeartbeats 4000000 in
theorem rld_whoNo {V0 W5 : World} {R p i sm : Nat} {A : Act} {m : Nat} {b o cp : Nat} {t q s : ByteArray} (sz : A.tmps.size = 233) (e4 : A.eval (.tmp 4) = .int .i64 (p : Int)) (e18 : A.eval (.tmp 18) = .int .i64 (i : Int)) (e19 : A.eval (.tmp 19) = .pointer (some ⟨R, 0, none⟩)) (hsm : IntKind.i64.wrap ((p : Int) + (i : Int)) = (sm : Int)) (hmm : IntKind.i64.wrap ((sm : Int) - 3) = (m : Int)) (hm4 : m ≤ 4611686018427387904) (hq : ¬ (12 : Int) < (q.size : Int)) (hsz : (30 : Int) < (s.size : Int)) (hV0 : V0 = W5.drew) (hs0 : TE R b o cp (evKey m) t q s (fun _ => True) V0) :
    (codeRLd 17).wp Tryd.prog (fun x a V => x = .normal ∧ a = (((((((((((((((((((((((((((((((A.put (some 157) (.pointer (some ⟨R, 0, none⟩))).put (some 158) (.string (evKey m))).put (some 159) (.int .i64 (p : Int))).put (some 160) (.int .i64 (i : Int))).put (some 161) (.int .i64 (sm : Int))).put (some 162) (.int .i64 (m : Int))).put (some 163) (.string (txt m))).put (some 164) (.string (evKey m))).put (some 165) (.bool false)).put (some 166) (.bool false)).put (some 167) (.pointer (some ⟨R, 1, none⟩))).put (some 168) (.slice (some ⟨b, o, none⟩) 3 cp)).put (some 169) (.int .i64 3)).put (some 170) (.bool false)).put (some 171) (.bool false)).put (some 172) (.bool false)).put (some 173) (.pointer (some ⟨R, 1, none⟩))).put (some 174) (.slice (some ⟨b, o, none⟩) 3 cp)).put (some 175) (.pointer (some ⟨b, o + 1, none⟩))).put (some 176) (.string q)).put (some 177) (.int .i64 (q.size : Int))).put (some 178) (.bool false)).put (some 179) (.bool false)).put (some 180) (.bool false)).put (some 181) (.pointer (some ⟨R, 1, none⟩))).put (some 182) (.slice (some ⟨b, o, none⟩) 3 cp)).put (some 183) (.pointer (some ⟨b, o + 2, none⟩))).put (some 184) (.string s)).put (some 185) (.int .i64 (s.size : Int))).put (some 186) (.bool true)).put (some 187) (.bool true)) ∧ TE R b o cp (evKey m) t q s (fun _ => True) V ∧ Below V0.heap.size V0 V) A W5 := by
  have hm : Tryd.prog.follows .mixedOrders = true := by kernel_rfl
  unfold codeRLd
  conv => arg 2; whnf
  refine wp_region_G (fun _ => false) (TE R b o cp (evKey m) t q s (fun _ => True)) hm ?_
  rw [show ({ W5 with drawn := W5.drawn + 1 } : World) = V0 from hV0.symm]
  refine tkG (i := 0) (d := 157) (v := .pointer (some ⟨R, 0, none⟩)) rfl rfl (yg_fld (by simp [Region.wanted]) (.tmp 19) rfl e19 (fun w => by simp [go_sem])) hs0 ?_
  refine tkG (i := 1) (d := 158) (v := .string (evKey m)) rfl rfl (yg_ld (by simp [Region.wanted]) (.tmp 157) rfl (ev_eq _ _ (by simp [sz])) (fun w hw => by have h1 := hw.k0; simp [go_sem, h1])) hs0 ?_
  refine tkG (i := 2) (d := 159) (v := .int .i64 (p : Int)) rfl rfl (yg_mv (by simp [Region.wanted]) (.tmp 4) rfl (evn (evn e4))) hs0 ?_
  refine tkG (i := 3) (d := 160) (v := .int .i64 (i : Int)) rfl rfl (yg_mv (by simp [Region.wanted]) (.tmp 18) rfl (evn (evn (evn e18)))) hs0 ?_
  refine tkG (i := 4) (d := 161) (v := .int .i64 (sm : Int)) rfl rfl (y_addi (by simp [Region.wanted]) (.tmp 159) (.tmp 160) rfl _ _ _ (evn (ev_eq _ _ (by simp [put_sz, sz]))) (ev_eq _ _ (by simp [put_sz, sz])) hsm) hs0 ?_
  refine tkG (i := 5) (d := 162) (v := .int .i64 (m : Int)) rfl rfl (y_subi (by simp [Region.wanted]) (.tmp 161) (.const (.int .i64 3)) rfl _ _ _ (ev_eq _ _ (by simp [put_sz, sz])) rfl hmm) hs0 ?_
  refine wpAnyG_all (rs := [6]) (by kernel_rfl) (by simp) fun i1 hm1 => ?_
  obtain rfl : i1 = 6 := by simpa using hm1
  refine wpOp_own rfl rfl fun K1 hK1 => ?_
  refine wp_calls1 36 hf_num14 (.tmp 162) _ rfl (.int .i64 (m : Int)) (ev_eq _ _ (by simp [put_sz, sz])) ?_
  refine (refNum_any m hm4 V0).mono ?_
  rintro _ V1 ⟨rfl, hb1⟩
  have hs1 := hs0.keep hb1 trivial
  refine ⟨_, rfl, hK1 _ _ ⟨.inr hs1, ?_⟩⟩
  clear hK1 K1 hm1
  show wpAnyG _ _ _ _ _ _ _ _ (((((((A.put (some 157) (.pointer (some ⟨R, 0, none⟩))).put (some 158) (.string (evKey m))).put (some 159) (.int .i64 (p : Int))).put (some 160) (.int .i64 (i : Int))).put (some 161) (.int .i64 (sm : Int))).put (some 162) (.int .i64 (m : Int))).put (some 163) (.string (txt m))) _
  refine tkG (i := 7) (d := 164) (v := .string (evKey m)) rfl rfl (y_addS (by simp [Region.wanted]) (.const (.string ⟨#[110]⟩)) (.tmp 163) rfl ⟨#[110]⟩ (txt m) rfl (ev_eq _ _ (by simp [put_sz, sz])) (by have := txt_size m hm4; show ¬ 9223372036854775807 < 1 + (txt m).size; omega)) hs1 ?_
  refine tkG (i := 8) (d := 165) (v := .bool false) rfl rfl (yg_bin (by simp [Region.wanted]) (.tmp 158) (.tmp 164) rfl (evn (evn (evn (evn (evn (evn (ev_eq _ _ (by simp [put_sz, sz])))))))) (ev_eq _ _ (by simp [put_sz, sz])) (fun w => by simp [go_sem])) hs1 ?_
  obtain ⟨Az1, hAz1⟩ : ∃ Az1, Az1 = (((((((((A.put (some 157) (.pointer (some ⟨R, 0, none⟩))).put (some 158) (.string (evKey m))).put (some 159) (.int .i64 (p : Int))).put (some 160) (.int .i64 (i : Int))).put (some 161) (.int .i64 (sm : Int))).put (some 162) (.int .i64 (m : Int))).put (some 163) (.string (txt m))).put (some 164) (.string (evKey m))).put (some 165) (.bool false)) := ⟨_, rfl⟩
  have szAz1 : Az1.tmps.size = 233 := by rw [hAz1]; simp [put_sz, sz]
  have eAz119 : Az1.eval (.tmp 19) = .pointer (some ⟨R, 0, none⟩) := by rw [hAz1]; exact (evn (evn (evn (evn (evn (evn (evn (evn (evn e19)))))))))
  have eAz1165 : Az1.eval (.tmp 165) = .bool false := by rw [hAz1]; exact (ev_eq _ _ (by simp [put_sz, sz]))
  rw [← hAz1]
  refine tkG (i := 9) (d := 166) (v := .bool false) rfl rfl (yg_mv (by simp [Region.wanted]) (.tmp 165) rfl eAz1165) hs1 ?_
  refine tkG (i := 10) (d := 167) (v := .pointer (some ⟨R, 1, none⟩)) rfl rfl (yg_fld (guard_f (i := 9) (d := 166) rfl rfl (by simp [put_sz, szAz1]) (ev_eq _ _ (by simp [szAz1]))) (.tmp 19) rfl (evn eAz119) (fun w => by simp [go_sem])) hs1 ?_
  refine tkG (i := 11) (d := 168) (v := .slice (some ⟨b, o, none⟩) 3 cp) rfl rfl (yg_ld (guard_f (i := 9) (d := 166) rfl rfl (by simp [put_sz, szAz1]) (evn (ev_eq _ _ (by simp [szAz1])))) (.tmp 167) rfl (ev_eq _ _ (by simp [put_sz, szAz1])) (fun w hw => by have h1 := hw.k1; simp [go_sem, h1])) hs1 ?_
  refine tkG (i := 12) (d := 169) (v := .int .i64 3) rfl rfl (yg_len (guard_f (i := 9) (d := 166) rfl rfl (by simp [put_sz, szAz1]) (evn (evn (ev_eq _ _ (by simp [szAz1]))))) 168 rfl (ev_eq _ _ (by simp [put_sz, szAz1])) (fun w _ => by simp [go_sem])) hs1 ?_
  refine tkG (i := 13) (d := 170) (v := .bool false) rfl rfl (yg_bin (guard_f (i := 9) (d := 166) rfl rfl (by simp [put_sz, szAz1]) (evn (evn (evn (ev_eq _ _ (by simp [szAz1])))))) (.tmp 169) (.const (.int .i64 3)) rfl (ev_eq _ _ (by simp [put_sz, szAz1])) rfl (fun w => by simp [go_sem])) hs1 ?_
  refine tkG (i := 14) (d := 171) (v := .bool false) rfl rfl (yg_pickF (by simp [Region.wanted]) (.tmp 166) (.const (.bool true)) (.tmp 170) rfl (evn (evn (evn (evn (ev_eq _ _ (by simp [szAz1])))))) (ev_eq _ _ (by simp [put_sz, szAz1]))) hs1 ?_
  refine tkG (i := 15) (d := 172) (v := .bool false) rfl rfl (yg_mv (by simp [Region.wanted]) (.tmp 171) rfl (ev_eq _ _ (by simp [put_sz, szAz1]))) hs1 ?_
  refine tkG (i := 16) (d := 173) (v := .pointer (some ⟨R, 1, none⟩)) rfl rfl (yg_fld (guard_f (i := 15) (d := 172) rfl rfl (by simp [put_sz, szAz1]) (ev_eq _ _ (by simp [put_sz, szAz1]))) (.tmp 19) rfl (evn (evn (evn (evn (evn (evn (evn eAz119))))))) (fun w => by simp [go_sem])) hs1 ?_
  refine tkG (i := 17) (d := 174) (v := .slice (some ⟨b, o, none⟩) 3 cp) rfl rfl (yg_ld (guard_f (i := 15) (d := 172) rfl rfl (by simp [put_sz, szAz1]) (evn (ev_eq _ _ (by simp [put_sz, szAz1])))) (.tmp 173) rfl (ev_eq _ _ (by simp [put_sz, szAz1])) (fun w hw => by have h1 := hw.k1; simp [go_sem, h1])) hs1 ?_
  obtain ⟨Az2, hAz2⟩ : ∃ Az2, Az2 = (((((((((Az1.put (some 166) (.bool false)).put (some 167) (.pointer (some ⟨R, 1, none⟩))).put (some 168) (.slice (some ⟨b, o, none⟩) 3 cp)).put (some 169) (.int .i64 3)).put (some 170) (.bool false)).put (some 171) (.bool false)).put (some 172) (.bool false)).put (some 173) (.pointer (some ⟨R, 1, none⟩))).put (some 174) (.slice (some ⟨b, o, none⟩) 3 cp)) := ⟨_, rfl⟩
  have szAz2 : Az2.tmps.size = 233 := by rw [hAz2]; simp [put_sz, szAz1]
  have eAz219 : Az2.eval (.tmp 19) = .pointer (some ⟨R, 0, none⟩) := by rw [hAz2]; exact (evn (evn (evn (evn (evn (evn (evn (evn (evn eAz119)))))))))
  have eAz2172 : Az2.eval (.tmp 172) = .bool false := by rw [hAz2]; exact (evn (evn (ev_eq _ _ (by simp [put_sz, szAz1]))))
  have eAz2174 : Az2.eval (.tmp 174) = .slice (some ⟨b, o, none⟩) 3 cp := by rw [hAz2]; exact (ev_eq _ _ (by simp [put_sz, szAz1]))
  rw [← hAz2]
  refine tkG (i := 18) (d := 175) (v := .pointer (some ⟨b, o + 1, none⟩)) rfl rfl (yg_ix (guard_f (i := 15) (d := 172) rfl rfl (by simp [szAz2]) eAz2172) (.tmp 174) (.const (.int .i64 1)) rfl eAz2174 rfl (fun w => by simp [go_sem])) hs1 ?_
  refine tkG (i := 19) (d := 176) (v := .string q) rfl rfl (yg_ld (guard_f (i := 15) (d := 172) rfl rfl (by simp [put_sz, szAz2]) (evn eAz2172)) (.tmp 175) rfl (ev_eq _ _ (by simp [szAz2])) (fun w hw => by have h1 := hw.2.1.2.1; simp [go_sem, h1])) hs1 ?_
  refine tkG (i := 20) (d := 177) (v := .int .i64 (q.size : Int)) rfl rfl (yg_len (guard_f (i := 15) (d := 172) rfl rfl (by simp [put_sz, szAz2]) (evn (evn eAz2172))) 176 rfl (ev_eq _ _ (by simp [put_sz, szAz2])) (fun w _ => by simp [go_sem])) hs1 ?_
  refine tkG (i := 21) (d := 178) (v := .bool false) rfl rfl (yg_bin (guard_f (i := 15) (d := 172) rfl rfl (by simp [put_sz, szAz2]) (evn (evn (evn eAz2172)))) (.tmp 177) (.const (.int .i64 12)) rfl (ev_eq _ _ (by simp [put_sz, szAz2])) rfl (fun w => by simp [go_sem, hq])) hs1 ?_
  refine tkG (i := 22) (d := 179) (v := .bool false) rfl rfl (yg_pickF (by simp [Region.wanted]) (.tmp 172) (.const (.bool true)) (.tmp 178) rfl (evn (evn (evn (evn eAz2172)))) (ev_eq _ _ (by simp [put_sz, szAz2]))) hs1 ?_
  refine tkG (i := 23) (d := 180) (v := .bool false) rfl rfl (yg_mv (by simp [Region.wanted]) (.tmp 179) rfl (ev_eq _ _ (by simp [put_sz, szAz2]))) hs1 ?_
  refine tkG (i := 24) (d := 181) (v := .pointer (some ⟨R, 1, none⟩)) rfl rfl (yg_fld (guard_f (i := 23) (d := 180) rfl rfl (by simp [put_sz, szAz2]) (ev_eq _ _ (by simp [put_sz, szAz2]))) (.tmp 19) rfl (evn (evn (evn (evn (evn (evn eAz219)))))) (fun w => by simp [go_sem])) hs1 ?_
  refine tkG (i := 25) (d := 182) (v := .slice (some ⟨b, o, none⟩) 3 cp) rfl rfl (yg_ld (guard_f (i := 23) (d := 180) rfl rfl (by simp [put_sz, szAz2]) (evn (ev_eq _ _ (by simp [put_sz, szAz2])))) (.tmp 181) rfl (ev_eq _ _ (by simp [put_sz, szAz2])) (fun w hw => by have h1 := hw.k1; simp [go_sem, h1])) hs1 ?_
  refine tkG (i := 26) (d := 183) (v := .pointer (some ⟨b, o + 2, none⟩)) rfl rfl (yg_ix (guard_f (i := 23) (d := 180) rfl rfl (by simp [put_sz, szAz2]) (evn (evn (ev_eq _ _ (by simp [put_sz, szAz2]))))) (.tmp 182) (.const (.int .i64 2)) rfl (ev_eq _ _ (by simp [put_sz, szAz2])) rfl (fun w => by simp [go_sem])) hs1 ?_
  obtain ⟨Az3, hAz3⟩ : ∃ Az3, Az3 = (((((((((Az2.put (some 175) (.pointer (some ⟨b, o + 1, none⟩))).put (some 176) (.string q)).put (some 177) (.int .i64 (q.size : Int))).put (some 178) (.bool false)).put (some 179) (.bool false)).put (some 180) (.bool false)).put (some 181) (.pointer (some ⟨R, 1, none⟩))).put (some 182) (.slice (some ⟨b, o, none⟩) 3 cp)).put (some 183) (.pointer (some ⟨b, o + 2, none⟩))) := ⟨_, rfl⟩
  have szAz3 : Az3.tmps.size = 233 := by rw [hAz3]; simp [put_sz, szAz2]
  have eAz3180 : Az3.eval (.tmp 180) = .bool false := by rw [hAz3]; exact (evn (evn (evn (ev_eq _ _ (by simp [put_sz, szAz2])))))
  have eAz3183 : Az3.eval (.tmp 183) = .pointer (some ⟨b, o + 2, none⟩) := by rw [hAz3]; exact (ev_eq _ _ (by simp [put_sz, szAz2]))
  rw [← hAz3]
  refine tkG (i := 27) (d := 184) (v := .string s) rfl rfl (yg_ld (guard_f (i := 23) (d := 180) rfl rfl (by simp [szAz3]) eAz3180) (.tmp 183) rfl eAz3183 (fun w hw => by have h1 := hw.2.1.2.2; simp [go_sem, h1])) hs1 ?_
  refine tkG (i := 28) (d := 185) (v := .int .i64 (s.size : Int)) rfl rfl (yg_len (guard_f (i := 23) (d := 180) rfl rfl (by simp [put_sz, szAz3]) (evn eAz3180)) 184 rfl (ev_eq _ _ (by simp [szAz3])) (fun w _ => by simp [go_sem])) hs1 ?_
  refine tkG (i := 29) (d := 186) (v := .bool true) rfl rfl (yg_bin (guard_f (i := 23) (d := 180) rfl rfl (by simp [put_sz, szAz3]) (evn (evn eAz3180))) (.tmp 185) (.const (.int .i64 30)) rfl (ev_eq _ _ (by simp [put_sz, szAz3])) rfl (fun w => by simp [go_sem, hsz])) hs1 ?_
  refine tkG (i := 30) (d := 187) (v := .bool true) rfl rfl (yg_pickF (by simp [Region.wanted]) (.tmp 180) (.const (.bool true)) (.tmp 186) rfl (evn (evn (evn eAz3180))) (ev_eq _ _ (by simp [put_sz, szAz3]))) hs1 ?_
  refine wpAnyG_done (by kernel_rfl) ⟨rfl, ?_, hs1, hb1⟩ _
  show ((((Az3.put (some 184) (.string s)).put (some 185) (.int .i64 (s.size : Int))).put (some 186) (.bool true)).put (some 187) (.bool true)) = _
  rw [hAz3, hAz2, hAz1]
end Go.Proofs.YthfmpebgmojcaaaDoor
