/- The reference's Load: the regions of its loop that draw their order. (Printed by gen/zld.py.) -/
import Derived.Test.YthfmpebgmojcaaaDoorTkG
import Derived.Test.YthfmpebgmojcaaaDoorZHash
namespace Go.Proofs.YthfmpebgmojcaaaDoor
open Go.RowKit
set_option linter.unusedVariables false
set_option maxRecDepth 20000
theorem cell_99 {V : World} {g : Nat} {v : Value} {c : Ch} (h : V.heap[g]? = some (.cells (rfcells c v).toArray 93 (0, 0))) (ok : Lens c) : V.cell? ⟨g, 99, none⟩ = some v := by
  rw [rfcells_v] at h
  exact cell_mid h 99 (by simp [rfnums, cellsOf_length, ok.lb, ok.lan, ok.lh])
theorem added_rowR {V0 w V2 : World} {B g : Nat} {v : Value} {c : Ch} {l : List Ev} {k n cap : Nat} (H1 : RAt w B g v c) (ok : Lens c) (hown : V2.ownsRow B 55 4 (.slice (some ⟨k, 0, none⟩) n cap) l.length (eCells l)) (hg : w.grownBy V2 v.ownBlock) (hk : v.ownBlock = some k ∨ k = w.heap.size) (o2 : V2.heap[g]? = some (.cells (rfcells c v).toArray 93 (0, 0))) (hB : B ≤ V0.heap.size) (b01 : Below V0.heap.size V0 w) :
    RAt (V2.setCell ⟨g, 99, none⟩ (.slice (some ⟨k, 0, none⟩) n cap)) B g (.slice (some ⟨k, 0, none⟩) n cap) { c with ev := l } ∧ Below B V0 (V2.setCell ⟨g, 99, none⟩ (.slice (some ⟨k, 0, none⟩) n cap)) := by
  have hne : k ≠ g := by
    rcases hk with h | h
    · exact H1.ne k h
    · have := H1.lt; omega
  refine ⟨⟨?_, ⟨hown.1, ?_⟩, H1.bg⟩, ?_⟩
  · rw [heap_setCell_same V2 g 99 _ _ _ o2, rfcells_set99 ok]
    rfl
  · rcases hown.2 with h0 | ⟨k', cp, cur, e, hb, hk', r⟩
    · exact .inl h0
    · cases e
      exact .inr ⟨_, _, cur, rfl, hb, (heap_setCell_other _ _ _ _ hne).trans hk', r⟩
  · have b1 : Below B V0 V2 := (b01.mono hB).grown hg (Nat.le_trans hB b01.size) (fun j hj => (H1.lts j hj).1)
    exact (Out.setCell (P := fun j => B ≤ j) ⟨b1.os, b1.tape, b1.output, b1.size, fun j hj hp => b1.block j (by omega)⟩ _ _ H1.bg).below hB (fun j hj => hj)
noncomputable def codeRLd (n : Nat) : Code := ((Tryd.f7.body.bind (regionAt n)).getD .skip)
set_option maxHeartbeats 4000000 in
theorem rld_region17 {V0 W5 : World} {B g R b o cp p i sm : Nat} {c : Ch} {A : Act} {m : Nat} {t q s : ByteArray} {K : World → Prop} (sz : A.tmps.size = 233) (e4 : A.eval (.tmp 4) = .int .i64 (p : Int)) (e18 : A.eval (.tmp 18) = .int .i64 (i : Int)) (e19 : A.eval (.tmp 19) = .pointer (some ⟨R, 0, none⟩)) (hsm : IntKind.i64.wrap ((p : Int) + (i : Int)) = (sm : Int)) (hmm : IntKind.i64.wrap ((sm : Int) - 3) = (m : Int)) (hm4 : m ≤ 4611686018427387904) (hq : ¬ (12 : Int) < (q.size : Int)) (hsz : ¬ (30 : Int) < (s.size : Int)) (hK : ∀ {V V' : World}, Below V.heap.size V V' → K V → K V') (hV0 : V0 = W5.drew) (hs0 : TE R b o cp (evKey m) t q s K V0) :
    (codeRLd 17).wp Tryd.prog (fun x a V => x = .normal ∧ a = (((((((((((((((((((((((((((((((A.put (some 157) (.pointer (some ⟨R, 0, none⟩))).put (some 158) (.string (evKey m))).put (some 159) (.int .i64 (p : Int))).put (some 160) (.int .i64 (i : Int))).put (some 161) (.int .i64 (sm : Int))).put (some 162) (.int .i64 (m : Int))).put (some 163) (.string (txt m))).put (some 164) (.string (evKey m))).put (some 165) (.bool false)).put (some 166) (.bool false)).put (some 167) (.pointer (some ⟨R, 1, none⟩))).put (some 168) (.slice (some ⟨b, o, none⟩) 3 cp)).put (some 169) (.int .i64 3)).put (some 170) (.bool false)).put (some 171) (.bool false)).put (some 172) (.bool false)).put (some 173) (.pointer (some ⟨R, 1, none⟩))).put (some 174) (.slice (some ⟨b, o, none⟩) 3 cp)).put (some 175) (.pointer (some ⟨b, o + 1, none⟩))).put (some 176) (.string q)).put (some 177) (.int .i64 (q.size : Int))).put (some 178) (.bool false)).put (some 179) (.bool false)).put (some 180) (.bool false)).put (some 181) (.pointer (some ⟨R, 1, none⟩))).put (some 182) (.slice (some ⟨b, o, none⟩) 3 cp)).put (some 183) (.pointer (some ⟨b, o + 2, none⟩))).put (some 184) (.string s)).put (some 185) (.int .i64 (s.size : Int))).put (some 186) (.bool false)).put (some 187) (.bool false)) ∧ TE R b o cp (evKey m) t q s K V ∧ Below V0.heap.size V0 V) A W5 := by
  have hm : Tryd.prog.follows .mixedOrders = true := by kernel_rfl
  unfold codeRLd
  conv => arg 2; whnf
  refine wp_region_G (fun _ => false) (TE R b o cp (evKey m) t q s K) hm ?_
  rw [show ({ W5 with drawn := W5.drawn + 1 } : World) = V0 from hV0.symm]
  refine tkG (i := 0) (d := 157) (v := .pointer (some ⟨R, 0, none⟩)) rfl rfl (yg_fld (by simp [Region.wanted]) (.tmp 19) rfl e19 (fun w => by simp [go_sem])) hs0 ?_
  refine tkG (i := 1) (d := 158) (v := .string (evKey m)) rfl rfl (yg_ld (by simp [Region.wanted]) (.tmp 157) rfl (ev_eq _ _ (by simp [sz])) (fun w hw => by have h1 := hw.k0; simp [go_sem, h1])) hs0 ?_
  refine tkG (i := 2) (d := 159) (v := .int .i64 (p : Int)) rfl rfl (yg_mv (by simp [Region.wanted]) (.tmp 4) rfl (evn (evn e4))) hs0 ?_
  refine tkG (i := 3) (d := 160) (v := .int .i64 (i : Int)) rfl rfl (yg_mv (by simp [Region.wanted]) (.tmp 18) rfl (evn (evn (evn e18)))) hs0 ?_
  refine tkG (i := 4) (d := 161) (v := .int .i64 (sm : Int)) rfl rfl (y_addi (by simp [Region.wanted]) (.tmp 159) (.tmp 160) rfl _ _ _ (evn (ev_eq _ _ (by simp [put_sz, sz]))) (ev_eq _ _ (by simp [put_sz, sz])) hsm) hs0 ?_
  refine tkG (i := 5) (d := 162) (v := .int .i64 (m : Int)) rfl rfl (y_subi (by simp [Region.wanted]) (.tmp 161) (.const (.int .i64 3)) rfl _ _ _ (ev_eq _ _ (by simp [put_sz, sz])) rfl hmm) hs0 ?_
  refine wpAnyG_all (rs := [6]) (by kernel_rfl) (by simp) fun i1 hm1 => ?_
  obtain rfl : i1 = 6 := by simpa using hm1
  refine wpOp_own rfl rfl fun K1 hK1 => ?_
  refine wp_calls1 36 hf_num14 (.tmp 162) _ rfl (.int .i64 (m : Int)) (ev_eq _ _ (by simp [put_sz, sz])) ?_
  refine (refNum_any m hm4 V0).mono ?_
  rintro _ V1 ⟨rfl, hb1⟩
  have hs1 := hs0.keep hb1 (hK hb1 hs0.2.2)
  refine ⟨_, rfl, hK1 _ _ ⟨.inr hs1, ?_⟩⟩
  clear hK1 K1 hm1
  show wpAnyG _ _ _ _ _ _ _ _ (((((((A.put (some 157) (.pointer (some ⟨R, 0, none⟩))).put (some 158) (.string (evKey m))).put (some 159) (.int .i64 (p : Int))).put (some 160) (.int .i64 (i : Int))).put (some 161) (.int .i64 (sm : Int))).put (some 162) (.int .i64 (m : Int))).put (some 163) (.string (txt m))) _
  refine tkG (i := 7) (d := 164) (v := .string (evKey m)) rfl rfl (y_addS (by simp [Region.wanted]) (.const (.string ⟨#[110]⟩)) (.tmp 163) rfl ⟨#[110]⟩ (txt m) rfl (ev_eq _ _ (by simp [put_sz, sz])) (by have := txt_size m hm4; show ¬ 9223372036854775807 < 1 + (txt m).size; omega)) hs1 ?_
  refine tkG (i := 8) (d := 165) (v := .bool false) rfl rfl (yg_bin (by simp [Region.wanted]) (.tmp 158) (.tmp 164) rfl (evn (evn (evn (evn (evn (evn (ev_eq _ _ (by simp [put_sz, sz])))))))) (ev_eq _ _ (by simp [put_sz, sz])) (fun w => by simp [go_sem])) hs1 ?_
  obtain ⟨Az1, hAz1⟩ : ∃ Az1, Az1 = (((((((((A.put (some 157) (.pointer (some ⟨R, 0, none⟩))).put (some 158) (.string (evKey m))).put (some 159) (.int .i64 (p : Int))).put (some 160) (.int .i64 (i : Int))).put (some 161) (.int .i64 (sm : Int))).put (some 162) (.int .i64 (m : Int))).put (some 163) (.string (txt m))).put (some 164) (.string (evKey m))).put (some 165) (.bool false)) := ⟨_, rfl⟩
  have szAz1 : Az1.tmps.size = 233 := by rw [hAz1]; simp [put_sz, sz]
  have eAz119 : Az1.eval (.tmp 19) = .pointer (some ⟨R, 0, none⟩) := by rw [hAz1]; exact (evn (evn (evn (evn (evn (evn (evn (evn (evn e19)))))))))
  have eAz1165 : Az1.eval (.tmp 165) = .bool false := by rw [hAz1]; exact (ev_eq _ _ (by simp [put_sz, sz]))
  rw [← hAz1]
  refine tkG (i := 9) (d := 166) (v := .bool false) rfl rfl (yg_mv (by simp [Region.wanted]) (.tmp 165) rfl eAz1165) hs1 ?_
  refine tkG (i := 10) (d := 167) (v := .pointer (some ⟨R, 1, none⟩)) rfl rfl (yg_fld (guard_f (i := 9) (d := 166) rfl rfl (by simp [put_sz, szAz1]) (ev_eq _ _ (by simp [szAz1]))) (.tmp 19) rfl (evn eAz119) (fun w => by simp [go_sem])) hs1 ?_
  refine tkG (i := 11) (d := 168) (v := .slice (some ⟨b, o, none⟩) 3 cp) rfl rfl (yg_ld (guard_f (i := 9) (d := 166) rfl rfl (by simp [put_sz, szAz1]) (evn (ev_eq _ _ (by simp [szAz1])))) (.tmp 167) rfl (ev_eq _ _ (by simp [put_sz, szAz1])) (fun w hw => by have h1 := hw.k1; simp [go_sem, h1])) hs1 ?_
  refine tkG (i := 12) (d := 169) (v := .int .i64 3) rfl rfl (yg_len (guard_f (i := 9) (d := 166) rfl rfl (by simp [put_sz, szAz1]) (evn (evn (ev_eq _ _ (by simp [szAz1]))))) 168 rfl (ev_eq _ _ (by simp [put_sz, szAz1])) (fun w _ => by simp [go_sem])) hs1 ?_
  refine tkG (i := 13) (d := 170) (v := .bool false) rfl rfl (yg_bin (guard_f (i := 9) (d := 166) rfl rfl (by simp [put_sz, szAz1]) (evn (evn (evn (ev_eq _ _ (by simp [szAz1])))))) (.tmp 169) (.const (.int .i64 3)) rfl (ev_eq _ _ (by simp [put_sz, szAz1])) rfl (fun w => by simp [go_sem])) hs1 ?_
  refine tkG (i := 14) (d := 171) (v := .bool false) rfl rfl (yg_pickF (by simp [Region.wanted]) (.tmp 166) (.const (.bool true)) (.tmp 170) rfl (evn (evn (evn (evn (ev_eq _ _ (by simp [szAz1])))))) (ev_eq _ _ (by simp [put_sz, szAz1]))) hs1 ?_
  refine tkG (i := 15) (d := 172) (v := .bool false) rfl rfl (yg_mv (by simp [Region.wanted]) (.tmp 171) rfl (ev_eq _ _ (by simp [put_sz, szAz1]))) hs1 ?_
  refine tkG (i := 16) (d := 173) (v := .pointer (some ⟨R, 1, none⟩)) rfl rfl (yg_fld (guard_f (i := 15) (d := 172) rfl rfl (by simp [put_sz, szAz1]) (ev_eq _ _ (by simp [put_sz, szAz1]))) (.tmp 19) rfl (evn (evn (evn (evn (evn (evn (evn eAz119))))))) (fun w => by simp [go_sem])) hs1 ?_
  refine tkG (i := 17) (d := 174) (v := .slice (some ⟨b, o, none⟩) 3 cp) rfl rfl (yg_ld (guard_f (i := 15) (d := 172) rfl rfl (by simp [put_sz, szAz1]) (evn (ev_eq _ _ (by simp [put_sz, szAz1])))) (.tmp 173) rfl (ev_eq _ _ (by simp [put_sz, szAz1])) (fun w hw => by have h1 := hw.k1; simp [go_sem, h1])) hs1 ?_
  obtain ⟨Az2, hAz2⟩ : ∃ Az2, Az2 = (((((((((Az1.put (some 166) (.bool false)).put (some 167) (.pointer (some ⟨R, 1, none⟩))).put (some 168) (.slice (some ⟨b, o, none⟩) 3 cp)).put (some 169) (.int .i64 3)).put (some 170) (.bool false)).put (some 171) (.bool false)).put (some 172) (.bool false)).put (some 173) (.pointer (some ⟨R, 1, none⟩))).put (some 174) (.slice (some ⟨b, o, none⟩) 3 cp)) := ⟨_, rfl⟩
  have szAz2 : Az2.tmps.size = 233 := by rw [hAz2]; simp [put_sz, szAz1]
  have eAz219 : Az2.eval (.tmp 19) = .pointer (some ⟨R, 0, none⟩) := by rw [hAz2]; exact (evn (evn (evn (evn (evn (evn (evn (evn (evn eAz119)))))))))
  have eAz2172 : Az2.eval (.tmp 172) = .bool false := by rw [hAz2]; exact (evn (evn (ev_eq _ _ (by simp [put_sz, szAz1]))))
  have eAz2174 : Az2.eval (.tmp 174) = .slice (some ⟨b, o, none⟩) 3 cp := by rw [hAz2]; exact (ev_eq _ _ (by simp [put_sz, szAz1]))
  rw [← hAz2]
  refine tkG (i := 18) (d := 175) (v := .pointer (some ⟨b, o + 1, none⟩)) rfl rfl (yg_ix (guard_f (i := 15) (d := 172) rfl rfl (by simp [szAz2]) eAz2172) (.tmp 174) (.const (.int .i64 1)) rfl eAz2174 rfl (fun w => by simp [go_sem])) hs1 ?_
  refine tkG (i := 19) (d := 176) (v := .string q) rfl rfl (yg_ld (guard_f (i := 15) (d := 172) rfl rfl (by simp [put_sz, szAz2]) (evn eAz2172)) (.tmp 175) rfl (ev_eq _ _ (by simp [szAz2])) (fun w hw => by have h1 := hw.2.1.2.1; simp [go_sem, h1])) hs1 ?_
  refine tkG (i := 20) (d := 177) (v := .int .i64 (q.size : Int)) rfl rfl (yg_len (guard_f (i := 15) (d := 172) rfl rfl (by simp [put_sz, szAz2]) (evn (evn eAz2172))) 176 rfl (ev_eq _ _ (by simp [put_sz, szAz2])) (fun w _ => by simp [go_sem])) hs1 ?_
  refine tkG (i := 21) (d := 178) (v := .bool false) rfl rfl (yg_bin (guard_f (i := 15) (d := 172) rfl rfl (by simp [put_sz, szAz2]) (evn (evn (evn eAz2172)))) (.tmp 177) (.const (.int .i64 12)) rfl (ev_eq _ _ (by simp [put_sz, szAz2])) rfl (fun w => by simp [go_sem, hq])) hs1 ?_
  refine tkG (i := 22) (d := 179) (v := .bool false) rfl rfl (yg_pickF (by simp [Region.wanted]) (.tmp 172) (.const (.bool true)) (.tmp 178) rfl (evn (evn (evn (evn eAz2172)))) (ev_eq _ _ (by simp [put_sz, szAz2]))) hs1 ?_
  refine tkG (i := 23) (d := 180) (v := .bool false) rfl rfl (yg_mv (by simp [Region.wanted]) (.tmp 179) rfl (ev_eq _ _ (by simp [put_sz, szAz2]))) hs1 ?_
  refine tkG (i := 24) (d := 181) (v := .pointer (some ⟨R, 1, none⟩)) rfl rfl (yg_fld (guard_f (i := 23) (d := 180) rfl rfl (by simp [put_sz, szAz2]) (ev_eq _ _ (by simp [put_sz, szAz2]))) (.tmp 19) rfl (evn (evn (evn (evn (evn (evn eAz219)))))) (fun w => by simp [go_sem])) hs1 ?_
  refine tkG (i := 25) (d := 182) (v := .slice (some ⟨b, o, none⟩) 3 cp) rfl rfl (yg_ld (guard_f (i := 23) (d := 180) rfl rfl (by simp [put_sz, szAz2]) (evn (ev_eq _ _ (by simp [put_sz, szAz2])))) (.tmp 181) rfl (ev_eq _ _ (by simp [put_sz, szAz2])) (fun w hw => by have h1 := hw.k1; simp [go_sem, h1])) hs1 ?_
  refine tkG (i := 26) (d := 183) (v := .pointer (some ⟨b, o + 2, none⟩)) rfl rfl (yg_ix (guard_f (i := 23) (d := 180) rfl rfl (by simp [put_sz, szAz2]) (evn (evn (ev_eq _ _ (by simp [put_sz, szAz2]))))) (.tmp 182) (.const (.int .i64 2)) rfl (ev_eq _ _ (by simp [put_sz, szAz2])) rfl (fun w => by simp [go_sem])) hs1 ?_
  obtain ⟨Az3, hAz3⟩ : ∃ Az3, Az3 = (((((((((Az2.put (some 175) (.pointer (some ⟨b, o + 1, none⟩))).put (some 176) (.string q)).put (some 177) (.int .i64 (q.size : Int))).put (some 178) (.bool false)).put (some 179) (.bool false)).put (some 180) (.bool false)).put (some 181) (.pointer (some ⟨R, 1, none⟩))).put (some 182) (.slice (some ⟨b, o, none⟩) 3 cp)).put (some 183) (.pointer (some ⟨b, o + 2, none⟩))) := ⟨_, rfl⟩
  have szAz3 : Az3.tmps.size = 233 := by rw [hAz3]; simp [put_sz, szAz2]
  have eAz3180 : Az3.eval (.tmp 180) = .bool false := by rw [hAz3]; exact (evn (evn (evn (ev_eq _ _ (by simp [put_sz, szAz2])))))
  have eAz3183 : Az3.eval (.tmp 183) = .pointer (some ⟨b, o + 2, none⟩) := by rw [hAz3]; exact (ev_eq _ _ (by simp [put_sz, szAz2]))
  rw [← hAz3]
  refine tkG (i := 27) (d := 184) (v := .string s) rfl rfl (yg_ld (guard_f (i := 23) (d := 180) rfl rfl (by simp [szAz3]) eAz3180) (.tmp 183) rfl eAz3183 (fun w hw => by have h1 := hw.2.1.2.2; simp [go_sem, h1])) hs1 ?_
  refine tkG (i := 28) (d := 185) (v := .int .i64 (s.size : Int)) rfl rfl (yg_len (guard_f (i := 23) (d := 180) rfl rfl (by simp [put_sz, szAz3]) (evn eAz3180)) 184 rfl (ev_eq _ _ (by simp [szAz3])) (fun w _ => by simp [go_sem])) hs1 ?_
  refine tkG (i := 29) (d := 186) (v := .bool false) rfl rfl (yg_bin (guard_f (i := 23) (d := 180) rfl rfl (by simp [put_sz, szAz3]) (evn (evn eAz3180))) (.tmp 185) (.const (.int .i64 30)) rfl (ev_eq _ _ (by simp [put_sz, szAz3])) rfl (fun w => by simp [go_sem, hsz])) hs1 ?_
  refine tkG (i := 30) (d := 187) (v := .bool false) rfl rfl (yg_pickF (by simp [Region.wanted]) (.tmp 180) (.const (.bool true)) (.tmp 186) rfl (evn (evn (evn eAz3180))) (ev_eq _ _ (by simp [put_sz, szAz3]))) hs1 ?_
  refine wpAnyG_done (by kernel_rfl) ⟨rfl, ?_, hs1, hb1⟩ _
  show ((((Az3.put (some 184) (.string s)).put (some 185) (.int .i64 (s.size : Int))).put (some 186) (.bool false)).put (some 187) (.bool false)) = _
  rw [hAz3, hAz2, hAz1]
set_option maxHeartbeats 4000000 in
theorem rld_region23 {V0 W5 : World} {B g R b o cp p i sm : Nat} {c : Ch} {A : Act} {e : Ev} {key t : ByteArray} {a0 : Option Addr} {n0 c0 : Nat} (sz : A.tmps.size = 233) (e4 : A.eval (.tmp 4) = .int .i64 (p : Int)) (e18 : A.eval (.tmp 18) = .int .i64 (i : Int)) (e19 : A.eval (.tmp 19) = .pointer (some ⟨R, 0, none⟩)) (hsm : IntKind.i64.wrap ((p : Int) + (i : Int)) = (sm : Int)) (hmm : IntKind.i64.wrap ((sm : Int) - 3) = (e.num : Int)) (e16 : A.eval (.tmp 16) = .pointer (some ⟨g, 0, none⟩)) (e20 : A.eval (.tmp 20) = .int .i64 (e.tim : Int)) (ok : Lens c) (hfew : c.ev.length ≤ 1000) (H0 : RAt V0 B g (.slice a0 n0 c0) c) (hB : B ≤ V0.heap.size) (hneR : (Value.slice a0 n0 c0).ownBlock ≠ some R) (hneb : (Value.slice a0 n0 c0).ownBlock ≠ some b) (hV0 : V0 = W5.drew) (hs0 : TE R b o cp key t e.what e.who (fun V => V.heap[g]? = some (.cells (rfcells c (.slice a0 n0 c0)).toArray 93 (0, 0))) V0) :
    (codeRLd 23).wp Tryd.prog (fun x a V => x = .normal ∧ ∃ k cap, a = (((((((((((((((((((((((A.put (some 209) (.pointer (some ⟨g, 0, none⟩))).put (some 210) (.pointer (some ⟨g, 0, none⟩))).put (some 211) (.pointer (some ⟨g, 0, none⟩))).put (some 212) (.pointer (some ⟨g, 99, none⟩))).put (some 213) (.slice a0 n0 c0)).put (some 214) (.int .i64 (p : Int))).put (some 215) (.int .i64 (i : Int))).put (some 216) (.int .i64 (sm : Int))).put (some 217) (.int .i64 (e.num : Int))).put (some 218) (.int .i64 (e.tim : Int))).put (some 219) (.pointer (some ⟨R, 1, none⟩))).put (some 220) (.slice (some ⟨b, o, none⟩) 3 cp)).put (some 221) (.pointer (some ⟨b, o + 1, none⟩))).put (some 222) (.string e.what)).put (some 223) (.pointer (some ⟨R, 1, none⟩))).put (some 224) (.slice (some ⟨b, o, none⟩) 3 cp)).put (some 225) (.pointer (some ⟨b, o + 2, none⟩))).put (some 226) (.string e.who)).put (some 227) (.agg (eVals e).toArray)).put (some 228) (.slice (some ⟨V0.heap.size, 0, none⟩) 1 1)).put (some 229) (.slice (some ⟨k, 0, none⟩) (c.ev ++ [e]).length cap)).put (some 230) (.pointer (some ⟨g, 0, none⟩))).put (some 231) (.pointer (some ⟨g, 99, none⟩))) ∧ RAt V B g (.slice (some ⟨k, 0, none⟩) (c.ev ++ [e]).length cap) { c with ev := c.ev ++ [e] } ∧ Below B V0 V) A W5 := by
  have hm : Tryd.prog.follows .mixedOrders = true := by kernel_rfl
  unfold codeRLd
  conv => arg 2; whnf
  refine wp_region_G (fun i => i == 23) (TE R b o cp key t e.what e.who (fun V => V.heap[g]? = some (.cells (rfcells c (.slice a0 n0 c0)).toArray 93 (0, 0)))) hm ?_
  rw [show ({ W5 with drawn := W5.drawn + 1 } : World) = V0 from hV0.symm]
  refine tkG (i := 0) (d := 209) (v := .pointer (some ⟨g, 0, none⟩)) rfl rfl (yg_mv (by simp [Region.wanted]) (.tmp 16) rfl e16) hs0 ?_
  refine tkG (i := 1) (d := 210) (v := .pointer (some ⟨g, 0, none⟩)) rfl rfl (yg_mv (by simp [Region.wanted]) (.tmp 16) rfl (evn e16)) hs0 ?_
  refine tkG (i := 2) (d := 211) (v := .pointer (some ⟨g, 0, none⟩)) rfl rfl (yg_nil (by simp [Region.wanted]) (.tmp 210) rfl (ev_eq _ _ (by simp [put_sz, sz]))) hs0 ?_
  refine tkG (i := 3) (d := 212) (v := .pointer (some ⟨g, 99, none⟩)) rfl rfl (yg_fld (by simp [Region.wanted]) (.tmp 211) rfl (ev_eq _ _ (by simp [put_sz, sz])) (fun w => by simp [go_sem])) hs0 ?_
  refine tkG (i := 4) (d := 213) (v := .slice a0 n0 c0) rfl rfl (yg_ld (by simp [Region.wanted]) (.tmp 212) rfl (ev_eq _ _ (by simp [put_sz, sz])) (fun w hw => by have h1 := cell_99 hw.2.2 ok; simp [go_sem, h1])) hs0 ?_
  refine tkG (i := 5) (d := 214) (v := .int .i64 (p : Int)) rfl rfl (yg_mv (by simp [Region.wanted]) (.tmp 4) rfl (evn (evn (evn (evn (evn e4)))))) hs0 ?_
  refine tkG (i := 6) (d := 215) (v := .int .i64 (i : Int)) rfl rfl (yg_mv (by simp [Region.wanted]) (.tmp 18) rfl (evn (evn (evn (evn (evn (evn e18))))))) hs0 ?_
  refine tkG (i := 7) (d := 216) (v := .int .i64 (sm : Int)) rfl rfl (y_addi (by simp [Region.wanted]) (.tmp 214) (.tmp 215) rfl _ _ _ (evn (ev_eq _ _ (by simp [put_sz, sz]))) (ev_eq _ _ (by simp [put_sz, sz])) hsm) hs0 ?_
  refine tkG (i := 8) (d := 217) (v := .int .i64 (e.num : Int)) rfl rfl (y_subi (by simp [Region.wanted]) (.tmp 216) (.const (.int .i64 3)) rfl _ _ _ (ev_eq _ _ (by simp [put_sz, sz])) rfl hmm) hs0 ?_
  obtain ⟨Az1, hAz1⟩ : ∃ Az1, Az1 = (((((((((A.put (some 209) (.pointer (some ⟨g, 0, none⟩))).put (some 210) (.pointer (some ⟨g, 0, none⟩))).put (some 211) (.pointer (some ⟨g, 0, none⟩))).put (some 212) (.pointer (some ⟨g, 99, none⟩))).put (some 213) (.slice a0 n0 c0)).put (some 214) (.int .i64 (p : Int))).put (some 215) (.int .i64 (i : Int))).put (some 216) (.int .i64 (sm : Int))).put (some 217) (.int .i64 (e.num : Int))) := ⟨_, rfl⟩
  have szAz1 : Az1.tmps.size = 233 := by rw [hAz1]; simp [put_sz, sz]
  have eAz119 : Az1.eval (.tmp 19) = .pointer (some ⟨R, 0, none⟩) := by rw [hAz1]; exact (evn (evn (evn (evn (evn (evn (evn (evn (evn e19)))))))))
  have eAz120 : Az1.eval (.tmp 20) = .int .i64 (e.tim : Int) := by rw [hAz1]; exact (evn (evn (evn (evn (evn (evn (evn (evn (evn e20)))))))))
  have eAz1209 : Az1.eval (.tmp 209) = .pointer (some ⟨g, 0, none⟩) := by rw [hAz1]; exact (evn (evn (evn (evn (evn (evn (evn (evn (ev_eq _ _ (by simp [sz]))))))))))
  have eAz1213 : Az1.eval (.tmp 213) = .slice a0 n0 c0 := by rw [hAz1]; exact (evn (evn (evn (evn (ev_eq _ _ (by simp [put_sz, sz]))))))
  have eAz1217 : Az1.eval (.tmp 217) = .int .i64 (e.num : Int) := by rw [hAz1]; exact (ev_eq _ _ (by simp [put_sz, sz]))
  rw [← hAz1]
  refine tkG (i := 9) (d := 218) (v := .int .i64 (e.tim : Int)) rfl rfl (yg_mv (by simp [Region.wanted]) (.tmp 20) rfl eAz120) hs0 ?_
  refine tkG (i := 10) (d := 219) (v := .pointer (some ⟨R, 1, none⟩)) rfl rfl (yg_fld (by simp [Region.wanted]) (.tmp 19) rfl (evn eAz119) (fun w => by simp [go_sem])) hs0 ?_
  refine tkG (i := 11) (d := 220) (v := .slice (some ⟨b, o, none⟩) 3 cp) rfl rfl (yg_ld (by simp [Region.wanted]) (.tmp 219) rfl (ev_eq _ _ (by simp [put_sz, szAz1])) (fun w hw => by have h1 := hw.k1; simp [go_sem, h1])) hs0 ?_
  refine tkG (i := 12) (d := 221) (v := .pointer (some ⟨b, o + 1, none⟩)) rfl rfl (yg_ix (by simp [Region.wanted]) (.tmp 220) (.const (.int .i64 1)) rfl (ev_eq _ _ (by simp [put_sz, szAz1])) rfl (fun w => by simp [go_sem])) hs0 ?_
  refine tkG (i := 13) (d := 222) (v := .string e.what) rfl rfl (yg_ld (by simp [Region.wanted]) (.tmp 221) rfl (ev_eq _ _ (by simp [put_sz, szAz1])) (fun w hw => by have h1 := hw.2.1.2.1; simp [go_sem, h1])) hs0 ?_
  refine tkG (i := 14) (d := 223) (v := .pointer (some ⟨R, 1, none⟩)) rfl rfl (yg_fld (by simp [Region.wanted]) (.tmp 19) rfl (evn (evn (evn (evn (evn eAz119))))) (fun w => by simp [go_sem])) hs0 ?_
  refine tkG (i := 15) (d := 224) (v := .slice (some ⟨b, o, none⟩) 3 cp) rfl rfl (yg_ld (by simp [Region.wanted]) (.tmp 223) rfl (ev_eq _ _ (by simp [put_sz, szAz1])) (fun w hw => by have h1 := hw.k1; simp [go_sem, h1])) hs0 ?_
  refine tkG (i := 16) (d := 225) (v := .pointer (some ⟨b, o + 2, none⟩)) rfl rfl (yg_ix (by simp [Region.wanted]) (.tmp 224) (.const (.int .i64 2)) rfl (ev_eq _ _ (by simp [put_sz, szAz1])) rfl (fun w => by simp [go_sem])) hs0 ?_
  refine tkG (i := 17) (d := 226) (v := .string e.who) rfl rfl (yg_ld (by simp [Region.wanted]) (.tmp 225) rfl (ev_eq _ _ (by simp [put_sz, szAz1])) (fun w hw => by have h1 := hw.2.1.2.2; simp [go_sem, h1])) hs0 ?_
  obtain ⟨Az2, hAz2⟩ : ∃ Az2, Az2 = (((((((((Az1.put (some 218) (.int .i64 (e.tim : Int))).put (some 219) (.pointer (some ⟨R, 1, none⟩))).put (some 220) (.slice (some ⟨b, o, none⟩) 3 cp)).put (some 221) (.pointer (some ⟨b, o + 1, none⟩))).put (some 222) (.string e.what)).put (some 223) (.pointer (some ⟨R, 1, none⟩))).put (some 224) (.slice (some ⟨b, o, none⟩) 3 cp)).put (some 225) (.pointer (some ⟨b, o + 2, none⟩))).put (some 226) (.string e.who)) := ⟨_, rfl⟩
  have szAz2 : Az2.tmps.size = 233 := by rw [hAz2]; simp [put_sz, szAz1]
  have eAz2209 : Az2.eval (.tmp 209) = .pointer (some ⟨g, 0, none⟩) := by rw [hAz2]; exact (evn (evn (evn (evn (evn (evn (evn (evn (evn eAz1209)))))))))
  have eAz2213 : Az2.eval (.tmp 213) = .slice a0 n0 c0 := by rw [hAz2]; exact (evn (evn (evn (evn (evn (evn (evn (evn (evn eAz1213)))))))))
  have eAz2217 : Az2.eval (.tmp 217) = .int .i64 (e.num : Int) := by rw [hAz2]; exact (evn (evn (evn (evn (evn (evn (evn (evn (evn eAz1217)))))))))
  have eAz2218 : Az2.eval (.tmp 218) = .int .i64 (e.tim : Int) := by rw [hAz2]; exact (evn (evn (evn (evn (evn (evn (evn (evn (ev_eq _ _ (by simp [szAz1]))))))))))
  have eAz2222 : Az2.eval (.tmp 222) = .string e.what := by rw [hAz2]; exact (evn (evn (evn (evn (ev_eq _ _ (by simp [put_sz, szAz1]))))))
  have eAz2226 : Az2.eval (.tmp 226) = .string e.who := by rw [hAz2]; exact (ev_eq _ _ (by simp [put_sz, szAz1]))
  rw [← hAz2]
  refine tkG (i := 18) (d := 227) (v := .agg (eVals e).toArray) rfl rfl (y_buildE (by simp [Region.wanted]) (.tmp 217) (.tmp 218) (.tmp 222) (.tmp 226) rfl e eAz2217 eAz2218 eAz2222 eAz2226) hs0 ?_
  refine wpAnyG_all (rs := [19]) (by kernel_rfl) (by simp) fun i1 hm1 => ?_
  obtain rfl : i1 = 19 := by simpa using hm1
  refine wpOp_own rfl rfl fun K1 hK1 => ?_
  refine wp_buildE (.tmp 227) rfl e (ev_eq _ _ (by simp [szAz2])) ?_
  have b01 : Below V0.heap.size V0 (V0.alloc (.cells (eVals e).toArray 55)) := (Below.refl _ V0).alloc (Nat.le_refl _) _
  have H1 := H0.below b01
  have hs1 := hs0.keep b01 H1.obj
  refine hK1 _ _ ⟨.inr hs1, ?_⟩
  clear hK1 K1 hm1
  show wpAnyG _ _ _ _ _ _ _ _ ((Az2.put (some 227) (.agg (eVals e).toArray)).put (some 228) (.slice (some ⟨V0.heap.size, 0, none⟩) 1 1)) _
  refine wpAnyG_all (rs := [20]) (by kernel_rfl) (by simp) fun i2 hm2 => ?_
  obtain rfl : i2 = 20 := by simpa using hm2
  refine wpOp_own rfl rfl fun K2 hK2 => ?_
  refine wp_appE _ (.tmp 213) (.tmp 228) rfl B (.slice a0 n0 c0) c.ev (evn (evn eAz2213)) H1.row e V0.heap.size (ev_eq _ _ (by simp [put_sz, szAz2])) (range_new V0 e) hfew (Nat.le_trans hB b01.size) ?_
  intro k cap V2 hown hgrow hk
  have o2 : V2.heap[g]? = some (.cells (rfcells c (.slice a0 n0 c0)).toArray 93 (0, 0)) := (hgrow.block g H1.lt (fun x => H1.ne g x.symm rfl)).trans H1.obj
  have hs2 := hs1.grown hgrow hneR hneb o2
  refine hK2 _ _ ⟨.inr hs2, ?_⟩
  clear hK2 K2 hm2
  show wpAnyG _ _ _ _ _ _ _ _ (((Az2.put (some 227) (.agg (eVals e).toArray)).put (some 228) (.slice (some ⟨V0.heap.size, 0, none⟩) 1 1)).put (some 229) (.slice (some ⟨k, 0, none⟩) (c.ev ++ [e]).length cap)) _
  refine wpAnyG_one (i := 21) (v := .pointer (some ⟨g, 0, none⟩)) rfl (by kernel_rfl) (yg_nil (by simp [Region.wanted]) (.tmp 209) rfl (evn (evn (evn eAz2209)))) hs2 ?_
  show wpAnyG _ _ _ _ _ _ _ _ ((((Az2.put (some 227) (.agg (eVals e).toArray)).put (some 228) (.slice (some ⟨V0.heap.size, 0, none⟩) 1 1)).put (some 229) (.slice (some ⟨k, 0, none⟩) (c.ev ++ [e]).length cap)).put (some 230) (.pointer (some ⟨g, 0, none⟩))) _
  refine wpAnyG_one (i := 22) (v := .pointer (some ⟨g, 99, none⟩)) rfl (by kernel_rfl) (yg_fld (by simp [Region.wanted]) (.tmp 230) rfl (ev_eq _ _ (by simp [put_sz, szAz2])) (fun w => by simp [go_sem])) hs2 ?_
  show wpAnyG _ _ _ _ _ _ _ _ (((((Az2.put (some 227) (.agg (eVals e).toArray)).put (some 228) (.slice (some ⟨V0.heap.size, 0, none⟩) 1 1)).put (some 229) (.slice (some ⟨k, 0, none⟩) (c.ev ++ [e]).length cap)).put (some 230) (.pointer (some ⟨g, 0, none⟩))).put (some 231) (.pointer (some ⟨g, 99, none⟩))) _
  obtain ⟨Az3, hAz3⟩ : ∃ Az3, Az3 = (((((Az2.put (some 227) (.agg (eVals e).toArray)).put (some 228) (.slice (some ⟨V0.heap.size, 0, none⟩) 1 1)).put (some 229) (.slice (some ⟨k, 0, none⟩) (c.ev ++ [e]).length cap)).put (some 230) (.pointer (some ⟨g, 0, none⟩))).put (some 231) (.pointer (some ⟨g, 99, none⟩))) := ⟨_, rfl⟩
  have szAz3 : Az3.tmps.size = 233 := by rw [hAz3]; simp [put_sz, szAz2]
  have eAz3229 : Az3.eval (.tmp 229) = .slice (some ⟨k, 0, none⟩) (c.ev ++ [e]).length cap := by rw [hAz3]; exact (evn (evn (ev_eq _ _ (by simp [put_sz, szAz2]))))
  have eAz3231 : Az3.eval (.tmp 231) = .pointer (some ⟨g, 99, none⟩) := by rw [hAz3]; exact (ev_eq _ _ (by simp [put_sz, szAz2]))
  rw [← hAz3]
  refine wpAnyG_all (rs := [23]) (by kernel_rfl) (by simp) fun i3 hm3 => ?_
  obtain rfl : i3 = 23 := by simpa using hm3
  refine wpOp_own rfl rfl fun K3 hK3 => ?_
  refine wp_storeV (.tmp 231) (.tmp 229) rfl g 99 (some ⟨k, 0, none⟩) _ cap (.slice a0 n0 c0) eAz3231 eAz3229 (cell_99 o2 ok) (frozen_of_row _ _ _ _ _ o2) ?_
  have hfin := added_rowR H1 ok hown hgrow hk o2 hB b01
  refine hK3 _ _ ⟨.inl rfl, wpAnyG_done (by kernel_rfl) ⟨rfl, k, cap, ?_, hfin.1, hfin.2⟩ _⟩
  show Az3 = _
  rw [hAz3, hAz2, hAz1]
end Go.Proofs.YthfmpebgmojcaaaDoor
