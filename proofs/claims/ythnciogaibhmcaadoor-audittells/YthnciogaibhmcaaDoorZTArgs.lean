/- YthnciogaibhmcaaDoorZLaw + YthnciogaibhmcaaDoorZTl1 + YthnciogaibhmcaaDoorZTells + YthnciogaibhmcaaDoorZTArgs -/
import Derived.Test.YthnciogaibhmcaaDoorZRows
import Derived.Test.YthnciogaibhmcaaDoorAInv
import Derived.Test.YthnciogaibhmcaaDoorZLd2
/- law 14's same: both chains have the same. -/
namespace Go.Proofs.YthnciogaibhmcaaDoor
open Go.RowKit Go.Shelf
set_option linter.unusedVariables false
set_option maxRecDepth 20000
attribute [local go_sem ↓] loadL_fold storeL_fold loadH_fold storeH_fold buildH_fold
end Go.Proofs.YthnciogaibhmcaaDoor

/- AuditTells: the region that changes a row, and what it makes of the rows. (Printed by gen/ztells.py.) -/
namespace Go.Proofs.YthnciogaibhmcaaDoor
open Go.RowKit
set_option linter.unusedVariables false
set_option maxRecDepth 20000
theorem y_idxR {ops : Array Oper} {S : World → Prop} {op : Oper} {a : Act} (hw : Region.wanted op (yielded ops a.tmps) = true) (x y : Operand) (ho : op.op = .indexAddr 33 x y) (g n c k : Nat) (hx : a.eval x = .slice (some ⟨g, 0, none⟩) n c) (hy : a.eval y = .int .i64 (k : Int)) (hk : k < n) : YieldsIf Tryd.prog ops S op (.pointer (some ⟨g, k * 2, none⟩)) a := by
  refine .inl ⟨hw, fun w _ => ?_⟩
  have h1 : (k : Int) < (n : Int) := by omega
  have h0 : (0 : Int) ≤ (k : Int) := by omega
  unfold execOp
  simp only [ho, hx, hy]
  simp [go_sem, h0, h1]
def TlS (b bb X i c3 : Nat) (key t q s : ByteArray) (V : World) : Prop := V.cell? ⟨b, i * 2, none⟩ = some (.string key) ∧ V.cell? ⟨b, i * 2 + 1, none⟩ = some (.slice (some ⟨bb, 0, none⟩) 3 c3) ∧ V.cell? ⟨bb, 0, none⟩ = some (.string t) ∧ V.cell? ⟨X, 3, none⟩ = some (.string q) ∧ V.cell? ⟨X, 4, none⟩ = some (.string s)
theorem cell_onZ {V V' : World} (hb : Below V.heap.size V V') {a : Addr} {v : Value} (h : V.cell? a = some v) : V'.cell? a = some v := (hb.cell (World.block_lt_of_cell? _ _ h)).trans h
theorem TlS.keep {b bb X i c3 : Nat} {key t q s : ByteArray} {V V' : World} (h : TlS b bb X i c3 key t q s V) (hb : Below V.heap.size V V') : TlS b bb X i c3 key t q s V' := ⟨cell_onZ hb h.1, cell_onZ hb h.2.1, cell_onZ hb h.2.2.1, cell_onZ hb h.2.2.2.1, cell_onZ hb h.2.2.2.2⟩
theorem _root_.Go.World.there.alloc2 {w : World} {b o n : Nat} (h : w.there b o n) (x : Obj) : (w.alloc x).there b o n := fun j hj => by
  obtain ⟨h1, h2⟩ := h j hj
  obtain ⟨u, hu⟩ := Option.isSome_iff_exists.1 h1
  have hb := (Below.refl _ w).alloc (Nat.le_refl _) x
  have hl := World.block_lt_of_cell? _ _ hu
  refine ⟨by rw [hb.cell hl]; exact h1, ?_⟩
  have hbk := hb.block b hl
  unfold World.frozen? at h2 ⊢
  rw [hbk]
  exact h2
noncomputable def codeTl (n : Nat) : Code := ((Tryd.f5.body.bind (regionAt n)).getD .skip)
set_option maxHeartbeats 4000000 in
theorem tl_region12 {V0 W5 : World} {b bb X i n cp c3 : Nat} {key t q s : ByteArray} {A : Act} (sz : A.tmps.size = 123) (e10 : A.eval (.tmp 10) = .slice (some ⟨b, 0, none⟩) n cp) (e11 : A.eval (.tmp 11) = .int .i64 (i : Int)) (e5 : A.eval (.tmp 5) = .pointer (some ⟨X, 0, none⟩)) (hin : i < n) (hth : V0.there b (i * 2) 2) (hV0 : V0 = W5.drew) (hs0 : TlS b bb X i c3 key t q s V0) :
    (codeTl 12).wp Tryd.prog (fun x a V => x = .normal ∧ a = (((((((((((((((((((((A.put (some 62) (.slice (some ⟨b, 0, none⟩) n cp)).put (some 63) (.int .i64 (i : Int))).put (some 64) (.slice (some ⟨b, 0, none⟩) n cp)).put (some 65) (.int .i64 (i : Int))).put (some 66) (.pointer (some ⟨b, i * 2, none⟩))).put (some 67) (.pointer (some ⟨b, i * 2, none⟩))).put (some 68) (.string key)).put (some 69) (.slice (some ⟨b, 0, none⟩) n cp)).put (some 70) (.int .i64 (i : Int))).put (some 71) (.pointer (some ⟨b, i * 2, none⟩))).put (some 72) (.pointer (some ⟨b, i * 2 + 1, none⟩))).put (some 73) (.slice (some ⟨bb, 0, none⟩) 3 c3)).put (some 74) (.pointer (some ⟨bb, 0, none⟩))).put (some 75) (.string t)).put (some 76) (.pointer (some ⟨X, 3, none⟩))).put (some 77) (.string q)).put (some 78) (.pointer (some ⟨X, 4, none⟩))).put (some 79) (.string s)).put (some 80) (.slice (some ⟨V0.heap.size, 0, none⟩) 3 3)).put (some 81) (.agg #[.string key, .slice (some ⟨V0.heap.size, 0, none⟩) 3 3])).put (some 82) (.pointer (some ⟨b, i * 2, none⟩))) ∧ V = (V0.alloc (.cells #[.string t, .string q, .string s] 9)).setCells b (i * 2) [.string key, .slice (some ⟨V0.heap.size, 0, none⟩) 3 3]) A W5 := by
  have hm : Tryd.prog.follows .mixedOrders = true := by kernel_rfl
  unfold codeTl
  conv => arg 2; whnf
  refine wp_region_G (fun i => i == 21) ((TlS b bb X i c3 key t q s)) hm ?_
  rw [show ({ W5 with drawn := W5.drawn + 1 } : World) = V0 from hV0.symm]
  refine wpAnyG_take (i := 0) (v := .slice (some ⟨b, 0, none⟩) n cp) rfl (by kernel_rfl) (by kernel_rfl) (by kernel_rfl) (fun _ _ _ h => nomatch h.1) (yg_mv (by simp [Region.wanted]) (.tmp 10) rfl e10) hs0 ?_
  show wpAnyG _ _ _ _ _ _ _ _ (A.put (some 62) (.slice (some ⟨b, 0, none⟩) n cp)) _
  refine wpAnyG_take (i := 1) (v := .int .i64 (i : Int)) rfl (by kernel_rfl) (by kernel_rfl) (by kernel_rfl) (fun _ _ _ h => nomatch h.1) (yg_mv (by simp [Region.wanted]) (.tmp 11) rfl ((ev_ne _ _ (by decide)).trans e11)) hs0 ?_
  show wpAnyG _ _ _ _ _ _ _ _ ((A.put (some 62) (.slice (some ⟨b, 0, none⟩) n cp)).put (some 63) (.int .i64 (i : Int))) _
  refine wpAnyG_take (i := 2) (v := .slice (some ⟨b, 0, none⟩) n cp) rfl (by kernel_rfl) (by kernel_rfl) (by kernel_rfl) (fun _ _ _ h => nomatch h.1) (yg_mv (by simp [Region.wanted]) (.tmp 10) rfl ((ev_ne _ _ (by decide)).trans ((ev_ne _ _ (by decide)).trans e10))) hs0 ?_
  show wpAnyG _ _ _ _ _ _ _ _ (((A.put (some 62) (.slice (some ⟨b, 0, none⟩) n cp)).put (some 63) (.int .i64 (i : Int))).put (some 64) (.slice (some ⟨b, 0, none⟩) n cp)) _
  refine wpAnyG_take (i := 3) (v := .int .i64 (i : Int)) rfl (by kernel_rfl) (by kernel_rfl) (by kernel_rfl) (fun _ _ _ h => nomatch h.1) (yg_mv (by simp [Region.wanted]) (.tmp 11) rfl ((ev_ne _ _ (by decide)).trans ((ev_ne _ _ (by decide)).trans ((ev_ne _ _ (by decide)).trans e11)))) hs0 ?_
  show wpAnyG _ _ _ _ _ _ _ _ ((((A.put (some 62) (.slice (some ⟨b, 0, none⟩) n cp)).put (some 63) (.int .i64 (i : Int))).put (some 64) (.slice (some ⟨b, 0, none⟩) n cp)).put (some 65) (.int .i64 (i : Int))) _
  refine wpAnyG_take (i := 4) (v := .pointer (some ⟨b, i * 2, none⟩)) rfl (by kernel_rfl) (by kernel_rfl) (by kernel_rfl) (fun _ _ _ h => nomatch h.1) (y_idxR (by simp [Region.wanted]) (.tmp 64) (.tmp 65) rfl b n cp i ((ev_ne _ _ (by decide)).trans (ev_eq _ _ (by simp [put_sz, sz]))) (ev_eq _ _ (by simp [put_sz, sz])) hin) hs0 ?_
  show wpAnyG _ _ _ _ _ _ _ _ (((((A.put (some 62) (.slice (some ⟨b, 0, none⟩) n cp)).put (some 63) (.int .i64 (i : Int))).put (some 64) (.slice (some ⟨b, 0, none⟩) n cp)).put (some 65) (.int .i64 (i : Int))).put (some 66) (.pointer (some ⟨b, i * 2, none⟩))) _
  refine wpAnyG_take (i := 5) (v := .pointer (some ⟨b, i * 2, none⟩)) rfl (by kernel_rfl) (by kernel_rfl) (by kernel_rfl) (fun _ _ _ h => nomatch h.1) (yg_fld (by simp [Region.wanted]) (.tmp 66) rfl (ev_eq _ _ (by simp [put_sz, sz])) (fun w => by simp [go_sem])) hs0 ?_
  show wpAnyG _ _ _ _ _ _ _ _ ((((((A.put (some 62) (.slice (some ⟨b, 0, none⟩) n cp)).put (some 63) (.int .i64 (i : Int))).put (some 64) (.slice (some ⟨b, 0, none⟩) n cp)).put (some 65) (.int .i64 (i : Int))).put (some 66) (.pointer (some ⟨b, i * 2, none⟩))).put (some 67) (.pointer (some ⟨b, i * 2, none⟩))) _
  refine wpAnyG_take (i := 6) (v := .string key) rfl (by kernel_rfl) (by kernel_rfl) (by kernel_rfl) (fun _ _ _ h => nomatch h.1) (yg_ld (by simp [Region.wanted]) (.tmp 67) rfl (ev_eq _ _ (by simp [put_sz, sz])) (fun w hw => by have h1 := hw.1; simp [go_sem, h1])) hs0 ?_
  show wpAnyG _ _ _ _ _ _ _ _ (((((((A.put (some 62) (.slice (some ⟨b, 0, none⟩) n cp)).put (some 63) (.int .i64 (i : Int))).put (some 64) (.slice (some ⟨b, 0, none⟩) n cp)).put (some 65) (.int .i64 (i : Int))).put (some 66) (.pointer (some ⟨b, i * 2, none⟩))).put (some 67) (.pointer (some ⟨b, i * 2, none⟩))).put (some 68) (.string key)) _
  refine wpAnyG_take (i := 7) (v := .slice (some ⟨b, 0, none⟩) n cp) rfl (by kernel_rfl) (by kernel_rfl) (by kernel_rfl) (fun _ _ _ h => nomatch h.1) (yg_mv (by simp [Region.wanted]) (.tmp 10) rfl ((ev_ne _ _ (by decide)).trans ((ev_ne _ _ (by decide)).trans ((ev_ne _ _ (by decide)).trans ((ev_ne _ _ (by decide)).trans ((ev_ne _ _ (by decide)).trans ((ev_ne _ _ (by decide)).trans ((ev_ne _ _ (by decide)).trans e10)))))))) hs0 ?_
  show wpAnyG _ _ _ _ _ _ _ _ ((((((((A.put (some 62) (.slice (some ⟨b, 0, none⟩) n cp)).put (some 63) (.int .i64 (i : Int))).put (some 64) (.slice (some ⟨b, 0, none⟩) n cp)).put (some 65) (.int .i64 (i : Int))).put (some 66) (.pointer (some ⟨b, i * 2, none⟩))).put (some 67) (.pointer (some ⟨b, i * 2, none⟩))).put (some 68) (.string key)).put (some 69) (.slice (some ⟨b, 0, none⟩) n cp)) _
  refine wpAnyG_take (i := 8) (v := .int .i64 (i : Int)) rfl (by kernel_rfl) (by kernel_rfl) (by kernel_rfl) (fun _ _ _ h => nomatch h.1) (yg_mv (by simp [Region.wanted]) (.tmp 11) rfl ((ev_ne _ _ (by decide)).trans ((ev_ne _ _ (by decide)).trans ((ev_ne _ _ (by decide)).trans ((ev_ne _ _ (by decide)).trans ((ev_ne _ _ (by decide)).trans ((ev_ne _ _ (by decide)).trans ((ev_ne _ _ (by decide)).trans ((ev_ne _ _ (by decide)).trans e11))))))))) hs0 ?_
  show wpAnyG _ _ _ _ _ _ _ _ (((((((((A.put (some 62) (.slice (some ⟨b, 0, none⟩) n cp)).put (some 63) (.int .i64 (i : Int))).put (some 64) (.slice (some ⟨b, 0, none⟩) n cp)).put (some 65) (.int .i64 (i : Int))).put (some 66) (.pointer (some ⟨b, i * 2, none⟩))).put (some 67) (.pointer (some ⟨b, i * 2, none⟩))).put (some 68) (.string key)).put (some 69) (.slice (some ⟨b, 0, none⟩) n cp)).put (some 70) (.int .i64 (i : Int))) _
  obtain ⟨Az1, hAz1⟩ : ∃ Az1, Az1 = (((((((((A.put (some 62) (.slice (some ⟨b, 0, none⟩) n cp)).put (some 63) (.int .i64 (i : Int))).put (some 64) (.slice (some ⟨b, 0, none⟩) n cp)).put (some 65) (.int .i64 (i : Int))).put (some 66) (.pointer (some ⟨b, i * 2, none⟩))).put (some 67) (.pointer (some ⟨b, i * 2, none⟩))).put (some 68) (.string key)).put (some 69) (.slice (some ⟨b, 0, none⟩) n cp)).put (some 70) (.int .i64 (i : Int))) := ⟨_, rfl⟩
  have szAz1 : Az1.tmps.size = 123 := by rw [hAz1]; simp [put_sz, sz]
  have eAz15 : Az1.eval (.tmp 5) = .pointer (some ⟨X, 0, none⟩) := by rw [hAz1]; exact ((ev_ne _ _ (by decide)).trans ((ev_ne _ _ (by decide)).trans ((ev_ne _ _ (by decide)).trans ((ev_ne _ _ (by decide)).trans ((ev_ne _ _ (by decide)).trans ((ev_ne _ _ (by decide)).trans ((ev_ne _ _ (by decide)).trans ((ev_ne _ _ (by decide)).trans ((ev_ne _ _ (by decide)).trans e5)))))))))
  have eAz162 : Az1.eval (.tmp 62) = .slice (some ⟨b, 0, none⟩) n cp := by rw [hAz1]; exact ((ev_ne _ _ (by decide)).trans ((ev_ne _ _ (by decide)).trans ((ev_ne _ _ (by decide)).trans ((ev_ne _ _ (by decide)).trans ((ev_ne _ _ (by decide)).trans ((ev_ne _ _ (by decide)).trans ((ev_ne _ _ (by decide)).trans ((ev_ne _ _ (by decide)).trans (ev_eq _ _ (by simp [sz]))))))))))
  have eAz163 : Az1.eval (.tmp 63) = .int .i64 (i : Int) := by rw [hAz1]; exact ((ev_ne _ _ (by decide)).trans ((ev_ne _ _ (by decide)).trans ((ev_ne _ _ (by decide)).trans ((ev_ne _ _ (by decide)).trans ((ev_ne _ _ (by decide)).trans ((ev_ne _ _ (by decide)).trans ((ev_ne _ _ (by decide)).trans (ev_eq _ _ (by simp [put_sz, sz])))))))))
  have eAz168 : Az1.eval (.tmp 68) = .string key := by rw [hAz1]; exact ((ev_ne _ _ (by decide)).trans ((ev_ne _ _ (by decide)).trans (ev_eq _ _ (by simp [put_sz, sz]))))
  have eAz169 : Az1.eval (.tmp 69) = .slice (some ⟨b, 0, none⟩) n cp := by rw [hAz1]; exact ((ev_ne _ _ (by decide)).trans (ev_eq _ _ (by simp [put_sz, sz])))
  have eAz170 : Az1.eval (.tmp 70) = .int .i64 (i : Int) := by rw [hAz1]; exact (ev_eq _ _ (by simp [put_sz, sz]))
  rw [← hAz1]
  refine wpAnyG_take (i := 9) (v := .pointer (some ⟨b, i * 2, none⟩)) rfl (by kernel_rfl) (by kernel_rfl) (by kernel_rfl) (fun _ _ _ h => nomatch h.1) (y_idxR (by simp [Region.wanted]) (.tmp 69) (.tmp 70) rfl b n cp i eAz169 eAz170 hin) hs0 ?_
  show wpAnyG _ _ _ _ _ _ _ _ (Az1.put (some 71) (.pointer (some ⟨b, i * 2, none⟩))) _
  refine wpAnyG_take (i := 10) (v := .pointer (some ⟨b, i * 2 + 1, none⟩)) rfl (by kernel_rfl) (by kernel_rfl) (by kernel_rfl) (fun _ _ _ h => nomatch h.1) (yg_fld (by simp [Region.wanted]) (.tmp 71) rfl (ev_eq _ _ (by simp [szAz1])) (fun w => by simp [go_sem])) hs0 ?_
  show wpAnyG _ _ _ _ _ _ _ _ ((Az1.put (some 71) (.pointer (some ⟨b, i * 2, none⟩))).put (some 72) (.pointer (some ⟨b, i * 2 + 1, none⟩))) _
  refine wpAnyG_take (i := 11) (v := .slice (some ⟨bb, 0, none⟩) 3 c3) rfl (by kernel_rfl) (by kernel_rfl) (by kernel_rfl) (fun _ _ _ h => nomatch h.1) (yg_ld (by simp [Region.wanted]) (.tmp 72) rfl (ev_eq _ _ (by simp [put_sz, szAz1])) (fun w hw => by have h1 := hw.2.1; simp [go_sem, h1])) hs0 ?_
  show wpAnyG _ _ _ _ _ _ _ _ (((Az1.put (some 71) (.pointer (some ⟨b, i * 2, none⟩))).put (some 72) (.pointer (some ⟨b, i * 2 + 1, none⟩))).put (some 73) (.slice (some ⟨bb, 0, none⟩) 3 c3)) _
  refine wpAnyG_take (i := 12) (v := .pointer (some ⟨bb, 0, none⟩)) rfl (by kernel_rfl) (by kernel_rfl) (by kernel_rfl) (fun _ _ _ h => nomatch h.1) (yg_ix (by simp [Region.wanted]) (.tmp 73) (.const (.int .i64 0)) rfl (ev_eq _ _ (by simp [put_sz, szAz1])) rfl (fun w => by simp [go_sem])) hs0 ?_
  show wpAnyG _ _ _ _ _ _ _ _ ((((Az1.put (some 71) (.pointer (some ⟨b, i * 2, none⟩))).put (some 72) (.pointer (some ⟨b, i * 2 + 1, none⟩))).put (some 73) (.slice (some ⟨bb, 0, none⟩) 3 c3)).put (some 74) (.pointer (some ⟨bb, 0, none⟩))) _
  refine wpAnyG_take (i := 13) (v := .string t) rfl (by kernel_rfl) (by kernel_rfl) (by kernel_rfl) (fun _ _ _ h => nomatch h.1) (yg_ld (by simp [Region.wanted]) (.tmp 74) rfl (ev_eq _ _ (by simp [put_sz, szAz1])) (fun w hw => by have h1 := hw.2.2.1; simp [go_sem, h1])) hs0 ?_
  show wpAnyG _ _ _ _ _ _ _ _ (((((Az1.put (some 71) (.pointer (some ⟨b, i * 2, none⟩))).put (some 72) (.pointer (some ⟨b, i * 2 + 1, none⟩))).put (some 73) (.slice (some ⟨bb, 0, none⟩) 3 c3)).put (some 74) (.pointer (some ⟨bb, 0, none⟩))).put (some 75) (.string t)) _
  refine wpAnyG_take (i := 14) (v := .pointer (some ⟨X, 3, none⟩)) rfl (by kernel_rfl) (by kernel_rfl) (by kernel_rfl) (fun _ _ _ h => nomatch h.1) (yg_fld (by simp [Region.wanted]) (.tmp 5) rfl ((ev_ne _ _ (by decide)).trans ((ev_ne _ _ (by decide)).trans ((ev_ne _ _ (by decide)).trans ((ev_ne _ _ (by decide)).trans ((ev_ne _ _ (by decide)).trans eAz15))))) (fun w => by simp [go_sem])) hs0 ?_
  show wpAnyG _ _ _ _ _ _ _ _ ((((((Az1.put (some 71) (.pointer (some ⟨b, i * 2, none⟩))).put (some 72) (.pointer (some ⟨b, i * 2 + 1, none⟩))).put (some 73) (.slice (some ⟨bb, 0, none⟩) 3 c3)).put (some 74) (.pointer (some ⟨bb, 0, none⟩))).put (some 75) (.string t)).put (some 76) (.pointer (some ⟨X, 3, none⟩))) _
  refine wpAnyG_take (i := 15) (v := .string q) rfl (by kernel_rfl) (by kernel_rfl) (by kernel_rfl) (fun _ _ _ h => nomatch h.1) (yg_ld (by simp [Region.wanted]) (.tmp 76) rfl (ev_eq _ _ (by simp [put_sz, szAz1])) (fun w hw => by have h1 := hw.2.2.2.1; simp [go_sem, h1])) hs0 ?_
  show wpAnyG _ _ _ _ _ _ _ _ (((((((Az1.put (some 71) (.pointer (some ⟨b, i * 2, none⟩))).put (some 72) (.pointer (some ⟨b, i * 2 + 1, none⟩))).put (some 73) (.slice (some ⟨bb, 0, none⟩) 3 c3)).put (some 74) (.pointer (some ⟨bb, 0, none⟩))).put (some 75) (.string t)).put (some 76) (.pointer (some ⟨X, 3, none⟩))).put (some 77) (.string q)) _
  refine wpAnyG_take (i := 16) (v := .pointer (some ⟨X, 4, none⟩)) rfl (by kernel_rfl) (by kernel_rfl) (by kernel_rfl) (fun _ _ _ h => nomatch h.1) (yg_fld (by simp [Region.wanted]) (.tmp 5) rfl ((ev_ne _ _ (by decide)).trans ((ev_ne _ _ (by decide)).trans ((ev_ne _ _ (by decide)).trans ((ev_ne _ _ (by decide)).trans ((ev_ne _ _ (by decide)).trans ((ev_ne _ _ (by decide)).trans ((ev_ne _ _ (by decide)).trans eAz15))))))) (fun w => by simp [go_sem])) hs0 ?_
  show wpAnyG _ _ _ _ _ _ _ _ ((((((((Az1.put (some 71) (.pointer (some ⟨b, i * 2, none⟩))).put (some 72) (.pointer (some ⟨b, i * 2 + 1, none⟩))).put (some 73) (.slice (some ⟨bb, 0, none⟩) 3 c3)).put (some 74) (.pointer (some ⟨bb, 0, none⟩))).put (some 75) (.string t)).put (some 76) (.pointer (some ⟨X, 3, none⟩))).put (some 77) (.string q)).put (some 78) (.pointer (some ⟨X, 4, none⟩))) _
  refine wpAnyG_take (i := 17) (v := .string s) rfl (by kernel_rfl) (by kernel_rfl) (by kernel_rfl) (fun _ _ _ h => nomatch h.1) (yg_ld (by simp [Region.wanted]) (.tmp 78) rfl (ev_eq _ _ (by simp [put_sz, szAz1])) (fun w hw => by have h1 := hw.2.2.2.2; simp [go_sem, h1])) hs0 ?_
  show wpAnyG _ _ _ _ _ _ _ _ (((((((((Az1.put (some 71) (.pointer (some ⟨b, i * 2, none⟩))).put (some 72) (.pointer (some ⟨b, i * 2 + 1, none⟩))).put (some 73) (.slice (some ⟨bb, 0, none⟩) 3 c3)).put (some 74) (.pointer (some ⟨bb, 0, none⟩))).put (some 75) (.string t)).put (some 76) (.pointer (some ⟨X, 3, none⟩))).put (some 77) (.string q)).put (some 78) (.pointer (some ⟨X, 4, none⟩))).put (some 79) (.string s)) _
  obtain ⟨Az2, hAz2⟩ : ∃ Az2, Az2 = (((((((((Az1.put (some 71) (.pointer (some ⟨b, i * 2, none⟩))).put (some 72) (.pointer (some ⟨b, i * 2 + 1, none⟩))).put (some 73) (.slice (some ⟨bb, 0, none⟩) 3 c3)).put (some 74) (.pointer (some ⟨bb, 0, none⟩))).put (some 75) (.string t)).put (some 76) (.pointer (some ⟨X, 3, none⟩))).put (some 77) (.string q)).put (some 78) (.pointer (some ⟨X, 4, none⟩))).put (some 79) (.string s)) := ⟨_, rfl⟩
  have szAz2 : Az2.tmps.size = 123 := by rw [hAz2]; simp [put_sz, szAz1]
  have eAz262 : Az2.eval (.tmp 62) = .slice (some ⟨b, 0, none⟩) n cp := by rw [hAz2]; exact ((ev_ne _ _ (by decide)).trans ((ev_ne _ _ (by decide)).trans ((ev_ne _ _ (by decide)).trans ((ev_ne _ _ (by decide)).trans ((ev_ne _ _ (by decide)).trans ((ev_ne _ _ (by decide)).trans ((ev_ne _ _ (by decide)).trans ((ev_ne _ _ (by decide)).trans ((ev_ne _ _ (by decide)).trans eAz162)))))))))
  have eAz263 : Az2.eval (.tmp 63) = .int .i64 (i : Int) := by rw [hAz2]; exact ((ev_ne _ _ (by decide)).trans ((ev_ne _ _ (by decide)).trans ((ev_ne _ _ (by decide)).trans ((ev_ne _ _ (by decide)).trans ((ev_ne _ _ (by decide)).trans ((ev_ne _ _ (by decide)).trans ((ev_ne _ _ (by decide)).trans ((ev_ne _ _ (by decide)).trans ((ev_ne _ _ (by decide)).trans eAz163)))))))))
  have eAz268 : Az2.eval (.tmp 68) = .string key := by rw [hAz2]; exact ((ev_ne _ _ (by decide)).trans ((ev_ne _ _ (by decide)).trans ((ev_ne _ _ (by decide)).trans ((ev_ne _ _ (by decide)).trans ((ev_ne _ _ (by decide)).trans ((ev_ne _ _ (by decide)).trans ((ev_ne _ _ (by decide)).trans ((ev_ne _ _ (by decide)).trans ((ev_ne _ _ (by decide)).trans eAz168)))))))))
  have eAz275 : Az2.eval (.tmp 75) = .string t := by rw [hAz2]; exact ((ev_ne _ _ (by decide)).trans ((ev_ne _ _ (by decide)).trans ((ev_ne _ _ (by decide)).trans ((ev_ne _ _ (by decide)).trans (ev_eq _ _ (by simp [put_sz, szAz1]))))))
  have eAz277 : Az2.eval (.tmp 77) = .string q := by rw [hAz2]; exact ((ev_ne _ _ (by decide)).trans ((ev_ne _ _ (by decide)).trans (ev_eq _ _ (by simp [put_sz, szAz1]))))
  have eAz279 : Az2.eval (.tmp 79) = .string s := by rw [hAz2]; exact (ev_eq _ _ (by simp [put_sz, szAz1]))
  rw [← hAz2]
  refine wpAnyG_all (rs := [18]) (by kernel_rfl) (by simp) fun i1 hm1 => ?_
  obtain rfl : i1 = 18 := by simpa using hm1
  refine wpOp_own rfl rfl fun K1 hK1 => ?_
  refine wp_build3S (.tmp 75) (.tmp 77) (.tmp 79) rfl t q s eAz275 eAz277 eAz279 ?_
  have b01 : Below V0.heap.size V0 (V0.alloc (.cells #[.string t, .string q, .string s] 9)) := (Below.refl _ V0).alloc (Nat.le_refl _) _
  have hs1 := TlS.keep hs0 b01
  refine hK1 _ _ ⟨.inr hs1, ?_⟩
  clear hK1 K1 hm1
  show wpAnyG _ _ _ _ _ _ _ _ (Az2.put (some 80) (.slice (some ⟨V0.heap.size, 0, none⟩) 3 3)) _
  refine wpAnyG_take (i := 19) (v := .agg #[.string key, .slice (some ⟨V0.heap.size, 0, none⟩) 3 3]) rfl (by kernel_rfl) (by kernel_rfl) (by kernel_rfl) (fun _ _ _ h => nomatch h.1) (y_buildR (by simp [Region.wanted]) (.tmp 68) (.tmp 80) rfl _ _ _ _ ((ev_ne _ _ (by decide)).trans eAz268) (ev_eq _ _ (by simp [szAz2]))) hs1 ?_
  show wpAnyG _ _ _ _ _ _ _ _ ((Az2.put (some 80) (.slice (some ⟨V0.heap.size, 0, none⟩) 3 3)).put (some 81) (.agg #[.string key, .slice (some ⟨V0.heap.size, 0, none⟩) 3 3])) _
  refine wpAnyG_one (i := 20) (v := .pointer (some ⟨b, i * 2, none⟩)) rfl (by kernel_rfl) (y_idxR (by simp [Region.wanted]) (.tmp 62) (.tmp 63) rfl b n cp i ((ev_ne _ _ (by decide)).trans ((ev_ne _ _ (by decide)).trans eAz262)) ((ev_ne _ _ (by decide)).trans ((ev_ne _ _ (by decide)).trans eAz263)) hin) hs1 ?_
  show wpAnyG _ _ _ _ _ _ _ _ (((Az2.put (some 80) (.slice (some ⟨V0.heap.size, 0, none⟩) 3 3)).put (some 81) (.agg #[.string key, .slice (some ⟨V0.heap.size, 0, none⟩) 3 3])).put (some 82) (.pointer (some ⟨b, i * 2, none⟩))) _
  obtain ⟨Az3, hAz3⟩ : ∃ Az3, Az3 = (((Az2.put (some 80) (.slice (some ⟨V0.heap.size, 0, none⟩) 3 3)).put (some 81) (.agg #[.string key, .slice (some ⟨V0.heap.size, 0, none⟩) 3 3])).put (some 82) (.pointer (some ⟨b, i * 2, none⟩))) := ⟨_, rfl⟩
  have szAz3 : Az3.tmps.size = 123 := by rw [hAz3]; simp [put_sz, szAz2]
  have eAz381 : Az3.eval (.tmp 81) = .agg #[.string key, .slice (some ⟨V0.heap.size, 0, none⟩) 3 3] := by rw [hAz3]; exact ((ev_ne _ _ (by decide)).trans (ev_eq _ _ (by simp [put_sz, szAz2])))
  have eAz382 : Az3.eval (.tmp 82) = .pointer (some ⟨b, i * 2, none⟩) := by rw [hAz3]; exact (ev_eq _ _ (by simp [put_sz, szAz2]))
  rw [← hAz3]
  refine wpAnyG_all (rs := [21]) (by kernel_rfl) (by simp) fun i2 hm2 => ?_
  obtain rfl : i2 = 21 := by simpa using hm2
  refine wpOp_own rfl rfl fun K2 hK2 => ?_
  refine wp_store_mid 45 (.tmp 82) (.tmp 81) rfl b (i * 2) #[.string key, .slice (some ⟨V0.heap.size, 0, none⟩) 3 3] eAz382 eAz381 (hth.alloc2 _) size_row (by simp [Value.oneCell']) ?_
  refine hK2 _ _ ⟨.inl rfl, wpAnyG_done (by kernel_rfl) ⟨rfl, ?_, rfl⟩ _⟩
  show Az3 = _
  rw [hAz3, hAz2, hAz1]
/-- a chain whose event j says something else -/
def setEv (c : Ch) (j : Nat) (q s : ByteArray) : Ch := { c with ev := c.ev.modify j fun e => { e with what := q, who := s } }
theorem setEv_len (c : Ch) (j : Nat) (q s : ByteArray) : (setEv c j q s).ev.length = c.ev.length := by simp [setEv]
theorem setEv_get (c : Ch) (j : Nat) (q s : ByteArray) (i : Nat) (hi : i < c.ev.length) : (setEv c j q s).ev[i]'(by rw [setEv_len]; exact hi) = if j = i then { c.ev[i] with what := q, who := s } else c.ev[i] := by
  simp only [setEv, List.getElem_modify]
theorem setEv_num (c : Ch) (j : Nat) (q s : ByteArray) (i : Nat) (hi : i < c.ev.length) : ((setEv c j q s).ev[i]'(by rw [setEv_len]; exact hi)).num = c.ev[i].num ∧ ((setEv c j q s).ev[i]'(by rw [setEv_len]; exact hi)).tim = c.ev[i].tim := by
  rw [setEv_get c j q s i hi]
  split <;> exact ⟨rfl, rfl⟩
theorem setEv_mem {c : Ch} {j : Nat} {q s : ByteArray} {e : Ev} (h : e ∈ (setEv c j q s).ev) : ∃ i, ∃ hi : i < c.ev.length, e.num = c.ev[i].num ∧ e.tim = c.ev[i].tim ∧ ((e.what = q ∧ e.who = s) ∨ e = c.ev[i]) := by
  obtain ⟨i, hi, rfl⟩ := List.mem_iff_getElem.1 h
  rw [setEv_len] at hi
  refine ⟨i, hi, (setEv_num c j q s i hi).1, (setEv_num c j q s i hi).2, ?_⟩
  rw [setEv_get c j q s i hi]
  split
  · exact .inl ⟨rfl, rfl⟩
  · exact .inr rfl
theorem setEv_ok {c : Ch} (ok : ChOk c) (j : Nat) (q s : ByteArray) (hq : q.size ≤ 12) (hs : s.size ≤ 30) : ChOk (setEv c j q s) := by
  refine ⟨ok.lb, ok.lan, ok.lh, fun i hi => ?_, by rw [setEv_len]; exact ok.few, by rw [setEv_len]; exact ok.anc, fun e he => ?_, ok.las, fun e he => ?_⟩
  · have hi' : i < c.ev.length := by rw [setEv_len] at hi; exact hi
    rw [(setEv_num c j q s i hi').1]
    exact ok.num i hi'
  · obtain ⟨i, hi, _, h2, _⟩ := setEv_mem he
    rw [h2]
    exact ok.tim _ (List.getElem_mem hi)
  · obtain ⟨i, hi, _, _, h3 | h3⟩ := setEv_mem he
    · rw [h3.1, h3.2]
      exact ⟨hq, hs⟩
    · rw [h3]
      exact ok.siz _ (List.getElem_mem hi)
theorem setEv_ld {c : Ch} {n : Nat} (h : Made c n) (hn : n ≤ 1000) (j : Nat) (q s : ByteArray) (hq : q.size ≤ 12) (hs : s.size ≤ 30) : Ldable (setEv c j q s) := by
  have h1 := h.cnt
  have h2 := h.ok.anc
  have ok := setEv_ok h.ok j q s hq hs
  unfold Ch.cnt at h1
  refine ⟨ok.l, by show c.bn ≤ _; omega, by show c.an ≤ _; omega, ok.las, ok.few, ok.anc, ok.num, ok.siz, ok.tim, fun i hi => ?_⟩
  have hi' : i + 1 < c.ev.length := by rw [setEv_len] at hi; exact hi
  rw [(setEv_num c j q s i (by omega)).2, (setEv_num c j q s (i + 1) hi').2]
  exact h.up i hi'
theorem setEv_evOk {c : Ch} (h : EvOk c.ev) (j : Nat) (q s : ByteArray) (hq : q.size ≤ 12) (hs : s.size ≤ 30) : EvOk (setEv c j q s).ev := fun e he => by
  obtain ⟨i, hi, h1, h2, h3⟩ := setEv_mem he
  have h4 := h _ (List.getElem_mem hi)
  rw [h1, h2]
  rcases h3 with h3 | h3
  · rw [h3.1, h3.2]
    exact ⟨h4.1, h4.2.1, hq, hs⟩
  · rw [h3]
    exact h4
theorem rowsOf_set (c : Ch) (j : Nat) (q s : ByteArray) (i : Nat) (hi : i < (rowsOf c).length) : (rowsOf (setEv c j q s))[i]'(by rw [rowsOf_len, setEv_len, ← rowsOf_len]; exact hi) = if i = 4 + j then ((rowsOf c)[i].1, [((rowsOf c)[i].2)[0]?.getD ⟨#[]⟩, q, s]) else (rowsOf c)[i] := by
  have hl := rowsOf_len c
  by_cases h4 : i < 4
  · rw [if_neg (by omega)]
    match i, h4 with
    | 0, _ => rfl
    | 1, _ => rfl
    | 2, _ => rfl
    | 3, _ => rfl
  · obtain ⟨k, rfl⟩ : ∃ k, i = 4 + k := ⟨i - 4, by omega⟩
    have hk : k < c.ev.length := by omega
    rw [rowsOf_ev (setEv c j q s) k (by rw [setEv_len]; exact hk), rowsOf_ev c k hk, setEv_get c j q s k hk]
    by_cases e : j = k
    · rw [if_pos e, if_pos (by omega)]
      rfl
    · rw [if_neg e, if_neg (by omega)]
/-- the rows behind the change -/
theorem tx_set {V0 : World} {b j c3 bb : Nat} {c : Ch} {q s : ByteArray} (hT : TxRows V0 b (rowsOf c)) (hcell : ∀ i (hi : i < (rowsOf c).length), ∃ bx cp cur, V0.cell? ⟨b, i * 2 + 1, none⟩ = some (.slice (some ⟨bx, 0, none⟩) (rowsOf c)[i].2.length cp) ∧ V0.heap[bx]? = some (.cells cur 9 (0, 0)) ∧ Texts V0 (some ⟨bx, 0, none⟩) (rowsOf c)[i].2) {cur0 : Array Value} (hb : V0.heap[b]? = some (.cells cur0 45 (0, 0))) (hj : j < c.ev.length) (e : Ev) (he : e = c.ev[j]) :
    TxRows ((V0.alloc (.cells #[.string (txt e.tim), .string q, .string s] 9)).setCells b ((4 + j) * 2) [.string (evKey e.num), .slice (some ⟨V0.heap.size, 0, none⟩) 3 3]) b (rowsOf (setEv c j q s)) := by
  have hl := rowsOf_len c
  have hbl := heap_lt hb
  have bA := (Below.refl _ V0).alloc (Nat.le_refl _) (.cells #[.string (txt e.tim), .string q, .string s] 9)
  intro i hi
  have hi' : i < (rowsOf c).length := by rw [rowsOf_len, setEv_len] at hi; rw [rowsOf_len]; exact hi
  rw [rowsOf_set c j q s i hi']
  have out : ∀ x : Addr, (x.block = b → x.spot = none → x.off < (4 + j) * 2 ∨ (4 + j) * 2 + 2 ≤ x.off) → ((V0.alloc (.cells #[.string (txt e.tim), .string q, .string s] 9)).setCells b ((4 + j) * 2) [.string (evKey e.num), .slice (some ⟨V0.heap.size, 0, none⟩) 3 3]).cell? x = (V0.alloc (.cells #[.string (txt e.tim), .string q, .string s] 9)).cell? x := fun x hx => World.cell?_setCells_out b _ _ _ x hx
  by_cases e4 : i = 4 + j
  · rw [if_pos e4]
    subst e4
    rw [rowsOf_ev c j hj, ← he]
    have hbA : (V0.alloc (.cells #[.string (txt e.tim), .string q, .string s] 9)).heap[b]? = some (.cells cur0 45 (0, 0)) := (bA.block b hbl).trans hb
    obtain ⟨a9, c9, u9, v9, _⟩ := hT (4 + j) hi'
    have l1 : (4 + j) * 2 + 1 < cur0.size := by
      rw [cell_of_row _ _ _ _ _ _ hb] at v9
      exact (Array.getElem?_eq_some_iff.1 v9).1
    have k0 := heap_setCell_same _ b ((4 + j) * 2) _ _ (.string (evKey e.num)) hbA
    have k1 := heap_setCell_same _ b ((4 + j) * 2 + 1) _ _ (.slice (some ⟨V0.heap.size, 0, none⟩) 3 3) k0
    have kk : ((V0.alloc (.cells #[.string (txt e.tim), .string q, .string s] 9)).setCells b ((4 + j) * 2) [.string (evKey e.num), .slice (some ⟨V0.heap.size, 0, none⟩) 3 3]).heap[b]? = some (.cells ((cur0.setIfInBounds ((4 + j) * 2) (.string (evKey e.num))).setIfInBounds ((4 + j) * 2 + 1) (.slice (some ⟨V0.heap.size, 0, none⟩) 3 3)) 45 (0, 0)) := k1
    refine ⟨some ⟨V0.heap.size, 0, none⟩, 3, ?_, ?_, ?_⟩
    · rw [cell_of_row _ _ _ _ _ _ kk, Array.getElem?_setIfInBounds_ne (by omega), Array.getElem?_setIfInBounds_self_of_lt (by omega)]
      rfl
    · rw [cell_of_row _ _ _ _ _ _ kk, Array.getElem?_setIfInBounds_self_of_lt (by simp; omega)]
      rfl
    · intro m hm
      have hm3 : m < 3 := by simpa [evText] using hm
      refine ⟨V0.heap.size, 0, rfl, ?_⟩
      rw [out ⟨V0.heap.size, 0 + m, none⟩ (fun h => by have h' : V0.heap.size = b := h; omega), Nat.zero_add, World.cell?_alloc_at _ _ _ _ rfl]
      match m, hm3 with
      | 0, _ => rfl
      | 1, _ => rfl
      | 2, _ => rfl
  · rw [if_neg e4]
    obtain ⟨a9, c9, u9, v9, _⟩ := hT i hi'
    obtain ⟨bx, cp, cur, h1, h2, h3⟩ := hcell i hi'
    refine ⟨some ⟨bx, 0, none⟩, cp, ?_, ?_, ?_⟩
    · rw [out ⟨b, i * 2, none⟩ (fun _ _ => by show i * 2 < _ ∨ _ ≤ i * 2; omega)]
      exact cell_onZ bA u9
    · rw [out ⟨b, i * 2 + 1, none⟩ (fun _ _ => by show i * 2 + 1 < _ ∨ _ ≤ i * 2 + 1; omega)]
      exact cell_onZ bA h1
    · intro m hm
      obtain ⟨b9, o9, e9, t9⟩ := h3 m hm
      cases e9
      refine ⟨bx, 0, rfl, ?_⟩
      rw [out ⟨bx, 0 + m, none⟩ (fun h => by
        have h' : bx = b := h
        rw [h', hb] at h2
        injection h2 with h2
        injection h2 with _ h2
        exact absurd h2 (by decide))]
      exact cell_onZ bA t9
end Go.Proofs.YthnciogaibhmcaaDoor

/- AuditTells walked. (Printed by gen/ztells2.py.) -/
namespace Go.Proofs.YthnciogaibhmcaaDoor
open Go.RowKit Go.Shelf
set_option linter.unusedVariables false
set_option maxRecDepth 20000
attribute [local go_sem ↓] loadL_fold storeL_fold loadH_fold storeH_fold buildH_fold
theorem x_tx {V : World} {base : Nat} {v : Value} {rs : List Xr.RC} {c : Ch} (ho : V.ownsRow base 45 2 v rs.length (Xr.rcCells rs)) (hi : Xr.RowsIs V rs (rowsX c)) (h0 : 0 < rs.length) :
    ∃ b cap cur, v = .slice (some ⟨b, 0, none⟩) rs.length cap ∧ base ≤ b ∧ rs.length ≤ cap ∧ V.heap[b]? = some (.cells cur 45 (0, 0)) ∧ TxRows V b (rowsOf c) ∧ ∀ i (hi : i < (rowsOf c).length), ∃ bx cp cu, V.cell? ⟨b, i * 2 + 1, none⟩ = some (.slice (some ⟨bx, 0, none⟩) (rowsOf c)[i].2.length cp) ∧ V.heap[bx]? = some (.cells cu 9 (0, 0)) ∧ Texts V (some ⟨bx, 0, none⟩) (rowsOf c)[i].2 := by
  rcases ho.2 with ⟨_, h9⟩ | ⟨b, cap, cur, hv, hb, hg, hcap, r1, r2, r3⟩
  · omega
  · have hl := hi.length
    have key : ∀ i (hi9 : i < (rowsOf c).length), ∃ bx cp cu, V.cell? ⟨b, i * 2, none⟩ = some (.string (rowsOf c)[i].1) ∧ V.cell? ⟨b, i * 2 + 1, none⟩ = some (.slice (some ⟨bx, 0, none⟩) (rowsOf c)[i].2.length cp) ∧ V.heap[bx]? = some (.cells cu 9 (0, 0)) ∧ Texts V (some ⟨bx, 0, none⟩) (rowsOf c)[i].2 := fun i hi9 => by
      have hir : i < rs.length := by rw [hl, rowsX_len, ← rowsOf_len]; exact hi9
      obtain ⟨g, cp, e, h1, h2⟩ := Xr.rows_at ho i hir
      rw [hv] at e
      injection e with e1
      injection e1 with e1
      injection e1 with e2
      subst e2
      obtain ⟨k1, k2, k3⟩ := hi.get i hir (by rw [← hl]; exact hir)
      have ex : (rowsX c)[i]'(by rw [← hl]; exact hir) = toX (rowsOf c)[i] := by simp [rowsX]
      rw [ex] at k1 k2 k3
      have k4 := k3.texts
      obtain ⟨bx, cu, e5, h5, _⟩ := k3
      rw [e5] at k4 h2
      rw [k1] at h1
      rw [k2] at h2
      exact ⟨bx, _, cu, h1, h2, h5, k4⟩
    refine ⟨b, cap, cur, hv, hb, hcap, hg, fun i hi9 => ?_, fun i hi9 => ?_⟩
    · obtain ⟨bx, cp, cu, h1, h2, h3, h4⟩ := key i hi9
      exact ⟨_, _, h1, h2, h4⟩
    · obtain ⟨bx, cp, cu, h1, h2, h3, h4⟩ := key i hi9
      exact ⟨bx, cp, cu, h2, h3, h4⟩
theorem wrap_small (M : Nat) (h : M ≤ 1000) : wrap64 (M : Int) = (M : Int) := by
  unfold wrap64
  omega
theorem idx_nz (N : Nat) (h4 : 4 < N) (h68 : N ≤ 68) : ¬ wrap64 ((N : Int) - 4) = 0 := by
  obtain ⟨M, rfl⟩ : ∃ M, N = M + 4 := ⟨N - 4, by omega⟩
  rw [show (((M + 4 : Nat) : Int) - 4) = (M : Int) by omega, wrap_small M (by omega)]
  omega
theorem idx_val (kz N j : Nat) (h4 : 4 < N) (h68 : N ≤ 68) (hj : j = kz % (N - 4)) : wrap64 (4 + (kz : Int) % ((N : Int) - 4)) = ((4 + j : Nat) : Int) := by
  obtain ⟨M, rfl⟩ : ∃ M, N = M + 4 := ⟨N - 4, by omega⟩
  rw [Nat.add_sub_cancel] at hj
  have hM : 0 < M := by omega
  have hlt : j < M := by rw [hj]; exact Nat.mod_lt _ hM
  rw [show (((M + 4 : Nat) : Int) - 4) = (M : Int) by omega, ← Int.natCast_emod, ← hj, show (4 : Int) + (j : Int) = ((4 + j : Nat) : Int) by omega]
  exact wrap_small _ (by omega)
set_option maxHeartbeats 16000000 in
theorem auditTells_walk {W : World} (l : List ADeed) (a : Option Addr) (cap : Nat) (hl : ADs W a l) (kz : Nat) (hkz : kz ≤ 255) (q : ADeed) (hq1 : q.what.size ≤ 9223372036854775807) (hq2 : q.who.size ≤ 9223372036854775807) (hT : Tabs W W.heap.size) :
    Calls Tryd.prog 5 #[.slice a l.length cap, .int .u8 (kz : Int), .agg q.vals.toArray] W fun e w' => e = .returned (.bool true) ∧ Below W.heap.size W w' := by
  obtain ⟨qk, qa, qn, xw, xo⟩ := q
  obtain ⟨W0, hW0⟩ : ∃ W0, W0 = W.alloc (.cells #[.int .i64 qk, .int .i64 qa, .int .i64 qn, .string xw, .string xo] 30) := ⟨_, rfl⟩
  have b0 : Below W.heap.size W W0 := by rw [hW0]; exact (Below.refl _ W).alloc (Nat.le_refl _) _
  have x0 : W0.heap[W.heap.size]? = some (.cells #[.int .i64 qk, .int .i64 qa, .int .i64 qn, .string xw, .string xo] 30 (0, 0)) := by rw [hW0]; exact heap_alloc_new W _
  obtain ⟨B, hB⟩ : ∃ B, B = W0.heap.size := ⟨_, rfl⟩
  have HBe := hid hB
  have HB : Hid (W.heap.size ≤ B) := by show _ ≤ _; rw [hB]; exact b0.size
  have HXB : Hid (W.heap.size < B) := by show _ < _; rw [hB]; exact heap_lt x0
  have HX3 : Hid (W0.cell? ⟨W.heap.size, 3, none⟩ = some (.string xw)) := cell_of_row _ _ 3 _ _ _ x0
  have HX4 : Hid (W0.cell? ⟨W.heap.size, 4, none⟩ = some (.string xo)) := cell_of_row _ _ 4 _ _ _ x0
  have Hb0 := hid b0
  have HT : Hid (Tabs W0 B) := by show Tabs _ _; rw [hB]; exact (hT.below (Nat.le_refl _) b0).mono b0.size
  have Hl := hid (hl.below rfl b0)
  have HW0 := hid hW0
  have hx1 : xw.size ≤ 9223372036854775807 := hq1
  have hx2 : xo.size ≤ 9223372036854775807 := hq2
  clear hT hl hB hW0 b0 x0 hq1 hq2
  show Calls Tryd.prog 5 #[.slice a l.length cap, .int .u8 (kz : Int), .agg #[.int .i64 qk, .int .i64 qa, .int .i64 qn, .string xw, .string xo]] W _
  go_enter Tryd.func5, Tryd.ntmps5
  go_wp2_with fail
  rw [← HW0.out]
  refine (new_any W0).mono ?_
  rintro _ w1 ⟨g, rfl, h1, b1⟩
  rw [← HBe.out] at h1 b1
  have H1 := hid h1
  have B1 := hid b1
  clear h1 b1
  go_wp2_with fail
  refine (rNew_any w1).mono ?_
  rintro _ w2 ⟨r, rfl, h2, b2⟩
  have hB1 : B ≤ w1.heap.size := by have := B1.out.size; have := HBe.out; omega
  have hp2 : Pair w2 B g r (.slice none 0 0) (.slice none 0 0) ch0 := ⟨H1.out.below b2, h2.mono hB1, fun k hk => by cases hk⟩
  have B2 : Hid (Below B W0 w2) := B1.out.trans (b2.mono hB1)
  have hB2 : B ≤ w2.heap.size := Nat.le_trans hB1 b2.size
  have T2 := HT.out.keep B2.out
  have HL := hid (live_any (T2.mono hB2))
  have Hp2 := hid hp2
  have HT2 := hid T2
  clear h2 b2 hp2 T2 H1 B1
  go_wp2_with (go_at_call 8; refine HL.out.mono ?_; rintro _ w3 ⟨rfl, b3⟩; have hi3 : Hid (DInv W0 B g r 0 w3) := ⟨⟨_, _, _, Hp2.out.below b3, made0⟩, HT2.out.below hB2 b3, B2.out.trans (b3.mono hB2)⟩; clear b3)
  clear HL Hp2 HT2 B2 hB1 hB2
  go_loopw [9] (fun i wr => ∃ k : Nat, k ≤ l.length ∧ k ≤ 60 ∧ i = .int .i64 (k : Int) ∧ DInv W0 B g r k wr) (fun i _ => 60 - (intOf i).toNat)
  case atStart => exact ⟨0, Nat.zero_le _, Nat.zero_le _, rfl, hi3.out⟩
  case round =>
    clear hi3
    obtain ⟨k, hk, hk60, rfl, ⟨v, u, c, hp, hm⟩, htb, hbel⟩ := hrel
    have hlb := Hl.out.below HBe.out hbel
    have Hp := hid hp
    have Hm := hid hm
    have Htb := hid htb
    have Hbel := hid hbel
    have Hlen : l.length ≤ 9223372036854775807 := Hl.out.len
    have hBr : B ≤ wr.heap.size := by have := hbel.size; have := HBe.out; omega
    clear hp hm htb hbel
    by_cases hlt : k < l.length
    · have g1 : decide ((k : Int) < (l.length : Int)) = true := by simp; omega
      by_cases hlt2 : k < 60
      · have g2 : decide ((k : Int) < 60) = true := by simp; omega
        obtain ⟨b, o, rfl, hbl, hr⟩ := hlb.cells k hlt
        have hxs := Hl.out.sizes _ (List.getElem_mem hlt)
        generalize l[k] = x at *
        have Hdo := hid (do_any Hp.out Hm.out (by omega) Htb.out hBr x hxs.1 hxs.2)
        have d0 : wr.cell? ⟨b, o + k * 5, none⟩ = some (.int .i64 x.kind) := hr 0 _ rfl
        have d1 : wr.cell? ⟨b, o + k * 5 + 1, none⟩ = some (.int .i64 x.at') := hr 1 _ rfl
        have d2 : wr.cell? ⟨b, o + k * 5 + 2, none⟩ = some (.int .i64 x.n) := hr 2 _ rfl
        have d3 : wr.cell? ⟨b, o + k * 5 + 3, none⟩ = some (.string x.what) := hr 3 _ rfl
        have d4 : wr.cell? ⟨b, o + k * 5 + 4, none⟩ = some (.string x.who) := hr 4 _ rfl
        clear hr hxs hlb
        go_wp2_with ((go_at_call 11; refine Hdo.out.mono ?_; intro e w4 hd; obtain rfl := hd.1; have Hd := hid hd; clear hd))
        go_roundw
        case rel => exact ⟨k + 1, by omega, by omega, by go_num, DInv.next Hm.out Htb.out Hbel.out Hd.out⟩
        case measure => simp [intOf]; omega
      · have g2 : decide ((k : Int) < 60) = false := by simp; omega
        have hcn : c.cnt < 1152921504606846976 := by have := Hm.out.cnt; omega
        have hXw : wr.cell? ⟨W.heap.size, 3, none⟩ = some (.string xw) := (Hbel.out.cell (p := ⟨W.heap.size, 3, none⟩) HXB.out).trans HX3.out
        have hXo : wr.cell? ⟨W.heap.size, 4, none⟩ = some (.string xo) := (Hbel.out.cell (p := ⟨W.heap.size, 4, none⟩) HXB.out).trans HX4.out
        have HRows := hid (rRows_x Hp.out.rf Hm.out.ok hcn)
        obtain ⟨N, hN⟩ : ∃ N, N = 4 + c.ev.length := ⟨_, rfl⟩
        have HN := hid hN
        have hfew := Hm.out.ok.few
        clear hlb hN
        by_cases he : c.ev.length = 0
        · have g5 : decide ((N : Int) < 5) = true := by simp; have := HN.out; omega
          go_wp2_with (go_at_call 19; refine HRows.out.mono ?_; rintro _ w5 ⟨v5, rs5, rfl, ho5, hi5, hb5⟩; obtain ⟨b5, cap5, cur5, rfl, hge5, hcap5, hh5, htx5, hcl5⟩ := x_tx ho5 hi5 (by have := hi5.length; rw [rowsX_len] at this; omega); have hl5 := hi5.length; rw [rowsX_len, ← HN.out] at hl5; rw [hl5] at hcap5 ⊢; have HH5 := hid hh5; have Hge5 := hid hge5; have HT5 := hid htx5; have HC5 := hid hcl5; have Hb5 := hid hb5; have Hcap5 := hid hcap5; have hX3 := (hb5.cell (World.block_lt_of_cell? _ _ hXw)).trans hXw; have hX4 := (hb5.cell (World.block_lt_of_cell? _ _ hXo)).trans hXo; clear ho5 hi5 hb5 hge5 hh5 htx5 hcl5 hl5 hcap5)
          go_ret
          exact ⟨rfl, Hb0.out.trans ((Hbel.out.trans (Hb5.out.mono hBr)).mono HB.out)⟩
        by_cases hw12 : 12 < xw.size
        · have g5 : decide ((N : Int) < 5) = false := by simp; have := HN.out; omega
          have g6 : decide ((12 : Int) < (xw.size : Int)) = true := by simp; omega
          go_wp2_with (go_at_call 19; refine HRows.out.mono ?_; rintro _ w5 ⟨v5, rs5, rfl, ho5, hi5, hb5⟩; obtain ⟨b5, cap5, cur5, rfl, hge5, hcap5, hh5, htx5, hcl5⟩ := x_tx ho5 hi5 (by have := hi5.length; rw [rowsX_len] at this; omega); have hl5 := hi5.length; rw [rowsX_len, ← HN.out] at hl5; rw [hl5] at hcap5 ⊢; have HH5 := hid hh5; have Hge5 := hid hge5; have HT5 := hid htx5; have HC5 := hid hcl5; have Hb5 := hid hb5; have Hcap5 := hid hcap5; have hX3 := (hb5.cell (World.block_lt_of_cell? _ _ hXw)).trans hXw; have hX4 := (hb5.cell (World.block_lt_of_cell? _ _ hXo)).trans hXo; clear ho5 hi5 hb5 hge5 hh5 htx5 hcl5 hl5 hcap5)
          go_ret
          exact ⟨rfl, Hb0.out.trans ((Hbel.out.trans (Hb5.out.mono hBr)).mono HB.out)⟩
        by_cases hw30 : 30 < xo.size
        · have g5 : decide ((N : Int) < 5) = false := by simp; have := HN.out; omega
          have g6 : decide ((12 : Int) < (xw.size : Int)) = false := by simp; omega
          have g7 : decide ((30 : Int) < (xo.size : Int)) = true := by simp; omega
          go_wp2_with (go_at_call 19; refine HRows.out.mono ?_; rintro _ w5 ⟨v5, rs5, rfl, ho5, hi5, hb5⟩; obtain ⟨b5, cap5, cur5, rfl, hge5, hcap5, hh5, htx5, hcl5⟩ := x_tx ho5 hi5 (by have := hi5.length; rw [rowsX_len] at this; omega); have hl5 := hi5.length; rw [rowsX_len, ← HN.out] at hl5; rw [hl5] at hcap5 ⊢; have HH5 := hid hh5; have Hge5 := hid hge5; have HT5 := hid htx5; have HC5 := hid hcl5; have Hb5 := hid hb5; have Hcap5 := hid hcap5; have hX3 := (hb5.cell (World.block_lt_of_cell? _ _ hXw)).trans hXw; have hX4 := (hb5.cell (World.block_lt_of_cell? _ _ hXo)).trans hXo; clear ho5 hi5 hb5 hge5 hh5 htx5 hcl5 hl5 hcap5)
          go_ret
          exact ⟨rfl, Hb0.out.trans ((Hbel.out.trans (Hb5.out.mono hBr)).mono HB.out)⟩
        have g5 : decide ((N : Int) < 5) = false := by simp; have := HN.out; omega
        have g6 : decide ((12 : Int) < (xw.size : Int)) = false := by simp; omega
        have g7 : decide ((30 : Int) < (xo.size : Int)) = false := by simp; omega
        obtain ⟨j, hj⟩ : ∃ j, j = kz % (N - 4) := ⟨_, rfl⟩
        have hjl : j < c.ev.length := by rw [hj, HN.out, Nat.add_sub_cancel_left]; exact Nat.mod_lt _ (by omega)
        have n4 : 4 < N := by have := HN.out; omega
        have n68 : N ≤ 68 := by have := HN.out; omega
        have hval := idx_val kz N j n4 n68 hj
        have Hval := hid hval
        have hnz := idx_nz N n4 n68
        clear hj hval
        go_wp2_with (go_at_call 19; refine HRows.out.mono ?_; rintro _ w5 ⟨v5, rs5, rfl, ho5, hi5, hb5⟩; obtain ⟨b5, cap5, cur5, rfl, hge5, hcap5, hh5, htx5, hcl5⟩ := x_tx ho5 hi5 (by have := hi5.length; rw [rowsX_len] at this; omega); have hl5 := hi5.length; rw [rowsX_len, ← HN.out] at hl5; rw [hl5] at hcap5 ⊢; have HH5 := hid hh5; have Hge5 := hid hge5; have HT5 := hid htx5; have HC5 := hid hcl5; have Hb5 := hid hb5; have Hcap5 := hid hcap5; have hX3 := (hb5.cell (World.block_lt_of_cell? _ _ hXw)).trans hXw; have hX4 := (hb5.cell (World.block_lt_of_cell? _ _ hXo)).trans hXo; clear ho5 hi5 hb5 hge5 hh5 htx5 hcl5 hl5 hcap5)
        obtain ⟨V0, hV0⟩ : ∃ V0, V0 = w5.drew := ⟨_, rfl⟩
        have b50 : Below w5.heap.size w5 V0 := by rw [hV0]; exact (Below.refl _ w5).drew
        obtain ⟨e, he9⟩ : ∃ e, e = c.ev[j] := ⟨_, rfl⟩
        have hlr := rowsOf_len c
        have hj4 : 4 + j < (rowsOf c).length := by omega
        obtain ⟨bx, cpx, cux, kx1, kx2, kx3⟩ := HC5.out (4 + j) hj4
        obtain ⟨zz1, zz2, kx0, zz3, zz4⟩ := HT5.out (4 + j) hj4
        clear zz3 zz4
        rw [rowsOf_ev c j hjl, ← he9] at kx1 kx3 kx0
        obtain ⟨bq, oq, eq9, kx4⟩ := kx3 0 (by simp [evText])
        cases eq9
        have tl0 : TlS b5 bx W.heap.size (4 + j) cpx (evKey e.num) (txt e.tim) xw xo V0 := ⟨cell_onZ b50 kx0, cell_onZ b50 kx1, cell_onZ b50 kx4, cell_onZ b50 hX3, cell_onZ b50 hX4⟩
        have hh0 : V0.heap[b5]? = some (.cells cur5 45 (0, 0)) := (b50.block _ (heap_lt HH5.out)).trans HH5.out
        have hth : V0.there b5 ((4 + j) * 2) 2 := fun m hm => by
          refine ⟨?_, frozen_of_row _ _ _ _ _ hh0⟩
          match m, hm with
          | 0, _ => rw [Nat.add_zero, tl0.1]; rfl
          | 1, _ => rw [tl0.2.1]; rfl
        refine wp_act _ fun A hA => ?_
        have sz : A.tmps.size = 123 := by rw [hA]; rfl
        have e10 : A.eval (.tmp 10) = .slice (some ⟨b5, 0, none⟩) N cap5 := by rw [hA]; rfl
        have e11 : A.eval (.tmp 11) = .int .i64 ((4 + j : Nat) : Int) := by rw [hA, ← Hval.out]; rfl
        have e5 : A.eval (.tmp 5) = .pointer (some ⟨W.heap.size, 0, none⟩) := by rw [hA]; rfl
        refine wp_split _ (tl_region12 sz e10 e11 e5 (by have := HN.out; omega) hth hV0 tl0) ?_
        rintro _ V6 ⟨rfl, hV6⟩
        rw [hA]
        simp only [Act.put, List.setIfInBounds_toArray, List.set_cons_succ, List.set_cons_zero]
        have htx6 : TxRows V6 b5 (rowsOf (setEv c j xw xo)) := by
          rw [hV6]
          refine tx_set (c3 := 0) (bb := 0) (HT5.out.below (B := 0) b50) (fun i hi => ?_) hh0 hjl e he9
          obtain ⟨bx, cp, cu, h1, h2, h3⟩ := HC5.out i hi
          exact ⟨bx, cp, cu, cell_onZ b50 h1, (b50.block _ (heap_lt h2)).trans h2, h3.below b50⟩
        have hb5w : wr.heap.size ≤ b5 := Hge5.out
        have b06 : Below wr.heap.size wr V6 := by
          rw [hV6]
          have bA : Below wr.heap.size wr (V0.alloc (.cells #[.string (txt e.tim), .string xw, .string xo] 9)) := Below.on' (Below.on' Hb5.out b50) ((Below.refl _ V0).alloc (Nat.le_refl _) _)
          exact (Out.setCells (P := fun k => wr.heap.size ≤ k) b5 hb5w _ _ _ ⟨bA.os, bA.tape, bA.output, bA.size, fun k hk hp => bA.block k (by omega)⟩).below (Nat.le_refl _) (fun k hk => hk)
        have hld := setEv_ld Hm.out (by omega) j xw xo (by omega) (by omega)
        have ok' := setEv_ok Hm.out.ok j xw xo (by omega) (by omega)
        have hev' := setEv_evOk (Hm.out.evOk (by omega)) j xw xo (by omega) (by omega)
        have hn' := setEv_len c j xw xo
        have hcn' : (setEv c j xw xo).cnt < 1152921504606846976 := by unfold Ch.cnt at hcn ⊢; rw [hn']; exact hcn
        have hba' : (setEv c j xw xo).bn ≤ (setEv c j xw xo).an := Hm.out.ba
        have hhd : (setEv c j xw xo).hd = c.hd := rfl
        obtain ⟨d, hd9⟩ : ∃ d, d = setEv c j xw xo := ⟨_, rfl⟩
        rw [← hd9] at htx6 hld ok' hev' hn' hcn' hba' hhd
        have hNd : N = 4 + d.ev.length := by rw [hn', HN.out]
        have hBV : B ≤ V6.heap.size := Nat.le_trans hBr b06.size
        have T6 := hid ((Htb.out.below hBr b06).mono hBV)
        have L1 := hid (load_ok b5 cap5 d htx6 hld (by rw [← hNd]; exact Hcap5.out) T6.out)
        have L2 := hid (fun (V : World) (hb : Below V6.heap.size V6 V) => rLoad_ok b5 cap5 d (htx6.below (B := 0) hb) hld (by rw [← hNd]; exact Hcap5.out))
        rw [← hNd] at L1 L2
        have Hok := hid ok'
        have Hev := hid hev'
        have Hcn := hid hcn'
        have Hba := hid hba'
        have B06 := hid b06
        have D1 := hid (ok'.lh)
        obtain ⟨O1, hO1⟩ : ∃ O, O = bvs (d.at d.ev.length) := ⟨_, rfl⟩
        obtain ⟨O2, hO2⟩ : ∃ O, O = bvs d.hd := ⟨_, rfl⟩
        have heq : ∀ V, (Op.equalIn 10000 49 (.agg O1) (.agg O2)).run Tryd.prog V = .ok (d.at d.ev.length == d.hd) V := fun V => by rw [hO1, hO2]; exact hash_eq ⟨rfl, Ch.at_length ok' _⟩ ⟨rfl, ok'.lh⟩ V
        have heq2 : ∀ V, (Op.equalIn 10000 49 (.agg O2) (.agg O2)).run Tryd.prog V = .ok true V := fun V => by rw [hO2]; exact hash_same ⟨rfl, ok'.lh⟩ ⟨rfl, ok'.lh⟩ V
        have HO1 := hid hO1
        have HO2 := hid hO2
        have Hhd := hid hhd
        have Hnd := hid hNd
        have hfd : d.ev.length ≤ 64 := by omega
        clear hA A sz e10 e11 e5 hV6 htx6 hld ok' hev' hn' hcn' hba' hhd hd9 hNd hO1 hO2 b06 b50 hV0 tl0 hh0 hth kx0 kx1 kx2 kx3 kx4 hX3 hX4 hXw hXo HC5 HT5 HH5 he9 hlr hj4
        by_cases hh : d.at d.ev.length = d.hd
        · have q1 : (d.at d.ev.length == d.hd) = true := by rw [hh]; simp
          rw [q1] at heq
          clear q1 hh
          go_wp2_with (first
            | (go_at_call 13; refine L1.out.mono ?_; rintro _ w7 ⟨g7, v7, rfl, h7, b7⟩; have H7 := hid h7; have B7 := hid b7; clear h7 b7)
            | (go_at_call 14; refine (L2.out w7 B7.out).mono ?_; rintro _ w8 ⟨g8, v8, rfl, h8, b8⟩; have H8 := hid h8; have BL2 := hid (Below.on' B7.out b8); have B87 := hid b8; clear h8 b8)
            | (go_at_call 20; refine (rEvents_any H8.out Hok.out).mono ?_; rintro _ w9 ⟨a9, c9, rfl, _, b9⟩; have P9 := hid b9; clear b9)
            | (go_at_call 21; refine (rAt_any (H8.out.below P9.out) Hok.out.l Hev.out (by omega) d.ev.length (Nat.le_refl _)).mono ?_; rintro _ wA ⟨rfl, bA⟩; rw [← HO1.out]; have PA := hid (Below.on' P9.out bA); clear bA)
            | (go_at_call 22; refine (rHead_any (H8.out.below PA.out) Hok.out.l).mono ?_; rintro _ wB ⟨rfl, bB⟩; rw [← HO2.out]; have PB := hid (Below.on' PA.out bB); clear bB)
            | (go_at_call 17; refine (verify_any (H7.out.below (Below.on' B87.out PB.out)) Hok.out Hcn.out (T6.out.below (Nat.le_refl _) (Below.on' BL2.out PB.out)) (Below.on' BL2.out PB.out).size).mono ?_; rintro _ wC ⟨rfl, bC⟩; (try rw [HVer.out]); have PC := hid (Below.on' PB.out bC); clear bC)
            | (go_at_call 18; refine (rVerify_any (H8.out.below PC.out) Hok.out Hev.out Hba.out Hcn.out).mono ?_; rintro _ wD ⟨rfl, bD⟩; have BV2 := hid (Below.on' PC.out bD); clear bD)
            | (go_at_call 23; refine (head_any (H7.out.below (Below.on' B87.out PC.out)) Hok.out.l).mono ?_; rintro _ wD ⟨rfl, bD⟩; rw [← HO2.out]; have PD := hid (Below.on' PC.out bD); clear bD H7)
            | (go_at_call 23; refine (head_any (Hp.out.ch.below (Below.on' B06.out (Below.on' BL2.out PD.out))) Hm.out.ok.l).mono ?_; rintro _ wE ⟨rfl, bE⟩; rw [← Hhd.out, ← HO2.out]; have BV2 := hid (Below.on' PD.out bE); clear bE))
          go_ret
          exact ⟨rfl, Hb0.out.trans ((Hbel.out.trans ((Below.on' B06.out (Below.on' BL2.out BV2.out)).mono hBr)).mono HB.out)⟩
        · have q1 : (d.at d.ev.length == d.hd) = false := by simpa using hh
          rw [q1] at heq
          have hver : verE d = 15 := by unfold verE; rw [if_pos (.inr hh)]
          have HVer := hid hver
          clear q1 hh hver
          go_wp2_with (first
            | (go_at_call 13; refine L1.out.mono ?_; rintro _ w7 ⟨g7, v7, rfl, h7, b7⟩; have H7 := hid h7; have B7 := hid b7; clear h7 b7)
            | (go_at_call 14; refine (L2.out w7 B7.out).mono ?_; rintro _ w8 ⟨g8, v8, rfl, h8, b8⟩; have H8 := hid h8; have BL2 := hid (Below.on' B7.out b8); have B87 := hid b8; clear h8 b8)
            | (go_at_call 20; refine (rEvents_any H8.out Hok.out).mono ?_; rintro _ w9 ⟨a9, c9, rfl, _, b9⟩; have P9 := hid b9; clear b9)
            | (go_at_call 21; refine (rAt_any (H8.out.below P9.out) Hok.out.l Hev.out (by omega) d.ev.length (Nat.le_refl _)).mono ?_; rintro _ wA ⟨rfl, bA⟩; rw [← HO1.out]; have PA := hid (Below.on' P9.out bA); clear bA)
            | (go_at_call 22; refine (rHead_any (H8.out.below PA.out) Hok.out.l).mono ?_; rintro _ wB ⟨rfl, bB⟩; rw [← HO2.out]; have PB := hid (Below.on' PA.out bB); clear bB)
            | (go_at_call 17; refine (verify_any (H7.out.below (Below.on' B87.out PB.out)) Hok.out Hcn.out (T6.out.below (Nat.le_refl _) (Below.on' BL2.out PB.out)) (Below.on' BL2.out PB.out).size).mono ?_; rintro _ wC ⟨rfl, bC⟩; (try rw [HVer.out]); have PC := hid (Below.on' PB.out bC); clear bC)
            | (go_at_call 18; refine (rVerify_any (H8.out.below PC.out) Hok.out Hev.out Hba.out Hcn.out).mono ?_; rintro _ wD ⟨rfl, bD⟩; have BV2 := hid (Below.on' PC.out bD); clear bD)
            | (go_at_call 23; refine (head_any (H7.out.below (Below.on' B87.out PC.out)) Hok.out.l).mono ?_; rintro _ wD ⟨rfl, bD⟩; rw [← HO2.out]; have PD := hid (Below.on' PC.out bD); clear bD H7)
            | (go_at_call 23; refine (head_any (Hp.out.ch.below (Below.on' B06.out (Below.on' BL2.out PD.out))) Hm.out.ok.l).mono ?_; rintro _ wE ⟨rfl, bE⟩; rw [← Hhd.out, ← HO2.out]; have BV2 := hid (Below.on' PD.out bE); clear bE))
          go_ret
          exact ⟨rfl, Hb0.out.trans ((Hbel.out.trans ((Below.on' B06.out (Below.on' BL2.out BV2.out)).mono hBr)).mono HB.out)⟩
    · have g1 : decide ((k : Int) < (l.length : Int)) = false := by simp; omega
      have hcn : c.cnt < 1152921504606846976 := by have := Hm.out.cnt; omega
      have hXw : wr.cell? ⟨W.heap.size, 3, none⟩ = some (.string xw) := (Hbel.out.cell (p := ⟨W.heap.size, 3, none⟩) HXB.out).trans HX3.out
      have hXo : wr.cell? ⟨W.heap.size, 4, none⟩ = some (.string xo) := (Hbel.out.cell (p := ⟨W.heap.size, 4, none⟩) HXB.out).trans HX4.out
      have HRows := hid (rRows_x Hp.out.rf Hm.out.ok hcn)
      obtain ⟨N, hN⟩ : ∃ N, N = 4 + c.ev.length := ⟨_, rfl⟩
      have HN := hid hN
      have hfew := Hm.out.ok.few
      clear hlb hN
      by_cases he : c.ev.length = 0
      · have g5 : decide ((N : Int) < 5) = true := by simp; have := HN.out; omega
        go_wp2_with (go_at_call 19; refine HRows.out.mono ?_; rintro _ w5 ⟨v5, rs5, rfl, ho5, hi5, hb5⟩; obtain ⟨b5, cap5, cur5, rfl, hge5, hcap5, hh5, htx5, hcl5⟩ := x_tx ho5 hi5 (by have := hi5.length; rw [rowsX_len] at this; omega); have hl5 := hi5.length; rw [rowsX_len, ← HN.out] at hl5; rw [hl5] at hcap5 ⊢; have HH5 := hid hh5; have Hge5 := hid hge5; have HT5 := hid htx5; have HC5 := hid hcl5; have Hb5 := hid hb5; have Hcap5 := hid hcap5; have hX3 := (hb5.cell (World.block_lt_of_cell? _ _ hXw)).trans hXw; have hX4 := (hb5.cell (World.block_lt_of_cell? _ _ hXo)).trans hXo; clear ho5 hi5 hb5 hge5 hh5 htx5 hcl5 hl5 hcap5)
        go_ret
        exact ⟨rfl, Hb0.out.trans ((Hbel.out.trans (Hb5.out.mono hBr)).mono HB.out)⟩
      by_cases hw12 : 12 < xw.size
      · have g5 : decide ((N : Int) < 5) = false := by simp; have := HN.out; omega
        have g6 : decide ((12 : Int) < (xw.size : Int)) = true := by simp; omega
        go_wp2_with (go_at_call 19; refine HRows.out.mono ?_; rintro _ w5 ⟨v5, rs5, rfl, ho5, hi5, hb5⟩; obtain ⟨b5, cap5, cur5, rfl, hge5, hcap5, hh5, htx5, hcl5⟩ := x_tx ho5 hi5 (by have := hi5.length; rw [rowsX_len] at this; omega); have hl5 := hi5.length; rw [rowsX_len, ← HN.out] at hl5; rw [hl5] at hcap5 ⊢; have HH5 := hid hh5; have Hge5 := hid hge5; have HT5 := hid htx5; have HC5 := hid hcl5; have Hb5 := hid hb5; have Hcap5 := hid hcap5; have hX3 := (hb5.cell (World.block_lt_of_cell? _ _ hXw)).trans hXw; have hX4 := (hb5.cell (World.block_lt_of_cell? _ _ hXo)).trans hXo; clear ho5 hi5 hb5 hge5 hh5 htx5 hcl5 hl5 hcap5)
        go_ret
        exact ⟨rfl, Hb0.out.trans ((Hbel.out.trans (Hb5.out.mono hBr)).mono HB.out)⟩
      by_cases hw30 : 30 < xo.size
      · have g5 : decide ((N : Int) < 5) = false := by simp; have := HN.out; omega
        have g6 : decide ((12 : Int) < (xw.size : Int)) = false := by simp; omega
        have g7 : decide ((30 : Int) < (xo.size : Int)) = true := by simp; omega
        go_wp2_with (go_at_call 19; refine HRows.out.mono ?_; rintro _ w5 ⟨v5, rs5, rfl, ho5, hi5, hb5⟩; obtain ⟨b5, cap5, cur5, rfl, hge5, hcap5, hh5, htx5, hcl5⟩ := x_tx ho5 hi5 (by have := hi5.length; rw [rowsX_len] at this; omega); have hl5 := hi5.length; rw [rowsX_len, ← HN.out] at hl5; rw [hl5] at hcap5 ⊢; have HH5 := hid hh5; have Hge5 := hid hge5; have HT5 := hid htx5; have HC5 := hid hcl5; have Hb5 := hid hb5; have Hcap5 := hid hcap5; have hX3 := (hb5.cell (World.block_lt_of_cell? _ _ hXw)).trans hXw; have hX4 := (hb5.cell (World.block_lt_of_cell? _ _ hXo)).trans hXo; clear ho5 hi5 hb5 hge5 hh5 htx5 hcl5 hl5 hcap5)
        go_ret
        exact ⟨rfl, Hb0.out.trans ((Hbel.out.trans (Hb5.out.mono hBr)).mono HB.out)⟩
      have g5 : decide ((N : Int) < 5) = false := by simp; have := HN.out; omega
      have g6 : decide ((12 : Int) < (xw.size : Int)) = false := by simp; omega
      have g7 : decide ((30 : Int) < (xo.size : Int)) = false := by simp; omega
      obtain ⟨j, hj⟩ : ∃ j, j = kz % (N - 4) := ⟨_, rfl⟩
      have hjl : j < c.ev.length := by rw [hj, HN.out, Nat.add_sub_cancel_left]; exact Nat.mod_lt _ (by omega)
      have n4 : 4 < N := by have := HN.out; omega
      have n68 : N ≤ 68 := by have := HN.out; omega
      have hval := idx_val kz N j n4 n68 hj
      have Hval := hid hval
      have hnz := idx_nz N n4 n68
      clear hj hval
      go_wp2_with (go_at_call 19; refine HRows.out.mono ?_; rintro _ w5 ⟨v5, rs5, rfl, ho5, hi5, hb5⟩; obtain ⟨b5, cap5, cur5, rfl, hge5, hcap5, hh5, htx5, hcl5⟩ := x_tx ho5 hi5 (by have := hi5.length; rw [rowsX_len] at this; omega); have hl5 := hi5.length; rw [rowsX_len, ← HN.out] at hl5; rw [hl5] at hcap5 ⊢; have HH5 := hid hh5; have Hge5 := hid hge5; have HT5 := hid htx5; have HC5 := hid hcl5; have Hb5 := hid hb5; have Hcap5 := hid hcap5; have hX3 := (hb5.cell (World.block_lt_of_cell? _ _ hXw)).trans hXw; have hX4 := (hb5.cell (World.block_lt_of_cell? _ _ hXo)).trans hXo; clear ho5 hi5 hb5 hge5 hh5 htx5 hcl5 hl5 hcap5)
      obtain ⟨V0, hV0⟩ : ∃ V0, V0 = w5.drew := ⟨_, rfl⟩
      have b50 : Below w5.heap.size w5 V0 := by rw [hV0]; exact (Below.refl _ w5).drew
      obtain ⟨e, he9⟩ : ∃ e, e = c.ev[j] := ⟨_, rfl⟩
      have hlr := rowsOf_len c
      have hj4 : 4 + j < (rowsOf c).length := by omega
      obtain ⟨bx, cpx, cux, kx1, kx2, kx3⟩ := HC5.out (4 + j) hj4
      obtain ⟨zz1, zz2, kx0, zz3, zz4⟩ := HT5.out (4 + j) hj4
      clear zz3 zz4
      rw [rowsOf_ev c j hjl, ← he9] at kx1 kx3 kx0
      obtain ⟨bq, oq, eq9, kx4⟩ := kx3 0 (by simp [evText])
      cases eq9
      have tl0 : TlS b5 bx W.heap.size (4 + j) cpx (evKey e.num) (txt e.tim) xw xo V0 := ⟨cell_onZ b50 kx0, cell_onZ b50 kx1, cell_onZ b50 kx4, cell_onZ b50 hX3, cell_onZ b50 hX4⟩
      have hh0 : V0.heap[b5]? = some (.cells cur5 45 (0, 0)) := (b50.block _ (heap_lt HH5.out)).trans HH5.out
      have hth : V0.there b5 ((4 + j) * 2) 2 := fun m hm => by
        refine ⟨?_, frozen_of_row _ _ _ _ _ hh0⟩
        match m, hm with
        | 0, _ => rw [Nat.add_zero, tl0.1]; rfl
        | 1, _ => rw [tl0.2.1]; rfl
      refine wp_act _ fun A hA => ?_
      have sz : A.tmps.size = 123 := by rw [hA]; rfl
      have e10 : A.eval (.tmp 10) = .slice (some ⟨b5, 0, none⟩) N cap5 := by rw [hA]; rfl
      have e11 : A.eval (.tmp 11) = .int .i64 ((4 + j : Nat) : Int) := by rw [hA, ← Hval.out]; rfl
      have e5 : A.eval (.tmp 5) = .pointer (some ⟨W.heap.size, 0, none⟩) := by rw [hA]; rfl
      refine wp_split _ (tl_region12 sz e10 e11 e5 (by have := HN.out; omega) hth hV0 tl0) ?_
      rintro _ V6 ⟨rfl, hV6⟩
      rw [hA]
      simp only [Act.put, List.setIfInBounds_toArray, List.set_cons_succ, List.set_cons_zero]
      have htx6 : TxRows V6 b5 (rowsOf (setEv c j xw xo)) := by
        rw [hV6]
        refine tx_set (c3 := 0) (bb := 0) (HT5.out.below (B := 0) b50) (fun i hi => ?_) hh0 hjl e he9
        obtain ⟨bx, cp, cu, h1, h2, h3⟩ := HC5.out i hi
        exact ⟨bx, cp, cu, cell_onZ b50 h1, (b50.block _ (heap_lt h2)).trans h2, h3.below b50⟩
      have hb5w : wr.heap.size ≤ b5 := Hge5.out
      have b06 : Below wr.heap.size wr V6 := by
        rw [hV6]
        have bA : Below wr.heap.size wr (V0.alloc (.cells #[.string (txt e.tim), .string xw, .string xo] 9)) := Below.on' (Below.on' Hb5.out b50) ((Below.refl _ V0).alloc (Nat.le_refl _) _)
        exact (Out.setCells (P := fun k => wr.heap.size ≤ k) b5 hb5w _ _ _ ⟨bA.os, bA.tape, bA.output, bA.size, fun k hk hp => bA.block k (by omega)⟩).below (Nat.le_refl _) (fun k hk => hk)
      have hld := setEv_ld Hm.out (by omega) j xw xo (by omega) (by omega)
      have ok' := setEv_ok Hm.out.ok j xw xo (by omega) (by omega)
      have hev' := setEv_evOk (Hm.out.evOk (by omega)) j xw xo (by omega) (by omega)
      have hn' := setEv_len c j xw xo
      have hcn' : (setEv c j xw xo).cnt < 1152921504606846976 := by unfold Ch.cnt at hcn ⊢; rw [hn']; exact hcn
      have hba' : (setEv c j xw xo).bn ≤ (setEv c j xw xo).an := Hm.out.ba
      have hhd : (setEv c j xw xo).hd = c.hd := rfl
      obtain ⟨d, hd9⟩ : ∃ d, d = setEv c j xw xo := ⟨_, rfl⟩
      rw [← hd9] at htx6 hld ok' hev' hn' hcn' hba' hhd
      have hNd : N = 4 + d.ev.length := by rw [hn', HN.out]
      have hBV : B ≤ V6.heap.size := Nat.le_trans hBr b06.size
      have T6 := hid ((Htb.out.below hBr b06).mono hBV)
      have L1 := hid (load_ok b5 cap5 d htx6 hld (by rw [← hNd]; exact Hcap5.out) T6.out)
      have L2 := hid (fun (V : World) (hb : Below V6.heap.size V6 V) => rLoad_ok b5 cap5 d (htx6.below (B := 0) hb) hld (by rw [← hNd]; exact Hcap5.out))
      rw [← hNd] at L1 L2
      have Hok := hid ok'
      have Hev := hid hev'
      have Hcn := hid hcn'
      have Hba := hid hba'
      have B06 := hid b06
      have D1 := hid (ok'.lh)
      obtain ⟨O1, hO1⟩ : ∃ O, O = bvs (d.at d.ev.length) := ⟨_, rfl⟩
      obtain ⟨O2, hO2⟩ : ∃ O, O = bvs d.hd := ⟨_, rfl⟩
      have heq : ∀ V, (Op.equalIn 10000 49 (.agg O1) (.agg O2)).run Tryd.prog V = .ok (d.at d.ev.length == d.hd) V := fun V => by rw [hO1, hO2]; exact hash_eq ⟨rfl, Ch.at_length ok' _⟩ ⟨rfl, ok'.lh⟩ V
      have heq2 : ∀ V, (Op.equalIn 10000 49 (.agg O2) (.agg O2)).run Tryd.prog V = .ok true V := fun V => by rw [hO2]; exact hash_same ⟨rfl, ok'.lh⟩ ⟨rfl, ok'.lh⟩ V
      have HO1 := hid hO1
      have HO2 := hid hO2
      have Hhd := hid hhd
      have Hnd := hid hNd
      have hfd : d.ev.length ≤ 64 := by omega
      clear hA A sz e10 e11 e5 hV6 htx6 hld ok' hev' hn' hcn' hba' hhd hd9 hNd hO1 hO2 b06 b50 hV0 tl0 hh0 hth kx0 kx1 kx2 kx3 kx4 hX3 hX4 hXw hXo HC5 HT5 HH5 he9 hlr hj4
      by_cases hh : d.at d.ev.length = d.hd
      · have q1 : (d.at d.ev.length == d.hd) = true := by rw [hh]; simp
        rw [q1] at heq
        clear q1 hh
        go_wp2_with (first
          | (go_at_call 13; refine L1.out.mono ?_; rintro _ w7 ⟨g7, v7, rfl, h7, b7⟩; have H7 := hid h7; have B7 := hid b7; clear h7 b7)
          | (go_at_call 14; refine (L2.out w7 B7.out).mono ?_; rintro _ w8 ⟨g8, v8, rfl, h8, b8⟩; have H8 := hid h8; have BL2 := hid (Below.on' B7.out b8); have B87 := hid b8; clear h8 b8)
          | (go_at_call 20; refine (rEvents_any H8.out Hok.out).mono ?_; rintro _ w9 ⟨a9, c9, rfl, _, b9⟩; have P9 := hid b9; clear b9)
          | (go_at_call 21; refine (rAt_any (H8.out.below P9.out) Hok.out.l Hev.out (by omega) d.ev.length (Nat.le_refl _)).mono ?_; rintro _ wA ⟨rfl, bA⟩; rw [← HO1.out]; have PA := hid (Below.on' P9.out bA); clear bA)
          | (go_at_call 22; refine (rHead_any (H8.out.below PA.out) Hok.out.l).mono ?_; rintro _ wB ⟨rfl, bB⟩; rw [← HO2.out]; have PB := hid (Below.on' PA.out bB); clear bB)
          | (go_at_call 17; refine (verify_any (H7.out.below (Below.on' B87.out PB.out)) Hok.out Hcn.out (T6.out.below (Nat.le_refl _) (Below.on' BL2.out PB.out)) (Below.on' BL2.out PB.out).size).mono ?_; rintro _ wC ⟨rfl, bC⟩; (try rw [HVer.out]); have PC := hid (Below.on' PB.out bC); clear bC)
          | (go_at_call 18; refine (rVerify_any (H8.out.below PC.out) Hok.out Hev.out Hba.out Hcn.out).mono ?_; rintro _ wD ⟨rfl, bD⟩; have BV2 := hid (Below.on' PC.out bD); clear bD)
          | (go_at_call 23; refine (head_any (H7.out.below (Below.on' B87.out PC.out)) Hok.out.l).mono ?_; rintro _ wD ⟨rfl, bD⟩; rw [← HO2.out]; have PD := hid (Below.on' PC.out bD); clear bD H7)
          | (go_at_call 23; refine (head_any (Hp.out.ch.below (Below.on' B06.out (Below.on' BL2.out PD.out))) Hm.out.ok.l).mono ?_; rintro _ wE ⟨rfl, bE⟩; rw [← Hhd.out, ← HO2.out]; have BV2 := hid (Below.on' PD.out bE); clear bE))
        go_ret
        exact ⟨rfl, Hb0.out.trans ((Hbel.out.trans ((Below.on' B06.out (Below.on' BL2.out BV2.out)).mono hBr)).mono HB.out)⟩
      · have q1 : (d.at d.ev.length == d.hd) = false := by simpa using hh
        rw [q1] at heq
        have hver : verE d = 15 := by unfold verE; rw [if_pos (.inr hh)]
        have HVer := hid hver
        clear q1 hh hver
        go_wp2_with (first
          | (go_at_call 13; refine L1.out.mono ?_; rintro _ w7 ⟨g7, v7, rfl, h7, b7⟩; have H7 := hid h7; have B7 := hid b7; clear h7 b7)
          | (go_at_call 14; refine (L2.out w7 B7.out).mono ?_; rintro _ w8 ⟨g8, v8, rfl, h8, b8⟩; have H8 := hid h8; have BL2 := hid (Below.on' B7.out b8); have B87 := hid b8; clear h8 b8)
          | (go_at_call 20; refine (rEvents_any H8.out Hok.out).mono ?_; rintro _ w9 ⟨a9, c9, rfl, _, b9⟩; have P9 := hid b9; clear b9)
          | (go_at_call 21; refine (rAt_any (H8.out.below P9.out) Hok.out.l Hev.out (by omega) d.ev.length (Nat.le_refl _)).mono ?_; rintro _ wA ⟨rfl, bA⟩; rw [← HO1.out]; have PA := hid (Below.on' P9.out bA); clear bA)
          | (go_at_call 22; refine (rHead_any (H8.out.below PA.out) Hok.out.l).mono ?_; rintro _ wB ⟨rfl, bB⟩; rw [← HO2.out]; have PB := hid (Below.on' PA.out bB); clear bB)
          | (go_at_call 17; refine (verify_any (H7.out.below (Below.on' B87.out PB.out)) Hok.out Hcn.out (T6.out.below (Nat.le_refl _) (Below.on' BL2.out PB.out)) (Below.on' BL2.out PB.out).size).mono ?_; rintro _ wC ⟨rfl, bC⟩; (try rw [HVer.out]); have PC := hid (Below.on' PB.out bC); clear bC)
          | (go_at_call 18; refine (rVerify_any (H8.out.below PC.out) Hok.out Hev.out Hba.out Hcn.out).mono ?_; rintro _ wD ⟨rfl, bD⟩; have BV2 := hid (Below.on' PC.out bD); clear bD)
          | (go_at_call 23; refine (head_any (H7.out.below (Below.on' B87.out PC.out)) Hok.out.l).mono ?_; rintro _ wD ⟨rfl, bD⟩; rw [← HO2.out]; have PD := hid (Below.on' PC.out bD); clear bD H7)
          | (go_at_call 23; refine (head_any (Hp.out.ch.below (Below.on' B06.out (Below.on' BL2.out PD.out))) Hm.out.ok.l).mono ?_; rintro _ wE ⟨rfl, bE⟩; rw [← Hhd.out, ← HO2.out]; have BV2 := hid (Below.on' PD.out bE); clear bE))
        go_ret
        exact ⟨rfl, Hb0.out.trans ((Hbel.out.trans ((Below.on' B06.out (Below.on' BL2.out BV2.out)).mono hBr)).mono HB.out)⟩
end Go.Proofs.YthnciogaibhmcaaDoor

/- What the arguments of AuditTells give to its walk. -/
namespace Go.Proofs.YthnciogaibhmcaaDoor
open Go.RowKit
open Go.ChangeShapes Go.WideShapes Go.ChangeAt Go.Deep
set_option linter.unusedVariables false
set_option maxRecDepth 20000
theorem open_adeed {H : Type} {enc : TypeId × Value → H} {W : World} {r0 : Reach} {b0 : Nat} {v : Value} {d : DataW H} {p : List MemPlace}
    (hv : Value.okWide Tryd.prog W r0 b0 30 v) (h : DataW.Trod enc Tryd.prog W 0 (fun _ => true) true 30 v d p) : ∃ q : ADeed, v = .agg q.vals.toArray ∧ q.what.size ≤ 9223372036854775807 ∧ q.who.size ≤ 9223372036854775807 := by
  obtain ⟨cs, rfl, _⟩ := okWide_struct Tryd.underlying30 hv
  obtain ⟨fuel, h2⟩ := h
  have h2 : DataW.trod enc Tryd.prog W 0 (fun _ => true) true fuel 30 cs.toList = some (d, p) := by simpa [Value.cells] using h2
  obtain ⟨xs, k, hk, hxy, hlen, hxl, hf⟩ := DataW.trod_struct Tryd.underlying30 h2
  rw [cellsAD] at hlen
  obtain ⟨v0, v1, v2, v3, v4, hcs⟩ := list5A hlen
  rw [hcs] at hf
  have g0 := hf 0 _ rfl
  have g1 := hf 1 _ rfl
  have g2 := hf 2 _ rfl
  have g3 := hf 3 _ rfl
  have g4 := hf 4 _ rfl
  have s0 : Tryd.prog.cellsOf 3 = 1 := by kernel_rfl
  have s1 : Tryd.prog.cellsOf 9 = 1 := by kernel_rfl
  simp [s0, s1] at g0 g1 g2 g3 g4
  obtain ⟨y0, q0⟩ : ∃ y, DataW.trod enc Tryd.prog W 0 (fun _ => true) true k 3 [v0] = some y := ⟨_, g0.trans (List.getElem?_eq_getElem (by rw [hxl]; decide))⟩
  obtain ⟨y1, q1⟩ : ∃ y, DataW.trod enc Tryd.prog W 0 (fun _ => true) true k 3 [v1] = some y := ⟨_, g1.trans (List.getElem?_eq_getElem (by rw [hxl]; decide))⟩
  obtain ⟨y2, q2⟩ : ∃ y, DataW.trod enc Tryd.prog W 0 (fun _ => true) true k 3 [v2] = some y := ⟨_, g2.trans (List.getElem?_eq_getElem (by rw [hxl]; decide))⟩
  obtain ⟨y3, q3⟩ : ∃ y, DataW.trod enc Tryd.prog W 0 (fun _ => true) true k 9 [v3] = some y := ⟨_, g3.trans (List.getElem?_eq_getElem (by rw [hxl]; decide))⟩
  obtain ⟨y4, q4⟩ : ∃ y, DataW.trod enc Tryd.prog W 0 (fun _ => true) true k 9 [v4] = some y := ⟨_, g4.trans (List.getElem?_eq_getElem (by rw [hxl]; decide))⟩
  obtain ⟨n0, e0, _, _⟩ := DataW.trod_int Tryd.underlying3 q0
  obtain ⟨n1, e1, _, _⟩ := DataW.trod_int Tryd.underlying3 q1
  obtain ⟨n2, e2, _, _⟩ := DataW.trod_int Tryd.underlying3 q2
  obtain ⟨n3, e3, _, k3⟩ := DataW.trod_string Tryd.underlying9 q3
  obtain ⟨n4, e4, _, k4⟩ := DataW.trod_string Tryd.underlying9 q4
  simp only [List.cons.injEq, and_true] at e0 e1 e2 e3 e4
  subst e0 e1 e2 e3 e4
  refine ⟨⟨n0, n1, n2, n3, n4⟩, ?_, by unfold maxLen at k3; show n3.size ≤ _; omega, by unfold maxLen at k4; show n4.size ≤ _; omega⟩
  have : cs = #[.int .i64 n0, .int .i64 n1, .int .i64 n2, .string n3, .string n4] := Array.ext' hcs
  rw [this]
  rfl
theorem auditTells_any {W : World} (l : List ADeed) (a : Option Addr) (cap : Nat) (hl : ADs W a l) (z : Int) (hz : (Lit.int .u8 z).wf = true) (q : ADeed) (hq : q.what.size ≤ 9223372036854775807 ∧ q.who.size ≤ 9223372036854775807) (hT : Tabs W W.heap.size) :
    Calls Tryd.prog 5 #[.slice a l.length cap, .int .u8 z, .agg q.vals.toArray] W fun e w' => e = .returned (.bool true) ∧ Below W.heap.size W w' := by
  have hb : 0 ≤ z ∧ z ≤ 255 := by simpa [Lit.wf, IntKind.min, IntKind.max, IntKind.signed, IntKind.bits] using hz
  obtain ⟨kz, rfl⟩ : ∃ kz : Nat, z = kz := ⟨z.toNat, by omega⟩
  exact auditTells_walk l a cap hl kz (by omega) q hq.1 hq.2 hT
end Go.Proofs.YthnciogaibhmcaaDoor
