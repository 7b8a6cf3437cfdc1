/- YtdglmoikgmlaaaaGreatDoorHRefL5 + YtdglmoikgmlaaaaGreatDoorHRefM5 + YtdglmoikgmlaaaaGreatDoorHRefM4 -/
import Derived.Test.YtdglmoikgmlaaaaGreatDoorHRefM6
/- The words of a block (loops 4 and 5 of the reference's Sum): the region, over a frame that is a letter. -/
namespace Go.Proofs.YtdglmoikgmlaaaaGreatDoor
open Go.RowKit
set_option linter.unusedVariables false
set_option maxRecDepth 100000
theorem w_shl8 (p : W32) : ((p.toNat : Int) * 256) % 4294967296 = ((p <<< 8).toNat : Int) := by
  rw [BitVec.toNat_shiftLeft, Nat.shiftLeft_eq]
  omega
theorem w_conv8 (b : UInt8) : ((BitVec.ofNat 32 b.toNat).toNat : Int) = (b.toNat : Int) := by
  have := b.toNat_lt
  rw [BitVec.toNat_ofNat]
  omega
theorem y_muli {ops : Array Oper} {S : World → Prop} {op : Oper} {a : Act} (hw : Region.wanted op (yielded ops a.tmps) = true) (x y : Operand) (ho : op.op = .binOp .mul 3 x y 3) (p q z : Int) (hx : a.eval x = .int .i64 p) (hy : a.eval y = .int .i64 q) (hz : IntKind.i64.wrap (p * q) = z) : YieldsIf Tryz.prog ops S op (.int .i64 z) a := by
  refine .inl ⟨hw, fun w hS9 => ?_⟩
  unfold execOp
  simp only [ho, hx, hy]
  simp [go_sem, hz]
theorem y_indexB {ops : Array Oper} {S : World → Prop} {op : Oper} {a : Act} (hw : Region.wanted op (yielded ops a.tmps) = true) (x y : Operand) (ho : op.op = .indexAddr 41 x y) (g n c k : Nat) (hx : a.eval x = .slice (some ⟨g, 0, none⟩) n c) (hy : a.eval y = .int .i64 (k : Int)) (hk : k < n) : YieldsIf Tryz.prog ops S op (.pointer (some ⟨g, k, none⟩)) a := by
  refine .inl ⟨hw, fun w hS9 => ?_⟩
  have h1 : (k : Int) < (n : Int) := by omega
  have h0 : (0 : Int) ≤ (k : Int) := by omega
  unfold execOp
  simp only [ho, hx, hy]
  simp [go_sem, h0, h1]
theorem yh_loadB {ops : Array Oper} {S : World → Prop} {op : Oper} {a : Act} (hw : Region.wanted op (yielded ops a.tmps) = true) (x : Operand) (ho : op.op = .load 5 x) (g k : Nat) (b : UInt8) (hx : a.eval x = .pointer (some ⟨g, k, none⟩)) (hS : ∀ w, S w → w.cell? ⟨g, k, none⟩ = some (.int .u8 (b.toNat : Int))) : YieldsIf Tryz.prog ops S op (.int .u8 (b.toNat : Int)) a := by
  refine .inl ⟨hw, fun w hS9 => ?_⟩
  have h1 := hS w hS9
  unfold execOp
  simp only [ho, hx]
  simp [go_sem, h1]
theorem y_conv8 {ops : Array Oper} {S : World → Prop} {op : Oper} {a : Act} (hw : Region.wanted op (yielded ops a.tmps) = true) (x : Operand) (ho : op.op = .convert 5 127 x) (b : UInt8) (hx : a.eval x = .int .u8 (b.toNat : Int)) : YieldsIf Tryz.prog ops S op (vw (BitVec.ofNat 32 b.toNat)) a := by
  refine .inl ⟨hw, fun w hS9 => ?_⟩
  have h1 : IntKind.u32.wrap (b.toNat : Int) = ((BitVec.ofNat 32 b.toNat).toNat : Int) := by
    rw [w_conv8]; have := b.toNat_lt; rw [IntKind.wrap_u32]; omega
  unfold vw
  rw [← h1]
  unfold execOp
  simp only [ho, hx]
  simp [go_sem]
theorem y_shl8 {ops : Array Oper} {S : World → Prop} {op : Oper} {a : Act} (hw : Region.wanted op (yielded ops a.tmps) = true) (x y : Operand) (ho : op.op = .binOp .shl 127 x y 113) (p : W32) (hx : a.eval x = vw p) (hy : a.eval y = .int .u64 8) : YieldsIf Tryz.prog ops S op (vw (p <<< 8)) a := by
  refine .inl ⟨hw, fun w hS9 => ?_⟩
  have h1 : IntKind.u32.wrap ((p.toNat : Int) * 256) = ((p <<< 8).toNat : Int) := w_shl p 8
  obtain ⟨r, hr⟩ : ∃ r, r = p <<< 8 := ⟨_, rfl⟩
  rw [← hr] at h1 ⊢
  clear hr
  unfold execOp
  simp only [ho, hx, hy]
  simp [go_sem, h1]
theorem y_or {ops : Array Oper} {S : World → Prop} {op : Oper} {a : Act} (hw : Region.wanted op (yielded ops a.tmps) = true) (x y : Operand) (ho : op.op = .binOp .or 127 x y 127) (p q : W32) (hx : a.eval x = vw p) (hy : a.eval y = vw q) : YieldsIf Tryz.prog ops S op (vw (p ||| q)) a := by
  refine .inl ⟨hw, fun w hS9 => ?_⟩
  have h1 := w_or p q
  unfold execOp
  simp only [ho, hx, hy]
  simp [go_sem, h1]
noncomputable def code22 : Code := ((Tryz.f89.body.bind (regionAt 22)).getD .skip)
set_option maxHeartbeats 1000000 in
theorem out22 (A : Act) (W : World) (gw gm M cm i q at9 x : Nat) (p : W32) (b : UInt8) (hgm : gm < gw) (hi : i < 16) (hq : q < 4) (hx9 : x = at9 + 4 * i + q) (hx : x < M) (hM : M ≤ 140737488355200) (sz : A.tmps.size = 288)
    (x9 : A.eval (.tmp 9) = .slice (some ⟨gw, 0, none⟩) 64 64) (x5 : A.eval (.tmp 5) = .slice (some ⟨gm, 0, none⟩) M cm) (x10 : A.eval (.tmp 10) = .int .i64 (i : Int)) (x8 : A.eval (.tmp 8) = .int .i64 (at9 : Int)) (x11 : A.eval (.tmp 11) = .int .i64 (q : Int))
    (hp : W.cell? ⟨gw, i, none⟩ = some (vw p)) (hf : W.frozen? ⟨gw, i, none⟩ = false) (hs : W.cell? ⟨gm, x, none⟩ = some (.int .u8 (b.toNat : Int))) :
    Code.wp Tryz.prog code22 (fun ex A' W' => ex = .normal ∧ (Keep A A' [71, 72, 73, 74, 75, 76, 77, 78, 79, 80, 81, 82, 83, 84, 85, 86, 87, 88, 89] ∧ W' = W.drew.setCell ⟨gw, i, none⟩ (vw (p <<< 8 ||| BitVec.ofNat 32 b.toNat)))) A W := by
  have hmx : Tryz.prog.follows .mixedOrders = true := by kernel_rfl
  conv => arg 2; whnf
  refine wp_region_held (S := fun w9 => w9.cell? ⟨gm, x, none⟩ = some (.int .u8 (b.toNat : Int))) hmx ?_
  show wpAnyH _ _ _ _ _ _ _ _ (World.drew W)
  refine wpAnyH_take (i := 0) (v := .slice (some ⟨gw, 0, none⟩) 64 64) rfl (by kernel_rfl) (by kernel_rfl) (by kernel_rfl) (fun _ _ _ h => nomatch h.1) (yields_move (by simp [Region.wanted]) (.tmp 9) rfl _ x9) hs ?_
  refine wpAnyH_take (i := 1) (v := .int .i64 (i : Int)) rfl (by kernel_rfl) (by kernel_rfl) (by kernel_rfl) (fun _ _ _ h => nomatch h.1) (yields_move (by simp [Region.wanted]) (.tmp 10) rfl _ ((ev_ne _ _ (by decide)).trans x10)) hs ?_
  refine wpAnyH_take (i := 2) (v := .slice (some ⟨gw, 0, none⟩) 64 64) rfl (by kernel_rfl) (by kernel_rfl) (by kernel_rfl) (fun _ _ _ h => nomatch h.1) (yields_move (by simp [Region.wanted]) (.tmp 9) rfl _ ((ev_ne _ _ (by decide)).trans ((ev_ne _ _ (by decide)).trans x9))) hs ?_
  refine wpAnyH_take (i := 3) (v := .int .i64 (i : Int)) rfl (by kernel_rfl) (by kernel_rfl) (by kernel_rfl) (fun _ _ _ h => nomatch h.1) (yields_move (by simp [Region.wanted]) (.tmp 10) rfl _ ((ev_ne _ _ (by decide)).trans ((ev_ne _ _ (by decide)).trans ((ev_ne _ _ (by decide)).trans x10)))) hs ?_
  refine wpAnyH_take (i := 4) (v := .pointer (some ⟨gw, i, none⟩)) rfl (by kernel_rfl) (by kernel_rfl) (by kernel_rfl) (fun _ _ _ h => nomatch h.1) (y_index (by simp [Region.wanted]) (.tmp 73) (.tmp 74) rfl gw 64 64 i ((ev_ne _ _ (by decide)).trans (ev_eq _ _ (by (try simp only [put_sz]); rw [sz]; decide))) (ev_eq _ _ (by (try simp only [put_sz]); rw [sz]; decide)) (by omega)) hs ?_
  refine wpAnyH_take (i := 7) (v := .slice (some ⟨gm, 0, none⟩) M cm) rfl (by kernel_rfl) (by kernel_rfl) (by kernel_rfl) (fun _ _ _ h => nomatch h.1) (yields_move (by simp [Region.wanted]) (.tmp 5) rfl _ ((ev_ne _ _ (by decide)).trans ((ev_ne _ _ (by decide)).trans ((ev_ne _ _ (by decide)).trans ((ev_ne _ _ (by decide)).trans ((ev_ne _ _ (by decide)).trans x5)))))) hs ?_
  refine wpAnyH_take (i := 8) (v := .int .i64 (at9 : Int)) rfl (by kernel_rfl) (by kernel_rfl) (by kernel_rfl) (fun _ _ _ h => nomatch h.1) (yields_move (by simp [Region.wanted]) (.tmp 8) rfl _ ((ev_ne _ _ (by decide)).trans ((ev_ne _ _ (by decide)).trans ((ev_ne _ _ (by decide)).trans ((ev_ne _ _ (by decide)).trans ((ev_ne _ _ (by decide)).trans ((ev_ne _ _ (by decide)).trans x8))))))) hs ?_
  refine wpAnyH_take (i := 9) (v := .int .i64 (i : Int)) rfl (by kernel_rfl) (by kernel_rfl) (by kernel_rfl) (fun _ _ _ h => nomatch h.1) (yields_move (by simp [Region.wanted]) (.tmp 10) rfl _ ((ev_ne _ _ (by decide)).trans ((ev_ne _ _ (by decide)).trans ((ev_ne _ _ (by decide)).trans ((ev_ne _ _ (by decide)).trans ((ev_ne _ _ (by decide)).trans ((ev_ne _ _ (by decide)).trans ((ev_ne _ _ (by decide)).trans x10)))))))) hs ?_
  refine wpAnyH_take (i := 10) (v := .int .i64 (4 * (i : Int))) rfl (by kernel_rfl) (by kernel_rfl) (by kernel_rfl) (fun _ _ _ h => nomatch h.1) (y_muli (by simp [Region.wanted]) (.const (.int .i64 4)) (.tmp 80) rfl 4 (i : Int) _ rfl (ev_eq _ _ (by (try simp only [put_sz]); rw [sz]; decide)) (by rw [IntKind.wrap_i64]; omega)) hs ?_
  refine wpAnyH_take (i := 11) (v := .int .i64 ((at9 : Int) + 4 * (i : Int))) rfl (by kernel_rfl) (by kernel_rfl) (by kernel_rfl) (fun _ _ _ h => nomatch h.1) (y_addi (by simp [Region.wanted]) (.tmp 79) (.tmp 81) rfl (at9 : Int) (4 * (i : Int)) _ ((ev_ne _ _ (by decide)).trans ((ev_ne _ _ (by decide)).trans (ev_eq _ _ (by (try simp only [put_sz]); rw [sz]; decide)))) (ev_eq _ _ (by (try simp only [put_sz]); rw [sz]; decide)) (by rw [IntKind.wrap_i64]; omega)) hs ?_
  refine wpAnyH_take (i := 12) (v := .int .i64 (q : Int)) rfl (by kernel_rfl) (by kernel_rfl) (by kernel_rfl) (fun _ _ _ h => nomatch h.1) (yields_move (by simp [Region.wanted]) (.tmp 11) rfl _ ((ev_ne _ _ (by decide)).trans ((ev_ne _ _ (by decide)).trans ((ev_ne _ _ (by decide)).trans ((ev_ne _ _ (by decide)).trans ((ev_ne _ _ (by decide)).trans ((ev_ne _ _ (by decide)).trans ((ev_ne _ _ (by decide)).trans ((ev_ne _ _ (by decide)).trans ((ev_ne _ _ (by decide)).trans ((ev_ne _ _ (by decide)).trans x11))))))))))) hs ?_
  refine wpAnyH_take (i := 13) (v := .int .i64 (x : Int)) rfl (by kernel_rfl) (by kernel_rfl) (by kernel_rfl) (fun _ _ _ h => nomatch h.1) (y_addi (by simp [Region.wanted]) (.tmp 82) (.tmp 83) rfl ((at9 : Int) + 4 * (i : Int)) (q : Int) _ ((ev_ne _ _ (by decide)).trans (ev_eq _ _ (by (try simp only [put_sz]); rw [sz]; decide))) (ev_eq _ _ (by (try simp only [put_sz]); rw [sz]; decide)) (by rw [IntKind.wrap_i64]; omega)) hs ?_
  refine wpAnyH_take (i := 14) (v := .pointer (some ⟨gm, x, none⟩)) rfl (by kernel_rfl) (by kernel_rfl) (by kernel_rfl) (fun _ _ _ h => nomatch h.1) (y_indexB (by simp [Region.wanted]) (.tmp 78) (.tmp 84) rfl gm M cm x ((ev_ne _ _ (by decide)).trans ((ev_ne _ _ (by decide)).trans ((ev_ne _ _ (by decide)).trans ((ev_ne _ _ (by decide)).trans ((ev_ne _ _ (by decide)).trans ((ev_ne _ _ (by decide)).trans (ev_eq _ _ (by (try simp only [put_sz]); rw [sz]; decide)))))))) (ev_eq _ _ (by (try simp only [put_sz]); rw [sz]; decide)) hx) hs ?_
  refine wpAnyH_take (i := 15) (v := .int .u8 (b.toNat : Int)) rfl (by kernel_rfl) (by kernel_rfl) (by kernel_rfl) (fun _ _ _ h => nomatch h.1) (yh_loadB (by simp [Region.wanted]) (.tmp 85) rfl gm x b (ev_eq _ _ (by (try simp only [put_sz]); rw [sz]; decide)) (fun w h => h)) hs ?_
  refine wpAnyH_take (i := 16) (v := vw (BitVec.ofNat 32 b.toNat)) rfl (by kernel_rfl) (by kernel_rfl) (by kernel_rfl) (fun _ _ _ h => nomatch h.1) (y_conv8 (by simp [Region.wanted]) (.tmp 86) rfl b (ev_eq _ _ (by (try simp only [put_sz]); rw [sz]; decide))) hs ?_
  refine wpAnyH_all (rs := [5]) (by kernel_rfl) (by simp) fun i9 hmem => ?_
  obtain rfl : i9 = 5 := by simpa using hmem
  refine wpOp_yields (S := fun x => x.cell? ⟨gw, i, none⟩ = some (vw p)) (v := vw p) rfl (by kernel_rfl) (y_load (by simp [Region.wanted]) (.tmp 75) rfl gw i p ((ev_ne _ _ (by decide)).trans ((ev_ne _ _ (by decide)).trans ((ev_ne _ _ (by decide)).trans ((ev_ne _ _ (by decide)).trans ((ev_ne _ _ (by decide)).trans ((ev_ne _ _ (by decide)).trans ((ev_ne _ _ (by decide)).trans ((ev_ne _ _ (by decide)).trans ((ev_ne _ _ (by decide)).trans ((ev_ne _ _ (by decide)).trans (ev_eq _ _ (by (try simp only [put_sz]); rw [sz]; decide)))))))))))) (fun w h => h)) hp ⟨hs, ?_⟩
  show wpAnyH _ _ _ _ _ _ _ ((((((((((((((((A.put (some 71) (.slice (some ⟨gw, 0, none⟩) 64 64)).put (some 72) (.int .i64 (i : Int))).put (some 73) (.slice (some ⟨gw, 0, none⟩) 64 64)).put (some 74) (.int .i64 (i : Int))).put (some 75) (.pointer (some ⟨gw, i, none⟩))).put (some 78) (.slice (some ⟨gm, 0, none⟩) M cm)).put (some 79) (.int .i64 (at9 : Int))).put (some 80) (.int .i64 (i : Int))).put (some 81) (.int .i64 (4 * (i : Int)))).put (some 82) (.int .i64 ((at9 : Int) + 4 * (i : Int)))).put (some 83) (.int .i64 (q : Int))).put (some 84) (.int .i64 (x : Int))).put (some 85) (.pointer (some ⟨gm, x, none⟩))).put (some 86) (.int .u8 (b.toNat : Int))).put (some 87) (vw (BitVec.ofNat 32 b.toNat))).put (some 76) (vw p)) _
  refine wpAnyH_take (i := 6) (v := vw (p <<< 8)) rfl (by kernel_rfl) (by kernel_rfl) (by kernel_rfl) (fun _ _ _ h => nomatch h.1) (y_shl8 (by simp [Region.wanted]) (.tmp 76) (.const (.int .u64 8)) rfl p (ev_eq _ _ (by (try simp only [put_sz]); rw [sz]; decide)) rfl) hs ?_
  refine wpAnyH_take (i := 17) (v := vw (p <<< 8 ||| BitVec.ofNat 32 b.toNat)) rfl (by kernel_rfl) (by kernel_rfl) (by kernel_rfl) (fun _ _ _ h => nomatch h.1) (y_or (by simp [Region.wanted]) (.tmp 77) (.tmp 87) rfl (p <<< 8) (BitVec.ofNat 32 b.toNat) (ev_eq _ _ (by (try simp only [put_sz]); rw [sz]; decide)) ((ev_ne _ _ (by decide)).trans ((ev_ne _ _ (by decide)).trans (ev_eq _ _ (by (try simp only [put_sz]); rw [sz]; decide))))) hs ?_
  refine wpAnyH_take (i := 18) (v := .pointer (some ⟨gw, i, none⟩)) rfl (by kernel_rfl) (by kernel_rfl) (by kernel_rfl) (fun _ _ _ h => nomatch h.1) (y_index (by simp [Region.wanted]) (.tmp 71) (.tmp 72) rfl gw 64 64 i ((ev_ne _ _ (by decide)).trans ((ev_ne _ _ (by decide)).trans ((ev_ne _ _ (by decide)).trans ((ev_ne _ _ (by decide)).trans ((ev_ne _ _ (by decide)).trans ((ev_ne _ _ (by decide)).trans ((ev_ne _ _ (by decide)).trans ((ev_ne _ _ (by decide)).trans ((ev_ne _ _ (by decide)).trans ((ev_ne _ _ (by decide)).trans ((ev_ne _ _ (by decide)).trans ((ev_ne _ _ (by decide)).trans ((ev_ne _ _ (by decide)).trans ((ev_ne _ _ (by decide)).trans ((ev_ne _ _ (by decide)).trans ((ev_ne _ _ (by decide)).trans ((ev_ne _ _ (by decide)).trans (ev_eq _ _ (by (try simp only [put_sz]); rw [sz]; decide))))))))))))))))))) ((ev_ne _ _ (by decide)).trans ((ev_ne _ _ (by decide)).trans ((ev_ne _ _ (by decide)).trans ((ev_ne _ _ (by decide)).trans ((ev_ne _ _ (by decide)).trans ((ev_ne _ _ (by decide)).trans ((ev_ne _ _ (by decide)).trans ((ev_ne _ _ (by decide)).trans ((ev_ne _ _ (by decide)).trans ((ev_ne _ _ (by decide)).trans ((ev_ne _ _ (by decide)).trans ((ev_ne _ _ (by decide)).trans ((ev_ne _ _ (by decide)).trans ((ev_ne _ _ (by decide)).trans ((ev_ne _ _ (by decide)).trans ((ev_ne _ _ (by decide)).trans (ev_eq _ _ (by (try simp only [put_sz]); rw [sz]; decide)))))))))))))))))) (by omega)) hs ?_
  refine wpAnyH_all (rs := [19]) (by kernel_rfl) (by simp) fun i9 hmem => ?_
  obtain rfl : i9 = 19 := by simpa using hmem
  refine wpOp_storeW rfl (by kernel_rfl) (.tmp 89) (.tmp 88) rfl gw i (p <<< 8 ||| BitVec.ofNat 32 b.toNat) _ (ev_eq _ _ (by (try simp only [put_sz]); rw [sz]; decide)) ((ev_ne _ _ (by decide)).trans (ev_eq _ _ (by (try simp only [put_sz]); rw [sz]; decide))) hp hf ⟨(World.cell?_setCell_other _ _ _ _ (by intro h; simp only [Addr.mk.injEq] at h; omega)).trans hs, wpAnyH_done (by kernel_rfl) ⟨rfl, ?_, rfl⟩ _⟩
  exact ((((((((((((((((((((Keep.refl A _).put 71 _ (by decide)).put 72 _ (by decide)).put 73 _ (by decide)).put 74 _ (by decide)).put 75 _ (by decide)).put 78 _ (by decide)).put 79 _ (by decide)).put 80 _ (by decide)).put 81 _ (by decide)).put 82 _ (by decide)).put 83 _ (by decide)).put 84 _ (by decide)).put 85 _ (by decide)).put 86 _ (by decide)).put 87 _ (by decide)).put 76 _ (by decide)).put 77 _ (by decide)).put 88 _ (by decide)).put 89 _ (by decide)).putn _
end Go.Proofs.YtdglmoikgmlaaaaGreatDoor

/- The words of a block: loops 4 and 5 of the reference's Sum, over a frame that is a letter. -/
namespace Go.Proofs.YtdglmoikgmlaaaaGreatDoor
open Go.RowKit
set_option linter.unusedVariables false
set_option maxRecDepth 100000
noncomputable def code20 : Code := ((Tryz.f89.body.bind (regionAt 20)).getD .skip)
theorem out20 (A : Act) (W : World) (r : Nat) (sz : A.tmps.size = 288) (x11 : A.eval (.tmp 11) = .int .i64 (r : Int)) :
    Code.wp Tryz.prog code20 (fun ex A' W' => ex = .normal ∧ ((Keep A A' [67, 68] ∧ A'.eval (.tmp 68) = .bool (decide ((r : Int) < 4))) ∧ W' = W)) A W := by
  conv => arg 2; whnf
  refine wp_region_list ?_
  refine wpList_yields rfl (.int .i64 (r : Int)) (yields_move (by simp [Region.wanted]) (.tmp 11) rfl _ x11) ?_
  refine wpList_yields rfl (.bool (decide ((r : Int) < 4))) (y_lss (by simp [Region.wanted]) (.tmp 67) (.const (.int .i64 4)) rfl (r : Int) 4 (ev_eq _ _ (by rw [sz]; decide)) rfl) ?_
  exact wpList_nil ⟨rfl, ⟨((Keep.refl A _).put 67 _ (by decide)).put 68 _ (by decide), ev_eq _ _ (by simp only [put_sz]; rw [sz]; decide)⟩, rfl⟩
noncomputable def code21 : Code := ((Tryz.f89.body.bind (regionAt 21)).getD .skip)
theorem out21 (A : Act) (W : World) (r : Nat) (hr : r < 64) (sz : A.tmps.size = 288) (x11 : A.eval (.tmp 11) = .int .i64 (r : Int)) :
    Code.wp Tryz.prog code21 (fun ex A' W' => ex = .normal ∧ ((Keep A A' [11, 69, 70] ∧ A'.eval (.tmp 11) = .int .i64 ((r + 1 : Nat) : Int)) ∧ W' = W)) A W := by
  conv => arg 2; whnf
  refine wp_region_list ?_
  refine wpList_yields rfl (.int .i64 (r : Int)) (yields_move (by simp [Region.wanted]) (.tmp 11) rfl _ x11) ?_
  refine wpList_yields rfl (.int .i64 ((r + 1 : Nat) : Int)) (y_addi (by simp [Region.wanted]) (.tmp 69) (.const (.int .i64 1)) rfl (r : Int) 1 _ (ev_eq _ _ (by rw [sz]; decide)) rfl (by rw [IntKind.wrap_i64]; omega)) ?_
  refine wpList_yields rfl (.int .i64 ((r + 1 : Nat) : Int)) (yh_assign (by simp [Region.wanted]) (.tmp 70) rfl _ (ev_eq _ _ (by simp only [put_sz]; rw [sz]; decide))) ?_
  exact wpList_nil ⟨rfl, ⟨(((Keep.refl A _).put 69 _ (by decide)).put 70 _ (by decide)).put 11 _ (by decide), ev_eq _ _ (by simp only [put_sz]; rw [sz]; decide)⟩, rfl⟩
noncomputable def code17 : Code := ((Tryz.f89.body.bind (regionAt 17)).getD .skip)
theorem out17 (A : Act) (W : World) (r : Nat) (sz : A.tmps.size = 288) (x10 : A.eval (.tmp 10) = .int .i64 (r : Int)) :
    Code.wp Tryz.prog code17 (fun ex A' W' => ex = .normal ∧ ((Keep A A' [63, 64] ∧ A'.eval (.tmp 64) = .bool (decide ((r : Int) < 16))) ∧ W' = W)) A W := by
  conv => arg 2; whnf
  refine wp_region_list ?_
  refine wpList_yields rfl (.int .i64 (r : Int)) (yields_move (by simp [Region.wanted]) (.tmp 10) rfl _ x10) ?_
  refine wpList_yields rfl (.bool (decide ((r : Int) < 16))) (y_lss (by simp [Region.wanted]) (.tmp 63) (.const (.int .i64 16)) rfl (r : Int) 16 (ev_eq _ _ (by rw [sz]; decide)) rfl) ?_
  exact wpList_nil ⟨rfl, ⟨((Keep.refl A _).put 63 _ (by decide)).put 64 _ (by decide), ev_eq _ _ (by simp only [put_sz]; rw [sz]; decide)⟩, rfl⟩
noncomputable def code18 : Code := ((Tryz.f89.body.bind (regionAt 18)).getD .skip)
theorem out18 (A : Act) (W : World) (r : Nat) (hr : r < 64) (sz : A.tmps.size = 288) (x10 : A.eval (.tmp 10) = .int .i64 (r : Int)) :
    Code.wp Tryz.prog code18 (fun ex A' W' => ex = .normal ∧ ((Keep A A' [10, 65, 66] ∧ A'.eval (.tmp 10) = .int .i64 ((r + 1 : Nat) : Int)) ∧ W' = W)) A W := by
  conv => arg 2; whnf
  refine wp_region_list ?_
  refine wpList_yields rfl (.int .i64 (r : Int)) (yields_move (by simp [Region.wanted]) (.tmp 10) rfl _ x10) ?_
  refine wpList_yields rfl (.int .i64 ((r + 1 : Nat) : Int)) (y_addi (by simp [Region.wanted]) (.tmp 65) (.const (.int .i64 1)) rfl (r : Int) 1 _ (ev_eq _ _ (by rw [sz]; decide)) rfl (by rw [IntKind.wrap_i64]; omega)) ?_
  refine wpList_yields rfl (.int .i64 ((r + 1 : Nat) : Int)) (yh_assign (by simp [Region.wanted]) (.tmp 66) rfl _ (ev_eq _ _ (by simp only [put_sz]; rw [sz]; decide))) ?_
  exact wpList_nil ⟨rfl, ⟨(((Keep.refl A _).put 65 _ (by decide)).put 66 _ (by decide)).put 10 _ (by decide), ev_eq _ _ (by simp only [put_sz]; rw [sz]; decide)⟩, rfl⟩
noncomputable def code19 : Code := ((Tryz.f89.body.bind (regionAt 19)).getD .skip)
theorem out19 (A : Act) (W : World) (sz : A.tmps.size = 288) :
    Code.wp Tryz.prog code19 (fun ex A' W' => ex = .normal ∧ ((Keep A A' [11] ∧ A'.eval (.tmp 11) = .int .i64 ((0 : Nat) : Int)) ∧ W' = W)) A W := by
  conv => arg 2; whnf
  refine wp_region_list ?_
  refine wpList_yields rfl (.int .i64 ((0 : Nat) : Int)) (yh_assign (by simp [Region.wanted]) (.const (.int .i64 0)) rfl _ rfl) ?_
  exact wpList_nil ⟨rfl, ⟨(Keep.refl A _).put 11 _ (by decide), ev_eq _ _ (by rw [sz]; decide)⟩, rfl⟩
abbrev L5 : List Nat := [11, 67, 68, 69, 70, 71, 72, 73, 74, 75, 76, 77, 78, 79, 80, 81, 82, 83, 84, 85, 86, 87, 88, 89]
abbrev L4 : List Nat := [10, 11, 63, 64, 65, 66, 67, 68, 69, 70, 71, 72, 73, 74, 75, 76, 77, 78, 79, 80, 81, 82, 83, 84, 85, 86, 87, 88, 89]
noncomputable def body5 : Code := ((Tryz.f89.body.bind (loopAt 22)).getD .skip)
noncomputable def body4 : Code := ((Tryz.f89.body.bind (loopAt 19)).getD .skip)
/-- what the inner loop keeps -/
structure I5 (N gm gw : Nat) (cur : Array Value) (V2 : World) (sH : S8) (bs : List UInt8) (i : Nat) (A0 A : Act) (W : World) (q : Nat) : Prop where
  sz : A.tmps.size = 288
  k : Keep A0 A L5
  le : q ≤ 4
  ix : A.eval (.tmp 11) = .int .i64 (q : Int)
  w : W.heap[gw]? = some (.cells (wvs (wordsZ bs (4 * i + q))) 127 (0, 0))
  bl : BL N gm cur V2 W sH
def mu5 (A : Act) (_ : World) : Nat := 4 - (intOf (A.eval (.tmp 11))).toNat
set_option maxHeartbeats 400000 in
theorem round5 {Q : Exit → Act → World → Prop} {N gm gw M cm at9 : Nat} {cur : Array Value} {V2 : World} {sH : S8} {bs : List UInt8} {A0 : Act} {i : Nat} (hi : i < 16) (x10 : A0.eval (.tmp 10) = .int .i64 (i : Int)) (x9 : A0.eval (.tmp 9) = .slice (some ⟨gw, 0, none⟩) 64 64) (x5 : A0.eval (.tmp 5) = .slice (some ⟨gm, 0, none⟩) M cm) (x8 : A0.eval (.tmp 8) = .int .i64 (at9 : Int)) (hgm : gm < gw) (hg : N + 1 + 1 < gw) (lbs : bs.length = 64) (hat : at9 + 64 ≤ M) (hM : M ≤ 140737488355200) (hmb : ∀ (W : World) (k : Nat) (h : k < bs.length), W.heap[gm]? = some (.cells cur 5 (0, 0)) → W.cell? ⟨gm, at9 + k, none⟩ = some (.int .u8 ((bs[k]'h).toNat : Int)))
    (hexit : ∀ A W, I5 N gm gw cur V2 sH bs i A0 A W 4 → Q (.exit 8) A W) (A : Act) (W : World) (q : Nat) (I : I5 N gm gw cur V2 sH bs i A0 A W q) :
    Code.wp Tryz.prog body5 (Exit.then (fun A' W' => (∃ q', I5 N gm gw cur V2 sH bs i A0 A' W' q') ∧ mu5 A' W' < mu5 A W) Q) A W := by
  conv => arg 2; whnf
  refine wp_seq ?_
  refine wp_seq ?_
  refine wp_split _ (out20 A W q I.sz I.ix) ?_
  rintro A1 W1 ⟨⟨k1, c1⟩, hW1⟩
  show Code.wp _ _ _ A1 W1
  have K1 : Keep A A1 L5 := k1.mono (by decide)
  have sz1 : A1.tmps.size = 288 := K1.sz.trans I.sz
  have y11 : A1.eval (.tmp 11) = .int .i64 (q : Int) := (k1.keep 11 (by decide)).trans I.ix
  by_cases hlt : q < 4
  · refine wp_cond_true (by rw [c1, decide_eq_true (by omega)]) ?_
    refine wp_skip ?_
    show Code.wp _ _ _ A1 W1
    refine wp_seq ?_
    refine wp_block ?_
    have y9 := (K1.keep 9 (by decide)).trans ((I.k.keep 9 (by decide)).trans x9)
    have y5 := (K1.keep 5 (by decide)).trans ((I.k.keep 5 (by decide)).trans x5)
    have y10 := (K1.keep 10 (by decide)).trans ((I.k.keep 10 (by decide)).trans x10)
    have y8 := (K1.keep 8 (by decide)).trans ((I.k.keep 8 (by decide)).trans x8)
    have hw : W1.heap[gw]? = some (.cells (wvs (wordsZ bs (4 * i + q))) 127 (0, 0)) := by rw [hW1]; exact I.w
    have hbl : BL N gm cur V2 W1 sH := by rw [hW1]; exact I.bl
    have k64 : 4 * i + q < bs.length := by omega
    have c2 := hmb W1 (4 * i + q) k64 hbl.m
    have c3 : W1.cell? ⟨gw, i, none⟩ = some (vw (wordAt bs (4 * i + q) i)) := by
      rw [cell_of_row _ _ _ _ _ _ hw, wvs, List.getElem?_toArray, List.getElem?_map, wordsZ_get bs (4 * i + q) i (by omega)]
      rfl
    have f1 := frozen_of_row _ _ i _ _ hw
    have Hst := wordsZ_step bs (4 * i + q) k64 (by omega)
    rw [show (4 * i + q) / 4 = i by omega] at Hst
    refine wp_split _ (out22 A1 W1 gw gm M cm i q at9 (at9 + (4 * i + q)) _ _ hgm hi hlt (by omega) (by omega) hM sz1 y9 y5 y10 y8 y11 c3 f1 c2) ?_
    rintro A2 W2 ⟨k2, hW2⟩
    show Code.wp _ _ _ A2 W2
    have K2 : Keep A1 A2 L5 := k2.mono (by decide)
    refine wp_split _ (out21 A2 W2 q (by omega) (K2.sz.trans sz1) ((k2.keep 11 (by decide)).trans y11)) ?_
    rintro A3 W3 ⟨⟨k3, c4⟩, hW3⟩
    show (∃ q', I5 N gm gw cur V2 sH bs i A0 A3 W3 q') ∧ mu5 A3 W3 < mu5 A W
    have K3 : Keep A2 A3 L5 := k3.mono (by decide)
    refine ⟨⟨q + 1, ⟨K3.sz.trans (K2.sz.trans sz1), I.k.trans (K1.trans (K2.trans K3)), by omega, c4, ?_, ?_⟩⟩, ?_⟩
    · rw [hW3, hW2]
      rw [heap_setCell_same _ _ _ _ _ _ (show W1.drew.heap[gw]? = _ from hw), wvs_set, Hst]
      rfl
    · rw [hW3, hW2]
      refine ⟨(heap_setCell_other _ _ _ _ (show N + 1 ≠ gw by omega)).trans hbl.h, (heap_setCell_other _ _ _ _ (show N + 1 + 1 ≠ gw by omega)).trans hbl.k, (heap_setCell_other _ _ _ _ (show gm ≠ gw by omega)).trans hbl.m, hbl.bel.drew.setCell (p := ⟨gw, i, none⟩) (show N + 1 ≤ gw by omega) _⟩
    · unfold mu5
      rw [c4, I.ix]
      simp only [intOf]
      omega
  · refine wp_cond_false (by rw [c1, decide_eq_false (by omega)]) ?_
    refine wp_exit ?_
    show Q (.exit 8) A1 W1
    have hr : q = 4 := by have := I.le; omega
    subst hr
    exact hexit A1 W1 ⟨sz1, I.k.trans K1, Nat.le_refl _, y11, by rw [hW1]; exact I.w, by rw [hW1]; exact I.bl⟩
theorem loop5 {Q : Exit → Act → World → Prop} {N gm gw M cm at9 : Nat} {cur : Array Value} {V2 : World} {sH : S8} {bs : List UInt8} {A0 : Act} {W0 : World} {i : Nat} (hi : i < 16) (x10 : A0.eval (.tmp 10) = .int .i64 (i : Int)) (x9 : A0.eval (.tmp 9) = .slice (some ⟨gw, 0, none⟩) 64 64) (x5 : A0.eval (.tmp 5) = .slice (some ⟨gm, 0, none⟩) M cm) (x8 : A0.eval (.tmp 8) = .int .i64 (at9 : Int)) (hgm : gm < gw) (hg : N + 1 + 1 < gw) (lbs : bs.length = 64) (hat : at9 + 64 ≤ M) (hM : M ≤ 140737488355200) (hmb : ∀ (W : World) (k : Nat) (h : k < bs.length), W.heap[gm]? = some (.cells cur 5 (0, 0)) → W.cell? ⟨gm, at9 + k, none⟩ = some (.int .u8 ((bs[k]'h).toNat : Int)))
    (start : I5 N gm gw cur V2 sH bs i A0 A0 W0 0) (hexit : ∀ A W, I5 N gm gw cur V2 sH bs i A0 A W 4 → Q (.exit 8) A W) : Code.wp Tryz.prog (Code.loop body5) Q A0 W0 :=
  wp_loop (fun A W => ∃ q, I5 N gm gw cur V2 sH bs i A0 A W q) mu5 ⟨0, start⟩ (fun A W ⟨q, h⟩ => round5 hi x10 x9 x5 x8 hgm hg lbs hat hM hmb hexit A W q h)
end Go.Proofs.YtdglmoikgmlaaaaGreatDoor

/- The words of a block: loop 4 of the reference's Sum, over a frame that is a letter. -/
namespace Go.Proofs.YtdglmoikgmlaaaaGreatDoor
open Go.RowKit
set_option linter.unusedVariables false
set_option maxRecDepth 100000
/-- what the loop keeps -/
structure I4 (N gm gw : Nat) (cur : Array Value) (V2 : World) (sH : S8) (bs : List UInt8) (A0 A : Act) (W : World) (i : Nat) : Prop where
  sz : A.tmps.size = 288
  k : Keep A0 A L4
  le : i ≤ 16
  ix : A.eval (.tmp 10) = .int .i64 (i : Int)
  w : W.heap[gw]? = some (.cells (wvs (wordsZ bs (4 * i))) 127 (0, 0))
  bl : BL N gm cur V2 W sH
def mu4 (A : Act) (_ : World) : Nat := 16 - (intOf (A.eval (.tmp 10))).toNat
set_option maxHeartbeats 400000 in
theorem round4 {Q : Exit → Act → World → Prop} {N gm gw M cm at9 : Nat} {cur : Array Value} {V2 : World} {sH : S8} {bs : List UInt8} {A0 : Act} (x9 : A0.eval (.tmp 9) = .slice (some ⟨gw, 0, none⟩) 64 64) (x5 : A0.eval (.tmp 5) = .slice (some ⟨gm, 0, none⟩) M cm) (x8 : A0.eval (.tmp 8) = .int .i64 (at9 : Int)) (hgm : gm < gw) (hg : N + 1 + 1 < gw) (lbs : bs.length = 64) (hat : at9 + 64 ≤ M) (hM : M ≤ 140737488355200) (hmb : ∀ (W : World) (k : Nat) (h : k < bs.length), W.heap[gm]? = some (.cells cur 5 (0, 0)) → W.cell? ⟨gm, at9 + k, none⟩ = some (.int .u8 ((bs[k]'h).toNat : Int)))
    (hexit : ∀ A W, I4 N gm gw cur V2 sH bs A0 A W 16 → Q (.exit 6) A W) (A : Act) (W : World) (i : Nat) (I : I4 N gm gw cur V2 sH bs A0 A W i) :
    Code.wp Tryz.prog body4 (Exit.then (fun A' W' => (∃ i', I4 N gm gw cur V2 sH bs A0 A' W' i') ∧ mu4 A' W' < mu4 A W) Q) A W := by
  conv => arg 2; whnf
  refine wp_seq ?_
  refine wp_seq ?_
  refine wp_split _ (out17 A W i I.sz I.ix) ?_
  rintro A1 W1 ⟨⟨k1, c1⟩, hW1⟩
  show Code.wp _ _ _ A1 W1
  have K1 : Keep A A1 L4 := k1.mono (by decide)
  have sz1 : A1.tmps.size = 288 := K1.sz.trans I.sz
  have y10 : A1.eval (.tmp 10) = .int .i64 (i : Int) := (k1.keep 10 (by decide)).trans I.ix
  by_cases hlt : i < 16
  · refine wp_cond_true (by rw [c1, decide_eq_true (by omega)]) ?_
    refine wp_skip ?_
    show Code.wp _ _ _ A1 W1
    refine wp_seq ?_
    refine wp_block ?_
    refine wp_seq ?_
    refine wp_split _ (out19 A1 W1 sz1) ?_
    rintro A2 W2 ⟨⟨k2, c2⟩, hW2⟩
    show Code.wp _ _ _ A2 W2
    have K2 : Keep A1 A2 L4 := k2.mono (by decide)
    have y9 := (K2.keep 9 (by decide)).trans ((K1.keep 9 (by decide)).trans ((I.k.keep 9 (by decide)).trans x9))
    have y5 := (K2.keep 5 (by decide)).trans ((K1.keep 5 (by decide)).trans ((I.k.keep 5 (by decide)).trans x5))
    have y8 := (K2.keep 8 (by decide)).trans ((K1.keep 8 (by decide)).trans ((I.k.keep 8 (by decide)).trans x8))
    have z10 := (k2.keep 10 (by decide)).trans y10
    refine wp_block ?_
    refine loop5 hlt z10 y9 y5 y8 hgm hg lbs hat hM hmb ⟨K2.sz.trans sz1, Keep.refl _ _, Nat.zero_le _, c2, by rw [hW2, hW1]; exact I.w, by rw [hW2, hW1]; exact I.bl⟩ ?_
    intro A3 W3 I3
    show Code.wp _ _ _ A3 W3
    have K3 : Keep A2 A3 L4 := I3.k.mono (by decide)
    refine wp_split _ (out18 A3 W3 i (by omega) I3.sz ((I3.k.keep 10 (by decide)).trans z10)) ?_
    rintro A4 W4 ⟨⟨k4, c4⟩, hW4⟩
    show (∃ i', I4 N gm gw cur V2 sH bs A0 A4 W4 i') ∧ mu4 A4 W4 < mu4 A W
    have K4 : Keep A3 A4 L4 := k4.mono (by decide)
    refine ⟨⟨i + 1, ⟨K4.sz.trans I3.sz, I.k.trans (K1.trans (K2.trans (K3.trans K4))), by omega, c4, by rw [hW4]; exact I3.w, by rw [hW4]; exact I3.bl⟩⟩, ?_⟩
    unfold mu4
    rw [c4, I.ix]
    simp only [intOf]
    omega
  · refine wp_cond_false (by rw [c1, decide_eq_false (by omega)]) ?_
    refine wp_exit ?_
    show Q (.exit 6) A1 W1
    have hr : i = 16 := by have := I.le; omega
    subst hr
    exact hexit A1 W1 ⟨sz1, I.k.trans K1, Nat.le_refl _, y10, by rw [hW1]; exact I.w, by rw [hW1]; exact I.bl⟩
theorem loop4 {Q : Exit → Act → World → Prop} {N gm gw M cm at9 : Nat} {cur : Array Value} {V2 : World} {sH : S8} {bs : List UInt8} {A0 : Act} {W0 : World} (x9 : A0.eval (.tmp 9) = .slice (some ⟨gw, 0, none⟩) 64 64) (x5 : A0.eval (.tmp 5) = .slice (some ⟨gm, 0, none⟩) M cm) (x8 : A0.eval (.tmp 8) = .int .i64 (at9 : Int)) (hgm : gm < gw) (hg : N + 1 + 1 < gw) (lbs : bs.length = 64) (hat : at9 + 64 ≤ M) (hM : M ≤ 140737488355200) (hmb : ∀ (W : World) (k : Nat) (h : k < bs.length), W.heap[gm]? = some (.cells cur 5 (0, 0)) → W.cell? ⟨gm, at9 + k, none⟩ = some (.int .u8 ((bs[k]'h).toNat : Int)))
    (start : I4 N gm gw cur V2 sH bs A0 A0 W0 0) (hexit : ∀ A W, I4 N gm gw cur V2 sH bs A0 A W 16 → Q (.exit 6) A W) : Code.wp Tryz.prog (Code.loop body4) Q A0 W0 :=
  wp_loop (fun A W => ∃ i, I4 N gm gw cur V2 sH bs A0 A W i) mu4 ⟨0, start⟩ (fun A W ⟨i, h⟩ => round4 x9 x5 x8 hgm hg lbs hat hM hmb hexit A W i h)
end Go.Proofs.YtdglmoikgmlaaaaGreatDoor
