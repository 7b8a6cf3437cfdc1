/- The words of a block (loops 4 and 5 of the reference's Sum): the region, over a frame that is a letter. -/
import Derived.Test.YtfiaefagnkmpoaaDoorHRefM6
namespace Go.Proofs.YtfiaefagnkmpoaaDoor
open Go.RowKit
set_option linter.unusedVariables false
set_option maxRecDepth 100000
theorem w_shl8 (p : W32) : ((p.toNat : Int) * 256) % 4294967296 = ((p <<< 8).toNat : Int) := by
  rw [BitVec.toNat_shiftLeft, Nat.shiftLeft_eq]
  omega
theorem w_conv8 (b : UInt8) : ((BitVec.ofNat 32 b.toNat).toNat : Int) = (b.toNat : Int) := by
  have := b.toNat_lt
  rw [BitVec.toNat_ofNat]
  omega
theorem y_muli {ops : Array Oper} {S : World → Prop} {op : Oper} {a : Act} (hw : Region.wanted op (yielded ops a.tmps) = true) (x y : Operand) (ho : op.op = .binOp .mul 3 x y 3) (p q z : Int) (hx : a.eval x = .int .i64 p) (hy : a.eval y = .int .i64 q) (hz : IntKind.i64.wrap (p * q) = z) : YieldsIf Tryd.prog ops S op (.int .i64 z) a := by
  refine .inl ⟨hw, fun w hS9 => ?_⟩
  unfold execOp
  simp only [ho, hx, hy]
  simp [go_sem, hz]
theorem y_indexB {ops : Array Oper} {S : World → Prop} {op : Oper} {a : Act} (hw : Region.wanted op (yielded ops a.tmps) = true) (x y : Operand) (ho : op.op = .indexAddr 22 x y) (g n c k : Nat) (hx : a.eval x = .slice (some ⟨g, 0, none⟩) n c) (hy : a.eval y = .int .i64 (k : Int)) (hk : k < n) : YieldsIf Tryd.prog ops S op (.pointer (some ⟨g, k, none⟩)) a := by
  refine .inl ⟨hw, fun w hS9 => ?_⟩
  have h1 : (k : Int) < (n : Int) := by omega
  have h0 : (0 : Int) ≤ (k : Int) := by omega
  unfold execOp
  simp only [ho, hx, hy]
  simp [go_sem, h0, h1]
theorem yh_loadB {ops : Array Oper} {S : World → Prop} {op : Oper} {a : Act} (hw : Region.wanted op (yielded ops a.tmps) = true) (x : Operand) (ho : op.op = .load 5 x) (g k : Nat) (b : UInt8) (hx : a.eval x = .pointer (some ⟨g, k, none⟩)) (hS : ∀ w, S w → w.cell? ⟨g, k, none⟩ = some (.int .u8 (b.toNat : Int))) : YieldsIf Tryd.prog ops S op (.int .u8 (b.toNat : Int)) a := by
  refine .inl ⟨hw, fun w hS9 => ?_⟩
  have h1 := hS w hS9
  unfold execOp
  simp only [ho, hx]
  simp [go_sem, h1]
theorem y_conv8 {ops : Array Oper} {S : World → Prop} {op : Oper} {a : Act} (hw : Region.wanted op (yielded ops a.tmps) = true) (x : Operand) (ho : op.op = .convert 5 53 x) (b : UInt8) (hx : a.eval x = .int .u8 (b.toNat : Int)) : YieldsIf Tryd.prog ops S op (vw (BitVec.ofNat 32 b.toNat)) a := by
  refine .inl ⟨hw, fun w hS9 => ?_⟩
  have h1 : IntKind.u32.wrap (b.toNat : Int) = ((BitVec.ofNat 32 b.toNat).toNat : Int) := by
    rw [w_conv8]; have := b.toNat_lt; rw [IntKind.wrap_u32]; omega
  unfold vw
  rw [← h1]
  unfold execOp
  simp only [ho, hx]
  simp [go_sem]
theorem y_shl8 {ops : Array Oper} {S : World → Prop} {op : Oper} {a : Act} (hw : Region.wanted op (yielded ops a.tmps) = true) (x y : Operand) (ho : op.op = .binOp .shl 53 x y 64) (p : W32) (hx : a.eval x = vw p) (hy : a.eval y = .int .u64 8) : YieldsIf Tryd.prog ops S op (vw (p <<< 8)) a := by
  refine .inl ⟨hw, fun w hS9 => ?_⟩
  have h1 : IntKind.u32.wrap ((p.toNat : Int) * 256) = ((p <<< 8).toNat : Int) := w_shl p 8
  obtain ⟨r, hr⟩ : ∃ r, r = p <<< 8 := ⟨_, rfl⟩
  rw [← hr] at h1 ⊢
  clear hr
  unfold execOp
  simp only [ho, hx, hy]
  simp [go_sem, h1]
theorem y_or {ops : Array Oper} {S : World → Prop} {op : Oper} {a : Act} (hw : Region.wanted op (yielded ops a.tmps) = true) (x y : Operand) (ho : op.op = .binOp .or 53 x y 53) (p q : W32) (hx : a.eval x = vw p) (hy : a.eval y = vw q) : YieldsIf Tryd.prog ops S op (vw (p ||| q)) a := by
  refine .inl ⟨hw, fun w hS9 => ?_⟩
  have h1 := w_or p q
  unfold execOp
  simp only [ho, hx, hy]
  simp [go_sem, h1]
noncomputable def code22 : Code := ((Tryd.f12.body.bind (regionAt 22)).getD .skip)
set_option maxHeartbeats 1000000 in
theorem out22 (A : Act) (W : World) (gw gm M cm i q at9 x : Nat) (p : W32) (b : UInt8) (hgm : gm < gw) (hi : i < 16) (hq : q < 4) (hx9 : x = at9 + 4 * i + q) (hx : x < M) (hM : M ≤ 140737488355200) (sz : A.tmps.size = 288)
    (x9 : A.eval (.tmp 9) = .slice (some ⟨gw, 0, none⟩) 64 64) (x5 : A.eval (.tmp 5) = .slice (some ⟨gm, 0, none⟩) M cm) (x10 : A.eval (.tmp 10) = .int .i64 (i : Int)) (x8 : A.eval (.tmp 8) = .int .i64 (at9 : Int)) (x11 : A.eval (.tmp 11) = .int .i64 (q : Int))
    (hp : W.cell? ⟨gw, i, none⟩ = some (vw p)) (hf : W.frozen? ⟨gw, i, none⟩ = false) (hs : W.cell? ⟨gm, x, none⟩ = some (.int .u8 (b.toNat : Int))) :
    Code.wp Tryd.prog code22 (fun ex A' W' => ex = .normal ∧ (Keep A A' [71, 72, 73, 74, 75, 76, 77, 78, 79, 80, 81, 82, 83, 84, 85, 86, 87, 88, 89] ∧ W' = W.drew.setCell ⟨gw, i, none⟩ (vw (p <<< 8 ||| BitVec.ofNat 32 b.toNat)))) A W := by
  have hmx : Tryd.prog.follows .mixedOrders = true := by kernel_rfl
  conv => arg 2; whnf
  refine wp_region_held (S := fun w9 => w9.cell? ⟨gm, x, none⟩ = some (.int .u8 (b.toNat : Int))) hmx ?_
  show wpAnyH _ _ _ _ _ _ _ _ (World.drew W)
  refine wpAnyH_take (i := 0) (v := .slice (some ⟨gw, 0, none⟩) 64 64) rfl (by kernel_rfl) (by kernel_rfl) (by kernel_rfl) (fun _ _ _ h => nomatch h.1) (yields_move (by simp [Region.wanted]) (.tmp 9) rfl _ x9) hs ?_
  refine wpAnyH_take (i := 1) (v := .int .i64 (i : Int)) rfl (by kernel_rfl) (by kernel_rfl) (by kernel_rfl) (fun _ _ _ h => nomatch h.1) (yields_move (by simp [Region.wanted]) (.tmp 10) rfl _ ((ev_ne _ _ (by decide)).trans x10)) hs ?_
  refine wpAnyH_take (i := 2) (v := .slice (some ⟨gw, 0, none⟩) 64 64) rfl (by kernel_rfl) (by kernel_rfl) (by kernel_rfl) (fun _ _ _ h => nomatch h.1) (yields_move (by simp [Region.wanted]) (.tmp 9) rfl _ ((ev_ne _ _ (by decide)).trans ((ev_ne _ _ (by decide)).trans x9))) hs ?_
  refine wpAnyH_take (i := 3) (v := .int .i64 (i : Int)) rfl (by kernel_rfl) (by kernel_rfl) (by kernel_rfl) (fun _ _ _ h => nomatch h.1) (yields_move (by simp [Region.wanted]) (.tmp 10) rfl _ ((ev_ne _ _ (by decide)).trans ((ev_ne _ _ (by decide)).trans ((ev_ne _ _ (by decide)).trans x10)))) hs ?_
  refine wpAnyH_take (i := 4) (v := .pointer (some ⟨gw, i, none⟩)) rfl (by kernel_rfl) (by kernel_rfl) (by kernel_rfl) (fun _ _ _ h => nomatch h.1) (y_index (by simp [Region.wanted]) (.tmp 73) (.tmp 74) rfl gw 64 64 i ((ev_ne _ _ (by decide)).trans (ev_eq _ _ (by (try simp only [put_sz]); rw [sz]; decide))) (ev_eq _ _ (by (try simp only [put_sz]); rw [sz]; decide)) (by omega)) hs ?_
  refine wpAnyH_take (i := 7) (v := .slice (some ⟨gm, 0, none⟩) M cm) rfl (by kernel_rfl) (by kernel_rfl) (by kernel_rfl) (fun _ _ _ h => nomatch h.1) (yields_move (by simp [Region.wanted]) (.tmp 5) rfl _ ((ev_ne _ _ (by decide)).trans ((ev_ne _ _ (by decide)).trans ((ev_ne _ _ (by decide)).trans ((ev_ne _ _ (by decide)).trans ((ev_ne _ _ (by decide)).trans x5)))))) hs ?_
  refine wpAnyH_take (i := 8) (v := .int .i64 (at9 : Int)) rfl (by kernel_rfl) (by kernel_rfl) (by kernel_rfl) (fun _ _ _ h => nomatch h.1) (yields_move (by simp [Region.wanted]) (.tmp 8) rfl _ ((ev_ne _ _ (by decide)).trans ((ev_ne _ _ (by decide)).trans ((ev_ne _ _ (by decide)).trans ((ev_ne _ _ (by decide)).trans ((ev_ne _ _ (by decide)).trans ((ev_ne _ _ (by decide)).trans x8))))))) hs ?_
  refine wpAnyH_take (i := 9) (v := .int .i64 (i : Int)) rfl (by kernel_rfl) (by kernel_rfl) (by kernel_rfl) (fun _ _ _ h => nomatch h.1) (yields_move (by simp [Region.wanted]) (.tmp 10) rfl _ ((ev_ne _ _ (by decide)).trans ((ev_ne _ _ (by decide)).trans ((ev_ne _ _ (by decide)).trans ((ev_ne _ _ (by decide)).trans ((ev_ne _ _ (by decide)).trans ((ev_ne _ _ (by decide)).trans ((ev_ne _ _ (by decide)).trans x10)))))))) hs ?_
  refine wpAnyH_take (i := 10) (v := .int .i64 (4 * (i : Int))) rfl (by kernel_rfl) (by kernel_rfl) (by kernel_rfl) (fun _ _ _ h => nomatch h.1) (y_muli (by simp [Region.wanted]) (.const (.int .i64 4)) (.tmp 80) rfl 4 (i : Int) _ rfl (ev_eq _ _ (by (try simp only [put_sz]); rw [sz]; decide)) (by rw [IntKind.wrap_i64]; omega)) hs ?_
  refine wpAnyH_take (i := 11) (v := .int .i64 ((at9 : Int) + 4 * (i : Int))) rfl (by kernel_rfl) (by kernel_rfl) (by kernel_rfl) (fun _ _ _ h => nomatch h.1) (y_addi (by simp [Region.wanted]) (.tmp 79) (.tmp 81) rfl (at9 : Int) (4 * (i : Int)) _ ((ev_ne _ _ (by decide)).trans ((ev_ne _ _ (by decide)).trans (ev_eq _ _ (by (try simp only [put_sz]); rw [sz]; decide)))) (ev_eq _ _ (by (try simp only [put_sz]); rw [sz]; decide)) (by rw [IntKind.wrap_i64]; omega)) hs ?_
  refine wpAnyH_take (i := 12) (v := .int .i64 (q : Int)) rfl (by kernel_rfl) (by kernel_rfl) (by kernel_rfl) (fun _ _ _ h => nomatch h.1) (yields_move (by simp [Region.wanted]) (.tmp 11) rfl _ ((ev_ne _ _ (by decide)).trans ((ev_ne _ _ (by decide)).trans ((ev_ne _ _ (by decide)).trans ((ev_ne _ _ (by decide)).trans ((ev_ne _ _ (by decide)).trans ((ev_ne _ _ (by decide)).trans ((ev_ne _ _ (by decide)).trans ((ev_ne _ _ (by decide)).trans ((ev_ne _ _ (by decide)).trans ((ev_ne _ _ (by decide)).trans x11))))))))))) hs ?_
  refine wpAnyH_take (i := 13) (v := .int .i64 (x : Int)) rfl (by kernel_rfl) (by kernel_rfl) (by kernel_rfl) (fun _ _ _ h => nomatch h.1) (y_addi (by simp [Region.wanted]) (.tmp 82) (.tmp 83) rfl ((at9 : Int) + 4 * (i : Int)) (q : Int) _ ((ev_ne _ _ (by decide)).trans (ev_eq _ _ (by (try simp only [put_sz]); rw [sz]; decide))) (ev_eq _ _ (by (try simp only [put_sz]); rw [sz]; decide)) (by rw [IntKind.wrap_i64]; omega)) hs ?_
  refine wpAnyH_take (i := 14) (v := .pointer (some ⟨gm, x, none⟩)) rfl (by kernel_rfl) (by kernel_rfl) (by kernel_rfl) (fun _ _ _ h => nomatch h.1) (y_indexB (by simp [Region.wanted]) (.tmp 78) (.tmp 84) rfl gm M cm x ((ev_ne _ _ (by decide)).trans ((ev_ne _ _ (by decide)).trans ((ev_ne _ _ (by decide)).trans ((ev_ne _ _ (by decide)).trans ((ev_ne _ _ (by decide)).trans ((ev_ne _ _ (by decide)).trans (ev_eq _ _ (by (try simp only [put_sz]); rw [sz]; decide)))))))) (ev_eq _ _ (by (try simp only [put_sz]); rw [sz]; decide)) hx) hs ?_
  refine wpAnyH_take (i := 15) (v := .int .u8 (b.toNat : Int)) rfl (by kernel_rfl) (by kernel_rfl) (by kernel_rfl) (fun _ _ _ h => nomatch h.1) (yh_loadB (by simp [Region.wanted]) (.tmp 85) rfl gm x b (ev_eq _ _ (by (try simp only [put_sz]); rw [sz]; decide)) (fun w h => h)) hs ?_
  refine wpAnyH_take (i := 16) (v := vw (BitVec.ofNat 32 b.toNat)) rfl (by kernel_rfl) (by kernel_rfl) (by kernel_rfl) (fun _ _ _ h => nomatch h.1) (y_conv8 (by simp [Region.wanted]) (.tmp 86) rfl b (ev_eq _ _ (by (try simp only [put_sz]); rw [sz]; decide))) hs ?_
  refine wpAnyH_all (rs := [5]) (by kernel_rfl) (by simp) fun i9 hmem => ?_
  obtain rfl : i9 = 5 := by simpa using hmem
  refine wpOp_yields (S := fun x => x.cell? ⟨gw, i, none⟩ = some (vw p)) (v := vw p) rfl (by kernel_rfl) (y_load (by simp [Region.wanted]) (.tmp 75) rfl gw i p ((ev_ne _ _ (by decide)).trans ((ev_ne _ _ (by decide)).trans ((ev_ne _ _ (by decide)).trans ((ev_ne _ _ (by decide)).trans ((ev_ne _ _ (by decide)).trans ((ev_ne _ _ (by decide)).trans ((ev_ne _ _ (by decide)).trans ((ev_ne _ _ (by decide)).trans ((ev_ne _ _ (by decide)).trans ((ev_ne _ _ (by decide)).trans (ev_eq _ _ (by (try simp only [put_sz]); rw [sz]; decide)))))))))))) (fun w h => h)) hp ⟨hs, ?_⟩
  show wpAnyH _ _ _ _ _ _ _ ((((((((((((((((A.put (some 71) (.slice (some ⟨gw, 0, none⟩) 64 64)).put (some 72) (.int .i64 (i : Int))).put (some 73) (.slice (some ⟨gw, 0, none⟩) 64 64)).put (some 74) (.int .i64 (i : Int))).put (some 75) (.pointer (some ⟨gw, i, none⟩))).put (some 78) (.slice (some ⟨gm, 0, none⟩) M cm)).put (some 79) (.int .i64 (at9 : Int))).put (some 80) (.int .i64 (i : Int))).put (some 81) (.int .i64 (4 * (i : Int)))).put (some 82) (.int .i64 ((at9 : Int) + 4 * (i : Int)))).put (some 83) (.int .i64 (q : Int))).put (some 84) (.int .i64 (x : Int))).put (some 85) (.pointer (some ⟨gm, x, none⟩))).put (some 86) (.int .u8 (b.toNat : Int))).put (some 87) (vw (BitVec.ofNat 32 b.toNat))).put (some 76) (vw p)) _
  refine wpAnyH_take (i := 6) (v := vw (p <<< 8)) rfl (by kernel_rfl) (by kernel_rfl) (by kernel_rfl) (fun _ _ _ h => nomatch h.1) (y_shl8 (by simp [Region.wanted]) (.tmp 76) (.const (.int .u64 8)) rfl p (ev_eq _ _ (by (try simp only [put_sz]); rw [sz]; decide)) rfl) hs ?_
  refine wpAnyH_take (i := 17) (v := vw (p <<< 8 ||| BitVec.ofNat 32 b.toNat)) rfl (by kernel_rfl) (by kernel_rfl) (by kernel_rfl) (fun _ _ _ h => nomatch h.1) (y_or (by simp [Region.wanted]) (.tmp 77) (.tmp 87) rfl (p <<< 8) (BitVec.ofNat 32 b.toNat) (ev_eq _ _ (by (try simp only [put_sz]); rw [sz]; decide)) ((ev_ne _ _ (by decide)).trans ((ev_ne _ _ (by decide)).trans (ev_eq _ _ (by (try simp only [put_sz]); rw [sz]; decide))))) hs ?_
  refine wpAnyH_take (i := 18) (v := .pointer (some ⟨gw, i, none⟩)) rfl (by kernel_rfl) (by kernel_rfl) (by kernel_rfl) (fun _ _ _ h => nomatch h.1) (y_index (by simp [Region.wanted]) (.tmp 71) (.tmp 72) rfl gw 64 64 i ((ev_ne _ _ (by decide)).trans ((ev_ne _ _ (by decide)).trans ((ev_ne _ _ (by decide)).trans ((ev_ne _ _ (by decide)).trans ((ev_ne _ _ (by decide)).trans ((ev_ne _ _ (by decide)).trans ((ev_ne _ _ (by decide)).trans ((ev_ne _ _ (by decide)).trans ((ev_ne _ _ (by decide)).trans ((ev_ne _ _ (by decide)).trans ((ev_ne _ _ (by decide)).trans ((ev_ne _ _ (by decide)).trans ((ev_ne _ _ (by decide)).trans ((ev_ne _ _ (by decide)).trans ((ev_ne _ _ (by decide)).trans ((ev_ne _ _ (by decide)).trans ((ev_ne _ _ (by decide)).trans (ev_eq _ _ (by (try simp only [put_sz]); rw [sz]; decide))))))))))))))))))) ((ev_ne _ _ (by decide)).trans ((ev_ne _ _ (by decide)).trans ((ev_ne _ _ (by decide)).trans ((ev_ne _ _ (by decide)).trans ((ev_ne _ _ (by decide)).trans ((ev_ne _ _ (by decide)).trans ((ev_ne _ _ (by decide)).trans ((ev_ne _ _ (by decide)).trans ((ev_ne _ _ (by decide)).trans ((ev_ne _ _ (by decide)).trans ((ev_ne _ _ (by decide)).trans ((ev_ne _ _ (by decide)).trans ((ev_ne _ _ (by decide)).trans ((ev_ne _ _ (by decide)).trans ((ev_ne _ _ (by decide)).trans ((ev_ne _ _ (by decide)).trans (ev_eq _ _ (by (try simp only [put_sz]); rw [sz]; decide)))))))))))))))))) (by omega)) hs ?_
  refine wpAnyH_all (rs := [19]) (by kernel_rfl) (by simp) fun i9 hmem => ?_
  obtain rfl : i9 = 19 := by simpa using hmem
  refine wpOp_storeW rfl (by kernel_rfl) (.tmp 89) (.tmp 88) rfl gw i (p <<< 8 ||| BitVec.ofNat 32 b.toNat) _ (ev_eq _ _ (by (try simp only [put_sz]); rw [sz]; decide)) ((ev_ne _ _ (by decide)).trans (ev_eq _ _ (by (try simp only [put_sz]); rw [sz]; decide))) hp hf ⟨(World.cell?_setCell_other _ _ _ _ (by intro h; simp only [Addr.mk.injEq] at h; omega)).trans hs, wpAnyH_done (by kernel_rfl) ⟨rfl, ?_, rfl⟩ _⟩
  exact ((((((((((((((((((((Keep.refl A _).put 71 _ (by decide)).put 72 _ (by decide)).put 73 _ (by decide)).put 74 _ (by decide)).put 75 _ (by decide)).put 78 _ (by decide)).put 79 _ (by decide)).put 80 _ (by decide)).put 81 _ (by decide)).put 82 _ (by decide)).put 83 _ (by decide)).put 84 _ (by decide)).put 85 _ (by decide)).put 86 _ (by decide)).put 87 _ (by decide)).put 76 _ (by decide)).put 77 _ (by decide)).put 88 _ (by decide)).put 89 _ (by decide)).putn _
end Go.Proofs.YtfiaefagnkmpoaaDoor
