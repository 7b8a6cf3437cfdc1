/- YthfmpebgmojcaaaDoorARVer + YthfmpebgmojcaaaDoorARPrune -/
import Derived.Test.YthfmpebgmojcaaaDoorTkH
import Derived.Test.YthfmpebgmojcaaaDoorARAnc
import Derived.Test.YthfmpebgmojcaaaDoorAVer
/- The reference's Verify, by a contract (a chain whose anchor is not behind its base). -/
namespace Go.Proofs.YthfmpebgmojcaaaDoor
open Go.RowKit
set_option linter.unusedVariables false
set_option maxRecDepth 20000
theorem hf_rat : ∀ (args : Array Value) (w : World), (callFunc 44 args).run Tryd.prog w = .ok (.enter 44 args) w := fun args w => by simp [go_sem]
section
variable {ops : Array Oper} {S : World → Prop} {op : Oper} {a : Act}
theorem y_lenE (hw : Region.wanted op (yielded ops a.tmps) = true) (t : Nat) (ho : op.op = .call { callee := .builtin .len, args := #[.tmp t], argTypes := #[63] }) (ht : op.type = 3) (ad : Option Addr) (n c : Nat) (hx : a.eval (.tmp t) = .slice ad n c) : YieldsIf Tryd.prog ops S op (.int .i64 (n : Int)) a := by
  refine .inl ⟨hw, fun w _ => ?_⟩
  have hx' : a.tmps[t]?.getD undef = .slice ad n c := by simpa [Act.eval] using hx
  unfold execOp
  simp only [ho, ht]
  simp [go_sem, hx']
theorem y_geqT (hw : Region.wanted op (yielded ops a.tmps) = true) (x y : Operand) (ho : op.op = .binOp .geq 3 x y 3) (p q : Nat) (hpq : q ≤ p) (hx : a.eval x = .int .i64 (p : Int)) (hy : a.eval y = .int .i64 (q : Int)) : YieldsIf Tryd.prog ops S op (.bool true) a := by
  refine .inl ⟨hw, fun w _ => ?_⟩
  have h1 : (q : Int) ≤ (p : Int) := by omega
  unfold execOp
  simp only [ho, hx, hy]
  simp [go_sem, h1]
theorem y_subN (hw : Region.wanted op (yielded ops a.tmps) = true) (x y : Operand) (ho : op.op = .binOp .sub 3 x y 3) (p q : Nat) (hpq : q ≤ p) (hp : p < 1152921504606846976) (hx : a.eval x = .int .i64 (p : Int)) (hy : a.eval y = .int .i64 (q : Int)) : YieldsIf Tryd.prog ops S op (.int .i64 ((p - q : Nat) : Int)) a := by
  refine .inl ⟨hw, fun w _ => ?_⟩
  have h1 : IntKind.i64.wrap ((p : Int) - (q : Int)) = ((p - q : Nat) : Int) := by rw [show ((p - q : Nat) : Int) = (p : Int) - (q : Int) by omega, IntKind.wrap_i64]; omega
  unfold execOp
  simp only [ho, hx, hy]
  simp [go_sem, h1]
theorem wpOp_own' {Q : Exit → Act → World → Prop} {i : Nat} {o : Oper} {K : Act → World → Prop} {w : World} (hi : ops[i]? = some o) (hw : Region.wanted o (yielded ops a.tmps) = true) (h : ∀ K' : Act → World → Prop, (∀ a w, K a w → K' a w) → o.wp Tryd.prog a w K' Q) : wpOp Tryd.prog ops Q i K a w :=
  wpOp_step hi fun K' hK' => by
    rw [if_pos hw]
    exact h K' hK'
end
noncomputable def codeRVer (n : Nat) : Code := ((Tryd.f12.body.bind (regionAt n)).getD .skip)
set_option maxHeartbeats 2000000 in
theorem rVerify_region3 {V0 W5 : World} {B g cap : Nat} {a0 : Option Addr} {c : Ch} {A : Act} (sz : A.tmps.size = 47) (e0 : A.eval (.tmp 0) = .pointer (some ⟨g, 0, none⟩))
    (hV0 : V0 = W5.drew) (hs0 : RAt V0 B g (.slice a0 c.ev.length cap) c) (ok : Lens c) (hev : EvOk c.ev) (hfew : c.ev.length ≤ 1000) :
    (codeRVer 3).wp Tryd.prog (fun x a V => x = .normal ∧ a = (((((((((((((A.put (some 7) (.pointer (some ⟨g, 0, none⟩))).put (some 8) (.pointer (some ⟨g, 0, none⟩))).put (some 9) (.pointer (some ⟨g, 0, none⟩))).put (some 10) (.pointer (some ⟨g, 99, none⟩))).put (some 11) (.slice a0 c.ev.length cap)).put (some 12) (.int .i64 (c.ev.length : Int))).put (some 14) (.pointer (some ⟨g, 0, none⟩))).put (some 15) (.pointer (some ⟨g, 0, none⟩))).put (some 16) (.pointer (some ⟨g, 67, none⟩))).put (some 17) (.agg (bvs c.hd))).put (some 13) (.agg (bvs (c.at c.ev.length)))).put (some 18) (.bool (!(c.at c.ev.length == c.hd)))).put (some 6) (.bool (!(c.at c.ev.length == c.hd)))) ∧ Below V0.heap.size V0 V) A W5 := by
  have hm : Tryd.prog.follows .mixedOrders = true := by kernel_rfl
  unfold codeRVer
  conv => arg 2; whnf
  refine wp_region_held (S := fun V => RAt V B g (.slice a0 c.ev.length cap) c) hm ?_
  rw [show ({ W5 with drawn := W5.drawn + 1 } : World) = V0 from hV0.symm]
  refine tkH (i := 0) (d := 7) (v := .pointer (some ⟨g, 0, none⟩)) rfl rfl (yields_move (by simp [Region.wanted]) (.tmp 0) rfl _ e0) hs0 ?_
  refine tkH (i := 1) (d := 8) (v := .pointer (some ⟨g, 0, none⟩)) rfl rfl (yields_move (by simp [Region.wanted]) (.tmp 0) rfl _ (evn e0)) hs0 ?_
  refine tkH (i := 2) (d := 9) (v := .pointer (some ⟨g, 0, none⟩)) rfl rfl (y_nil (by simp [Region.wanted]) (.tmp 8) rfl _ (ev_eq _ _ (by simp [put_sz, sz]))) hs0 ?_
  refine tkH (i := 3) (d := 10) (v := .pointer (some ⟨g, 99, none⟩)) rfl rfl (y_rf6 (by simp [Region.wanted]) (.tmp 9) rfl g (ev_eq _ _ (by simp [put_sz, sz]))) hs0 ?_
  refine tkH (i := 4) (d := 11) (v := .slice a0 c.ev.length cap) rfl rfl (y_loadV (by simp [Region.wanted]) (.tmp 10) rfl g 99 _ _ _ (ev_eq _ _ (by simp [put_sz, sz])) (fun V hV => hV.c99 ok)) hs0 ?_
  refine tkH (i := 5) (d := 12) (v := .int .i64 (c.ev.length : Int)) rfl rfl (y_lenE (by simp [Region.wanted]) 11 rfl rfl _ _ _ (ev_eq _ _ (by simp [put_sz, sz]))) hs0 ?_
  refine tkH (i := 7) (d := 14) (v := .pointer (some ⟨g, 0, none⟩)) rfl rfl (yields_move (by simp [Region.wanted]) (.tmp 0) rfl _ (evn (evn (evn (evn (evn (evn e0))))))) hs0 ?_
  refine tkH (i := 8) (d := 15) (v := .pointer (some ⟨g, 0, none⟩)) rfl rfl (y_nil (by simp [Region.wanted]) (.tmp 14) rfl _ (ev_eq _ _ (by simp [put_sz, sz]))) hs0 ?_
  refine tkH (i := 9) (d := 16) (v := .pointer (some ⟨g, 67, none⟩)) rfl rfl (y_rf5 (by simp [Region.wanted]) (.tmp 15) rfl g (ev_eq _ _ (by simp [put_sz, sz]))) hs0 ?_
  refine tkH (i := 10) (d := 17) (v := .agg (bvs c.hd)) rfl rfl (y_loadH (by simp [Region.wanted]) (.tmp 16) rfl g 67 c.hd ok.lh (ev_eq _ _ (by simp [put_sz, sz])) (fun V hV => hV.rh ok)) hs0 ?_
  refine wpAnyH_all (rs := [6]) (by kernel_rfl) (by simp) fun i1 hm1 => ?_
  obtain rfl : i1 = 6 := by simpa using hm1
  refine wpOp_own rfl rfl fun K1 hK1 => ?_
  refine wp_calls2 44 hf_rat (.tmp 7) (.tmp 12) _ rfl (.pointer (some ⟨g, 0, none⟩)) (.int .i64 (c.ev.length : Int)) (evn (evn (evn (evn (evn (evn (evn (evn (evn (ev_eq _ _ (by simp [sz]))))))))))) (evn (evn (evn (evn (ev_eq _ _ (by simp [put_sz, sz])))))) ?_
  refine (rAt_any hs0 ok hev hfew c.ev.length (Nat.le_refl _)).mono ?_
  rintro _ V1 ⟨rfl, hb1⟩
  have hs1 := hs0.below hb1
  refine ⟨_, rfl, hK1 _ _ ⟨hs1, ?_⟩⟩
  clear hK1 K1 hm1
  show wpAnyH _ _ _ _ _ _ _ (((((((((((A.put (some 7) (.pointer (some ⟨g, 0, none⟩))).put (some 8) (.pointer (some ⟨g, 0, none⟩))).put (some 9) (.pointer (some ⟨g, 0, none⟩))).put (some 10) (.pointer (some ⟨g, 99, none⟩))).put (some 11) (.slice a0 c.ev.length cap)).put (some 12) (.int .i64 (c.ev.length : Int))).put (some 14) (.pointer (some ⟨g, 0, none⟩))).put (some 15) (.pointer (some ⟨g, 0, none⟩))).put (some 16) (.pointer (some ⟨g, 67, none⟩))).put (some 17) (.agg (bvs c.hd))).put (some 13) (.agg (bvs (c.at c.ev.length)))) _
  refine tkH (i := 11) (d := 18) (v := .bool (!(c.at c.ev.length == c.hd))) rfl rfl (y_neqH (by simp [Region.wanted]) (.tmp 13) (.tmp 17) rfl _ _ (endH_length _ _ ok.lb) ok.lh (ev_eq _ _ (by simp [put_sz, sz])) (evn (ev_eq _ _ (by simp [put_sz, sz])))) hs1 ?_
  refine tkH (i := 12) (d := 6) (v := .bool (!(c.at c.ev.length == c.hd))) rfl rfl (y_assign (by simp [Region.wanted]) (.tmp 18) rfl _ (ev_eq _ _ (by simp [put_sz, sz]))) hs1 ?_
  exact wpAnyH_done (by kernel_rfl) ⟨rfl, rfl, hb1⟩ _
set_option maxHeartbeats 4000000 in
theorem rVerify_region5 {V0 W5 : World} {B g cap : Nat} {a0 : Option Addr} {c : Ch} {A : Act} (sz : A.tmps.size = 47) (e0 : A.eval (.tmp 0) = .pointer (some ⟨g, 0, none⟩))
    (hV0 : V0 = W5.drew) (hs0 : RAt V0 B g (.slice a0 c.ev.length cap) c) (ok : Lens c) (hev : EvOk c.ev) (hfew : c.ev.length ≤ 1000) (hba : c.bn ≤ c.an) (hsm : c.an < 1152921504606846976) (hle : c.an - c.bn ≤ c.ev.length) :
    (codeRVer 5).wp Tryd.prog (fun x a V => x = .normal ∧ a = ((((((((((((((((((((((((((((A.put (some 20) (.pointer (some ⟨g, 0, none⟩))).put (some 21) (.pointer (some ⟨g, 0, none⟩))).put (some 22) (.pointer (some ⟨g, 1, none⟩))).put (some 23) (.int .i64 (c.an : Int))).put (some 24) (.pointer (some ⟨g, 0, none⟩))).put (some 25) (.pointer (some ⟨g, 0, none⟩))).put (some 26) (.pointer (some ⟨g, 0, none⟩))).put (some 27) (.int .i64 (c.bn : Int))).put (some 28) (.bool true)).put (some 29) (.bool true)).put (some 30) (.pointer (some ⟨g, 0, none⟩))).put (some 31) (.pointer (some ⟨g, 0, none⟩))).put (some 32) (.pointer (some ⟨g, 0, none⟩))).put (some 33) (.pointer (some ⟨g, 1, none⟩))).put (some 34) (.int .i64 (c.an : Int))).put (some 35) (.pointer (some ⟨g, 0, none⟩))).put (some 36) (.pointer (some ⟨g, 0, none⟩))).put (some 37) (.pointer (some ⟨g, 0, none⟩))).put (some 38) (.int .i64 (c.bn : Int))).put (some 39) (.int .i64 ((c.an - c.bn : Nat) : Int))).put (some 41) (.pointer (some ⟨g, 0, none⟩))).put (some 42) (.pointer (some ⟨g, 0, none⟩))).put (some 43) (.pointer (some ⟨g, 35, none⟩))).put (some 44) (.agg (bvs c.ah))).put (some 40) (.agg (bvs (c.at (c.an - c.bn))))).put (some 45) (.bool (!(c.at (c.an - c.bn) == c.ah)))).put (some 46) (.bool (!(c.at (c.an - c.bn) == c.ah)))).put (some 19) (.bool (!(c.at (c.an - c.bn) == c.ah)))) ∧ Below V0.heap.size V0 V) A W5 := by
  have hm : Tryd.prog.follows .mixedOrders = true := by kernel_rfl
  unfold codeRVer
  conv => arg 2; whnf
  refine wp_region_held (S := fun V => RAt V B g (.slice a0 c.ev.length cap) c) hm ?_
  rw [show ({ W5 with drawn := W5.drawn + 1 } : World) = V0 from hV0.symm]
  refine tkH (i := 0) (d := 20) (v := .pointer (some ⟨g, 0, none⟩)) rfl rfl (yields_move (by simp [Region.wanted]) (.tmp 0) rfl _ e0) hs0 ?_
  refine tkH (i := 1) (d := 21) (v := .pointer (some ⟨g, 0, none⟩)) rfl rfl (y_nil (by simp [Region.wanted]) (.tmp 20) rfl _ (ev_eq _ _ (by simp [sz]))) hs0 ?_
  refine tkH (i := 2) (d := 22) (v := .pointer (some ⟨g, 1, none⟩)) rfl rfl (y_rf1 (by simp [Region.wanted]) (.tmp 21) rfl g (ev_eq _ _ (by simp [put_sz, sz]))) hs0 ?_
  refine tkH (i := 3) (d := 23) (v := .int .i64 (c.an : Int)) rfl rfl (y_loadI (by simp [Region.wanted]) (.tmp 22) rfl g 1 _ (ev_eq _ _ (by simp [put_sz, sz])) (fun V hV => hV.c1)) hs0 ?_
  refine tkH (i := 4) (d := 24) (v := .pointer (some ⟨g, 0, none⟩)) rfl rfl (yields_move (by simp [Region.wanted]) (.tmp 0) rfl _ (evn (evn (evn (evn e0))))) hs0 ?_
  refine tkH (i := 5) (d := 25) (v := .pointer (some ⟨g, 0, none⟩)) rfl rfl (y_nil (by simp [Region.wanted]) (.tmp 24) rfl _ (ev_eq _ _ (by simp [put_sz, sz]))) hs0 ?_
  refine tkH (i := 6) (d := 26) (v := .pointer (some ⟨g, 0, none⟩)) rfl rfl (y_rf0 (by simp [Region.wanted]) (.tmp 25) rfl g (ev_eq _ _ (by simp [put_sz, sz]))) hs0 ?_
  refine tkH (i := 7) (d := 27) (v := .int .i64 (c.bn : Int)) rfl rfl (y_loadI (by simp [Region.wanted]) (.tmp 26) rfl g 0 _ (ev_eq _ _ (by simp [put_sz, sz])) (fun V hV => hV.c0)) hs0 ?_
  refine tkH (i := 8) (d := 28) (v := .bool true) rfl rfl (y_geqT (by simp [Region.wanted]) (.tmp 23) (.tmp 27) rfl _ _ hba (evn (evn (evn (evn (ev_eq _ _ (by simp [put_sz, sz])))))) (ev_eq _ _ (by simp [put_sz, sz]))) hs0 ?_
  refine tkH (i := 9) (d := 29) (v := .bool true) rfl rfl (yields_move (by simp [Region.wanted]) (.tmp 28) rfl _ (ev_eq _ _ (by simp [put_sz, sz]))) hs0 ?_
  obtain ⟨A2, hA2⟩ : ∃ A2, A2 = ((((((((((A.put (some 20) (.pointer (some ⟨g, 0, none⟩))).put (some 21) (.pointer (some ⟨g, 0, none⟩))).put (some 22) (.pointer (some ⟨g, 1, none⟩))).put (some 23) (.int .i64 (c.an : Int))).put (some 24) (.pointer (some ⟨g, 0, none⟩))).put (some 25) (.pointer (some ⟨g, 0, none⟩))).put (some 26) (.pointer (some ⟨g, 0, none⟩))).put (some 27) (.int .i64 (c.bn : Int))).put (some 28) (.bool true)).put (some 29) (.bool true)) := ⟨_, rfl⟩
  have szA2 : A2.tmps.size = 47 := by rw [hA2]; simp [put_sz, sz]
  have eA20 : A2.eval (.tmp 0) = .pointer (some ⟨g, 0, none⟩) := by rw [hA2]; exact (evn (evn (evn (evn (evn (evn (evn (evn (evn (evn e0))))))))))
  have eA229 : A2.eval (.tmp 29) = .bool true := by rw [hA2]; exact (ev_eq _ _ (by simp [put_sz, sz]))
  rw [← hA2]
  refine tkH (i := 10) (d := 30) (v := .pointer (some ⟨g, 0, none⟩)) rfl rfl (yields_move (wanted_g (i := 9) (d := 29) rfl rfl (by simp [szA2]) eA229) (.tmp 0) rfl _ eA20) hs0 ?_
  refine tkH (i := 11) (d := 31) (v := .pointer (some ⟨g, 0, none⟩)) rfl rfl (yields_move (wanted_g (i := 9) (d := 29) rfl rfl (by simp [put_sz, szA2]) (evn eA229)) (.tmp 0) rfl _ (evn eA20)) hs0 ?_
  refine tkH (i := 12) (d := 32) (v := .pointer (some ⟨g, 0, none⟩)) rfl rfl (y_nil (wanted_g (i := 9) (d := 29) rfl rfl (by simp [put_sz, szA2]) (evn (evn eA229))) (.tmp 31) rfl _ (ev_eq _ _ (by simp [put_sz, szA2]))) hs0 ?_
  refine tkH (i := 13) (d := 33) (v := .pointer (some ⟨g, 1, none⟩)) rfl rfl (y_rf1 (wanted_g (i := 9) (d := 29) rfl rfl (by simp [put_sz, szA2]) (evn (evn (evn eA229)))) (.tmp 32) rfl g (ev_eq _ _ (by simp [put_sz, szA2]))) hs0 ?_
  refine tkH (i := 14) (d := 34) (v := .int .i64 (c.an : Int)) rfl rfl (y_loadI (wanted_g (i := 9) (d := 29) rfl rfl (by simp [put_sz, szA2]) (evn (evn (evn (evn eA229))))) (.tmp 33) rfl g 1 _ (ev_eq _ _ (by simp [put_sz, szA2])) (fun V hV => hV.c1)) hs0 ?_
  refine tkH (i := 15) (d := 35) (v := .pointer (some ⟨g, 0, none⟩)) rfl rfl (yields_move (wanted_g (i := 9) (d := 29) rfl rfl (by simp [put_sz, szA2]) (evn (evn (evn (evn (evn eA229)))))) (.tmp 0) rfl _ (evn (evn (evn (evn (evn eA20)))))) hs0 ?_
  refine tkH (i := 16) (d := 36) (v := .pointer (some ⟨g, 0, none⟩)) rfl rfl (y_nil (wanted_g (i := 9) (d := 29) rfl rfl (by simp [put_sz, szA2]) (evn (evn (evn (evn (evn (evn eA229))))))) (.tmp 35) rfl _ (ev_eq _ _ (by simp [put_sz, szA2]))) hs0 ?_
  refine tkH (i := 17) (d := 37) (v := .pointer (some ⟨g, 0, none⟩)) rfl rfl (y_rf0 (wanted_g (i := 9) (d := 29) rfl rfl (by simp [put_sz, szA2]) (evn (evn (evn (evn (evn (evn (evn eA229)))))))) (.tmp 36) rfl g (ev_eq _ _ (by simp [put_sz, szA2]))) hs0 ?_
  refine tkH (i := 18) (d := 38) (v := .int .i64 (c.bn : Int)) rfl rfl (y_loadI (wanted_g (i := 9) (d := 29) rfl rfl (by simp [put_sz, szA2]) (evn (evn (evn (evn (evn (evn (evn (evn eA229))))))))) (.tmp 37) rfl g 0 _ (ev_eq _ _ (by simp [put_sz, szA2])) (fun V hV => hV.c0)) hs0 ?_
  refine tkH (i := 19) (d := 39) (v := .int .i64 ((c.an - c.bn : Nat) : Int)) rfl rfl (y_subN (wanted_g (i := 9) (d := 29) rfl rfl (by simp [put_sz, szA2]) (evn (evn (evn (evn (evn (evn (evn (evn (evn eA229)))))))))) (.tmp 34) (.tmp 38) rfl _ _ hba hsm (evn (evn (evn (evn (ev_eq _ _ (by simp [put_sz, szA2])))))) (ev_eq _ _ (by simp [put_sz, szA2]))) hs0 ?_
  refine tkH (i := 21) (d := 41) (v := .pointer (some ⟨g, 0, none⟩)) rfl rfl (yields_move (wanted_g (i := 9) (d := 29) rfl rfl (by simp [put_sz, szA2]) (evn (evn (evn (evn (evn (evn (evn (evn (evn (evn eA229))))))))))) (.tmp 0) rfl _ (evn (evn (evn (evn (evn (evn (evn (evn (evn (evn eA20))))))))))) hs0 ?_
  refine tkH (i := 22) (d := 42) (v := .pointer (some ⟨g, 0, none⟩)) rfl rfl (y_nil (wanted_g (i := 9) (d := 29) rfl rfl (by simp [put_sz, szA2]) (evn (evn (evn (evn (evn (evn (evn (evn (evn (evn (evn eA229)))))))))))) (.tmp 41) rfl _ (ev_eq _ _ (by simp [put_sz, szA2]))) hs0 ?_
  refine tkH (i := 23) (d := 43) (v := .pointer (some ⟨g, 35, none⟩)) rfl rfl (y_rf4 (wanted_g (i := 9) (d := 29) rfl rfl (by simp [put_sz, szA2]) (evn (evn (evn (evn (evn (evn (evn (evn (evn (evn (evn (evn eA229))))))))))))) (.tmp 42) rfl g (ev_eq _ _ (by simp [put_sz, szA2]))) hs0 ?_
  refine tkH (i := 24) (d := 44) (v := .agg (bvs c.ah)) rfl rfl (y_loadH (wanted_g (i := 9) (d := 29) rfl rfl (by simp [put_sz, szA2]) (evn (evn (evn (evn (evn (evn (evn (evn (evn (evn (evn (evn (evn eA229)))))))))))))) (.tmp 43) rfl g 35 c.ah ok.lan (ev_eq _ _ (by simp [put_sz, szA2])) (fun V hV => hV.ra ok)) hs0 ?_
  obtain ⟨A3, hA3⟩ : ∃ A3, A3 = ((((((((((((((A2.put (some 30) (.pointer (some ⟨g, 0, none⟩))).put (some 31) (.pointer (some ⟨g, 0, none⟩))).put (some 32) (.pointer (some ⟨g, 0, none⟩))).put (some 33) (.pointer (some ⟨g, 1, none⟩))).put (some 34) (.int .i64 (c.an : Int))).put (some 35) (.pointer (some ⟨g, 0, none⟩))).put (some 36) (.pointer (some ⟨g, 0, none⟩))).put (some 37) (.pointer (some ⟨g, 0, none⟩))).put (some 38) (.int .i64 (c.bn : Int))).put (some 39) (.int .i64 ((c.an - c.bn : Nat) : Int))).put (some 41) (.pointer (some ⟨g, 0, none⟩))).put (some 42) (.pointer (some ⟨g, 0, none⟩))).put (some 43) (.pointer (some ⟨g, 35, none⟩))).put (some 44) (.agg (bvs c.ah))) := ⟨_, rfl⟩
  have szA3 : A3.tmps.size = 47 := by rw [hA3]; simp [put_sz, szA2]
  have eA329 : A3.eval (.tmp 29) = .bool true := by rw [hA3]; exact (evn (evn (evn (evn (evn (evn (evn (evn (evn (evn (evn (evn (evn (evn eA229))))))))))))))
  have eA330 : A3.eval (.tmp 30) = .pointer (some ⟨g, 0, none⟩) := by rw [hA3]; exact (evn (evn (evn (evn (evn (evn (evn (evn (evn (evn (evn (evn (evn (ev_eq _ _ (by simp [szA2])))))))))))))))
  have eA339 : A3.eval (.tmp 39) = .int .i64 ((c.an - c.bn : Nat) : Int) := by rw [hA3]; exact (evn (evn (evn (evn (ev_eq _ _ (by simp [put_sz, szA2]))))))
  have eA344 : A3.eval (.tmp 44) = .agg (bvs c.ah) := by rw [hA3]; exact (ev_eq _ _ (by simp [put_sz, szA2]))
  rw [← hA3]
  refine wpAnyH_all (rs := [20]) (by kernel_rfl) (by simp) fun i1 hm1 => ?_
  obtain rfl : i1 = 20 := by simpa using hm1
  refine wpOp_own' rfl (wanted_g (i := 9) (d := 29) rfl rfl (by simp [szA3]) eA329) fun K1 hK1 => ?_
  refine wp_calls2 44 hf_rat (.tmp 30) (.tmp 39) _ rfl (.pointer (some ⟨g, 0, none⟩)) (.int .i64 ((c.an - c.bn : Nat) : Int)) eA330 eA339 ?_
  refine (rAt_any hs0 ok hev hfew (c.an - c.bn) hle).mono ?_
  rintro _ V1 ⟨rfl, hb1⟩
  have hs1 := hs0.below hb1
  refine ⟨_, rfl, hK1 _ _ ⟨hs1, ?_⟩⟩
  clear hK1 K1 hm1
  show wpAnyH _ _ _ _ _ _ _ (A3.put (some 40) (.agg (bvs (c.at (c.an - c.bn))))) _
  refine tkH (i := 25) (d := 45) (v := .bool (!(c.at (c.an - c.bn) == c.ah))) rfl rfl (y_neqH (wanted_g (i := 9) (d := 29) rfl rfl (by simp [put_sz, szA3]) (evn eA329)) (.tmp 40) (.tmp 44) rfl _ _ (endH_length _ _ ok.lb) ok.lan (ev_eq _ _ (by simp [szA3])) (evn eA344)) hs1 ?_
  refine tkH (i := 26) (d := 46) (v := .bool (!(c.at (c.an - c.bn) == c.ah))) rfl rfl (y_pickT (by simp [Region.wanted]) (.tmp 29) (.tmp 45) (.const (.bool false)) rfl _ (evn (evn eA329)) (ev_eq _ _ (by simp [put_sz, szA3]))) hs1 ?_
  refine tkH (i := 27) (d := 19) (v := .bool (!(c.at (c.an - c.bn) == c.ah))) rfl rfl (y_assign (by simp [Region.wanted]) (.tmp 46) rfl _ (ev_eq _ _ (by simp [put_sz, szA3]))) hs1 ?_
  exact wpAnyH_done (by kernel_rfl) ⟨rfl, by rw [hA3, hA2], hb1⟩ _
set_option maxHeartbeats 1000000 in
theorem rVerify_any {w : World} {B g : Nat} {v : Value} {c : Ch} (h : RAt w B g v c) (ok : ChOk c) (hev : EvOk c.ev) (hba : c.bn ≤ c.an) (hc : c.cnt < 1152921504606846976) :
    Calls Tryd.prog 12 #[.pointer (some ⟨g, 0, none⟩)] w fun e w' => e = .returned (.int .i64 (verE c)) ∧ Below w.heap.size w w' := by
  obtain ⟨a0, cap, rfl⟩ := h.val
  have H := hid h
  have OK := hid ok
  have HE := hid hev
  have h1 : c.an < 1152921504606846976 := by have := ok.anc; unfold Ch.cnt at hc; omega
  have h2 : c.an - c.bn ≤ c.ev.length := by have := ok.anc; omega
  have h3 : c.ev.length ≤ 1000 := by have := ok.few; omega
  clear h ok hev
  go_enter Tryd.func12, Tryd.ntmps12
  go_wp2_with fail
  obtain ⟨V0, hV0⟩ : ∃ V0, V0 = w.drew := ⟨_, rfl⟩
  have b0 : Below w.heap.size w V0 := by rw [hV0]; exact (Below.refl _ w).drew
  refine wp_act _ fun A hA => ?_
  have sz : A.tmps.size = 47 := by rw [hA]; rfl
  have e0 : A.eval (.tmp 0) = .pointer (some ⟨g, 0, none⟩) := by rw [hA]; rfl
  refine wp_split _ (rVerify_region3 sz e0 hV0 (H.out.below b0) OK.out.l HE.out h3) ?_
  rintro _ V1 ⟨rfl, b1⟩
  rw [hA]
  simp only [Act.put, List.setIfInBounds_toArray, List.set_cons_succ, List.set_cons_zero]
  clear sz e0 hA A hV0
  have B1 : Hid (Below w.heap.size w V1) := b0.trans (b1.mono b0.size)
  have HV : Hid (verE c = if (c.at c.ev.length == c.hd) = false then 15 else if (c.at (c.an - c.bn) == c.ah) = false then 15 else 0) := by
    show _ = _
    unfold verE
    by_cases q1 : c.at c.ev.length = c.hd
    · by_cases q2 : c.at (c.an - c.bn) = c.ah
      · simp [q1, q2]
      · simp [q1, q2, hba]
    · simp [q1]
  clear b0 b1
  by_cases q1 : (c.at c.ev.length == c.hd) = false
  · rw [if_pos q1] at HV
    rw [q1, Bool.not_false]
    clear q1
    go_wp2_with fail
    go_ret
    exact ⟨congrArg (fun x => Ending.returned (.int .i64 x)) HV.out.symm, B1.out⟩
  · rw [Bool.not_eq_false] at q1
    rw [q1, Bool.not_true]
    rw [if_neg (by rw [q1]; simp)] at HV
    clear q1
    go_wp2_with fail
    obtain ⟨V2, hV2⟩ : ∃ V2, V2 = V1.drew := ⟨_, rfl⟩
    have b2 : Below V1.heap.size V1 V2 := by rw [hV2]; exact (Below.refl _ V1).drew
    refine wp_act _ fun A hA => ?_
    have sz : A.tmps.size = 47 := by rw [hA]; rfl
    have e0 : A.eval (.tmp 0) = .pointer (some ⟨g, 0, none⟩) := by rw [hA]; rfl
    refine wp_split _ (rVerify_region5 sz e0 hV2 ((H.out.below B1.out).below b2) OK.out.l HE.out h3 hba h1 h2) ?_
    rintro _ V3 ⟨rfl, b3⟩
    rw [hA]
    simp only [Act.put, List.setIfInBounds_toArray, List.set_cons_succ, List.set_cons_zero]
    clear sz e0 hA A hV2
    have B3 : Hid (Below w.heap.size w V3) := Below.on' (Below.on' B1.out b2) b3
    clear b2 b3 B1
    by_cases q2 : (c.at (c.an - c.bn) == c.ah) = false
    · rw [if_pos q2] at HV
      rw [q2, Bool.not_false]
      clear q2
      go_wp2_with fail
      go_ret
      exact ⟨congrArg (fun x => Ending.returned (.int .i64 x)) HV.out.symm, B3.out⟩
    · rw [Bool.not_eq_false] at q2
      rw [q2, Bool.not_true]
      rw [if_neg (by rw [q2]; simp)] at HV
      clear q2
      go_wp2_with fail
      go_ret
      exact ⟨congrArg (fun x => Ending.returned (.int .i64 x)) HV.out.symm, B3.out⟩
end Go.Proofs.YthfmpebgmojcaaaDoor
/- The reference's Prune, by a contract. -/
namespace Go.Proofs.YthfmpebgmojcaaaDoor
open Go.RowKit
set_option linter.unusedVariables false
set_option maxRecDepth 20000
attribute [local go_sem ↓] loadH_fold storeH_fold
theorem storeH_mid {w : World} {g o : Nat} {l : List UInt8} (ht : w.there g o 32) (hl : l.length = 32) : (storeH (.pointer (some ⟨g, o, none⟩)) (.agg (bvs l))).run Tryd.prog w = .ok () (w.setCells g o (cellsOf l)) := by
  have := run_storeAt_mid (P := Tryd.prog) w g o 69 (bvs l) (by rw [bvs_size, hl]; exact ht) (size_hashs l hl) (bvs_one l)
  exact this
theorem app_evsG (w : World) {ops : Array Oper} {rest : List Oper} {o : Oper} {a : Act} {Q : Exit → Act → World → Prop} (hgd : o.guard = none) (s x : Operand)
    (ho : o.op = .call { callee := .builtin .append, args := #[s, x], argTypes := #[63, 63] }) (base : Nat) (v : Value) (hs : a.eval s = v)
    (hown : w.ownsRow base 55 4 v 0 []) (ad : Option Addr) (n c : Nat) (l : List Ev) (hn : n = l.length) (hx : a.eval x = .slice ad n c) (hr : (ad = none ∧ l = [] ∧ c = 0) ∨ ∃ p, ad = some p ∧ ∀ j u, (eCells l)[j]? = some u → w.cell? (p.add j) = some u) (hb : l.length ≤ 1000) (hbase : base ≤ w.heap.size)
    (h : ∀ v' w', w'.ownsRow base 55 4 v' l.length (eCells l) → Below base w w' → wpList Tryd.prog ops Q rest (a.put o.dst v') w') :
    wpList Tryd.prog ops Q (o :: rest) a w := by
  obtain ⟨i0, hi, hz0, hz1, hz2⟩ := info_parts Tryd.infoE
  rcases hr with ⟨rfl, rfl, rfl⟩ | ⟨p, rfl, hr⟩
  · subst hn
    refine wpList_append_own_none hgd s x 63 ho base 55 i0 4 Tryd.underlying63 hi v 0 [] hs hown hx ?_
    exact h v w hown (Below.refl _ _)
  · refine wpList_append_own w hgd s x 63 ho base 55 i0 (.agg #[.int .i64 0, .int .i64 0, .string ⟨#[]⟩, .string ⟨#[]⟩]) 4 48 Tryd.underlying63 hi hz0 hz1 hz2 rfl (by decide) v 0 [] hs hown p n c (eCells l) hx (by rw [eCells_length, hn]) hr (eCells_oneCell l) (by unfold maxLen; omega) (by omega) hbase ?_
    intro v' w' h1 h2 _
    rw [Nat.zero_add, List.nil_append, hn] at h1
    exact h v' w' h1 ((Below.refl _ _).grown h2 hbase (fun k hk => (hown.lt k hk).1))
theorem cut_cells {w : World} {B b n cap k : Nat} {l : List Ev} (h : w.ownsRow B 55 4 (.slice (some ⟨b, 0, none⟩) n cap) l.length (eCells l)) (hk : k ≤ l.length) : ∀ j u, (eCells (l.drop k))[j]? = some u → w.cell? ((cutA b cap k).add j) = some u := by
  intro j u hj
  have hj' : j < (l.length - k) * 4 := by
    have := (List.getElem?_eq_some_iff.1 hj).1
    rwa [eCells_length, List.length_drop] at this
  rcases h.2 with ⟨h0, _⟩ | ⟨b', cap', cur, hv, _, hg, hcap, _, _, ht⟩
  · cases h0
  · cases hv
    have hne : cap ≠ k := by omega
    unfold cutA
    rw [if_neg hne, addr_add, cell_of_row _ _ _ _ _ _ hg, ← Array.getElem?_toList]
    have h1 : (cur.toList.take (l.length * 4))[k * 4 + j]? = some u := by
      have e : eCells l = eCells (l.take k) ++ eCells (l.drop k) := by rw [← eCells_append, List.take_append_drop]
      rw [ht, e, List.getElem?_append_right (by rw [eCells_length, List.length_take]; omega), eCells_length, List.length_take, show k * 4 + j - min k l.length * 4 = j by omega]
      exact hj
    rw [List.getElem?_take_of_lt (by omega)] at h1
    exact h1
theorem own_monoB {w : World} {B B' e s n : Nat} {v : Value} {xs : List Value} (h : w.ownsRow B e s v n xs) (hB : B' ≤ B) : w.ownsRow B' e s v n xs := by
  refine ⟨h.1, ?_⟩
  rcases h.2 with h0 | ⟨k, cap, cur, rfl, hb, r⟩
  · exact .inl h0
  · exact .inr ⟨k, cap, cur, rfl, Nat.le_trans hB hb, r⟩
theorem own_val {w : World} {B e s n : Nat} {v : Value} {xs : List Value} (h : w.ownsRow B e s v n xs) : ∃ a cap, v = .slice a n cap := by
  rcases h.2 with ⟨rfl, h0⟩ | ⟨k, cap, cur, rfl, _⟩
  · exact ⟨none, 0, by rw [h0]⟩
  · exact ⟨_, cap, rfl⟩
theorem Out.of_belowB {w w' : World} {B : Nat} (h : Below B w w') (hB : B ≤ w.heap.size) : Out (fun j => B ≤ j) w w' := ⟨h.os, h.tape, h.output, h.size, fun k hk hp => h.block k (by omega)⟩
def RPruOk (w : World) (B g : Nat) (c : Ch) (k : Nat) (x : Ending) (w' : World) : Prop :=
  ∃ v', x = .returned (.tuple #[.int .i64 (k : Int), .int .i64 0]) ∧ RAt w' B g v' (pruC c k) ∧ Out (fun j => j = g) w w' ∧ ∀ j, v'.ownBlock = some j → w.heap.size ≤ j
set_option maxHeartbeats 2000000 in
theorem rPrune_ok {w : World} {B g : Nat} {v : Value} {c : Ch} (h : RAt w B g v c) (ok : ChOk c) (hev : EvOk c.ev) (hc : c.cnt < 1152921504606846976) (hB : B ≤ w.heap.size) (k : Nat) (hk : c.bn + k ≤ c.an) :
    Calls Tryd.prog 47 #[.pointer (some ⟨g, 0, none⟩), .int .i64 ((c.bn + k : Nat) : Int)] w (RPruOk w B g c k) := by
  have hkl : k ≤ c.ev.length := by have := ok.anc; omega
  have HL := hid (rAt_any h ok.l hev (by have := ok.few; omega) k hkl)
  have c0 := h.c0
  have c1 := h.c1
  have hat : (c.at k).length = 32 := Ch.at_length ok k
  have hN : ∃ N, N = c.bn + k := ⟨_, rfl⟩
  obtain ⟨N, hN⟩ := hN
  rw [← hN]
  obtain ⟨b, hb⟩ : ∃ b, b = c.bn := ⟨_, rfl⟩
  rw [← hb] at c0
  obtain ⟨an, han⟩ : ∃ an, an = c.an := ⟨_, rfl⟩
  rw [← han] at c1
  have hc' := hc
  unfold Ch.cnt at hc'
  have hNb : N < 1152921504606846976 := by omega
  have hbN : b ≤ N := by omega
  have d1 : ¬ (an : Int) < (N : Int) := by omega
  have d2 : ¬ (N : Int) < (b : Int) := by omega
  have d3 : decide ((an : Int) < (N : Int)) = false := by simpa using d1
  have d4 : decide ((N : Int) < (b : Int)) = false := by simpa using d2
  have Hd : Hid ((N : Int) - (b : Int) = (k : Int)) := by show _ = _; omega
  obtain ⟨a0, cap, rfl⟩ := h.val
  have Hat := hid hat
  have HH := hid h
  have OK := hid ok
  have Hk := hid hkl
  have HN := hid hN
  have Hb := hid hb
  have lens2 : Hid (Lens { c with bh := c.at k }) := ⟨hat, ok.lan, ok.lh⟩
  have hgl : Hid (g < w.heap.size) := h.lt
  have Hlt := hid h.lts
  have Hcase : (a0 = none ∧ cap = 0 ∧ c.ev = []) ∨ ∃ bb, a0 = some ⟨bb, 0, none⟩ ∧ c.ev.length ≤ cap := by
    rcases h.row.2 with ⟨h0, h1⟩ | ⟨j, cap', cur, hv, _, _, hcp, _⟩
    · injection h0 with e1 e2 e3
      exact .inl ⟨e1, e3, List.eq_nil_of_length_eq_zero e2⟩
    · cases hv
      exact .inr ⟨j, rfl, hcp⟩
  have Hfin : Hid (∀ (W3 w2 : World) (v' : Value), RAt W3 B g (.slice a0 c.ev.length cap) { c with bh := c.at k, bn := N } → Out (fun j => j = g) w W3 → w2.ownsRow w.heap.size 55 4 v' (c.ev.drop k).length (eCells (c.ev.drop k)) → Below w.heap.size W3 w2 →
      w2.cell? ⟨g, 99, none⟩ = some (.slice a0 c.ev.length cap) ∧ w2.frozen? ⟨g, 99, none⟩ = false ∧ RPruOk w B g c k (.returned (.tuple #[.int .i64 (k : Int), .int .i64 0])) (w2.setCell ⟨g, 99, none⟩ v')) := by
    intro W3 w2 v' H3 O3 hown hb2
    have H4 : RAt w2 B g (.slice a0 c.ev.length cap) { c with bh := c.at k, bn := N } := H3.keep (hb2.block g h.lt) (fun j hj => hb2.block j (h.lts j hj).2)
    have l4 : Lens { c with bh := c.at k, bn := N } := ⟨hat, ok.lan, ok.lh⟩
    refine ⟨H4.c99 l4, H4.fz 99, v', rfl, ?_, ?_, fun j hj => (hown.lt j hj).1⟩
    · have := H4.setV l4 v' (c.ev.drop k) (own_monoB hown hB) (fun j hj => by have := (hown.lt j hj).1; have := h.lt; omega)
      rw [show pruC c k = { c with bh := c.at k, bn := N, ev := c.ev.drop k } by rw [hN]; rfl]
      exact this
    · exact Out.setCell (O3.trans (Out.of_belowB hb2 O3.size) (fun i hi hp => absurd hp (by omega))) _ _ rfl
  clear h ok hat hkl hN hk hb han hc hc' hev
  rcases Hcase with ⟨rfl, rfl, hnil⟩ | ⟨bb, rfl, hcp⟩
  · have hk0 : k = 0 := by have := Hk.out; rw [hnil] at this; simpa using this
    subst hk0
    have l0 : c.ev.length = 0 := by rw [hnil]; rfl
    have hdr : Hid (c.ev.drop 0 = []) := by show _ = _; rw [hnil]; rfl
    rw [l0] at Hfin
    have e0 : (N : Int) - (b : Int) = 0 := Hd.out
    clear hnil
    go_enter Tryd.func47, Tryd.ntmps47
    go_wp2_with (first
      | (go_at_call 44; refine HL.out.mono ?_; rintro x w1 ⟨rfl, hb1⟩; have H1 := HH.out.below hb1; have hS6 := storeH_mid (l := c.at 0) (H1.there OK.out.l 3 32 (by omega)) Hat.out; have h2 := H1.setBh OK.out.l (c.at 0) Hat.out; have q0 := h2.c0; have qf := h2.fz 0; have h3 := h2.setBn N; have q99 := h3.c99 (c := { c with bh := c.at 0, bn := N }) ⟨lens2.out.lb, lens2.out.lan, lens2.out.lh⟩; rw [l0] at h3 q99; have f99 := h3.fz 99; have H3 := hid h3; have O1 := hid (Out.of_below (P := fun j => j = g) hb1); clear H1 h2 h3 hb1))
    go_ret2
    exact (Hfin.out _ _ (.slice none 0 0) H3.out (Out.setCell (P := fun j => j = g) (Out.setCells (P := fun j => j = g) g rfl _ _ _ O1.out) ⟨g, 0, none⟩ _ rfl) (by rw [hdr.out]; exact World.ownsRow_nil _ _ _ _) (Below.refl _ _)).2.2
  · obtain ⟨m, hm⟩ : ∃ m, c.ev.length = m + k := ⟨c.ev.length - k, by have := Hk.out; omega⟩
    have hcm : m + k ≤ cap := by omega
    have hdl : Hid (m = (c.ev.drop k).length) := by show _ = _; rw [List.length_drop]; omega
    have hfew : Hid ((c.ev.drop k).length ≤ 1000) := by show _ ≤ _; have := OK.out.few; rw [List.length_drop]; omega
    rw [hm] at Hfin
    obtain ⟨D, hD⟩ : ∃ D, D = c.ev.drop k := ⟨_, rfl⟩
    rw [← hD] at Hfin hdl hfew
    have HD := hid hD
    have Hm := hid hm
    have Hcm := hid hcm
    clear hm hcp hcm hD
    go_enter Tryd.func47, Tryd.ntmps47
    go_wp2_with (first
      | (go_at_call 44; rw [Hd.out]; refine HL.out.mono ?_; rintro x w1 ⟨rfl, hb1⟩; have H1 := HH.out.below hb1; have hS6 := storeH_mid (l := c.at k) (H1.there OK.out.l 3 32 (by omega)) Hat.out; have h2 := H1.setBh OK.out.l (c.at k) Hat.out; have q0 := h2.c0; have qf := h2.fz 0; have h3 := h2.setBn N; have q99 := h3.c99 (c := { c with bh := c.at k, bn := N }) ⟨lens2.out.lb, lens2.out.lan, lens2.out.lh⟩; rw [Hm.out] at q99; have H3 := hid h3; have O1 := hid (Out.of_below (P := fun j => j = g) hb1); clear H1 h2 h3 hb1)
      | (with_reducible show Go.wpList _ _ _ _ _ _; refine wpList_yields rfl (.slice (some (cutA bb cap k)) m (cap - k)) (y_cutK (by simp [Region.wanted]) (.tmp 45) (.tmp 46) rfl bb m k cap Hcm.out rfl rfl) ?_)
      | (at_builtin; refine app_evsG _ rfl (.tmp 41) (.tmp 47) rfl w.heap.size _ rfl (World.ownsRow_nil _ _ _ _) (some (cutA bb cap k)) m (cap - k) D hdl.out rfl (.inr ⟨_, rfl, by rw [HD.out]; exact cut_cells (B := B) (n := c.ev.length) H3.out.row Hk.out⟩) hfew.out (Out.setCell (P := fun j => j = g) (Out.setCells (P := fun j => j = g) g rfl _ _ _ O1.out) ⟨g, 0, none⟩ _ rfl).size ?_; intro v' w2 hown hb2; obtain ⟨av, cv, rfl⟩ := own_val hown; have hf := Hfin.out _ w2 _ (by rw [← Hm.out]; exact H3.out) (Out.setCell (P := fun j => j = g) (Out.setCells (P := fun j => j = g) g rfl _ _ _ O1.out) ⟨g, 0, none⟩ _ rfl) hown hb2; obtain ⟨k99, f99, hpost⟩ := hf; have Hpost := hid hpost; clear hown hb2 hpost))
    go_ret2
    exact Hpost.out
set_option maxHeartbeats 1000000 in
theorem rPrune_err {w : World} {B g : Nat} {v : Value} {c : Ch} (h : RAt w B g v c) (n : Int) (he : pruE c n ≠ 0) :
    Calls Tryd.prog 47 #[.pointer (some ⟨g, 0, none⟩), .int .i64 n] w fun x w' => x = .returned (.tuple #[.int .i64 0, .int .i64 2]) ∧ Below w.heap.size w w' := by
  have c0 := h.c0
  have c1 := h.c1
  have h2 : (c.an : Int) < n ∨ n < (c.bn : Int) := by
    unfold pruE at he
    split at he
    · assumption
    · exact absurd rfl he
  clear h he
  generalize c.an = an at *
  generalize c.bn = bn at *
  by_cases d1 : (an : Int) < n
  · have d3 : decide ((an : Int) < n) = true := by simpa using d1
    go_enter Tryd.func47, Tryd.ntmps47
    go_wp2
    go_ret2
    exact ⟨rfl, Below.refl _ _⟩
  · have d2 : n < (bn : Int) := by omega
    have d3 : decide ((an : Int) < n) = false := by simpa using d1
    have d4 : decide (n < (bn : Int)) = true := by simpa using d2
    go_enter Tryd.func47, Tryd.ntmps47
    go_wp2
    go_ret2
    exact ⟨rfl, Below.refl _ _⟩
def RPruPost (w : World) (B g : Nat) (v : Value) (c : Ch) (n : Int) (x : Ending) (w' : World) : Prop :=
  ∃ v', x = .returned (.tuple #[.int .i64 (pruN c n), .int .i64 (pruE c n)]) ∧ RAt w' B g v' (pruR c n) ∧ Out (fun j => j = g) w w' ∧ Grew w v v'
theorem rPrune_any {w : World} {B g : Nat} {v : Value} {c : Ch} (h : RAt w B g v c) (ok : ChOk c) (hev : EvOk c.ev) (hc : c.cnt < 1152921504606846976) (hB : B ≤ w.heap.size) (n : Int) :
    Calls Tryd.prog 47 #[.pointer (some ⟨g, 0, none⟩), .int .i64 n] w (RPruPost w B g v c n) := by
  by_cases he : pruE c n = 0
  · obtain ⟨k, rfl, hle⟩ := pruE_zero he
    refine (rPrune_ok h ok hev hc hB k hle).mono ?_
    rintro x w' ⟨v', rfl, h1, h2, h3⟩
    refine ⟨v', ?_, ?_, h2, fun j hj => .inr (h3 j hj)⟩
    · unfold pruN
      rw [if_pos he, he, show (((c.bn + k : Nat) : Int) - (c.bn : Int)) = (k : Int) by omega]
    · unfold pruR
      rw [if_pos he, Int.toNat_natCast, show c.bn + k - c.bn = k by omega]
      exact h1
  · refine (rPrune_err h n he).mono ?_
    rintro x w' ⟨rfl, hb⟩
    have e2 : pruE c n = 2 := by
      unfold pruE at he ⊢
      split
      · rfl
      · rename_i h9; rw [if_neg h9] at he; exact absurd rfl he
    refine ⟨v, ?_, ?_, Out.of_below hb, fun j hj => .inl hj⟩
    · unfold pruN
      rw [if_neg he, e2]
    · unfold pruR
      rw [if_neg he]
      exact h.below hb
end Go.Proofs.YthfmpebgmojcaaaDoor
