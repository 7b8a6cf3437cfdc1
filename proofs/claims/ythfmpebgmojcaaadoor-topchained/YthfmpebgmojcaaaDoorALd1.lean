/- YthfmpebgmojcaaaDoorARw3 + YthfmpebgmojcaaaDoorARw7 + YthfmpebgmojcaaaDoorARows + YthfmpebgmojcaaaDoorALd1 -/
import Derived.Test.YthfmpebgmojcaaaDoorTkH
import Derived.Test.YthfmpebgmojcaaaDoorARw2
import Derived.Deep.AppendLies
import Derived.Test.YthfmpebgmojcaaaDoorAToNum
/- (*Chain).Rows: the region that makes the four first rows, over a frame that is a letter. -/
namespace Go.Proofs.YthfmpebgmojcaaaDoor
open Go.RowKit
set_option linter.unusedVariables false
set_option maxRecDepth 20000
theorem hf_texts : ∀ (args : Array Value) (w : World), (callFunc 39 args).run Tryd.prog w = .ok (.enter 39 args) w := fun args w => by simp [go_sem]
theorem hf_hashRow : ∀ (args : Array Value) (w : World), (callFunc 40 args).run Tryd.prog w = .ok (.enter 40 args) w := fun args w => by simp [go_sem]
theorem nums3 (w : World) (p q s : Nat) : NumsIn (w.alloc (.cells #[.int .i64 (p : Int), .int .i64 (q : Int), .int .i64 (s : Int)] 3)) w.heap.size [p, q, s] := fun i hi => by
  rw [World.cell?_alloc_at _ _ _ _ rfl]
  simp only [List.length_cons, List.length_nil] at hi
  match i, hi with
  | 0, _ => rfl
  | 1, _ => rfl
  | 2, _ => rfl
theorem y_chain4 {ops : Array Oper} {S : World → Prop} {op : Oper} {a : Act} (hw : Region.wanted op (yielded ops a.tmps) = true) (x : Operand) (ho : op.op = .fieldAddr 87 x 4) (g : Nat) (hx : a.eval x = .pointer (some ⟨g, 0, none⟩)) : YieldsIf Tryd.prog ops S op (.pointer (some ⟨g, 99, none⟩)) a := by
  refine .inl ⟨hw, fun w _ => ?_⟩
  unfold execOp
  simp only [ho, hx]
  simp [go_sem]
theorem y_buildR {ops : Array Oper} {S : World → Prop} {op : Oper} {a : Act} (hw : Region.wanted op (yielded ops a.tmps) = true) (x y : Operand) (ho : op.op = .build 75 #[(0, x), (1, y)]) (k : ByteArray) (ad : Option Addr) (n cp : Nat) (hx : a.eval x = .string k) (hy : a.eval y = .slice ad n cp) : YieldsIf Tryd.prog ops S op (.agg #[.string k, .slice ad n cp]) a := by
  refine .inl ⟨hw, fun w _ => ?_⟩
  unfold execOp
  simp only [ho, List.map_toArray, List.map_cons, List.map_nil, hx, hy]
  simp [go_sem]
theorem wp_build3N {o : Oper} {a : Act} {w : World} {K : Act → World → Prop} {Q : Exit → Act → World → Prop} (x y z : Operand) (ho : o.op = .buildSlice 151 3 #[(0, x), (1, y), (2, z)]) (p q s : Nat) (h0 : a.eval x = .int .i64 (p : Int)) (h1 : a.eval y = .int .i64 (q : Int)) (h2 : a.eval z = .int .i64 (s : Int))
    (h : K (a.put o.dst (.slice (some ⟨w.heap.size, 0, none⟩) 3 3)) (w.alloc (.cells #[.int .i64 (p : Int), .int .i64 (q : Int), .int .i64 (s : Int)] 3))) : o.wp Tryd.prog a w K Q := by
  unfold Oper.wp execOp
  simp only [ho, List.map_toArray, List.map_cons, List.map_nil, h0, h1, h2]
  simp [go_sem]
  exact h
theorem wp_build4R {o : Oper} {a : Act} {w : World} {K : Act → World → Prop} {Q : Exit → Act → World → Prop} (x y z u : Operand) (ho : o.op = .buildSlice 22 4 #[(0, x), (1, y), (2, z), (3, u)]) (k0 k1 k2 k3 : ByteArray) (a0 a1 a2 a3 : Option Addr) (n0 n1 n2 n3 c0 c1 c2 c3 : Nat)
    (h0 : a.eval x = .agg #[.string k0, .slice a0 n0 c0]) (h1 : a.eval y = .agg #[.string k1, .slice a1 n1 c1]) (h2 : a.eval z = .agg #[.string k2, .slice a2 n2 c2]) (h3 : a.eval u = .agg #[.string k3, .slice a3 n3 c3])
    (h : K (a.put o.dst (.slice (some ⟨w.heap.size, 0, none⟩) 4 4)) (w.alloc (.cells #[.string k0, .slice a0 n0 c0, .string k1, .slice a1 n1 c1, .string k2, .slice a2 n2 c2, .string k3, .slice a3 n3 c3] 75))) : o.wp Tryd.prog a w K Q := by
  unfold Oper.wp execOp
  simp only [ho, List.map_toArray, List.map_cons, List.map_nil, h0, h1, h2, h3]
  simp [go_sem]
  exact h
theorem own_monoW {w : World} {B B' e s n : Nat} {v : Value} {xs : List Value} (h : w.ownsRow B e s v n xs) (hB : B' ≤ B) : w.ownsRow B' e s v n xs := by
  refine ⟨h.1, ?_⟩
  rcases h.2 with h0 | ⟨k, cap, cur, rfl, hb, r⟩
  · exact .inl h0
  · exact .inr ⟨k, cap, cur, rfl, Nat.le_trans hB hb, r⟩
def RwS (B g : Nat) (v : Value) (c : Ch) (V : World) : Prop := ChAt V B g v c ∧ Tabs V B ∧ B ≤ V.heap.size
theorem RwS.on {B g : Nat} {v : Value} {c : Ch} {V V' : World} (hs : RwS B g v c V) (hb : Below V.heap.size V V') : RwS B g v c V' := ⟨hs.1.below hb, hs.2.1.below hs.2.2 hb, Nat.le_trans hs.2.2 hb.size⟩
noncomputable def codeRw (n : Nat) : Code := ((Tryd.f10.body.bind (regionAt n)).getD .skip)
set_option maxHeartbeats 4000000 in
theorem rows_region3 {V0 W5 : World} {B g : Nat} {v : Value} {c : Ch} {A : Act} (sz : A.tmps.size = 69) (e0 : A.eval (.tmp 0) = .pointer (some ⟨g, 0, none⟩))
    (hV0 : V0 = W5.drew) (hs0 : RwS B g v c V0) (ok : Lens c) (hsm : ∀ n ∈ [c.bn, c.an, c.la], n ≤ 4611686018427387904) :
    (codeRw 3).wp Tryd.prog (fun x a V => x = .normal ∧ ∃ V5 at3 ct3 g3 g4 g5, a = ((((((((((((((((((((((((((((((((((((A.put (some 8) (.pointer (some ⟨g, 0, none⟩))).put (some 9) (.pointer (some ⟨g, 0, none⟩))).put (some 10) (.pointer (some ⟨g, 0, none⟩))).put (some 11) (.pointer (some ⟨g, 0, none⟩))).put (some 12) (.int .i64 (c.bn : Int))).put (some 13) (.pointer (some ⟨g, 0, none⟩))).put (some 14) (.pointer (some ⟨g, 0, none⟩))).put (some 15) (.pointer (some ⟨g, 33, none⟩))).put (some 16) (.pointer (some ⟨g, 33, none⟩))).put (some 17) (.int .i64 (c.an : Int))).put (some 18) (.pointer (some ⟨g, 0, none⟩))).put (some 19) (.pointer (some ⟨g, 0, none⟩))).put (some 20) (.pointer (some ⟨g, 99, none⟩))).put (some 21) (.int .i64 (c.la : Int))).put (some 25) (.pointer (some ⟨g, 0, none⟩))).put (some 26) (.pointer (some ⟨g, 0, none⟩))).put (some 27) (.pointer (some ⟨g, 33, none⟩))).put (some 28) (.pointer (some ⟨g, 34, none⟩))).put (some 29) (.agg (bvs c.ah))).put (some 31) (.pointer (some ⟨g, 0, none⟩))).put (some 32) (.pointer (some ⟨g, 0, none⟩))).put (some 33) (.pointer (some ⟨g, 0, none⟩))).put (some 34) (.pointer (some ⟨g, 1, none⟩))).put (some 35) (.agg (bvs c.bh))).put (some 37) (.pointer (some ⟨g, 0, none⟩))).put (some 38) (.pointer (some ⟨g, 0, none⟩))).put (some 39) (.pointer (some ⟨g, 67, none⟩))).put (some 40) (.agg (bvs c.hd))).put (some 22) (.slice (some ⟨V0.heap.size, 0, none⟩) 3 3)).put (some 23) (.slice at3 3 ct3)).put (some 24) (.agg #[.string ⟨#[35]⟩, .slice at3 3 ct3])).put (some 30) (.agg #[.string ⟨#[97]⟩, .slice (some ⟨g3, 0, none⟩) 1 1])).put (some 36) (.agg #[.string ⟨#[98]⟩, .slice (some ⟨g4, 0, none⟩) 1 1])).put (some 41) (.agg #[.string ⟨#[104]⟩, .slice (some ⟨g5, 0, none⟩) 1 1])).put (some 42) (.slice (some ⟨V5.heap.size, 0, none⟩) 4 4)).put (some 3) (.slice (some ⟨V5.heap.size, 0, none⟩) 4 4)) ∧ V = V5.alloc (.cells #[.string ⟨#[35]⟩, .slice at3 3 ct3, .string ⟨#[97]⟩, .slice (some ⟨g3, 0, none⟩) 1 1, .string ⟨#[98]⟩, .slice (some ⟨g4, 0, none⟩) 1 1, .string ⟨#[104]⟩, .slice (some ⟨g5, 0, none⟩) 1 1] 75) ∧ V5.ownsRow 0 9 1 (.slice at3 3 ct3) 3 (strsOf ([c.bn, c.an, c.la].map txt)) ∧ V5.heap[g3]? = some (.cells #[.string (mkB c.ah)] 9 (0, 0)) ∧ V5.heap[g4]? = some (.cells #[.string (mkB c.bh)] 9 (0, 0)) ∧ V5.heap[g5]? = some (.cells #[.string (mkB c.hd)] 9 (0, 0)) ∧ Below V0.heap.size V0 V5) A W5 := by
  have hm : Tryd.prog.follows .mixedOrders = true := by kernel_rfl
  unfold codeRw
  conv => arg 2; whnf
  refine wp_region_held (S := RwS B g v c) hm ?_
  rw [show ({ W5 with drawn := W5.drawn + 1 } : World) = V0 from hV0.symm]
  refine tkH (i := 0) (d := 8) (v := .pointer (some ⟨g, 0, none⟩)) rfl rfl (yields_move (by simp [Region.wanted]) (.tmp 0) rfl _ e0) hs0 ?_
  refine tkH (i := 1) (d := 9) (v := .pointer (some ⟨g, 0, none⟩)) rfl rfl (y_nil (by simp [Region.wanted]) (.tmp 8) rfl _ (ev_eq _ _ (by simp [sz]))) hs0 ?_
  refine tkH (i := 2) (d := 10) (v := .pointer (some ⟨g, 0, none⟩)) rfl rfl (y_chain0 (by simp [Region.wanted]) (.tmp 9) rfl g (ev_eq _ _ (by simp [put_sz, sz]))) hs0 ?_
  refine tkH (i := 3) (d := 11) (v := .pointer (some ⟨g, 0, none⟩)) rfl rfl (y_link0 (by simp [Region.wanted]) (.tmp 10) rfl g 0 (ev_eq _ _ (by simp [put_sz, sz]))) hs0 ?_
  refine tkH (i := 4) (d := 12) (v := .int .i64 (c.bn : Int)) rfl rfl (y_loadI (by simp [Region.wanted]) (.tmp 11) rfl g 0 _ (ev_eq _ _ (by simp [put_sz, sz])) (fun V hV => hV.1.c0)) hs0 ?_
  refine tkH (i := 5) (d := 13) (v := .pointer (some ⟨g, 0, none⟩)) rfl rfl (yields_move (by simp [Region.wanted]) (.tmp 0) rfl _ (evn (evn (evn (evn (evn e0)))))) hs0 ?_
  refine tkH (i := 6) (d := 14) (v := .pointer (some ⟨g, 0, none⟩)) rfl rfl (y_nil (by simp [Region.wanted]) (.tmp 13) rfl _ (ev_eq _ _ (by simp [put_sz, sz]))) hs0 ?_
  refine tkH (i := 7) (d := 15) (v := .pointer (some ⟨g, 33, none⟩)) rfl rfl (y_chain1 (by simp [Region.wanted]) (.tmp 14) rfl g (ev_eq _ _ (by simp [put_sz, sz]))) hs0 ?_
  refine tkH (i := 8) (d := 16) (v := .pointer (some ⟨g, 33, none⟩)) rfl rfl (y_link0 (by simp [Region.wanted]) (.tmp 15) rfl g 33 (ev_eq _ _ (by simp [put_sz, sz]))) hs0 ?_
  refine tkH (i := 9) (d := 17) (v := .int .i64 (c.an : Int)) rfl rfl (y_loadI (by simp [Region.wanted]) (.tmp 16) rfl g 33 _ (ev_eq _ _ (by simp [put_sz, sz])) (fun V hV => hV.1.c33 ok)) hs0 ?_
  refine tkH (i := 10) (d := 18) (v := .pointer (some ⟨g, 0, none⟩)) rfl rfl (yields_move (by simp [Region.wanted]) (.tmp 0) rfl _ (evn (evn (evn (evn (evn (evn (evn (evn (evn (evn e0))))))))))) hs0 ?_
  refine tkH (i := 11) (d := 19) (v := .pointer (some ⟨g, 0, none⟩)) rfl rfl (y_nil (by simp [Region.wanted]) (.tmp 18) rfl _ (ev_eq _ _ (by simp [put_sz, sz]))) hs0 ?_
  refine tkH (i := 12) (d := 20) (v := .pointer (some ⟨g, 99, none⟩)) rfl rfl (y_chain4 (by simp [Region.wanted]) (.tmp 19) rfl g (ev_eq _ _ (by simp [put_sz, sz]))) hs0 ?_
  refine tkH (i := 13) (d := 21) (v := .int .i64 (c.la : Int)) rfl rfl (y_loadI (by simp [Region.wanted]) (.tmp 20) rfl g 99 _ (ev_eq _ _ (by simp [put_sz, sz])) (fun V hV => hV.1.c99 ok)) hs0 ?_
  obtain ⟨A2, hA2⟩ : ∃ A2, A2 = ((((((((((((((A.put (some 8) (.pointer (some ⟨g, 0, none⟩))).put (some 9) (.pointer (some ⟨g, 0, none⟩))).put (some 10) (.pointer (some ⟨g, 0, none⟩))).put (some 11) (.pointer (some ⟨g, 0, none⟩))).put (some 12) (.int .i64 (c.bn : Int))).put (some 13) (.pointer (some ⟨g, 0, none⟩))).put (some 14) (.pointer (some ⟨g, 0, none⟩))).put (some 15) (.pointer (some ⟨g, 33, none⟩))).put (some 16) (.pointer (some ⟨g, 33, none⟩))).put (some 17) (.int .i64 (c.an : Int))).put (some 18) (.pointer (some ⟨g, 0, none⟩))).put (some 19) (.pointer (some ⟨g, 0, none⟩))).put (some 20) (.pointer (some ⟨g, 99, none⟩))).put (some 21) (.int .i64 (c.la : Int))) := ⟨_, rfl⟩
  have szA2 : A2.tmps.size = 69 := by rw [hA2]; simp [put_sz, sz]
  have eA20 : A2.eval (.tmp 0) = .pointer (some ⟨g, 0, none⟩) := by rw [hA2]; exact (evn (evn (evn (evn (evn (evn (evn (evn (evn (evn (evn (evn (evn (evn e0))))))))))))))
  have eA212 : A2.eval (.tmp 12) = .int .i64 (c.bn : Int) := by rw [hA2]; exact (evn (evn (evn (evn (evn (evn (evn (evn (evn (ev_eq _ _ (by simp [put_sz, sz])))))))))))
  have eA217 : A2.eval (.tmp 17) = .int .i64 (c.an : Int) := by rw [hA2]; exact (evn (evn (evn (evn (ev_eq _ _ (by simp [put_sz, sz]))))))
  have eA221 : A2.eval (.tmp 21) = .int .i64 (c.la : Int) := by rw [hA2]; exact (ev_eq _ _ (by simp [put_sz, sz]))
  rw [← hA2]
  refine tkH (i := 17) (d := 25) (v := .pointer (some ⟨g, 0, none⟩)) rfl rfl (yields_move (by simp [Region.wanted]) (.tmp 0) rfl _ eA20) hs0 ?_
  refine tkH (i := 18) (d := 26) (v := .pointer (some ⟨g, 0, none⟩)) rfl rfl (y_nil (by simp [Region.wanted]) (.tmp 25) rfl _ (ev_eq _ _ (by simp [szA2]))) hs0 ?_
  refine tkH (i := 19) (d := 27) (v := .pointer (some ⟨g, 33, none⟩)) rfl rfl (y_chain1 (by simp [Region.wanted]) (.tmp 26) rfl g (ev_eq _ _ (by simp [put_sz, szA2]))) hs0 ?_
  refine tkH (i := 20) (d := 28) (v := .pointer (some ⟨g, 34, none⟩)) rfl rfl (y_link1 (by simp [Region.wanted]) (.tmp 27) rfl g 33 (ev_eq _ _ (by simp [put_sz, szA2]))) hs0 ?_
  refine tkH (i := 21) (d := 29) (v := .agg (bvs c.ah)) rfl rfl (y_loadH (by simp [Region.wanted]) (.tmp 28) rfl g 34 c.ah ok.lan (ev_eq _ _ (by simp [put_sz, szA2])) (fun V hV => hV.1.ra ok)) hs0 ?_
  refine tkH (i := 23) (d := 31) (v := .pointer (some ⟨g, 0, none⟩)) rfl rfl (yields_move (by simp [Region.wanted]) (.tmp 0) rfl _ (evn (evn (evn (evn (evn eA20)))))) hs0 ?_
  refine tkH (i := 24) (d := 32) (v := .pointer (some ⟨g, 0, none⟩)) rfl rfl (y_nil (by simp [Region.wanted]) (.tmp 31) rfl _ (ev_eq _ _ (by simp [put_sz, szA2]))) hs0 ?_
  refine tkH (i := 25) (d := 33) (v := .pointer (some ⟨g, 0, none⟩)) rfl rfl (y_chain0 (by simp [Region.wanted]) (.tmp 32) rfl g (ev_eq _ _ (by simp [put_sz, szA2]))) hs0 ?_
  refine tkH (i := 26) (d := 34) (v := .pointer (some ⟨g, 1, none⟩)) rfl rfl (y_link1 (by simp [Region.wanted]) (.tmp 33) rfl g 0 (ev_eq _ _ (by simp [put_sz, szA2]))) hs0 ?_
  refine tkH (i := 27) (d := 35) (v := .agg (bvs c.bh)) rfl rfl (y_loadH (by simp [Region.wanted]) (.tmp 34) rfl g 1 c.bh ok.lb (ev_eq _ _ (by simp [put_sz, szA2])) (fun V hV => range_mid (A := [.int .i64 (c.bn : Int)]) hV.1.obj 1 rfl)) hs0 ?_
  refine tkH (i := 29) (d := 37) (v := .pointer (some ⟨g, 0, none⟩)) rfl rfl (yields_move (by simp [Region.wanted]) (.tmp 0) rfl _ (evn (evn (evn (evn (evn (evn (evn (evn (evn (evn eA20))))))))))) hs0 ?_
  refine tkH (i := 30) (d := 38) (v := .pointer (some ⟨g, 0, none⟩)) rfl rfl (y_nil (by simp [Region.wanted]) (.tmp 37) rfl _ (ev_eq _ _ (by simp [put_sz, szA2]))) hs0 ?_
  refine tkH (i := 31) (d := 39) (v := .pointer (some ⟨g, 67, none⟩)) rfl rfl (y_chain3 (by simp [Region.wanted]) (.tmp 38) rfl g (ev_eq _ _ (by simp [put_sz, szA2]))) hs0 ?_
  refine tkH (i := 32) (d := 40) (v := .agg (bvs c.hd)) rfl rfl (y_loadH (by simp [Region.wanted]) (.tmp 39) rfl g 67 c.hd ok.lh (ev_eq _ _ (by simp [put_sz, szA2])) (fun V hV => hV.1.rh ok)) hs0 ?_
  obtain ⟨A3, hA3⟩ : ∃ A3, A3 = ((((((((((((((A2.put (some 25) (.pointer (some ⟨g, 0, none⟩))).put (some 26) (.pointer (some ⟨g, 0, none⟩))).put (some 27) (.pointer (some ⟨g, 33, none⟩))).put (some 28) (.pointer (some ⟨g, 34, none⟩))).put (some 29) (.agg (bvs c.ah))).put (some 31) (.pointer (some ⟨g, 0, none⟩))).put (some 32) (.pointer (some ⟨g, 0, none⟩))).put (some 33) (.pointer (some ⟨g, 0, none⟩))).put (some 34) (.pointer (some ⟨g, 1, none⟩))).put (some 35) (.agg (bvs c.bh))).put (some 37) (.pointer (some ⟨g, 0, none⟩))).put (some 38) (.pointer (some ⟨g, 0, none⟩))).put (some 39) (.pointer (some ⟨g, 67, none⟩))).put (some 40) (.agg (bvs c.hd))) := ⟨_, rfl⟩
  have szA3 : A3.tmps.size = 69 := by rw [hA3]; simp [put_sz, szA2]
  have eA312 : A3.eval (.tmp 12) = .int .i64 (c.bn : Int) := by rw [hA3]; exact (evn (evn (evn (evn (evn (evn (evn (evn (evn (evn (evn (evn (evn (evn eA212))))))))))))))
  have eA317 : A3.eval (.tmp 17) = .int .i64 (c.an : Int) := by rw [hA3]; exact (evn (evn (evn (evn (evn (evn (evn (evn (evn (evn (evn (evn (evn (evn eA217))))))))))))))
  have eA321 : A3.eval (.tmp 21) = .int .i64 (c.la : Int) := by rw [hA3]; exact (evn (evn (evn (evn (evn (evn (evn (evn (evn (evn (evn (evn (evn (evn eA221))))))))))))))
  have eA329 : A3.eval (.tmp 29) = .agg (bvs c.ah) := by rw [hA3]; exact (evn (evn (evn (evn (evn (evn (evn (evn (evn (ev_eq _ _ (by simp [put_sz, szA2])))))))))))
  have eA335 : A3.eval (.tmp 35) = .agg (bvs c.bh) := by rw [hA3]; exact (evn (evn (evn (evn (ev_eq _ _ (by simp [put_sz, szA2]))))))
  have eA340 : A3.eval (.tmp 40) = .agg (bvs c.hd) := by rw [hA3]; exact (ev_eq _ _ (by simp [put_sz, szA2]))
  rw [← hA3]
  refine wpAnyH_all (rs := [14]) (by kernel_rfl) (by simp) fun i1 hm1 => ?_
  obtain rfl : i1 = 14 := by simpa using hm1
  refine wpOp_own rfl rfl fun K1 hK1 => ?_
  refine wp_build3N (.tmp 12) (.tmp 17) (.tmp 21) rfl c.bn c.an c.la eA312 eA317 eA321 ?_
  have b1 : Below V0.heap.size V0 (V0.alloc (.cells #[.int .i64 (c.bn : Int), .int .i64 (c.an : Int), .int .i64 (c.la : Int)] 3)) := (Below.refl _ V0).alloc (Nat.le_refl _) _
  have hs1 := hs0.on b1
  refine hK1 _ _ ⟨hs1, ?_⟩
  clear hK1 K1 hm1
  show wpAnyH _ _ _ _ _ _ _ (A3.put (some 22) (.slice (some ⟨V0.heap.size, 0, none⟩) 3 3)) _
  refine wpAnyH_all (rs := [15]) (by kernel_rfl) (by simp) fun i2 hm2 => ?_
  obtain rfl : i2 = 15 := by simpa using hm2
  refine wpOp_own rfl rfl fun K2 hK2 => ?_
  refine wp_calls1 39 hf_texts (.tmp 22) _ rfl (.slice (some ⟨V0.heap.size, 0, none⟩) 3 3) (ev_eq _ _ (by simp [szA3])) ?_
  refine (texts_any _ V0.heap.size 3 [c.bn, c.an, c.la] (nums3 V0 _ _ _) hsm (by simp) hs1.2.1.tab).mono ?_
  rintro _ V2 ⟨vt, rfl, hown, hb2⟩
  obtain ⟨at3, ct3, rfl, htx, hct⟩ := texts_of_own (xs := [c.bn, c.an, c.la].map txt) hown
  have hs2 := hs1.on hb2
  refine ⟨_, rfl, hK2 _ _ ⟨hs2, ?_⟩⟩
  clear hK2 K2 hm2
  show wpAnyH _ _ _ _ _ _ _ ((A3.put (some 22) (.slice (some ⟨V0.heap.size, 0, none⟩) 3 3)).put (some 23) (.slice at3 3 ct3)) _
  refine tkH (i := 16) (d := 24) (v := .agg #[.string ⟨#[35]⟩, .slice at3 3 ct3]) rfl rfl (y_buildR (by simp [Region.wanted]) (.const (.string ⟨#[35]⟩)) (.tmp 23) rfl _ _ _ _ rfl (ev_eq _ _ (by simp [put_sz, szA3]))) hs2 ?_
  obtain ⟨A4, hA4⟩ : ∃ A4, A4 = (((A3.put (some 22) (.slice (some ⟨V0.heap.size, 0, none⟩) 3 3)).put (some 23) (.slice at3 3 ct3)).put (some 24) (.agg #[.string ⟨#[35]⟩, .slice at3 3 ct3])) := ⟨_, rfl⟩
  have szA4 : A4.tmps.size = 69 := by rw [hA4]; simp [put_sz, szA3]
  have eA424 : A4.eval (.tmp 24) = .agg #[.string ⟨#[35]⟩, .slice at3 3 ct3] := by rw [hA4]; exact (ev_eq _ _ (by simp [put_sz, szA3]))
  have eA429 : A4.eval (.tmp 29) = .agg (bvs c.ah) := by rw [hA4]; exact (evn (evn (evn eA329)))
  have eA435 : A4.eval (.tmp 35) = .agg (bvs c.bh) := by rw [hA4]; exact (evn (evn (evn eA335)))
  have eA440 : A4.eval (.tmp 40) = .agg (bvs c.hd) := by rw [hA4]; exact (evn (evn (evn eA340)))
  rw [← hA4]
  refine wpAnyH_all (rs := [22]) (by kernel_rfl) (by simp) fun i3 hm3 => ?_
  obtain rfl : i3 = 22 := by simpa using hm3
  refine wpOp_own rfl rfl fun K3 hK3 => ?_
  refine wp_calls2 40 hf_hashRow (.const (.string ⟨#[97]⟩)) (.tmp 29) _ rfl (.string ⟨#[97]⟩) (.agg (bvs c.ah)) rfl eA429 ?_
  refine (hashRow_any V2 ⟨#[97]⟩ c.ah ok.lan).mono ?_
  rintro _ V3 ⟨g3, rfl, hg3, hge3, hb3⟩
  have hs3 := hs2.on hb3
  refine ⟨_, rfl, hK3 _ _ ⟨hs3, ?_⟩⟩
  clear hK3 K3 hm3
  show wpAnyH _ _ _ _ _ _ _ (A4.put (some 30) (.agg #[.string ⟨#[97]⟩, .slice (some ⟨g3, 0, none⟩) 1 1])) _
  refine wpAnyH_all (rs := [28]) (by kernel_rfl) (by simp) fun i4 hm4 => ?_
  obtain rfl : i4 = 28 := by simpa using hm4
  refine wpOp_own rfl rfl fun K4 hK4 => ?_
  refine wp_calls2 40 hf_hashRow (.const (.string ⟨#[98]⟩)) (.tmp 35) _ rfl (.string ⟨#[98]⟩) (.agg (bvs c.bh)) rfl (evn eA435) ?_
  refine (hashRow_any V3 ⟨#[98]⟩ c.bh ok.lb).mono ?_
  rintro _ V4 ⟨g4, rfl, hg4, hge4, hb4⟩
  have hs4 := hs3.on hb4
  refine ⟨_, rfl, hK4 _ _ ⟨hs4, ?_⟩⟩
  clear hK4 K4 hm4
  show wpAnyH _ _ _ _ _ _ _ ((A4.put (some 30) (.agg #[.string ⟨#[97]⟩, .slice (some ⟨g3, 0, none⟩) 1 1])).put (some 36) (.agg #[.string ⟨#[98]⟩, .slice (some ⟨g4, 0, none⟩) 1 1])) _
  refine wpAnyH_all (rs := [33]) (by kernel_rfl) (by simp) fun i5 hm5 => ?_
  obtain rfl : i5 = 33 := by simpa using hm5
  refine wpOp_own rfl rfl fun K5 hK5 => ?_
  refine wp_calls2 40 hf_hashRow (.const (.string ⟨#[104]⟩)) (.tmp 40) _ rfl (.string ⟨#[104]⟩) (.agg (bvs c.hd)) rfl (evn (evn eA440)) ?_
  refine (hashRow_any V4 ⟨#[104]⟩ c.hd ok.lh).mono ?_
  rintro _ V5 ⟨g5, rfl, hg5, hge5, hb5⟩
  have hs5 := hs4.on hb5
  refine ⟨_, rfl, hK5 _ _ ⟨hs5, ?_⟩⟩
  clear hK5 K5 hm5
  show wpAnyH _ _ _ _ _ _ _ (((A4.put (some 30) (.agg #[.string ⟨#[97]⟩, .slice (some ⟨g3, 0, none⟩) 1 1])).put (some 36) (.agg #[.string ⟨#[98]⟩, .slice (some ⟨g4, 0, none⟩) 1 1])).put (some 41) (.agg #[.string ⟨#[104]⟩, .slice (some ⟨g5, 0, none⟩) 1 1])) _
  refine wpAnyH_all (rs := [34]) (by kernel_rfl) (by simp) fun i6 hm6 => ?_
  obtain rfl : i6 = 34 := by simpa using hm6
  refine wpOp_own rfl rfl fun K6 hK6 => ?_
  refine wp_build4R (.tmp 24) (.tmp 30) (.tmp 36) (.tmp 41) rfl _ _ _ _ _ _ _ _ _ _ _ _ _ _ _ _ (evn (evn (evn eA424))) (evn (evn (ev_eq _ _ (by simp [szA4])))) (evn (ev_eq _ _ (by simp [put_sz, szA4]))) (ev_eq _ _ (by simp [put_sz, szA4])) ?_
  have b6 : Below V5.heap.size V5 (V5.alloc (.cells #[.string ⟨#[35]⟩, .slice at3 3 ct3, .string ⟨#[97]⟩, .slice (some ⟨g3, 0, none⟩) 1 1, .string ⟨#[98]⟩, .slice (some ⟨g4, 0, none⟩) 1 1, .string ⟨#[104]⟩, .slice (some ⟨g5, 0, none⟩) 1 1] 75)) := (Below.refl _ V5).alloc (Nat.le_refl _) _
  have hs6 := hs5.on b6
  refine hK6 _ _ ⟨hs6, ?_⟩
  clear hK6 K6 hm6
  show wpAnyH _ _ _ _ _ _ _ ((((A4.put (some 30) (.agg #[.string ⟨#[97]⟩, .slice (some ⟨g3, 0, none⟩) 1 1])).put (some 36) (.agg #[.string ⟨#[98]⟩, .slice (some ⟨g4, 0, none⟩) 1 1])).put (some 41) (.agg #[.string ⟨#[104]⟩, .slice (some ⟨g5, 0, none⟩) 1 1])).put (some 42) (.slice (some ⟨V5.heap.size, 0, none⟩) 4 4)) _
  refine tkH (i := 35) (d := 3) (v := .slice (some ⟨V5.heap.size, 0, none⟩) 4 4) rfl rfl (y_assign (by simp [Region.wanted]) (.tmp 42) rfl _ (ev_eq _ _ (by simp [put_sz, szA4]))) hs6 ?_
  refine wpAnyH_done (by kernel_rfl) ⟨rfl, V5, at3, ct3, g3, g4, g5, by rw [hA4, hA3, hA2], rfl, own_monoW (own_onW hown ((hb3.trans (hb4.mono hb3.size)).trans (hb5.mono (Nat.le_trans hb3.size hb4.size)))) (Nat.zero_le _), (hb5.block _ (heap_lt ((hb4.block _ (heap_lt hg3)).trans hg3))).trans ((hb4.block _ (heap_lt hg3)).trans hg3), (hb5.block _ (heap_lt hg4)).trans hg4, hg5, ((((b1.trans (hb2.mono b1.size)).trans (hb3.mono (Nat.le_trans b1.size hb2.size))).trans (hb4.mono (Nat.le_trans (Nat.le_trans b1.size hb2.size) hb3.size))).trans (hb5.mono (Nat.le_trans (Nat.le_trans (Nat.le_trans b1.size hb2.size) hb3.size) hb4.size)))⟩ _
end Go.Proofs.YthfmpebgmojcaaaDoor
/- (*Chain).Rows: the region that appends the row of an event, over a frame that is a letter. -/
namespace Go.Proofs.YthfmpebgmojcaaaDoor
open Go.RowKit
set_option linter.unusedVariables false
set_option maxRecDepth 20000
structure Rw where
  key : ByteArray
  a : Option Addr
  cols : List ByteArray
  cap : Nat
def Rw.vals (x : Rw) : List Value := [.string x.key, .slice x.a x.cols.length x.cap]
def evRow (e : Ev) (b : Nat) : Rw := ⟨evKey e.num, some ⟨b, 0, none⟩, [txt e.tim, e.what, e.who], 3⟩
def rvCells (l : List Rw) : List Value := l.flatMap Rw.vals
theorem rvCells_append (a b : List Rw) : rvCells (a ++ b) = rvCells a ++ rvCells b := by simp [rvCells]
theorem rvCells_one (x : Rw) : rvCells [x] = x.vals := by simp [rvCells]
theorem rvCells_oneCell (l : List Rw) : ∀ u ∈ rvCells l, u.oneCell' = true := by
  intro u hu
  simp only [rvCells, List.mem_flatMap, Rw.vals, List.mem_cons, List.not_mem_nil, or_false] at hu
  obtain ⟨x, _, rfl | rfl⟩ := hu <;> rfl
def RowsAt (w : World) (base : Nat) (v : Value) (l : List Rw) : Prop := w.ownsRow base 75 2 v l.length (rvCells l) ∧ ∀ x ∈ l, w.ownsRow 0 9 1 (.slice x.a x.cols.length x.cap) x.cols.length (strsOf x.cols)
theorem Tryd.infoR : (Tryd.prog.info? 75).map (fun i => (i.zero, i.size, i.bytes)) = some (some (.agg #[.string ⟨#[]⟩, .slice none 0 0]), 2, 40) := by kernel_rfl
theorem range_newR (w : World) (x : Rw) : (w.alloc (.cells x.vals.toArray 75)).rangeAt w.heap.size 0 x.vals := range_mid (A := []) (C := []) (heap_alloc_new w _) 0 rfl
theorem hf_eventKey : ∀ (args : Array Value) (w : World), (callFunc 41 args).run Tryd.prog w = .ok (.enter 41 args) w := fun args w => by simp [go_sem]
theorem wp_build3S {o : Oper} {a : Act} {w : World} {K : Act → World → Prop} {Q : Exit → Act → World → Prop} (x y z : Operand) (ho : o.op = .buildSlice 73 3 #[(0, x), (1, y), (2, z)]) (p q s : ByteArray) (h0 : a.eval x = .string p) (h1 : a.eval y = .string q) (h2 : a.eval z = .string s)
    (h : K (a.put o.dst (.slice (some ⟨w.heap.size, 0, none⟩) 3 3)) (w.alloc (.cells #[.string p, .string q, .string s] 9))) : o.wp Tryd.prog a w K Q := by
  unfold Oper.wp execOp
  simp only [ho, List.map_toArray, List.map_cons, List.map_nil, h0, h1, h2]
  simp [go_sem]
  exact h
theorem wp_build1R {o : Oper} {a : Act} {w : World} {K : Act → World → Prop} {Q : Exit → Act → World → Prop} (x : Operand) (ho : o.op = .buildSlice 22 1 #[(0, x)]) (k0 : ByteArray) (a0 : Option Addr) (n0 c0 : Nat) (h0 : a.eval x = .agg #[.string k0, .slice a0 n0 c0])
    (h : K (a.put o.dst (.slice (some ⟨w.heap.size, 0, none⟩) 1 1)) (w.alloc (.cells #[.string k0, .slice a0 n0 c0] 75))) : o.wp Tryd.prog a w K Q := by
  unfold Oper.wp execOp
  simp only [ho, List.map_toArray, List.map_cons, List.map_nil, h0]
  simp [go_sem]
  exact h
theorem wp_appR (w : World) {o : Oper} {a : Act} {K : Act → World → Prop} {Q : Exit → Act → World → Prop} (s x : Operand) (ho : o.op = .call { callee := .builtin .append, args := #[s, x], argTypes := #[22, 22] })
    (B : Nat) (v : Value) (l : List Rw) (hs : a.eval s = v) (hown : w.ownsRow B 75 2 v l.length (rvCells l)) (e : Rw) (b : Nat) (hx : a.eval x = .slice (some ⟨b, 0, none⟩) 1 1) (hr : w.rangeAt b 0 e.vals) (hl : l.length ≤ 1000) (hB : B ≤ w.heap.size)
    (h : ∀ k cap w', w'.ownsRow B 75 2 (.slice (some ⟨k, 0, none⟩) (l ++ [e]).length cap) (l ++ [e]).length (rvCells (l ++ [e])) → w.grownBy w' v.ownBlock → (v.ownBlock = some k ∨ k = w.heap.size) → K (a.put o.dst (.slice (some ⟨k, 0, none⟩) (l ++ [e]).length cap)) w') : o.wp Tryd.prog a w K Q := by
  obtain ⟨i0, hi, hz0, hz1, hz2⟩ := info_parts Tryd.infoR
  refine wp_append_lies w s x 22 ho B 75 i0 (.agg #[.string ⟨#[]⟩, .slice none 0 0]) 2 40 Tryd.underlying22 hi hz0 hz1 hz2 rfl (by decide) v l.length (rvCells l) hs hown ⟨b, 0, none⟩ 1 1 e.vals hx rfl (fun j u hj => by rw [addr_add]; exact hr j u hj) (by rw [← rvCells_one]; exact rvCells_oneCell _) (by decide) (by unfold maxLen; omega) (by omega) hB w.heap.size rfl ?_
  intro k cap w' h1 h2 h3 _
  rw [show rvCells l ++ e.vals = rvCells (l ++ [e]) by rw [rvCells_append, rvCells_one], show l.length + 1 = (l ++ [e]).length by simp] at h1
  have := h k cap w' h1 h2 h3
  rw [show (l ++ [e]).length = l.length + 1 by simp] at this
  exact this
theorem texts3_new (w : World) (p q s : ByteArray) : (w.alloc (.cells #[.string p, .string q, .string s] 9)).ownsRow 0 9 1 (.slice (some ⟨w.heap.size, 0, none⟩) 3 3) 3 (strsOf [p, q, s]) :=
  ⟨rfl, .inr ⟨w.heap.size, 3, _, rfl, Nat.zero_le _, heap_alloc_new w _, Nat.le_refl _, by decide, rfl, rfl⟩⟩
theorem rows_grown {w w3 w4 w5 : World} {base : Nat} {v u : Value} {l : List Rw} {x : Rw} (h : RowsAt w base v l) (hb : Below w.heap.size w w4) (hg : w4.grownBy w5 v.ownBlock) (hown : w5.ownsRow base 75 2 u (l ++ [x]).length (rvCells (l ++ [x]))) (hx : w3.ownsRow 0 9 1 (.slice x.a x.cols.length x.cap) x.cols.length (strsOf x.cols)) (hb4 : Below w3.heap.size w3 w4) : RowsAt w5 base u (l ++ [x]) := by
  have key : ∀ y : Rw, w4.ownsRow 0 9 1 (.slice y.a y.cols.length y.cap) y.cols.length (strsOf y.cols) → w5.ownsRow 0 9 1 (.slice y.a y.cols.length y.cap) y.cols.length (strsOf y.cols) := fun y hy => by
    refine ⟨hy.1, ?_⟩
    rcases hy.2 with h0 | ⟨k, cap, cur, hv, hk, hj, r⟩
    · exact .inl h0
    · refine .inr ⟨k, cap, cur, hv, hk, (hg.block k (heap_lt hj) (fun e => ?_)).trans hj, r⟩
      rcases (own_onW h.1 hb).2 with ⟨h0, _⟩ | ⟨k2, cap2, cur2, hv2, hk2, hj2, _⟩
      · rw [h0] at e; cases e
      · rw [hv2] at e
        cases e
        rw [hj] at hj2
        injection hj2 with h3
        injection h3 with _ h3
        exact absurd h3 (by decide)
  refine ⟨hown, fun y hy => ?_⟩
  rcases List.mem_append.1 hy with hy | hy
  · exact key y (own_onW (h.2 y hy) hb)
  · rw [List.mem_singleton.1 hy]
    exact key x (own_onW hx hb4)
set_option maxHeartbeats 4000000 in
theorem rows_region7 {V0 W5 : World} {base E n0 c0 : Nat} {a0 : Option Addr} {l : List Rw} {e : Ev} {A : Act} (sz : A.tmps.size = 69) (e3 : A.eval (.tmp 3) = .slice a0 n0 c0) (e5 : A.eval (.tmp 5) = .pointer (some ⟨E, 0, none⟩))
    (hV0 : V0 = W5.drew) (hs0 : V0.heap[E]? = some (.cells (eVals e).toArray 55 (0, 0))) (H0 : RowsAt V0 base (.slice a0 n0 c0) l) (hT : TabAt V0) (hn : e.num ≤ 4611686018427387904) (ht : e.tim ≤ 4611686018427387904) (hfew : l.length ≤ 1000) (hbase : base ≤ V0.heap.size) (hneE : (.slice a0 n0 c0 : Value).ownBlock ≠ some E) :
    (codeRw 7).wp Tryd.prog (fun x a V => x = .normal ∧ ∃ V2 V3 : World, ∃ kk cap, a = ((((((((((((((((A.put (some 52) (.slice a0 n0 c0)).put (some 53) (.pointer (some ⟨E, 0, none⟩))).put (some 54) (.int .i64 (e.num : Int))).put (some 56) (.pointer (some ⟨E, 1, none⟩))).put (some 57) (.int .i64 (e.tim : Int))).put (some 59) (.pointer (some ⟨E, 2, none⟩))).put (some 60) (.string e.what)).put (some 61) (.pointer (some ⟨E, 3, none⟩))).put (some 62) (.string e.who)).put (some 55) (.string (evKey e.num))).put (some 58) (.string (txt e.tim))).put (some 63) (.slice (some ⟨V2.heap.size, 0, none⟩) 3 3)).put (some 64) (.agg #[.string (evKey e.num), .slice (some ⟨V2.heap.size, 0, none⟩) 3 3])).put (some 65) (.slice (some ⟨V3.heap.size, 0, none⟩) 1 1)).put (some 66) (.slice (some ⟨kk, 0, none⟩) (l ++ [evRow e V2.heap.size]).length cap)).put (some 3) (.slice (some ⟨kk, 0, none⟩) (l ++ [evRow e V2.heap.size]).length cap)) ∧ RowsAt V base (.slice (some ⟨kk, 0, none⟩) (l ++ [evRow e V2.heap.size]).length cap) (l ++ [evRow e V2.heap.size]) ∧ Below base V0 V) A W5 := by
  have hm : Tryd.prog.follows .mixedOrders = true := by kernel_rfl
  unfold codeRw
  conv => arg 2; whnf
  refine wp_region_held (S := fun V => V.heap[E]? = some (.cells (eVals e).toArray 55 (0, 0))) hm ?_
  rw [show ({ W5 with drawn := W5.drawn + 1 } : World) = V0 from hV0.symm]
  refine tkH (i := 0) (d := 52) (v := .slice a0 n0 c0) rfl rfl (yields_move (by simp [Region.wanted]) (.tmp 3) rfl _ e3) hs0 ?_
  refine tkH (i := 1) (d := 53) (v := .pointer (some ⟨E, 0, none⟩)) rfl rfl (y_ev 0 (by decide) (by simp [Region.wanted]) (.tmp 5) rfl E (evn e5)) hs0 ?_
  refine tkH (i := 2) (d := 54) (v := .int .i64 (e.num : Int)) rfl rfl (y_loadI (by simp [Region.wanted]) (.tmp 53) rfl E 0 _ (ev_eq _ _ (by simp [put_sz, sz])) (fun V hV => range_whole hV 0 _ rfl)) hs0 ?_
  refine tkH (i := 4) (d := 56) (v := .pointer (some ⟨E, 1, none⟩)) rfl rfl (y_ev 1 (by decide) (by simp [Region.wanted]) (.tmp 5) rfl E (evn (evn (evn e5)))) hs0 ?_
  refine tkH (i := 5) (d := 57) (v := .int .i64 (e.tim : Int)) rfl rfl (y_loadI (by simp [Region.wanted]) (.tmp 56) rfl E 1 _ (ev_eq _ _ (by simp [put_sz, sz])) (fun V hV => range_whole hV 1 _ rfl)) hs0 ?_
  refine tkH (i := 7) (d := 59) (v := .pointer (some ⟨E, 2, none⟩)) rfl rfl (y_ev 2 (by decide) (by simp [Region.wanted]) (.tmp 5) rfl E (evn (evn (evn (evn (evn e5)))))) hs0 ?_
  refine tkH (i := 8) (d := 60) (v := .string e.what) rfl rfl (y_loadS (by simp [Region.wanted]) (.tmp 59) rfl E 2 _ (ev_eq _ _ (by simp [put_sz, sz])) (fun V hV => range_whole hV 2 _ rfl)) hs0 ?_
  refine tkH (i := 9) (d := 61) (v := .pointer (some ⟨E, 3, none⟩)) rfl rfl (y_ev 3 (by decide) (by simp [Region.wanted]) (.tmp 5) rfl E (evn (evn (evn (evn (evn (evn (evn e5)))))))) hs0 ?_
  refine tkH (i := 10) (d := 62) (v := .string e.who) rfl rfl (y_loadS (by simp [Region.wanted]) (.tmp 61) rfl E 3 _ (ev_eq _ _ (by simp [put_sz, sz])) (fun V hV => range_whole hV 3 _ rfl)) hs0 ?_
  obtain ⟨A2, hA2⟩ : ∃ A2, A2 = (((((((((A.put (some 52) (.slice a0 n0 c0)).put (some 53) (.pointer (some ⟨E, 0, none⟩))).put (some 54) (.int .i64 (e.num : Int))).put (some 56) (.pointer (some ⟨E, 1, none⟩))).put (some 57) (.int .i64 (e.tim : Int))).put (some 59) (.pointer (some ⟨E, 2, none⟩))).put (some 60) (.string e.what)).put (some 61) (.pointer (some ⟨E, 3, none⟩))).put (some 62) (.string e.who)) := ⟨_, rfl⟩
  have szA2 : A2.tmps.size = 69 := by rw [hA2]; simp [put_sz, sz]
  have eA252 : A2.eval (.tmp 52) = .slice a0 n0 c0 := by rw [hA2]; exact (evn (evn (evn (evn (evn (evn (evn (evn (ev_eq _ _ (by simp [sz]))))))))))
  have eA254 : A2.eval (.tmp 54) = .int .i64 (e.num : Int) := by rw [hA2]; exact (evn (evn (evn (evn (evn (evn (ev_eq _ _ (by simp [put_sz, sz]))))))))
  have eA257 : A2.eval (.tmp 57) = .int .i64 (e.tim : Int) := by rw [hA2]; exact (evn (evn (evn (evn (ev_eq _ _ (by simp [put_sz, sz]))))))
  have eA260 : A2.eval (.tmp 60) = .string e.what := by rw [hA2]; exact (evn (evn (ev_eq _ _ (by simp [put_sz, sz]))))
  have eA262 : A2.eval (.tmp 62) = .string e.who := by rw [hA2]; exact (ev_eq _ _ (by simp [put_sz, sz]))
  rw [← hA2]
  refine wpAnyH_all (rs := [3]) (by kernel_rfl) (by simp) fun i1 hm1 => ?_
  obtain rfl : i1 = 3 := by simpa using hm1
  refine wpOp_own rfl rfl fun K1 hK1 => ?_
  refine wp_calls1 41 hf_eventKey (.tmp 54) _ rfl (.int .i64 (e.num : Int)) eA254 ?_
  refine (eventKey_any e.num hn V0 hT).mono ?_
  rintro _ V1 ⟨rfl, hb1⟩
  have hs1 := (hb1.block E (heap_lt hs0)).trans hs0
  refine ⟨_, rfl, hK1 _ _ ⟨hs1, ?_⟩⟩
  clear hK1 K1 hm1
  show wpAnyH _ _ _ _ _ _ _ (A2.put (some 55) (.string (evKey e.num))) _
  refine wpAnyH_all (rs := [6]) (by kernel_rfl) (by simp) fun i2 hm2 => ?_
  obtain rfl : i2 = 6 := by simpa using hm2
  refine wpOp_own rfl rfl fun K2 hK2 => ?_
  refine wp_calls1 42 hf_text (.tmp 57) _ rfl (.int .i64 (e.tim : Int)) (evn eA257) ?_
  refine (text_any e.tim ht V1 (hT.below hb1)).mono ?_
  rintro _ V2 ⟨rfl, hb2⟩
  have hs2 := (hb2.block E (heap_lt hs1)).trans hs1
  refine ⟨_, rfl, hK2 _ _ ⟨hs2, ?_⟩⟩
  clear hK2 K2 hm2
  show wpAnyH _ _ _ _ _ _ _ ((A2.put (some 55) (.string (evKey e.num))).put (some 58) (.string (txt e.tim))) _
  refine wpAnyH_all (rs := [11]) (by kernel_rfl) (by simp) fun i3 hm3 => ?_
  obtain rfl : i3 = 11 := by simpa using hm3
  refine wpOp_own rfl rfl fun K3 hK3 => ?_
  refine wp_build3S (.tmp 58) (.tmp 60) (.tmp 62) rfl (txt e.tim) e.what e.who (ev_eq _ _ (by simp [put_sz, szA2])) (evn (evn eA260)) (evn (evn eA262)) ?_
  have b3 : Below V2.heap.size V2 (V2.alloc (.cells #[.string (txt e.tim), .string e.what, .string e.who] 9)) := (Below.refl _ V2).alloc (Nat.le_refl _) _
  have hs3 := (b3.block E (heap_lt hs2)).trans hs2
  refine hK3 _ _ ⟨hs3, ?_⟩
  clear hK3 K3 hm3
  show wpAnyH _ _ _ _ _ _ _ (((A2.put (some 55) (.string (evKey e.num))).put (some 58) (.string (txt e.tim))).put (some 63) (.slice (some ⟨V2.heap.size, 0, none⟩) 3 3)) _
  refine tkH (i := 12) (d := 64) (v := .agg #[.string (evKey e.num), .slice (some ⟨V2.heap.size, 0, none⟩) 3 3]) rfl rfl (y_buildR (by simp [Region.wanted]) (.tmp 55) (.tmp 63) rfl _ _ _ _ (evn (evn (ev_eq _ _ (by simp [szA2])))) (ev_eq _ _ (by simp [put_sz, szA2]))) hs3 ?_
  obtain ⟨A3, hA3⟩ : ∃ A3, A3 = ((((A2.put (some 55) (.string (evKey e.num))).put (some 58) (.string (txt e.tim))).put (some 63) (.slice (some ⟨V2.heap.size, 0, none⟩) 3 3)).put (some 64) (.agg #[.string (evKey e.num), .slice (some ⟨V2.heap.size, 0, none⟩) 3 3])) := ⟨_, rfl⟩
  have szA3 : A3.tmps.size = 69 := by rw [hA3]; simp [put_sz, szA2]
  have eA352 : A3.eval (.tmp 52) = .slice a0 n0 c0 := by rw [hA3]; exact (evn (evn (evn (evn eA252))))
  have eA364 : A3.eval (.tmp 64) = .agg #[.string (evKey e.num), .slice (some ⟨V2.heap.size, 0, none⟩) 3 3] := by rw [hA3]; exact (ev_eq _ _ (by simp [put_sz, szA2]))
  rw [← hA3]
  refine wpAnyH_all (rs := [13]) (by kernel_rfl) (by simp) fun i4 hm4 => ?_
  obtain rfl : i4 = 13 := by simpa using hm4
  refine wpOp_own rfl rfl fun K4 hK4 => ?_
  refine wp_build1R (.tmp 64) rfl _ _ _ _ eA364 ?_
  obtain ⟨V3, hV3⟩ : ∃ V3, V3 = V2.alloc (.cells #[.string (txt e.tim), .string e.what, .string e.who] 9) := ⟨_, rfl⟩
  rw [← hV3] at hs3 b3 ⊢
  have b4 : Below V3.heap.size V3 (V3.alloc (.cells (Rw.vals (evRow e V2.heap.size)).toArray 75)) := (Below.refl _ V3).alloc (Nat.le_refl _) _
  have hs4 := (b4.block E (heap_lt hs3)).trans hs3
  refine hK4 _ _ ⟨hs4, ?_⟩
  clear hK4 K4 hm4
  show wpAnyH _ _ _ _ _ _ _ (A3.put (some 65) (.slice (some ⟨V3.heap.size, 0, none⟩) 1 1)) _
  refine wpAnyH_all (rs := [14]) (by kernel_rfl) (by simp) fun i5 hm5 => ?_
  obtain rfl : i5 = 14 := by simpa using hm5
  refine wpOp_own rfl rfl fun K5 hK5 => ?_
  have b04 : Below V0.heap.size V0 (V3.alloc (.cells (Rw.vals (evRow e V2.heap.size)).toArray 75)) := Below.on' (Below.on' (Below.on' hb1 hb2) b3) b4
  refine wp_appR _ (.tmp 52) (.tmp 65) rfl base (.slice a0 n0 c0) l (evn eA352) (own_onW H0.1 b04) (evRow e V2.heap.size) V3.heap.size (ev_eq _ _ (by simp [szA3])) (range_newR V3 _) hfew (Nat.le_trans hbase b04.size) ?_
  intro kk cap V5 hown hgrow hk
  have hs5 : V5.heap[E]? = some (.cells (eVals e).toArray 55 (0, 0)) := (hgrow.block E (heap_lt hs4) (fun x => hneE x.symm)).trans hs4
  refine hK5 _ _ ⟨hs5, ?_⟩
  clear hK5 K5 hm5
  show wpAnyH _ _ _ _ _ _ _ ((A3.put (some 65) (.slice (some ⟨V3.heap.size, 0, none⟩) 1 1)).put (some 66) (.slice (some ⟨kk, 0, none⟩) (l ++ [evRow e V2.heap.size]).length cap)) _
  refine tkH (i := 15) (d := 3) (v := .slice (some ⟨kk, 0, none⟩) (l ++ [evRow e V2.heap.size]).length cap) rfl rfl (y_assign (by simp [Region.wanted]) (.tmp 66) rfl _ (ev_eq _ _ (by simp [put_sz, szA3]))) hs5 ?_
  refine wpAnyH_done (by kernel_rfl) ⟨rfl, V2, V3, kk, cap, by rw [hA3, hA2], rows_grown H0 b04 hgrow hown (by rw [hV3]; exact texts3_new V2 _ _ _) b4, (((Below.refl _ V0).mono hbase).trans (b04.mono hbase)).grown hgrow (Nat.le_trans hbase b04.size) (fun j hj => (H0.1.lt j hj).1)⟩ _
end Go.Proofs.YthfmpebgmojcaaaDoor
/- (*Chain).Rows, by a contract. -/
namespace Go.Proofs.YthfmpebgmojcaaaDoor
open Go.RowKit
set_option linter.unusedVariables false
set_option maxRecDepth 20000
def headRows (c : Ch) : List (ByteArray × List ByteArray) := [(⟨#[35]⟩, [c.bn, c.an, c.la].map txt), (⟨#[97]⟩, [mkB c.ah]), (⟨#[98]⟩, [mkB c.bh]), (⟨#[104]⟩, [mkB c.hd])]
def evText (e : Ev) : ByteArray × List ByteArray := (evKey e.num, [txt e.tim, e.what, e.who])
def rowsOf (c : Ch) : List (ByteArray × List ByteArray) := headRows c ++ c.ev.map evText
def Rw.text (x : Rw) : ByteArray × List ByteArray := (x.key, x.cols)
theorem text1_at {w : World} {g : Nat} {t : ByteArray} (h : w.heap[g]? = some (.cells #[.string t] 9 (0, 0))) : w.ownsRow 0 9 1 (.slice (some ⟨g, 0, none⟩) 1 1) 1 (strsOf [t]) :=
  ⟨rfl, .inr ⟨g, 1, _, rfl, Nat.zero_le _, h, Nat.le_refl _, by decide, rfl, rfl⟩⟩
theorem own_val9 {w : World} {B e s n : Nat} {v : Value} {xs : List Value} (h : w.ownsRow B e s v n xs) : ∃ a cap, v = .slice a n cap := by
  rcases h.2 with ⟨rfl, h0⟩ | ⟨k, cap, cur, rfl, _⟩
  · exact ⟨none, 0, by rw [h0]⟩
  · exact ⟨_, cap, rfl⟩
def RowsPost (w : World) (c : Ch) (e : Ending) (w' : World) : Prop := ∃ v l, e = .returned v ∧ RowsAt w' w.heap.size v l ∧ l.map Rw.text = rowsOf c ∧ Below w.heap.size w w'
theorem RowsAt.on {w w' : World} {base : Nat} {v : Value} {l : List Rw} (h : RowsAt w base v l) (hb : Below w.heap.size w w') : RowsAt w' base v l := ⟨own_onW h.1 hb, fun x hx => own_onW (h.2 x hx) hb⟩
set_option maxHeartbeats 4000000 in
theorem rows_any {w : World} {B g : Nat} {v : Value} {c : Ch} (h : ChAt w B g v c) (ok : ChOk c) (hc : c.cnt < 1152921504606846976) (hT : Tabs w B) (hB : B ≤ w.heap.size) :
    Calls Tryd.prog 10 #[.pointer (some ⟨g, 0, none⟩)] w (RowsPost w c) := by
  obtain ⟨a0, cap, rfl⟩ := h.val
  have hsm : ∀ n ∈ [c.bn, c.an, c.la], n ≤ 4611686018427387904 := by
    have h1 := ok.anc
    have h2 := ok.las
    unfold Ch.cnt at hc
    intro n hn
    simp at hn
    rcases hn with rfl | rfl | rfl <;> omega
  have hev : ∀ i (hi : i < c.ev.length), (c.ev[i]).num ≤ 4611686018427387904 ∧ (c.ev[i]).tim ≤ 4611686018427387904 := fun i hi => by
    have h1 := ok.num i hi
    have h2 := ok.tim _ (List.getElem_mem hi)
    have h3 := ok.las
    unfold Ch.cnt at hc
    omega
  have HH := hid h
  have OK := hid ok
  have HT := hid hT
  have Hsm := hid hsm
  have Hev := hid hev
  have hfew := ok.few
  clear h ok hT hsm hev
  go_enter Tryd.func10, Tryd.ntmps10
  go_wp2_with fail
  obtain ⟨V0, hV0⟩ : ∃ V0, V0 = w.drew := ⟨_, rfl⟩
  have b0 : Below w.heap.size w V0 := by rw [hV0]; exact (Below.refl _ w).drew
  refine wp_act _ fun A hA => ?_
  have sz : A.tmps.size = 69 := by rw [hA]; rfl
  have e0 : A.eval (.tmp 0) = .pointer (some ⟨g, 0, none⟩) := by rw [hA]; rfl
  refine wp_split _ (rows_region3 sz e0 hV0 ⟨HH.out.below b0, HT.out.below hB b0, Nat.le_trans hB b0.size⟩ OK.out.l Hsm.out) ?_
  rintro _ _ ⟨V5, at3, ct3, g3, g4, g5, rfl, rfl, htx, hg3, hg4, hg5, b5⟩
  rw [hA]
  simp only [Act.put, List.setIfInBounds_toArray, List.set_cons_succ, List.set_cons_zero]
  clear sz e0 hA A
  have bV5 : Below w.heap.size w V5 := Below.on' b0 b5
  obtain ⟨V6, hV6⟩ : ∃ V6, V6 = V5.alloc (.cells #[.string ⟨#[35]⟩, .slice at3 3 ct3, .string ⟨#[97]⟩, .slice (some ⟨g3, 0, none⟩) 1 1, .string ⟨#[98]⟩, .slice (some ⟨g4, 0, none⟩) 1 1, .string ⟨#[104]⟩, .slice (some ⟨g5, 0, none⟩) 1 1] 75) := ⟨_, rfl⟩
  have b6 : Below V5.heap.size V5 V6 := by rw [hV6]; exact (Below.refl _ V5).alloc (Nat.le_refl _) _
  have bV6 : Below w.heap.size w V6 := Below.on' bV5 b6
  obtain ⟨L0, hL0⟩ : ∃ L0 : List Rw, L0 = [⟨⟨#[35]⟩, at3, [c.bn, c.an, c.la].map txt, ct3⟩, ⟨⟨#[97]⟩, some ⟨g3, 0, none⟩, [mkB c.ah], 1⟩, ⟨⟨#[98]⟩, some ⟨g4, 0, none⟩, [mkB c.bh], 1⟩, ⟨⟨#[104]⟩, some ⟨g5, 0, none⟩, [mkB c.hd], 1⟩] := ⟨_, rfl⟩
  have hR6 : RowsAt V6 w.heap.size (.slice (some ⟨V5.heap.size, 0, none⟩) 4 4) L0 := by
    refine ⟨?_, fun x hx => own_onW (w := V5) ?_ b6⟩
    · rw [hL0]
      refine ⟨rfl, .inr ⟨V5.heap.size, 4, _, rfl, bV5.size, by rw [hV6]; exact heap_alloc_new V5 _, Nat.le_refl _, by decide, rfl, rfl⟩⟩
    · rw [hL0] at hx
      simp only [List.mem_cons, List.not_mem_nil, or_false] at hx
      rcases hx with rfl | rfl | rfl | rfl
      · exact htx
      · exact text1_at hg3
      · exact text1_at hg4
      · exact text1_at hg5
  have hT6 : L0.map Rw.text = headRows c := by rw [hL0]; rfl
  have hl6 : L0.length = 4 := by rw [hL0]; rfl
  rw [← hV6]
  have HR6 := hid hR6
  have HT6 := hid hT6
  have BV6 := hid bV6
  have q66 := (HH.out.below bV6).c66 OK.out.l
  have Hl6 := hid hl6
  clear hV6 hL0 hR6 hT6 hl6 b6 bV6 htx hg3 hg4 hg5 b5 bV5 b0 hV0
  go_wp2_with fail
  go_loopw [3, 48] (fun v3 i wr => ∃ k : Nat, k ≤ c.ev.length ∧ i = .int .i64 (k : Int) ∧ ∃ L : List Rw, RowsAt wr w.heap.size v3 L ∧ L.map Rw.text = headRows c ++ (c.ev.take k).map evText ∧ Below w.heap.size w wr) (fun _ i _ => c.ev.length - (intOf i).toNat)
  case atStart => exact ⟨0, Nat.zero_le _, rfl, _, HR6.out, by rw [HT6.out]; simp, BV6.out⟩
  case round =>
    obtain ⟨k, hk, rfl, L, hR, hLt, hbel⟩ := hrel
    have hLl : L.length = 4 + k := by
      have := congrArg List.length hLt
      simp [headRows, Nat.min_eq_left hk] at this
      omega
    obtain ⟨a3, c3, rfl⟩ := own_val9 hR.1
    have HR := hid hR
    have HLt := hid hLt
    have Hbel := hid hbel
    have HLl := hid hLl
    clear hR hLt hbel hLl HR6 HT6 BV6 Hl6
    by_cases hlt : k < c.ev.length
    · have g1 : (k : Int) < (c.ev.length : Int) := by omega
      obtain ⟨b, rfl, hrow⟩ := (HH.out.below Hbel.out).row_at k hlt
      obtain ⟨hn, ht⟩ := Hev.out k hlt
      have Hst : Hid ((c.ev.take (k + 1)).map evText = (c.ev.take k).map evText ++ [evText c.ev[k]]) := by show _ = _; rw [List.take_succ_eq_append_getElem hlt, List.map_append]; rfl
      generalize (c.ev[k]'hlt) = e at *
      have d0 : wr.cell? ⟨b, k * 4, none⟩ = some (.int .i64 (e.num : Int)) := hrow 0 _ rfl
      have d1 : wr.cell? ⟨b, k * 4 + 1, none⟩ = some (.int .i64 (e.tim : Int)) := hrow 1 _ rfl
      have d2 : wr.cell? ⟨b, k * 4 + 2, none⟩ = some (.string e.what) := hrow 2 _ rfl
      have d3 : wr.cell? ⟨b, k * 4 + 3, none⟩ = some (.string e.who) := hrow 3 _ rfl
      have Hn := hid hn
      have Ht := hid ht
      clear hrow hn ht
      go_wp2_with fail
      obtain ⟨W5, hW5⟩ : ∃ W5, W5 = wr.alloc (.cells #[.int .i64 (e.num : Int), .int .i64 (e.tim : Int), .string e.what, .string e.who] 55) := ⟨_, rfl⟩
      have b5 : Below wr.heap.size wr W5 := by rw [hW5]; exact (Below.refl _ wr).alloc (Nat.le_refl _) _
      have s5 : W5.heap[wr.heap.size]? = some (.cells (eVals e).toArray 55 (0, 0)) := by rw [hW5]; exact heap_alloc_new wr _
      rw [← hW5]
      obtain ⟨V0, hV0⟩ : ∃ V0, V0 = W5.drew := ⟨_, rfl⟩
      have b6 : Below wr.heap.size wr V0 := by rw [hV0]; exact b5.drew
      have s6 : V0.heap[wr.heap.size]? = some (.cells (eVals e).toArray 55 (0, 0)) := by rw [hV0]; exact s5
      have T6 : TabAt V0 := (HT.out.below hB (Below.on' Hbel.out b6)).tab
      have hneE : (Value.slice a3 L.length c3).ownBlock ≠ some wr.heap.size := fun x => by have := (HR.out.1.lt _ x).2; omega
      refine wp_act _ fun A hA => ?_
      have sz : A.tmps.size = 69 := by rw [hA]; rfl
      have e3 : A.eval (.tmp 3) = .slice a3 L.length c3 := by rw [hA]; rfl
      have e5 : A.eval (.tmp 5) = .pointer (some ⟨wr.heap.size, 0, none⟩) := by rw [hA]; rfl
      refine wp_split _ (rows_region7 sz e3 e5 hV0 s6 (HR.out.on b6) T6 Hn.out Ht.out (by have := HLl.out; omega) (Nat.le_trans Hbel.out.size b6.size) hneE) ?_
      rintro _ V1 ⟨V2, V3, kk, cp, rfl, hR1, b7⟩
      rw [hA]
      simp only [Act.put, List.setIfInBounds_toArray, List.set_cons_succ, List.set_cons_zero]
      have hT1 : (L ++ [evRow e V2.heap.size]).map Rw.text = headRows c ++ (c.ev.take (k + 1)).map evText := by
        rw [List.map_append, HLt.out, Hst.out, List.append_assoc]
        rfl
      obtain ⟨L1, hL1⟩ : ∃ L1, L1 = L ++ [evRow e V2.heap.size] := ⟨_, rfl⟩
      rw [← hL1] at hR1 hT1 ⊢
      have HR1 := hid hR1
      have HT1 := hid hT1
      have B1 := hid ((Below.on' Hbel.out b6).trans b7)
      clear sz e3 e5 hA A hR1 hT1 b7 hL1 b5 b6 s5 s6 T6 hW5 hV0 hneE d0 d1 d2 d3
      go_wp2_with fail
      go_roundw
      case rel => exact ⟨k + 1, by omega, by go_num, L1, HR1.out, HT1.out, B1.out⟩
      case measure => simp [intOf]; omega
    · have hkl : k = c.ev.length := by omega
      have g1 : ¬ (k : Int) < (c.ev.length : Int) := by omega
      have hend := HLt.out
      rw [hkl, List.take_length] at hend
      have Hend := hid hend
      clear hkl hend
      go_wp2_with fail
      go_ret
      exact ⟨_, L, rfl, HR.out, Hend.out, Hbel.out⟩
end Go.Proofs.YthfmpebgmojcaaaDoor
/- Loading a chain from its own rows: takeNumbers, by a contract for the right row. -/
namespace Go.Proofs.YthfmpebgmojcaaaDoor
open Go.RowKit
set_option linter.unusedVariables false
set_option maxRecDepth 20000
section
variable {w : World} {B g : Nat} {v : Value} {c : Ch}
theorem ChAt.setBn (h : ChAt w B g v c) (n : Nat) : ChAt (w.setCell ⟨g, 0, none⟩ (.int .i64 (n : Int))) B g v { c with bn := n } := by
  refine ⟨?_, h.row_set 0 [_], h.bg⟩
  rw [heap_setCell_same w g 0 _ _ _ h.obj, List.setIfInBounds_toArray]
  rfl
theorem ChAt.setAn (h : ChAt w B g v c) (ok : Lens c) (n : Nat) : ChAt (w.setCell ⟨g, 33, none⟩ (.int .i64 (n : Int))) B g v { c with an := n } := by
  refine ⟨?_, h.row_set 33 [_], h.bg⟩
  rw [heap_setCell_same w g 33 _ _ _ h.obj, List.setIfInBounds_toArray]
  unfold ccells
  rw [show lnkC c.an c.ah = .int .i64 (c.an : Int) :: cellsOf c.ah from rfl, List.cons_append, set_mid _ _ _ _ 33 (by simp [lnkC_length, ok.lb])]
  rfl
end
set_option maxHeartbeats 1000000 in
theorem takeNumbers_ok {w : World} {B g : Nat} {v : Value} {c : Ch} (h : ChAt w B g v c) (ok : Lens c) (ad : Option Addr) (cp p q s : Nat) (ht : Texts w ad ([p, q, s].map txt)) (h1 : p ≤ 1099511627776) (h2 : q ≤ 1099511627776) (h3 : s ≤ 1099511627776) :
    Calls Tryd.prog 31 #[.pointer (some ⟨g, 0, none⟩), .agg #[.string ⟨#[35]⟩, .slice ad 3 cp]] w fun e w' => e = .returned (.bool true) ∧ ChAt w' B g v { c with bn := p, an := q, la := s } ∧ Out (fun j => j = g) w w' := by
  have hb0 : Below w.heap.size w (w.alloc (.cells #[.string ⟨#[35]⟩, .slice ad 3 cp] 75)) := (Below.refl _ w).alloc (Nat.le_refl _) _
  have h0 := h.below hb0
  have ht0 := ht.below hb0
  obtain ⟨b, o, rfl, j0⟩ := ht0 0 (by simp)
  obtain ⟨b1, o1, e1, j1⟩ := ht0 1 (by simp)
  cases e1
  obtain ⟨b2, o2, e2, j2⟩ := ht0 2 (by simp)
  cases e2
  have k0 : (w.alloc (.cells #[.string ⟨#[35]⟩, .slice (some ⟨b, o, none⟩) 3 cp] 75)).cell? ⟨b, o, none⟩ = some (.string (txt p)) := j0
  have k1 : (w.alloc (.cells #[.string ⟨#[35]⟩, .slice (some ⟨b, o, none⟩) 3 cp] 75)).cell? ⟨b, o + 1, none⟩ = some (.string (txt q)) := j1
  have k2 : (w.alloc (.cells #[.string ⟨#[35]⟩, .slice (some ⟨b, o, none⟩) 3 cp] 75)).cell? ⟨b, o + 2, none⟩ = some (.string (txt s)) := j2
  clear j0 j1 j2 ht ht0
  have C1 := hid (fun W => number_back p 0 1099511627776 (Nat.zero_le _) h1 (by decide) W)
  have C2 := hid (fun W => number_back q 0 1099511627776 (Nat.zero_le _) h2 (by decide) W)
  have C3 := hid (fun W => number_back s 0 1099511627776 (Nat.zero_le _) h3 (by decide) W)
  generalize txt p = tp at *
  generalize txt q = tq at *
  generalize txt s = ts at *
  have q0 := h0.c0
  have f0 := h0.fz 0
  have h4 := h0.setBn p
  have q33 := h4.c33 (c := { c with bn := p }) ⟨ok.lb, ok.lan, ok.lh⟩
  have f33 := h4.fz 33
  have h5 := h4.setAn (c := { c with bn := p }) ⟨ok.lb, ok.lan, ok.lh⟩ q
  have q99 := h5.c99 (c := { c with bn := p, an := q }) ⟨ok.lb, ok.lan, ok.lh⟩
  have f99 := h5.fz 99
  have h6 := h5.setLa (c := { c with bn := p, an := q }) ⟨ok.lb, ok.lan, ok.lh⟩ s
  have H6 := hid h6
  have HB := hid hb0
  clear h h0 h4 h5 h6 hb0
  go_enter Tryd.func31, Tryd.ntmps31
  go_wp2_with fail
  refine (C1.out _).mono ?_
  rintro x w1 ⟨rfl, e9⟩
  subst w1
  go_wp2_with fail
  refine (C2.out _).mono ?_
  rintro x w1 ⟨rfl, e9⟩
  subst w1
  go_wp2_with fail
  refine (C3.out _).mono ?_
  rintro x w1 ⟨rfl, e9⟩
  subst w1
  go_wp2_with fail
  go_ret
  exact ⟨rfl, H6.out, Out.setCell (P := fun j => j = g) (Out.setCell (P := fun j => j = g) (Out.setCell (P := fun j => j = g) (Out.of_below HB.out) ⟨g, 0, none⟩ _ rfl) ⟨g, 33, none⟩ _ rfl) ⟨g, 99, none⟩ _ rfl⟩
end Go.Proofs.YthfmpebgmojcaaaDoor
