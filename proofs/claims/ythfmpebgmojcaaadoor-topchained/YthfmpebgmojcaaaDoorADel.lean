/- YthfmpebgmojcaaaDoorAVer6 + YthfmpebgmojcaaaDoorAVer + YthfmpebgmojcaaaDoorADel -/
import Derived.Test.YthfmpebgmojcaaaDoorTkH
import Derived.Test.YthfmpebgmojcaaaDoorALinkAt
import Derived.ArgAppend
import Derived.Deep.RegionLaw
/- Verify's regions, over a frame that is a letter. -/
namespace Go.Proofs.YthfmpebgmojcaaaDoor
open Go.RowKit Go.Shelf
set_option linter.unusedVariables false
set_option maxRecDepth 20000
theorem wanted_g {ops : Array Oper} {op : Oper} {a : Act} {i d : Nat} {b : Bool} (hg : op.guard = some (i, true)) (hd : (ops[i]?).bind (·.dst) = some d) (hsz : d < a.tmps.size) (he : a.eval (.tmp d) = .bool b) : Region.wanted op (yielded ops a.tmps) = b := by
  have h1 : a.tmps[d]? = some (.bool b) := by
    have : a.tmps.getD d undef = .bool b := he
    simp [hsz] at this
    rw [Array.getElem?_eq_getElem hsz, this]
  unfold Region.wanted yielded
  simp only [hg, hd, Option.bind_some, h1]
  cases b <;> rfl
section
variable {ops : Array Oper} {S : World → Prop} {op : Oper} {a : Act}
theorem y_skip (hw : Region.wanted op (yielded ops a.tmps) = false) : YieldsIf Tryd.prog ops S op undef a := .inr ⟨hw, rfl⟩
theorem y_eqlB (hw : Region.wanted op (yielded ops a.tmps) = true) (x y : Operand) (ho : op.op = .binOp .eql 3 x y 3) (p q : Int) (b : Bool) (hb : (p == q) = b) (hx : a.eval x = .int .i64 p) (hy : a.eval y = .int .i64 q) : YieldsIf Tryd.prog ops S op (.bool b) a := by
  rw [← hb]
  exact y_eqlI hw x y ho p q hx hy
theorem y_pickT (hw : Region.wanted op (yielded ops a.tmps) = true) (x y z : Operand) (ho : op.op = .pick x y z) (u : Value) (hx : a.eval x = .bool true) (hy : a.eval y = u) : YieldsIf Tryd.prog ops S op u a := by
  have := y_pick (S := S) hw x y z ho true u _ hx hy rfl
  exact this
theorem y_pickF (hw : Region.wanted op (yielded ops a.tmps) = true) (x y z : Operand) (ho : op.op = .pick x y z) (v : Value) (hx : a.eval x = .bool false) (hz : a.eval z = v) : YieldsIf Tryd.prog ops S op v a := by
  have := y_pick (S := S) hw x y z ho false _ v hx rfl hz
  exact this
end
def regionIn (n : Nat) : Code → Option Code
  | .region i ops b => if i = n then some (.region i ops b) else none
  | .seq a b => match regionIn n a with
    | some c => some c
    | none => regionIn n b
  | .block _ c => regionIn n c
  | .scope c => regionIn n c
  | .loop c => regionIn n c
  | .rangeFunc _ _ a b => match regionIn n a with
    | some c => some c
    | none => regionIn n b
  | .cond _ a b => match regionIn n a with
    | some c => some c
    | none => regionIn n b
  | _ => none
noncomputable def codeVer (n : Nat) : Code := ((Tryd.f11.body.bind (regionIn n)).getD .skip)
set_option maxHeartbeats 2000000 in
theorem verify_yes {ro : Option Nat} {nn : Nat} {V0 W5 : World} {B g h Lb : Nat} {v : Value} {c : Ch} {x : Lnk} {A : Act} (sz : A.tmps.size = 36) (e1 : A.eval (.tmp 1) = .pointer (some ⟨h, 0, none⟩)) (e4 : A.eval (.tmp 4) = .pointer (some ⟨Lb, 0, none⟩))
    (hV0 : V0 = W5.drew) (ok : Lens c) (hs0 : V0.heap[Lb]? = some (.cells (lnkC x.n x.h).toArray 85 (0, 0)) ∧ V0.cell? ⟨h, 0, none⟩ = some (.pointer (some ⟨g, 0, none⟩)) ∧ ChAt V0 B g v c) (hx : ((x.n : Int) == (c.an : Int)) = true) :
    (codeVer 6).wpIn (WideAt ro) nn Tryd.prog (fun e a V => e = .normal ∧ a = ((((((((((((((((((A.put (some 10) (.pointer (some ⟨Lb, 0, none⟩))).put (some 11) (.int .i64 (x.n : Int))).put (some 12) (.pointer (some ⟨g, 0, none⟩))).put (some 13) (.pointer (some ⟨g, 0, none⟩))).put (some 14) (.pointer (some ⟨g, 33, none⟩))).put (some 15) (.pointer (some ⟨g, 33, none⟩))).put (some 16) (.int .i64 (c.an : Int))).put (some 17) (.bool true)).put (some 18) (.bool true)).put (some 19) (.pointer (some ⟨Lb, 1, none⟩))).put (some 20) (.agg (bvs x.h))).put (some 21) (.pointer (some ⟨g, 0, none⟩))).put (some 22) (.pointer (some ⟨g, 0, none⟩))).put (some 23) (.pointer (some ⟨g, 33, none⟩))).put (some 24) (.pointer (some ⟨g, 34, none⟩))).put (some 25) (.agg (bvs c.ah))).put (some 26) (.bool (!(x.h == c.ah)))).put (some 27) (.bool (!(x.h == c.ah)))) ∧ V = V0) A W5 := by
  have hm : Tryd.prog.follows .mixedOrders = true := by kernel_rfl
  unfold codeVer
  conv => arg 4; whnf
  refine wpIn_region_heldAt (S := fun V => V.heap[Lb]? = some (.cells (lnkC x.n x.h).toArray 85 (0, 0)) ∧ V.cell? ⟨h, 0, none⟩ = some (.pointer (some ⟨g, 0, none⟩)) ∧ ChAt V B g v c) hm (by kernel_rfl) ?_
  rw [show ({ W5 with drawn := W5.drawn + 1 } : World) = V0 from hV0.symm]
  refine tkH (i := 0) (d := 10) (v := .pointer (some ⟨Lb, 0, none⟩)) rfl rfl (y_link0 (by simp [Region.wanted]) (.tmp 4) rfl Lb 0 e4) hs0 ?_
  refine tkH (i := 1) (d := 11) (v := .int .i64 (x.n : Int)) rfl rfl (y_loadI (by simp [Region.wanted]) (.tmp 10) rfl Lb 0 _ (ev_eq _ _ (by simp [sz])) (fun V hV => range_whole hV.1 0 _ rfl)) hs0 ?_
  refine tkH (i := 2) (d := 12) (v := .pointer (some ⟨g, 0, none⟩)) rfl rfl (y_loadP (by simp [Region.wanted]) (.tmp 1) rfl h 0 _ (evn (evn e1)) (fun V hV => hV.2.1)) hs0 ?_
  refine tkH (i := 3) (d := 13) (v := .pointer (some ⟨g, 0, none⟩)) rfl rfl (y_nil (by simp [Region.wanted]) (.tmp 12) rfl _ (ev_eq _ _ (by simp [put_sz, sz]))) hs0 ?_
  refine tkH (i := 4) (d := 14) (v := .pointer (some ⟨g, 33, none⟩)) rfl rfl (y_chain1 (by simp [Region.wanted]) (.tmp 13) rfl g (ev_eq _ _ (by simp [put_sz, sz]))) hs0 ?_
  refine tkH (i := 5) (d := 15) (v := .pointer (some ⟨g, 33, none⟩)) rfl rfl (y_link0 (by simp [Region.wanted]) (.tmp 14) rfl g 33 (ev_eq _ _ (by simp [put_sz, sz]))) hs0 ?_
  refine tkH (i := 6) (d := 16) (v := .int .i64 (c.an : Int)) rfl rfl (y_loadI (by simp [Region.wanted]) (.tmp 15) rfl g 33 _ (ev_eq _ _ (by simp [put_sz, sz])) (fun V hV => hV.2.2.c33 ok)) hs0 ?_
  refine tkH (i := 7) (d := 17) (v := .bool true) rfl rfl (y_eqlB (by simp [Region.wanted]) (.tmp 11) (.tmp 16) rfl (x.n : Int) (c.an : Int) true hx (evn (evn (evn (evn (evn (ev_eq _ _ (by simp [put_sz, sz]))))))) (ev_eq _ _ (by simp [put_sz, sz]))) hs0 ?_
  refine tkH (i := 8) (d := 18) (v := .bool true) rfl rfl (yields_move (by simp [Region.wanted]) (.tmp 17) rfl _ (ev_eq _ _ (by simp [put_sz, sz]))) hs0 ?_
  refine tkH (i := 9) (d := 19) (v := .pointer (some ⟨Lb, 1, none⟩)) rfl rfl (y_link1 (wanted_g (i := 8) (d := 18) rfl rfl (by simp [put_sz, sz]) (ev_eq _ _ (by simp [put_sz, sz]))) (.tmp 4) rfl Lb 0 (evn (evn (evn (evn (evn (evn (evn (evn (evn e4)))))))))) hs0 ?_
  refine tkH (i := 10) (d := 20) (v := .agg (bvs x.h)) rfl rfl (y_loadH (wanted_g (i := 8) (d := 18) rfl rfl (by simp [put_sz, sz]) (evn (ev_eq _ _ (by simp [put_sz, sz])))) (.tmp 19) rfl Lb 1 x.h x.len (ev_eq _ _ (by simp [put_sz, sz])) (fun V hV => link_hash hV.1)) hs0 ?_
  refine tkH (i := 11) (d := 21) (v := .pointer (some ⟨g, 0, none⟩)) rfl rfl (y_loadP (wanted_g (i := 8) (d := 18) rfl rfl (by simp [put_sz, sz]) (evn (evn (ev_eq _ _ (by simp [put_sz, sz]))))) (.tmp 1) rfl h 0 _ (evn (evn (evn (evn (evn (evn (evn (evn (evn (evn (evn e1))))))))))) (fun V hV => hV.2.1)) hs0 ?_
  refine tkH (i := 12) (d := 22) (v := .pointer (some ⟨g, 0, none⟩)) rfl rfl (y_nil (wanted_g (i := 8) (d := 18) rfl rfl (by simp [put_sz, sz]) (evn (evn (evn (ev_eq _ _ (by simp [put_sz, sz])))))) (.tmp 21) rfl _ (ev_eq _ _ (by simp [put_sz, sz]))) hs0 ?_
  refine tkH (i := 13) (d := 23) (v := .pointer (some ⟨g, 33, none⟩)) rfl rfl (y_chain1 (wanted_g (i := 8) (d := 18) rfl rfl (by simp [put_sz, sz]) (evn (evn (evn (evn (ev_eq _ _ (by simp [put_sz, sz]))))))) (.tmp 22) rfl g (ev_eq _ _ (by simp [put_sz, sz]))) hs0 ?_
  refine tkH (i := 14) (d := 24) (v := .pointer (some ⟨g, 34, none⟩)) rfl rfl (y_link1 (wanted_g (i := 8) (d := 18) rfl rfl (by simp [put_sz, sz]) (evn (evn (evn (evn (evn (ev_eq _ _ (by simp [put_sz, sz])))))))) (.tmp 23) rfl g 33 (ev_eq _ _ (by simp [put_sz, sz]))) hs0 ?_
  refine tkH (i := 15) (d := 25) (v := .agg (bvs c.ah)) rfl rfl (y_loadH (wanted_g (i := 8) (d := 18) rfl rfl (by simp [put_sz, sz]) (evn (evn (evn (evn (evn (evn (ev_eq _ _ (by simp [put_sz, sz]))))))))) (.tmp 24) rfl g 34 c.ah ok.lan (ev_eq _ _ (by simp [put_sz, sz])) (fun V hV => hV.2.2.ra ok)) hs0 ?_
  refine tkH (i := 16) (d := 26) (v := .bool (!(x.h == c.ah))) rfl rfl (y_neqH (wanted_g (i := 8) (d := 18) rfl rfl (by simp [put_sz, sz]) (evn (evn (evn (evn (evn (evn (evn (ev_eq _ _ (by simp [put_sz, sz])))))))))) (.tmp 20) (.tmp 25) rfl x.h c.ah x.len ok.lan (evn (evn (evn (evn (evn (ev_eq _ _ (by simp [put_sz, sz]))))))) (ev_eq _ _ (by simp [put_sz, sz]))) hs0 ?_
  refine tkH (i := 17) (d := 27) (v := .bool (!(x.h == c.ah))) rfl rfl (y_pickT (by simp [Region.wanted]) (.tmp 18) (.tmp 26) (.const (.bool false)) rfl _ (evn (evn (evn (evn (evn (evn (evn (evn (ev_eq _ _ (by simp [put_sz, sz])))))))))) (ev_eq _ _ (by simp [put_sz, sz]))) hs0 ?_
  exact wpAnyH_done (by kernel_rfl) ⟨rfl, rfl, rfl⟩ _
set_option maxHeartbeats 2000000 in
theorem verify_no {ro : Option Nat} {nn : Nat} {V0 W5 : World} {B g h Lb : Nat} {v : Value} {c : Ch} {x : Lnk} {A : Act} (sz : A.tmps.size = 36) (e1 : A.eval (.tmp 1) = .pointer (some ⟨h, 0, none⟩)) (e4 : A.eval (.tmp 4) = .pointer (some ⟨Lb, 0, none⟩))
    (hV0 : V0 = W5.drew) (ok : Lens c) (hs0 : V0.heap[Lb]? = some (.cells (lnkC x.n x.h).toArray 85 (0, 0)) ∧ V0.cell? ⟨h, 0, none⟩ = some (.pointer (some ⟨g, 0, none⟩)) ∧ ChAt V0 B g v c) (hx : ((x.n : Int) == (c.an : Int)) = false) :
    (codeVer 6).wpIn (WideAt ro) nn Tryd.prog (fun e a V => e = .normal ∧ a = ((((((((((((((((((A.put (some 10) (.pointer (some ⟨Lb, 0, none⟩))).put (some 11) (.int .i64 (x.n : Int))).put (some 12) (.pointer (some ⟨g, 0, none⟩))).put (some 13) (.pointer (some ⟨g, 0, none⟩))).put (some 14) (.pointer (some ⟨g, 33, none⟩))).put (some 15) (.pointer (some ⟨g, 33, none⟩))).put (some 16) (.int .i64 (c.an : Int))).put (some 17) (.bool false)).put (some 18) (.bool false)).put (some 19) (undef)).put (some 20) (undef)).put (some 21) (undef)).put (some 22) (undef)).put (some 23) (undef)).put (some 24) (undef)).put (some 25) (undef)).put (some 26) (undef)).put (some 27) (.bool false)) ∧ V = V0) A W5 := by
  have hm : Tryd.prog.follows .mixedOrders = true := by kernel_rfl
  unfold codeVer
  conv => arg 4; whnf
  refine wpIn_region_heldAt (S := fun V => V.heap[Lb]? = some (.cells (lnkC x.n x.h).toArray 85 (0, 0)) ∧ V.cell? ⟨h, 0, none⟩ = some (.pointer (some ⟨g, 0, none⟩)) ∧ ChAt V B g v c) hm (by kernel_rfl) ?_
  rw [show ({ W5 with drawn := W5.drawn + 1 } : World) = V0 from hV0.symm]
  refine tkH (i := 0) (d := 10) (v := .pointer (some ⟨Lb, 0, none⟩)) rfl rfl (y_link0 (by simp [Region.wanted]) (.tmp 4) rfl Lb 0 e4) hs0 ?_
  refine tkH (i := 1) (d := 11) (v := .int .i64 (x.n : Int)) rfl rfl (y_loadI (by simp [Region.wanted]) (.tmp 10) rfl Lb 0 _ (ev_eq _ _ (by simp [sz])) (fun V hV => range_whole hV.1 0 _ rfl)) hs0 ?_
  refine tkH (i := 2) (d := 12) (v := .pointer (some ⟨g, 0, none⟩)) rfl rfl (y_loadP (by simp [Region.wanted]) (.tmp 1) rfl h 0 _ (evn (evn e1)) (fun V hV => hV.2.1)) hs0 ?_
  refine tkH (i := 3) (d := 13) (v := .pointer (some ⟨g, 0, none⟩)) rfl rfl (y_nil (by simp [Region.wanted]) (.tmp 12) rfl _ (ev_eq _ _ (by simp [put_sz, sz]))) hs0 ?_
  refine tkH (i := 4) (d := 14) (v := .pointer (some ⟨g, 33, none⟩)) rfl rfl (y_chain1 (by simp [Region.wanted]) (.tmp 13) rfl g (ev_eq _ _ (by simp [put_sz, sz]))) hs0 ?_
  refine tkH (i := 5) (d := 15) (v := .pointer (some ⟨g, 33, none⟩)) rfl rfl (y_link0 (by simp [Region.wanted]) (.tmp 14) rfl g 33 (ev_eq _ _ (by simp [put_sz, sz]))) hs0 ?_
  refine tkH (i := 6) (d := 16) (v := .int .i64 (c.an : Int)) rfl rfl (y_loadI (by simp [Region.wanted]) (.tmp 15) rfl g 33 _ (ev_eq _ _ (by simp [put_sz, sz])) (fun V hV => hV.2.2.c33 ok)) hs0 ?_
  refine tkH (i := 7) (d := 17) (v := .bool false) rfl rfl (y_eqlB (by simp [Region.wanted]) (.tmp 11) (.tmp 16) rfl (x.n : Int) (c.an : Int) false hx (evn (evn (evn (evn (evn (ev_eq _ _ (by simp [put_sz, sz]))))))) (ev_eq _ _ (by simp [put_sz, sz]))) hs0 ?_
  refine tkH (i := 8) (d := 18) (v := .bool false) rfl rfl (yields_move (by simp [Region.wanted]) (.tmp 17) rfl _ (ev_eq _ _ (by simp [put_sz, sz]))) hs0 ?_
  refine tkH (i := 9) (d := 19) (v := undef) rfl rfl (y_skip (wanted_g (i := 8) (d := 18) rfl rfl (by simp [put_sz, sz]) (ev_eq _ _ (by simp [put_sz, sz])))) hs0 ?_
  refine tkH (i := 10) (d := 20) (v := undef) rfl rfl (y_skip (wanted_g (i := 8) (d := 18) rfl rfl (by simp [put_sz, sz]) (evn (ev_eq _ _ (by simp [put_sz, sz]))))) hs0 ?_
  refine tkH (i := 11) (d := 21) (v := undef) rfl rfl (y_skip (wanted_g (i := 8) (d := 18) rfl rfl (by simp [put_sz, sz]) (evn (evn (ev_eq _ _ (by simp [put_sz, sz])))))) hs0 ?_
  refine tkH (i := 12) (d := 22) (v := undef) rfl rfl (y_skip (wanted_g (i := 8) (d := 18) rfl rfl (by simp [put_sz, sz]) (evn (evn (evn (ev_eq _ _ (by simp [put_sz, sz]))))))) hs0 ?_
  refine tkH (i := 13) (d := 23) (v := undef) rfl rfl (y_skip (wanted_g (i := 8) (d := 18) rfl rfl (by simp [put_sz, sz]) (evn (evn (evn (evn (ev_eq _ _ (by simp [put_sz, sz])))))))) hs0 ?_
  refine tkH (i := 14) (d := 24) (v := undef) rfl rfl (y_skip (wanted_g (i := 8) (d := 18) rfl rfl (by simp [put_sz, sz]) (evn (evn (evn (evn (evn (ev_eq _ _ (by simp [put_sz, sz]))))))))) hs0 ?_
  refine tkH (i := 15) (d := 25) (v := undef) rfl rfl (y_skip (wanted_g (i := 8) (d := 18) rfl rfl (by simp [put_sz, sz]) (evn (evn (evn (evn (evn (evn (ev_eq _ _ (by simp [put_sz, sz])))))))))) hs0 ?_
  refine tkH (i := 16) (d := 26) (v := undef) rfl rfl (y_skip (wanted_g (i := 8) (d := 18) rfl rfl (by simp [put_sz, sz]) (evn (evn (evn (evn (evn (evn (evn (ev_eq _ _ (by simp [put_sz, sz]))))))))))) hs0 ?_
  refine tkH (i := 17) (d := 27) (v := .bool false) rfl rfl (y_pickF (by simp [Region.wanted]) (.tmp 18) (.tmp 26) (.const (.bool false)) rfl _ (evn (evn (evn (evn (evn (evn (evn (evn (ev_eq _ _ (by simp [put_sz, sz])))))))))) rfl) hs0 ?_
  exact wpAnyH_done (by kernel_rfl) ⟨rfl, rfl, rfl⟩ _
set_option maxHeartbeats 2000000 in
theorem verify_end {ro : Option Nat} {nn : Nat} {V0 W5 : World} {B g h : Nat} {v : Value} {c : Ch} {l : List UInt8} {A : Act} (sz : A.tmps.size = 36) (e1 : A.eval (.tmp 1) = .pointer (some ⟨h, 0, none⟩)) (e3 : A.eval (.tmp 3) = .pointer (some ⟨h + 2, 0, none⟩)) (hl : l.length = 32)
    (hV0 : V0 = W5.drew) (ok : Lens c) (hs0 : V0.heap[h + 2]? = some (.cells (bvs l) 69 (0, 0)) ∧ V0.cell? ⟨h, 0, none⟩ = some (.pointer (some ⟨g, 0, none⟩)) ∧ ChAt V0 B g v c) :
    (codeVer 9).wpIn (WideAt ro) nn Tryd.prog (fun e a V => e = .normal ∧ a = ((((((A.put (some 30) (.agg (bvs l))).put (some 31) (.pointer (some ⟨g, 0, none⟩))).put (some 32) (.pointer (some ⟨g, 0, none⟩))).put (some 33) (.pointer (some ⟨g, 67, none⟩))).put (some 34) (.agg (bvs c.hd))).put (some 35) (.bool (!(l == c.hd)))) ∧ V = V0) A W5 := by
  have hm : Tryd.prog.follows .mixedOrders = true := by kernel_rfl
  unfold codeVer
  conv => arg 4; whnf
  refine wpIn_region_heldAt (S := fun V => V.heap[h + 2]? = some (.cells (cellsOf l).toArray 69 (0, 0)) ∧ V.cell? ⟨h, 0, none⟩ = some (.pointer (some ⟨g, 0, none⟩)) ∧ ChAt V B g v c) hm (by kernel_rfl) ?_
  rw [show ({ W5 with drawn := W5.drawn + 1 } : World) = V0 from hV0.symm]
  rw [show bvs l = (cellsOf l).toArray from rfl] at hs0
  refine tkH (i := 0) (d := 30) (v := .agg (bvs l)) rfl rfl (y_loadH (by simp [Region.wanted]) (.tmp 3) rfl (h + 2) 0 l hl e3 (fun V hV => range_whole hV.1)) hs0 ?_
  refine tkH (i := 1) (d := 31) (v := .pointer (some ⟨g, 0, none⟩)) rfl rfl (y_loadP (by simp [Region.wanted]) (.tmp 1) rfl h 0 _ (evn e1) (fun V hV => hV.2.1)) hs0 ?_
  refine tkH (i := 2) (d := 32) (v := .pointer (some ⟨g, 0, none⟩)) rfl rfl (y_nil (by simp [Region.wanted]) (.tmp 31) rfl _ (ev_eq _ _ (by simp [put_sz, sz]))) hs0 ?_
  refine tkH (i := 3) (d := 33) (v := .pointer (some ⟨g, 67, none⟩)) rfl rfl (y_chain3 (by simp [Region.wanted]) (.tmp 32) rfl g (ev_eq _ _ (by simp [put_sz, sz]))) hs0 ?_
  refine tkH (i := 4) (d := 34) (v := .agg (bvs c.hd)) rfl rfl (y_loadH (by simp [Region.wanted]) (.tmp 33) rfl g 67 c.hd ok.lh (ev_eq _ _ (by simp [put_sz, sz])) (fun V hV => hV.2.2.rh ok)) hs0 ?_
  refine tkH (i := 5) (d := 35) (v := .bool (!(l == c.hd))) rfl rfl (y_neqH (by simp [Region.wanted]) (.tmp 30) (.tmp 34) rfl l c.hd hl ok.lh (evn (evn (evn (evn (ev_eq _ _ (by simp [sz])))))) (ev_eq _ _ (by simp [put_sz, sz]))) hs0 ?_
  exact wpAnyH_done (by kernel_rfl) ⟨rfl, rfl, rfl⟩ _
end Go.Proofs.YthfmpebgmojcaaaDoor
/- Verify of a chain, by a contract. -/
namespace Go.Proofs.YthfmpebgmojcaaaDoor
open Go.RowKit Go.Shelf
set_option linter.unusedVariables false
set_option maxRecDepth 20000
attribute [local go_sem] Oper.semAt_some
def storeH (x v : Value) : Sem Unit := Instr.storeAt 69 x v
theorem storeH_fold (x v : Value) : Instr.storeAt 69 x v = storeH x v := rfl
theorem loadH_at {w : World} {g o : Nat} {l : List UInt8} (hr : w.rangeAt g o (cellsOf l)) (hl : l.length = 32) : (loadH (.pointer (some ⟨g, o, none⟩))).run Tryd.prog w = .ok (.agg (bvs l)) w :=
  run_loadAt_mid w g o 69 (cellsOf l) _ hr Tryd.underlying69 rfl (size_hashl l hl)
theorem storeH_row {w : World} {g : Nat} {l m : List UInt8} (hl : l.length = 32) (hm : m.length = 32) (hg : w.heap[g]? = some (.cells (bvs m) 69 (0, 0))) : (storeH (.pointer (some ⟨g, 0, none⟩)) (.agg (bvs l))).run Tryd.prog w = .ok () (w.setRow g (bvs l)) := by
  unfold storeH
  simp only [Instr.storeAt, Instr.sureAddr, Sem.run_bind, Sem.run_pure, Result.andThen]
  exact run_storeVar_row w g 69 69 (bvs m) (bvs l) hg (size_hashs l hl) (by rw [bvs_size, bvs_size, hl, hm]) (bvs_one l)
attribute [local go_sem ↓] loadL_fold storeL_fold loadH_fold storeH_fold
def lastH (pre : List Lnk) : List UInt8 := (pre.getLast?.map (·.h)).getD zero32
theorem lastH_len (pre : List Lnk) : (lastH pre).length = 32 := by
  unfold lastH
  cases h : pre.getLast? with
  | none => decide
  | some x => exact x.len
structure VAt (h : Nat) (w : World) (g : Nat) (c : Ch) (pre : List Lnk) (W : World) : Prop where
  box : Boxed W h 24 (.pointer (some ⟨g, 0, none⟩))
  res : Boxed W (h + 1) 25 (.int .i64 0)
  cur : W.heap[h + 2]? = some (.cells (bvs (lastH pre)) 69 (0, 0))
  bel : Below h w W
  good : ∀ x ∈ pre, x.n = c.an → x.h = c.ah
structure VEnd (h : Nat) (w : World) (c : Ch) (cc : Code) (pre : List Lnk) (W : World) : Prop where
  ex : cc = .ret
  res : Boxed W (h + 1) 25 (.int .i64 15)
  bel : Below h w W
  bad : ∃ x ∈ pre, x.n = c.an ∧ x.h ≠ c.ah
theorem vAt_beyond (h : Nat) (w : World) (g : Nat) (c : Ch) (D : Nat) (hD : h + 3 ≤ D) : Beyond D (fun pre W => VAt h w g c pre W) := fun s W W' hs hb =>
  ⟨(hb.block h (by omega)).trans hs.box, (hb.block _ (by omega)).trans hs.res, (hb.block _ (by omega)).trans hs.cur, hs.bel.trans (hb.mono (by omega)), hs.good⟩
theorem vEnd_beyond (h : Nat) (w : World) (c : Ch) (D : Nat) (hD : h + 3 ≤ D) (cc : Code) : Beyond D (fun pre W => VEnd h w c cc pre W) := fun s W W' hs hb =>
  ⟨hs.ex, (hb.block _ (by omega)).trans hs.res, hs.bel.trans (hb.mono (by omega)), hs.bad⟩
theorem lks_mem {c : Ch} {ok : ChOk c} {j : Nat} {x : Lnk} (h : x ∈ lks c ok j) : ∃ k, k < j ∧ x = lk c ok k := by
  obtain ⟨k, hk, rfl⟩ := List.mem_map.1 h
  exact ⟨k, List.mem_range.1 hk, rfl⟩
theorem verE_bad {c : Ch} {ok : ChOk c} {j : Nat} {x : Lnk} (h : x ∈ lks c ok j) (h1 : x.n = c.an) (h2 : x.h ≠ c.ah) : verE c = 15 := by
  obtain ⟨k, hk, rfl⟩ := lks_mem h
  have h3 : c.bn + k = c.an := h1
  unfold verE
  rw [if_pos]
  refine .inl ⟨by omega, ?_⟩
  rw [show c.an - c.bn = k by omega]
  exact h2
theorem verE_all {c : Ch} {ok : ChOk c} (h : ∀ x ∈ lks c ok (c.ev.length + 1), x.n = c.an → x.h = c.ah) : verE c = if c.at c.ev.length = c.hd then 0 else 15 := by
  unfold verE
  by_cases h1 : c.at c.ev.length = c.hd
  · rw [if_pos h1, if_neg]
    rintro (⟨h2, h3⟩ | h3)
    · have h4 := ok.anc
      exact h3 (h (lk c ok (c.an - c.bn)) (List.mem_map.2 ⟨_, List.mem_range.2 (by omega), rfl⟩) (show c.bn + (c.an - c.bn) = c.an by omega))
    · exact h3 h1
  · rw [if_neg h1, if_pos (.inr h1)]
set_option maxHeartbeats 4000000 in
theorem verify_any {w : World} {B g : Nat} {v : Value} {c : Ch} (H : ChAt w B g v c) (ok : ChOk c) (hc : c.cnt < 1152921504606846976) (hT : Tabs w B) (hB : B ≤ w.heap.size) :
    Calls Tryd.prog 11 #[.pointer (some ⟨g, 0, none⟩)] w fun e w' => e = .returned (.int .i64 (verE c)) ∧ Below w.heap.size w w' := by
  have HH := hid H
  have HT := hid hT
  obtain ⟨Z, hZ⟩ : ∃ Z, Z = bvs zero32 := ⟨_, rfl⟩
  have zh := (zero_of_info zero_hash).1
  rw [show bvs (List.replicate 32 0) = Z from hZ.symm] at zh
  have HZ := hid hZ
  clear H hT hZ
  refine (callsIn_wide (n := 3)).1 ?_
  refine callsIn_of_wp_marks Tryd.func11 rfl trivial ?_ rfl
  simp only [Tryd.ntmps11, List.size_toArray, List.length_cons, List.length_nil, Nat.reduceAdd, Nat.reduceSub, Array.replicate_succ, Array.replicate_zero, List.push_toArray, List.append_toArray, List.nil_append, List.cons_append]
  gi_wp2_with fail
  refine ⟨trivial, (callsIn_wide.2 (links_any _ _)).mono ?_⟩
  rintro _ w' ⟨rfl, rfl⟩
  gi_wp2_with fail
  obtain ⟨h, hh⟩ : ∃ h, h = w.heap.size := ⟨_, rfl⟩
  obtain ⟨w1, hw1⟩ : ∃ w1, w1 = w.alloc (.cells #[.pointer (some ⟨g, 0, none⟩)] 24) := ⟨_, rfl⟩
  obtain ⟨w2, hw2⟩ : ∃ w2, w2 = w1.alloc (.cells #[.int .i64 0] 25) := ⟨_, rfl⟩
  obtain ⟨w3, hw3⟩ : ∃ w3, w3 = w2.alloc (.cells Z 69) := ⟨_, rfl⟩
  obtain ⟨W0, hW0⟩ : ∃ W0, W0 = w3.alloc (.cells #[.pointer (some ⟨g, 0, none⟩)] 24) := ⟨_, rfl⟩
  have z1 : w1.heap.size = h + 1 := by rw [hw1, hh]; simp
  have z2 : w2.heap.size = h + 2 := by rw [hw2, World.size_alloc, z1]
  have z3 : w3.heap.size = h + 3 := by rw [hw3, World.size_alloc, z2]
  have z0 : W0.heap.size = h + 4 := by rw [hW0, World.size_alloc, z3]
  have o1 : w1.heap[h]? = some (.cells #[.pointer (some ⟨g, 0, none⟩)] 24 (0, 0)) := by rw [hw1, hh]; exact heap_alloc_new w _
  have o2 : w2.heap[h + 1]? = some (.cells #[.int .i64 0] 25 (0, 0)) := by rw [hw2, ← z1]; exact heap_alloc_new w1 _
  have o3 : w3.heap[h + 2]? = some (.cells Z 69 (0, 0)) := by rw [hw3, ← z2]; exact heap_alloc_new w2 _
  have b1 : Below h w w1 := by rw [hw1, hh]; exact (Below.refl _ w).alloc (Nat.le_refl _) _
  have b2 : Below (h + 1) w1 w2 := by rw [hw2, ← z1]; exact (Below.refl _ w1).alloc (Nat.le_refl _) _
  have b3 : Below (h + 2) w2 w3 := by rw [hw3, ← z2]; exact (Below.refl _ w2).alloc (Nat.le_refl _) _
  have b4 : Below (h + 3) w3 W0 := by rw [hW0, ← z3]; exact (Below.refl _ w3).alloc (Nat.le_refl _) _
  have b0 : Below h w W0 := ((b1.trans (b2.mono (by omega))).trans (b3.mono (by omega))).trans (b4.mono (by omega))
  have cBk : W0.cell? ⟨h + 3, 0, none⟩ = some (.pointer (some ⟨g, 0, none⟩)) := by
    have := (Boxed.new w3 24 (.pointer (some ⟨g, 0, none⟩))).cell
    rw [z3, ← hW0] at this
    exact this
  have p0 : VAt h w g c [] W0 := by
    refine ⟨?_, ?_, ?_, b0, fun x hx => by cases hx⟩
    · exact ((b4.block h (by omega)).trans ((b3.block h (by omega)).trans (b2.block h (by omega)))).trans o1
    · exact ((b4.block _ (by omega)).trans (b3.block _ (by omega))).trans o2
    · rw [show bvs (lastH []) = Z from HZ.out.symm]; exact (b4.block _ (by omega)).trans o3
  have HC0 : ChAt W0 B g v c := HH.out.below (by rw [← hh]; exact b0)
  have HT0 : Tabs W0 B := HT.out.below hB (by rw [← hh]; exact b0)
  have hgl := HH.out.lt
  have hvl := HH.out.lts
  have hseq := links_seq (3 - 1) (h + 3) B g h (h + 3) v c ok hc W0 (by omega) (by omega) HC0 (by omega) (fun k hk => by have := (hvl k hk).2; omega) HT0 (by omega) cBk (.inr (Nat.le_refl _))
  rw [show (w.heap.size : Nat) = h from hh.symm]
  rw [show ((((w.alloc (.cells #[.pointer (some ⟨g, 0, none⟩)] 24)).alloc (.cells #[.int .i64 0] 25)).alloc (.cells Z 69)).alloc (.cells #[.pointer (some ⟨g, 0, none⟩)] 24)) = W0 by rw [hW0, hw3, hw2, hw1]]
  have P0 := hid p0
  have Hh := hid hh
  have Z0 := hid z0
  have chBel : Hid (∀ V, Below h w V → ChAt V B g v c) := fun V hb => HH.out.below (by rw [← hh]; exact hb)
  clear p0 hw1 hw2 hw3 hW0 z1 z2 z3 o1 o2 o3 b1 b2 b3 b4 b0 cBk HC0 HT0 HH HT hgl hvl hh z0 HZ zh
  rw [show h + 1 + 1 = h + 2 from rfl, show h + 2 + 1 = h + 3 from rfl]
  refine range_B rfl (by omega) (gf := 79) (lb := #[.pointer (some ⟨h + 3, 0, none⟩)]) rfl trivial (enters_of Tryd.func79 (by kernel_rfl) rfl) hseq (by have := Z0.out; omega) (fun _ => rfl)
    (fun pre W => VAt h w g c pre W) (fun cc pre W => VEnd h w c cc pre W) (vAt_beyond h w g c _ (by have := Z0.out; omega)) (fun cc => vEnd_beyond h w c _ (by have := Z0.out; omega) cc) P0.out ?round ?done ?stop
  case round =>
    intro l pre x W hsz hI hlen
    have hS := storeL_new W x.n x.h x.len
    have HI := hid hI
    clear hI
    rw [show lnkV x = #[.agg (lnkC x.n x.h).toArray] from rfl]
    gi_wp2
    have b1 : Below W.heap.size W (W.alloc (.cells (lnkC x.n x.h).toArray 85)) := (Below.refl _ W).alloc (Nat.le_refl _) _
    refine ⟨Out.of_below b1, fun o => ?_⟩
    obtain ⟨V, hV⟩ : ∃ V, V = (W.alloc (.cells (lnkC x.n x.h).toArray 85)).putObj (W0.heap.size + 1) o := ⟨_, rfl⟩
    have bV : Below (h + 3) W V := by rw [hV]; exact (b1.mono (by have := Z0.out; omega)).trans (below_putObj _ _ _ (by have := Z0.out; omega))
    have xL : V.heap[W.heap.size]? = some (.cells (lnkC x.n x.h).toArray 85 (0, 0)) := by
      rw [hV, World.putObj_heap_other (by omega)]
      exact heap_alloc_new W _
    rw [← hV]
    have iV := vAt_beyond h w g c (h + 3) (Nat.le_refl _) pre W V HI.out bV
    have chV := chBel.out V iV.bel
    have IV := hid iV
    have XL := hid xL
    have CV := hid chV
    clear hS HI iV xL chV bV hV b1
    obtain ⟨V0, hV0⟩ : ∃ V0, V0 = V.drew := ⟨_, rfl⟩
    have bd : Below V.heap.size V V0 := by rw [hV0]; exact (Below.refl _ V).drew
    have hb2 : Below h w V := IV.out.bel
    have hlV : h + 2 < V.heap.size := heap_lt IV.out.cur
    have xL0 := (bd.block _ (heap_lt XL.out)).trans XL.out
    have x20 := (bd.block _ hlV).trans IV.out.cur
    have x00 : V0.heap[h]? = some (.cells #[.pointer (some ⟨g, 0, none⟩)] 24 (0, 0)) := (bd.block h (by omega)).trans IV.out.box
    have x10 : V0.heap[h + 1]? = some (.cells #[.int .i64 0] 25 (0, 0)) := (bd.block _ (by omega)).trans IV.out.res
    have hs0 : V0.heap[W.heap.size]? = some (.cells (lnkC x.n x.h).toArray 85 (0, 0)) ∧ V0.cell? ⟨h, 0, none⟩ = some (.pointer (some ⟨g, 0, none⟩)) ∧ ChAt V0 B g v c := ⟨xL0, cell_of_row _ _ 0 _ _ _ x00, CV.out.below bd⟩
    have hL8 := loadH_at (link_hash xL0) x.len
    have hS8 := storeH_row x.len (lastH_len pre) x20
    have cd : Chg h (h + 3) V V0 := Out.of_below bd
    have hgo : (x.n = c.an → x.h = c.ah) → VAt h w g c (pre ++ [x]) (V0.setRow (h + 2) (bvs x.h)) := fun hgood => by
      refine ⟨(setRow_other _ _ _ _ (by omega)).trans x00, (setRow_other _ _ _ _ (by omega)).trans x10, ?_, (hb2.trans (bd.mono (by omega))).setRow (by omega) _, fun y hy => ?_⟩
      · rw [show lastH (pre ++ [x]) = x.h by simp [lastH]]
        exact setRow_heap _ _ _ _ _ _ x20
      · rcases List.mem_append.1 hy with hy | hy
        · exact IV.out.good y hy
        · simp at hy
          rw [hy]
          exact hgood
    have hc8 : Chg h (h + 3) V (V0.setRow (h + 2) (bvs x.h)) := cd.setRow _ (by omega) _
    have k1 : V0.cell? ⟨h + 1, 0, none⟩ = some (.int .i64 0) := cell_of_row _ _ 0 _ _ _ x10
    have f1 : V0.frozen? ⟨h + 1, 0, none⟩ = false := frozen_of_row _ _ _ _ _ x10
    have hbad : x.n = c.an → x.h ≠ c.ah → Chg h (h + 3) V (V0.setCell ⟨h + 1, 0, none⟩ (.int .i64 15)) ∧ VEnd h w c .ret (pre ++ [x]) (V0.setCell ⟨h + 1, 0, none⟩ (.int .i64 15)) := fun h1 h2 =>
      ⟨cd.setCell _ _ (by show h ≤ h + 1 ∧ h + 1 < h + 3; omega), rfl, by
        show (V0.setCell ⟨h + 1, 0, none⟩ (.int .i64 15)).heap[h + 1]? = _
        rw [heap_setCell_same _ _ _ _ _ _ x10]; rfl, (hb2.trans (bd.mono (by omega))).setCell (p := ⟨h + 1, 0, none⟩) (by show h ≤ h + 1; omega) _, ⟨x, by simp, h1, h2⟩⟩
    have Hgo := hid hgo
    have Hbad := hid hbad
    have HC8 := hid hc8
    have Hs0 := hid hs0
    clear hgo hbad hc8 hs0 cd x00 x10 x20 xL0 bd hb2 IV XL CV
    gi_wp2_with fail
    refine wpIn_act _ fun A hA => ?_
    have sz : A.tmps.size = 36 := by rw [hA]; rfl
    have e1 : A.eval (.tmp 1) = .pointer (some ⟨h, 0, none⟩) := by rw [hA]; rfl
    have e4 : A.eval (.tmp 4) = .pointer (some ⟨W.heap.size, 0, none⟩) := by rw [hA]; rfl
    by_cases hx : x.n = c.an
    · have q : ((x.n : Int) == (c.an : Int)) = true := by rw [beq_iff_eq]; omega
      refine wpIn_split _ (verify_yes (ro := some l) sz e1 e4 hV0 ok.l Hs0.out q) ?_
      rintro _ V9 ⟨rfl, rfl⟩
      rw [hA]
      simp only [Act.put, List.setIfInBounds_toArray, List.set_cons_succ, List.set_cons_zero]
      clear sz e1 e4 hA A hV0 q
      by_cases hxh : x.h = c.ah
      · rw [show (!(x.h == c.ah)) = false by simp [hxh]]
        have Hx := hid hxh
        clear hx hxh
        gi_wp2
        exact ⟨HC8.out, Hgo.out (fun _ => Hx.out)⟩
      · rw [show (!(x.h == c.ah)) = true by simp [hxh]]
        have Hx := hid hxh
        have Hx2 := hid hx
        clear hx hxh hL8 hS8
        gi_wp2
        exact Hbad.out Hx2.out Hx.out
    · have q : ((x.n : Int) == (c.an : Int)) = false := by rw [beq_eq_false_iff_ne]; omega
      refine wpIn_split _ (verify_no (ro := some l) sz e1 e4 hV0 ok.l Hs0.out q) ?_
      rintro _ V9 ⟨rfl, rfl⟩
      rw [hA]
      simp only [Act.put, List.setIfInBounds_toArray, List.set_cons_succ, List.set_cons_zero]
      clear sz e1 e4 hA A hV0 q
      have Hx := hid hx
      clear hx
      gi_wp2
      exact ⟨HC8.out, Hgo.out (fun y => absurd y Hx.out)⟩
  case done =>
    rintro xs W hxs hI hK
    have hlast : lastH xs = c.at c.ev.length := by rw [hxs, lks_succ]; simp [lastH]; rfl
    have hve := verE_all (ok := ok) (by rw [← hxs]; exact hI.good)
    obtain ⟨V0, hV0⟩ : ∃ V0, V0 = W.drew := ⟨_, rfl⟩
    have bd : Below W.heap.size W V0 := by rw [hV0]; exact (Below.refl _ W).drew
    have hlV : h + 2 < W.heap.size := heap_lt hI.cur
    have x20 := (bd.block _ hlV).trans hI.cur
    have x00 : V0.heap[h]? = some (.cells #[.pointer (some ⟨g, 0, none⟩)] 24 (0, 0)) := (bd.block h (by omega)).trans hI.box
    have x10 : V0.heap[h + 1]? = some (.cells #[.int .i64 0] 25 (0, 0)) := (bd.block _ (by omega)).trans hI.res
    have k0 : V0.heap[W0.heap.size]? = some (.deferred (some [])) := (bd.block _ (heap_lt hK)).trans hK
    have hs0 : V0.heap[h + 2]? = some (.cells (bvs (lastH xs)) 69 (0, 0)) ∧ V0.cell? ⟨h, 0, none⟩ = some (.pointer (some ⟨g, 0, none⟩)) ∧ ChAt V0 B g v c := ⟨x20, cell_of_row _ _ 0 _ _ _ x00, (chBel.out W hI.bel).below bd⟩
    have k1 : V0.cell? ⟨h + 1, 0, none⟩ = some (.int .i64 0) := cell_of_row _ _ 0 _ _ _ x10
    have f1 : V0.frozen? ⟨h + 1, 0, none⟩ = false := frozen_of_row _ _ _ _ _ x10
    have fin : ∀ er : Int, ((V0.setCell ⟨h + 1, 0, none⟩ (.int .i64 er)).putObj W0.heap.size (.deferred none)).cell? ⟨h + 1, 0, none⟩ = some (.int .i64 er) ∧ (V0.setCell ⟨h + 1, 0, none⟩ (.int .i64 er)).heap[W0.heap.size]? = some (.deferred (some [])) ∧ Below w.heap.size w ((V0.setCell ⟨h + 1, 0, none⟩ (.int .i64 er)).putObj W0.heap.size (.deferred none)) := fun er => by
      have hz := Z0.out
      refine ⟨?_, (heap_setCell_other _ _ _ _ (by show W0.heap.size ≠ h + 1; omega)).trans k0, ?_⟩
      · have h1 : ((V0.setCell ⟨h + 1, 0, none⟩ (.int .i64 er)).putObj W0.heap.size (.deferred none)).heap[h + 1]? = some (.cells #[.int .i64 er] 25 (0, 0)) := by
          rw [World.putObj_heap_other (by omega), heap_setCell_same _ _ _ _ _ _ x10]; rfl
        exact cell_of_row _ _ 0 _ _ _ h1
      · refine Below.mono ?_ (Nat.le_of_eq Hh.out.symm)
        exact ((hI.bel.trans (bd.mono (by omega))).setCell (p := ⟨h + 1, 0, none⟩) (by show h ≤ h + 1; omega) _).trans (below_putObj _ _ _ (by omega))
    have Fin := hid fin
    have Hs0 := hid hs0
    have Hve := hid hve
    have Hlast := hid hlast
    clear fin hs0 hve hlast hI hK x00 x10 x20 k0 bd hxs
    gi_wp2_with fail
    refine wpIn_act _ fun A hA => ?_
    have sz : A.tmps.size = 36 := by rw [hA]; rfl
    have e1 : A.eval (.tmp 1) = .pointer (some ⟨h, 0, none⟩) := by rw [hA]; rfl
    have e3 : A.eval (.tmp 3) = .pointer (some ⟨h + 2, 0, none⟩) := by rw [hA]; rfl
    refine wpIn_split _ (verify_end (ro := none) sz e1 e3 (lastH_len xs) hV0 ok.l Hs0.out) ?_
    rintro _ V9 ⟨rfl, rfl⟩
    rw [hA]
    simp only [Act.put, List.setIfInBounds_toArray, List.set_cons_succ, List.set_cons_zero]
    clear sz e1 e3 hA A hV0 Hs0
    rw [Hlast.out]
    by_cases hx : c.at c.ev.length = c.hd
    · rw [show (!(c.at c.ev.length == c.hd)) = false by simp [hx]]
      have Hx := hid hx
      have hv0 := Hve.out
      rw [if_pos hx] at hv0
      have Hv := hid hv0
      obtain ⟨c2, hK2, bE⟩ := Fin.out 0
      have HK := hid hK2
      have BE := hid bE
      clear hx hv0 hK2 bE Fin Hve Hlast
      gi_wp2
      refine ⟨by simp, .inl ⟨_, _, rfl, run_takeDeferred HK.out, ?_⟩⟩
      refine ⟨.int .i64 0, ?_, by rw [Hv.out], BE.out⟩
      simp [results, Tryd.f11, go_sem, c2]
    · rw [show (!(c.at c.ev.length == c.hd)) = true by simp [hx]]
      have Hx := hid hx
      have hv0 := Hve.out
      rw [if_neg hx] at hv0
      have Hv := hid hv0
      obtain ⟨c2, hK2, bE⟩ := Fin.out 15
      have HK := hid hK2
      have BE := hid bE
      clear hx hv0 hK2 bE Fin Hve Hlast
      gi_wp2
      refine ⟨by simp, .inl ⟨_, _, rfl, run_takeDeferred HK.out, ?_⟩⟩
      refine ⟨.int .i64 15, ?_, by rw [Hv.out], BE.out⟩
      simp [results, Tryd.f11, go_sem, c2]
  case stop =>
    rintro cc pre W ⟨j, hj, hpre⟩ hE hK
    obtain ⟨x, hx1, hx2, hx3⟩ := hE.bad
    rw [hpre] at hx1
    have hv := verE_bad hx1 hx2 hx3
    obtain rfl := hE.ex
    have hz := Z0.out
    have r2 : (W.putObj W0.heap.size (.deferred none)).heap[h + 1]? = some (.cells #[.int .i64 15] 25 (0, 0)) := (World.putObj_heap_other (by omega)).trans hE.res
    have c2 : (W.putObj W0.heap.size (.deferred none)).cell? ⟨h + 1, 0, none⟩ = some (.int .i64 15) := cell_of_row _ _ 0 _ _ _ r2
    have bE : Below h w (W.putObj W0.heap.size (.deferred none)) := hE.bel.trans (below_putObj _ _ _ (by omega))
    have bE := bE.mono (Nat.le_of_eq Hh.out.symm)
    have HK := hid hK
    have BE := hid bE
    have Hv := hid hv
    clear hK r2 bE hE hx1 hx2 hx3 hpre hv
    gi_wp2
    refine ⟨by simp, .inl ⟨_, _, rfl, run_takeDeferred HK.out, ?_⟩⟩
    refine ⟨.int .i64 15, ?_, by rw [Hv.out], BE.out⟩
    simp [results, Tryd.f11, go_sem, c2]
end Go.Proofs.YthfmpebgmojcaaaDoor
/- Events cut off: slices.Delete at events; audit.Prune. -/
namespace Go.Proofs.YthfmpebgmojcaaaDoor
open Go.RowKit Go.Shelf
set_option linter.unusedVariables false
set_option maxRecDepth 20000
section
variable {ops : Array Oper} {S : World → Prop} {op : Oper} {a : Act}
end
end Go.Proofs.YthfmpebgmojcaaaDoor
