/- A book of passwords: the rows of a record. (Printed by gen/cb6.py.) -/
import Derived.Test.YtomhcccjeadefaaGreatDoorCB5
import Derived.Test.YtomhcccjeadefaaGreatDoorYG
namespace Go.Proofs.YtomhcccjeadefaaGreatDoor
open Go.RowKit Go.Maps
set_option linter.unusedVariables false
set_option maxRecDepth 20000
def mkH (l : List UInt8) : ByteArray := ⟨l.toArray⟩
theorem yg_slc {P : Program} {ops : Array Oper} {S : World → Prop} {op : Oper} {a : Act} {v : Value} (hw : Region.wanted op (yielded ops a.tmps) = true) (x : Operand) {t : TypeId} {lo hi mx : Option Operand} (ho : op.op = .slice t x lo hi mx) {u : Value} {l' h' m' : Option Value} (hx : a.eval x = u) (hl : lo.map a.eval = l') (hh : hi.map a.eval = h') (hm : mx.map a.eval = m') (h : ∀ w, (Instr.sliceAt t u l' h' m').run P w = .ok v w) : YieldsIf P ops S op v a := by
  subst hx; subst hl; subst hh; subst hm
  exact yg hw (by simp only [execOp, ho]) (fun w _ => h w)
theorem yg_cvS {P : Program} {ops : Array Oper} {S : World → Prop} {op : Oper} {a : Act} {v : Value} (hw : Region.wanted op (yielded ops a.tmps) = true) (x : Operand) {s t : TypeId} (ho : op.op = .convert s t x) {u : Value} (hx : a.eval x = u) (h : ∀ w, S w → (convert s t u).run P w = .ok v w) : YieldsIf P ops S op v a := by
  subst hx
  exact yg hw (by simp only [execOp, ho]) h
theorem sl_rec (w : World) (r : Nat) : (Instr.sliceAt 27 (.pointer (some ⟨r, 2, none⟩)) none none none).run Tryz.prog w = .ok (.slice (some ⟨r, 2, none⟩) 32 32) w := by simp [go_sem]
theorem wp_build5 {o : Oper} {a : Act} {w : World} {K : Act → World → Prop} {Q : Exit → Act → World → Prop} (x1 x2 x3 x4 x5 : Operand) (ho : o.op = .buildSlice 36 5 #[(0, x1), (1, x2), (2, x3), (3, x4), (4, x5)]) (t1 t2 t3 t4 t5 : ByteArray) (h1 : a.eval x1 = .string t1) (h2 : a.eval x2 = .string t2) (h3 : a.eval x3 = .string t3) (h4 : a.eval x4 = .string t4) (h5 : a.eval x5 = .string t5)
    (h : K (a.put o.dst (.slice (some ⟨w.heap.size, 0, none⟩) 5 5)) (w.alloc (.cells #[.string t1, .string t2, .string t3, .string t4, .string t5] 9))) : o.wp Tryz.prog a w K Q := by
  unfold Oper.wp execOp
  simp only [ho, List.map_toArray, List.map_cons, List.map_nil, h1, h2, h3, h4, h5]
  simp [go_sem]
  exact h
def RecS (r tr un : Nat) (h : List UInt8) (k : Nat) (V : World) : Prop := V.heap[r]? = some (.cells (recC tr un h k).toArray 93 (0, 0)) ∧ TabAt V
section
variable {r tr un k : Nat} {h : List UInt8} {V V' : World}
theorem RecS.below (s : RecS r tr un h k V) (hb : Below V.heap.size V V') : RecS r tr un h k V' := ⟨(hb.block _ (heap_lt s.1)).trans s.1, TabAt.belowJ s.2 hb⟩
theorem rec_get (hl : h.length = 32) (j : Nat) : (recC tr un h k).toArray[34 + j]? = ([.string saltB, .int .i64 (k : Int), .slice none 0 0] : List Value)[j]? := by
  unfold recC
  rw [List.getElem?_toArray, List.getElem?_append_right (by simp; omega)]
  simp only [List.length_cons, List.length_nil]
  rw [List.getElem?_append_right (by rw [cellsOf_length, hl]; omega), cellsOf_length, hl, show 34 + j - (0 + 1 + 1) - 32 = j by omega]
theorem RecS.c0 (s : RecS r tr un h k V) : V.cell? ⟨r, 0, none⟩ = some (.int .i64 (tr : Int)) := (cell_of_row _ _ 0 _ _ _ s.1).trans rfl
theorem RecS.c1 (s : RecS r tr un h k V) : V.cell? ⟨r, 1, none⟩ = some (.int .i64 (un : Int)) := (cell_of_row _ _ 1 _ _ _ s.1).trans rfl
theorem RecS.c34 (s : RecS r tr un h k V) (hl : h.length = 32) : V.cell? ⟨r, 34, none⟩ = some (.string saltB) := (cell_of_row _ _ 34 _ _ _ s.1).trans (rec_get hl 0)
theorem RecS.c35 (s : RecS r tr un h k V) (hl : h.length = 32) : V.cell? ⟨r, 35, none⟩ = some (.int .i64 (k : Int)) := (cell_of_row _ _ 35 _ _ _ s.1).trans (rec_get hl 1)
theorem RecS.c36 (s : RecS r tr un h k V) (hl : h.length = 32) : V.cell? ⟨r, 36, none⟩ = some (.slice none 0 0) := (cell_of_row _ _ 36 _ _ _ s.1).trans (rec_get hl 2)
theorem RecS.hash (s : RecS r tr un h k V) (hl : h.length = 32) (j : Nat) (hj : j < h.length) : V.cell? ⟨r, 2 + j, none⟩ = some (.int .u8 (h[j].toNat : Int)) := by
  rw [cell_of_row _ _ _ _ _ _ s.1]
  unfold recC
  rw [List.getElem?_toArray, List.getElem?_append_right (by simp)]
  simp only [List.length_cons, List.length_nil]
  rw [List.getElem?_append_left (by rw [cellsOf_length]; omega), show 2 + j - (0 + 1 + 1) = j by omega]
  simp [cellsOf, hj]
theorem RecS.conv (s : RecS r tr un h k V) (hl : h.length = 32) : (convert 29 9 (.slice (some ⟨r, 2, none⟩) 32 32)).run Tryz.prog V = .ok (.string (mkH h)) V := by
  have := run_convert_bytes_back (P := Tryz.prog) V 29 9 5 ⟨r, 2, none⟩ 32 h Tryz.underlying29 Tryz.underlying5 Tryz.underlying9 (fun j hj => by
    rw [addr_add]
    exact s.hash hl j hj)
  rw [hl] at this
  exact this
end
noncomputable def codeRR (n : Nat) : Code := ((Tryz.f21.body.bind (regionAt n)).getD .skip)
set_option maxHeartbeats 4000000 in
theorem rr_region1 {V0 W5 : World} {r tr un k : Nat} {h : List UInt8} {A : Act} (sz : A.tmps.size = 65) (e0 : A.eval (.tmp 0) = .pointer (some ⟨r, 0, none⟩)) (hl : h.length = 32) (ht1 : tr ≤ 4611686018427387904) (ht2 : un ≤ 4611686018427387904) (ht3 : k ≤ 4611686018427387904) (hV0 : V0 = W5.drew) (hs0 : RecS r tr un h k V0) :
    (codeRR 1).wp Tryz.prog (fun x a V => x = .normal ∧ ∃ q : Nat, a = ((((((((((((((((((((((((((((A.put (some 9) (.pointer (some ⟨r, 0, none⟩))).put (some 10) (.pointer (some ⟨r, 0, none⟩))).put (some 11) (.pointer (some ⟨r, 2, none⟩))).put (some 12) (.slice (some ⟨r, 2, none⟩) 32 32)).put (some 13) (.string (mkH h))).put (some 14) (.pointer (some ⟨r, 0, none⟩))).put (some 15) (.pointer (some ⟨r, 0, none⟩))).put (some 16) (.pointer (some ⟨r, 34, none⟩))).put (some 17) (.string saltB)).put (some 18) (.pointer (some ⟨r, 0, none⟩))).put (some 19) (.pointer (some ⟨r, 0, none⟩))).put (some 20) (.pointer (some ⟨r, 35, none⟩))).put (some 21) (.int .i64 (k : Int))).put (some 23) (.pointer (some ⟨r, 0, none⟩))).put (some 24) (.pointer (some ⟨r, 0, none⟩))).put (some 25) (.pointer (some ⟨r, 0, none⟩))).put (some 26) (.pointer (some ⟨r, 0, none⟩))).put (some 27) (.int .i64 (tr : Int))).put (some 29) (.pointer (some ⟨r, 0, none⟩))).put (some 30) (.pointer (some ⟨r, 0, none⟩))).put (some 31) (.pointer (some ⟨r, 0, none⟩))).put (some 32) (.pointer (some ⟨r, 1, none⟩))).put (some 33) (.int .i64 (un : Int))).put (some 22) (.string (txtJ k))).put (some 28) (.string (txtJ tr))).put (some 34) (.string (txtJ un))).put (some 35) (.slice (some ⟨q, 0, none⟩) 5 5)).put (some 5) (.slice (some ⟨q, 0, none⟩) 5 5)) ∧ V.heap[q]? = some (.cells #[.string (mkH h), .string saltB, .string (txtJ k), .string (txtJ tr), .string (txtJ un)] 9 (0, 0)) ∧ V0.heap.size ≤ q ∧ Below V0.heap.size V0 V) A W5 := by
  have hm : Tryz.prog.follows .mixedOrders = true := by kernel_rfl
  unfold codeRR
  conv => arg 2; whnf
  refine wp_region_G (fun _ => false) (RecS r tr un h k) hm ?_
  rw [show ({ W5 with drawn := W5.drawn + 1 } : World) = V0 from hV0.symm]
  refine wpAnyG_take (i := 0) (v := .pointer (some ⟨r, 0, none⟩)) rfl (by kernel_rfl) (by kernel_rfl) (by kernel_rfl) (fun _ _ _ h => nomatch h.1) (yg_mv (by simp [Region.wanted]) (.tmp 0) rfl e0) hs0 ?_
  show wpAnyG _ _ _ _ _ _ _ _ (A.put (some 9) (.pointer (some ⟨r, 0, none⟩))) _
  refine wpAnyG_take (i := 1) (v := .pointer (some ⟨r, 0, none⟩)) rfl (by kernel_rfl) (by kernel_rfl) (by kernel_rfl) (fun _ _ _ h => nomatch h.1) (yg_nil (by simp [Region.wanted]) (.tmp 9) rfl (ev_eq _ _ (by simp [sz]))) hs0 ?_
  show wpAnyG _ _ _ _ _ _ _ _ ((A.put (some 9) (.pointer (some ⟨r, 0, none⟩))).put (some 10) (.pointer (some ⟨r, 0, none⟩))) _
  refine wpAnyG_take (i := 2) (v := .pointer (some ⟨r, 2, none⟩)) rfl (by kernel_rfl) (by kernel_rfl) (by kernel_rfl) (fun _ _ _ h => nomatch h.1) (yg_fld (by simp [Region.wanted]) (.tmp 10) rfl (ev_eq _ _ (by simp [put_sz, sz])) (fun w => by simp [go_sem])) hs0 ?_
  show wpAnyG _ _ _ _ _ _ _ _ (((A.put (some 9) (.pointer (some ⟨r, 0, none⟩))).put (some 10) (.pointer (some ⟨r, 0, none⟩))).put (some 11) (.pointer (some ⟨r, 2, none⟩))) _
  refine wpAnyG_take (i := 3) (v := .slice (some ⟨r, 2, none⟩) 32 32) rfl (by kernel_rfl) (by kernel_rfl) (by kernel_rfl) (fun _ _ _ h => nomatch h.1) (yg_slc (by simp [Region.wanted]) (.tmp 11) rfl (ev_eq _ _ (by simp [put_sz, sz])) rfl rfl rfl (fun w => sl_rec w r)) hs0 ?_
  show wpAnyG _ _ _ _ _ _ _ _ ((((A.put (some 9) (.pointer (some ⟨r, 0, none⟩))).put (some 10) (.pointer (some ⟨r, 0, none⟩))).put (some 11) (.pointer (some ⟨r, 2, none⟩))).put (some 12) (.slice (some ⟨r, 2, none⟩) 32 32)) _
  refine wpAnyG_take (i := 4) (v := .string (mkH h)) rfl (by kernel_rfl) (by kernel_rfl) (by kernel_rfl) (fun _ _ _ h => nomatch h.1) (yg_cvS (by simp [Region.wanted]) (.tmp 12) rfl (ev_eq _ _ (by simp [put_sz, sz])) (fun w hw => hw.conv hl)) hs0 ?_
  show wpAnyG _ _ _ _ _ _ _ _ (((((A.put (some 9) (.pointer (some ⟨r, 0, none⟩))).put (some 10) (.pointer (some ⟨r, 0, none⟩))).put (some 11) (.pointer (some ⟨r, 2, none⟩))).put (some 12) (.slice (some ⟨r, 2, none⟩) 32 32)).put (some 13) (.string (mkH h))) _
  refine wpAnyG_take (i := 5) (v := .pointer (some ⟨r, 0, none⟩)) rfl (by kernel_rfl) (by kernel_rfl) (by kernel_rfl) (fun _ _ _ h => nomatch h.1) (yg_mv (by simp [Region.wanted]) (.tmp 0) rfl ((ev_ne _ _ (by decide)).trans ((ev_ne _ _ (by decide)).trans ((ev_ne _ _ (by decide)).trans ((ev_ne _ _ (by decide)).trans ((ev_ne _ _ (by decide)).trans e0)))))) hs0 ?_
  show wpAnyG _ _ _ _ _ _ _ _ ((((((A.put (some 9) (.pointer (some ⟨r, 0, none⟩))).put (some 10) (.pointer (some ⟨r, 0, none⟩))).put (some 11) (.pointer (some ⟨r, 2, none⟩))).put (some 12) (.slice (some ⟨r, 2, none⟩) 32 32)).put (some 13) (.string (mkH h))).put (some 14) (.pointer (some ⟨r, 0, none⟩))) _
  refine wpAnyG_take (i := 6) (v := .pointer (some ⟨r, 0, none⟩)) rfl (by kernel_rfl) (by kernel_rfl) (by kernel_rfl) (fun _ _ _ h => nomatch h.1) (yg_nil (by simp [Region.wanted]) (.tmp 14) rfl (ev_eq _ _ (by simp [put_sz, sz]))) hs0 ?_
  show wpAnyG _ _ _ _ _ _ _ _ (((((((A.put (some 9) (.pointer (some ⟨r, 0, none⟩))).put (some 10) (.pointer (some ⟨r, 0, none⟩))).put (some 11) (.pointer (some ⟨r, 2, none⟩))).put (some 12) (.slice (some ⟨r, 2, none⟩) 32 32)).put (some 13) (.string (mkH h))).put (some 14) (.pointer (some ⟨r, 0, none⟩))).put (some 15) (.pointer (some ⟨r, 0, none⟩))) _
  refine wpAnyG_take (i := 7) (v := .pointer (some ⟨r, 34, none⟩)) rfl (by kernel_rfl) (by kernel_rfl) (by kernel_rfl) (fun _ _ _ h => nomatch h.1) (yg_fld (by simp [Region.wanted]) (.tmp 15) rfl (ev_eq _ _ (by simp [put_sz, sz])) (fun w => by simp [go_sem])) hs0 ?_
  show wpAnyG _ _ _ _ _ _ _ _ ((((((((A.put (some 9) (.pointer (some ⟨r, 0, none⟩))).put (some 10) (.pointer (some ⟨r, 0, none⟩))).put (some 11) (.pointer (some ⟨r, 2, none⟩))).put (some 12) (.slice (some ⟨r, 2, none⟩) 32 32)).put (some 13) (.string (mkH h))).put (some 14) (.pointer (some ⟨r, 0, none⟩))).put (some 15) (.pointer (some ⟨r, 0, none⟩))).put (some 16) (.pointer (some ⟨r, 34, none⟩))) _
  refine wpAnyG_take (i := 8) (v := .string saltB) rfl (by kernel_rfl) (by kernel_rfl) (by kernel_rfl) (fun _ _ _ h => nomatch h.1) (yg_ld (by simp [Region.wanted]) (.tmp 16) rfl (ev_eq _ _ (by simp [put_sz, sz])) (fun w hw => by have h1 := hw.c34 hl; simp [go_sem, h1])) hs0 ?_
  show wpAnyG _ _ _ _ _ _ _ _ (((((((((A.put (some 9) (.pointer (some ⟨r, 0, none⟩))).put (some 10) (.pointer (some ⟨r, 0, none⟩))).put (some 11) (.pointer (some ⟨r, 2, none⟩))).put (some 12) (.slice (some ⟨r, 2, none⟩) 32 32)).put (some 13) (.string (mkH h))).put (some 14) (.pointer (some ⟨r, 0, none⟩))).put (some 15) (.pointer (some ⟨r, 0, none⟩))).put (some 16) (.pointer (some ⟨r, 34, none⟩))).put (some 17) (.string saltB)) _
  obtain ⟨Az1, hAz1⟩ : ∃ Az1, Az1 = (((((((((A.put (some 9) (.pointer (some ⟨r, 0, none⟩))).put (some 10) (.pointer (some ⟨r, 0, none⟩))).put (some 11) (.pointer (some ⟨r, 2, none⟩))).put (some 12) (.slice (some ⟨r, 2, none⟩) 32 32)).put (some 13) (.string (mkH h))).put (some 14) (.pointer (some ⟨r, 0, none⟩))).put (some 15) (.pointer (some ⟨r, 0, none⟩))).put (some 16) (.pointer (some ⟨r, 34, none⟩))).put (some 17) (.string saltB)) := ⟨_, rfl⟩
  have szAz1 : Az1.tmps.size = 65 := by rw [hAz1]; simp [put_sz, sz]
  have eAz10 : Az1.eval (.tmp 0) = .pointer (some ⟨r, 0, none⟩) := by rw [hAz1]; exact ((ev_ne _ _ (by decide)).trans ((ev_ne _ _ (by decide)).trans ((ev_ne _ _ (by decide)).trans ((ev_ne _ _ (by decide)).trans ((ev_ne _ _ (by decide)).trans ((ev_ne _ _ (by decide)).trans ((ev_ne _ _ (by decide)).trans ((ev_ne _ _ (by decide)).trans ((ev_ne _ _ (by decide)).trans e0)))))))))
  have eAz113 : Az1.eval (.tmp 13) = .string (mkH h) := by rw [hAz1]; exact ((ev_ne _ _ (by decide)).trans ((ev_ne _ _ (by decide)).trans ((ev_ne _ _ (by decide)).trans ((ev_ne _ _ (by decide)).trans (ev_eq _ _ (by simp [put_sz, sz]))))))
  have eAz117 : Az1.eval (.tmp 17) = .string saltB := by rw [hAz1]; exact (ev_eq _ _ (by simp [put_sz, sz]))
  rw [← hAz1]
  refine wpAnyG_take (i := 9) (v := .pointer (some ⟨r, 0, none⟩)) rfl (by kernel_rfl) (by kernel_rfl) (by kernel_rfl) (fun _ _ _ h => nomatch h.1) (yg_mv (by simp [Region.wanted]) (.tmp 0) rfl eAz10) hs0 ?_
  show wpAnyG _ _ _ _ _ _ _ _ (Az1.put (some 18) (.pointer (some ⟨r, 0, none⟩))) _
  refine wpAnyG_take (i := 10) (v := .pointer (some ⟨r, 0, none⟩)) rfl (by kernel_rfl) (by kernel_rfl) (by kernel_rfl) (fun _ _ _ h => nomatch h.1) (yg_nil (by simp [Region.wanted]) (.tmp 18) rfl (ev_eq _ _ (by simp [szAz1]))) hs0 ?_
  show wpAnyG _ _ _ _ _ _ _ _ ((Az1.put (some 18) (.pointer (some ⟨r, 0, none⟩))).put (some 19) (.pointer (some ⟨r, 0, none⟩))) _
  refine wpAnyG_take (i := 11) (v := .pointer (some ⟨r, 35, none⟩)) rfl (by kernel_rfl) (by kernel_rfl) (by kernel_rfl) (fun _ _ _ h => nomatch h.1) (yg_fld (by simp [Region.wanted]) (.tmp 19) rfl (ev_eq _ _ (by simp [put_sz, szAz1])) (fun w => by simp [go_sem])) hs0 ?_
  show wpAnyG _ _ _ _ _ _ _ _ (((Az1.put (some 18) (.pointer (some ⟨r, 0, none⟩))).put (some 19) (.pointer (some ⟨r, 0, none⟩))).put (some 20) (.pointer (some ⟨r, 35, none⟩))) _
  refine wpAnyG_take (i := 12) (v := .int .i64 (k : Int)) rfl (by kernel_rfl) (by kernel_rfl) (by kernel_rfl) (fun _ _ _ h => nomatch h.1) (yg_ld (by simp [Region.wanted]) (.tmp 20) rfl (ev_eq _ _ (by simp [put_sz, szAz1])) (fun w hw => by have h1 := hw.c35 hl; simp [go_sem, h1])) hs0 ?_
  show wpAnyG _ _ _ _ _ _ _ _ ((((Az1.put (some 18) (.pointer (some ⟨r, 0, none⟩))).put (some 19) (.pointer (some ⟨r, 0, none⟩))).put (some 20) (.pointer (some ⟨r, 35, none⟩))).put (some 21) (.int .i64 (k : Int))) _
  refine wpAnyG_take (i := 14) (v := .pointer (some ⟨r, 0, none⟩)) rfl (by kernel_rfl) (by kernel_rfl) (by kernel_rfl) (fun _ _ _ h => nomatch h.1) (yg_mv (by simp [Region.wanted]) (.tmp 0) rfl ((ev_ne _ _ (by decide)).trans ((ev_ne _ _ (by decide)).trans ((ev_ne _ _ (by decide)).trans ((ev_ne _ _ (by decide)).trans eAz10))))) hs0 ?_
  show wpAnyG _ _ _ _ _ _ _ _ (((((Az1.put (some 18) (.pointer (some ⟨r, 0, none⟩))).put (some 19) (.pointer (some ⟨r, 0, none⟩))).put (some 20) (.pointer (some ⟨r, 35, none⟩))).put (some 21) (.int .i64 (k : Int))).put (some 23) (.pointer (some ⟨r, 0, none⟩))) _
  refine wpAnyG_take (i := 15) (v := .pointer (some ⟨r, 0, none⟩)) rfl (by kernel_rfl) (by kernel_rfl) (by kernel_rfl) (fun _ _ _ h => nomatch h.1) (yg_nil (by simp [Region.wanted]) (.tmp 23) rfl (ev_eq _ _ (by simp [put_sz, szAz1]))) hs0 ?_
  show wpAnyG _ _ _ _ _ _ _ _ ((((((Az1.put (some 18) (.pointer (some ⟨r, 0, none⟩))).put (some 19) (.pointer (some ⟨r, 0, none⟩))).put (some 20) (.pointer (some ⟨r, 35, none⟩))).put (some 21) (.int .i64 (k : Int))).put (some 23) (.pointer (some ⟨r, 0, none⟩))).put (some 24) (.pointer (some ⟨r, 0, none⟩))) _
  refine wpAnyG_take (i := 16) (v := .pointer (some ⟨r, 0, none⟩)) rfl (by kernel_rfl) (by kernel_rfl) (by kernel_rfl) (fun _ _ _ h => nomatch h.1) (yg_fld (by simp [Region.wanted]) (.tmp 24) rfl (ev_eq _ _ (by simp [put_sz, szAz1])) (fun w => by simp [go_sem])) hs0 ?_
  show wpAnyG _ _ _ _ _ _ _ _ (((((((Az1.put (some 18) (.pointer (some ⟨r, 0, none⟩))).put (some 19) (.pointer (some ⟨r, 0, none⟩))).put (some 20) (.pointer (some ⟨r, 35, none⟩))).put (some 21) (.int .i64 (k : Int))).put (some 23) (.pointer (some ⟨r, 0, none⟩))).put (some 24) (.pointer (some ⟨r, 0, none⟩))).put (some 25) (.pointer (some ⟨r, 0, none⟩))) _
  refine wpAnyG_take (i := 17) (v := .pointer (some ⟨r, 0, none⟩)) rfl (by kernel_rfl) (by kernel_rfl) (by kernel_rfl) (fun _ _ _ h => nomatch h.1) (yg_fld (by simp [Region.wanted]) (.tmp 25) rfl (ev_eq _ _ (by simp [put_sz, szAz1])) (fun w => by simp [go_sem])) hs0 ?_
  show wpAnyG _ _ _ _ _ _ _ _ ((((((((Az1.put (some 18) (.pointer (some ⟨r, 0, none⟩))).put (some 19) (.pointer (some ⟨r, 0, none⟩))).put (some 20) (.pointer (some ⟨r, 35, none⟩))).put (some 21) (.int .i64 (k : Int))).put (some 23) (.pointer (some ⟨r, 0, none⟩))).put (some 24) (.pointer (some ⟨r, 0, none⟩))).put (some 25) (.pointer (some ⟨r, 0, none⟩))).put (some 26) (.pointer (some ⟨r, 0, none⟩))) _
  refine wpAnyG_take (i := 18) (v := .int .i64 (tr : Int)) rfl (by kernel_rfl) (by kernel_rfl) (by kernel_rfl) (fun _ _ _ h => nomatch h.1) (yg_ld (by simp [Region.wanted]) (.tmp 26) rfl (ev_eq _ _ (by simp [put_sz, szAz1])) (fun w hw => by have h1 := hw.c0; simp [go_sem, h1])) hs0 ?_
  show wpAnyG _ _ _ _ _ _ _ _ (((((((((Az1.put (some 18) (.pointer (some ⟨r, 0, none⟩))).put (some 19) (.pointer (some ⟨r, 0, none⟩))).put (some 20) (.pointer (some ⟨r, 35, none⟩))).put (some 21) (.int .i64 (k : Int))).put (some 23) (.pointer (some ⟨r, 0, none⟩))).put (some 24) (.pointer (some ⟨r, 0, none⟩))).put (some 25) (.pointer (some ⟨r, 0, none⟩))).put (some 26) (.pointer (some ⟨r, 0, none⟩))).put (some 27) (.int .i64 (tr : Int))) _
  obtain ⟨Az2, hAz2⟩ : ∃ Az2, Az2 = (((((((((Az1.put (some 18) (.pointer (some ⟨r, 0, none⟩))).put (some 19) (.pointer (some ⟨r, 0, none⟩))).put (some 20) (.pointer (some ⟨r, 35, none⟩))).put (some 21) (.int .i64 (k : Int))).put (some 23) (.pointer (some ⟨r, 0, none⟩))).put (some 24) (.pointer (some ⟨r, 0, none⟩))).put (some 25) (.pointer (some ⟨r, 0, none⟩))).put (some 26) (.pointer (some ⟨r, 0, none⟩))).put (some 27) (.int .i64 (tr : Int))) := ⟨_, rfl⟩
  have szAz2 : Az2.tmps.size = 65 := by rw [hAz2]; simp [put_sz, szAz1]
  have eAz20 : Az2.eval (.tmp 0) = .pointer (some ⟨r, 0, none⟩) := by rw [hAz2]; exact ((ev_ne _ _ (by decide)).trans ((ev_ne _ _ (by decide)).trans ((ev_ne _ _ (by decide)).trans ((ev_ne _ _ (by decide)).trans ((ev_ne _ _ (by decide)).trans ((ev_ne _ _ (by decide)).trans ((ev_ne _ _ (by decide)).trans ((ev_ne _ _ (by decide)).trans ((ev_ne _ _ (by decide)).trans eAz10)))))))))
  have eAz213 : Az2.eval (.tmp 13) = .string (mkH h) := by rw [hAz2]; exact ((ev_ne _ _ (by decide)).trans ((ev_ne _ _ (by decide)).trans ((ev_ne _ _ (by decide)).trans ((ev_ne _ _ (by decide)).trans ((ev_ne _ _ (by decide)).trans ((ev_ne _ _ (by decide)).trans ((ev_ne _ _ (by decide)).trans ((ev_ne _ _ (by decide)).trans ((ev_ne _ _ (by decide)).trans eAz113)))))))))
  have eAz217 : Az2.eval (.tmp 17) = .string saltB := by rw [hAz2]; exact ((ev_ne _ _ (by decide)).trans ((ev_ne _ _ (by decide)).trans ((ev_ne _ _ (by decide)).trans ((ev_ne _ _ (by decide)).trans ((ev_ne _ _ (by decide)).trans ((ev_ne _ _ (by decide)).trans ((ev_ne _ _ (by decide)).trans ((ev_ne _ _ (by decide)).trans ((ev_ne _ _ (by decide)).trans eAz117)))))))))
  have eAz221 : Az2.eval (.tmp 21) = .int .i64 (k : Int) := by rw [hAz2]; exact ((ev_ne _ _ (by decide)).trans ((ev_ne _ _ (by decide)).trans ((ev_ne _ _ (by decide)).trans ((ev_ne _ _ (by decide)).trans ((ev_ne _ _ (by decide)).trans (ev_eq _ _ (by simp [put_sz, szAz1])))))))
  have eAz227 : Az2.eval (.tmp 27) = .int .i64 (tr : Int) := by rw [hAz2]; exact (ev_eq _ _ (by simp [put_sz, szAz1]))
  rw [← hAz2]
  refine wpAnyG_take (i := 20) (v := .pointer (some ⟨r, 0, none⟩)) rfl (by kernel_rfl) (by kernel_rfl) (by kernel_rfl) (fun _ _ _ h => nomatch h.1) (yg_mv (by simp [Region.wanted]) (.tmp 0) rfl eAz20) hs0 ?_
  show wpAnyG _ _ _ _ _ _ _ _ (Az2.put (some 29) (.pointer (some ⟨r, 0, none⟩))) _
  refine wpAnyG_take (i := 21) (v := .pointer (some ⟨r, 0, none⟩)) rfl (by kernel_rfl) (by kernel_rfl) (by kernel_rfl) (fun _ _ _ h => nomatch h.1) (yg_nil (by simp [Region.wanted]) (.tmp 29) rfl (ev_eq _ _ (by simp [szAz2]))) hs0 ?_
  show wpAnyG _ _ _ _ _ _ _ _ ((Az2.put (some 29) (.pointer (some ⟨r, 0, none⟩))).put (some 30) (.pointer (some ⟨r, 0, none⟩))) _
  refine wpAnyG_take (i := 22) (v := .pointer (some ⟨r, 0, none⟩)) rfl (by kernel_rfl) (by kernel_rfl) (by kernel_rfl) (fun _ _ _ h => nomatch h.1) (yg_fld (by simp [Region.wanted]) (.tmp 30) rfl (ev_eq _ _ (by simp [put_sz, szAz2])) (fun w => by simp [go_sem])) hs0 ?_
  show wpAnyG _ _ _ _ _ _ _ _ (((Az2.put (some 29) (.pointer (some ⟨r, 0, none⟩))).put (some 30) (.pointer (some ⟨r, 0, none⟩))).put (some 31) (.pointer (some ⟨r, 0, none⟩))) _
  refine wpAnyG_take (i := 23) (v := .pointer (some ⟨r, 1, none⟩)) rfl (by kernel_rfl) (by kernel_rfl) (by kernel_rfl) (fun _ _ _ h => nomatch h.1) (yg_fld (by simp [Region.wanted]) (.tmp 31) rfl (ev_eq _ _ (by simp [put_sz, szAz2])) (fun w => by simp [go_sem])) hs0 ?_
  show wpAnyG _ _ _ _ _ _ _ _ ((((Az2.put (some 29) (.pointer (some ⟨r, 0, none⟩))).put (some 30) (.pointer (some ⟨r, 0, none⟩))).put (some 31) (.pointer (some ⟨r, 0, none⟩))).put (some 32) (.pointer (some ⟨r, 1, none⟩))) _
  refine wpAnyG_take (i := 24) (v := .int .i64 (un : Int)) rfl (by kernel_rfl) (by kernel_rfl) (by kernel_rfl) (fun _ _ _ h => nomatch h.1) (yg_ld (by simp [Region.wanted]) (.tmp 32) rfl (ev_eq _ _ (by simp [put_sz, szAz2])) (fun w hw => by have h1 := hw.c1; simp [go_sem, h1])) hs0 ?_
  show wpAnyG _ _ _ _ _ _ _ _ (((((Az2.put (some 29) (.pointer (some ⟨r, 0, none⟩))).put (some 30) (.pointer (some ⟨r, 0, none⟩))).put (some 31) (.pointer (some ⟨r, 0, none⟩))).put (some 32) (.pointer (some ⟨r, 1, none⟩))).put (some 33) (.int .i64 (un : Int))) _
  refine wpAnyG_all (rs := [13]) (by kernel_rfl) (by simp) fun i1 hm1 => ?_
  obtain rfl : i1 = 13 := by simpa using hm1
  refine wpOp_own rfl rfl fun K1 hK1 => ?_
  refine wp_calls1 41 hf_textJ (.tmp 21) _ rfl (.int .i64 (k : Int)) ((ev_ne _ _ (by decide)).trans ((ev_ne _ _ (by decide)).trans ((ev_ne _ _ (by decide)).trans ((ev_ne _ _ (by decide)).trans ((ev_ne _ _ (by decide)).trans eAz221))))) ?_
  refine (textJ_any k (by omega) V0 hs0.2).mono ?_
  rintro _ V1 ⟨rfl, hb1⟩
  have hs1 := hs0.below hb1
  refine ⟨_, rfl, hK1 _ _ ⟨.inr hs1, ?_⟩⟩
  clear hK1 K1 hm1
  show wpAnyG _ _ _ _ _ _ _ _ ((((((Az2.put (some 29) (.pointer (some ⟨r, 0, none⟩))).put (some 30) (.pointer (some ⟨r, 0, none⟩))).put (some 31) (.pointer (some ⟨r, 0, none⟩))).put (some 32) (.pointer (some ⟨r, 1, none⟩))).put (some 33) (.int .i64 (un : Int))).put (some 22) (.string (txtJ k))) _
  refine wpAnyG_all (rs := [19]) (by kernel_rfl) (by simp) fun i2 hm2 => ?_
  obtain rfl : i2 = 19 := by simpa using hm2
  refine wpOp_own rfl rfl fun K2 hK2 => ?_
  refine wp_calls1 41 hf_textJ (.tmp 27) _ rfl (.int .i64 (tr : Int)) ((ev_ne _ _ (by decide)).trans ((ev_ne _ _ (by decide)).trans ((ev_ne _ _ (by decide)).trans ((ev_ne _ _ (by decide)).trans ((ev_ne _ _ (by decide)).trans ((ev_ne _ _ (by decide)).trans eAz227)))))) ?_
  refine (textJ_any tr (by omega) V1 hs1.2).mono ?_
  rintro _ V2 ⟨rfl, hb2⟩
  have hs2 := hs1.below hb2
  refine ⟨_, rfl, hK2 _ _ ⟨.inr hs2, ?_⟩⟩
  clear hK2 K2 hm2
  show wpAnyG _ _ _ _ _ _ _ _ (((((((Az2.put (some 29) (.pointer (some ⟨r, 0, none⟩))).put (some 30) (.pointer (some ⟨r, 0, none⟩))).put (some 31) (.pointer (some ⟨r, 0, none⟩))).put (some 32) (.pointer (some ⟨r, 1, none⟩))).put (some 33) (.int .i64 (un : Int))).put (some 22) (.string (txtJ k))).put (some 28) (.string (txtJ tr))) _
  refine wpAnyG_all (rs := [25]) (by kernel_rfl) (by simp) fun i3 hm3 => ?_
  obtain rfl : i3 = 25 := by simpa using hm3
  refine wpOp_own rfl rfl fun K3 hK3 => ?_
  refine wp_calls1 41 hf_textJ (.tmp 33) _ rfl (.int .i64 (un : Int)) ((ev_ne _ _ (by decide)).trans ((ev_ne _ _ (by decide)).trans (ev_eq _ _ (by simp [put_sz, szAz2])))) ?_
  refine (textJ_any un (by omega) V2 hs2.2).mono ?_
  rintro _ V3 ⟨rfl, hb3⟩
  have hs3 := hs2.below hb3
  refine ⟨_, rfl, hK3 _ _ ⟨.inr hs3, ?_⟩⟩
  clear hK3 K3 hm3
  show wpAnyG _ _ _ _ _ _ _ _ ((((((((Az2.put (some 29) (.pointer (some ⟨r, 0, none⟩))).put (some 30) (.pointer (some ⟨r, 0, none⟩))).put (some 31) (.pointer (some ⟨r, 0, none⟩))).put (some 32) (.pointer (some ⟨r, 1, none⟩))).put (some 33) (.int .i64 (un : Int))).put (some 22) (.string (txtJ k))).put (some 28) (.string (txtJ tr))).put (some 34) (.string (txtJ un))) _
  refine wpAnyG_all (rs := [26]) (by kernel_rfl) (by simp) fun i4 hm4 => ?_
  obtain rfl : i4 = 26 := by simpa using hm4
  refine wpOp_own rfl rfl fun K4 hK4 => ?_
  refine wp_build5 (.tmp 13) (.tmp 17) (.tmp 22) (.tmp 28) (.tmp 34) rfl (mkH h) saltB (txtJ k) (txtJ tr) (txtJ un) ((ev_ne _ _ (by decide)).trans ((ev_ne _ _ (by decide)).trans ((ev_ne _ _ (by decide)).trans ((ev_ne _ _ (by decide)).trans ((ev_ne _ _ (by decide)).trans ((ev_ne _ _ (by decide)).trans ((ev_ne _ _ (by decide)).trans ((ev_ne _ _ (by decide)).trans eAz213)))))))) ((ev_ne _ _ (by decide)).trans ((ev_ne _ _ (by decide)).trans ((ev_ne _ _ (by decide)).trans ((ev_ne _ _ (by decide)).trans ((ev_ne _ _ (by decide)).trans ((ev_ne _ _ (by decide)).trans ((ev_ne _ _ (by decide)).trans ((ev_ne _ _ (by decide)).trans eAz217)))))))) ((ev_ne _ _ (by decide)).trans ((ev_ne _ _ (by decide)).trans (ev_eq _ _ (by simp [put_sz, szAz2])))) ((ev_ne _ _ (by decide)).trans (ev_eq _ _ (by simp [put_sz, szAz2]))) (ev_eq _ _ (by simp [put_sz, szAz2])) ?_
  have hb4 : Below V3.heap.size V3 (V3.alloc (.cells #[.string (mkH h), .string saltB, .string (txtJ k), .string (txtJ tr), .string (txtJ un)] 9)) := (Below.refl _ V3).alloc (Nat.le_refl _) _
  have hs4 := hs3.below hb4
  refine hK4 _ _ ⟨.inr hs4, ?_⟩
  clear hK4 K4 hm4
  show wpAnyG _ _ _ _ _ _ _ _ (((((((((Az2.put (some 29) (.pointer (some ⟨r, 0, none⟩))).put (some 30) (.pointer (some ⟨r, 0, none⟩))).put (some 31) (.pointer (some ⟨r, 0, none⟩))).put (some 32) (.pointer (some ⟨r, 1, none⟩))).put (some 33) (.int .i64 (un : Int))).put (some 22) (.string (txtJ k))).put (some 28) (.string (txtJ tr))).put (some 34) (.string (txtJ un))).put (some 35) (.slice (some ⟨V3.heap.size, 0, none⟩) 5 5)) _
  obtain ⟨Az3, hAz3⟩ : ∃ Az3, Az3 = (((((((((Az2.put (some 29) (.pointer (some ⟨r, 0, none⟩))).put (some 30) (.pointer (some ⟨r, 0, none⟩))).put (some 31) (.pointer (some ⟨r, 0, none⟩))).put (some 32) (.pointer (some ⟨r, 1, none⟩))).put (some 33) (.int .i64 (un : Int))).put (some 22) (.string (txtJ k))).put (some 28) (.string (txtJ tr))).put (some 34) (.string (txtJ un))).put (some 35) (.slice (some ⟨V3.heap.size, 0, none⟩) 5 5)) := ⟨_, rfl⟩
  have szAz3 : Az3.tmps.size = 65 := by rw [hAz3]; simp [put_sz, szAz2]
  have eAz335 : Az3.eval (.tmp 35) = .slice (some ⟨V3.heap.size, 0, none⟩) 5 5 := by rw [hAz3]; exact (ev_eq _ _ (by simp [put_sz, szAz2]))
  rw [← hAz3]
  refine wpAnyG_take (i := 27) (v := .slice (some ⟨V3.heap.size, 0, none⟩) 5 5) rfl (by kernel_rfl) (by kernel_rfl) (by kernel_rfl) (fun _ _ _ h => nomatch h.1) (yg_as (by simp [Region.wanted]) (.tmp 35) rfl eAz335) hs4 ?_
  show wpAnyG _ _ _ _ _ _ _ _ (Az3.put (some 5) (.slice (some ⟨V3.heap.size, 0, none⟩) 5 5)) _
  refine wpAnyG_done (by kernel_rfl) ⟨rfl, V3.heap.size, ?_, heap_alloc_new V3 _, Nat.le_trans hb1.size (Nat.le_trans hb2.size hb3.size), Below.on' (Below.on' (Below.on' hb1 hb2) hb3) hb4⟩ _
  show (Az3.put (some 5) (.slice (some ⟨V3.heap.size, 0, none⟩) 5 5)) = _
  rw [hAz3, hAz2, hAz1]
end Go.Proofs.YtomhcccjeadefaaGreatDoor
