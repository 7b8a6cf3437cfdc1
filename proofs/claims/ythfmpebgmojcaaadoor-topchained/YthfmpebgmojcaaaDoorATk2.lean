/- YthfmpebgmojcaaaDoorALd5 + YthfmpebgmojcaaaDoorATk + YthfmpebgmojcaaaDoorATk2 -/
import Derived.Test.YthfmpebgmojcaaaDoorTkG
import Derived.Test.YthfmpebgmojcaaaDoorALd1
import Derived.BigQuiet
import Derived.Test.YthfmpebgmojcaaaDoorAAdd6
import Derived.Test.YthfmpebgmojcaaaDoorYG
import Derived.Test.YthfmpebgmojcaaaDoorALinks5
/- Loading a chain: lastAt, by a contract. -/
namespace Go.Proofs.YthfmpebgmojcaaaDoor
open Go.RowKit
set_option linter.unusedVariables false
set_option maxRecDepth 20000
def lastT (c : Ch) : Nat := (c.ev.getLast?.map (·.tim)).getD 0
set_option maxHeartbeats 1000000 in
theorem lastAt_any {w : World} {B g : Nat} {v : Value} {c : Ch} (h : ChAt w B g v c) (ok : Lens c) (hfew : c.ev.length ≤ 1000) :
    Calls Tryd.prog 74 #[.pointer (some ⟨g, 0, none⟩)] w fun e w' => e = .returned (.int .i64 (lastT c : Int)) ∧ Below w.heap.size w w' := by
  obtain ⟨a0, cap, rfl⟩ := h.val
  have c66 := h.c66 ok
  by_cases h0 : c.ev.length = 0
  · have hl : lastT c = 0 := by unfold lastT; rw [List.eq_nil_of_length_eq_zero h0]; rfl
    rw [hl]
    rw [h0] at c66
    clear h hl h0
    go_enter Tryd.func74, Tryd.ntmps74
    go_wp2
    go_ret
    exact ⟨rfl, Below.refl _ _⟩
  · obtain ⟨n, hn⟩ : ∃ n, c.ev.length = n + 1 := ⟨c.ev.length - 1, by omega⟩
    obtain ⟨b, rfl, hrow⟩ := h.row_at n (by omega)
    have d1 : w.cell? ⟨b, n * 4 + 1, none⟩ = some (.int .i64 ((c.ev[n]'(by omega)).tim : Int)) := hrow 1 _ rfl
    have hl : lastT c = (c.ev[n]'(by omega)).tim := by
      unfold lastT
      rw [List.getLast?_eq_getElem?, List.getElem?_eq_getElem (by omega)]
      simp [hn]
    rw [hl]
    generalize (c.ev[n]'(by omega)).tim = q at *
    rw [hn] at c66
    have g1 : (((n + 1 : Nat) : Int) == 0) = false := by rw [beq_eq_false_iff_ne]; omega
    have hn1 : n ≤ 1000 := by omega
    have Hl := hid hl
    clear h hrow hl h0 hn hfew Hl
    go_enter Tryd.func74, Tryd.ntmps74
    go_wp2_with fail
    go_quiet (fail)
    go_wp2
    go_ret
    exact ⟨rfl, ⟨rfl, rfl, rfl, Nat.le_refl _, fun _ _ => rfl⟩⟩
end Go.Proofs.YthfmpebgmojcaaaDoor
/- takeEvent of a chain, its regions, over a frame that is a letter. -/
namespace Go.Proofs.YthfmpebgmojcaaaDoor
open Go.RowKit
set_option linter.unusedVariables false
set_option maxRecDepth 20000
def TE (R b o cp : Nat) (key p q s : ByteArray) (K : World → Prop) (V : World) : Prop := V.heap[R]? = some (.cells #[.string key, .slice (some ⟨b, o, none⟩) 3 cp] 75 (0, 0)) ∧ (V.cell? ⟨b, o, none⟩ = some (.string p) ∧ V.cell? ⟨b, o + 1, none⟩ = some (.string q) ∧ V.cell? ⟨b, o + 2, none⟩ = some (.string s)) ∧ K V
section
variable {R b o cp : Nat} {key p q s : ByteArray} {K : World → Prop} {V V' : World}
theorem TE.k0 (h : TE R b o cp key p q s K V) : V.cell? ⟨R, 0, none⟩ = some (.string key) := cell_of_row _ _ 0 _ _ _ h.1
theorem TE.k1 (h : TE R b o cp key p q s K V) : V.cell? ⟨R, 1, none⟩ = some (.slice (some ⟨b, o, none⟩) 3 cp) := cell_of_row _ _ 1 _ _ _ h.1
theorem TE.keep (h : TE R b o cp key p q s K V) (hb : Below V.heap.size V V') (hk : K V') : TE R b o cp key p q s K V' :=
  ⟨(hb.block _ (heap_lt h.1)).trans h.1, ⟨(hb.cell (World.block_lt_of_cell? _ _ h.2.1.1)).trans h.2.1.1, (hb.cell (World.block_lt_of_cell? _ _ h.2.1.2.1)).trans h.2.1.2.1, (hb.cell (World.block_lt_of_cell? _ _ h.2.1.2.2)).trans h.2.1.2.2⟩, hk⟩
theorem cell_grown {w w' : World} {r : Option Nat} {x k : Nat} {u : Value} (h : w.grownBy w' r) (hne : r ≠ some x) (hc : w.cell? ⟨x, k, none⟩ = some u) : w'.cell? ⟨x, k, none⟩ = some u := by
  have := h.block x (World.block_lt_of_cell? _ _ hc) (fun e => hne e.symm)
  unfold World.cell? at hc ⊢
  rw [this]
  exact hc
theorem TE.grown {r : Option Nat} (h : TE R b o cp key p q s K V) (hg : V.grownBy V' r) (hR : r ≠ some R) (hb : r ≠ some b) (hk : K V') : TE R b o cp key p q s K V' :=
  ⟨(hg.block _ (heap_lt h.1) (fun e => hR e.symm)).trans h.1, ⟨cell_grown hg hb h.2.1.1, cell_grown hg hb h.2.1.2.1, cell_grown hg hb h.2.1.2.2⟩, hk⟩
end
theorem tooLong_no (a b : ByteArray) (ha : a.size ≤ 12) (hb : b.size ≤ 30) (w : World) : Calls Tryd.prog 73 #[.string a, .string b] w fun e w' => e = .returned (.bool false) ∧ w' = w := by
  refine (tooLong_any a b (by omega) (by omega) w).mono ?_
  rintro e w' ⟨rfl, rfl⟩
  exact ⟨by rw [decide_eq_false (by omega)], rfl⟩
theorem hf_tooLong : ∀ (args : Array Value) (w : World), (callFunc 73 args).run Tryd.prog w = .ok (.enter 73 args) w := fun args w => by simp [go_sem]
theorem hf_lastAt : ∀ (args : Array Value) (w : World), (callFunc 74 args).run Tryd.prog w = .ok (.enter 74 args) w := fun args w => by simp [go_sem]
theorem hf_stNumber : ∀ (args : Array Value) (w : World), (callFunc 71 args).run Tryd.prog w = .ok (.enter 71 args) w := fun args w => by simp [go_sem]
theorem wp_calls3 {P : Program} {Q : Exit → Act → World → Prop} {o : Oper} {a : Act} {w : World} {K : Act → World → Prop} (f : FuncId) (hf : ∀ (args : Array Value) (w : World), (callFunc f args).run P w = .ok (.enter f args) w) (x y z : Operand) (ts : Array TypeId) (ho : o.op = .call { callee := .value (.func f), args := #[x, y, z], argTypes := ts }) (v u t : Value) (hx : a.eval x = v) (hy : a.eval y = u) (hz : a.eval z = t) (h : Calls P f #[v, u, t] w fun e w'' => ∃ v, e = .returned v ∧ K (a.put o.dst v) w'') : o.wp P a w K Q :=
  wp_calls f #[v, u, t] (by subst hx; subst hy; subst hz; simp [execOp, ho, resolve, invoke, go_sem, hf]) h
theorem y_buildE {ops : Array Oper} {S : World → Prop} {op : Oper} {a : Act} (hw : Region.wanted op (yielded ops a.tmps) = true) (x y z u : Operand) (ho : op.op = .build 55 #[(0, x), (1, y), (2, z), (3, u)]) (e : Ev) (h0 : a.eval x = .int .i64 (e.num : Int)) (h1 : a.eval y = .int .i64 (e.tim : Int)) (h2 : a.eval z = .string e.what) (h3 : a.eval u = .string e.who) : YieldsIf Tryd.prog ops S op (.agg (eVals e).toArray) a := by
  refine .inl ⟨hw, fun w _ => ?_⟩
  unfold execOp
  simp only [ho, List.map_toArray, List.map_cons, List.map_nil, h0, h1, h2, h3, eVals]
  simp [go_sem]
noncomputable def codeTE (n : Nat) : Code := ((Tryd.f33.body.bind (regionAt n)).getD .skip)
set_option maxHeartbeats 2000000 in
theorem te_region2 {V0 W5 : World} {B g R b o cp : Nat} {c : Ch} {A : Act} {m : Nat} {p q s : ByteArray} {v : Value} (sz : A.tmps.size = 69) (e3 : A.eval (.tmp 3) = .pointer (some ⟨R, 0, none⟩)) (e5 : A.eval (.tmp 5) = .int .i64 (m : Int)) (hm4 : m ≤ 4611686018427387904) (hq : q.size ≤ 12) (hsz : s.size ≤ 30) (hT : TabAt V0) (hV0 : V0 = W5.drew) (hs0 : TE R b o cp (evKey m) p q s (fun V => ChAt V B g v c) V0) :
    (codeTE 2).wp Tryd.prog (fun x a V => x = .normal ∧ a = ((((((((((((((((((((((A.put (some 11) (.pointer (some ⟨R, 0, none⟩))).put (some 12) (.string (evKey m))).put (some 13) (.int .i64 (m : Int))).put (some 14) (.string (evKey m))).put (some 15) (.bool false)).put (some 16) (.bool false)).put (some 17) (.pointer (some ⟨R, 1, none⟩))).put (some 18) (.slice (some ⟨b, o, none⟩) 3 cp)).put (some 19) (.int .i64 3)).put (some 20) (.bool false)).put (some 21) (.bool false)).put (some 22) (.bool false)).put (some 23) (.pointer (some ⟨R, 1, none⟩))).put (some 24) (.slice (some ⟨b, o, none⟩) 3 cp)).put (some 25) (.pointer (some ⟨b, o + 1, none⟩))).put (some 26) (.string q)).put (some 27) (.pointer (some ⟨R, 1, none⟩))).put (some 28) (.slice (some ⟨b, o, none⟩) 3 cp)).put (some 29) (.pointer (some ⟨b, o + 2, none⟩))).put (some 30) (.string s)).put (some 31) (.bool false)).put (some 32) (.bool false)) ∧ TE R b o cp (evKey m) p q s (fun V => ChAt V B g v c) V ∧ Below V0.heap.size V0 V) A W5 := by
  have hm : Tryd.prog.follows .mixedOrders = true := by kernel_rfl
  unfold codeTE
  conv => arg 2; whnf
  refine wp_region_G (fun _ => false) (TE R b o cp (evKey m) p q s (fun V => ChAt V B g v c)) hm ?_
  rw [show ({ W5 with drawn := W5.drawn + 1 } : World) = V0 from hV0.symm]
  refine tkG (i := 0) (d := 11) (v := .pointer (some ⟨R, 0, none⟩)) rfl rfl (yg_fld (by simp [Region.wanted]) (.tmp 3) rfl e3 (fun w => by simp [go_sem])) hs0 ?_
  refine tkG (i := 1) (d := 12) (v := .string (evKey m)) rfl rfl (yg_ld (by simp [Region.wanted]) (.tmp 11) rfl (ev_eq _ _ (by simp [sz])) (fun w hw => by have h1 := hw.k0; simp [go_sem, h1])) hs0 ?_
  refine tkG (i := 2) (d := 13) (v := .int .i64 (m : Int)) rfl rfl (yg_mv (by simp [Region.wanted]) (.tmp 5) rfl (evn (evn e5))) hs0 ?_
  refine wpAnyG_all (rs := [3]) (by kernel_rfl) (by simp) fun i1 hm1 => ?_
  obtain rfl : i1 = 3 := by simpa using hm1
  refine wpOp_own rfl rfl fun K1 hK1 => ?_
  refine wp_calls1 41 hf_eventKey (.tmp 13) _ rfl (.int .i64 (m : Int)) (ev_eq _ _ (by simp [put_sz, sz])) ?_
  refine (eventKey_any m hm4 V0 hT).mono ?_
  rintro _ V1 ⟨rfl, hb1⟩
  have hs1 := hs0.keep hb1 (hs0.2.2.below hb1)
  refine ⟨_, rfl, hK1 _ _ ⟨.inr hs1, ?_⟩⟩
  clear hK1 K1 hm1
  show wpAnyG _ _ _ _ _ _ _ _ ((((A.put (some 11) (.pointer (some ⟨R, 0, none⟩))).put (some 12) (.string (evKey m))).put (some 13) (.int .i64 (m : Int))).put (some 14) (.string (evKey m))) _
  refine tkG (i := 4) (d := 15) (v := .bool false) rfl rfl (yg_bin (by simp [Region.wanted]) (.tmp 12) (.tmp 14) rfl (evn (evn (ev_eq _ _ (by simp [put_sz, sz])))) (ev_eq _ _ (by simp [put_sz, sz])) (fun w => by simp [go_sem])) hs1 ?_
  refine tkG (i := 5) (d := 16) (v := .bool false) rfl rfl (yg_mv (by simp [Region.wanted]) (.tmp 15) rfl (ev_eq _ _ (by simp [put_sz, sz]))) hs1 ?_
  refine tkG (i := 6) (d := 17) (v := .pointer (some ⟨R, 1, none⟩)) rfl rfl (yg_fld (guard_f (i := 5) (d := 16) rfl rfl (by simp [put_sz, sz]) (ev_eq _ _ (by simp [put_sz, sz]))) (.tmp 3) rfl (evn (evn (evn (evn (evn (evn e3)))))) (fun w => by simp [go_sem])) hs1 ?_
  refine tkG (i := 7) (d := 18) (v := .slice (some ⟨b, o, none⟩) 3 cp) rfl rfl (yg_ld (guard_f (i := 5) (d := 16) rfl rfl (by simp [put_sz, sz]) (evn (ev_eq _ _ (by simp [put_sz, sz])))) (.tmp 17) rfl (ev_eq _ _ (by simp [put_sz, sz])) (fun w hw => by have h1 := hw.k1; simp [go_sem, h1])) hs1 ?_
  refine tkG (i := 8) (d := 19) (v := .int .i64 3) rfl rfl (yg_len (guard_f (i := 5) (d := 16) rfl rfl (by simp [put_sz, sz]) (evn (evn (ev_eq _ _ (by simp [put_sz, sz]))))) 18 rfl (ev_eq _ _ (by simp [put_sz, sz])) (fun w _ => by simp [go_sem])) hs1 ?_
  obtain ⟨Az1, hAz1⟩ : ∃ Az1, Az1 = (((((((((A.put (some 11) (.pointer (some ⟨R, 0, none⟩))).put (some 12) (.string (evKey m))).put (some 13) (.int .i64 (m : Int))).put (some 14) (.string (evKey m))).put (some 15) (.bool false)).put (some 16) (.bool false)).put (some 17) (.pointer (some ⟨R, 1, none⟩))).put (some 18) (.slice (some ⟨b, o, none⟩) 3 cp)).put (some 19) (.int .i64 3)) := ⟨_, rfl⟩
  have szAz1 : Az1.tmps.size = 69 := by rw [hAz1]; simp [put_sz, sz]
  have eAz13 : Az1.eval (.tmp 3) = .pointer (some ⟨R, 0, none⟩) := by rw [hAz1]; exact (evn (evn (evn (evn (evn (evn (evn (evn (evn e3)))))))))
  have eAz116 : Az1.eval (.tmp 16) = .bool false := by rw [hAz1]; exact (evn (evn (evn (ev_eq _ _ (by simp [put_sz, sz])))))
  have eAz119 : Az1.eval (.tmp 19) = .int .i64 3 := by rw [hAz1]; exact (ev_eq _ _ (by simp [put_sz, sz]))
  rw [← hAz1]
  refine tkG (i := 9) (d := 20) (v := .bool false) rfl rfl (yg_bin (guard_f (i := 5) (d := 16) rfl rfl (by simp [szAz1]) eAz116) (.tmp 19) (.const (.int .i64 3)) rfl eAz119 rfl (fun w => by simp [go_sem])) hs1 ?_
  refine tkG (i := 10) (d := 21) (v := .bool false) rfl rfl (yg_pickF (by simp [Region.wanted]) (.tmp 16) (.const (.bool true)) (.tmp 20) rfl (evn eAz116) (ev_eq _ _ (by simp [szAz1]))) hs1 ?_
  refine tkG (i := 11) (d := 22) (v := .bool false) rfl rfl (yg_mv (by simp [Region.wanted]) (.tmp 21) rfl (ev_eq _ _ (by simp [put_sz, szAz1]))) hs1 ?_
  refine tkG (i := 12) (d := 23) (v := .pointer (some ⟨R, 1, none⟩)) rfl rfl (yg_fld (guard_f (i := 11) (d := 22) rfl rfl (by simp [put_sz, szAz1]) (ev_eq _ _ (by simp [put_sz, szAz1]))) (.tmp 3) rfl (evn (evn (evn eAz13))) (fun w => by simp [go_sem])) hs1 ?_
  refine tkG (i := 13) (d := 24) (v := .slice (some ⟨b, o, none⟩) 3 cp) rfl rfl (yg_ld (guard_f (i := 11) (d := 22) rfl rfl (by simp [put_sz, szAz1]) (evn (ev_eq _ _ (by simp [put_sz, szAz1])))) (.tmp 23) rfl (ev_eq _ _ (by simp [put_sz, szAz1])) (fun w hw => by have h1 := hw.k1; simp [go_sem, h1])) hs1 ?_
  refine tkG (i := 14) (d := 25) (v := .pointer (some ⟨b, o + 1, none⟩)) rfl rfl (yg_ix (guard_f (i := 11) (d := 22) rfl rfl (by simp [put_sz, szAz1]) (evn (evn (ev_eq _ _ (by simp [put_sz, szAz1]))))) (.tmp 24) (.const (.int .i64 1)) rfl (ev_eq _ _ (by simp [put_sz, szAz1])) rfl (fun w => by simp [go_sem])) hs1 ?_
  refine tkG (i := 15) (d := 26) (v := .string q) rfl rfl (yg_ld (guard_f (i := 11) (d := 22) rfl rfl (by simp [put_sz, szAz1]) (evn (evn (evn (ev_eq _ _ (by simp [put_sz, szAz1])))))) (.tmp 25) rfl (ev_eq _ _ (by simp [put_sz, szAz1])) (fun w hw => by have h1 := hw.2.1.2.1; simp [go_sem, h1])) hs1 ?_
  refine tkG (i := 16) (d := 27) (v := .pointer (some ⟨R, 1, none⟩)) rfl rfl (yg_fld (guard_f (i := 11) (d := 22) rfl rfl (by simp [put_sz, szAz1]) (evn (evn (evn (evn (ev_eq _ _ (by simp [put_sz, szAz1]))))))) (.tmp 3) rfl (evn (evn (evn (evn (evn (evn (evn eAz13))))))) (fun w => by simp [go_sem])) hs1 ?_
  refine tkG (i := 17) (d := 28) (v := .slice (some ⟨b, o, none⟩) 3 cp) rfl rfl (yg_ld (guard_f (i := 11) (d := 22) rfl rfl (by simp [put_sz, szAz1]) (evn (evn (evn (evn (evn (ev_eq _ _ (by simp [put_sz, szAz1])))))))) (.tmp 27) rfl (ev_eq _ _ (by simp [put_sz, szAz1])) (fun w hw => by have h1 := hw.k1; simp [go_sem, h1])) hs1 ?_
  obtain ⟨Az2, hAz2⟩ : ∃ Az2, Az2 = (((((((((Az1.put (some 20) (.bool false)).put (some 21) (.bool false)).put (some 22) (.bool false)).put (some 23) (.pointer (some ⟨R, 1, none⟩))).put (some 24) (.slice (some ⟨b, o, none⟩) 3 cp)).put (some 25) (.pointer (some ⟨b, o + 1, none⟩))).put (some 26) (.string q)).put (some 27) (.pointer (some ⟨R, 1, none⟩))).put (some 28) (.slice (some ⟨b, o, none⟩) 3 cp)) := ⟨_, rfl⟩
  have szAz2 : Az2.tmps.size = 69 := by rw [hAz2]; simp [put_sz, szAz1]
  have eAz222 : Az2.eval (.tmp 22) = .bool false := by rw [hAz2]; exact (evn (evn (evn (evn (evn (evn (ev_eq _ _ (by simp [put_sz, szAz1]))))))))
  have eAz226 : Az2.eval (.tmp 26) = .string q := by rw [hAz2]; exact (evn (evn (ev_eq _ _ (by simp [put_sz, szAz1]))))
  have eAz228 : Az2.eval (.tmp 28) = .slice (some ⟨b, o, none⟩) 3 cp := by rw [hAz2]; exact (ev_eq _ _ (by simp [put_sz, szAz1]))
  rw [← hAz2]
  refine tkG (i := 18) (d := 29) (v := .pointer (some ⟨b, o + 2, none⟩)) rfl rfl (yg_ix (guard_f (i := 11) (d := 22) rfl rfl (by simp [szAz2]) eAz222) (.tmp 28) (.const (.int .i64 2)) rfl eAz228 rfl (fun w => by simp [go_sem])) hs1 ?_
  refine tkG (i := 19) (d := 30) (v := .string s) rfl rfl (yg_ld (guard_f (i := 11) (d := 22) rfl rfl (by simp [put_sz, szAz2]) (evn eAz222)) (.tmp 29) rfl (ev_eq _ _ (by simp [szAz2])) (fun w hw => by have h1 := hw.2.1.2.2; simp [go_sem, h1])) hs1 ?_
  refine wpAnyG_all (rs := [20]) (by kernel_rfl) (by simp) fun i2 hm2 => ?_
  obtain rfl : i2 = 20 := by simpa using hm2
  refine opOwn rfl (guard_f (i := 11) (d := 22) rfl rfl (by simp [put_sz, szAz2]) (evn (evn eAz222))) fun K2 hK2 => ?_
  refine wp_calls2 73 hf_tooLong (.tmp 26) (.tmp 30) _ rfl (.string q) (.string s) (evn (evn eAz226)) (ev_eq _ _ (by simp [put_sz, szAz2])) ?_
  refine (tooLong_no q s hq hsz V1).mono ?_
  rintro _ V2 ⟨rfl, e2⟩
  subst V2
  refine ⟨_, rfl, hK2 _ _ ⟨.inr hs1, ?_⟩⟩
  clear hK2 K2 hm2
  show wpAnyG _ _ _ _ _ _ _ _ (((Az2.put (some 29) (.pointer (some ⟨b, o + 2, none⟩))).put (some 30) (.string s)).put (some 31) (.bool false)) _
  refine tkG (i := 21) (d := 32) (v := .bool false) rfl rfl (yg_pickF (by simp [Region.wanted]) (.tmp 22) (.const (.bool true)) (.tmp 31) rfl (evn (evn (evn eAz222))) (ev_eq _ _ (by simp [put_sz, szAz2]))) hs1 ?_
  refine wpAnyG_done (by kernel_rfl) ⟨rfl, ?_, hs1, hb1⟩ _
  show ((((Az2.put (some 29) (.pointer (some ⟨b, o + 2, none⟩))).put (some 30) (.string s)).put (some 31) (.bool false)).put (some 32) (.bool false)) = _
  rw [hAz2, hAz1]
set_option maxHeartbeats 2000000 in
theorem te_region4 {V0 W5 : World} {B g R b o cp : Nat} {c : Ch} {A : Act} {t : Nat} {key q s : ByteArray} {v : Value} (sz : A.tmps.size = 69) (e3 : A.eval (.tmp 3) = .pointer (some ⟨R, 0, none⟩)) (e0 : A.eval (.tmp 0) = .pointer (some ⟨g, 0, none⟩)) (ok : Lens c) (hfew : c.ev.length ≤ 1000) (hlo : lastT c ≤ t) (hhi : t ≤ c.la) (hla : c.la ≤ 4611686018427387904) (hV0 : V0 = W5.drew) (hs0 : TE R b o cp key (txt t) q s (fun V => ChAt V B g v c) V0) :
    (codeTE 4).wp Tryd.prog (fun x a V => x = .normal ∧ a = ((((((((((((((((A.put (some 34) (.pointer (some ⟨R, 1, none⟩))).put (some 35) (.slice (some ⟨b, o, none⟩) 3 cp)).put (some 36) (.pointer (some ⟨b, o, none⟩))).put (some 37) (.string (txt t))).put (some 38) (.pointer (some ⟨g, 0, none⟩))).put (some 40) (.pointer (some ⟨g, 0, none⟩))).put (some 41) (.pointer (some ⟨g, 0, none⟩))).put (some 42) (.pointer (some ⟨g, 99, none⟩))).put (some 43) (.int .i64 (c.la : Int))).put (some 39) (.int .i64 (lastT c : Int))).put (some 44) (.tuple #[.int .i64 (t : Int), .bool true])).put (some 33) (.tuple #[.int .i64 (t : Int), .bool true])).put (some 45) (.int .i64 (t : Int))).put (some 46) (.bool true)).put (some 6) (.int .i64 (t : Int))).put (some 7) (.bool true)) ∧ TE R b o cp key (txt t) q s (fun V => ChAt V B g v c) V ∧ Below V0.heap.size V0 V) A W5 := by
  have hm : Tryd.prog.follows .mixedOrders = true := by kernel_rfl
  unfold codeTE
  conv => arg 2; whnf
  refine wp_region_G (fun _ => false) (TE R b o cp key (txt t) q s (fun V => ChAt V B g v c)) hm ?_
  rw [show ({ W5 with drawn := W5.drawn + 1 } : World) = V0 from hV0.symm]
  refine tkG (i := 0) (d := 34) (v := .pointer (some ⟨R, 1, none⟩)) rfl rfl (yg_fld (by simp [Region.wanted]) (.tmp 3) rfl e3 (fun w => by simp [go_sem])) hs0 ?_
  refine tkG (i := 1) (d := 35) (v := .slice (some ⟨b, o, none⟩) 3 cp) rfl rfl (yg_ld (by simp [Region.wanted]) (.tmp 34) rfl (ev_eq _ _ (by simp [sz])) (fun w hw => by have h1 := hw.k1; simp [go_sem, h1])) hs0 ?_
  refine tkG (i := 2) (d := 36) (v := .pointer (some ⟨b, o, none⟩)) rfl rfl (yg_ix (by simp [Region.wanted]) (.tmp 35) (.const (.int .i64 0)) rfl (ev_eq _ _ (by simp [put_sz, sz])) rfl (fun w => by simp [go_sem])) hs0 ?_
  refine tkG (i := 3) (d := 37) (v := .string (txt t)) rfl rfl (yg_ld (by simp [Region.wanted]) (.tmp 36) rfl (ev_eq _ _ (by simp [put_sz, sz])) (fun w hw => by have h1 := hw.2.1.1; simp [go_sem, h1])) hs0 ?_
  refine tkG (i := 4) (d := 38) (v := .pointer (some ⟨g, 0, none⟩)) rfl rfl (yg_mv (by simp [Region.wanted]) (.tmp 0) rfl (evn (evn (evn (evn e0))))) hs0 ?_
  refine tkG (i := 6) (d := 40) (v := .pointer (some ⟨g, 0, none⟩)) rfl rfl (yg_mv (by simp [Region.wanted]) (.tmp 0) rfl (evn (evn (evn (evn (evn e0)))))) hs0 ?_
  refine tkG (i := 7) (d := 41) (v := .pointer (some ⟨g, 0, none⟩)) rfl rfl (yg_nil (by simp [Region.wanted]) (.tmp 40) rfl (ev_eq _ _ (by simp [put_sz, sz]))) hs0 ?_
  refine tkG (i := 8) (d := 42) (v := .pointer (some ⟨g, 99, none⟩)) rfl rfl (yg_fld (by simp [Region.wanted]) (.tmp 41) rfl (ev_eq _ _ (by simp [put_sz, sz])) (fun w => by simp [go_sem])) hs0 ?_
  refine tkG (i := 9) (d := 43) (v := .int .i64 (c.la : Int)) rfl rfl (yg_ld (by simp [Region.wanted]) (.tmp 42) rfl (ev_eq _ _ (by simp [put_sz, sz])) (fun w hw => by have h1 := hw.2.2.c99 ok; simp [go_sem, h1])) hs0 ?_
  obtain ⟨Az1, hAz1⟩ : ∃ Az1, Az1 = (((((((((A.put (some 34) (.pointer (some ⟨R, 1, none⟩))).put (some 35) (.slice (some ⟨b, o, none⟩) 3 cp)).put (some 36) (.pointer (some ⟨b, o, none⟩))).put (some 37) (.string (txt t))).put (some 38) (.pointer (some ⟨g, 0, none⟩))).put (some 40) (.pointer (some ⟨g, 0, none⟩))).put (some 41) (.pointer (some ⟨g, 0, none⟩))).put (some 42) (.pointer (some ⟨g, 99, none⟩))).put (some 43) (.int .i64 (c.la : Int))) := ⟨_, rfl⟩
  have szAz1 : Az1.tmps.size = 69 := by rw [hAz1]; simp [put_sz, sz]
  have eAz137 : Az1.eval (.tmp 37) = .string (txt t) := by rw [hAz1]; exact (evn (evn (evn (evn (evn (ev_eq _ _ (by simp [put_sz, sz])))))))
  have eAz138 : Az1.eval (.tmp 38) = .pointer (some ⟨g, 0, none⟩) := by rw [hAz1]; exact (evn (evn (evn (evn (ev_eq _ _ (by simp [put_sz, sz]))))))
  have eAz143 : Az1.eval (.tmp 43) = .int .i64 (c.la : Int) := by rw [hAz1]; exact (ev_eq _ _ (by simp [put_sz, sz]))
  rw [← hAz1]
  refine wpAnyG_all (rs := [5]) (by kernel_rfl) (by simp) fun i1 hm1 => ?_
  obtain rfl : i1 = 5 := by simpa using hm1
  refine wpOp_own rfl rfl fun K1 hK1 => ?_
  refine wp_calls1 74 hf_lastAt (.tmp 38) _ rfl (.pointer (some ⟨g, 0, none⟩)) eAz138 ?_
  refine (lastAt_any hs0.2.2 ok hfew).mono ?_
  rintro _ V1 ⟨rfl, hb1⟩
  have hs1 := hs0.keep hb1 (hs0.2.2.below hb1)
  refine ⟨_, rfl, hK1 _ _ ⟨.inr hs1, ?_⟩⟩
  clear hK1 K1 hm1
  show wpAnyG _ _ _ _ _ _ _ _ (Az1.put (some 39) (.int .i64 (lastT c : Int))) _
  refine wpAnyG_all (rs := [10]) (by kernel_rfl) (by simp) fun i2 hm2 => ?_
  obtain rfl : i2 = 10 := by simpa using hm2
  refine wpOp_own rfl rfl fun K2 hK2 => ?_
  refine wp_calls3 71 hf_stNumber (.tmp 37) (.tmp 39) (.tmp 43) _ rfl (.string (txt t)) (.int .i64 (lastT c : Int)) (.int .i64 (c.la : Int)) (evn eAz137) (ev_eq _ _ (by simp [szAz1])) (evn eAz143) ?_
  refine (number_back t (lastT c) c.la hlo hhi hla V1).mono ?_
  rintro _ V2 ⟨rfl, e2⟩
  subst V2
  refine ⟨_, rfl, hK2 _ _ ⟨.inr hs1, ?_⟩⟩
  clear hK2 K2 hm2
  show wpAnyG _ _ _ _ _ _ _ _ ((Az1.put (some 39) (.int .i64 (lastT c : Int))).put (some 44) (.tuple #[.int .i64 (t : Int), .bool true])) _
  refine tkG (i := 11) (d := 33) (v := .tuple #[.int .i64 (t : Int), .bool true]) rfl rfl (yg_mv (by simp [Region.wanted]) (.tmp 44) rfl (ev_eq _ _ (by simp [put_sz, szAz1]))) hs1 ?_
  refine tkG (i := 12) (d := 45) (v := .int .i64 (t : Int)) rfl rfl (yg_ext (by simp [Region.wanted]) (.tmp 33) rfl (ev_eq _ _ (by simp [put_sz, szAz1])) (fun w => by simp [go_sem])) hs1 ?_
  refine tkG (i := 13) (d := 46) (v := .bool true) rfl rfl (yg_ext (by simp [Region.wanted]) (.tmp 33) rfl (evn (ev_eq _ _ (by simp [put_sz, szAz1]))) (fun w => by simp [go_sem])) hs1 ?_
  refine tkG (i := 14) (d := 6) (v := .int .i64 (t : Int)) rfl rfl (yg_as (by simp [Region.wanted]) (.tmp 45) rfl (evn (ev_eq _ _ (by simp [put_sz, szAz1])))) hs1 ?_
  refine tkG (i := 15) (d := 7) (v := .bool true) rfl rfl (yg_as (by simp [Region.wanted]) (.tmp 46) rfl (evn (ev_eq _ _ (by simp [put_sz, szAz1])))) hs1 ?_
  refine wpAnyG_done (by kernel_rfl) ⟨rfl, ?_, hs1, hb1⟩ _
  show (((((((Az1.put (some 39) (.int .i64 (lastT c : Int))).put (some 44) (.tuple #[.int .i64 (t : Int), .bool true])).put (some 33) (.tuple #[.int .i64 (t : Int), .bool true])).put (some 45) (.int .i64 (t : Int))).put (some 46) (.bool true)).put (some 6) (.int .i64 (t : Int))).put (some 7) (.bool true)) = _
  rw [hAz1]
set_option maxHeartbeats 2000000 in
theorem te_region6 {V0 W5 : World} {B g R b o cp : Nat} {c : Ch} {A : Act} {e : Ev} {key p : ByteArray} {a0 : Option Addr} {n0 c0 : Nat} (sz : A.tmps.size = 69) (e3 : A.eval (.tmp 3) = .pointer (some ⟨R, 0, none⟩)) (e0 : A.eval (.tmp 0) = .pointer (some ⟨g, 0, none⟩)) (e5 : A.eval (.tmp 5) = .int .i64 (e.num : Int)) (e6 : A.eval (.tmp 6) = .int .i64 (e.tim : Int)) (ok : Lens c) (hfew : c.ev.length ≤ 1000) (H0 : ChAt V0 B g (.slice a0 n0 c0) c) (hB : B ≤ V0.heap.size) (hneR : (Value.slice a0 n0 c0).ownBlock ≠ some R) (hneb : (Value.slice a0 n0 c0).ownBlock ≠ some b) (hV0 : V0 = W5.drew) (hs0 : TE R b o cp key p e.what e.who (fun V => V.heap[g]? = some (.cells (ccells c (.slice a0 n0 c0)).toArray 87 (0, 0))) V0) :
    (codeTE 6).wp Tryd.prog (fun x a V => x = .normal ∧ ∃ k cap, a = ((((((((((((((((((((A.put (some 48) (.pointer (some ⟨g, 0, none⟩))).put (some 49) (.pointer (some ⟨g, 0, none⟩))).put (some 50) (.pointer (some ⟨g, 0, none⟩))).put (some 51) (.pointer (some ⟨g, 66, none⟩))).put (some 52) (.slice a0 n0 c0)).put (some 53) (.int .i64 (e.num : Int))).put (some 54) (.int .i64 (e.tim : Int))).put (some 55) (.pointer (some ⟨R, 1, none⟩))).put (some 56) (.slice (some ⟨b, o, none⟩) 3 cp)).put (some 57) (.pointer (some ⟨b, o + 1, none⟩))).put (some 58) (.string e.what)).put (some 59) (.pointer (some ⟨R, 1, none⟩))).put (some 60) (.slice (some ⟨b, o, none⟩) 3 cp)).put (some 61) (.pointer (some ⟨b, o + 2, none⟩))).put (some 62) (.string e.who)).put (some 63) (.agg (eVals e).toArray)).put (some 64) (.slice (some ⟨V0.heap.size, 0, none⟩) 1 1)).put (some 65) (.slice (some ⟨k, 0, none⟩) (c.ev ++ [e]).length cap)).put (some 66) (.pointer (some ⟨g, 0, none⟩))).put (some 67) (.pointer (some ⟨g, 66, none⟩))) ∧ ChAt V B g (.slice (some ⟨k, 0, none⟩) (c.ev ++ [e]).length cap) { c with ev := c.ev ++ [e] } ∧ Out (CBlk g (.slice a0 n0 c0)) V0 V ∧ ((Value.slice a0 n0 c0).ownBlock = some k ∨ V0.heap.size ≤ k)) A W5 := by
  have hm : Tryd.prog.follows .mixedOrders = true := by kernel_rfl
  unfold codeTE
  conv => arg 2; whnf
  refine wp_region_G (fun i => i == 20) (TE R b o cp key p e.what e.who (fun V => V.heap[g]? = some (.cells (ccells c (.slice a0 n0 c0)).toArray 87 (0, 0)))) hm ?_
  rw [show ({ W5 with drawn := W5.drawn + 1 } : World) = V0 from hV0.symm]
  refine tkG (i := 0) (d := 48) (v := .pointer (some ⟨g, 0, none⟩)) rfl rfl (yg_mv (by simp [Region.wanted]) (.tmp 0) rfl e0) hs0 ?_
  refine tkG (i := 1) (d := 49) (v := .pointer (some ⟨g, 0, none⟩)) rfl rfl (yg_mv (by simp [Region.wanted]) (.tmp 0) rfl (evn e0)) hs0 ?_
  refine tkG (i := 2) (d := 50) (v := .pointer (some ⟨g, 0, none⟩)) rfl rfl (yg_nil (by simp [Region.wanted]) (.tmp 49) rfl (ev_eq _ _ (by simp [put_sz, sz]))) hs0 ?_
  refine tkG (i := 3) (d := 51) (v := .pointer (some ⟨g, 66, none⟩)) rfl rfl (yg_fld (by simp [Region.wanted]) (.tmp 50) rfl (ev_eq _ _ (by simp [put_sz, sz])) (fun w => by simp [go_sem])) hs0 ?_
  refine tkG (i := 4) (d := 52) (v := .slice a0 n0 c0) rfl rfl (yg_ld (by simp [Region.wanted]) (.tmp 51) rfl (ev_eq _ _ (by simp [put_sz, sz])) (fun w hw => by have h1 := cell_66 hw.2.2 ok; simp [go_sem, h1])) hs0 ?_
  refine tkG (i := 5) (d := 53) (v := .int .i64 (e.num : Int)) rfl rfl (yg_mv (by simp [Region.wanted]) (.tmp 5) rfl (evn (evn (evn (evn (evn e5)))))) hs0 ?_
  refine tkG (i := 6) (d := 54) (v := .int .i64 (e.tim : Int)) rfl rfl (yg_mv (by simp [Region.wanted]) (.tmp 6) rfl (evn (evn (evn (evn (evn (evn e6))))))) hs0 ?_
  refine tkG (i := 7) (d := 55) (v := .pointer (some ⟨R, 1, none⟩)) rfl rfl (yg_fld (by simp [Region.wanted]) (.tmp 3) rfl (evn (evn (evn (evn (evn (evn (evn e3))))))) (fun w => by simp [go_sem])) hs0 ?_
  refine tkG (i := 8) (d := 56) (v := .slice (some ⟨b, o, none⟩) 3 cp) rfl rfl (yg_ld (by simp [Region.wanted]) (.tmp 55) rfl (ev_eq _ _ (by simp [put_sz, sz])) (fun w hw => by have h1 := hw.k1; simp [go_sem, h1])) hs0 ?_
  obtain ⟨Az1, hAz1⟩ : ∃ Az1, Az1 = (((((((((A.put (some 48) (.pointer (some ⟨g, 0, none⟩))).put (some 49) (.pointer (some ⟨g, 0, none⟩))).put (some 50) (.pointer (some ⟨g, 0, none⟩))).put (some 51) (.pointer (some ⟨g, 66, none⟩))).put (some 52) (.slice a0 n0 c0)).put (some 53) (.int .i64 (e.num : Int))).put (some 54) (.int .i64 (e.tim : Int))).put (some 55) (.pointer (some ⟨R, 1, none⟩))).put (some 56) (.slice (some ⟨b, o, none⟩) 3 cp)) := ⟨_, rfl⟩
  have szAz1 : Az1.tmps.size = 69 := by rw [hAz1]; simp [put_sz, sz]
  have eAz13 : Az1.eval (.tmp 3) = .pointer (some ⟨R, 0, none⟩) := by rw [hAz1]; exact (evn (evn (evn (evn (evn (evn (evn (evn (evn e3)))))))))
  have eAz148 : Az1.eval (.tmp 48) = .pointer (some ⟨g, 0, none⟩) := by rw [hAz1]; exact (evn (evn (evn (evn (evn (evn (evn (evn (ev_eq _ _ (by simp [sz]))))))))))
  have eAz152 : Az1.eval (.tmp 52) = .slice a0 n0 c0 := by rw [hAz1]; exact (evn (evn (evn (evn (ev_eq _ _ (by simp [put_sz, sz]))))))
  have eAz153 : Az1.eval (.tmp 53) = .int .i64 (e.num : Int) := by rw [hAz1]; exact (evn (evn (evn (ev_eq _ _ (by simp [put_sz, sz])))))
  have eAz154 : Az1.eval (.tmp 54) = .int .i64 (e.tim : Int) := by rw [hAz1]; exact (evn (evn (ev_eq _ _ (by simp [put_sz, sz]))))
  have eAz156 : Az1.eval (.tmp 56) = .slice (some ⟨b, o, none⟩) 3 cp := by rw [hAz1]; exact (ev_eq _ _ (by simp [put_sz, sz]))
  rw [← hAz1]
  refine tkG (i := 9) (d := 57) (v := .pointer (some ⟨b, o + 1, none⟩)) rfl rfl (yg_ix (by simp [Region.wanted]) (.tmp 56) (.const (.int .i64 1)) rfl eAz156 rfl (fun w => by simp [go_sem])) hs0 ?_
  refine tkG (i := 10) (d := 58) (v := .string e.what) rfl rfl (yg_ld (by simp [Region.wanted]) (.tmp 57) rfl (ev_eq _ _ (by simp [szAz1])) (fun w hw => by have h1 := hw.2.1.2.1; simp [go_sem, h1])) hs0 ?_
  refine tkG (i := 11) (d := 59) (v := .pointer (some ⟨R, 1, none⟩)) rfl rfl (yg_fld (by simp [Region.wanted]) (.tmp 3) rfl (evn (evn eAz13)) (fun w => by simp [go_sem])) hs0 ?_
  refine tkG (i := 12) (d := 60) (v := .slice (some ⟨b, o, none⟩) 3 cp) rfl rfl (yg_ld (by simp [Region.wanted]) (.tmp 59) rfl (ev_eq _ _ (by simp [put_sz, szAz1])) (fun w hw => by have h1 := hw.k1; simp [go_sem, h1])) hs0 ?_
  refine tkG (i := 13) (d := 61) (v := .pointer (some ⟨b, o + 2, none⟩)) rfl rfl (yg_ix (by simp [Region.wanted]) (.tmp 60) (.const (.int .i64 2)) rfl (ev_eq _ _ (by simp [put_sz, szAz1])) rfl (fun w => by simp [go_sem])) hs0 ?_
  refine tkG (i := 14) (d := 62) (v := .string e.who) rfl rfl (yg_ld (by simp [Region.wanted]) (.tmp 61) rfl (ev_eq _ _ (by simp [put_sz, szAz1])) (fun w hw => by have h1 := hw.2.1.2.2; simp [go_sem, h1])) hs0 ?_
  refine tkG (i := 15) (d := 63) (v := .agg (eVals e).toArray) rfl rfl (y_buildE (by simp [Region.wanted]) (.tmp 53) (.tmp 54) (.tmp 58) (.tmp 62) rfl e (evn (evn (evn (evn (evn (evn eAz153)))))) (evn (evn (evn (evn (evn (evn eAz154)))))) (evn (evn (evn (evn (ev_eq _ _ (by simp [put_sz, szAz1])))))) (ev_eq _ _ (by simp [put_sz, szAz1]))) hs0 ?_
  refine wpAnyG_all (rs := [16]) (by kernel_rfl) (by simp) fun i1 hm1 => ?_
  obtain rfl : i1 = 16 := by simpa using hm1
  refine wpOp_own rfl rfl fun K1 hK1 => ?_
  refine wp_buildE (.tmp 63) rfl e (ev_eq _ _ (by simp [put_sz, szAz1])) ?_
  have b01 : Below V0.heap.size V0 (V0.alloc (.cells (eVals e).toArray 55)) := (Below.refl _ V0).alloc (Nat.le_refl _) _
  have H1 := H0.below b01
  have hs1 := hs0.keep b01 H1.obj
  refine hK1 _ _ ⟨.inr hs1, ?_⟩
  clear hK1 K1 hm1
  show wpAnyG _ _ _ _ _ _ _ _ ((((((((Az1.put (some 57) (.pointer (some ⟨b, o + 1, none⟩))).put (some 58) (.string e.what)).put (some 59) (.pointer (some ⟨R, 1, none⟩))).put (some 60) (.slice (some ⟨b, o, none⟩) 3 cp)).put (some 61) (.pointer (some ⟨b, o + 2, none⟩))).put (some 62) (.string e.who)).put (some 63) (.agg (eVals e).toArray)).put (some 64) (.slice (some ⟨V0.heap.size, 0, none⟩) 1 1)) _
  refine wpAnyG_all (rs := [17]) (by kernel_rfl) (by simp) fun i2 hm2 => ?_
  obtain rfl : i2 = 17 := by simpa using hm2
  refine wpOp_own rfl rfl fun K2 hK2 => ?_
  refine wp_appE _ (.tmp 52) (.tmp 64) rfl B (.slice a0 n0 c0) c.ev (evn (evn (evn (evn (evn (evn (evn (evn eAz152)))))))) H1.row e V0.heap.size (ev_eq _ _ (by simp [put_sz, szAz1])) (range_new V0 e) hfew (Nat.le_trans hB b01.size) ?_
  intro k cap V2 hown hgrow hk
  have o2 : V2.heap[g]? = some (.cells (ccells c (.slice a0 n0 c0)).toArray 87 (0, 0)) := (hgrow.block g H1.lt (fun x => H1.ne g x.symm rfl)).trans H1.obj
  have hs2 := hs1.grown hgrow hneR hneb o2
  refine hK2 _ _ ⟨.inr hs2, ?_⟩
  clear hK2 K2 hm2
  show wpAnyG _ _ _ _ _ _ _ _ (((((((((Az1.put (some 57) (.pointer (some ⟨b, o + 1, none⟩))).put (some 58) (.string e.what)).put (some 59) (.pointer (some ⟨R, 1, none⟩))).put (some 60) (.slice (some ⟨b, o, none⟩) 3 cp)).put (some 61) (.pointer (some ⟨b, o + 2, none⟩))).put (some 62) (.string e.who)).put (some 63) (.agg (eVals e).toArray)).put (some 64) (.slice (some ⟨V0.heap.size, 0, none⟩) 1 1)).put (some 65) (.slice (some ⟨k, 0, none⟩) (c.ev ++ [e]).length cap)) _
  obtain ⟨Az2, hAz2⟩ : ∃ Az2, Az2 = (((((((((Az1.put (some 57) (.pointer (some ⟨b, o + 1, none⟩))).put (some 58) (.string e.what)).put (some 59) (.pointer (some ⟨R, 1, none⟩))).put (some 60) (.slice (some ⟨b, o, none⟩) 3 cp)).put (some 61) (.pointer (some ⟨b, o + 2, none⟩))).put (some 62) (.string e.who)).put (some 63) (.agg (eVals e).toArray)).put (some 64) (.slice (some ⟨V0.heap.size, 0, none⟩) 1 1)).put (some 65) (.slice (some ⟨k, 0, none⟩) (c.ev ++ [e]).length cap)) := ⟨_, rfl⟩
  have szAz2 : Az2.tmps.size = 69 := by rw [hAz2]; simp [put_sz, szAz1]
  have eAz248 : Az2.eval (.tmp 48) = .pointer (some ⟨g, 0, none⟩) := by rw [hAz2]; exact (evn (evn (evn (evn (evn (evn (evn (evn (evn eAz148)))))))))
  have eAz265 : Az2.eval (.tmp 65) = .slice (some ⟨k, 0, none⟩) (c.ev ++ [e]).length cap := by rw [hAz2]; exact (ev_eq _ _ (by simp [put_sz, szAz1]))
  rw [← hAz2]
  refine wpAnyG_one (i := 18) (v := .pointer (some ⟨g, 0, none⟩)) rfl (by kernel_rfl) (yg_nil (by simp [Region.wanted]) (.tmp 48) rfl eAz248) hs2 ?_
  show wpAnyG _ _ _ _ _ _ _ _ (Az2.put (some 66) (.pointer (some ⟨g, 0, none⟩))) _
  refine wpAnyG_one (i := 19) (v := .pointer (some ⟨g, 66, none⟩)) rfl (by kernel_rfl) (yg_fld (by simp [Region.wanted]) (.tmp 66) rfl (ev_eq _ _ (by simp [szAz2])) (fun w => by simp [go_sem])) hs2 ?_
  show wpAnyG _ _ _ _ _ _ _ _ ((Az2.put (some 66) (.pointer (some ⟨g, 0, none⟩))).put (some 67) (.pointer (some ⟨g, 66, none⟩))) _
  obtain ⟨Az3, hAz3⟩ : ∃ Az3, Az3 = ((Az2.put (some 66) (.pointer (some ⟨g, 0, none⟩))).put (some 67) (.pointer (some ⟨g, 66, none⟩))) := ⟨_, rfl⟩
  have szAz3 : Az3.tmps.size = 69 := by rw [hAz3]; simp [put_sz, szAz2]
  have eAz365 : Az3.eval (.tmp 65) = .slice (some ⟨k, 0, none⟩) (c.ev ++ [e]).length cap := by rw [hAz3]; exact (evn (evn eAz265))
  have eAz367 : Az3.eval (.tmp 67) = .pointer (some ⟨g, 66, none⟩) := by rw [hAz3]; exact (ev_eq _ _ (by simp [put_sz, szAz2]))
  rw [← hAz3]
  refine wpAnyG_all (rs := [20]) (by kernel_rfl) (by simp) fun i3 hm3 => ?_
  obtain rfl : i3 = 20 := by simpa using hm3
  refine wpOp_own rfl rfl fun K3 hK3 => ?_
  refine wp_storeV (.tmp 67) (.tmp 65) rfl g 66 (some ⟨k, 0, none⟩) _ cap (.slice a0 n0 c0) eAz367 eAz365 (cell_66 o2 ok) (frozen_of_row _ _ _ _ _ o2) ?_
  have hfin := added_row H1 ok hown hgrow hk o2
  refine hK3 _ _ ⟨.inl rfl, wpAnyG_done (by kernel_rfl) ⟨rfl, k, cap, ?_, hfin.1, (Out.of_below (P := CBlk g (.slice a0 n0 c0)) b01).trans hfin.2 (fun _ _ x => x), hk.imp id (fun x => by rw [x]; exact b01.size)⟩ _⟩
  show Az3 = _
  rw [hAz3, hAz2, hAz1]
end Go.Proofs.YthfmpebgmojcaaaDoor
/- takeEvent of a chain, by a contract for the right row. -/
namespace Go.Proofs.YthfmpebgmojcaaaDoor
open Go.RowKit
set_option linter.unusedVariables false
set_option maxRecDepth 20000
set_option maxHeartbeats 400000 in
theorem count_len {w : World} {B g : Nat} {v : Value} {c : Ch} (h : ChAt w B g v c) (ok : Lens c) (hc : c.cnt < 1152921504606846976) :
    Calls Tryd.prog 23 #[.pointer (some ⟨g, 0, none⟩)] w fun e w' => e = .returned (.int .i64 (c.cnt : Int)) ∧ Below w.heap.size w w' := by
  obtain ⟨a, cap, rfl⟩ := h.val
  have c0 := h.c0
  have c66 := h.c66 ok
  clear h ok
  unfold Ch.cnt at hc ⊢
  generalize c.ev.length = n at *
  generalize c.bn = b at *
  go_enter Tryd.func23, Tryd.ntmps23
  go_wp2
  go_region
  all_goals go_wp2
  all_goals go_ret
  all_goals exact ⟨ret_int (by go_num), (Below.refl _ _).drew⟩
def TakePost (w : World) (B g : Nat) (v : Value) (c : Ch) (e : Ev) (x : Ending) (w' : World) : Prop :=
  ∃ v', x = .returned (.bool true) ∧ ChAt w' B g v' { c with ev := c.ev ++ [e] } ∧ Out (CBlk g v) w w' ∧ Grew w v v'
set_option maxHeartbeats 4000000 in
theorem takeEvent_ok {w : World} {B g : Nat} {v : Value} {c : Ch} (h : ChAt w B g v c) (ok : Lens c) (hc : c.cnt < 1000000000000000000) (hB : B ≤ w.heap.size) (hT : Tabs w B) (e : Ev) (ad : Option Addr) (cp : Nat) (ht : Texts w ad [txt e.tim, e.what, e.who]) (hab : ∀ b o, ad = some ⟨b, o, none⟩ → ¬ CBlk g v b)
    (hnum : e.num = c.cnt + 1) (hwh : e.what.size ≤ 12) (hwo : e.who.size ≤ 30) (hlo : lastT c ≤ e.tim) (hhi : e.tim ≤ c.la) (hla : c.la ≤ 1099511627776) (hfew : c.ev.length ≤ 1000) :
    Calls Tryd.prog 33 #[.pointer (some ⟨g, 0, none⟩), .agg #[.string (evKey e.num), .slice ad 3 cp]] w (TakePost w B g v c e) := by
  obtain ⟨a0, c0, rfl⟩ := h.val
  obtain ⟨b, o, rfl, j0⟩ := ht 0 (by simp)
  obtain ⟨b1, o1, e1, j1⟩ := ht 1 (by simp)
  cases e1
  obtain ⟨b2, o2, e2, j2⟩ := ht 2 (by simp)
  cases e2
  have hnb := hab b o rfl
  obtain ⟨W0, hW0⟩ : ∃ W0, W0 = w.alloc (.cells #[.string (evKey e.num), .slice (some ⟨b, o, none⟩) 3 cp] 75) := ⟨_, rfl⟩
  have b0 : Below w.heap.size w W0 := by rw [hW0]; exact (Below.refl _ w).alloc (Nat.le_refl _) _
  have hte : TE w.heap.size b o cp (evKey e.num) (txt e.tim) e.what e.who (fun V => ChAt V B g (.slice a0 c.ev.length c0) c) W0 :=
    ⟨by rw [hW0]; exact heap_alloc_new w _, ⟨(b0.cell (World.block_lt_of_cell? _ _ j0)).trans j0, (b0.cell (World.block_lt_of_cell? _ _ j1)).trans j1, (b0.cell (World.block_lt_of_cell? _ _ j2)).trans j2⟩, h.below b0⟩
  have HC := hid (count_len hte.2.2 ok (by omega))
  have hne0 : (Value.slice a0 c.ev.length c0).ownBlock ≠ some w.heap.size := fun x => by have := (h.lts _ x).2; omega
  have hneb : (Value.slice a0 c.ev.length c0).ownBlock ≠ some b := fun x => hnb (.inr x)
  have Hne0 := hid hne0
  have Hneb := hid hneb
  have HW := hid hW0
  have Hte := hid hte
  have HB0 := hid b0
  have HT := hid hT
  have OK := hid ok
  have Hh := hid h
  have hcn : Hid ((c.cnt : Int) + 1 = (e.num : Int)) := by show _ = _; rw [hnum]; simp
  have Hnum := hid hnum
  have hc5 : c.cnt < 1000000000000000000 := hc
  clear h ok hT hte b0 hW0 j0 j1 j2 ht hab hne0 hneb hnb hnum
  obtain ⟨m, hm⟩ : ∃ m, m = c.cnt := ⟨_, rfl⟩
  have Hm := hid hm
  rw [← hm] at HC hc5 hc hcn
  clear hm
  go_enter Tryd.func33, Tryd.ntmps33
  go_wp2_with (go_at_call 23; rw [show w.alloc (.cells #[.string (evKey e.num), .slice (some ⟨b, o, none⟩) 3 cp] 75) = W0 from HW.out.symm]; refine HC.out.mono ?_; rintro x w1 ⟨rfl, hb1⟩; have Hb1 := hid hb1; clear hb1)
  obtain ⟨V0, hV0⟩ : ∃ V0, V0 = w1.drew := ⟨_, rfl⟩
  have b10 : Below w1.heap.size w1 V0 := by rw [hV0]; exact (Below.refl _ w1).drew
  have bwV : Below w.heap.size w V0 := Below.on' (Below.on' HB0.out Hb1.out) b10
  have bV : Below W0.heap.size W0 V0 := Below.on' Hb1.out b10
  refine wp_act _ fun A hA => ?_
  have sz : A.tmps.size = 69 := by rw [hA]; rfl
  have e3 : A.eval (.tmp 3) = .pointer (some ⟨w.heap.size, 0, none⟩) := by rw [hA]; rfl
  have e5 : A.eval (.tmp 5) = .int .i64 (e.num : Int) := by rw [hA, ← hcn.out]; rfl
  refine wp_split _ (te_region2 sz e3 e5 (by have := Hnum.out; have := Hm.out; omega) hwh hwo (HT.out.below hB bwV).tab hV0 (Hte.out.keep bV (Hte.out.2.2.below bV))) ?_
  rintro _ V2 ⟨rfl, hs2, b2⟩
  rw [hA]
  simp only [Act.put, List.setIfInBounds_toArray, List.set_cons_succ, List.set_cons_zero]
  have Hs2 := hid hs2
  have B2 := hid (Below.on' bwV b2)
  clear sz e3 e5 hA A hs2 b2 b10 bwV bV hV0
  go_wp2_with fail
  obtain ⟨V3, hV3⟩ : ∃ V3, V3 = V2.drew := ⟨_, rfl⟩
  have b23 : Below V2.heap.size V2 V3 := by rw [hV3]; exact (Below.refl _ V2).drew
  refine wp_act _ fun A hA => ?_
  have sz : A.tmps.size = 69 := by rw [hA]; rfl
  have e0 : A.eval (.tmp 0) = .pointer (some ⟨g, 0, none⟩) := by rw [hA]; rfl
  have e3 : A.eval (.tmp 3) = .pointer (some ⟨w.heap.size, 0, none⟩) := by rw [hA]; rfl
  refine wp_split _ (te_region4 sz e3 e0 OK.out hfew hlo hhi (by omega) hV3 (Hs2.out.keep b23 (Hs2.out.2.2.below b23))) ?_
  rintro _ V4 ⟨rfl, hs4, b4⟩
  rw [hA]
  simp only [Act.put, List.setIfInBounds_toArray, List.set_cons_succ, List.set_cons_zero]
  have Hs4 := hid hs4
  have B4 := hid (Below.on' (Below.on' B2.out b23) b4)
  clear sz e0 e3 hA A hs4 b4 b23 hV3 Hs2 B2
  go_wp2_with fail
  obtain ⟨V5, hV5⟩ : ∃ V5, V5 = V4.drew := ⟨_, rfl⟩
  have b45 : Below V4.heap.size V4 V5 := by rw [hV5]; exact (Below.refl _ V4).drew
  have bw5 : Below w.heap.size w V5 := Below.on' B4.out b45
  have H5 := Hs4.out.2.2.below b45
  refine wp_act _ fun A hA => ?_
  have sz : A.tmps.size = 69 := by rw [hA]; rfl
  have e0 : A.eval (.tmp 0) = .pointer (some ⟨g, 0, none⟩) := by rw [hA]; rfl
  have e3 : A.eval (.tmp 3) = .pointer (some ⟨w.heap.size, 0, none⟩) := by rw [hA]; rfl
  have e5 : A.eval (.tmp 5) = .int .i64 (e.num : Int) := by rw [hA, ← hcn.out]; rfl
  have e6 : A.eval (.tmp 6) = .int .i64 (e.tim : Int) := by rw [hA]; rfl
  refine wp_split _ (te_region6 (e := e) sz e3 e0 e5 e6 OK.out hfew H5 (Nat.le_trans hB bw5.size) Hne0.out Hneb.out hV5 ⟨(b45.block _ (heap_lt Hs4.out.1)).trans Hs4.out.1, (Hs4.out.keep b45 H5).2.1, H5.obj⟩) ?_
  rintro _ V6 ⟨k, cap, rfl, h6, o6, hk6⟩
  rw [hA]
  simp only [Act.put, List.setIfInBounds_toArray, List.set_cons_succ, List.set_cons_zero]
  have hgr : Hid (Grew w (.slice a0 c.ev.length c0) (.slice (some ⟨k, 0, none⟩) (c.ev ++ [e]).length cap)) := fun j hj => by
    cases hj
    exact hk6.imp id (fun x => Nat.le_trans bw5.size x)
  have H6 := hid h6
  have O6 : Hid (Out (CBlk g (.slice a0 c.ev.length c0)) w V6) := (Out.of_below bw5).trans o6 (fun _ _ x => x)
  clear sz e0 e3 e5 e6 hA A h6 o6 hk6 b45 bw5 hV5 H5
  go_wp2_with fail
  go_ret
  exact ⟨_, rfl, H6.out, O6.out, hgr.out⟩
end Go.Proofs.YthfmpebgmojcaaaDoor
