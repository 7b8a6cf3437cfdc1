/- YtomhcccjeadefaaGreatDoorHRegAt + YtomhcccjeadefaaGreatDoorJ3 + YtomhcccjeadefaaGreatDoorJ4 -/
import Derived.Test.YtomhcccjeadefaaGreatDoorRows
import Derived.Test.YtomhcccjeadefaaGreatDoorJ2
import Derived.Test.YtomhcccjeadefaaGreatDoorYG
/- A region out of the code of a function, by its number. -/
namespace Go.Proofs.YtomhcccjeadefaaGreatDoor
def regionAt (n : Nat) : Code → Option Code
  | .region i ops b => if i = n then some (.region i ops b) else none
  | .seq a b => match regionAt n a with
    | some c => some c
    | none => regionAt n b
  | .block _ c => regionAt n c
  | .scope c => regionAt n c
  | .loop c => regionAt n c
  | .cond _ a b => match regionAt n a with
    | some c => some c
    | none => regionAt n b
  | _ => none
end Go.Proofs.YtomhcccjeadefaaGreatDoor
/- (*Tree).Key, by a contract. (Printed by gen/jkey.py.) -/
namespace Go.Proofs.YtomhcccjeadefaaGreatDoor
open Go.RowKit Go.Maps
set_option linter.unusedVariables false
set_option maxRecDepth 20000
def txtJ (n : Nat) : ByteArray := ⟨(numT n).toArray⟩
theorem TabAt.belowJ {w w' : World} (h : TabAt w) (hb : Below w.heap.size w w') : TabAt w' := by
  unfold TabAt at h ⊢
  exact (hb.cell (World.block_lt_of_cell? _ _ h)).trans h
set_option maxHeartbeats 400000 in
theorem textJ_any (n : Nat) (h : n ≤ 4611686018427387904) (w : World) (ht : TabAt w) : Calls Tryz.prog 41 #[.int .i64 (n : Int)] w fun e w' => e = .returned (.string (txtJ n)) ∧ Below w.heap.size w w' := by
  have hn : Calls Tryz.prog 67 #[.int .i64 (n : Int)] w fun e w' => e = .returned (.tuple #[.string (txtJ n), .int .i64 0]) ∧ Below w.heap.size w w' := by
    by_cases h0 : n = 0
    · subst h0
      refine (number_zero w).mono ?_
      rintro e w' ⟨rfl, rfl⟩
      exact ⟨rfl, Below.refl _ _⟩
    · exact number_pos n (by omega) h w ht
  generalize txtJ n = t at *
  go_enter Tryz.func41, Tryz.ntmps41
  go_wp2_with (go_at_call 67; refine hn.mono ?_; rintro e w1 ⟨rfl, hb⟩)
  go_ret
  exact ⟨rfl, hb⟩
theorem hf_textJ : ∀ (args : Array Value) (w : World), (callFunc 41 args).run Tryz.prog w = .ok (.enter 41 args) w := fun args w => by simp [go_sem]
theorem hf_deriveJ : ∀ (args : Array Value) (w : World), (callFunc 47 args).run Tryz.prog w = .ok (.enter 47 args) w := fun args w => by simp [go_sem]
theorem wp_build3J {o : Oper} {a : Act} {w : World} {K : Act → World → Prop} {Q : Exit → Act → World → Prop} (x y z : Operand) (ho : o.op = .buildSlice 36 3 #[(0, x), (1, y), (2, z)]) (p q s : ByteArray) (h0 : a.eval x = .string p) (h1 : a.eval y = .string q) (h2 : a.eval z = .string s)
    (h : K (a.put o.dst (.slice (some ⟨w.heap.size, 0, none⟩) 3 3)) (w.alloc (.cells #[.string p, .string q, .string s] 9))) : o.wp Tryz.prog a w K Q := by
  unfold Oper.wp execOp
  simp only [ho, List.map_toArray, List.map_cons, List.map_nil, h0, h1, h2]
  simp [go_sem]
  exact h
theorem texts3J (w : World) (p q s : ByteArray) : Texts (w.alloc (.cells #[.string p, .string q, .string s] 9)) (some ⟨w.heap.size, 0, none⟩) [p, q, s] := fun i hi => by
  refine ⟨w.heap.size, 0, rfl, ?_⟩
  rw [World.cell?_alloc_at _ _ _ _ rfl]
  match i, hi with
  | 0, _ => rfl
  | 1, _ => rfl
  | 2, _ => rfl
section
variable {w : World} {B g : Nat} {root : List UInt8} {mv mg nv ng : Nat} {V G : DataW Unit} {n : Nat}
theorem TreeAt.rb (h : TreeAt w B g root mv mg nv ng V G n) : w.rangeAt g 0 (cellsOf root) := fun j v hj => by
  have hlt : j < (cellsOf root).length := (List.getElem?_eq_some_iff.1 hj).1
  rw [cell_of_row _ _ _ _ _ _ h.obj, treeC, List.getElem?_toArray, Nat.zero_add, List.getElem?_append_left hlt]
  exact hj
theorem TreeAt.ne (h : TreeAt w B g root mv mg nv ng V G n) {R : Nat} {Z : Array Value} (hr : w.heap[R]? = some (.cells Z 27 (0, 0))) : R ≠ g ∧ R ≠ mv ∧ R ≠ mg := by
  refine ⟨fun e => ?_, fun e => ?_, fun e => ?_⟩
  · rw [e, h.obj] at hr
    injection hr with hr
    injection hr with _ hr
    exact absurd hr (by decide)
  · obtain ⟨es, clock, hb, _⟩ := h.vm
    rw [e, hb] at hr
    cases hr
  · obtain ⟨es, clock, hb, _⟩ := h.gm
    rw [e, hb] at hr
    cases hr
theorem TreeAt.setRow (h : TreeAt w B g root mv mg nv ng V G n) {R : Nat} {Z : Array Value} (hr : w.heap[R]? = some (.cells Z 27 (0, 0))) (O : Array Value) : TreeAt (w.setRow R O) B g root mv mg nv ng V G n := by
  obtain ⟨h1, h2, h3⟩ := h.ne hr
  have hgr : w.grownBy (w.setRow R O) (some R) := ⟨rfl, rfl, rfl, by simp, fun k hk hn => setRow_other _ _ _ _ (fun e => hn (by rw [e]))⟩
  exact ⟨(setRow_other _ _ _ _ (Ne.symm h1)).trans h.obj, h.vm.kept hgr (fun e => h2 (Option.some.inj e).symm), h.gm.kept hgr (fun e => h3 (Option.some.inj e).symm), h.len, h.bg, h.bv, h.bm⟩
end
noncomputable def codeKey (n : Nat) : Code := ((Tryz.f24.body.bind (regionAt n)).getD .skip)
set_option maxHeartbeats 4000000 in
theorem key_region6 {V0 W5 : World} {B g R : Nat} {root : List UInt8} {mv mg nv ng : Nat} {VM GM : DataW Unit} {n v : Nat} {t u : ByteArray} {Z : Array Value} {A : Act} (sz : A.tmps.size = 43) (e0 : A.eval (.tmp 0) = .pointer (some ⟨g, 0, none⟩)) (e1 : A.eval (.tmp 1) = .string t) (e2 : A.eval (.tmp 2) = .string u) (e3 : A.eval (.tmp 3) = .int .i64 (v : Int)) (e8 : A.eval (.tmp 8) = .pointer (some ⟨R, 0, none⟩))
    (hv : v ≤ 4611686018427387904) (hT : TabAt V0) (hKA : KAt V0) (hsz : ∀ s ∈ [t, u, txtJ v], s.size ≤ 140737488351232) (hZ : HV Z (List.replicate 32 0)) (r0 : V0.heap[R]? = some (.cells Z 27 (0, 0))) (hV0 : V0 = W5.drew) (hs0 : TreeAt V0 B g root mv mg nv ng VM GM n) :
    (codeKey 6).wp Tryz.prog (fun x a V => x = .normal ∧ ∃ (V1 : World) (O : Array Value), a = (((((((((((((A.put (some 31) (.pointer (some ⟨g, 0, none⟩))).put (some 32) (.pointer (some ⟨g, 0, none⟩))).put (some 33) (.pointer (some ⟨g, 0, none⟩))).put (some 34) (.agg (bvs root))).put (some 35) (.string t)).put (some 36) (.string u)).put (some 37) (.int .i64 (v : Int))).put (some 38) (.string (txtJ v))).put (some 39) (.slice (some ⟨V1.heap.size, 0, none⟩) 3 3)).put (some 40) (.tuple #[.agg O, .int .i64 (keyErr [t, u, txtJ v] : Int)])).put (some 41) (.agg O)).put (some 42) (.int .i64 (keyErr [t, u, txtJ v] : Int))).put (some 9) (.int .i64 (keyErr [t, u, txtJ v] : Int))) ∧ HV O (derRes root [t, u, txtJ v]) ∧ ∃ V3, V = V3.setRow R O ∧ TreeAt V B g root mv mg nv ng VM GM n ∧ Below V0.heap.size V0 V3 ∧ V3.heap[R]? = some (.cells Z 27 (0, 0))) A W5 := by
  have hm : Tryz.prog.follows .mixedOrders = true := by kernel_rfl
  unfold codeKey
  conv => arg 2; whnf
  refine wp_region_G (fun _ => false) ((fun V => TreeAt V B g root mv mg nv ng VM GM n)) hm ?_
  rw [show ({ W5 with drawn := W5.drawn + 1 } : World) = V0 from hV0.symm]
  refine wpAnyG_take (i := 0) (v := .pointer (some ⟨g, 0, none⟩)) rfl (by kernel_rfl) (by kernel_rfl) (by kernel_rfl) (fun _ _ _ h => nomatch h.1) (yg_mv (by simp [Region.wanted]) (.tmp 0) rfl e0) hs0 ?_
  show wpAnyG _ _ _ _ _ _ _ _ (A.put (some 31) (.pointer (some ⟨g, 0, none⟩))) _
  refine wpAnyG_take (i := 1) (v := .pointer (some ⟨g, 0, none⟩)) rfl (by kernel_rfl) (by kernel_rfl) (by kernel_rfl) (fun _ _ _ h => nomatch h.1) (yg_nil (by simp [Region.wanted]) (.tmp 31) rfl (ev_eq _ _ (by simp [sz]))) hs0 ?_
  show wpAnyG _ _ _ _ _ _ _ _ ((A.put (some 31) (.pointer (some ⟨g, 0, none⟩))).put (some 32) (.pointer (some ⟨g, 0, none⟩))) _
  refine wpAnyG_take (i := 2) (v := .pointer (some ⟨g, 0, none⟩)) rfl (by kernel_rfl) (by kernel_rfl) (by kernel_rfl) (fun _ _ _ h => nomatch h.1) (yg_fld (by simp [Region.wanted]) (.tmp 32) rfl (ev_eq _ _ (by simp [put_sz, sz])) (fun w => by simp [go_sem])) hs0 ?_
  show wpAnyG _ _ _ _ _ _ _ _ (((A.put (some 31) (.pointer (some ⟨g, 0, none⟩))).put (some 32) (.pointer (some ⟨g, 0, none⟩))).put (some 33) (.pointer (some ⟨g, 0, none⟩))) _
  refine wpAnyG_take (i := 3) (v := .agg (bvs root)) rfl (by kernel_rfl) (by kernel_rfl) (by kernel_rfl) (fun _ _ _ h => nomatch h.1) (yieldsIf_load_mid (by simp [Region.wanted]) 27 (.tmp 33) rfl g 0 (ev_eq _ _ (by simp [put_sz, sz])) (cellsOf root) _ (fun V hV => hV.rb) Tryz.underlying27 rfl (by rw [cellsOf_length, hs0.len]; exact size_hash)) hs0 ?_
  show wpAnyG _ _ _ _ _ _ _ _ ((((A.put (some 31) (.pointer (some ⟨g, 0, none⟩))).put (some 32) (.pointer (some ⟨g, 0, none⟩))).put (some 33) (.pointer (some ⟨g, 0, none⟩))).put (some 34) (.agg (bvs root))) _
  refine wpAnyG_take (i := 4) (v := .string t) rfl (by kernel_rfl) (by kernel_rfl) (by kernel_rfl) (fun _ _ _ h => nomatch h.1) (yg_mv (by simp [Region.wanted]) (.tmp 1) rfl ((ev_ne _ _ (by decide)).trans ((ev_ne _ _ (by decide)).trans ((ev_ne _ _ (by decide)).trans ((ev_ne _ _ (by decide)).trans e1))))) hs0 ?_
  show wpAnyG _ _ _ _ _ _ _ _ (((((A.put (some 31) (.pointer (some ⟨g, 0, none⟩))).put (some 32) (.pointer (some ⟨g, 0, none⟩))).put (some 33) (.pointer (some ⟨g, 0, none⟩))).put (some 34) (.agg (bvs root))).put (some 35) (.string t)) _
  refine wpAnyG_take (i := 5) (v := .string u) rfl (by kernel_rfl) (by kernel_rfl) (by kernel_rfl) (fun _ _ _ h => nomatch h.1) (yg_mv (by simp [Region.wanted]) (.tmp 2) rfl ((ev_ne _ _ (by decide)).trans ((ev_ne _ _ (by decide)).trans ((ev_ne _ _ (by decide)).trans ((ev_ne _ _ (by decide)).trans ((ev_ne _ _ (by decide)).trans e2)))))) hs0 ?_
  show wpAnyG _ _ _ _ _ _ _ _ ((((((A.put (some 31) (.pointer (some ⟨g, 0, none⟩))).put (some 32) (.pointer (some ⟨g, 0, none⟩))).put (some 33) (.pointer (some ⟨g, 0, none⟩))).put (some 34) (.agg (bvs root))).put (some 35) (.string t)).put (some 36) (.string u)) _
  refine wpAnyG_take (i := 6) (v := .int .i64 (v : Int)) rfl (by kernel_rfl) (by kernel_rfl) (by kernel_rfl) (fun _ _ _ h => nomatch h.1) (yg_mv (by simp [Region.wanted]) (.tmp 3) rfl ((ev_ne _ _ (by decide)).trans ((ev_ne _ _ (by decide)).trans ((ev_ne _ _ (by decide)).trans ((ev_ne _ _ (by decide)).trans ((ev_ne _ _ (by decide)).trans ((ev_ne _ _ (by decide)).trans e3))))))) hs0 ?_
  show wpAnyG _ _ _ _ _ _ _ _ (((((((A.put (some 31) (.pointer (some ⟨g, 0, none⟩))).put (some 32) (.pointer (some ⟨g, 0, none⟩))).put (some 33) (.pointer (some ⟨g, 0, none⟩))).put (some 34) (.agg (bvs root))).put (some 35) (.string t)).put (some 36) (.string u)).put (some 37) (.int .i64 (v : Int))) _
  refine wpAnyG_all (rs := [7]) (by kernel_rfl) (by simp) fun i1 hm1 => ?_
  obtain rfl : i1 = 7 := by simpa using hm1
  refine wpOp_own rfl rfl fun K1 hK1 => ?_
  refine wp_calls1 41 hf_textJ (.tmp 37) _ rfl (.int .i64 (v : Int)) (ev_eq _ _ (by simp [put_sz, sz])) ?_
  refine (textJ_any v hv V0 hT).mono ?_
  rintro _ V1 ⟨rfl, hb1⟩
  have hs1 := hs0.below hb1
  refine ⟨_, rfl, hK1 _ _ ⟨.inr hs1, ?_⟩⟩
  clear hK1 K1 hm1
  show wpAnyG _ _ _ _ _ _ _ _ ((((((((A.put (some 31) (.pointer (some ⟨g, 0, none⟩))).put (some 32) (.pointer (some ⟨g, 0, none⟩))).put (some 33) (.pointer (some ⟨g, 0, none⟩))).put (some 34) (.agg (bvs root))).put (some 35) (.string t)).put (some 36) (.string u)).put (some 37) (.int .i64 (v : Int))).put (some 38) (.string (txtJ v))) _
  refine wpAnyG_all (rs := [8]) (by kernel_rfl) (by simp) fun i2 hm2 => ?_
  obtain rfl : i2 = 8 := by simpa using hm2
  refine wpOp_own rfl rfl fun K2 hK2 => ?_
  refine wp_build3J (.tmp 35) (.tmp 36) (.tmp 38) rfl t u (txtJ v) ((ev_ne _ _ (by decide)).trans ((ev_ne _ _ (by decide)).trans ((ev_ne _ _ (by decide)).trans (ev_eq _ _ (by simp [put_sz, sz]))))) ((ev_ne _ _ (by decide)).trans ((ev_ne _ _ (by decide)).trans (ev_eq _ _ (by simp [put_sz, sz])))) (ev_eq _ _ (by simp [put_sz, sz])) ?_
  have hb2 : Below V1.heap.size V1 (V1.alloc (.cells #[.string t, .string u, .string (txtJ v)] 9)) := (Below.refl _ V1).alloc (Nat.le_refl _) _
  have hs2 := hs1.below hb2
  refine hK2 _ _ ⟨.inr hs2, ?_⟩
  clear hK2 K2 hm2
  show wpAnyG _ _ _ _ _ _ _ _ (((((((((A.put (some 31) (.pointer (some ⟨g, 0, none⟩))).put (some 32) (.pointer (some ⟨g, 0, none⟩))).put (some 33) (.pointer (some ⟨g, 0, none⟩))).put (some 34) (.agg (bvs root))).put (some 35) (.string t)).put (some 36) (.string u)).put (some 37) (.int .i64 (v : Int))).put (some 38) (.string (txtJ v))).put (some 39) (.slice (some ⟨V1.heap.size, 0, none⟩) 3 3)) _
  obtain ⟨Az1, hAz1⟩ : ∃ Az1, Az1 = (((((((((A.put (some 31) (.pointer (some ⟨g, 0, none⟩))).put (some 32) (.pointer (some ⟨g, 0, none⟩))).put (some 33) (.pointer (some ⟨g, 0, none⟩))).put (some 34) (.agg (bvs root))).put (some 35) (.string t)).put (some 36) (.string u)).put (some 37) (.int .i64 (v : Int))).put (some 38) (.string (txtJ v))).put (some 39) (.slice (some ⟨V1.heap.size, 0, none⟩) 3 3)) := ⟨_, rfl⟩
  have szAz1 : Az1.tmps.size = 43 := by rw [hAz1]; simp [put_sz, sz]
  have eAz18 : Az1.eval (.tmp 8) = .pointer (some ⟨R, 0, none⟩) := by rw [hAz1]; exact ((ev_ne _ _ (by decide)).trans ((ev_ne _ _ (by decide)).trans ((ev_ne _ _ (by decide)).trans ((ev_ne _ _ (by decide)).trans ((ev_ne _ _ (by decide)).trans ((ev_ne _ _ (by decide)).trans ((ev_ne _ _ (by decide)).trans ((ev_ne _ _ (by decide)).trans ((ev_ne _ _ (by decide)).trans e8)))))))))
  have eAz134 : Az1.eval (.tmp 34) = .agg (bvs root) := by rw [hAz1]; exact ((ev_ne _ _ (by decide)).trans ((ev_ne _ _ (by decide)).trans ((ev_ne _ _ (by decide)).trans ((ev_ne _ _ (by decide)).trans ((ev_ne _ _ (by decide)).trans (ev_eq _ _ (by simp [put_sz, sz])))))))
  have eAz139 : Az1.eval (.tmp 39) = .slice (some ⟨V1.heap.size, 0, none⟩) 3 3 := by rw [hAz1]; exact (ev_eq _ _ (by simp [put_sz, sz]))
  rw [← hAz1]
  refine wpAnyG_all (rs := [9]) (by kernel_rfl) (by simp) fun i3 hm3 => ?_
  obtain rfl : i3 = 9 := by simpa using hm3
  refine wpOp_own rfl rfl fun K3 hK3 => ?_
  refine wp_calls2 47 hf_deriveJ (.tmp 34) (.tmp 39) _ rfl (.agg (bvs root)) (.slice (some ⟨V1.heap.size, 0, none⟩) 3 3) eAz134 eAz139 ?_
  refine (derive_any (K := bvs root) (key := root) ⟨rfl, hs0.len⟩ [t, u, txtJ v] (some ⟨V1.heap.size, 0, none⟩) 3 3 rfl (texts3J V1 t u (txtJ v)) hsz (by simp) (hKA.below (Below.on' hb1 hb2))).mono ?_
  rintro _ V3 ⟨O, rfl, hO, hb3⟩
  have hs3 := hs2.below hb3
  have b03 : Below V0.heap.size V0 V3 := Below.on' (Below.on' hb1 hb2) hb3
  have r3 := (b03.block R (heap_lt r0)).trans r0
  refine ⟨_, rfl, hK3 _ _ ⟨.inr hs3, ?_⟩⟩
  clear hK3 K3 hm3
  show wpAnyG _ _ _ _ _ _ _ _ (Az1.put (some 40) (.tuple #[.agg O, .int .i64 (keyErr [t, u, txtJ v] : Int)])) _
  refine wpAnyG_take (i := 10) (v := .agg O) rfl (by kernel_rfl) (by kernel_rfl) (by kernel_rfl) (fun _ _ _ h => nomatch h.1) (yg_ext (by simp [Region.wanted]) (.tmp 40) rfl (ev_eq _ _ (by simp [szAz1])) (fun w => by simp [go_sem])) hs3 ?_
  show wpAnyG _ _ _ _ _ _ _ _ ((Az1.put (some 40) (.tuple #[.agg O, .int .i64 (keyErr [t, u, txtJ v] : Int)])).put (some 41) (.agg O)) _
  refine wpAnyG_take (i := 11) (v := .int .i64 (keyErr [t, u, txtJ v] : Int)) rfl (by kernel_rfl) (by kernel_rfl) (by kernel_rfl) (fun _ _ _ h => nomatch h.1) (yg_ext (by simp [Region.wanted]) (.tmp 40) rfl ((ev_ne _ _ (by decide)).trans (ev_eq _ _ (by simp [szAz1]))) (fun w => by simp [go_sem])) hs3 ?_
  show wpAnyG _ _ _ _ _ _ _ _ (((Az1.put (some 40) (.tuple #[.agg O, .int .i64 (keyErr [t, u, txtJ v] : Int)])).put (some 41) (.agg O)).put (some 42) (.int .i64 (keyErr [t, u, txtJ v] : Int))) _
  obtain ⟨Az2, hAz2⟩ : ∃ Az2, Az2 = (((Az1.put (some 40) (.tuple #[.agg O, .int .i64 (keyErr [t, u, txtJ v] : Int)])).put (some 41) (.agg O)).put (some 42) (.int .i64 (keyErr [t, u, txtJ v] : Int))) := ⟨_, rfl⟩
  have szAz2 : Az2.tmps.size = 43 := by rw [hAz2]; simp [put_sz, szAz1]
  have eAz28 : Az2.eval (.tmp 8) = .pointer (some ⟨R, 0, none⟩) := by rw [hAz2]; exact ((ev_ne _ _ (by decide)).trans ((ev_ne _ _ (by decide)).trans ((ev_ne _ _ (by decide)).trans eAz18)))
  have eAz241 : Az2.eval (.tmp 41) = .agg O := by rw [hAz2]; exact ((ev_ne _ _ (by decide)).trans (ev_eq _ _ (by simp [put_sz, szAz1])))
  have eAz242 : Az2.eval (.tmp 42) = .int .i64 (keyErr [t, u, txtJ v] : Int) := by rw [hAz2]; exact (ev_eq _ _ (by simp [put_sz, szAz1]))
  rw [← hAz2]
  refine wpAnyG_all (rs := [12]) (by kernel_rfl) (by simp) fun i4 hm4 => ?_
  obtain rfl : i4 = 12 := by simpa using hm4
  refine wpOp_own rfl rfl fun K4 hK4 => ?_
  refine wp_store_hash (.tmp 8) (.tmp 41) rfl R O Z hO hZ eAz28 eAz241 r3 ?_
  have hs4 := hs3.setRow r3 O
  refine hK4 _ _ ⟨.inr hs4, ?_⟩
  clear hK4 K4 hm4
  show wpAnyG _ _ _ _ _ _ _ _ Az2 _
  refine wpAnyG_one (i := 13) (v := .int .i64 (keyErr [t, u, txtJ v] : Int)) rfl (by kernel_rfl) (yg_as (by simp [Region.wanted]) (.tmp 42) rfl eAz242) hs4 ?_
  show wpAnyG _ _ _ _ _ _ _ _ (Az2.put (some 9) (.int .i64 (keyErr [t, u, txtJ v] : Int))) _
  refine wpAnyG_done (by kernel_rfl) ⟨rfl, V1, O, ?_, hO, V3, rfl, hs4, b03, r3⟩ _
  show (Az2.put (some 9) (.int .i64 (keyErr [t, u, txtJ v] : Int))) = _
  rw [hAz2, hAz1]
end Go.Proofs.YtomhcccjeadefaaGreatDoor
/- (*Tree).Key, by a contract. -/
namespace Go.Proofs.YtomhcccjeadefaaGreatDoor
open Go.RowKit Go.Maps
set_option linter.unusedVariables false
set_option maxRecDepth 20000
set_option maxHeartbeats 2000000 in
theorem key_ok {w : World} {B g : Nat} {root : List UInt8} {mv mg nv ng : Nat} {VM GM : DataW Unit} {n : Nat} (h : TreeAt w B g root mv mg nv ng VM GM n) (t u : ByteArray) (ht : t.size ≤ 100 ∧ nameB t.data.toList = true) (hu : u.size ≤ 100 ∧ nameB u.data.toList = true) (kl : Lit) (hk : Go.keyOf Tryz.prog 80 (.agg #[.string t, .string u]) = some kl) (c : Int) (hc : VerIs VM kl c) (hb : Maps.has GM (.string t.data.toList) = false) (v : Nat) (h1 : 1 ≤ v) (h2 : (v : Int) ≤ c) (h3 : v ≤ 1000) (hT : TabAt w) (hKA : KAt w) :
    Calls Tryz.prog 24 #[.pointer (some ⟨g, 0, none⟩), .string t, .string u, .int .i64 (v : Int)] w (HashErr w (derRes root [t, u, txtJ v]) (keyErr [t, u, txtJ v] : Int)) := by
  obtain ⟨Z, hZ⟩ : ∃ Z, Z = bvs (List.replicate 32 0) := ⟨_, rfl⟩
  have zh := (zero_of_info zero_hash).1
  rw [← hZ] at zh
  have hz : Hid (HV Z (List.replicate 32 0)) := by
    show HV _ _
    rw [hZ]; exact hv_zero
  have zh := hid zh
  obtain ⟨W, hW⟩ : ∃ W, W = w.alloc (.cells Z 27) := ⟨_, rfl⟩
  have b0 : Below w.heap.size w W := by rw [hW]; exact (Below.refl _ w).alloc (Nat.le_refl _) _
  have x0 : W.heap[w.heap.size]? = some (.cells Z 27 (0, 0)) := by rw [hW]; exact heap_alloc_new w _
  have hsz : ∀ s ∈ [t, u, txtJ v], s.size ≤ 140737488351232 := fun s hs => by
    simp at hs
    rcases hs with rfl | rfl | rfl
    · have := ht.1; omega
    · have := hu.1; omega
    · have h9 : (txtJ v).size ≤ 100 := by
        show (numT v).toArray.size ≤ 100
        unfold numT
        split
        · decide
        · rw [List.size_toArray, List.length_cons, lo_length]
          have := (Nat.log2_lt (by omega)).2 (show v < 2 ^ 63 by omega)
          omega
      omega
  have HC := hid (current_any (h.below b0) t u ⟨by unfold maxLen; have := ht.1; omega, ht.2⟩ ⟨by unfold maxLen; have := hu.1; omega, hu.2⟩ kl hk c hc false hb)
  have H := hid (h.below b0)
  have B0 := hid b0
  have X0 := hid x0
  have HT := hid (TabAt.belowJ hT b0)
  have HKA := hid (hKA.below b0)
  have HW := hid hW
  have Hsz := hid hsz
  have g1 : decide ((v : Int) < 1) = false := by simp; omega
  have g2 : decide (c < (v : Int)) = false := by simp; omega
  clear h hc hb hk hZ hW b0 x0 hT hKA hsz
  go_enter Tryz.func24, Tryz.ntmps24
  go_wp2_with (first
    | (with_reducible show Go.wpList _ _ _ _ _ _; refine wpList_alloc_row rfl 27 rfl Z zh.out ?_; rw [← HW.out])
    | (go_at_call 23; refine HC.out.mono ?_; rintro _ w1 ⟨rfl, b1⟩; have B1 := hid b1; clear b1; unfold goneE; simp only [Bool.false_eq_true, if_false]))
  obtain ⟨V0, hV0⟩ : ∃ V0, V0 = w1.drew := ⟨_, rfl⟩
  have b10 : Below W.heap.size W V0 := by rw [hV0]; exact B1.out.drew
  have r0 := (b10.block _ (heap_lt X0.out)).trans X0.out
  refine wp_act _ fun A hA => ?_
  have sz : A.tmps.size = 43 := by rw [hA]; rfl
  have e0 : A.eval (.tmp 0) = .pointer (some ⟨g, 0, none⟩) := by rw [hA]; rfl
  have e1 : A.eval (.tmp 1) = .string t := by rw [hA]; rfl
  have e2 : A.eval (.tmp 2) = .string u := by rw [hA]; rfl
  have e3 : A.eval (.tmp 3) = .int .i64 (v : Int) := by rw [hA]; rfl
  have e8 : A.eval (.tmp 8) = .pointer (some ⟨w.heap.size, 0, none⟩) := by rw [hA]; rfl
  refine wp_split _ (key_region6 sz e0 e1 e2 e3 e8 (by omega) (TabAt.belowJ HT.out b10) (HKA.out.below b10) Hsz.out hz.out r0 hV0 (H.out.below b10)) ?_
  rintro _ _ ⟨V1, O, rfl, hO, V3, rfl, h4, b03, r3⟩
  rw [hA]
  simp only [Act.put, List.setIfInBounds_toArray, List.set_cons_succ, List.set_cons_zero]
  have R3 := hid r3
  have BF := hid (Below.on' B0.out (Below.on' b10 b03))
  have HO := hid hO
  clear sz e0 e1 e2 e3 e8 hA A hV0 r0 b10 b03 r3 h4 hO
  go_wp2
  refine bodyPost_ret (results_row_tmp rfl _ _ w.heap.size 27 O (0, 0) _ rfl (setRow_heap _ _ _ _ _ _ R3.out) Tryz.underlying27 rfl HO.out.info) rfl ?_
  exact ⟨O, rfl, HO.out, BF.out.setRow (Nat.le_refl _) _⟩
end Go.Proofs.YtomhcccjeadefaaGreatDoor
