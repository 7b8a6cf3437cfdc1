/- YtdglmoikgmlaaaaGreatDoorJ17 + YtdglmoikgmlaaaaGreatDoorJ18 + YtdglmoikgmlaaaaGreatDoorJ19 + YtdglmoikgmlaaaaGreatDoorJ20 + YtdglmoikgmlaaaaGreatDoorJ21 -/
import Derived.Test.YtdglmoikgmlaaaaGreatDoorJ16
/- Current and Rotate of any names, over a tree as mathematics. -/
namespace Go.Proofs.YtdglmoikgmlaaaaGreatDoor
open Go.RowKit Go.Maps
set_option linter.unusedVariables false
set_option maxRecDepth 20000
def TreeM (w : World) (B g mv mg : Nat) (root : List UInt8) (s : TS) (d : Nat) : Prop := s.Ok ∧ mv ≠ mg ∧ ∃ nv ng V G, TreeAt w B g root mv mg nv ng V G s.n ∧ VRel V s.vs ∧ GRel G s.gs ∧ nv ≤ d ∧ ng ≤ d
def Mine (g mv mg : Nat) (j : Nat) : Prop := j = g ∨ j = mv ∨ j = mg
section
variable {w w' : World} {B g mv mg : Nat} {root : List UInt8} {s : TS} {d : Nat}
theorem TreeM.below (h : TreeM w B g mv mg root s d) (hb : Below w.heap.size w w') : TreeM w' B g mv mg root s d := by
  obtain ⟨ok, hne, nv, ng, V, G, h1, h2⟩ := h
  exact ⟨ok, hne, nv, ng, V, G, h1.below hb, h2⟩
theorem OutJ.mono {P Q : Nat → Prop} (h : OutJ P w w') (hpq : ∀ k, P k → Q k) : OutJ Q w w' := ⟨h.os, h.tape, h.output, h.size, fun k hk hq => h.block k hk (fun hp => hq (hpq k hp))⟩
theorem current_m (h : TreeM w B g mv mg root s d) (t u : ByteArray) (ht : t.size ≤ maxLen) (hu : u.size ≤ maxLen) :
    Calls Tryz.prog 29 #[.pointer (some ⟨g, 0, none⟩), .string t, .string u] w fun e w' => e = .returned (.tuple #[.int .i64 ((s.cur t u).1 : Int), .int .i64 ((s.cur t u).2 : Int)]) ∧ Below w.heap.size w w' := by
  obtain ⟨ok, hne, nv, ng, V, G, h1, hV, hG, _⟩ := h
  unfold TS.cur
  by_cases hn : (okN t && okN u) = true
  · rw [if_pos hn]
    obtain ⟨n1, n2⟩ := (Bool.and_eq_true _ _).mp hn
    refine (current_any h1 t u ⟨ht, n1⟩ ⟨hu, n2⟩ (keyP t u) (keyOf_place t u ht hu) _ (hV.ver t u ht hu) (isIn s.gs t) (hG.has t)).mono fun e w' h => ?_
    obtain ⟨rfl, hb⟩ := h
    refine ⟨?_, hb⟩
    unfold goneE
    cases isIn s.gs t <;> rfl
  · rw [if_neg hn]
    exact current_bad t u ht hu (by simpa using hn)
def TS.rotR (s : TS) (t u : ByteArray) : TS × (Nat × Nat) :=
  if (s.cur t u).2 ≠ 0 then (s, (0, (s.cur t u).2))
  else if (s.cur t u).1 = 16 ∨ ((s.cur t u).1 = 1 ∧ s.vs.length = 16) then (s, (0, 7))
  else (s.rot t u ((s.cur t u).1 + 1), ((s.cur t u).1 + 1, 0))
set_option maxHeartbeats 1000000 in
theorem rotate_err {w : World} {g : Nat} (t u : ByteArray) (z c : Int) (hc : c ≠ 0) (H : Calls Tryz.prog 29 #[.pointer (some ⟨g, 0, none⟩), .string t, .string u] w fun e w' => e = .returned (.tuple #[.int .i64 z, .int .i64 c]) ∧ Below w.heap.size w w') :
    Calls Tryz.prog 16 #[.pointer (some ⟨g, 0, none⟩), .string t, .string u] w fun e w' => e = .returned (.tuple #[.int .i64 0, .int .i64 c]) ∧ Below w.heap.size w w' := by
  have q0 : (c != 0) = true := by simpa using hc
  go_enter Tryz.func16, Tryz.ntmps16
  go_wp2_with (go_at_call 29; refine H.mono ?_; rintro _ w1 ⟨rfl, b1⟩)
  go_ret2
  exact ⟨rfl, b1⟩
set_option maxHeartbeats 2000000 in
theorem rotate_full {w : World} {B g : Nat} {root : List UInt8} {mv mg nv ng : Nat} {VM GM : DataW Unit} {k : Nat} (h : TreeAt w B g root mv mg nv ng VM GM k) (t u : ByteArray) (c : Nat) (hf : c = 16 ∨ (c = 1 ∧ Maps.size VM = 16)) (HC : Calls Tryz.prog 29 #[.pointer (some ⟨g, 0, none⟩), .string t, .string u] w fun e w' => e = .returned (.tuple #[.int .i64 (c : Int), .int .i64 0]) ∧ Below w.heap.size w w') :
    Calls Tryz.prog 16 #[.pointer (some ⟨g, 0, none⟩), .string t, .string u] w fun e w' => e = .returned (.tuple #[.int .i64 0, .int .i64 7]) ∧ Below w.heap.size w w' := by
  have H := hid h
  clear h
  rcases hf with rfl | ⟨rfl, hsz⟩
  · go_enter Tryz.func16, Tryz.ntmps16
    go_wp2_with (go_at_call 29; refine HC.mono ?_; rintro _ w1 ⟨rfl, b1⟩)
    go_ret2
    exact ⟨rfl, b1⟩
  · have g2 : ((Maps.size VM : Int) == 16) = true := by simp; omega
    go_enter Tryz.func16, Tryz.ntmps16
    go_wp2_with (go_at_call 29; refine HC.mono ?_; rintro _ w1 ⟨rfl, b1⟩; have hT1 := H.out.below b1; have c32 := hT1.c32; have hlen := hT1.vm.len Tryz.underlying52 3; have B1 := hid b1; clear b1 hT1)
    go_ret2
    exact ⟨rfl, B1.out⟩
theorem rotate_m (h : TreeM w B g mv mg root s d) (hd : d ≤ 900) (t u : ByteArray) (ht : t.size ≤ maxLen) (hu : u.size ≤ maxLen) :
    Calls Tryz.prog 16 #[.pointer (some ⟨g, 0, none⟩), .string t, .string u] w fun e w' => e = .returned (.tuple #[.int .i64 ((s.rotR t u).2.1 : Int), .int .i64 ((s.rotR t u).2.2 : Int)]) ∧ TreeM w' B g mv mg root (s.rotR t u).1 (d + 1) ∧ OutJ (Mine g mv mg) w w' := by
  have HC := current_m h t u ht hu
  have up : ∀ w', Below w.heap.size w w' → TreeM w' B g mv mg root s (d + 1) := fun w' hb => by
    obtain ⟨ok, hne, nv, ng, V, G, h1, hV, hG, l1, l2⟩ := h
    exact ⟨ok, hne, nv, ng, V, G, h1.below hb, hV, hG, by omega, by omega⟩
  unfold TS.rotR
  by_cases he : (s.cur t u).2 ≠ 0
  · rw [if_pos he]
    refine (rotate_err t u _ _ (by omega) HC).mono fun e w' h9 => ?_
    exact ⟨h9.1, up w' h9.2, OutJ.of_below h9.2⟩
  · rw [if_neg he]
    have he0 : (s.cur t u).2 = 0 := by omega
    rw [he0] at HC
    obtain ⟨ok, hne, nv, ng, V, G, h1, hV, hG, l1, l2⟩ := h
    by_cases hf : (s.cur t u).1 = 16 ∨ ((s.cur t u).1 = 1 ∧ s.vs.length = 16)
    · rw [if_pos hf]
      refine (rotate_full h1 t u _ (by rw [hV.size]; exact hf) HC).mono fun e w' h9 => ?_
      exact ⟨h9.1, up w' h9.2, OutJ.of_below h9.2⟩
    · rw [if_neg hf]
      have hn : (okN t && okN u) = true := by
        by_cases hn : (okN t && okN u) = true
        · exact hn
        · unfold TS.cur at he0; rw [if_neg hn] at he0; cases he0
      obtain ⟨n1, n2⟩ := (Bool.and_eq_true _ _).mp hn
      have hg : isIn s.gs t = false := by
        cases hg : isIn s.gs t with
        | false => rfl
        | true => unfold TS.cur at he0; rw [if_pos hn, if_pos hg] at he0; cases he0
      have hc : (s.cur t u).1 = verOf s.vs t u := by unfold TS.cur; rw [if_pos hn, if_neg (by rw [hg]; simp)]
      rw [hc] at hf ⊢
      obtain ⟨v1, v2⟩ := verOf_ok ok t u
      have hlen := rotV_length ok.nodup t u (verOf s.vs t u + 1)
      have hfew := ok.few
      have hv1 : s.vs.any (isAt t u) = false → verOf s.vs t u = 1 := fun ha => by
        unfold verOf
        rw [List.find?_eq_none.2 (fun p hp => by have := List.any_eq_false.1 ha p hp; simpa using this)]
        rfl
      have hl16 : (rotV s.vs t u (verOf s.vs t u + 1)).length ≤ 16 := by
        rw [hlen]
        cases ha : s.vs.any (isAt t u) with
        | true => simp; exact hfew
        | false => have := hv1 ha; simp; omega
      refine (rotate_ok h1 t u ⟨by have := okN_len n1; omega, n1⟩ ⟨by have := okN_len n2; omega, n2⟩ (keyP t u) (keyOf_place t u ht hu) _ (hV.ver t u ht hu) v1 (by omega) (by rw [hG.has, hg]) (fun h => by rw [hV.size]; omega) (by omega) hne).mono fun e w' h9 => ?_
      obtain ⟨rfl, h10, h11⟩ := h9
      exact ⟨rfl, ⟨ok.rot t u n1 n2 (fun hm => by rw [isIn_iff.2 hm] at hg; cases hg) _ (by omega) (by omega) hl16, hne, _, _, _, _, h10, hV.rot ok t u ht hu _, hG, by omega, by omega⟩, h11.mono fun k hk => .inr (.inl hk)⟩
end
end Go.Proofs.YtdglmoikgmlaaaaGreatDoor
/- Destroy: the region that draws. -/
namespace Go.Proofs.YtdglmoikgmlaaaaGreatDoor
open Go.RowKit Go.Maps
set_option linter.unusedVariables false
set_option maxRecDepth 20000
noncomputable def codeDes (n : Nat) : Code := ((Tryz.f22.body.bind (regionAt n)).getD .skip)
set_option maxHeartbeats 4000000 in
theorem des_region11 {V0 W5 : World} {g R mv r n : Nat} {t' u' : ByteArray} {D : DataW Unit} {left : Lit → Bool} {cnt : Nat} {kl : Lit} {A : Act} (sz : A.tmps.size = 45) (e0 : A.eval (.tmp 0) = .pointer (some ⟨g, 0, none⟩)) (e6 : A.eval (.tmp 6) = .pointer (some ⟨R, 0, none⟩)) (hkey : Go.keyOf Tryz.prog 71 (.agg #[.string t', .string u']) = some kl)
    (hV0 : V0 = W5.drew) (hrg : V0.ranges Tryz.prog 71 (plainElem Tryz.prog 3) mv r n D left cnt) (hg : mv ≠ g) (hR : mv ≠ R) (hs0 : (fun V : World => V.cell? ⟨g, 32, none⟩ = some (.map (some mv)) ∧ V.rangeAt R 0 [.string t', .string u']) V0) :
    (codeDes 11).wp Tryz.prog (fun x b V => x = .normal ∧ b = (((((A.put (some 40) (.pointer (some ⟨g, 0, none⟩))).put (some 41) (.pointer (some ⟨g, 0, none⟩))).put (some 42) (.pointer (some ⟨g, 32, none⟩))).put (some 43) (.map (some mv))).put (some 44) (.agg #[.string t', .string u'])) ∧ ∃ cnt', V.ranges Tryz.prog 71 (plainElem Tryz.prog 3) mv r n (D.del kl) (fun z => left z && !z.sameKey kl) cnt' ∧ cnt' ≤ cnt ∧ V0.mapTurned V mv) A W5 := by
  have hm : Tryz.prog.follows .mixedOrders = true := by kernel_rfl
  unfold codeDes
  conv => arg 2; whnf
  refine wp_region_G (fun _ => false) (fun V : World => V.cell? ⟨g, 32, none⟩ = some (.map (some mv)) ∧ V.rangeAt R 0 [.string t', .string u']) hm ?_
  rw [show ({ W5 with drawn := W5.drawn + 1 } : World) = V0 from hV0.symm]
  refine wpAnyG_take (i := 0) (v := .pointer (some ⟨g, 0, none⟩)) rfl (by kernel_rfl) (by kernel_rfl) (by kernel_rfl) (fun _ _ _ h => nomatch h.1) (yg_mv (by simp [Region.wanted]) (.tmp 0) rfl e0) hs0 ?_
  show wpAnyG _ _ _ _ _ _ _ _ (A.put (some 40) (.pointer (some ⟨g, 0, none⟩))) _
  refine wpAnyG_take (i := 1) (v := .pointer (some ⟨g, 0, none⟩)) rfl (by kernel_rfl) (by kernel_rfl) (by kernel_rfl) (fun _ _ _ h => nomatch h.1) (yg_nil (by simp [Region.wanted]) (.tmp 40) rfl (ev_eq _ _ (by simp [sz]))) hs0 ?_
  show wpAnyG _ _ _ _ _ _ _ _ ((A.put (some 40) (.pointer (some ⟨g, 0, none⟩))).put (some 41) (.pointer (some ⟨g, 0, none⟩))) _
  refine wpAnyG_take (i := 2) (v := .pointer (some ⟨g, 32, none⟩)) rfl (by kernel_rfl) (by kernel_rfl) (by kernel_rfl) (fun _ _ _ h => nomatch h.1) (yg_fld (by simp [Region.wanted]) (.tmp 41) rfl (ev_eq _ _ (by simp [put_sz, sz])) (fun w => by simp [go_sem])) hs0 ?_
  show wpAnyG _ _ _ _ _ _ _ _ (((A.put (some 40) (.pointer (some ⟨g, 0, none⟩))).put (some 41) (.pointer (some ⟨g, 0, none⟩))).put (some 42) (.pointer (some ⟨g, 32, none⟩))) _
  refine wpAnyG_take (i := 3) (v := .map (some mv)) rfl (by kernel_rfl) (by kernel_rfl) (by kernel_rfl) (fun _ _ _ h => nomatch h.1) (yg_ld (by simp [Region.wanted]) (.tmp 42) rfl (ev_eq _ _ (by simp [put_sz, sz])) (fun w hw => by have h1 := hw.1; simp [go_sem, h1])) hs0 ?_
  show wpAnyG _ _ _ _ _ _ _ _ ((((A.put (some 40) (.pointer (some ⟨g, 0, none⟩))).put (some 41) (.pointer (some ⟨g, 0, none⟩))).put (some 42) (.pointer (some ⟨g, 32, none⟩))).put (some 43) (.map (some mv))) _
  refine wpAnyG_take (i := 4) (v := .agg #[.string t', .string u']) rfl (by kernel_rfl) (by kernel_rfl) (by kernel_rfl) (fun _ _ _ h => nomatch h.1) (yieldsIf_load_mid (by simp [Region.wanted]) 71 (.tmp 6) rfl R 0 ((ev_ne _ _ (by decide)).trans ((ev_ne _ _ (by decide)).trans ((ev_ne _ _ (by decide)).trans ((ev_ne _ _ (by decide)).trans e6)))) [.string t', .string u'] _ (fun V hV => hV.2) Tryz.underlying71 rfl (by kernel_rfl)) hs0 ?_
  show wpAnyG _ _ _ _ _ _ _ _ (((((A.put (some 40) (.pointer (some ⟨g, 0, none⟩))).put (some 41) (.pointer (some ⟨g, 0, none⟩))).put (some 42) (.pointer (some ⟨g, 32, none⟩))).put (some 43) (.map (some mv))).put (some 44) (.agg #[.string t', .string u'])) _
  obtain ⟨A5, hA5⟩ : ∃ A5, A5 = (((((A.put (some 40) (.pointer (some ⟨g, 0, none⟩))).put (some 41) (.pointer (some ⟨g, 0, none⟩))).put (some 42) (.pointer (some ⟨g, 32, none⟩))).put (some 43) (.map (some mv))).put (some 44) (.agg #[.string t', .string u'])) := ⟨_, rfl⟩
  have e43 : A5.eval (.tmp 43) = .map (some mv) := by rw [hA5]; exact (ev_ne _ _ (by decide)).trans (ev_eq _ _ (by simp [put_sz, sz]))
  have e44 : A5.eval (.tmp 44) = .agg #[.string t', .string u'] := by rw [hA5]; exact ev_eq _ _ (by simp [put_sz, sz])
  rw [← hA5]
  refine wpAnyG_all (rs := [5]) (by kernel_rfl) (by simp) fun i1 hm1 => ?_
  obtain rfl : i1 = 5 := by simpa using hm1
  refine wpOp_own rfl rfl fun K1 hK1 => ?_
  obtain ⟨V1, cnt1, hrun, r1, r2, r3⟩ := hrg.drop lawPlace Tryz.underlying52 hkey 0
  have hgr := r3.grown
  unfold Oper.wp
  simp [execOp, resolve, invoke, builtin, e43, e44, hrun, Result.andThen]
  refine hK1 _ _ ⟨.inr ⟨?_, ?_⟩, wpAnyG_done (by kernel_rfl) ⟨rfl, rfl, cnt1, r1, r2, r3⟩ _⟩
  · rw [World.cell?_of_block (hgr.block g (World.block_lt_of_cell? _ _ hs0.1) (fun e => hg (Option.some.inj e).symm))]
    exact hs0.1
  · intro j v hj
    have h1 := hs0.2 j v hj
    rw [World.cell?_of_block (hgr.block R (World.block_lt_of_cell? _ _ h1) (fun e => hR (Option.some.inj e).symm))]
    exact h1
def keptT (t : ByteArray) (p : (ByteArray × ByteArray) × Nat) : Bool := !decide (p.1.1 = t)
def TS.des (s : TS) (t : ByteArray) : TS := { s with vs := s.vs.filter (keptT t), gs := s.gs ++ [t] }
def Struck (V V' : DataW Unit) (t : ByteArray) (left : Lit → Bool) : Prop := Tidy V' ∧ ∀ t' u' : ByteArray, t'.size ≤ maxLen → u'.size ≤ maxLen → ((t' = t ∧ left (keyP t' u') = false) → Maps.has V' (keyP t' u') = false) ∧ (¬ (t' = t ∧ left (keyP t' u') = false) → Maps.has V' (keyP t' u') = Maps.has V (keyP t' u') ∧ ∀ z, V'.atKey (keyP t' u') z = V.atKey (keyP t' u') z)
theorem str_eqJ (s t : ByteArray) : s = t ↔ s.toList = t.toList := by
  constructor
  · intro e; rw [e]
  · intro e
    rw [Lib.toList_data, Lib.toList_data] at e
    cases s; cases t
    simp at e
    rw [e]
theorem struck_first {V : DataW Unit} {t : ByteArray} (hV : Tidy V) : Struck V V t (Maps.has V) := ⟨hV, fun t' u' _ _ => ⟨fun h => h.2, fun _ => ⟨rfl, fun _ => rfl⟩⟩⟩
theorem struck_skip {V V' : DataW Unit} {t t' u' : ByteArray} {left : Lit → Bool} (h : Struck V V' t left) (l1 : t'.size ≤ maxLen) (l2 : u'.size ≤ maxLen) (hne : ¬ t' = t) : Struck V V' t (fun z => left z && !z.sameKey (keyP t' u')) := by
  refine ⟨h.1, fun t9 u9 h1 h2 => ?_⟩
  have h9 := h.2 t9 u9 h1 h2
  by_cases e : (t9, u9) = (t', u')
  · obtain ⟨rfl, rfl⟩ := Prod.mk.inj e
    exact ⟨fun h => absurd h.1 hne, fun _ => h9.2 (fun h => hne h.1)⟩
  · have hl : (left (keyP t9 u9) && !(keyP t9 u9).sameKey (keyP t' u')) = left (keyP t9 u9) := by rw [sameKey_ne (fun e' => e (keyP_inj h1 h2 l1 l2 e')), Bool.not_false, Bool.and_true]
    exact ⟨fun h => h9.1 ⟨h.1, hl ▸ h.2⟩, fun h => h9.2 (fun h' => h ⟨h'.1, hl.trans h'.2⟩)⟩
theorem struck_del {V V' : DataW Unit} {t t' u' : ByteArray} {left : Lit → Bool} (h : Struck V V' t left) (l1 : t'.size ≤ maxLen) (l2 : u'.size ≤ maxLen) (he : t' = t) : Struck V (V'.del (keyP t' u')) t (fun z => (left z && !z.sameKey (keyP t' u')) && !z.sameKey (keyP t' u')) := by
  refine ⟨h.1.del _, fun t9 u9 h1 h2 => ?_⟩
  have h9 := h.2 t9 u9 h1 h2
  by_cases e : (t9, u9) = (t', u')
  · obtain ⟨rfl, rfl⟩ := Prod.mk.inj e
    exact ⟨fun _ => has_del_same, fun h => absurd ⟨he, by show (_ && _) = false; rw [WideAt.sameKey_self (keyP_lit _ _)]; simp⟩ h⟩
  · have hk : keyP t9 u9 ≠ keyP t' u' := fun e' => e (keyP_inj h1 h2 l1 l2 e')
    have hl : ((left (keyP t9 u9) && !(keyP t9 u9).sameKey (keyP t' u')) && !(keyP t9 u9).sameKey (keyP t' u')) = left (keyP t9 u9) := by rw [sameKey_ne hk, Bool.not_false, Bool.and_true, Bool.and_true]
    exact ⟨fun h => (has_del_other hk).trans (h9.1 ⟨h.1, hl ▸ h.2⟩), fun h => by
      have := h9.2 (fun h' => h ⟨h'.1, hl.trans h'.2⟩)
      exact ⟨(has_del_other hk).trans this.1, fun z => (atKey_del_other hk z).trans (this.2 z)⟩⟩
theorem OutJ.step {P : Nat → Prop} {a b c : World} {r : Option Nat} (h : OutJ P a b) (hg : b.grownBy c r) (hr : ∀ x, r = some x → P x ∨ a.heap.size ≤ x) : OutJ P a c :=
  ⟨hg.os.trans h.os, hg.tape.trans h.tape, hg.output.trans h.output, Nat.le_trans h.size hg.size, fun k hk hp => (hg.block k (Nat.lt_of_lt_of_le hk h.size) (fun e => by rcases hr k e.symm with h1 | h1; exact hp h1; omega)).trans (h.block k hk hp)⟩
theorem des_end {w2 wr : World} {B g : Nat} {root : List UInt8} {mv mg nv ng r : Nat} {V V' G : DataW Unit} {k cnt : Nat} {left : Lit → Bool} (h : TreeAt w2 B g root mv mg nv ng V G k) (hne : mv ≠ mg) (hr : wr.ranges Tryz.prog 71 (plainElem Tryz.prog 3) mv r nv V' left cnt) (hg : wr.heap[g]? = w2.heap[g]?) (hm : wr.heap[mg]? = w2.heap[mg]?) : TreeAt wr B g root mv mg nv ng V' G k := by
  refine ⟨hg.trans h.obj, hr.owns, ?_, h.len, h.bg, h.bv, h.bm⟩
  obtain ⟨es, clock, hb, rest⟩ := h.gm
  exact ⟨es, clock, hm.trans hb, rest⟩
set_option maxHeartbeats 4000000 in
theorem destroy_ok {w : World} {B g : Nat} {root : List UInt8} {mv mg nv ng : Nat} {VM GM : DataW Unit} {k : Nat} (h : TreeAt w B g root mv mg nv ng VM GM k) (t : ByteArray) (ht : t.size ≤ 100 ∧ nameB t.data.toList = true) (hb : Maps.has GM (.string t.data.toList) = false) (hsz : Maps.size GM < 16) (hng : ng ≤ 1000) (hne : mv ≠ mg) :
    Calls Tryz.prog 22 #[.pointer (some ⟨g, 0, none⟩), .string t] w fun e w' => e = .returned (.int .i64 0) ∧ ∃ V', TreeAt w' B g root mv mg nv (ng + 1) V' (GM.put (.string t.data.toList) (.agg [])) k ∧ Struck VM V' t (fun _ => false) ∧ OutJ (Mine g mv mg) w w' := by
  have HR := hid (reach1 h t ht false hb)
  have H := hid h
  have g2 : ((Maps.size GM : Int) == 16) = false := by simp; omega
  have hkl := Go.WideMaps.keyOf_string_mk Tryz.underlying9 (s := t) (by unfold maxLen; have := ht.1; omega)
  have Hk := hid hkl
  have Hne := hid hne
  have Hng := hid hng
  clear h hb hsz hkl hne hng
  go_enter Tryz.func22, Tryz.ntmps22
  go_wp2_with (first
    | (go_at_call 46; refine HR.out.mono ?_; rintro _ w1 ⟨rfl, b1⟩; have B1 := hid b1; have hT1 := H.out.below b1; have c33 := hT1.c33; have hlen := hT1.gm.len Tryz.underlying53 3; have HT1 := hid hT1; clear b1 hT1; unfold goneE; simp only [Bool.false_eq_true, if_false])
    | (at_mapUpdate; refine wpList_mapUpdate_own _ rfl _ _ _ 53 rfl 9 90 lawStr Tryz.underlying53 _ mg ng GM rfl HT1.out.gm (by unfold maxLen; have := Hng.out; omega) _ _ _ rfl rfl Hk.out _ [] unitElem_mk ?_; intro w2 hown2 hg2; have hT2 : TreeAt w2 B g root mv mg nv (ng + 1) VM (GM.put (.string t.data.toList) (.agg [])) k := ⟨(hg2.block g HT1.out.lt (fun e => HT1.out.mvne.2 (Option.some.inj e).symm)).trans HT1.out.obj, HT1.out.vm.kept hg2 (fun e => Hne.out (Option.some.inj e)), hown2, HT1.out.len, HT1.out.bg, HT1.out.bv, HT1.out.bm⟩; have O2 : Hid (OutJ (Mine g mv mg) w w2) := (OutJ.of_below B1.out).trans ⟨hg2.os, hg2.tape, hg2.output, hg2.size, fun j hj hp => hg2.block j hj (fun e => hp (.inr (.inr (Option.some.inj e))))⟩; have c32 := hT2.c32; have HT2 := hid hT2; clear hown2 hg2 hT2)
    | (at_range; refine wpList_range_own _ rfl _ 52 rfl 71 3 lawPlace Tryz.underlying52 _ mv nv _ rfl HT2.out.vm ?_; intro w3 hrg3 hg3 hs3)
    | go_in)
  go_frame
  have O3 : Hid (OutJ (Mine g mv mg) w w3) := O2.out.trans ⟨hg3.os, hg3.tape, hg3.output, hg3.size, fun j hj hp => hg3.block j hj (by simp)⟩
  go_loopw [6] (fun v wr => ∃ left cnt V', wr.ranges Tryz.prog 71 (plainElem Tryz.prog 3) mv w2.heap.size nv V' left cnt ∧ Struck VM V' t left ∧ OutJ (Mine g mv mg) w wr ∧ wr.heap[g]? = w2.heap[g]? ∧ wr.heap[mg]? = w2.heap[mg]?) (fun _ wr => wr.rangeLeft mv w2.heap.size)
  case atStart => exact ⟨_, _, VM, hrg3, struck_first (HT2.out.vm.tidy lawPlace), O3.out, hg3.block g HT2.out.lt (by simp), hg3.block mg HT2.out.mlt.2 (by simp)⟩
  case round =>
    obtain ⟨left, cnt, V', hrg, hst, ho, hbg, hbm⟩ := hrel
    have Hst := hid hst
    have Ho := hid ho
    have Hbg := hid hbg
    have Hbm := hid hbm
    have HL := hid hrg.left_eq
    have hwl := hrg.lt
    have Hwl := hid hwl
    clear hwl
    clear hst ho hbg hbm
    go_wp2_with (first
      | (at_next; refine wpList_next_ranges (α := ByteArray × ByteArray) (β := Int) _ rfl _ rfl 71 lawPlace (plainElem Tryz.prog 3) (fun x => .agg #[.string x.1, .string x.2]) (fun x => .int .i64 x) (fun key kl hk => by obtain ⟨a, b, rfl, _⟩ := place_inv hk; exact ⟨(a, b), rfl⟩) (fun v y hv => by obtain ⟨c, rfl, _⟩ := plainElem_int_inv Tryz.underlying3 hv; exact ⟨c, rfl⟩) mv w2.heap.size nv _ _ _ rfl hrg ?_ ?_)
      | go_in)
    · intro _ hl0
      have HE := hid (des_end HT2.out Hne.out hrg Hbg.out Hbm.out)
      have Hs : Hid (Struck VM V' t (fun _ => false)) := by
        show Struck _ _ _ _
        rw [← show left = (fun _ => false) from funext hl0]
        exact Hst.out
      go_wp2
      go_ret
      exact ⟨rfl, V', HE.out, Hs.out, Ho.out⟩
    · intro t' u' c kl y1 y2 w4 cnt' hk hl _ hat hrg4 hlt hg4 hs4 hen
      obtain ⟨t9, u9, e1, rfl, l1, l2⟩ := place_inv hk
      obtain ⟨rfl, rfl⟩ : t' = t9 ∧ u' = u9 := by simpa using e1
      clear e1
      have Hk9 := hid hk
      have Hrg4 := hid hrg4
      have Hlt := hid hlt
      have Hg4 := hid hg4
      have hs4' := hid hs4
      have Hne4 := hid hrg4.ne
      clear hk hl hat hrg4 hlt hg4
      by_cases et : t' = t
      · have q0 : (t'.toList == t.toList) = true := by rw [et]; simp
        have Het := hid et
        clear et
        go_wp2_with go_in
        obtain ⟨W5, hW5⟩ : ∃ W5, W5 = w4.alloc (.cells #[.string t', .string u'] 71) := ⟨_, rfl⟩
        rw [← hW5]
        have g45 : w4.grownBy W5 none := by rw [hW5]; exact World.grownBy_alloc w4 _ none
        have rg5 : W5.ranges Tryz.prog 71 (plainElem Tryz.prog 3) mv w2.heap.size nv V' (fun z => left z && !z.sameKey (keyP t' u')) cnt' := by rw [hW5]; exact Hrg4.out.alloc _
        have bg5 : W5.heap[g]? = w2.heap[g]? := by
          rw [g45.block g (by have := HT2.out.lt; have := hs4'.out; have := Hwl.out; omega) (by simp), Hg4.out.block g (by have := HT2.out.lt; have := Hwl.out; omega) (fun e => by have := HT2.out.lt; cases e; omega)]
          exact Hbg.out
        have bm5 : W5.heap[mg]? = w2.heap[mg]? := by
          rw [g45.block mg (by have := HT2.out.mlt.2; have := hs4'.out; have := Hwl.out; omega) (by simp), Hg4.out.block mg (by have := HT2.out.mlt.2; have := Hwl.out; omega) (fun e => by have := HT2.out.mlt.2; cases e; omega)]
          exact Hbm.out
        have o5 : OutJ (Mine g mv mg) w W5 := (Ho.out.step Hg4.out (fun x hx => by cases hx; exact .inr O2.out.size)).step g45 (fun x hx => by cases hx)
        have r5 : W5.rangeAt wr.heap.size 0 [.string t', .string u'] := fun j v hj => by
          rw [hW5, ← hs4'.out, Nat.zero_add, World.cell?_alloc_at _ _ _ _ rfl]
          simpa using hj
        have mvl := HT2.out.mlt.1
        have hwl := Hwl.out
        have mvg := HT2.out.mvne.1
        refine wp_act _ fun A hA => ?_
        have sz : A.tmps.size = 45 := by rw [hA]; rfl
        have e0 : A.eval (.tmp 0) = .pointer (some ⟨g, 0, none⟩) := by rw [hA]; rfl
        have e6 : A.eval (.tmp 6) = .pointer (some ⟨wr.heap.size, 0, none⟩) := by rw [hA]; rfl
        refine wp_split _ (des_region11 (V0 := W5.drew) sz e0 e6 Hk9.out rfl (rg5.kept (row := none) ⟨rfl, rfl, rfl, Nat.le_refl _, fun _ _ _ => rfl⟩ (by simp) (by simp)) mvg (by omega) ⟨(World.cell?_of_block bg5).trans HT2.out.c32, r5⟩) ?_
        rintro _ V1 ⟨rfl, cnt1, r1, r2, r3⟩
        have g5 : W5.grownBy V1 (some mv) := ⟨r3.grown.os, r3.grown.tape, r3.grown.output, r3.grown.size, fun k hk hp => r3.grown.block k hk hp⟩
        rw [hA]
        simp only [Act.put, List.setIfInBounds_toArray, List.set_cons_succ, List.set_cons_zero]
        clear hA sz e0 e6
        go_wp2_with go_in
        go_roundw
        case rel =>
          refine ⟨_, _, _, r1, ?_, o5.step g5 (fun x hx => by cases hx; exact .inl (.inr (.inl rfl))), ?_, ?_⟩
          · exact struck_del Hst.out l1 l2 Het.out
          · rw [g5.block g (by have := HT2.out.lt; have := g45.size; have := hs4'.out; omega) (fun e => mvg (Option.some.inj e).symm)]
            exact bg5
          · rw [g5.block mg (by have := HT2.out.mlt.2; have := g45.size; have := hs4'.out; omega) (fun e => Hne.out (Option.some.inj e).symm)]
            exact bm5
        case measure =>
          rw [r1.left_eq, HL.out]
          exact Nat.lt_of_le_of_lt r2 Hlt.out
      · have q0 : (t'.toList == t.toList) = false := by
          rw [beq_eq_false_iff_ne]
          exact fun e => et ((str_eqJ _ _).2 e)
        have Het := hid et
        clear et
        go_wp2_with go_in
        go_roundw
        case rel =>
          refine ⟨_, _, V', Hrg4.out.alloc _, struck_skip Hst.out l1 l2 Het.out, ?_, ?_, ?_⟩
          · exact (Ho.out.step Hg4.out (fun x hx => by cases hx; exact .inr O2.out.size)).step (World.grownBy_alloc w4 _ none) (fun x hx => by cases hx)
          · rw [(World.grownBy_alloc w4 _ none).block g (by have := HT2.out.lt; have := hs4'.out; have := Hwl.out; omega) (by simp), Hg4.out.block g (by have := HT2.out.lt; have := Hwl.out; omega) (fun e => by have := HT2.out.lt; cases e; omega)]
            exact Hbg.out
          · rw [(World.grownBy_alloc w4 _ none).block mg (by have := HT2.out.mlt.2; have := hs4'.out; have := Hwl.out; omega) (by simp), Hg4.out.block mg (by have := HT2.out.mlt.2; have := Hwl.out; omega) (fun e => by have := HT2.out.mlt.2; cases e; omega)]
            exact Hbm.out
        case measure =>
          rw [(Hrg4.out.alloc _).left_eq, HL.out]
          exact Hlt.out
end Go.Proofs.YtdglmoikgmlaaaaGreatDoor
/- Destroy, over a tree as mathematics. -/
namespace Go.Proofs.YtdglmoikgmlaaaaGreatDoor
open Go.RowKit Go.Maps
set_option linter.unusedVariables false
set_option maxRecDepth 20000
theorem own_keys {w : World} {mv n : Nat} {V : DataW Unit} (h : w.ownsMap Tryz.prog 71 (plainElem Tryz.prog 3) mv n V) : ∃ es, V = .map es ∧ es.Pairwise (fun p q => p.1 ≠ q.1) ∧ ∀ p ∈ es, ∃ t u : ByteArray, p.1 = keyP t u ∧ t.size ≤ maxLen ∧ u.size ≤ maxLen := by
  obtain ⟨es, clock, _, F, _, rfl⟩ := h
  refine ⟨_, rfl, ((Go.WideShapes.sorted_perm _).pairwise_iff (fun {_ _} hne => Ne.symm hne)).2 (Maps.fit_apart lawPlace F), fun p hp => ?_⟩
  obtain ⟨v, hv⟩ := Maps.fit_keys F p (mem_sorted.1 hp)
  obtain ⟨t, u, _, e, h1, h2⟩ := place_inv hv
  exact ⟨t, u, e, h1, h2⟩
theorem size_keys {es : List (Lit × DataW Unit)} (hp : es.Pairwise (fun p q => p.1 ≠ q.1)) (hk : ∀ p ∈ es, ∃ t u : ByteArray, p.1 = keyP t u ∧ t.size ≤ maxLen ∧ u.size ≤ maxLen) {vs : List ((ByteArray × ByteArray) × Nat)} (hn : (vs.map (·.1)).Nodup) (hs : ∀ p ∈ vs, p.1.1.size ≤ maxLen ∧ p.1.2.size ≤ maxLen)
    (hh : ∀ t u : ByteArray, t.size ≤ maxLen → u.size ≤ maxLen → Maps.has (.map es : DataW Unit) (keyP t u) = vs.any (isAt t u)) : es.length = vs.length := by
  have h1 : (es.map (·.1)).Nodup := by
    unfold List.Nodup
    rw [List.pairwise_map]
    exact hp
  have h2 : (vs.map fun p => keyP p.1.1 p.1.2).Nodup := by
    unfold List.Nodup at hn ⊢
    rw [List.pairwise_map] at hn ⊢
    refine List.Pairwise.imp_of_mem ?_ hn
    intro p q hp hq hne e
    exact hne (keyP_inj (hs p hp).1 (hs p hp).2 (hs q hq).1 (hs q hq).2 e)
  have h3 := (List.perm_ext_iff_of_nodup h1 h2).2 fun k => by
    constructor
    · intro hm
      obtain ⟨p, hp1, rfl⟩ := List.mem_map.1 hm
      obtain ⟨t, u, e, l1, l2⟩ := hk p hp1
      have h4 := hh t u l1 l2
      rw [has_eq, List.any_eq_true.2 ⟨p, hp1, by rw [e]; exact WideAt.sameKey_self (keyP_lit _ _)⟩] at h4
      obtain ⟨q, hq, hq2⟩ := List.any_eq_true.1 h4.symm
      have e2 : q.1 = (t, u) := of_decide_eq_true hq2
      exact List.mem_map.2 ⟨q, hq, by rw [e2, e]⟩
    · intro hm
      obtain ⟨q, hq, rfl⟩ := List.mem_map.1 hm
      have h4 := hh q.1.1 q.1.2 (hs q hq).1 (hs q hq).2
      rw [List.any_eq_true.2 ⟨q, hq, decide_eq_true rfl⟩, has_eq] at h4
      obtain ⟨p, hp1, hp2⟩ := List.any_eq_true.1 h4
      exact List.mem_map.2 ⟨p, hp1, WideAt.sameKey_eq hp2⟩
  have := h3.length_eq
  rw [List.length_map, List.length_map] at this
  exact this
theorem TS.Ok.sized {s : TS} (ok : s.Ok) : ∀ p ∈ s.vs, p.1.1.size ≤ maxLen ∧ p.1.2.size ≤ maxLen := fun p hp => ⟨okN_max (ok.names p hp).1, okN_max (ok.names p hp).2.1⟩
theorem any_kept (vs : List ((ByteArray × ByteArray) × Nat)) (t t' u' : ByteArray) : (vs.filter (keptT t)).any (isAt t' u') = if t' = t then false else vs.any (isAt t' u') := by
  split
  · rename_i e
    rw [List.any_eq_false]
    intro p hp h
    have h1 := (List.mem_filter.1 hp).2
    have h2 : p.1 = (t', u') := of_decide_eq_true h
    unfold keptT at h1
    simp [h2, e] at h1
  · rename_i e
    exact any_filter_keep (fun p hp => by
      have h2 : p.1 = (t', u') := of_decide_eq_true hp
      unfold keptT
      simp [h2, e]) _
theorem VRel.struck {w : World} {mv n : Nat} {V V' : DataW Unit} {s : TS} (h : VRel V s.vs) (ok : s.Ok) (t : ByteArray) (hs : Struck V V' t (fun _ => false)) (ho : w.ownsMap Tryz.prog 71 (plainElem Tryz.prog 3) mv n V') : VRel V' (s.vs.filter (keptT t)) := by
  have hh : ∀ t' u' : ByteArray, t'.size ≤ maxLen → u'.size ≤ maxLen → Maps.has V' (keyP t' u') = (s.vs.filter (keptT t)).any (isAt t' u') := fun t' u' l1 l2 => by
    rw [any_kept]
    by_cases e : t' = t
    · rw [if_pos e]; exact (hs.2 t' u' l1 l2).1 ⟨e, rfl⟩
    · rw [if_neg e, ((hs.2 t' u' l1 l2).2 (fun h => e h.1)).1]; exact h.has t' u' l1 l2
  refine ⟨hs.1, hh, fun p hp => ?_, ?_⟩
  · obtain ⟨hm, hk⟩ := List.mem_filter.1 hp
    have e : ¬ p.1.1 = t := by unfold keptT at hk; simpa using hk
    rw [((hs.2 p.1.1 p.1.2 (ok.sized p hm).1 (ok.sized p hm).2).2 (fun h => e h.1)).2]
    exact h.at' p hm
  · obtain ⟨es, rfl, hp, hk⟩ := own_keys ho
    exact size_keys hp hk (ok.nodup.sublist (List.filter_sublist.map _)) (fun p hp => ok.sized p (List.mem_filter.1 hp).1) hh
theorem GRel.put {G : DataW Unit} {gs : List ByteArray} (h : GRel G gs) (t : ByteArray) (hg : isIn gs t = false) : GRel (G.put (.string t.data.toList) (.agg [])) (gs ++ [t]) := by
  have hl : WideAt.IsKeyLit (Lit.string t.data.toList) := True.intro
  refine ⟨h.tidy.put hl _, fun t' => ?_, ?_⟩
  · by_cases e : t' = t
    · subst e
      rw [has_put_same h.tidy.isMap hl]
      unfold isIn
      simp
    · rw [has_put_other (fun e' => e (by injection e' with e'; cases t'; cases t; simp at e'; rw [e'])), h.has]
      unfold isIn
      rw [List.any_append]
      have : ¬ t = t' := fun h => e h.symm
      simp [this]
  · rw [size_put h.tidy, h.has, hg, h.size]
    simp
theorem TS.Ok.des {s : TS} (ok : s.Ok) (t : ByteArray) (ht : okN t = true) (hg : isIn s.gs t = false) (hf : s.gs.length < 16) : (s.des t).Ok := by
  have hg' : t ∉ s.gs := fun hm => by rw [isIn_iff.2 hm] at hg; cases hg
  refine ⟨fun p hp => ?_, ok.nodup.sublist (List.filter_sublist.map _), fun x hx => ?_, ?_, ?_, ?_⟩
  · obtain ⟨hm, hk⟩ := List.mem_filter.1 hp
    obtain ⟨a, b, c, d, e⟩ := ok.names p hm
    refine ⟨a, b, c, d, fun hx => ?_⟩
    rcases List.mem_append.1 hx with h1 | h1
    · exact e h1
    · unfold keptT at hk
      simp at hk h1
      exact hk h1
  · rcases List.mem_append.1 hx with h1 | h1
    · exact ok.gnames x h1
    · obtain rfl := List.mem_singleton.1 h1
      exact ht
  · show (s.gs ++ [t]).Nodup
    rw [List.nodup_append]
    exact ⟨ok.gnodup, by simp, fun x hx y hy e => by simp at hy; subst hy; subst e; exact hg' hx⟩
  · exact Nat.le_trans (List.length_filter_le _ _) ok.few
  · show (s.gs ++ [t]).length ≤ 16
    rw [List.length_append, List.length_singleton]
    omega
def TS.desR (s : TS) (t : ByteArray) : TS × Nat :=
  if okN t = true then (if isIn s.gs t = true then (s, 12) else if s.gs.length = 16 then (s, 7) else (s.des t, 0)) else (s, 8)
set_option maxHeartbeats 1000000 in
theorem destroy_bad {w : World} {g : Nat} (t : ByteArray) (ht : t.size ≤ maxLen) (hb : okN t = false) :
    Calls Tryz.prog 22 #[.pointer (some ⟨g, 0, none⟩), .string t] w fun e w' => e = .returned (.int .i64 8) ∧ Below w.heap.size w w' := by
  have HR := hid (reach_bad (g := g) t [t] (some ⟨w.heap.size, 0, none⟩) 1 1 rfl (texts1J w t) (by simp) (fun s hs => by simp at hs; subst hs; exact ht) (by simpa using hb))
  clear hb ht
  go_enter Tryz.func22, Tryz.ntmps22
  go_wp2_with (go_at_call 46; refine HR.out.mono ?_; rintro _ w1 ⟨rfl, e1⟩; subst w1)
  go_ret
  exact ⟨rfl, (Below.refl _ w).alloc (Nat.le_refl _) _⟩
set_option maxHeartbeats 1000000 in
theorem destroy_full {w : World} {B g : Nat} {root : List UInt8} {mv mg nv ng : Nat} {VM GM : DataW Unit} {k : Nat} (h : TreeAt w B g root mv mg nv ng VM GM k) (t : ByteArray) (ht : t.size ≤ 100 ∧ nameB t.data.toList = true) (hb : Maps.has GM (.string t.data.toList) = false) (hsz : Maps.size GM = 16) :
    Calls Tryz.prog 22 #[.pointer (some ⟨g, 0, none⟩), .string t] w fun e w' => e = .returned (.int .i64 7) ∧ Below w.heap.size w w' := by
  have HR := hid (reach1 h t ht false hb)
  have H := hid h
  have g2 : ((Maps.size GM : Int) == 16) = true := by simp; omega
  clear h hb hsz
  go_enter Tryz.func22, Tryz.ntmps22
  go_wp2_with (go_at_call 46; refine HR.out.mono ?_; rintro _ w1 ⟨rfl, b1⟩; have B1 := hid b1; have hT1 := H.out.below b1; have c33 := hT1.c33; have hlen := hT1.gm.len Tryz.underlying53 3; clear b1 hT1; unfold goneE; simp only [Bool.false_eq_true, if_false])
  go_ret
  exact ⟨rfl, B1.out⟩
theorem destroy_m {w : World} {B g mv mg : Nat} {root : List UInt8} {s : TS} {d : Nat} (h : TreeM w B g mv mg root s d) (hd : d ≤ 900) (t : ByteArray) (ht : t.size ≤ maxLen) :
    Calls Tryz.prog 22 #[.pointer (some ⟨g, 0, none⟩), .string t] w fun e w' => e = .returned (.int .i64 ((s.desR t).2 : Int)) ∧ TreeM w' B g mv mg root (s.desR t).1 (d + 1) ∧ OutJ (Mine g mv mg) w w' := by
  obtain ⟨ok, hne, nv, ng, V, G, h1, hV, hG, l1, l2⟩ := h
  have up : ∀ w', Below w.heap.size w w' → TreeM w' B g mv mg root s (d + 1) := fun w' hb => ⟨ok, hne, nv, ng, V, G, h1.below hb, hV, hG, by omega, by omega⟩
  unfold TS.desR
  by_cases hn : okN t = true
  · rw [if_pos hn]
    have hn' : t.size ≤ 100 ∧ nameB t.data.toList = true := ⟨by have := okN_len hn; omega, hn⟩
    by_cases hg : isIn s.gs t = true
    · rw [if_pos hg]
      exact (destroy_gone h1 t hn' (by rw [hG.has, hg])).mono fun e w' h9 => ⟨h9.1, up w' h9.2, OutJ.of_below h9.2⟩
    · rw [if_neg hg]
      have hg' : isIn s.gs t = false := by simpa using hg
      by_cases hf : s.gs.length = 16
      · rw [if_pos hf]
        exact (destroy_full h1 t hn' (by rw [hG.has, hg']) (by rw [hG.size, hf])).mono fun e w' h9 => ⟨h9.1, up w' h9.2, OutJ.of_below h9.2⟩
      · rw [if_neg hf]
        have hlt : s.gs.length < 16 := by have := ok.gfew; omega
        refine (destroy_ok h1 t hn' (by rw [hG.has, hg']) (by rw [hG.size]; exact hlt) (by omega) hne).mono fun e w' h9 => ?_
        obtain ⟨rfl, V', h10, h11, h12⟩ := h9
        exact ⟨rfl, ⟨ok.des t hn hg' hlt, hne, _, _, _, _, h10, hV.struck ok t h11 h10.vm, hG.put t hg', by omega, by omega⟩, h12⟩
  · rw [if_neg hn]
    exact (destroy_bad t ht (by simpa using hn)).mono fun e w' h9 => ⟨h9.1, up w' h9.2, OutJ.of_below h9.2⟩
end Go.Proofs.YtdglmoikgmlaaaaGreatDoor
/- Key and Seal of any names, over a tree as mathematics. -/
namespace Go.Proofs.YtdglmoikgmlaaaaGreatDoor
open Go.RowKit Go.Maps
set_option linter.unusedVariables false
set_option maxRecDepth 20000
theorem esc_le : ∀ l : List UInt8, (esc l).length ≤ 2 * l.length
  | [] => by simp [esc]
  | c :: r => by
    have := esc_le r
    unfold esc
    split <;> simp <;> omega
theorem txt_le : ∀ v : Fin 17, (numT v.val).length ≤ 3 := by decide +kernel
theorem keyErr_ok {t u : ByteArray} (ht : okN t = true) (hu : okN u = true) {v : Nat} (hv : v ≤ 16) : keyErr [t, u, txtJ v] = 0 := by
  unfold keyErr
  rw [if_neg (by simp), if_neg]
  have h1 := okN_len ht
  have h2 := okN_len hu
  have h3 := txt_le ⟨v, by omega⟩
  have e1 := esc_le t.data.toList
  have e2 := esc_le u.data.toList
  have e3 := esc_le (txtJ v).data.toList
  have l1 : t.data.toList.length = t.size := by simp
  have l2 : u.data.toList.length = u.size := by simp
  have l3 : (txtJ v).data.toList.length = (numT v).length := by simp [txtJ]
  have h3' : (numT v).length ≤ 3 := h3
  have hb : bs [t, u, txtJ v] = [t.data.toList, u.data.toList, (txtJ v).data.toList] := rfl
  rw [hb]
  simp only [keyOf, List.length_append, List.length_cons, List.length_nil]
  omega
theorem cur_ok {s : TS} {t u : ByteArray} (h : (s.cur t u).2 = 0) : okN t = true ∧ okN u = true ∧ isIn s.gs t = false ∧ (s.cur t u).1 = verOf s.vs t u := by
  unfold TS.cur at h ⊢
  by_cases hn : (okN t && okN u) = true
  · rw [if_pos hn] at h ⊢
    obtain ⟨n1, n2⟩ := (Bool.and_eq_true _ _).mp hn
    by_cases hg : isIn s.gs t = true
    · rw [if_pos hg] at h; cases h
    · rw [if_neg hg]
      exact ⟨n1, n2, by simpa using hg, rfl⟩
  · rw [if_neg hn] at h; cases h
def TS.keyR (s : TS) (root : List UInt8) (t u : ByteArray) (v : Int) : List UInt8 × Nat :=
  if (s.cur t u).2 ≠ 0 then (List.replicate 32 0, (s.cur t u).2)
  else if v < 1 ∨ ((s.cur t u).1 : Int) < v then (List.replicate 32 0, 2)
  else (derRes root [t, u, txtJ v.toNat], 0)
set_option maxHeartbeats 2000000 in
theorem key_none {w : World} {g : Nat} (t u : ByteArray) (v z c : Int) (r : Int) (hr : (c ≠ 0 ∧ r = c) ∨ (c = 0 ∧ r = 2 ∧ (v < 1 ∨ z < v))) (H : ∀ W, Below w.heap.size w W → Calls Tryz.prog 29 #[.pointer (some ⟨g, 0, none⟩), .string t, .string u] W fun e w' => e = .returned (.tuple #[.int .i64 z, .int .i64 c]) ∧ Below W.heap.size W w') :
    Calls Tryz.prog 27 #[.pointer (some ⟨g, 0, none⟩), .string t, .string u, .int .i64 v] w (HashErr w (List.replicate 32 0) r) := by
  obtain ⟨Z, hZ⟩ : ∃ Z, Z = bvs (List.replicate 32 0) := ⟨_, rfl⟩
  have zh := (zero_of_info zero_hash).1
  have bh : Tryz.prog.built 23 [] = some (bvs (List.replicate 32 0)) := by kernel_rfl
  rw [← hZ] at zh bh
  have hz : Hid (HV Z (List.replicate 32 0)) := by
    show HV _ _
    rw [hZ]; exact hv_zero
  have Zh := hid zh
  have Bh := hid bh
  obtain ⟨W, hW⟩ : ∃ W, W = w.alloc (.cells Z 23) := ⟨_, rfl⟩
  have b0 : Below w.heap.size w W := by rw [hW]; exact (Below.refl _ w).alloc (Nat.le_refl _) _
  have x0 : W.heap[w.heap.size]? = some (.cells Z 23 (0, 0)) := by rw [hW]; exact heap_alloc_new w _
  have HC := hid (H W b0)
  have B0 := hid b0
  have X0 := hid x0
  have HW := hid hW
  clear hZ hW b0 x0 bh zh H
  rcases hr with ⟨hc, rfl⟩ | ⟨rfl, rfl, hv⟩
  · have q0 : (r != 0) = true := by simpa using hc
    go_enter Tryz.func27, Tryz.ntmps27
    go_wp2_with (first
      | (go_at_call 29; refine HC.out.mono ?_; rintro _ w1 ⟨rfl, b1⟩; have B1 := hid b1; have X1 := hid ((b1.block _ (heap_lt X0.out)).trans X0.out); clear b1)
      | (with_reducible show Go.wpList _ _ _ _ _ _; first
        | (refine wpList_alloc_row rfl 23 rfl Z Zh.out ?_; rw [← HW.out])
        | refine wpList_build_none rfl 23 rfl Z Bh.out ?_
        | refine wpList_store_row rfl 23 (.tmp 8) (.tmp 21) rfl w.heap.size Z rfl rfl 23 Z X1.out hz.out.info rfl hz.out.one ?_))
    refine bodyPost_ret (results_row_tmp rfl _ _ w.heap.size 23 Z (0, 0) _ rfl (setRow_heap _ _ _ _ _ _ X1.out) Tryz.underlying23 rfl hz.out.info) rfl ?_
    exact ⟨Z, rfl, hz.out, (Below.on' B0.out B1.out).setRow (Nat.le_refl _) _⟩
  · by_cases h1 : v < 1
    · have g1 : decide (v < 1) = true := by simpa using h1
      clear hv
      go_enter Tryz.func27, Tryz.ntmps27
      go_wp2_with (first
        | (go_at_call 29; refine HC.out.mono ?_; rintro _ w1 ⟨rfl, b1⟩; have B1 := hid b1; have X1 := hid ((b1.block _ (heap_lt X0.out)).trans X0.out); clear b1)
        | (with_reducible show Go.wpList _ _ _ _ _ _; first
          | (refine wpList_alloc_row rfl 23 rfl Z Zh.out ?_; rw [← HW.out])
          | refine wpList_build_none rfl 23 rfl Z Bh.out ?_
          | refine wpList_store_row rfl 23 (.tmp 8) (.tmp 30) rfl w.heap.size Z rfl rfl 23 Z X1.out hz.out.info rfl hz.out.one ?_))
      refine bodyPost_ret (results_row_tmp rfl _ _ w.heap.size 23 Z (0, 0) _ rfl (setRow_heap _ _ _ _ _ _ X1.out) Tryz.underlying23 rfl hz.out.info) rfl ?_
      exact ⟨Z, rfl, hz.out, (Below.on' B0.out B1.out).setRow (Nat.le_refl _) _⟩
    · have g1 : decide (v < 1) = false := by simpa using h1
      have g2 : decide (z < v) = true := by
        rcases hv with h | h
        · exact absurd h h1
        · simpa using h
      clear hv h1
      go_enter Tryz.func27, Tryz.ntmps27
      go_wp2_with (first
        | (go_at_call 29; refine HC.out.mono ?_; rintro _ w1 ⟨rfl, b1⟩; have B1 := hid b1; have X1 := hid ((b1.block _ (heap_lt X0.out)).trans X0.out); clear b1)
        | (with_reducible show Go.wpList _ _ _ _ _ _; first
          | (refine wpList_alloc_row rfl 23 rfl Z Zh.out ?_; rw [← HW.out])
          | refine wpList_build_none rfl 23 rfl Z Bh.out ?_
          | refine wpList_store_row rfl 23 (.tmp 8) (.tmp 30) rfl w.heap.size Z rfl rfl 23 Z X1.out hz.out.info rfl hz.out.one ?_))
      refine bodyPost_ret (results_row_tmp rfl _ _ w.heap.size 23 Z (0, 0) _ rfl (setRow_heap _ _ _ _ _ _ X1.out) Tryz.underlying23 rfl hz.out.info) rfl ?_
      exact ⟨Z, rfl, hz.out, (Below.on' B0.out B1.out).setRow (Nat.le_refl _) _⟩
theorem key_m {w : World} {B g mv mg : Nat} {root : List UInt8} {s : TS} {d : Nat} (h : TreeM w B g mv mg root s d) (t u : ByteArray) (ht : t.size ≤ maxLen) (hu : u.size ≤ maxLen) (v : Int) (hT : TabAt w) (hKA : KAt w) :
    Calls Tryz.prog 27 #[.pointer (some ⟨g, 0, none⟩), .string t, .string u, .int .i64 v] w (HashErr w (s.keyR root t u v).1 ((s.keyR root t u v).2 : Int)) := by
  have HC : ∀ W, Below w.heap.size w W → _ := fun W hW => current_m (h.below hW) t u ht hu
  unfold TS.keyR
  by_cases he : (s.cur t u).2 ≠ 0
  · rw [if_pos he]
    exact key_none t u v _ _ _ (.inl ⟨by omega, rfl⟩) HC
  · rw [if_neg he]
    have he0 : (s.cur t u).2 = 0 := by omega
    obtain ⟨n1, n2, hg, hc⟩ := cur_ok he0
    by_cases hv : v < 1 ∨ ((s.cur t u).1 : Int) < v
    · rw [if_pos hv]
      exact key_none t u v _ _ _ (.inr ⟨by omega, rfl, hv⟩) HC
    · rw [if_neg hv]
      obtain ⟨ok, hne, nv, ng, V, G, h1, hV, hG, l1, l2⟩ := h
      obtain ⟨v1, v2⟩ := verOf_ok ok t u
      obtain ⟨n, rfl⟩ : ∃ n : Nat, v = (n : Int) := ⟨v.toNat, by omega⟩
      have hk := key_ok h1 t u ⟨by have := okN_len n1; omega, n1⟩ ⟨by have := okN_len n2; omega, n2⟩ (keyP t u) (keyOf_place t u ht hu) _ (hV.ver t u ht hu) (by rw [hG.has, hg]) n (by omega) (by omega) (by omega) hT hKA
      rw [keyErr_ok n1 n2 (by omega)] at hk
      exact hk
end Go.Proofs.YtdglmoikgmlaaaaGreatDoor
/- Seal of any names, over a tree as mathematics. -/
namespace Go.Proofs.YtdglmoikgmlaaaaGreatDoor
open Go.RowKit Go.Maps
set_option linter.unusedVariables false
set_option maxRecDepth 20000
def TS.sealR (s : TS) (root : List UInt8) (t u : ByteArray) (plain : List UInt8) : TS × (List UInt8 × Nat) :=
  if (s.cur t u).2 ≠ 0 then (s, ([], (s.cur t u).2))
  else if 1024 < plain.length then (s, ([], 6))
  else if s.n = 1099511627776 then (s, ([], 7))
  else ({ s with n := s.n + 1 }, (UInt8.ofNat (s.cur t u).1 :: sealB (derRes root [t, u, txtJ (s.cur t u).1]) s.n plain, 0))
theorem nilJ (w : World) (B : Nat) : w.ownsRow B 5 1 (.slice none 0 0) 0 (cellsOf []) := World.ownsRow_nil _ _ _ _
set_option maxHeartbeats 1000000 in
theorem seal_err {w : World} {g : Nat} (t u : ByteArray) (v : Value) (z c : Int) (hc : c ≠ 0) (H : Calls Tryz.prog 29 #[.pointer (some ⟨g, 0, none⟩), .string t, .string u] w fun e w' => e = .returned (.tuple #[.int .i64 z, .int .i64 c]) ∧ Below w.heap.size w w') :
    Calls Tryz.prog 15 #[.pointer (some ⟨g, 0, none⟩), .string t, .string u, v] w fun e w' => e = .returned (.tuple #[.slice none 0 0, .int .i64 c]) ∧ Below w.heap.size w w' := by
  have q0 : (c != 0) = true := by simpa using hc
  go_enter Tryz.func15, Tryz.ntmps15
  go_wp2_with (go_at_call 29; refine H.mono ?_; rintro _ w1 ⟨rfl, b1⟩)
  go_ret2
  exact ⟨rfl, b1⟩
set_option maxHeartbeats 1000000 in
theorem open_err {w : World} {g : Nat} (t u : ByteArray) (v : Value) (z c : Int) (hc : c ≠ 0) (H : Calls Tryz.prog 29 #[.pointer (some ⟨g, 0, none⟩), .string t, .string u] w fun e w' => e = .returned (.tuple #[.int .i64 z, .int .i64 c]) ∧ Below w.heap.size w w') :
    Calls Tryz.prog 17 #[.pointer (some ⟨g, 0, none⟩), .string t, .string u, v] w fun e w' => e = .returned (.tuple #[.slice none 0 0, .int .i64 0, .int .i64 c]) ∧ Below w.heap.size w w' := by
  have q0 : (c != 0) = true := by simpa using hc
  go_enter Tryz.func17, Tryz.ntmps17
  go_wp2_with (go_at_call 29; refine H.mono ?_; rintro _ w1 ⟨rfl, b1⟩)
  go_ret3
  exact ⟨rfl, b1⟩
set_option maxHeartbeats 1000000 in
theorem open_empty {w : World} {g : Nat} (t u : ByteArray) (a : Option Addr) (cap : Nat) (z : Int) (H : Calls Tryz.prog 29 #[.pointer (some ⟨g, 0, none⟩), .string t, .string u] w fun e w' => e = .returned (.tuple #[.int .i64 z, .int .i64 0]) ∧ Below w.heap.size w w') :
    Calls Tryz.prog 17 #[.pointer (some ⟨g, 0, none⟩), .string t, .string u, .slice a 0 cap] w fun e w' => e = .returned (.tuple #[.slice none 0 0, .int .i64 0, .int .i64 3]) ∧ Below w.heap.size w w' := by
  go_enter Tryz.func17, Tryz.ntmps17
  go_wp2_with (go_at_call 29; refine H.mono ?_; rintro _ w1 ⟨rfl, b1⟩)
  go_ret3
  exact ⟨rfl, b1⟩
theorem seal_m {w : World} {B g mv mg : Nat} {root : List UInt8} {s : TS} {d : Nat} (h : TreeM w B g mv mg root s d) (hsn : s.n ≤ 1099511627776) (t u : ByteArray) (ht : t.size ≤ maxLen) (hu : u.size ≤ maxLen) (plain : List UInt8) (a : Option Addr) (n cap : Nat) (hn : n = plain.length) (hB : Bytes w a plain) (hT : TabAt w) (hKA : KAt w) :
    Calls Tryz.prog 15 #[.pointer (some ⟨g, 0, none⟩), .string t, .string u, .slice a n cap] w fun e w' => ∃ v, e = .returned (.tuple #[v, .int .i64 ((s.sealR root t u plain).2.2 : Int)]) ∧ w'.ownsRow w.heap.size 5 1 v (s.sealR root t u plain).2.1.length (cellsOf (s.sealR root t u plain).2.1) ∧ TreeM w' B g mv mg root (s.sealR root t u plain).1 d ∧ OutJ (Mine g mv mg) w w' := by
  have HC := current_m h t u ht hu
  have up : ∀ w', Below w.heap.size w w' → TreeM w' B g mv mg root s d := fun w' hb => h.below hb
  unfold TS.sealR
  by_cases he : (s.cur t u).2 ≠ 0
  · rw [if_pos he]
    refine (seal_err t u _ _ _ (by omega) HC).mono fun e w' h9 => ?_
    exact ⟨_, h9.1, nilJ _ _, up w' h9.2, OutJ.of_below h9.2⟩
  · rw [if_neg he]
    have he0 : (s.cur t u).2 = 0 := by omega
    obtain ⟨n1, n2, hg, hc⟩ := cur_ok he0
    obtain ⟨ok, hne, nv, ng, V, G, h1, hV, hG, l1, l2⟩ := h
    obtain ⟨v1, v2⟩ := verOf_ok ok t u
    have hke := keyErr_ok n1 n2 v2
    by_cases hl : 1024 < plain.length
    · rw [if_pos hl]
      refine (seal_toolong h1 t u ⟨by have := okN_len n1; omega, n1⟩ ⟨by have := okN_len n2; omega, n2⟩ (keyP t u) (keyOf_place t u ht hu) _ (hV.ver t u ht hu) v1 (by omega) (by rw [hG.has, hg]) hke hsn a n cap (by omega) hT hKA).mono fun e w' h9 => ?_
      exact ⟨_, h9.1, nilJ _ _, up w' h9.2, OutJ.of_below h9.2⟩
    · rw [if_neg hl]
      by_cases hf : s.n = 1099511627776
      · rw [if_pos hf]
        refine (seal_full h1 t u ⟨by have := okN_len n1; omega, n1⟩ ⟨by have := okN_len n2; omega, n2⟩ (keyP t u) (keyOf_place t u ht hu) _ (hV.ver t u ht hu) v1 (by omega) (by rw [hG.has, hg]) hke hf plain a n cap hn hB (by omega) hT hKA).mono fun e w' h9 => ?_
        exact ⟨_, h9.1, nilJ _ _, up w' h9.2, OutJ.of_below h9.2⟩
      rw [if_neg hf, hc]
      refine (seal_ok h1 t u ⟨by have := okN_len n1; omega, n1⟩ ⟨by have := okN_len n2; omega, n2⟩ (keyP t u) (keyOf_place t u ht hu) _ (hV.ver t u ht hu) v1 (by omega) (by rw [hG.has, hg]) hke (by omega) plain a n cap hn hB (by omega) hT hKA).mono fun e w' h9 => ?_
      obtain ⟨v, rfl, h10, h11, h12⟩ := h9
      exact ⟨v, rfl, h10, ⟨⟨ok.names, ok.nodup, ok.gnames, ok.gnodup, ok.few, ok.gfew⟩, hne, nv, ng, V, G, h11, hV, hG, l1, l2⟩, h12.mono fun k hk => .inl hk⟩
end Go.Proofs.YtdglmoikgmlaaaaGreatDoor
