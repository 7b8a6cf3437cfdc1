/- YthfmpebgmojcaaaDoorZRw4 + YthfmpebgmojcaaaDoorZRw9 -/
import Derived.Test.YthfmpebgmojcaaaDoorTkH
import Derived.Test.YthfmpebgmojcaaaDoorZText
/- The reference's Rows: the region that makes the four first rows, whatever order is picked. (Printed by gen/zrows.py.) -/
namespace Go.Proofs.YthfmpebgmojcaaaDoor
open Go.RowKit
set_option linter.unusedVariables false
set_option maxRecDepth 20000
theorem hf_num14 : ∀ (args : Array Value) (w : World), (callFunc 36 args).run Tryd.prog w = .ok (.enter 36 args) w := fun args w => by simp [go_sem]
theorem hf_text14 : ∀ (args : Array Value) (w : World), (callFunc 82 args).run Tryd.prog w = .ok (.enter 82 args) w := fun args w => by simp [go_sem]
theorem wp_build1S {o : Oper} {a : Act} {w : World} {K : Act → World → Prop} {Q : Exit → Act → World → Prop} (x : Operand) (ho : o.op = .buildSlice 73 1 #[(0, x)]) (p : ByteArray) (h0 : a.eval x = .string p)
    (h : K (a.put o.dst (.slice (some ⟨w.heap.size, 0, none⟩) 1 1)) (w.alloc (.cells #[.string p] 9))) : o.wp Tryd.prog a w K Q := by
  unfold Oper.wp execOp
  simp only [ho, List.map_toArray, List.map_cons, List.map_nil, h0]
  simp [go_sem]
  exact h
def TXs (w : World) (g : Nat) (l : List ByteArray) : Prop := w.heap[g]? = some (.cells (strsOf l).toArray 9 (0, 0))
theorem TXs.below {w w' : World} {g : Nat} {l : List ByteArray} (h : TXs w g l) (hb : Below w.heap.size w w') : TXs w' g l := (hb.block g (heap_lt h)).trans h
theorem TXs.own {w : World} {g : Nat} {l : List ByteArray} (h : TXs w g l) (hl : l.length ≤ 1000) : w.ownsRow 0 9 1 (.slice (some ⟨g, 0, none⟩) l.length l.length) l.length (strsOf l) :=
  ⟨by rw [strsOf_length]; omega, .inr ⟨g, l.length, _, rfl, Nat.zero_le _, h, Nat.le_refl _, by unfold maxLen; omega, by simp [strsOf], by rw [Nat.mul_one]; exact List.take_of_length_le (by simp [strsOf])⟩⟩
def fB (d : Nat) (l : List ByteArray) (a : Act) (w : World) : Prop := ∃ g, a.eval (.tmp d) = .slice (some ⟨g, 0, none⟩) l.length l.length ∧ TXs w g l
def fR (d : Nat) (k : ByteArray) (l : List ByteArray) (a : Act) (w : World) : Prop := ∃ g, a.eval (.tmp d) = .agg #[.string k, .slice (some ⟨g, 0, none⟩) l.length l.length] ∧ TXs w g l
def fO (base : Nat) (c : Ch) (d : Nat) (a : Act) (w : World) : Prop := ∃ v L, a.eval (.tmp d) = v ∧ RowsAt w base v L ∧ L.map Rw.text = headRows c
section
variable {a : Act} {w w' : World} {d d' : Nat} {u : Value}
theorem fS_keep {v : Value} (hb : Below w.heap.size w w') (hd : d' ≠ d) (h : a.eval (.tmp d) = v) : (a.put (some d') u).eval (.tmp d) = v := (ev_ne _ _ hd).trans h
theorem fB_keep {l : List ByteArray} (hb : Below w.heap.size w w') (hd : d' ≠ d) (h : fB d l a w) : fB d l (a.put (some d') u) w' := by
  obtain ⟨g, h1, h2⟩ := h
  exact ⟨g, (ev_ne _ _ hd).trans h1, h2.below hb⟩
theorem fR_keep {k : ByteArray} {l : List ByteArray} (hb : Below w.heap.size w w') (hd : d' ≠ d) (h : fR d k l a w) : fR d k l (a.put (some d') u) w' := by
  obtain ⟨g, h1, h2⟩ := h
  exact ⟨g, (ev_ne _ _ hd).trans h1, h2.below hb⟩
theorem fO_keep {base : Nat} {c : Ch} (hb : Below w.heap.size w w') (hd : d' ≠ d) (h : fO base c d a w) : fO base c d (a.put (some d') u) w' := by
  obtain ⟨v, L, h1, h2, h3⟩ := h
  exact ⟨v, L, (ev_ne _ _ hd).trans h1, h2.on hb, h3⟩
end
theorem head_rows {w : World} {base : Nat} {c : Ch} {g1 g2 g3 g4 : Nat} (hb : base ≤ w.heap.size) (k1 : TXs w g1 ([c.bn, c.an, c.la].map txt)) (k2 : TXs w g2 [mkB c.ah]) (k3 : TXs w g3 [mkB c.bh]) (k4 : TXs w g4 [mkB c.hd]) :
    RowsAt (w.alloc (.cells #[.string ⟨#[35]⟩, .slice (some ⟨g1, 0, none⟩) 3 3, .string ⟨#[97]⟩, .slice (some ⟨g2, 0, none⟩) 1 1, .string ⟨#[98]⟩, .slice (some ⟨g3, 0, none⟩) 1 1, .string ⟨#[104]⟩, .slice (some ⟨g4, 0, none⟩) 1 1] 75)) base (.slice (some ⟨w.heap.size, 0, none⟩) 4 4)
      [⟨⟨#[35]⟩, some ⟨g1, 0, none⟩, [c.bn, c.an, c.la].map txt, 3⟩, ⟨⟨#[97]⟩, some ⟨g2, 0, none⟩, [mkB c.ah], 1⟩, ⟨⟨#[98]⟩, some ⟨g3, 0, none⟩, [mkB c.bh], 1⟩, ⟨⟨#[104]⟩, some ⟨g4, 0, none⟩, [mkB c.hd], 1⟩] ∧
    ([⟨⟨#[35]⟩, some ⟨g1, 0, none⟩, [c.bn, c.an, c.la].map txt, 3⟩, ⟨⟨#[97]⟩, some ⟨g2, 0, none⟩, [mkB c.ah], 1⟩, ⟨⟨#[98]⟩, some ⟨g3, 0, none⟩, [mkB c.bh], 1⟩, ⟨⟨#[104]⟩, some ⟨g4, 0, none⟩, [mkB c.hd], 1⟩] : List Rw).map Rw.text = headRows c := by
  have b6 := (Below.refl _ w).alloc (Nat.le_refl _) (.cells #[.string ⟨#[35]⟩, .slice (some ⟨g1, 0, none⟩) 3 3, .string ⟨#[97]⟩, .slice (some ⟨g2, 0, none⟩) 1 1, .string ⟨#[98]⟩, .slice (some ⟨g3, 0, none⟩) 1 1, .string ⟨#[104]⟩, .slice (some ⟨g4, 0, none⟩) 1 1] 75)
  refine ⟨⟨⟨rfl, .inr ⟨w.heap.size, 4, _, rfl, hb, heap_alloc_new w _, Nat.le_refl _, by decide, rfl, rfl⟩⟩, fun x hx => own_onW (w := w) ?_ b6⟩, rfl⟩
  simp only [List.mem_cons, List.not_mem_nil, or_false] at hx
  rcases hx with rfl | rfl | rfl | rfl
  · exact k1.own (by simp)
  · exact k2.own (by simp)
  · exact k3.own (by simp)
  · exact k4.own (by simp)
def FZ (base : Nat) (c : Ch) : Nat → Act → World → Prop
  | 4, a, w => a.eval (.tmp 18) = .string (txt c.bn)
  | 10, a, w => a.eval (.tmp 24) = .string (txt c.la)
  | 11, a, w => fB 25 ([c.bn, c.an, c.la].map txt) a w
  | 12, a, w => fR 26 ⟨#[35]⟩ ([c.bn, c.an, c.la].map txt) a w
  | 17, a, w => a.eval (.tmp 31) = .string (mkB c.ah)
  | 18, a, w => fB 32 [mkB c.ah] a w
  | 19, a, w => fR 33 ⟨#[97]⟩ [mkB c.ah] a w
  | 24, a, w => a.eval (.tmp 38) = .string (mkB c.bh)
  | 25, a, w => fB 39 [mkB c.bh] a w
  | 26, a, w => fR 40 ⟨#[98]⟩ [mkB c.bh] a w
  | 31, a, w => a.eval (.tmp 45) = .string (mkB c.hd)
  | 32, a, w => fB 46 [mkB c.hd] a w
  | 33, a, w => fR 47 ⟨#[104]⟩ [mkB c.hd] a w
  | 34, a, w => fO base c 48 a w
  | 35, a, w => fO base c 4 a w
  | _, _, _ => True
def dstZ : Nat → Nat
  | 4 => 18
  | 10 => 24
  | 11 => 25
  | 12 => 26
  | 17 => 31
  | 18 => 32
  | 19 => 33
  | 24 => 38
  | 25 => 39
  | 26 => 40
  | 31 => 45
  | 32 => 46
  | 33 => 47
  | 34 => 48
  | 35 => 4
  | _ => 0
theorem FZ_keep {base : Nat} {c : Ch} {a : Act} {w w' : World} {d : Nat} {u : Value} (hb : Below w.heap.size w w') : ∀ j ∈ [4, 10, 11, 12, 17, 18, 19, 24, 25, 26, 31, 32, 33, 34, 35], d ≠ dstZ j → FZ base c j a w → FZ base c j (a.put (some d) u) w' := by
  intro j hj hd h
  simp only [List.mem_cons, List.not_mem_nil, or_false] at hj
  rcases hj with rfl | rfl | rfl | rfl | rfl | rfl | rfl | rfl | rfl | rfl | rfl | rfl | rfl | rfl | rfl
  · exact fS_keep hb hd h
  · exact fS_keep hb hd h
  · exact fB_keep hb hd h
  · exact fR_keep hb hd h
  · exact fS_keep hb hd h
  · exact fB_keep hb hd h
  · exact fR_keep hb hd h
  · exact fS_keep hb hd h
  · exact fB_keep hb hd h
  · exact fR_keep hb hd h
  · exact fS_keep hb hd h
  · exact fB_keep hb hd h
  · exact fR_keep hb hd h
  · exact fO_keep hb hd h
  · exact fO_keep hb hd h
structure InvZ (A : Act) (V0 : World) (B g : Nat) (v : Value) (c : Ch) (l : Array Bool) (a : Act) (w : World) : Prop where
  size : l.size = 36
  kp : Keep A a [18, 24, 25, 26, 31, 32, 33, 38, 39, 40, 45, 46, 47, 48, 4]
  ref : RAt w B g v c
  bel : Below V0.heap.size V0 w
  unl : ∀ i, l.getD i true = false → i ∈ [4, 10, 11, 12, 17, 18, 19, 24, 25, 26, 31, 32, 33, 34, 35]
  fz : ∀ j ∈ [4, 10, 11, 12, 17, 18, 19, 24, 25, 26, 31, 32, 33, 34, 35], l.getD j false = true → FZ V0.heap.size c j a w
theorem InvZ.step {A : Act} {V0 : World} {B g : Nat} {v : Value} {c : Ch} {l : Array Bool} {a : Act} {w w' : World} (h : InvZ A V0 B g v c l a w) (i : Nat) (hi : i ∈ [4, 10, 11, 12, 17, 18, 19, 24, 25, 26, 31, 32, 33, 34, 35]) (hl : l.getD i true = false) (hd : dstZ i ∈ [18, 24, 25, 26, 31, 32, 33, 38, 39, 40, 45, 46, 47, 48, 4]) (u : Value) (hb : Below w.heap.size w w') (hf : FZ V0.heap.size c i (a.put (some (dstZ i)) u) w') :
    InvZ A V0 B g v c (l.setIfInBounds i true) (a.put (some (dstZ i)) u) w' := by
  refine ⟨by simp [h.size], h.kp.put _ _ hd, h.ref.below hb, Below.on' h.bel hb, fun j hj => ?_, fun j hj hv => ?_⟩
  · by_cases e : i = j
    · exact e ▸ hi
    · rw [getD_set_ne _ _ _ _ e] at hj
      exact h.unl j hj
  · by_cases e : i = j
    · exact e ▸ hf
    · rw [getD_set_ne _ _ _ _ e] at hv
      refine FZ_keep hb j hj ?_ (h.fz j hj hv)
      have key : ∀ i ∈ [4, 10, 11, 12, 17, 18, 19, 24, 25, 26, 31, 32, 33, 34, 35], ∀ j ∈ [4, 10, 11, 12, 17, 18, 19, 24, 25, 26, 31, 32, 33, 34, 35], i ≠ j → dstZ i ≠ dstZ j := by decide
      exact key i hi j hj e
noncomputable def codeRRw (n : Nat) : Code := ((Tryd.f53.body.bind (regionAt n)).getD .skip)
set_option maxHeartbeats 8000000 in
theorem rRows_region4 {V0 W5 : World} {B g : Nat} {v : Value} {c : Ch} {A : Act} (sz : A.tmps.size = 83) (e0 : A.eval (.tmp 0) = .pointer (some ⟨g, 0, none⟩)) (e3 : A.eval (.tmp 3) = .string (txt c.an))
    (hV0 : V0 = W5.drew) (hs0 : RAt V0 B g v c) (ok : Lens c) (hbn : c.bn ≤ 4611686018427387904) (hla : c.la ≤ 4611686018427387904) :
    (codeRRw 4).wp Tryd.prog (fun x a V => x = .normal ∧ Keep A a [4, 14, 15, 16, 17, 18, 19, 20, 21, 22, 23, 24, 25, 26, 27, 28, 29, 30, 31, 32, 33, 34, 35, 36, 37, 38, 39, 40, 41, 42, 43, 44, 45, 46, 47, 48] ∧ fO V0.heap.size c 4 a V ∧ Below V0.heap.size V0 V) A W5 := by
  have hm : Tryd.prog.follows .mixedOrders = true := by kernel_rfl
  unfold codeRRw
  conv => arg 2; whnf
  refine wp_region_held (S := fun V => RAt V B g v c) hm ?_
  rw [show ({ W5 with drawn := W5.drawn + 1 } : World) = V0 from hV0.symm]
  refine tkH (i := 0) (d := 14) (v := .pointer (some ⟨g, 0, none⟩)) rfl rfl (yields_move (by simp [Region.wanted]) (.tmp 0) rfl _ e0) hs0 ?_
  refine tkH (i := 1) (d := 15) (v := .pointer (some ⟨g, 0, none⟩)) rfl rfl (y_nil (by simp [Region.wanted]) (.tmp 14) rfl _ (ev_eq _ _ (by simp [sz]))) hs0 ?_
  refine tkH (i := 2) (d := 16) (v := .pointer (some ⟨g, 0, none⟩)) rfl rfl (y_rf0 (by simp [Region.wanted]) (.tmp 15) rfl g (ev_eq _ _ (by simp [put_sz, sz]))) hs0 ?_
  refine tkH (i := 3) (d := 17) (v := .int .i64 (c.bn : Int)) rfl rfl (y_loadI (by simp [Region.wanted]) (.tmp 16) rfl g 0 _ (ev_eq _ _ (by simp [put_sz, sz])) (fun V hV => hV.c0)) hs0 ?_
  refine tkH (i := 5) (d := 19) (v := .string (txt c.an)) rfl rfl (yields_move (by simp [Region.wanted]) (.tmp 3) rfl _ (evn (evn (evn (evn e3))))) hs0 ?_
  refine tkH (i := 6) (d := 20) (v := .pointer (some ⟨g, 0, none⟩)) rfl rfl (yields_move (by simp [Region.wanted]) (.tmp 0) rfl _ (evn (evn (evn (evn (evn e0)))))) hs0 ?_
  refine tkH (i := 7) (d := 21) (v := .pointer (some ⟨g, 0, none⟩)) rfl rfl (y_nil (by simp [Region.wanted]) (.tmp 20) rfl _ (ev_eq _ _ (by simp [put_sz, sz]))) hs0 ?_
  refine tkH (i := 8) (d := 22) (v := .pointer (some ⟨g, 2, none⟩)) rfl rfl (y_rf2 (by simp [Region.wanted]) (.tmp 21) rfl g (ev_eq _ _ (by simp [put_sz, sz]))) hs0 ?_
  refine tkH (i := 9) (d := 23) (v := .int .i64 (c.la : Int)) rfl rfl (y_loadI (by simp [Region.wanted]) (.tmp 22) rfl g 2 _ (ev_eq _ _ (by simp [put_sz, sz])) (fun V hV => hV.c2)) hs0 ?_
  obtain ⟨A1, hA1⟩ : ∃ A1, A1 = (((((((((A.put (some 14) (.pointer (some ⟨g, 0, none⟩))).put (some 15) (.pointer (some ⟨g, 0, none⟩))).put (some 16) (.pointer (some ⟨g, 0, none⟩))).put (some 17) (.int .i64 (c.bn : Int))).put (some 19) (.string (txt c.an))).put (some 20) (.pointer (some ⟨g, 0, none⟩))).put (some 21) (.pointer (some ⟨g, 0, none⟩))).put (some 22) (.pointer (some ⟨g, 2, none⟩))).put (some 23) (.int .i64 (c.la : Int))) := ⟨_, rfl⟩
  have szA1 : A1.tmps.size = 83 := by rw [hA1]; simp [put_sz, sz]
  have eA10 : A1.eval (.tmp 0) = .pointer (some ⟨g, 0, none⟩) := by rw [hA1]; exact (evn (evn (evn (evn (evn (evn (evn (evn (evn e0)))))))))
  have eA117 : A1.eval (.tmp 17) = .int .i64 (c.bn : Int) := by rw [hA1]; exact (evn (evn (evn (evn (evn (ev_eq _ _ (by simp [put_sz, sz])))))))
  have eA119 : A1.eval (.tmp 19) = .string (txt c.an) := by rw [hA1]; exact (evn (evn (evn (evn (ev_eq _ _ (by simp [put_sz, sz]))))))
  have eA123 : A1.eval (.tmp 23) = .int .i64 (c.la : Int) := by rw [hA1]; exact (ev_eq _ _ (by simp [put_sz, sz]))
  rw [← hA1]
  refine tkH (i := 13) (d := 27) (v := .pointer (some ⟨g, 0, none⟩)) rfl rfl (yields_move (by simp [Region.wanted]) (.tmp 0) rfl _ eA10) hs0 ?_
  refine tkH (i := 14) (d := 28) (v := .pointer (some ⟨g, 0, none⟩)) rfl rfl (y_nil (by simp [Region.wanted]) (.tmp 27) rfl _ (ev_eq _ _ (by simp [szA1]))) hs0 ?_
  refine tkH (i := 15) (d := 29) (v := .pointer (some ⟨g, 35, none⟩)) rfl rfl (y_rf4 (by simp [Region.wanted]) (.tmp 28) rfl g (ev_eq _ _ (by simp [put_sz, szA1]))) hs0 ?_
  refine tkH (i := 16) (d := 30) (v := .agg (bvs c.ah)) rfl rfl (y_loadH (by simp [Region.wanted]) (.tmp 29) rfl g 35 c.ah ok.lan (ev_eq _ _ (by simp [put_sz, szA1])) (fun V hV => hV.ra ok)) hs0 ?_
  refine tkH (i := 20) (d := 34) (v := .pointer (some ⟨g, 0, none⟩)) rfl rfl (yields_move (by simp [Region.wanted]) (.tmp 0) rfl _ (evn (evn (evn (evn eA10))))) hs0 ?_
  refine tkH (i := 21) (d := 35) (v := .pointer (some ⟨g, 0, none⟩)) rfl rfl (y_nil (by simp [Region.wanted]) (.tmp 34) rfl _ (ev_eq _ _ (by simp [put_sz, szA1]))) hs0 ?_
  refine tkH (i := 22) (d := 36) (v := .pointer (some ⟨g, 3, none⟩)) rfl rfl (y_rf3 (by simp [Region.wanted]) (.tmp 35) rfl g (ev_eq _ _ (by simp [put_sz, szA1]))) hs0 ?_
  refine tkH (i := 23) (d := 37) (v := .agg (bvs c.bh)) rfl rfl (y_loadH (by simp [Region.wanted]) (.tmp 36) rfl g 3 c.bh ok.lb (ev_eq _ _ (by simp [put_sz, szA1])) (fun V hV => hV.rb)) hs0 ?_
  refine tkH (i := 27) (d := 41) (v := .pointer (some ⟨g, 0, none⟩)) rfl rfl (yields_move (by simp [Region.wanted]) (.tmp 0) rfl _ (evn (evn (evn (evn (evn (evn (evn (evn eA10))))))))) hs0 ?_
  refine tkH (i := 28) (d := 42) (v := .pointer (some ⟨g, 0, none⟩)) rfl rfl (y_nil (by simp [Region.wanted]) (.tmp 41) rfl _ (ev_eq _ _ (by simp [put_sz, szA1]))) hs0 ?_
  refine tkH (i := 29) (d := 43) (v := .pointer (some ⟨g, 67, none⟩)) rfl rfl (y_rf5 (by simp [Region.wanted]) (.tmp 42) rfl g (ev_eq _ _ (by simp [put_sz, szA1]))) hs0 ?_
  refine tkH (i := 30) (d := 44) (v := .agg (bvs c.hd)) rfl rfl (y_loadH (by simp [Region.wanted]) (.tmp 43) rfl g 67 c.hd ok.lh (ev_eq _ _ (by simp [put_sz, szA1])) (fun V hV => hV.rh ok)) hs0 ?_
  obtain ⟨A2, hA2⟩ : ∃ A2, A2 = ((((((((((((A1.put (some 27) (.pointer (some ⟨g, 0, none⟩))).put (some 28) (.pointer (some ⟨g, 0, none⟩))).put (some 29) (.pointer (some ⟨g, 35, none⟩))).put (some 30) (.agg (bvs c.ah))).put (some 34) (.pointer (some ⟨g, 0, none⟩))).put (some 35) (.pointer (some ⟨g, 0, none⟩))).put (some 36) (.pointer (some ⟨g, 3, none⟩))).put (some 37) (.agg (bvs c.bh))).put (some 41) (.pointer (some ⟨g, 0, none⟩))).put (some 42) (.pointer (some ⟨g, 0, none⟩))).put (some 43) (.pointer (some ⟨g, 67, none⟩))).put (some 44) (.agg (bvs c.hd))) := ⟨_, rfl⟩
  have szA2 : A2.tmps.size = 83 := by rw [hA2]; simp [put_sz, szA1]
  have eA217 : A2.eval (.tmp 17) = .int .i64 (c.bn : Int) := by rw [hA2]; exact (evn (evn (evn (evn (evn (evn (evn (evn (evn (evn (evn (evn eA117))))))))))))
  have eA219 : A2.eval (.tmp 19) = .string (txt c.an) := by rw [hA2]; exact (evn (evn (evn (evn (evn (evn (evn (evn (evn (evn (evn (evn eA119))))))))))))
  have eA223 : A2.eval (.tmp 23) = .int .i64 (c.la : Int) := by rw [hA2]; exact (evn (evn (evn (evn (evn (evn (evn (evn (evn (evn (evn (evn eA123))))))))))))
  have eA230 : A2.eval (.tmp 30) = .agg (bvs c.ah) := by rw [hA2]; exact (evn (evn (evn (evn (evn (evn (evn (evn (ev_eq _ _ (by simp [put_sz, szA1]))))))))))
  have eA237 : A2.eval (.tmp 37) = .agg (bvs c.bh) := by rw [hA2]; exact (evn (evn (evn (evn (ev_eq _ _ (by simp [put_sz, szA1]))))))
  have eA244 : A2.eval (.tmp 44) = .agg (bvs c.hd) := by rw [hA2]; exact (ev_eq _ _ (by simp [put_sz, szA1]))
  rw [← hA2]
  have kA : Keep A A2 [4, 14, 15, 16, 17, 18, 19, 20, 21, 22, 23, 24, 25, 26, 27, 28, 29, 30, 31, 32, 33, 34, 35, 36, 37, 38, 39, 40, 41, 42, 43, 44, 45, 46, 47, 48] := by rw [hA2, hA1]; exact ((((((((((((((((((((((Keep.refl A _).put 14 _ (by decide)).put 15 _ (by decide)).put 16 _ (by decide)).put 17 _ (by decide)).put 19 _ (by decide)).put 20 _ (by decide)).put 21 _ (by decide)).put 22 _ (by decide)).put 23 _ (by decide)).put 27 _ (by decide)).put 28 _ (by decide)).put 29 _ (by decide)).put 30 _ (by decide)).put 34 _ (by decide)).put 35 _ (by decide)).put 36 _ (by decide)).put 37 _ (by decide)).put 41 _ (by decide)).put 42 _ (by decide)).put 43 _ (by decide)).put 44 _ (by decide))
  have szc : A2.tmps.size = 83 := szA2
  clear hA1 hA2 szA1 szA2 eA10 eA117 eA119 eA123 sz e0 e3 hV0
  refine wpAnyH_inv (InvZ A2 V0 B g v c) (fun l a w h => h.ref) (fun l a w h hr => ?_) (fun l a w i hI hi => ?_) _ _ _ _ (by decide) ?_
  · have hall := ready_none (by rw [h.size]; rfl) (by kernel_rfl) hr 35 (by decide)
    exact ⟨rfl, kA.trans (h.kp.mono (by decide)), h.fz 35 (by decide) hall, h.bel⟩
  · have hl := (mem_ready.1 hi).2.1
    have hR := hI.unl i hl
    have fa := hI.fz
    have Kp := hI.kp
    have Bl := hI.bel
    have sl : l.size = 36 := hI.size
    have sz' : a.tmps.size = 83 := Kp.sz.trans szc
    clear hm
    simp only [List.mem_cons, List.not_mem_nil, or_false] at hR
    rcases hR with rfl | rfl | rfl | rfl | rfl | rfl | rfl | rfl | rfl | rfl | rfl | rfl | rfl | rfl | rfl
    · refine wpOp_own rfl rfl fun K' hK' => ?_
      refine wp_calls1 36 hf_num14 (.tmp 17) _ rfl (.int .i64 (c.bn : Int)) ((Kp.keep 17 (by decide)).trans eA217) ?_
      refine (refNum_any c.bn hbn w).mono ?_
      rintro _ w' ⟨rfl, hb⟩
      refine ⟨_, rfl, hK' _ _ (hI.step 4 (by decide) hl (by decide) _ hb ?_)⟩
      exact ev_eq _ _ (by rw [sz']; decide)
    · refine wpOp_own rfl rfl fun K' hK' => ?_
      refine wp_calls1 36 hf_num14 (.tmp 23) _ rfl (.int .i64 (c.la : Int)) ((Kp.keep 23 (by decide)).trans eA223) ?_
      refine (refNum_any c.la hla w).mono ?_
      rintro _ w' ⟨rfl, hb⟩
      refine ⟨_, rfl, hK' _ _ (hI.step 10 (by decide) hl (by decide) _ hb ?_)⟩
      exact ev_eq _ _ (by rw [sz']; decide)
    · refine wpOp_own rfl rfl fun K' hK' => ?_
      refine wp_build3S (.tmp 18) (.tmp 19) (.tmp 24) rfl (txt c.bn) (txt c.an) (txt c.la) (fa 4 (by decide) (ready_dep sl 4 (by decide) (by kernel_rfl) hi)) ((Kp.keep 19 (by decide)).trans eA219) (fa 10 (by decide) (ready_dep sl 10 (by decide) (by kernel_rfl) hi)) ?_
      refine hK' _ _ (hI.step 11 (by decide) hl (by decide) _ ((Below.refl _ w).alloc (Nat.le_refl _) _) ?_)
      exact ⟨w.heap.size, ev_eq _ _ (by rw [sz']; decide), heap_alloc_new w _⟩
    · obtain ⟨gb, hb1, hb2⟩ := (fa 11 (by decide) (ready_dep sl 11 (by decide) (by kernel_rfl) hi))
      refine (y_buildR (S := fun _ => True) (by simp [Region.wanted]) (.const (.string ⟨#[35]⟩)) (.tmp 25) rfl _ _ _ _ rfl hb1).wpOp rfl trivial ?_
      refine hI.step 12 (by decide) hl (by decide) _ (Below.refl _ w) ?_
      exact ⟨gb, ev_eq _ _ (by rw [sz']; decide), hb2⟩
    · refine wpOp_own rfl rfl fun K' hK' => ?_
      refine wp_calls1 82 hf_text14 (.tmp 30) _ rfl (.agg (bvs c.ah)) ((Kp.keep 30 (by decide)).trans eA230) ?_
      refine (text14_any c.ah ok.lan w).mono ?_
      rintro _ w' ⟨rfl, hb⟩
      refine ⟨_, rfl, hK' _ _ (hI.step 17 (by decide) hl (by decide) _ hb ?_)⟩
      exact ev_eq _ _ (by rw [sz']; decide)
    · refine wpOp_own rfl rfl fun K' hK' => ?_
      refine wp_build1S (.tmp 31) rfl (mkB c.ah) (fa 17 (by decide) (ready_dep sl 17 (by decide) (by kernel_rfl) hi)) ?_
      refine hK' _ _ (hI.step 18 (by decide) hl (by decide) _ ((Below.refl _ w).alloc (Nat.le_refl _) _) ?_)
      exact ⟨w.heap.size, ev_eq _ _ (by rw [sz']; decide), heap_alloc_new w _⟩
    · obtain ⟨gb, hb1, hb2⟩ := (fa 18 (by decide) (ready_dep sl 18 (by decide) (by kernel_rfl) hi))
      refine (y_buildR (S := fun _ => True) (by simp [Region.wanted]) (.const (.string ⟨#[97]⟩)) (.tmp 32) rfl _ _ _ _ rfl hb1).wpOp rfl trivial ?_
      refine hI.step 19 (by decide) hl (by decide) _ (Below.refl _ w) ?_
      exact ⟨gb, ev_eq _ _ (by rw [sz']; decide), hb2⟩
    · refine wpOp_own rfl rfl fun K' hK' => ?_
      refine wp_calls1 82 hf_text14 (.tmp 37) _ rfl (.agg (bvs c.bh)) ((Kp.keep 37 (by decide)).trans eA237) ?_
      refine (text14_any c.bh ok.lb w).mono ?_
      rintro _ w' ⟨rfl, hb⟩
      refine ⟨_, rfl, hK' _ _ (hI.step 24 (by decide) hl (by decide) _ hb ?_)⟩
      exact ev_eq _ _ (by rw [sz']; decide)
    · refine wpOp_own rfl rfl fun K' hK' => ?_
      refine wp_build1S (.tmp 38) rfl (mkB c.bh) (fa 24 (by decide) (ready_dep sl 24 (by decide) (by kernel_rfl) hi)) ?_
      refine hK' _ _ (hI.step 25 (by decide) hl (by decide) _ ((Below.refl _ w).alloc (Nat.le_refl _) _) ?_)
      exact ⟨w.heap.size, ev_eq _ _ (by rw [sz']; decide), heap_alloc_new w _⟩
    · obtain ⟨gb, hb1, hb2⟩ := (fa 25 (by decide) (ready_dep sl 25 (by decide) (by kernel_rfl) hi))
      refine (y_buildR (S := fun _ => True) (by simp [Region.wanted]) (.const (.string ⟨#[98]⟩)) (.tmp 39) rfl _ _ _ _ rfl hb1).wpOp rfl trivial ?_
      refine hI.step 26 (by decide) hl (by decide) _ (Below.refl _ w) ?_
      exact ⟨gb, ev_eq _ _ (by rw [sz']; decide), hb2⟩
    · refine wpOp_own rfl rfl fun K' hK' => ?_
      refine wp_calls1 82 hf_text14 (.tmp 44) _ rfl (.agg (bvs c.hd)) ((Kp.keep 44 (by decide)).trans eA244) ?_
      refine (text14_any c.hd ok.lh w).mono ?_
      rintro _ w' ⟨rfl, hb⟩
      refine ⟨_, rfl, hK' _ _ (hI.step 31 (by decide) hl (by decide) _ hb ?_)⟩
      exact ev_eq _ _ (by rw [sz']; decide)
    · refine wpOp_own rfl rfl fun K' hK' => ?_
      refine wp_build1S (.tmp 45) rfl (mkB c.hd) (fa 31 (by decide) (ready_dep sl 31 (by decide) (by kernel_rfl) hi)) ?_
      refine hK' _ _ (hI.step 32 (by decide) hl (by decide) _ ((Below.refl _ w).alloc (Nat.le_refl _) _) ?_)
      exact ⟨w.heap.size, ev_eq _ _ (by rw [sz']; decide), heap_alloc_new w _⟩
    · obtain ⟨gb, hb1, hb2⟩ := (fa 32 (by decide) (ready_dep sl 32 (by decide) (by kernel_rfl) hi))
      refine (y_buildR (S := fun _ => True) (by simp [Region.wanted]) (.const (.string ⟨#[104]⟩)) (.tmp 46) rfl _ _ _ _ rfl hb1).wpOp rfl trivial ?_
      refine hI.step 33 (by decide) hl (by decide) _ (Below.refl _ w) ?_
      exact ⟨gb, ev_eq _ _ (by rw [sz']; decide), hb2⟩
    · obtain ⟨g1, h1, k1⟩ := (fa 12 (by decide) (ready_dep sl 12 (by decide) (by kernel_rfl) hi))
      obtain ⟨g2, h2, k2⟩ := (fa 19 (by decide) (ready_dep sl 19 (by decide) (by kernel_rfl) hi))
      obtain ⟨g3, h3, k3⟩ := (fa 26 (by decide) (ready_dep sl 26 (by decide) (by kernel_rfl) hi))
      obtain ⟨g4, h4, k4⟩ := (fa 33 (by decide) (ready_dep sl 33 (by decide) (by kernel_rfl) hi))
      refine wpOp_own rfl rfl fun K' hK' => ?_
      refine wp_build4R (.tmp 26) (.tmp 33) (.tmp 40) (.tmp 47) rfl _ _ _ _ _ _ _ _ _ _ _ _ _ _ _ _ h1 h2 h3 h4 ?_
      refine hK' _ _ (hI.step 34 (by decide) hl (by decide) _ ((Below.refl _ w).alloc (Nat.le_refl _) _) ?_)
      exact ⟨_, _, ev_eq _ _ (by rw [sz']; decide), head_rows (Nat.le_trans Bl.size (Nat.le_refl _)) k1 k2 k3 k4⟩
    · obtain ⟨v9, L9, h9, r9⟩ := (fa 34 (by decide) (ready_dep sl 34 (by decide) (by kernel_rfl) hi))
      refine (y_assign (S := fun _ => True) (by simp [Region.wanted]) (.tmp 48) rfl _ h9).wpOp rfl trivial ?_
      refine hI.step 35 (by decide) hl (by decide) _ (Below.refl _ w) ?_
      exact ⟨v9, L9, ev_eq _ _ (by rw [sz']; decide), r9⟩
  · refine ⟨by decide, Keep.refl _ _, hs0, Below.refl _ _, ?_, ?_⟩
    · intro i hi
      by_cases h36 : i < 36
      · revert hi
        revert i
        decide
      · exfalso
        simp [Array.getD, h36] at hi
    · refine fun j hj hv => absurd hv ?_
      clear hv
      revert hj
      revert j
      decide
theorem len83 {α : Type} (l : List α) (h : l.length = 83) : ∃ x0 x1 x2 x3 x4 x5 x6 x7 x8 x9 x10 x11 x12 x13 x14 x15 x16 x17 x18 x19 x20 x21 x22 x23 x24 x25 x26 x27 x28 x29 x30 x31 x32 x33 x34 x35 x36 x37 x38 x39 x40 x41 x42 x43 x44 x45 x46 x47 x48 x49 x50 x51 x52 x53 x54 x55 x56 x57 x58 x59 x60 x61 x62 x63 x64 x65 x66 x67 x68 x69 x70 x71 x72 x73 x74 x75 x76 x77 x78 x79 x80 x81 x82, l = [x0, x1, x2, x3, x4, x5, x6, x7, x8, x9, x10, x11, x12, x13, x14, x15, x16, x17, x18, x19, x20, x21, x22, x23, x24, x25, x26, x27, x28, x29, x30, x31, x32, x33, x34, x35, x36, x37, x38, x39, x40, x41, x42, x43, x44, x45, x46, x47, x48, x49, x50, x51, x52, x53, x54, x55, x56, x57, x58, x59, x60, x61, x62, x63, x64, x65, x66, x67, x68, x69, x70, x71, x72, x73, x74, x75, x76, x77, x78, x79, x80, x81, x82] := by
  obtain ⟨x0, l, rfl⟩ := List.exists_cons_of_length_eq_add_one (n := 82) h
  have h : l.length = 82 := by simpa using h
  obtain ⟨x1, l, rfl⟩ := List.exists_cons_of_length_eq_add_one (n := 81) h
  have h : l.length = 81 := by simpa using h
  obtain ⟨x2, l, rfl⟩ := List.exists_cons_of_length_eq_add_one (n := 80) h
  have h : l.length = 80 := by simpa using h
  obtain ⟨x3, l, rfl⟩ := List.exists_cons_of_length_eq_add_one (n := 79) h
  have h : l.length = 79 := by simpa using h
  obtain ⟨x4, l, rfl⟩ := List.exists_cons_of_length_eq_add_one (n := 78) h
  have h : l.length = 78 := by simpa using h
  obtain ⟨x5, l, rfl⟩ := List.exists_cons_of_length_eq_add_one (n := 77) h
  have h : l.length = 77 := by simpa using h
  obtain ⟨x6, l, rfl⟩ := List.exists_cons_of_length_eq_add_one (n := 76) h
  have h : l.length = 76 := by simpa using h
  obtain ⟨x7, l, rfl⟩ := List.exists_cons_of_length_eq_add_one (n := 75) h
  have h : l.length = 75 := by simpa using h
  obtain ⟨x8, l, rfl⟩ := List.exists_cons_of_length_eq_add_one (n := 74) h
  have h : l.length = 74 := by simpa using h
  obtain ⟨x9, l, rfl⟩ := List.exists_cons_of_length_eq_add_one (n := 73) h
  have h : l.length = 73 := by simpa using h
  obtain ⟨x10, l, rfl⟩ := List.exists_cons_of_length_eq_add_one (n := 72) h
  have h : l.length = 72 := by simpa using h
  obtain ⟨x11, l, rfl⟩ := List.exists_cons_of_length_eq_add_one (n := 71) h
  have h : l.length = 71 := by simpa using h
  obtain ⟨x12, l, rfl⟩ := List.exists_cons_of_length_eq_add_one (n := 70) h
  have h : l.length = 70 := by simpa using h
  obtain ⟨x13, l, rfl⟩ := List.exists_cons_of_length_eq_add_one (n := 69) h
  have h : l.length = 69 := by simpa using h
  obtain ⟨x14, l, rfl⟩ := List.exists_cons_of_length_eq_add_one (n := 68) h
  have h : l.length = 68 := by simpa using h
  obtain ⟨x15, l, rfl⟩ := List.exists_cons_of_length_eq_add_one (n := 67) h
  have h : l.length = 67 := by simpa using h
  obtain ⟨x16, l, rfl⟩ := List.exists_cons_of_length_eq_add_one (n := 66) h
  have h : l.length = 66 := by simpa using h
  obtain ⟨x17, l, rfl⟩ := List.exists_cons_of_length_eq_add_one (n := 65) h
  have h : l.length = 65 := by simpa using h
  obtain ⟨x18, l, rfl⟩ := List.exists_cons_of_length_eq_add_one (n := 64) h
  have h : l.length = 64 := by simpa using h
  obtain ⟨x19, l, rfl⟩ := List.exists_cons_of_length_eq_add_one (n := 63) h
  have h : l.length = 63 := by simpa using h
  obtain ⟨x20, l, rfl⟩ := List.exists_cons_of_length_eq_add_one (n := 62) h
  have h : l.length = 62 := by simpa using h
  obtain ⟨x21, l, rfl⟩ := List.exists_cons_of_length_eq_add_one (n := 61) h
  have h : l.length = 61 := by simpa using h
  obtain ⟨x22, l, rfl⟩ := List.exists_cons_of_length_eq_add_one (n := 60) h
  have h : l.length = 60 := by simpa using h
  obtain ⟨x23, l, rfl⟩ := List.exists_cons_of_length_eq_add_one (n := 59) h
  have h : l.length = 59 := by simpa using h
  obtain ⟨x24, l, rfl⟩ := List.exists_cons_of_length_eq_add_one (n := 58) h
  have h : l.length = 58 := by simpa using h
  obtain ⟨x25, l, rfl⟩ := List.exists_cons_of_length_eq_add_one (n := 57) h
  have h : l.length = 57 := by simpa using h
  obtain ⟨x26, l, rfl⟩ := List.exists_cons_of_length_eq_add_one (n := 56) h
  have h : l.length = 56 := by simpa using h
  obtain ⟨x27, l, rfl⟩ := List.exists_cons_of_length_eq_add_one (n := 55) h
  have h : l.length = 55 := by simpa using h
  obtain ⟨x28, l, rfl⟩ := List.exists_cons_of_length_eq_add_one (n := 54) h
  have h : l.length = 54 := by simpa using h
  obtain ⟨x29, l, rfl⟩ := List.exists_cons_of_length_eq_add_one (n := 53) h
  have h : l.length = 53 := by simpa using h
  obtain ⟨x30, l, rfl⟩ := List.exists_cons_of_length_eq_add_one (n := 52) h
  have h : l.length = 52 := by simpa using h
  obtain ⟨x31, l, rfl⟩ := List.exists_cons_of_length_eq_add_one (n := 51) h
  have h : l.length = 51 := by simpa using h
  obtain ⟨x32, l, rfl⟩ := List.exists_cons_of_length_eq_add_one (n := 50) h
  have h : l.length = 50 := by simpa using h
  obtain ⟨x33, l, rfl⟩ := List.exists_cons_of_length_eq_add_one (n := 49) h
  have h : l.length = 49 := by simpa using h
  obtain ⟨x34, l, rfl⟩ := List.exists_cons_of_length_eq_add_one (n := 48) h
  have h : l.length = 48 := by simpa using h
  obtain ⟨x35, l, rfl⟩ := List.exists_cons_of_length_eq_add_one (n := 47) h
  have h : l.length = 47 := by simpa using h
  obtain ⟨x36, l, rfl⟩ := List.exists_cons_of_length_eq_add_one (n := 46) h
  have h : l.length = 46 := by simpa using h
  obtain ⟨x37, l, rfl⟩ := List.exists_cons_of_length_eq_add_one (n := 45) h
  have h : l.length = 45 := by simpa using h
  obtain ⟨x38, l, rfl⟩ := List.exists_cons_of_length_eq_add_one (n := 44) h
  have h : l.length = 44 := by simpa using h
  obtain ⟨x39, l, rfl⟩ := List.exists_cons_of_length_eq_add_one (n := 43) h
  have h : l.length = 43 := by simpa using h
  obtain ⟨x40, l, rfl⟩ := List.exists_cons_of_length_eq_add_one (n := 42) h
  have h : l.length = 42 := by simpa using h
  obtain ⟨x41, l, rfl⟩ := List.exists_cons_of_length_eq_add_one (n := 41) h
  have h : l.length = 41 := by simpa using h
  obtain ⟨x42, l, rfl⟩ := List.exists_cons_of_length_eq_add_one (n := 40) h
  have h : l.length = 40 := by simpa using h
  obtain ⟨x43, l, rfl⟩ := List.exists_cons_of_length_eq_add_one (n := 39) h
  have h : l.length = 39 := by simpa using h
  obtain ⟨x44, l, rfl⟩ := List.exists_cons_of_length_eq_add_one (n := 38) h
  have h : l.length = 38 := by simpa using h
  obtain ⟨x45, l, rfl⟩ := List.exists_cons_of_length_eq_add_one (n := 37) h
  have h : l.length = 37 := by simpa using h
  obtain ⟨x46, l, rfl⟩ := List.exists_cons_of_length_eq_add_one (n := 36) h
  have h : l.length = 36 := by simpa using h
  obtain ⟨x47, l, rfl⟩ := List.exists_cons_of_length_eq_add_one (n := 35) h
  have h : l.length = 35 := by simpa using h
  obtain ⟨x48, l, rfl⟩ := List.exists_cons_of_length_eq_add_one (n := 34) h
  have h : l.length = 34 := by simpa using h
  obtain ⟨x49, l, rfl⟩ := List.exists_cons_of_length_eq_add_one (n := 33) h
  have h : l.length = 33 := by simpa using h
  obtain ⟨x50, l, rfl⟩ := List.exists_cons_of_length_eq_add_one (n := 32) h
  have h : l.length = 32 := by simpa using h
  obtain ⟨x51, l, rfl⟩ := List.exists_cons_of_length_eq_add_one (n := 31) h
  have h : l.length = 31 := by simpa using h
  obtain ⟨x52, l, rfl⟩ := List.exists_cons_of_length_eq_add_one (n := 30) h
  have h : l.length = 30 := by simpa using h
  obtain ⟨x53, l, rfl⟩ := List.exists_cons_of_length_eq_add_one (n := 29) h
  have h : l.length = 29 := by simpa using h
  obtain ⟨x54, l, rfl⟩ := List.exists_cons_of_length_eq_add_one (n := 28) h
  have h : l.length = 28 := by simpa using h
  obtain ⟨x55, l, rfl⟩ := List.exists_cons_of_length_eq_add_one (n := 27) h
  have h : l.length = 27 := by simpa using h
  obtain ⟨x56, l, rfl⟩ := List.exists_cons_of_length_eq_add_one (n := 26) h
  have h : l.length = 26 := by simpa using h
  obtain ⟨x57, l, rfl⟩ := List.exists_cons_of_length_eq_add_one (n := 25) h
  have h : l.length = 25 := by simpa using h
  obtain ⟨x58, l, rfl⟩ := List.exists_cons_of_length_eq_add_one (n := 24) h
  have h : l.length = 24 := by simpa using h
  obtain ⟨x59, l, rfl⟩ := List.exists_cons_of_length_eq_add_one (n := 23) h
  have h : l.length = 23 := by simpa using h
  obtain ⟨x60, l, rfl⟩ := List.exists_cons_of_length_eq_add_one (n := 22) h
  have h : l.length = 22 := by simpa using h
  obtain ⟨x61, l, rfl⟩ := List.exists_cons_of_length_eq_add_one (n := 21) h
  have h : l.length = 21 := by simpa using h
  obtain ⟨x62, l, rfl⟩ := List.exists_cons_of_length_eq_add_one (n := 20) h
  have h : l.length = 20 := by simpa using h
  obtain ⟨x63, l, rfl⟩ := List.exists_cons_of_length_eq_add_one (n := 19) h
  have h : l.length = 19 := by simpa using h
  obtain ⟨x64, l, rfl⟩ := List.exists_cons_of_length_eq_add_one (n := 18) h
  have h : l.length = 18 := by simpa using h
  obtain ⟨x65, l, rfl⟩ := List.exists_cons_of_length_eq_add_one (n := 17) h
  have h : l.length = 17 := by simpa using h
  obtain ⟨x66, l, rfl⟩ := List.exists_cons_of_length_eq_add_one (n := 16) h
  have h : l.length = 16 := by simpa using h
  obtain ⟨x67, l, rfl⟩ := List.exists_cons_of_length_eq_add_one (n := 15) h
  have h : l.length = 15 := by simpa using h
  obtain ⟨x68, l, rfl⟩ := List.exists_cons_of_length_eq_add_one (n := 14) h
  have h : l.length = 14 := by simpa using h
  obtain ⟨x69, l, rfl⟩ := List.exists_cons_of_length_eq_add_one (n := 13) h
  have h : l.length = 13 := by simpa using h
  obtain ⟨x70, l, rfl⟩ := List.exists_cons_of_length_eq_add_one (n := 12) h
  have h : l.length = 12 := by simpa using h
  obtain ⟨x71, l, rfl⟩ := List.exists_cons_of_length_eq_add_one (n := 11) h
  have h : l.length = 11 := by simpa using h
  obtain ⟨x72, l, rfl⟩ := List.exists_cons_of_length_eq_add_one (n := 10) h
  have h : l.length = 10 := by simpa using h
  obtain ⟨x73, l, rfl⟩ := List.exists_cons_of_length_eq_add_one (n := 9) h
  have h : l.length = 9 := by simpa using h
  obtain ⟨x74, l, rfl⟩ := List.exists_cons_of_length_eq_add_one (n := 8) h
  have h : l.length = 8 := by simpa using h
  obtain ⟨x75, l, rfl⟩ := List.exists_cons_of_length_eq_add_one (n := 7) h
  have h : l.length = 7 := by simpa using h
  obtain ⟨x76, l, rfl⟩ := List.exists_cons_of_length_eq_add_one (n := 6) h
  have h : l.length = 6 := by simpa using h
  obtain ⟨x77, l, rfl⟩ := List.exists_cons_of_length_eq_add_one (n := 5) h
  have h : l.length = 5 := by simpa using h
  obtain ⟨x78, l, rfl⟩ := List.exists_cons_of_length_eq_add_one (n := 4) h
  have h : l.length = 4 := by simpa using h
  obtain ⟨x79, l, rfl⟩ := List.exists_cons_of_length_eq_add_one (n := 3) h
  have h : l.length = 3 := by simpa using h
  obtain ⟨x80, l, rfl⟩ := List.exists_cons_of_length_eq_add_one (n := 2) h
  have h : l.length = 2 := by simpa using h
  obtain ⟨x81, l, rfl⟩ := List.exists_cons_of_length_eq_add_one (n := 1) h
  have h : l.length = 1 := by simpa using h
  obtain ⟨x82, l, rfl⟩ := List.exists_cons_of_length_eq_add_one (n := 0) h
  have h : l.length = 0 := by simpa using h
  obtain rfl := List.eq_nil_of_length_eq_zero h
  exact ⟨_, _, _, _, _, _, _, _, _, _, _, _, _, _, _, _, _, _, _, _, _, _, _, _, _, _, _, _, _, _, _, _, _, _, _, _, _, _, _, _, _, _, _, _, _, _, _, _, _, _, _, _, _, _, _, _, _, _, _, _, _, _, _, _, _, _, _, _, _, _, _, _, _, _, _, _, _, _, _, _, _, _, _, rfl⟩
end Go.Proofs.YthfmpebgmojcaaaDoor
/- The reference's Rows: the region that appends the row of an event. (Printed by gen/zrows9.py.) -/
namespace Go.Proofs.YthfmpebgmojcaaaDoor
open Go.RowKit
set_option linter.unusedVariables false
set_option maxRecDepth 20000
theorem y_addS {ops : Array Oper} {S : World → Prop} {op : Oper} {a : Act} (hw : Region.wanted op (yielded ops a.tmps) = true) (x y : Operand) (ho : op.op = .binOp .add 9 x y 9) (p q : ByteArray) (hx : a.eval x = .string p) (hy : a.eval y = .string q) (hb : ¬ 9223372036854775807 < p.size + q.size) : YieldsIf Tryd.prog ops S op (.string (p ++ q)) a := by
  refine .inl ⟨hw, fun w _ => ?_⟩
  unfold execOp
  simp only [ho, hx, hy]
  simp [go_sem, hb]
set_option maxHeartbeats 4000000 in
theorem rRows_region9 {V0 W5 : World} {base E n0 c0 : Nat} {a0 : Option Addr} {l : List Rw} {e : Ev} {A : Act} (sz : A.tmps.size = 83) (e4 : A.eval (.tmp 4) = .slice a0 n0 c0) (e6 : A.eval (.tmp 6) = .pointer (some ⟨E, 0, none⟩))
    (hV0 : V0 = W5.drew) (hs0 : V0.heap[E]? = some (.cells (eVals e).toArray 55 (0, 0))) (H0 : RowsAt V0 base (.slice a0 n0 c0) l) (hn : e.num ≤ 4611686018427387904) (ht : e.tim ≤ 4611686018427387904) (hfew : l.length ≤ 1000) (hbase : base ≤ V0.heap.size) (hneE : (.slice a0 n0 c0 : Value).ownBlock ≠ some E) :
    (codeRRw 9).wp Tryd.prog (fun x a V => x = .normal ∧ ∃ V2 V3 : World, ∃ kk cap, a = (((((((((((((((((A.put (some 65) (.slice a0 n0 c0)).put (some 66) (.pointer (some ⟨E, 0, none⟩))).put (some 67) (.int .i64 (e.num : Int))).put (some 70) (.pointer (some ⟨E, 1, none⟩))).put (some 71) (.int .i64 (e.tim : Int))).put (some 73) (.pointer (some ⟨E, 2, none⟩))).put (some 74) (.string e.what)).put (some 75) (.pointer (some ⟨E, 3, none⟩))).put (some 76) (.string e.who)).put (some 68) (.string (txt e.num))).put (some 69) (.string (evKey e.num))).put (some 72) (.string (txt e.tim))).put (some 77) (.slice (some ⟨V2.heap.size, 0, none⟩) 3 3)).put (some 78) (.agg #[.string (evKey e.num), .slice (some ⟨V2.heap.size, 0, none⟩) 3 3])).put (some 79) (.slice (some ⟨V3.heap.size, 0, none⟩) 1 1)).put (some 80) (.slice (some ⟨kk, 0, none⟩) (l ++ [evRow e V2.heap.size]).length cap)).put (some 4) (.slice (some ⟨kk, 0, none⟩) (l ++ [evRow e V2.heap.size]).length cap)) ∧ RowsAt V base (.slice (some ⟨kk, 0, none⟩) (l ++ [evRow e V2.heap.size]).length cap) (l ++ [evRow e V2.heap.size]) ∧ Below base V0 V) A W5 := by
  have hm : Tryd.prog.follows .mixedOrders = true := by kernel_rfl
  unfold codeRRw
  conv => arg 2; whnf
  refine wp_region_held (S := fun V => V.heap[E]? = some (.cells (eVals e).toArray 55 (0, 0))) hm ?_
  rw [show ({ W5 with drawn := W5.drawn + 1 } : World) = V0 from hV0.symm]
  refine tkH (i := 0) (d := 65) (v := .slice a0 n0 c0) rfl rfl (yields_move (by simp [Region.wanted]) (.tmp 4) rfl _ e4) hs0 ?_
  refine tkH (i := 1) (d := 66) (v := .pointer (some ⟨E, 0, none⟩)) rfl rfl (y_ev 0 (by decide) (by simp [Region.wanted]) (.tmp 6) rfl E (evn e6)) hs0 ?_
  refine tkH (i := 2) (d := 67) (v := .int .i64 (e.num : Int)) rfl rfl (y_loadI (by simp [Region.wanted]) (.tmp 66) rfl E 0 _ (ev_eq _ _ (by simp [put_sz, sz])) (fun V hV => range_whole hV 0 _ rfl)) hs0 ?_
  refine tkH (i := 5) (d := 70) (v := .pointer (some ⟨E, 1, none⟩)) rfl rfl (y_ev 1 (by decide) (by simp [Region.wanted]) (.tmp 6) rfl E (evn (evn (evn e6)))) hs0 ?_
  refine tkH (i := 6) (d := 71) (v := .int .i64 (e.tim : Int)) rfl rfl (y_loadI (by simp [Region.wanted]) (.tmp 70) rfl E 1 _ (ev_eq _ _ (by simp [put_sz, sz])) (fun V hV => range_whole hV 1 _ rfl)) hs0 ?_
  refine tkH (i := 8) (d := 73) (v := .pointer (some ⟨E, 2, none⟩)) rfl rfl (y_ev 2 (by decide) (by simp [Region.wanted]) (.tmp 6) rfl E (evn (evn (evn (evn (evn e6)))))) hs0 ?_
  refine tkH (i := 9) (d := 74) (v := .string e.what) rfl rfl (y_loadS (by simp [Region.wanted]) (.tmp 73) rfl E 2 _ (ev_eq _ _ (by simp [put_sz, sz])) (fun V hV => range_whole hV 2 _ rfl)) hs0 ?_
  refine tkH (i := 10) (d := 75) (v := .pointer (some ⟨E, 3, none⟩)) rfl rfl (y_ev 3 (by decide) (by simp [Region.wanted]) (.tmp 6) rfl E (evn (evn (evn (evn (evn (evn (evn e6)))))))) hs0 ?_
  refine tkH (i := 11) (d := 76) (v := .string e.who) rfl rfl (y_loadS (by simp [Region.wanted]) (.tmp 75) rfl E 3 _ (ev_eq _ _ (by simp [put_sz, sz])) (fun V hV => range_whole hV 3 _ rfl)) hs0 ?_
  obtain ⟨A2, hA2⟩ : ∃ A2, A2 = (((((((((A.put (some 65) (.slice a0 n0 c0)).put (some 66) (.pointer (some ⟨E, 0, none⟩))).put (some 67) (.int .i64 (e.num : Int))).put (some 70) (.pointer (some ⟨E, 1, none⟩))).put (some 71) (.int .i64 (e.tim : Int))).put (some 73) (.pointer (some ⟨E, 2, none⟩))).put (some 74) (.string e.what)).put (some 75) (.pointer (some ⟨E, 3, none⟩))).put (some 76) (.string e.who)) := ⟨_, rfl⟩
  have szA2 : A2.tmps.size = 83 := by rw [hA2]; simp [put_sz, sz]
  have eA265 : A2.eval (.tmp 65) = .slice a0 n0 c0 := by rw [hA2]; exact (evn (evn (evn (evn (evn (evn (evn (evn (ev_eq _ _ (by simp [sz]))))))))))
  have eA267 : A2.eval (.tmp 67) = .int .i64 (e.num : Int) := by rw [hA2]; exact (evn (evn (evn (evn (evn (evn (ev_eq _ _ (by simp [put_sz, sz]))))))))
  have eA271 : A2.eval (.tmp 71) = .int .i64 (e.tim : Int) := by rw [hA2]; exact (evn (evn (evn (evn (ev_eq _ _ (by simp [put_sz, sz]))))))
  have eA274 : A2.eval (.tmp 74) = .string e.what := by rw [hA2]; exact (evn (evn (ev_eq _ _ (by simp [put_sz, sz]))))
  have eA276 : A2.eval (.tmp 76) = .string e.who := by rw [hA2]; exact (ev_eq _ _ (by simp [put_sz, sz]))
  rw [← hA2]
  refine wpAnyH_all (rs := [3]) (by kernel_rfl) (by simp) fun i1 hm1 => ?_
  obtain rfl : i1 = 3 := by simpa using hm1
  refine wpOp_own rfl rfl fun K1 hK1 => ?_
  refine wp_calls1 36 hf_num14 (.tmp 67) _ rfl (.int .i64 (e.num : Int)) eA267 ?_
  refine (refNum_any e.num hn V0).mono ?_
  rintro _ V1 ⟨rfl, hb1⟩
  have hs1 := (hb1.block E (heap_lt hs0)).trans hs0
  refine ⟨_, rfl, hK1 _ _ ⟨hs1, ?_⟩⟩
  clear hK1 K1 hm1
  show wpAnyH _ _ _ _ _ _ _ (A2.put (some 68) (.string (txt e.num))) _
  refine tkH (i := 4) (d := 69) (v := .string (evKey e.num)) rfl rfl (y_addS (by simp [Region.wanted]) (.const (.string ⟨#[110]⟩)) (.tmp 68) rfl ⟨#[110]⟩ (txt e.num) rfl (ev_eq _ _ (by simp [szA2])) (by have := txt_size e.num hn; show ¬ 9223372036854775807 < 1 + (txt e.num).size; omega)) hs1 ?_
  refine wpAnyH_all (rs := [7]) (by kernel_rfl) (by simp) fun i2 hm2 => ?_
  obtain rfl : i2 = 7 := by simpa using hm2
  refine wpOp_own rfl rfl fun K2 hK2 => ?_
  refine wp_calls1 36 hf_num14 (.tmp 71) _ rfl (.int .i64 (e.tim : Int)) (evn (evn eA271)) ?_
  refine (refNum_any e.tim ht V1).mono ?_
  rintro _ V2 ⟨rfl, hb2⟩
  have hs2 := (hb2.block E (heap_lt hs1)).trans hs1
  refine ⟨_, rfl, hK2 _ _ ⟨hs2, ?_⟩⟩
  clear hK2 K2 hm2
  show wpAnyH _ _ _ _ _ _ _ (((A2.put (some 68) (.string (txt e.num))).put (some 69) (.string (evKey e.num))).put (some 72) (.string (txt e.tim))) _
  refine wpAnyH_all (rs := [12]) (by kernel_rfl) (by simp) fun i3 hm3 => ?_
  obtain rfl : i3 = 12 := by simpa using hm3
  refine wpOp_own rfl rfl fun K3 hK3 => ?_
  refine wp_build3S (.tmp 72) (.tmp 74) (.tmp 76) rfl (txt e.tim) e.what e.who (ev_eq _ _ (by simp [put_sz, szA2])) (evn (evn (evn eA274))) (evn (evn (evn eA276))) ?_
  have b3 : Below V2.heap.size V2 (V2.alloc (.cells #[.string (txt e.tim), .string e.what, .string e.who] 9)) := (Below.refl _ V2).alloc (Nat.le_refl _) _
  have hs3 := (b3.block E (heap_lt hs2)).trans hs2
  refine hK3 _ _ ⟨hs3, ?_⟩
  clear hK3 K3 hm3
  show wpAnyH _ _ _ _ _ _ _ ((((A2.put (some 68) (.string (txt e.num))).put (some 69) (.string (evKey e.num))).put (some 72) (.string (txt e.tim))).put (some 77) (.slice (some ⟨V2.heap.size, 0, none⟩) 3 3)) _
  refine tkH (i := 13) (d := 78) (v := .agg #[.string (evKey e.num), .slice (some ⟨V2.heap.size, 0, none⟩) 3 3]) rfl rfl (y_buildR (by simp [Region.wanted]) (.tmp 69) (.tmp 77) rfl _ _ _ _ (evn (evn (ev_eq _ _ (by simp [put_sz, szA2])))) (ev_eq _ _ (by simp [put_sz, szA2]))) hs3 ?_
  obtain ⟨A3, hA3⟩ : ∃ A3, A3 = (((((A2.put (some 68) (.string (txt e.num))).put (some 69) (.string (evKey e.num))).put (some 72) (.string (txt e.tim))).put (some 77) (.slice (some ⟨V2.heap.size, 0, none⟩) 3 3)).put (some 78) (.agg #[.string (evKey e.num), .slice (some ⟨V2.heap.size, 0, none⟩) 3 3])) := ⟨_, rfl⟩
  have szA3 : A3.tmps.size = 83 := by rw [hA3]; simp [put_sz, szA2]
  have eA365 : A3.eval (.tmp 65) = .slice a0 n0 c0 := by rw [hA3]; exact (evn (evn (evn (evn (evn eA265)))))
  have eA378 : A3.eval (.tmp 78) = .agg #[.string (evKey e.num), .slice (some ⟨V2.heap.size, 0, none⟩) 3 3] := by rw [hA3]; exact (ev_eq _ _ (by simp [put_sz, szA2]))
  rw [← hA3]
  refine wpAnyH_all (rs := [14]) (by kernel_rfl) (by simp) fun i4 hm4 => ?_
  obtain rfl : i4 = 14 := by simpa using hm4
  refine wpOp_own rfl rfl fun K4 hK4 => ?_
  refine wp_build1R (.tmp 78) rfl _ _ _ _ eA378 ?_
  obtain ⟨V3, hV3⟩ : ∃ V3, V3 = V2.alloc (.cells #[.string (txt e.tim), .string e.what, .string e.who] 9) := ⟨_, rfl⟩
  rw [← hV3] at hs3 b3 ⊢
  have b4 : Below V3.heap.size V3 (V3.alloc (.cells (Rw.vals (evRow e V2.heap.size)).toArray 75)) := (Below.refl _ V3).alloc (Nat.le_refl _) _
  have hs4 := (b4.block E (heap_lt hs3)).trans hs3
  refine hK4 _ _ ⟨hs4, ?_⟩
  clear hK4 K4 hm4
  show wpAnyH _ _ _ _ _ _ _ (A3.put (some 79) (.slice (some ⟨V3.heap.size, 0, none⟩) 1 1)) _
  refine wpAnyH_all (rs := [15]) (by kernel_rfl) (by simp) fun i5 hm5 => ?_
  obtain rfl : i5 = 15 := by simpa using hm5
  refine wpOp_own rfl rfl fun K5 hK5 => ?_
  have b04 : Below V0.heap.size V0 (V3.alloc (.cells (Rw.vals (evRow e V2.heap.size)).toArray 75)) := Below.on' (Below.on' (Below.on' hb1 hb2) b3) b4
  refine wp_appR _ (.tmp 65) (.tmp 79) rfl base (.slice a0 n0 c0) l (evn eA365) (own_onW H0.1 b04) (evRow e V2.heap.size) V3.heap.size (ev_eq _ _ (by simp [szA3])) (range_newR V3 _) hfew (Nat.le_trans hbase b04.size) ?_
  intro kk cap V5 hown hgrow hk
  have hs5 : V5.heap[E]? = some (.cells (eVals e).toArray 55 (0, 0)) := (hgrow.block E (heap_lt hs4) (fun x => hneE x.symm)).trans hs4
  refine hK5 _ _ ⟨hs5, ?_⟩
  clear hK5 K5 hm5
  show wpAnyH _ _ _ _ _ _ _ ((A3.put (some 79) (.slice (some ⟨V3.heap.size, 0, none⟩) 1 1)).put (some 80) (.slice (some ⟨kk, 0, none⟩) (l ++ [evRow e V2.heap.size]).length cap)) _
  refine tkH (i := 16) (d := 4) (v := .slice (some ⟨kk, 0, none⟩) (l ++ [evRow e V2.heap.size]).length cap) rfl rfl (y_assign (by simp [Region.wanted]) (.tmp 80) rfl _ (ev_eq _ _ (by simp [put_sz, szA3]))) hs5 ?_
  refine wpAnyH_done (by kernel_rfl) ⟨rfl, V2, V3, kk, cap, by rw [hA3, hA2], rows_grown H0 b04 hgrow hown (by rw [hV3]; exact texts3_new V2 _ _ _) b4, (((Below.refl _ V0).mono hbase).trans (b04.mono hbase)).grown hgrow (Nat.le_trans hbase b04.size) (fun j hj => (H0.1.lt j hj).1)⟩ _
end Go.Proofs.YthfmpebgmojcaaaDoor
