/- YthfmpebgmojcaaaDoorARw7 + YthfmpebgmojcaaaDoorARows + YthfmpebgmojcaaaDoorZText -/
import Derived.Test.YthfmpebgmojcaaaDoorTkH
import Derived.Test.YthfmpebgmojcaaaDoorARw3
import Derived.Deep.AppendLies
import Derived.Test.YthfmpebgmojcaaaDoorZHead
/- (*Chain).Rows: the region that appends the row of an event, over a frame that is a letter. -/
namespace Go.Proofs.YthfmpebgmojcaaaDoor
open Go.RowKit
set_option linter.unusedVariables false
set_option maxRecDepth 20000
structure Rw where
  key : ByteArray
  a : Option Addr
  cols : List ByteArray
  cap : Nat
def Rw.vals (x : Rw) : List Value := [.string x.key, .slice x.a x.cols.length x.cap]
def evRow (e : Ev) (b : Nat) : Rw := ⟨evKey e.num, some ⟨b, 0, none⟩, [txt e.tim, e.what, e.who], 3⟩
def rvCells (l : List Rw) : List Value := l.flatMap Rw.vals
theorem rvCells_append (a b : List Rw) : rvCells (a ++ b) = rvCells a ++ rvCells b := by simp [rvCells]
theorem rvCells_one (x : Rw) : rvCells [x] = x.vals := by simp [rvCells]
theorem rvCells_oneCell (l : List Rw) : ∀ u ∈ rvCells l, u.oneCell' = true := by
  intro u hu
  simp only [rvCells, List.mem_flatMap, Rw.vals, List.mem_cons, List.not_mem_nil, or_false] at hu
  obtain ⟨x, _, rfl | rfl⟩ := hu <;> rfl
def RowsAt (w : World) (base : Nat) (v : Value) (l : List Rw) : Prop := w.ownsRow base 75 2 v l.length (rvCells l) ∧ ∀ x ∈ l, w.ownsRow 0 9 1 (.slice x.a x.cols.length x.cap) x.cols.length (strsOf x.cols)
theorem Tryd.infoR : (Tryd.prog.info? 75).map (fun i => (i.zero, i.size, i.bytes)) = some (some (.agg #[.string ⟨#[]⟩, .slice none 0 0]), 2, 40) := by kernel_rfl
theorem range_newR (w : World) (x : Rw) : (w.alloc (.cells x.vals.toArray 75)).rangeAt w.heap.size 0 x.vals := range_mid (A := []) (C := []) (heap_alloc_new w _) 0 rfl
theorem hf_eventKey : ∀ (args : Array Value) (w : World), (callFunc 41 args).run Tryd.prog w = .ok (.enter 41 args) w := fun args w => by simp [go_sem]
theorem wp_build3S {o : Oper} {a : Act} {w : World} {K : Act → World → Prop} {Q : Exit → Act → World → Prop} (x y z : Operand) (ho : o.op = .buildSlice 73 3 #[(0, x), (1, y), (2, z)]) (p q s : ByteArray) (h0 : a.eval x = .string p) (h1 : a.eval y = .string q) (h2 : a.eval z = .string s)
    (h : K (a.put o.dst (.slice (some ⟨w.heap.size, 0, none⟩) 3 3)) (w.alloc (.cells #[.string p, .string q, .string s] 9))) : o.wp Tryd.prog a w K Q := by
  unfold Oper.wp execOp
  simp only [ho, List.map_toArray, List.map_cons, List.map_nil, h0, h1, h2]
  simp [go_sem]
  exact h
theorem wp_build1R {o : Oper} {a : Act} {w : World} {K : Act → World → Prop} {Q : Exit → Act → World → Prop} (x : Operand) (ho : o.op = .buildSlice 22 1 #[(0, x)]) (k0 : ByteArray) (a0 : Option Addr) (n0 c0 : Nat) (h0 : a.eval x = .agg #[.string k0, .slice a0 n0 c0])
    (h : K (a.put o.dst (.slice (some ⟨w.heap.size, 0, none⟩) 1 1)) (w.alloc (.cells #[.string k0, .slice a0 n0 c0] 75))) : o.wp Tryd.prog a w K Q := by
  unfold Oper.wp execOp
  simp only [ho, List.map_toArray, List.map_cons, List.map_nil, h0]
  simp [go_sem]
  exact h
theorem wp_appR (w : World) {o : Oper} {a : Act} {K : Act → World → Prop} {Q : Exit → Act → World → Prop} (s x : Operand) (ho : o.op = .call { callee := .builtin .append, args := #[s, x], argTypes := #[22, 22] })
    (B : Nat) (v : Value) (l : List Rw) (hs : a.eval s = v) (hown : w.ownsRow B 75 2 v l.length (rvCells l)) (e : Rw) (b : Nat) (hx : a.eval x = .slice (some ⟨b, 0, none⟩) 1 1) (hr : w.rangeAt b 0 e.vals) (hl : l.length ≤ 1000) (hB : B ≤ w.heap.size)
    (h : ∀ k cap w', w'.ownsRow B 75 2 (.slice (some ⟨k, 0, none⟩) (l ++ [e]).length cap) (l ++ [e]).length (rvCells (l ++ [e])) → w.grownBy w' v.ownBlock → (v.ownBlock = some k ∨ k = w.heap.size) → K (a.put o.dst (.slice (some ⟨k, 0, none⟩) (l ++ [e]).length cap)) w') : o.wp Tryd.prog a w K Q := by
  obtain ⟨i0, hi, hz0, hz1, hz2⟩ := info_parts Tryd.infoR
  refine wp_append_lies w s x 22 ho B 75 i0 (.agg #[.string ⟨#[]⟩, .slice none 0 0]) 2 40 Tryd.underlying22 hi hz0 hz1 hz2 rfl (by decide) v l.length (rvCells l) hs hown ⟨b, 0, none⟩ 1 1 e.vals hx rfl (fun j u hj => by rw [addr_add]; exact hr j u hj) (by rw [← rvCells_one]; exact rvCells_oneCell _) (by decide) (by unfold maxLen; omega) (by omega) hB w.heap.size rfl ?_
  intro k cap w' h1 h2 h3 _
  rw [show rvCells l ++ e.vals = rvCells (l ++ [e]) by rw [rvCells_append, rvCells_one], show l.length + 1 = (l ++ [e]).length by simp] at h1
  have := h k cap w' h1 h2 h3
  rw [show (l ++ [e]).length = l.length + 1 by simp] at this
  exact this
theorem texts3_new (w : World) (p q s : ByteArray) : (w.alloc (.cells #[.string p, .string q, .string s] 9)).ownsRow 0 9 1 (.slice (some ⟨w.heap.size, 0, none⟩) 3 3) 3 (strsOf [p, q, s]) :=
  ⟨rfl, .inr ⟨w.heap.size, 3, _, rfl, Nat.zero_le _, heap_alloc_new w _, Nat.le_refl _, by decide, rfl, rfl⟩⟩
theorem rows_grown {w w3 w4 w5 : World} {base : Nat} {v u : Value} {l : List Rw} {x : Rw} (h : RowsAt w base v l) (hb : Below w.heap.size w w4) (hg : w4.grownBy w5 v.ownBlock) (hown : w5.ownsRow base 75 2 u (l ++ [x]).length (rvCells (l ++ [x]))) (hx : w3.ownsRow 0 9 1 (.slice x.a x.cols.length x.cap) x.cols.length (strsOf x.cols)) (hb4 : Below w3.heap.size w3 w4) : RowsAt w5 base u (l ++ [x]) := by
  have key : ∀ y : Rw, w4.ownsRow 0 9 1 (.slice y.a y.cols.length y.cap) y.cols.length (strsOf y.cols) → w5.ownsRow 0 9 1 (.slice y.a y.cols.length y.cap) y.cols.length (strsOf y.cols) := fun y hy => by
    refine ⟨hy.1, ?_⟩
    rcases hy.2 with h0 | ⟨k, cap, cur, hv, hk, hj, r⟩
    · exact .inl h0
    · refine .inr ⟨k, cap, cur, hv, hk, (hg.block k (heap_lt hj) (fun e => ?_)).trans hj, r⟩
      rcases (own_onW h.1 hb).2 with ⟨h0, _⟩ | ⟨k2, cap2, cur2, hv2, hk2, hj2, _⟩
      · rw [h0] at e; cases e
      · rw [hv2] at e
        cases e
        rw [hj] at hj2
        injection hj2 with h3
        injection h3 with _ h3
        exact absurd h3 (by decide)
  refine ⟨hown, fun y hy => ?_⟩
  rcases List.mem_append.1 hy with hy | hy
  · exact key y (own_onW (h.2 y hy) hb)
  · rw [List.mem_singleton.1 hy]
    exact key x (own_onW hx hb4)
set_option maxHeartbeats 4000000 in
theorem rows_region7 {V0 W5 : World} {base E n0 c0 : Nat} {a0 : Option Addr} {l : List Rw} {e : Ev} {A : Act} (sz : A.tmps.size = 69) (e3 : A.eval (.tmp 3) = .slice a0 n0 c0) (e5 : A.eval (.tmp 5) = .pointer (some ⟨E, 0, none⟩))
    (hV0 : V0 = W5.drew) (hs0 : V0.heap[E]? = some (.cells (eVals e).toArray 55 (0, 0))) (H0 : RowsAt V0 base (.slice a0 n0 c0) l) (hT : TabAt V0) (hn : e.num ≤ 4611686018427387904) (ht : e.tim ≤ 4611686018427387904) (hfew : l.length ≤ 1000) (hbase : base ≤ V0.heap.size) (hneE : (.slice a0 n0 c0 : Value).ownBlock ≠ some E) :
    (codeRw 7).wp Tryd.prog (fun x a V => x = .normal ∧ ∃ V2 V3 : World, ∃ kk cap, a = ((((((((((((((((A.put (some 52) (.slice a0 n0 c0)).put (some 53) (.pointer (some ⟨E, 0, none⟩))).put (some 54) (.int .i64 (e.num : Int))).put (some 56) (.pointer (some ⟨E, 1, none⟩))).put (some 57) (.int .i64 (e.tim : Int))).put (some 59) (.pointer (some ⟨E, 2, none⟩))).put (some 60) (.string e.what)).put (some 61) (.pointer (some ⟨E, 3, none⟩))).put (some 62) (.string e.who)).put (some 55) (.string (evKey e.num))).put (some 58) (.string (txt e.tim))).put (some 63) (.slice (some ⟨V2.heap.size, 0, none⟩) 3 3)).put (some 64) (.agg #[.string (evKey e.num), .slice (some ⟨V2.heap.size, 0, none⟩) 3 3])).put (some 65) (.slice (some ⟨V3.heap.size, 0, none⟩) 1 1)).put (some 66) (.slice (some ⟨kk, 0, none⟩) (l ++ [evRow e V2.heap.size]).length cap)).put (some 3) (.slice (some ⟨kk, 0, none⟩) (l ++ [evRow e V2.heap.size]).length cap)) ∧ RowsAt V base (.slice (some ⟨kk, 0, none⟩) (l ++ [evRow e V2.heap.size]).length cap) (l ++ [evRow e V2.heap.size]) ∧ Below base V0 V) A W5 := by
  have hm : Tryd.prog.follows .mixedOrders = true := by kernel_rfl
  unfold codeRw
  conv => arg 2; whnf
  refine wp_region_held (S := fun V => V.heap[E]? = some (.cells (eVals e).toArray 55 (0, 0))) hm ?_
  rw [show ({ W5 with drawn := W5.drawn + 1 } : World) = V0 from hV0.symm]
  refine tkH (i := 0) (d := 52) (v := .slice a0 n0 c0) rfl rfl (yields_move (by simp [Region.wanted]) (.tmp 3) rfl _ e3) hs0 ?_
  refine tkH (i := 1) (d := 53) (v := .pointer (some ⟨E, 0, none⟩)) rfl rfl (y_ev 0 (by decide) (by simp [Region.wanted]) (.tmp 5) rfl E (evn e5)) hs0 ?_
  refine tkH (i := 2) (d := 54) (v := .int .i64 (e.num : Int)) rfl rfl (y_loadI (by simp [Region.wanted]) (.tmp 53) rfl E 0 _ (ev_eq _ _ (by simp [put_sz, sz])) (fun V hV => range_whole hV 0 _ rfl)) hs0 ?_
  refine tkH (i := 4) (d := 56) (v := .pointer (some ⟨E, 1, none⟩)) rfl rfl (y_ev 1 (by decide) (by simp [Region.wanted]) (.tmp 5) rfl E (evn (evn (evn e5)))) hs0 ?_
  refine tkH (i := 5) (d := 57) (v := .int .i64 (e.tim : Int)) rfl rfl (y_loadI (by simp [Region.wanted]) (.tmp 56) rfl E 1 _ (ev_eq _ _ (by simp [put_sz, sz])) (fun V hV => range_whole hV 1 _ rfl)) hs0 ?_
  refine tkH (i := 7) (d := 59) (v := .pointer (some ⟨E, 2, none⟩)) rfl rfl (y_ev 2 (by decide) (by simp [Region.wanted]) (.tmp 5) rfl E (evn (evn (evn (evn (evn e5)))))) hs0 ?_
  refine tkH (i := 8) (d := 60) (v := .string e.what) rfl rfl (y_loadS (by simp [Region.wanted]) (.tmp 59) rfl E 2 _ (ev_eq _ _ (by simp [put_sz, sz])) (fun V hV => range_whole hV 2 _ rfl)) hs0 ?_
  refine tkH (i := 9) (d := 61) (v := .pointer (some ⟨E, 3, none⟩)) rfl rfl (y_ev 3 (by decide) (by simp [Region.wanted]) (.tmp 5) rfl E (evn (evn (evn (evn (evn (evn (evn e5)))))))) hs0 ?_
  refine tkH (i := 10) (d := 62) (v := .string e.who) rfl rfl (y_loadS (by simp [Region.wanted]) (.tmp 61) rfl E 3 _ (ev_eq _ _ (by simp [put_sz, sz])) (fun V hV => range_whole hV 3 _ rfl)) hs0 ?_
  obtain ⟨A2, hA2⟩ : ∃ A2, A2 = (((((((((A.put (some 52) (.slice a0 n0 c0)).put (some 53) (.pointer (some ⟨E, 0, none⟩))).put (some 54) (.int .i64 (e.num : Int))).put (some 56) (.pointer (some ⟨E, 1, none⟩))).put (some 57) (.int .i64 (e.tim : Int))).put (some 59) (.pointer (some ⟨E, 2, none⟩))).put (some 60) (.string e.what)).put (some 61) (.pointer (some ⟨E, 3, none⟩))).put (some 62) (.string e.who)) := ⟨_, rfl⟩
  have szA2 : A2.tmps.size = 69 := by rw [hA2]; simp [put_sz, sz]
  have eA252 : A2.eval (.tmp 52) = .slice a0 n0 c0 := by rw [hA2]; exact (evn (evn (evn (evn (evn (evn (evn (evn (ev_eq _ _ (by simp [sz]))))))))))
  have eA254 : A2.eval (.tmp 54) = .int .i64 (e.num : Int) := by rw [hA2]; exact (evn (evn (evn (evn (evn (evn (ev_eq _ _ (by simp [put_sz, sz]))))))))
  have eA257 : A2.eval (.tmp 57) = .int .i64 (e.tim : Int) := by rw [hA2]; exact (evn (evn (evn (evn (ev_eq _ _ (by simp [put_sz, sz]))))))
  have eA260 : A2.eval (.tmp 60) = .string e.what := by rw [hA2]; exact (evn (evn (ev_eq _ _ (by simp [put_sz, sz]))))
  have eA262 : A2.eval (.tmp 62) = .string e.who := by rw [hA2]; exact (ev_eq _ _ (by simp [put_sz, sz]))
  rw [← hA2]
  refine wpAnyH_all (rs := [3]) (by kernel_rfl) (by simp) fun i1 hm1 => ?_
  obtain rfl : i1 = 3 := by simpa using hm1
  refine wpOp_own rfl rfl fun K1 hK1 => ?_
  refine wp_calls1 41 hf_eventKey (.tmp 54) _ rfl (.int .i64 (e.num : Int)) eA254 ?_
  refine (eventKey_any e.num hn V0 hT).mono ?_
  rintro _ V1 ⟨rfl, hb1⟩
  have hs1 := (hb1.block E (heap_lt hs0)).trans hs0
  refine ⟨_, rfl, hK1 _ _ ⟨hs1, ?_⟩⟩
  clear hK1 K1 hm1
  show wpAnyH _ _ _ _ _ _ _ (A2.put (some 55) (.string (evKey e.num))) _
  refine wpAnyH_all (rs := [6]) (by kernel_rfl) (by simp) fun i2 hm2 => ?_
  obtain rfl : i2 = 6 := by simpa using hm2
  refine wpOp_own rfl rfl fun K2 hK2 => ?_
  refine wp_calls1 42 hf_text (.tmp 57) _ rfl (.int .i64 (e.tim : Int)) (evn eA257) ?_
  refine (text_any e.tim ht V1 (hT.below hb1)).mono ?_
  rintro _ V2 ⟨rfl, hb2⟩
  have hs2 := (hb2.block E (heap_lt hs1)).trans hs1
  refine ⟨_, rfl, hK2 _ _ ⟨hs2, ?_⟩⟩
  clear hK2 K2 hm2
  show wpAnyH _ _ _ _ _ _ _ ((A2.put (some 55) (.string (evKey e.num))).put (some 58) (.string (txt e.tim))) _
  refine wpAnyH_all (rs := [11]) (by kernel_rfl) (by simp) fun i3 hm3 => ?_
  obtain rfl : i3 = 11 := by simpa using hm3
  refine wpOp_own rfl rfl fun K3 hK3 => ?_
  refine wp_build3S (.tmp 58) (.tmp 60) (.tmp 62) rfl (txt e.tim) e.what e.who (ev_eq _ _ (by simp [put_sz, szA2])) (evn (evn eA260)) (evn (evn eA262)) ?_
  have b3 : Below V2.heap.size V2 (V2.alloc (.cells #[.string (txt e.tim), .string e.what, .string e.who] 9)) := (Below.refl _ V2).alloc (Nat.le_refl _) _
  have hs3 := (b3.block E (heap_lt hs2)).trans hs2
  refine hK3 _ _ ⟨hs3, ?_⟩
  clear hK3 K3 hm3
  show wpAnyH _ _ _ _ _ _ _ (((A2.put (some 55) (.string (evKey e.num))).put (some 58) (.string (txt e.tim))).put (some 63) (.slice (some ⟨V2.heap.size, 0, none⟩) 3 3)) _
  refine tkH (i := 12) (d := 64) (v := .agg #[.string (evKey e.num), .slice (some ⟨V2.heap.size, 0, none⟩) 3 3]) rfl rfl (y_buildR (by simp [Region.wanted]) (.tmp 55) (.tmp 63) rfl _ _ _ _ (evn (evn (ev_eq _ _ (by simp [szA2])))) (ev_eq _ _ (by simp [put_sz, szA2]))) hs3 ?_
  obtain ⟨A3, hA3⟩ : ∃ A3, A3 = ((((A2.put (some 55) (.string (evKey e.num))).put (some 58) (.string (txt e.tim))).put (some 63) (.slice (some ⟨V2.heap.size, 0, none⟩) 3 3)).put (some 64) (.agg #[.string (evKey e.num), .slice (some ⟨V2.heap.size, 0, none⟩) 3 3])) := ⟨_, rfl⟩
  have szA3 : A3.tmps.size = 69 := by rw [hA3]; simp [put_sz, szA2]
  have eA352 : A3.eval (.tmp 52) = .slice a0 n0 c0 := by rw [hA3]; exact (evn (evn (evn (evn eA252))))
  have eA364 : A3.eval (.tmp 64) = .agg #[.string (evKey e.num), .slice (some ⟨V2.heap.size, 0, none⟩) 3 3] := by rw [hA3]; exact (ev_eq _ _ (by simp [put_sz, szA2]))
  rw [← hA3]
  refine wpAnyH_all (rs := [13]) (by kernel_rfl) (by simp) fun i4 hm4 => ?_
  obtain rfl : i4 = 13 := by simpa using hm4
  refine wpOp_own rfl rfl fun K4 hK4 => ?_
  refine wp_build1R (.tmp 64) rfl _ _ _ _ eA364 ?_
  obtain ⟨V3, hV3⟩ : ∃ V3, V3 = V2.alloc (.cells #[.string (txt e.tim), .string e.what, .string e.who] 9) := ⟨_, rfl⟩
  rw [← hV3] at hs3 b3 ⊢
  have b4 : Below V3.heap.size V3 (V3.alloc (.cells (Rw.vals (evRow e V2.heap.size)).toArray 75)) := (Below.refl _ V3).alloc (Nat.le_refl _) _
  have hs4 := (b4.block E (heap_lt hs3)).trans hs3
  refine hK4 _ _ ⟨hs4, ?_⟩
  clear hK4 K4 hm4
  show wpAnyH _ _ _ _ _ _ _ (A3.put (some 65) (.slice (some ⟨V3.heap.size, 0, none⟩) 1 1)) _
  refine wpAnyH_all (rs := [14]) (by kernel_rfl) (by simp) fun i5 hm5 => ?_
  obtain rfl : i5 = 14 := by simpa using hm5
  refine wpOp_own rfl rfl fun K5 hK5 => ?_
  have b04 : Below V0.heap.size V0 (V3.alloc (.cells (Rw.vals (evRow e V2.heap.size)).toArray 75)) := Below.on' (Below.on' (Below.on' hb1 hb2) b3) b4
  refine wp_appR _ (.tmp 52) (.tmp 65) rfl base (.slice a0 n0 c0) l (evn eA352) (own_onW H0.1 b04) (evRow e V2.heap.size) V3.heap.size (ev_eq _ _ (by simp [szA3])) (range_newR V3 _) hfew (Nat.le_trans hbase b04.size) ?_
  intro kk cap V5 hown hgrow hk
  have hs5 : V5.heap[E]? = some (.cells (eVals e).toArray 55 (0, 0)) := (hgrow.block E (heap_lt hs4) (fun x => hneE x.symm)).trans hs4
  refine hK5 _ _ ⟨hs5, ?_⟩
  clear hK5 K5 hm5
  show wpAnyH _ _ _ _ _ _ _ ((A3.put (some 65) (.slice (some ⟨V3.heap.size, 0, none⟩) 1 1)).put (some 66) (.slice (some ⟨kk, 0, none⟩) (l ++ [evRow e V2.heap.size]).length cap)) _
  refine tkH (i := 15) (d := 3) (v := .slice (some ⟨kk, 0, none⟩) (l ++ [evRow e V2.heap.size]).length cap) rfl rfl (y_assign (by simp [Region.wanted]) (.tmp 66) rfl _ (ev_eq _ _ (by simp [put_sz, szA3]))) hs5 ?_
  refine wpAnyH_done (by kernel_rfl) ⟨rfl, V2, V3, kk, cap, by rw [hA3, hA2], rows_grown H0 b04 hgrow hown (by rw [hV3]; exact texts3_new V2 _ _ _) b4, (((Below.refl _ V0).mono hbase).trans (b04.mono hbase)).grown hgrow (Nat.le_trans hbase b04.size) (fun j hj => (H0.1.lt j hj).1)⟩ _
end Go.Proofs.YthfmpebgmojcaaaDoor
/- (*Chain).Rows, by a contract. -/
namespace Go.Proofs.YthfmpebgmojcaaaDoor
open Go.RowKit
set_option linter.unusedVariables false
set_option maxRecDepth 20000
def headRows (c : Ch) : List (ByteArray × List ByteArray) := [(⟨#[35]⟩, [c.bn, c.an, c.la].map txt), (⟨#[97]⟩, [mkB c.ah]), (⟨#[98]⟩, [mkB c.bh]), (⟨#[104]⟩, [mkB c.hd])]
def evText (e : Ev) : ByteArray × List ByteArray := (evKey e.num, [txt e.tim, e.what, e.who])
def rowsOf (c : Ch) : List (ByteArray × List ByteArray) := headRows c ++ c.ev.map evText
def Rw.text (x : Rw) : ByteArray × List ByteArray := (x.key, x.cols)
theorem text1_at {w : World} {g : Nat} {t : ByteArray} (h : w.heap[g]? = some (.cells #[.string t] 9 (0, 0))) : w.ownsRow 0 9 1 (.slice (some ⟨g, 0, none⟩) 1 1) 1 (strsOf [t]) :=
  ⟨rfl, .inr ⟨g, 1, _, rfl, Nat.zero_le _, h, Nat.le_refl _, by decide, rfl, rfl⟩⟩
theorem own_val9 {w : World} {B e s n : Nat} {v : Value} {xs : List Value} (h : w.ownsRow B e s v n xs) : ∃ a cap, v = .slice a n cap := by
  rcases h.2 with ⟨rfl, h0⟩ | ⟨k, cap, cur, rfl, _⟩
  · exact ⟨none, 0, by rw [h0]⟩
  · exact ⟨_, cap, rfl⟩
def RowsPost (w : World) (c : Ch) (e : Ending) (w' : World) : Prop := ∃ v l, e = .returned v ∧ RowsAt w' w.heap.size v l ∧ l.map Rw.text = rowsOf c ∧ Below w.heap.size w w'
theorem RowsAt.on {w w' : World} {base : Nat} {v : Value} {l : List Rw} (h : RowsAt w base v l) (hb : Below w.heap.size w w') : RowsAt w' base v l := ⟨own_onW h.1 hb, fun x hx => own_onW (h.2 x hx) hb⟩
set_option maxHeartbeats 4000000 in
theorem rows_any {w : World} {B g : Nat} {v : Value} {c : Ch} (h : ChAt w B g v c) (ok : ChOk c) (hc : c.cnt < 1152921504606846976) (hT : Tabs w B) (hB : B ≤ w.heap.size) :
    Calls Tryd.prog 10 #[.pointer (some ⟨g, 0, none⟩)] w (RowsPost w c) := by
  obtain ⟨a0, cap, rfl⟩ := h.val
  have hsm : ∀ n ∈ [c.bn, c.an, c.la], n ≤ 4611686018427387904 := by
    have h1 := ok.anc
    have h2 := ok.las
    unfold Ch.cnt at hc
    intro n hn
    simp at hn
    rcases hn with rfl | rfl | rfl <;> omega
  have hev : ∀ i (hi : i < c.ev.length), (c.ev[i]).num ≤ 4611686018427387904 ∧ (c.ev[i]).tim ≤ 4611686018427387904 := fun i hi => by
    have h1 := ok.num i hi
    have h2 := ok.tim _ (List.getElem_mem hi)
    have h3 := ok.las
    unfold Ch.cnt at hc
    omega
  have HH := hid h
  have OK := hid ok
  have HT := hid hT
  have Hsm := hid hsm
  have Hev := hid hev
  have hfew := ok.few
  clear h ok hT hsm hev
  go_enter Tryd.func10, Tryd.ntmps10
  go_wp2_with fail
  obtain ⟨V0, hV0⟩ : ∃ V0, V0 = w.drew := ⟨_, rfl⟩
  have b0 : Below w.heap.size w V0 := by rw [hV0]; exact (Below.refl _ w).drew
  refine wp_act _ fun A hA => ?_
  have sz : A.tmps.size = 69 := by rw [hA]; rfl
  have e0 : A.eval (.tmp 0) = .pointer (some ⟨g, 0, none⟩) := by rw [hA]; rfl
  refine wp_split _ (rows_region3 sz e0 hV0 ⟨HH.out.below b0, HT.out.below hB b0, Nat.le_trans hB b0.size⟩ OK.out.l Hsm.out) ?_
  rintro _ _ ⟨V5, at3, ct3, g3, g4, g5, rfl, rfl, htx, hg3, hg4, hg5, b5⟩
  rw [hA]
  simp only [Act.put, List.setIfInBounds_toArray, List.set_cons_succ, List.set_cons_zero]
  clear sz e0 hA A
  have bV5 : Below w.heap.size w V5 := Below.on' b0 b5
  obtain ⟨V6, hV6⟩ : ∃ V6, V6 = V5.alloc (.cells #[.string ⟨#[35]⟩, .slice at3 3 ct3, .string ⟨#[97]⟩, .slice (some ⟨g3, 0, none⟩) 1 1, .string ⟨#[98]⟩, .slice (some ⟨g4, 0, none⟩) 1 1, .string ⟨#[104]⟩, .slice (some ⟨g5, 0, none⟩) 1 1] 75) := ⟨_, rfl⟩
  have b6 : Below V5.heap.size V5 V6 := by rw [hV6]; exact (Below.refl _ V5).alloc (Nat.le_refl _) _
  have bV6 : Below w.heap.size w V6 := Below.on' bV5 b6
  obtain ⟨L0, hL0⟩ : ∃ L0 : List Rw, L0 = [⟨⟨#[35]⟩, at3, [c.bn, c.an, c.la].map txt, ct3⟩, ⟨⟨#[97]⟩, some ⟨g3, 0, none⟩, [mkB c.ah], 1⟩, ⟨⟨#[98]⟩, some ⟨g4, 0, none⟩, [mkB c.bh], 1⟩, ⟨⟨#[104]⟩, some ⟨g5, 0, none⟩, [mkB c.hd], 1⟩] := ⟨_, rfl⟩
  have hR6 : RowsAt V6 w.heap.size (.slice (some ⟨V5.heap.size, 0, none⟩) 4 4) L0 := by
    refine ⟨?_, fun x hx => own_onW (w := V5) ?_ b6⟩
    · rw [hL0]
      refine ⟨rfl, .inr ⟨V5.heap.size, 4, _, rfl, bV5.size, by rw [hV6]; exact heap_alloc_new V5 _, Nat.le_refl _, by decide, rfl, rfl⟩⟩
    · rw [hL0] at hx
      simp only [List.mem_cons, List.not_mem_nil, or_false] at hx
      rcases hx with rfl | rfl | rfl | rfl
      · exact htx
      · exact text1_at hg3
      · exact text1_at hg4
      · exact text1_at hg5
  have hT6 : L0.map Rw.text = headRows c := by rw [hL0]; rfl
  have hl6 : L0.length = 4 := by rw [hL0]; rfl
  rw [← hV6]
  have HR6 := hid hR6
  have HT6 := hid hT6
  have BV6 := hid bV6
  have q66 := (HH.out.below bV6).c66 OK.out.l
  have Hl6 := hid hl6
  clear hV6 hL0 hR6 hT6 hl6 b6 bV6 htx hg3 hg4 hg5 b5 bV5 b0 hV0
  go_wp2_with fail
  go_loopw [3, 48] (fun v3 i wr => ∃ k : Nat, k ≤ c.ev.length ∧ i = .int .i64 (k : Int) ∧ ∃ L : List Rw, RowsAt wr w.heap.size v3 L ∧ L.map Rw.text = headRows c ++ (c.ev.take k).map evText ∧ Below w.heap.size w wr) (fun _ i _ => c.ev.length - (intOf i).toNat)
  case atStart => exact ⟨0, Nat.zero_le _, rfl, _, HR6.out, by rw [HT6.out]; simp, BV6.out⟩
  case round =>
    obtain ⟨k, hk, rfl, L, hR, hLt, hbel⟩ := hrel
    have hLl : L.length = 4 + k := by
      have := congrArg List.length hLt
      simp [headRows, Nat.min_eq_left hk] at this
      omega
    obtain ⟨a3, c3, rfl⟩ := own_val9 hR.1
    have HR := hid hR
    have HLt := hid hLt
    have Hbel := hid hbel
    have HLl := hid hLl
    clear hR hLt hbel hLl HR6 HT6 BV6 Hl6
    by_cases hlt : k < c.ev.length
    · have g1 : (k : Int) < (c.ev.length : Int) := by omega
      obtain ⟨b, rfl, hrow⟩ := (HH.out.below Hbel.out).row_at k hlt
      obtain ⟨hn, ht⟩ := Hev.out k hlt
      have Hst : Hid ((c.ev.take (k + 1)).map evText = (c.ev.take k).map evText ++ [evText c.ev[k]]) := by show _ = _; rw [List.take_succ_eq_append_getElem hlt, List.map_append]; rfl
      generalize (c.ev[k]'hlt) = e at *
      have d0 : wr.cell? ⟨b, k * 4, none⟩ = some (.int .i64 (e.num : Int)) := hrow 0 _ rfl
      have d1 : wr.cell? ⟨b, k * 4 + 1, none⟩ = some (.int .i64 (e.tim : Int)) := hrow 1 _ rfl
      have d2 : wr.cell? ⟨b, k * 4 + 2, none⟩ = some (.string e.what) := hrow 2 _ rfl
      have d3 : wr.cell? ⟨b, k * 4 + 3, none⟩ = some (.string e.who) := hrow 3 _ rfl
      have Hn := hid hn
      have Ht := hid ht
      clear hrow hn ht
      go_wp2_with fail
      obtain ⟨W5, hW5⟩ : ∃ W5, W5 = wr.alloc (.cells #[.int .i64 (e.num : Int), .int .i64 (e.tim : Int), .string e.what, .string e.who] 55) := ⟨_, rfl⟩
      have b5 : Below wr.heap.size wr W5 := by rw [hW5]; exact (Below.refl _ wr).alloc (Nat.le_refl _) _
      have s5 : W5.heap[wr.heap.size]? = some (.cells (eVals e).toArray 55 (0, 0)) := by rw [hW5]; exact heap_alloc_new wr _
      rw [← hW5]
      obtain ⟨V0, hV0⟩ : ∃ V0, V0 = W5.drew := ⟨_, rfl⟩
      have b6 : Below wr.heap.size wr V0 := by rw [hV0]; exact b5.drew
      have s6 : V0.heap[wr.heap.size]? = some (.cells (eVals e).toArray 55 (0, 0)) := by rw [hV0]; exact s5
      have T6 : TabAt V0 := (HT.out.below hB (Below.on' Hbel.out b6)).tab
      have hneE : (Value.slice a3 L.length c3).ownBlock ≠ some wr.heap.size := fun x => by have := (HR.out.1.lt _ x).2; omega
      refine wp_act _ fun A hA => ?_
      have sz : A.tmps.size = 69 := by rw [hA]; rfl
      have e3 : A.eval (.tmp 3) = .slice a3 L.length c3 := by rw [hA]; rfl
      have e5 : A.eval (.tmp 5) = .pointer (some ⟨wr.heap.size, 0, none⟩) := by rw [hA]; rfl
      refine wp_split _ (rows_region7 sz e3 e5 hV0 s6 (HR.out.on b6) T6 Hn.out Ht.out (by have := HLl.out; omega) (Nat.le_trans Hbel.out.size b6.size) hneE) ?_
      rintro _ V1 ⟨V2, V3, kk, cp, rfl, hR1, b7⟩
      rw [hA]
      simp only [Act.put, List.setIfInBounds_toArray, List.set_cons_succ, List.set_cons_zero]
      have hT1 : (L ++ [evRow e V2.heap.size]).map Rw.text = headRows c ++ (c.ev.take (k + 1)).map evText := by
        rw [List.map_append, HLt.out, Hst.out, List.append_assoc]
        rfl
      obtain ⟨L1, hL1⟩ : ∃ L1, L1 = L ++ [evRow e V2.heap.size] := ⟨_, rfl⟩
      rw [← hL1] at hR1 hT1 ⊢
      have HR1 := hid hR1
      have HT1 := hid hT1
      have B1 := hid ((Below.on' Hbel.out b6).trans b7)
      clear sz e3 e5 hA A hR1 hT1 b7 hL1 b5 b6 s5 s6 T6 hW5 hV0 hneE d0 d1 d2 d3
      go_wp2_with fail
      go_roundw
      case rel => exact ⟨k + 1, by omega, by go_num, L1, HR1.out, HT1.out, B1.out⟩
      case measure => simp [intOf]; omega
    · have hkl : k = c.ev.length := by omega
      have g1 : ¬ (k : Int) < (c.ev.length : Int) := by omega
      have hend := HLt.out
      rw [hkl, List.take_length] at hend
      have Hend := hid hend
      clear hkl hend
      go_wp2_with fail
      go_ret
      exact ⟨_, L, rfl, HR.out, Hend.out, Hbel.out⟩
end Go.Proofs.YthfmpebgmojcaaaDoor
/- The reference's text of a hash; a law for regions whose operations come in any order. -/
namespace Go.Proofs.YthfmpebgmojcaaaDoor
open Go.RowKit
set_option linter.unusedVariables false
set_option maxRecDepth 20000
theorem conv_own {w : World} {B : Nat} {v : Value} {h : List UInt8} (hl : h.length = 32) (ho : w.ownsRow B 5 1 v h.length (cellsOf h)) : ∃ g cap, v = .slice (some ⟨g, 0, none⟩) h.length cap ∧ (convert 40 9 v).run Tryd.prog w = .ok (.string (mkB h)) w := by
  have ho' := ho
  rcases ho.2 with ⟨_, h0⟩ | ⟨g, cap, cur, rfl, _, hg, _, _, _, ht⟩
  · omega
  · refine ⟨g, cap, rfl, ?_⟩
    refine run_convert_bytes_back (P := Tryd.prog) w 40 9 5 ⟨g, 0, none⟩ cap h Tryd.underlying40 Tryd.underlying5 Tryd.underlying9 (fun j hj => ?_)
    have := ho'.cells (g := g) rfl j (.int .u8 (h[j].toNat : Int)) (by simp [cellsOf, hj])
    exact this
set_option maxHeartbeats 1000000 in
theorem rHBytes_any (h : List UInt8) (hl : h.length = 32) (w : World) :
    Calls Tryd.prog 106 #[.agg (bvs h)] w fun e w' => ∃ v, e = .returned v ∧ w'.ownsRow w.heap.size 5 1 v h.length (cellsOf h) ∧ Below w.heap.size w w' := by
  have x0 := hid (heap_alloc_new w (.cells (bvs h) 69))
  have hsz := hid (size_hashs h hl)
  have HB := hid (refBytesOf_any (w := w.alloc (.cells (bvs h) 69)) (H := bvs h) (h := h) ⟨rfl, hl⟩)
  have b0 := hid ((Below.refl _ w).alloc (Nat.le_refl _) (.cells (bvs h) 69))
  generalize bvs h = O at *
  go_enter Tryd.func106, Tryd.ntmps106
  go_wp2_with (first
    | (with_reducible show Go.wpList _ _ _ _ _ _; refine wpList_load_row rfl 69 _ rfl w.heap.size rfl _ _ _ _ x0.out Tryd.underlying69 rfl hsz.out ?_)
    | (go_at_call 103; refine HB.out.mono ?_; rintro e w1 ⟨v, rfl, ho, hb⟩))
  go_ret
  exact ⟨v, rfl, own_mono ho (by simp), Below.on' b0.out hb⟩
set_option maxHeartbeats 1000000 in
theorem text14_any (h : List UInt8) (hl : h.length = 32) (w : World) :
    Calls Tryd.prog 82 #[.agg (bvs h)] w fun e w' => e = .returned (.string (mkB h)) ∧ Below w.heap.size w w' := by
  have x0 := hid (heap_alloc_new w (.cells (bvs h) 69))
  have hsz := hid (size_hashs h hl)
  have HB := hid (rHBytes_any h hl (w.alloc (.cells (bvs h) 69)))
  have b0 := hid ((Below.refl _ w).alloc (Nat.le_refl _) (.cells (bvs h) 69))
  have Hl := hid hl
  obtain ⟨t, ht⟩ : ∃ t, t = mkB h := ⟨_, rfl⟩
  have Ht := hid ht
  rw [← ht]
  clear hl ht
  generalize bvs h = O at *
  go_enter Tryd.func82, Tryd.ntmps82
  go_wp2_with (first
    | (with_reducible show Go.wpList _ _ _ _ _ _; refine wpList_load_row rfl 69 _ rfl w.heap.size rfl _ _ _ _ x0.out Tryd.underlying69 rfl hsz.out ?_)
    | (go_at_call 106; refine HB.out.mono ?_; rintro e w1 ⟨v, rfl, ho, hb⟩; obtain ⟨g, cap, rfl, hcv⟩ := conv_own Hl.out ho; rw [← Ht.out] at hcv))
  go_ret
  exact ⟨rfl, Below.on' b0.out hb⟩
/- a region whose operations come in any order -/
theorem mem_ready {md : Region.Mode} {ops : Array Oper} {l : Array Bool} {i : Nat} : i ∈ Region.ready md ops l ↔ i < ops.size ∧ l.getD i true = false ∧ ((ops[i]?).map (·.after.all fun e => !Region.binds md e || l.getD e.on false)).getD false = true := by
  unfold Region.ready
  rw [List.mem_filter, List.mem_range]
  simp
def topBut (n i d : Nat) : Array Bool := ((Array.replicate n true).setIfInBounds i false).setIfInBounds d false
theorem ready_dep {md : Region.Mode} {ops : Array Oper} {l : Array Bool} {i : Nat} (hl : l.size = ops.size) (d : Nat) (hd : d < ops.size) (hc : (Region.ready md ops (topBut ops.size i d)).contains i = false) (hi : i ∈ Region.ready md ops l) : l.getD d false = true := by
  cases hv : l.getD d false with
  | true => rfl
  | false =>
    exfalso
    have h1 := mem_ready.1 hi
    have : i ∈ Region.ready md ops (topBut ops.size i d) := by
      refine mem_ready.2 ⟨h1.1, ?_, ?_⟩
      · unfold topBut
        by_cases e : d = i
        · subst e
          simp [Array.getD, h1.1]
        · simp [Array.getD, h1.1, e]
      · have h2 := h1.2.2
        cases ho : ops[i]? with
        | none => rw [ho] at h2; cases h2
        | some o =>
          rw [ho] at h2
          simp only [Option.map_some, Option.getD_some] at h2 ⊢
          rw [Array.all_eq_true] at h2 ⊢
          intro j hj
          have h3 := h2 j hj
          simp only [Bool.or_eq_true, Bool.not_eq_true'] at h3 ⊢
          rcases h3 with h3 | h3
          · exact .inl h3
          · refine .inr ?_
            have hlt : o.after[j].on < l.size := by
              by_cases hlt : o.after[j].on < l.size
              · exact hlt
              · simp [Array.getD, hlt] at h3
            have n1 : o.after[j].on ≠ d := fun e => by rw [e, hv] at h3; cases h3
            have n2 : o.after[j].on ≠ i := fun e => by
              rw [e] at h3 hlt
              have h4 := h1.2.1
              simp only [Array.getD, hlt, dif_pos] at h3 h4
              rw [h3] at h4
              cases h4
            rw [hl] at hlt
            unfold topBut
            simp [Array.getD, hlt, Ne.symm n1, Ne.symm n2]
    have h5 : (Region.ready md ops (topBut ops.size i d)).contains i = true := List.contains_iff_mem.2 this
    rw [hc] at h5
    cases h5
theorem ready_none {md : Region.Mode} {ops : Array Oper} {l : Array Bool} (hl : l.size = ops.size) (hc : ((List.range ops.size).all fun i => ((ops[i]?).map (·.after.all fun e => !Region.binds md e || decide (e.on < i))).getD false) = true) (hr : Region.ready md ops l = []) : ∀ i, i < ops.size → l.getD i false = true := by
  intro i
  induction i using Nat.strongRecOn with
  | _ i ih =>
    intro hi
    cases hv : l.getD i false with
    | true => rfl
    | false =>
      exfalso
      have hil : i < l.size := by omega
      have hv2 : l.getD i true = false := by
        simp only [Array.getD, hil, dif_pos] at hv ⊢
        exact hv
      have : i ∈ Region.ready md ops l := by
        refine mem_ready.2 ⟨hi, hv2, ?_⟩
        have h2 := List.all_eq_true.1 hc i (List.mem_range.2 hi)
        cases ho : ops[i]? with
        | none => rw [ho] at h2; cases h2
        | some o =>
          rw [ho] at h2
          simp only [Option.map_some, Option.getD_some] at h2 ⊢
          rw [Array.all_eq_true] at h2 ⊢
          intro j hj
          have h3 := h2 j hj
          simp only [Bool.or_eq_true, Bool.not_eq_true', decide_eq_true_eq] at h3 ⊢
          rcases h3 with h3 | h3
          · exact .inl h3
          · exact .inr (ih _ h3 (by omega))
      rw [hr] at this
      cases this
theorem count_set_true (l : Array Bool) (i : Nat) (h : l.getD i true = false) : (l.setIfInBounds i true).toList.count false + 1 = l.toList.count false := by
  have hi : i < l.size := by
    by_cases hi : i < l.size
    · exact hi
    · simp [Array.getD, hi] at h
  have hv : l.toList[i]'(by simpa using hi) = false := by
    simp only [Array.getD, hi, dif_pos] at h
    simpa using h
  have hm : false ∈ l.toList := by rw [← hv]; exact List.getElem_mem _
  have hp : 0 < l.toList.count false := List.count_pos_iff.2 hm
  rw [Array.toList_setIfInBounds, List.count_set (by simpa using hi), hv]
  show l.toList.count false - 1 + 0 + 1 = _
  omega
theorem wpAnyH_inv {P : Program} {md : Region.Mode} {ops : Array Oper} {Q : Exit → Act → World → Prop} {S : World → Prop} (I : Array Bool → Act → World → Prop)
    (hS : ∀ l a w, I l a w → S w) (hQ : ∀ l a w, I l a w → Region.ready md ops l = [] → Q .normal a w)
    (hstep : ∀ l a w i, I l a w → i ∈ Region.ready md ops l → wpOp P ops Q i (fun a' w' => I (l.setIfInBounds i true) a' w') a w) :
    ∀ (fuel : Nat) (l : Array Bool) (a : Act) (w : World), l.toList.count false ≤ fuel → I l a w → wpAnyH P md ops Q S fuel l a w
  | 0, l, a, w, hf, h => by
    have hr : Region.ready md ops l = [] := by
      cases hr : Region.ready md ops l with
      | nil => rfl
      | cons i r =>
        exfalso
        have hi : i ∈ Region.ready md ops l := by rw [hr]; exact List.mem_cons_self
        have := count_set_true l i (mem_ready.1 hi).2.1
        omega
    exact ⟨hr, hQ l a w h hr⟩
  | fuel + 1, l, a, w, hf, h => by
    refine ⟨hQ l a w h, fun i hi => ?_⟩
    refine wpOp_mono (fun a' w' h' => ⟨hS _ a' w' h', wpAnyH_inv I hS hQ hstep fuel _ a' w' ?_ h'⟩) (hstep l a w i h hi)
    have := count_set_true l i (mem_ready.1 hi).2.1
    omega
theorem getD_set_ne (l : Array Bool) (i j : Nat) (b : Bool) (h : i ≠ j) : (l.setIfInBounds i true).getD j b = l.getD j b := by
  by_cases hj : j < l.size
  · simp [Array.getD, hj, h]
  · simp [Array.getD, hj]
end Go.Proofs.YthfmpebgmojcaaaDoor
