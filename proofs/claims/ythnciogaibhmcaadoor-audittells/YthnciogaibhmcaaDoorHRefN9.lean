/- YthnciogaibhmcaaDoorHRefBase + YthnciogaibhmcaaDoorHRefR7 + YthnciogaibhmcaaDoorHRefO7 + YthnciogaibhmcaaDoorHRefL7 + YthnciogaibhmcaaDoorHRefL8 + YthnciogaibhmcaaDoorHRefM8 + YthnciogaibhmcaaDoorHRefL6 + YthnciogaibhmcaaDoorHRefM6 + YthnciogaibhmcaaDoorHRefL5 + YthnciogaibhmcaaDoorHRefM5 + YthnciogaibhmcaaDoorHRefM4 + YthnciogaibhmcaaDoorHRefM3 + YthnciogaibhmcaaDoorHRefM9 + YthnciogaibhmcaaDoorHRefN9 -/
import Derived.Test.YthnciogaibhmcaaDoorHYields
import Derived.BigRegion
import Derived.Test.YthnciogaibhmcaaDoorHRegAt
/- What the walk of the reference's Sum leans on. -/
namespace Go.Proofs.YthnciogaibhmcaaDoor
open Go.RowKit
set_option linter.unusedVariables false
set_option maxRecDepth 100000

/-- the bytes, the mark, and so many noughts -/
def zpad (l : List UInt8) (k : Nat) : List UInt8 := l ++ 128 :: List.replicate k 0
theorem zpad_length (l : List UInt8) (k : Nat) : (zpad l k).length = l.length + 1 + k := by simp [zpad]; omega
theorem zpad_step (l : List UInt8) (k : Nat) : zpad l k ++ [0] = zpad l (k + 1) := by
  simp [zpad, List.replicate_succ', List.append_assoc]
/-- all, with k bytes of the size -/
def mAt (l : List UInt8) (k : Nat) : List UInt8 := zpad l (noughts l.length) ++ (be8 (l.length * 8)).take k
theorem mAt_all (l : List UInt8) : mAt l 8 = l ++ pad l.length := by
  unfold mAt zpad pad
  rw [List.take_of_length_le (by rw [be8_length]; omega), List.append_assoc, List.cons_append]
theorem mAt_step (l : List UInt8) (k : Nat) (h : k < 8) : mAt l k ++ [UInt8.ofNat (l.length * 8 / 2 ^ (56 - 8 * k))] = mAt l (k + 1) := by
  unfold mAt
  rw [List.take_succ_eq_append_getElem (by rw [be8_length]; exact h), be8_get _ _ h, List.append_assoc]
theorem mAt_length (l : List UInt8) (k : Nat) : (mAt l k).length ≤ l.length + 73 := by
  have h1 : ((be8 (l.length * 8)).take k).length ≤ 8 := by rw [List.length_take, be8_length]; omega
  have h2 : noughts l.length < 64 := by unfold noughts; omega
  unfold mAt
  rw [List.length_append, zpad_length]
  omega

/-- what the blocks' loop keeps: the state, the constants, the bytes -/
structure BL (N gm : Nat) (cur : Array Value) (V wr : World) (s : S8) : Prop where
  h : wr.heap[N + 1]? = some (.cells s.vals 101 (0, 0))
  k : wr.heap[N + 1 + 1]? = some (.cells kcells 101 (0, 0))
  m : wr.heap[gm]? = some (.cells cur 5 (0, 0))
  bel : Below (N + 1) V wr
theorem BL.below {N gm : Nat} {cur : Array Value} {V wr wr' : World} {s : S8} (h : BL N gm cur V wr s) (hb : Below wr.heap.size wr wr') : BL N gm cur V wr' s :=
  ⟨(hb.block _ (heap_lt h.h)).trans h.h, (hb.block _ (heap_lt h.k)).trans h.k, (hb.block _ (heap_lt h.m)).trans h.m, h.bel.trans (hb.mono (Nat.le_of_lt (heap_lt h.h)))⟩
theorem BL.alloc {N gm : Nat} {cur : Array Value} {V wr : World} {s : S8} (h : BL N gm cur V wr s) (o : Obj) : BL N gm cur V (wr.alloc o) s := h.below ((Below.refl _ _).alloc (Nat.le_refl _) _)
theorem BL.other {N gm : Nat} {cur : Array Value} {V wr wr' : World} {s : S8} (h : BL N gm cur V wr s) (g : Nat) (h1 : g ≠ N + 1) (h2 : g ≠ N + 1 + 1) (h3 : g ≠ gm) (h4 : N + 1 ≤ g) (hb : ∀ k, k ≠ g → wr'.heap[k]? = wr.heap[k]?) (hbel : Below (N + 1) wr wr') : BL N gm cur V wr' s :=
  ⟨(hb _ (Ne.symm h1)).trans h.h, (hb _ (Ne.symm h2)).trans h.k, (hb _ (Ne.symm h3)).trans h.m, h.bel.trans hbel⟩
theorem made_words (n : Nat) : madeCells (Value.int .u32 0).cells n = wvs (List.replicate n 0) := by
  have h : (madeCells (Value.int .u32 0).cells n).toList = (wvs (List.replicate n 0)).toList := by
    have : (Value.int .u32 0).cells = #[.int .u32 0] := rfl
    rw [this, toList_madeCells_one]
    simp [wvs]
  exact Array.toList_inj.1 h
theorem extZ_cell' {bs : List UInt8} {w : World} {g k : Nat} {t : TypeId} (h0 : 16 ≤ k) (h1 : k < 64) (d : Nat) (hd : 0 < d) (hd2 : d ≤ 16) (hW : w.heap[g]? = some (.cells (wvs (extZ bs k)) t (0, 0))) :
    w.cell? ⟨g, k - d, none⟩ = some (vw ((ext (k - 16) (wordsAt bs 64)).getD (k - d) 0)) := by
  rw [cell_of_row _ _ _ _ _ _ hW, wvs, List.getElem?_toArray, List.getElem?_map, extZ_get bs k (k - d) h0 (by omega)]
  rfl
theorem nextW_at (bs : List UInt8) (k : Nat) (h0 : 16 ≤ k) (h1 : k < 64) : nextW (ext (k - 16) (wordsAt bs 64)) = nearMix ((ext (k - 16) (wordsAt bs 64)).getD (k - 2) 0) + (ext (k - 16) (wordsAt bs 64)).getD (k - 7) 0 + farMix ((ext (k - 16) (wordsAt bs 64)).getD (k - 15) 0) + (ext (k - 16) (wordsAt bs 64)).getD (k - 16) 0 := by
  have hl : (ext (k - 16) (wordsAt bs 64)).length = k := by rw [ext_length, wordsAt_length]; omega
  unfold nextW
  rw [hl]
/-- eight words of a state at the head of a row -/
def VW (w : World) (g : Nat) (s : S8) : Prop := ∀ q (h : q < 8), w.cell? ⟨g, q, none⟩ = some (vw (s.toL[q]'h))
theorem VW.below {w w' : World} {g : Nat} {s : S8} (h : VW w g s) (hb : Below w.heap.size w w') : VW w' g s := fun q hq => (hb.cell (World.block_lt_of_cell? _ _ (h q hq))).trans (h q hq)
theorem vrow_of {w : World} {B : Nat} {v : Value} {s : S8} (h : w.ownsRow B 101 1 v ([] ++ s.toL).length (([] ++ s.toL).map vw)) : ∃ g cap, v = .slice (some ⟨g, 0, none⟩) 8 cap ∧ B ≤ g ∧ VW w g s := by
  rcases h.2 with ⟨_, h0⟩ | ⟨g, cap, cur, hv, hb, hg, hc, hm, hs, ht⟩
  · have : (8 : Nat) = 0 := h0
    omega
  · refine ⟨g, cap, hv, hb, fun q hq => ?_⟩
    rw [cell_of_row _ _ _ _ _ _ hg]
    have h3 := congrArg (fun l : List Value => l[q]?) ht
    have hq' : q < ([] ++ s.toL).length * 1 := hq
    simp only [List.getElem?_take_of_lt hq'] at h3
    rw [← Array.getElem?_toList, h3, List.nil_append, List.getElem?_map, List.getElem?_eq_getElem (by exact hq)]
    rfl
theorem rd_at (a b c d e f g h kk ww : W32) : rd ⟨a, b, c, d, e, f, g, h⟩ (ww + kk) = ⟨h + (rotr e 6 ^^^ rotr e 11 ^^^ rotr e 25) + (e &&& f ^^^ ~~~e &&& g) + kk + ww + (rotr a 2 ^^^ rotr a 13 ^^^ rotr a 22) + (a &&& b ^^^ a &&& c ^^^ b &&& c), a, b, c, d + (h + (rotr e 6 ^^^ rotr e 11 ^^^ rotr e 25) + (e &&& f ^^^ ~~~e &&& g) + kk + ww), e, f, g⟩ := by
  unfold rd t1 t2
  simp only
  generalize rotr e 6 ^^^ rotr e 11 ^^^ rotr e 25 = s1
  generalize e &&& f ^^^ ~~~e &&& g = ch
  generalize rotr a 2 ^^^ rotr a 13 ^^^ rotr a 22 = s0
  generalize a &&& b ^^^ a &&& c ^^^ b &&& c = mj
  have e1 : h + s1 + ch + (ww + kk) = h + s1 + ch + kk + ww := by ac_rfl
  rw [e1]
  have e2 : h + s1 + ch + kk + ww + (s0 + mj) = h + s1 + ch + kk + ww + s0 + mj := by ac_rfl
  rw [e2]
theorem eq_yields {ops : Array Oper} {S : World → Prop} {op : Oper} {a : Act} {p q : W32} (h : p = q) (hy : YieldsIf Tryd.prog ops S op (vw p) a) : YieldsIf Tryd.prog ops S op (vw q) a := h ▸ hy
theorem vw_alloc {wr : World} {gv gk gw r : Nat} {s : S8} {kk ww : W32} (h : VW wr gv s ∧ wr.cell? ⟨gk, r, none⟩ = some (vw kk) ∧ wr.cell? ⟨gw, r, none⟩ = some (vw ww)) (o : Obj) : VW (wr.alloc o) gv s ∧ (wr.alloc o).cell? ⟨gk, r, none⟩ = some (vw kk) ∧ (wr.alloc o).cell? ⟨gw, r, none⟩ = some (vw ww) := by
  have hb : Below wr.heap.size wr (wr.alloc o) := (Below.refl _ _).alloc (Nat.le_refl _) o
  exact ⟨h.1.below hb, (hb.cell (World.block_lt_of_cell? _ _ h.2.1)).trans h.2.1, (hb.cell (World.block_lt_of_cell? _ _ h.2.2)).trans h.2.2⟩
end Go.Proofs.YthnciogaibhmcaaDoor

/- The rounds of the reference's Sum (loop 7): its regions, each a theorem over a frame that is a letter. -/
namespace Go.Proofs.YthnciogaibhmcaaDoor
open Go.RowKit
set_option linter.unusedVariables false
set_option maxRecDepth 100000
noncomputable def code33 : Code := ((Tryd.f66.body.bind (regionAt 33)).getD .skip)
set_option maxHeartbeats 4000000 in
theorem reg33 (A : Act) (W : World) (gv cv gk gw r : Nat) (a b c d e f g h kk ww X1 SG1 : W32) (ZX1 : Hid (X1 = rotr e 6 ^^^ rotr e 11)) (ZSG1 : Hid (SG1 = X1 ^^^ rotr e 25)) (sz : A.tmps.size = 288) (x15 : A.eval (.tmp 15) = .slice (some ⟨gv, 0, none⟩) 8 cv) (hs0 : Hid (VW W gv ⟨a, b, c, d, e, f, g, h⟩ ∧ W.cell? ⟨gk, r, none⟩ = some (vw kk) ∧ W.cell? ⟨gw, r, none⟩ = some (vw ww))) :
    Code.wp Tryd.prog code33 (fun ex A' W' => ex = .normal ∧ A' = (((((((((((((((A.put (some 143) (.slice (some ⟨gv, 0, none⟩) 8 cv)).put (some 144) (.pointer (some ⟨gv, 4, none⟩))).put (some 145) (vw e)).put (some 147) (.slice (some ⟨gv, 0, none⟩) 8 cv)).put (some 148) (.pointer (some ⟨gv, 4, none⟩))).put (some 149) (vw e)).put (some 152) (.slice (some ⟨gv, 0, none⟩) 8 cv)).put (some 153) (.pointer (some ⟨gv, 4, none⟩))).put (some 154) (vw e)).put (some 146) (vw (rotr e 6))).put (some 150) (vw (rotr e 11))).put (some 151) (vw X1)).put (some 155) (vw (rotr e 25))).put (some 156) (vw SG1)).put (some 17) (vw SG1)) ∧ W' = W.drew.drew.drew.drew) A W := by
  have hmx : Tryd.prog.follows .mixedOrders = true := by kernel_rfl
  have E6 := hid (turn_any e 6 (by omega) (by omega))
  have E11 := hid (turn_any e 11 (by omega) (by omega))
  have E25 := hid (turn_any e 25 (by omega) (by omega))
  conv => arg 2; whnf
  refine wp_region_held (S := fun w9 => VW w9 gv ⟨a, b, c, d, e, f, g, h⟩ ∧ w9.cell? ⟨gk, r, none⟩ = some (vw kk) ∧ w9.cell? ⟨gw, r, none⟩ = some (vw ww)) hmx ?_
  show wpAnyH _ _ _ _ _ _ _ _ (World.drew W)
  refine wpAnyH_take (i := 0) (v := .slice (some ⟨gv, 0, none⟩) 8 cv) rfl (by kernel_rfl) (by kernel_rfl) (by kernel_rfl) (fun _ _ _ h => nomatch h.1) (yields_move (by simp [Region.wanted]) (.tmp 15) rfl _ x15) hs0.out ?_
  refine wpAnyH_take (i := 1) (v := .pointer (some ⟨gv, 4, none⟩)) rfl (by kernel_rfl) (by kernel_rfl) (by kernel_rfl) (fun _ _ _ h => nomatch h.1) (y_index (by simp [Region.wanted]) (.tmp 143) (.const (.int .i64 4)) rfl gv 8 cv 4 (ev_eq _ _ (by simp [sz])) rfl (by omega)) hs0.out ?_
  refine wpAnyH_take (i := 2) (v := vw e) rfl (by kernel_rfl) (by kernel_rfl) (by kernel_rfl) (fun _ _ _ h => nomatch h.1) (y_load (by simp [Region.wanted]) (.tmp 144) rfl gv 4 e (ev_eq _ _ (by simp [put_sz, sz])) (fun w h => h.1 4 (by omega))) hs0.out ?_
  refine wpAnyH_take (i := 4) (v := .slice (some ⟨gv, 0, none⟩) 8 cv) rfl (by kernel_rfl) (by kernel_rfl) (by kernel_rfl) (fun _ _ _ h => nomatch h.1) (yields_move (by simp [Region.wanted]) (.tmp 15) rfl _ ((ev_ne _ _ (by decide)).trans ((ev_ne _ _ (by decide)).trans ((ev_ne _ _ (by decide)).trans x15)))) hs0.out ?_
  refine wpAnyH_take (i := 5) (v := .pointer (some ⟨gv, 4, none⟩)) rfl (by kernel_rfl) (by kernel_rfl) (by kernel_rfl) (fun _ _ _ h => nomatch h.1) (y_index (by simp [Region.wanted]) (.tmp 147) (.const (.int .i64 4)) rfl gv 8 cv 4 (ev_eq _ _ (by simp [put_sz, sz])) rfl (by omega)) hs0.out ?_
  refine wpAnyH_take (i := 6) (v := vw e) rfl (by kernel_rfl) (by kernel_rfl) (by kernel_rfl) (fun _ _ _ h => nomatch h.1) (y_load (by simp [Region.wanted]) (.tmp 148) rfl gv 4 e (ev_eq _ _ (by simp [put_sz, sz])) (fun w h => h.1 4 (by omega))) hs0.out ?_
  refine wpAnyH_take (i := 9) (v := .slice (some ⟨gv, 0, none⟩) 8 cv) rfl (by kernel_rfl) (by kernel_rfl) (by kernel_rfl) (fun _ _ _ h => nomatch h.1) (yields_move (by simp [Region.wanted]) (.tmp 15) rfl _ ((ev_ne _ _ (by decide)).trans ((ev_ne _ _ (by decide)).trans ((ev_ne _ _ (by decide)).trans ((ev_ne _ _ (by decide)).trans ((ev_ne _ _ (by decide)).trans ((ev_ne _ _ (by decide)).trans x15))))))) hs0.out ?_
  refine wpAnyH_take (i := 10) (v := .pointer (some ⟨gv, 4, none⟩)) rfl (by kernel_rfl) (by kernel_rfl) (by kernel_rfl) (fun _ _ _ h => nomatch h.1) (y_index (by simp [Region.wanted]) (.tmp 152) (.const (.int .i64 4)) rfl gv 8 cv 4 (ev_eq _ _ (by simp [put_sz, sz])) rfl (by omega)) hs0.out ?_
  refine wpAnyH_take (i := 11) (v := vw e) rfl (by kernel_rfl) (by kernel_rfl) (by kernel_rfl) (fun _ _ _ h => nomatch h.1) (y_load (by simp [Region.wanted]) (.tmp 153) rfl gv 4 e (ev_eq _ _ (by simp [put_sz, sz])) (fun w h => h.1 4 (by omega))) hs0.out ?_
  refine wpAnyH_all (rs := [3]) (by kernel_rfl) (by simp) fun i9 hmem => ?_
  obtain rfl : i9 = 3 := by simpa using hmem
  refine wpOp_own rfl rfl fun K' hK' => ?_
  refine wp_calls2 78 hf_turn (.tmp 145) (.const (.int .i64 6)) _ rfl (vw e) (.int .i64 6) ((ev_ne _ _ (by decide)).trans ((ev_ne _ _ (by decide)).trans ((ev_ne _ _ (by decide)).trans ((ev_ne _ _ (by decide)).trans ((ev_ne _ _ (by decide)).trans ((ev_ne _ _ (by decide)).trans (ev_eq _ _ (by simp [put_sz, sz])))))))) rfl ?_
  refine (E6.out _).mono ?_
  rintro _ _ ⟨rfl, rfl⟩
  refine ⟨_, rfl, hK' _ _ ⟨hs0.out, ?_⟩⟩
  clear hK' K' hmem
  show wpAnyH _ _ _ _ _ _ _ ((((((((((A.put (some 143) (.slice (some ⟨gv, 0, none⟩) 8 cv)).put (some 144) (.pointer (some ⟨gv, 4, none⟩))).put (some 145) (vw e)).put (some 147) (.slice (some ⟨gv, 0, none⟩) 8 cv)).put (some 148) (.pointer (some ⟨gv, 4, none⟩))).put (some 149) (vw e)).put (some 152) (.slice (some ⟨gv, 0, none⟩) 8 cv)).put (some 153) (.pointer (some ⟨gv, 4, none⟩))).put (some 154) (vw e)).put (some 146) (vw (rotr e 6))) _
  refine wpAnyH_all (rs := [7]) (by kernel_rfl) (by simp) fun i9 hmem => ?_
  obtain rfl : i9 = 7 := by simpa using hmem
  refine wpOp_own rfl rfl fun K' hK' => ?_
  refine wp_calls2 78 hf_turn (.tmp 149) (.const (.int .i64 11)) _ rfl (vw e) (.int .i64 11) ((ev_ne _ _ (by decide)).trans ((ev_ne _ _ (by decide)).trans ((ev_ne _ _ (by decide)).trans ((ev_ne _ _ (by decide)).trans (ev_eq _ _ (by simp [put_sz, sz])))))) rfl ?_
  refine (E11.out _).mono ?_
  rintro _ _ ⟨rfl, rfl⟩
  refine ⟨_, rfl, hK' _ _ ⟨hs0.out, ?_⟩⟩
  clear hK' K' hmem
  show wpAnyH _ _ _ _ _ _ _ (((((((((((A.put (some 143) (.slice (some ⟨gv, 0, none⟩) 8 cv)).put (some 144) (.pointer (some ⟨gv, 4, none⟩))).put (some 145) (vw e)).put (some 147) (.slice (some ⟨gv, 0, none⟩) 8 cv)).put (some 148) (.pointer (some ⟨gv, 4, none⟩))).put (some 149) (vw e)).put (some 152) (.slice (some ⟨gv, 0, none⟩) 8 cv)).put (some 153) (.pointer (some ⟨gv, 4, none⟩))).put (some 154) (vw e)).put (some 146) (vw (rotr e 6))).put (some 150) (vw (rotr e 11))) _
  refine wpAnyH_take (i := 8) (v := vw X1) rfl (by kernel_rfl) (by kernel_rfl) (by kernel_rfl) (fun _ _ _ h => nomatch h.1) (eq_yields ZX1.out.symm (y_xor (by simp [Region.wanted]) (.tmp 146) (.tmp 150) rfl (rotr e 6) (rotr e 11) ((ev_ne _ _ (by decide)).trans (ev_eq _ _ (by simp [put_sz, sz]))) (ev_eq _ _ (by simp [put_sz, sz])))) hs0.out ?_
  refine wpAnyH_all (rs := [12]) (by kernel_rfl) (by simp) fun i9 hmem => ?_
  obtain rfl : i9 = 12 := by simpa using hmem
  refine wpOp_own rfl rfl fun K' hK' => ?_
  refine wp_calls2 78 hf_turn (.tmp 154) (.const (.int .i64 25)) _ rfl (vw e) (.int .i64 25) ((ev_ne _ _ (by decide)).trans ((ev_ne _ _ (by decide)).trans ((ev_ne _ _ (by decide)).trans (ev_eq _ _ (by simp [put_sz, sz]))))) rfl ?_
  refine (E25.out _).mono ?_
  rintro _ _ ⟨rfl, rfl⟩
  refine ⟨_, rfl, hK' _ _ ⟨hs0.out, ?_⟩⟩
  clear hK' K' hmem
  show wpAnyH _ _ _ _ _ _ _ (((((((((((((A.put (some 143) (.slice (some ⟨gv, 0, none⟩) 8 cv)).put (some 144) (.pointer (some ⟨gv, 4, none⟩))).put (some 145) (vw e)).put (some 147) (.slice (some ⟨gv, 0, none⟩) 8 cv)).put (some 148) (.pointer (some ⟨gv, 4, none⟩))).put (some 149) (vw e)).put (some 152) (.slice (some ⟨gv, 0, none⟩) 8 cv)).put (some 153) (.pointer (some ⟨gv, 4, none⟩))).put (some 154) (vw e)).put (some 146) (vw (rotr e 6))).put (some 150) (vw (rotr e 11))).put (some 151) (vw X1)).put (some 155) (vw (rotr e 25))) _
  refine wpAnyH_take (i := 13) (v := vw SG1) rfl (by kernel_rfl) (by kernel_rfl) (by kernel_rfl) (fun _ _ _ h => nomatch h.1) (eq_yields ZSG1.out.symm (y_xor (by simp [Region.wanted]) (.tmp 151) (.tmp 155) rfl (X1) (rotr e 25) ((ev_ne _ _ (by decide)).trans (ev_eq _ _ (by simp [put_sz, sz]))) (ev_eq _ _ (by simp [put_sz, sz])))) hs0.out ?_
  refine wpAnyH_take (i := 14) (v := vw SG1) rfl (by kernel_rfl) (by kernel_rfl) (by kernel_rfl) (fun _ _ _ h => nomatch h.1) (yh_assign (by simp [Region.wanted]) (.tmp 156) rfl _ (ev_eq _ _ (by simp [put_sz, sz]))) hs0.out ?_
  exact wpAnyH_done (by kernel_rfl) ⟨rfl, rfl, rfl⟩ _
noncomputable def code34 : Code := ((Tryd.f66.body.bind (regionAt 34)).getD .skip)
set_option maxHeartbeats 4000000 in
theorem reg34 (A : Act) (W : World) (gv cv gk gw r : Nat) (a b c d e f g h kk ww P1 NE P2 CH : W32) (ZP1 : Hid (P1 = e &&& f)) (ZNE : Hid (NE = ~~~e)) (ZP2 : Hid (P2 = NE &&& g)) (ZCH : Hid (CH = P1 ^^^ P2)) (sz : A.tmps.size = 288) (x15 : A.eval (.tmp 15) = .slice (some ⟨gv, 0, none⟩) 8 cv) (hs0 : Hid (VW W gv ⟨a, b, c, d, e, f, g, h⟩ ∧ W.cell? ⟨gk, r, none⟩ = some (vw kk) ∧ W.cell? ⟨gw, r, none⟩ = some (vw ww))) :
    Code.wp Tryd.prog code34 (fun ex A' W' => ex = .normal ∧ A' = (((((((((((((((((A.put (some 157) (.slice (some ⟨gv, 0, none⟩) 8 cv)).put (some 158) (.pointer (some ⟨gv, 4, none⟩))).put (some 159) (vw e)).put (some 160) (.slice (some ⟨gv, 0, none⟩) 8 cv)).put (some 161) (.pointer (some ⟨gv, 5, none⟩))).put (some 162) (vw f)).put (some 163) (vw P1)).put (some 164) (.slice (some ⟨gv, 0, none⟩) 8 cv)).put (some 165) (.pointer (some ⟨gv, 4, none⟩))).put (some 166) (vw e)).put (some 167) (vw NE)).put (some 168) (.slice (some ⟨gv, 0, none⟩) 8 cv)).put (some 169) (.pointer (some ⟨gv, 6, none⟩))).put (some 170) (vw g)).put (some 171) (vw P2)).put (some 172) (vw CH)).put (some 18) (vw CH)) ∧ W' = W.drew) A W := by
  have hmx : Tryd.prog.follows .mixedOrders = true := by kernel_rfl
  conv => arg 2; whnf
  refine wp_region_held (S := fun w9 => VW w9 gv ⟨a, b, c, d, e, f, g, h⟩ ∧ w9.cell? ⟨gk, r, none⟩ = some (vw kk) ∧ w9.cell? ⟨gw, r, none⟩ = some (vw ww)) hmx ?_
  show wpAnyH _ _ _ _ _ _ _ _ (World.drew W)
  refine wpAnyH_take (i := 0) (v := .slice (some ⟨gv, 0, none⟩) 8 cv) rfl (by kernel_rfl) (by kernel_rfl) (by kernel_rfl) (fun _ _ _ h => nomatch h.1) (yields_move (by simp [Region.wanted]) (.tmp 15) rfl _ x15) hs0.out ?_
  refine wpAnyH_take (i := 1) (v := .pointer (some ⟨gv, 4, none⟩)) rfl (by kernel_rfl) (by kernel_rfl) (by kernel_rfl) (fun _ _ _ h => nomatch h.1) (y_index (by simp [Region.wanted]) (.tmp 157) (.const (.int .i64 4)) rfl gv 8 cv 4 (ev_eq _ _ (by simp [sz])) rfl (by omega)) hs0.out ?_
  refine wpAnyH_take (i := 2) (v := vw e) rfl (by kernel_rfl) (by kernel_rfl) (by kernel_rfl) (fun _ _ _ h => nomatch h.1) (y_load (by simp [Region.wanted]) (.tmp 158) rfl gv 4 e (ev_eq _ _ (by simp [put_sz, sz])) (fun w h => h.1 4 (by omega))) hs0.out ?_
  refine wpAnyH_take (i := 3) (v := .slice (some ⟨gv, 0, none⟩) 8 cv) rfl (by kernel_rfl) (by kernel_rfl) (by kernel_rfl) (fun _ _ _ h => nomatch h.1) (yields_move (by simp [Region.wanted]) (.tmp 15) rfl _ ((ev_ne _ _ (by decide)).trans ((ev_ne _ _ (by decide)).trans ((ev_ne _ _ (by decide)).trans x15)))) hs0.out ?_
  refine wpAnyH_take (i := 4) (v := .pointer (some ⟨gv, 5, none⟩)) rfl (by kernel_rfl) (by kernel_rfl) (by kernel_rfl) (fun _ _ _ h => nomatch h.1) (y_index (by simp [Region.wanted]) (.tmp 160) (.const (.int .i64 5)) rfl gv 8 cv 5 (ev_eq _ _ (by simp [put_sz, sz])) rfl (by omega)) hs0.out ?_
  refine wpAnyH_take (i := 5) (v := vw f) rfl (by kernel_rfl) (by kernel_rfl) (by kernel_rfl) (fun _ _ _ h => nomatch h.1) (y_load (by simp [Region.wanted]) (.tmp 161) rfl gv 5 f (ev_eq _ _ (by simp [put_sz, sz])) (fun w h => h.1 5 (by omega))) hs0.out ?_
  refine wpAnyH_take (i := 6) (v := vw P1) rfl (by kernel_rfl) (by kernel_rfl) (by kernel_rfl) (fun _ _ _ h => nomatch h.1) (eq_yields ZP1.out.symm (y_and (by simp [Region.wanted]) (.tmp 159) (.tmp 162) rfl (e) (f) ((ev_ne _ _ (by decide)).trans ((ev_ne _ _ (by decide)).trans ((ev_ne _ _ (by decide)).trans (ev_eq _ _ (by simp [put_sz, sz]))))) (ev_eq _ _ (by simp [put_sz, sz])))) hs0.out ?_
  refine wpAnyH_take (i := 7) (v := .slice (some ⟨gv, 0, none⟩) 8 cv) rfl (by kernel_rfl) (by kernel_rfl) (by kernel_rfl) (fun _ _ _ h => nomatch h.1) (yields_move (by simp [Region.wanted]) (.tmp 15) rfl _ ((ev_ne _ _ (by decide)).trans ((ev_ne _ _ (by decide)).trans ((ev_ne _ _ (by decide)).trans ((ev_ne _ _ (by decide)).trans ((ev_ne _ _ (by decide)).trans ((ev_ne _ _ (by decide)).trans ((ev_ne _ _ (by decide)).trans x15)))))))) hs0.out ?_
  refine wpAnyH_take (i := 8) (v := .pointer (some ⟨gv, 4, none⟩)) rfl (by kernel_rfl) (by kernel_rfl) (by kernel_rfl) (fun _ _ _ h => nomatch h.1) (y_index (by simp [Region.wanted]) (.tmp 164) (.const (.int .i64 4)) rfl gv 8 cv 4 (ev_eq _ _ (by simp [put_sz, sz])) rfl (by omega)) hs0.out ?_
  refine wpAnyH_take (i := 9) (v := vw e) rfl (by kernel_rfl) (by kernel_rfl) (by kernel_rfl) (fun _ _ _ h => nomatch h.1) (y_load (by simp [Region.wanted]) (.tmp 165) rfl gv 4 e (ev_eq _ _ (by simp [put_sz, sz])) (fun w h => h.1 4 (by omega))) hs0.out ?_
  refine wpAnyH_take (i := 10) (v := vw NE) rfl (by kernel_rfl) (by kernel_rfl) (by kernel_rfl) (fun _ _ _ h => nomatch h.1) (eq_yields ZNE.out.symm (y_not (by simp [Region.wanted]) (.tmp 166) rfl e (ev_eq _ _ (by simp [put_sz, sz])))) hs0.out ?_
  refine wpAnyH_take (i := 11) (v := .slice (some ⟨gv, 0, none⟩) 8 cv) rfl (by kernel_rfl) (by kernel_rfl) (by kernel_rfl) (fun _ _ _ h => nomatch h.1) (yields_move (by simp [Region.wanted]) (.tmp 15) rfl _ ((ev_ne _ _ (by decide)).trans ((ev_ne _ _ (by decide)).trans ((ev_ne _ _ (by decide)).trans ((ev_ne _ _ (by decide)).trans ((ev_ne _ _ (by decide)).trans ((ev_ne _ _ (by decide)).trans ((ev_ne _ _ (by decide)).trans ((ev_ne _ _ (by decide)).trans ((ev_ne _ _ (by decide)).trans ((ev_ne _ _ (by decide)).trans ((ev_ne _ _ (by decide)).trans x15)))))))))))) hs0.out ?_
  refine wpAnyH_take (i := 12) (v := .pointer (some ⟨gv, 6, none⟩)) rfl (by kernel_rfl) (by kernel_rfl) (by kernel_rfl) (fun _ _ _ h => nomatch h.1) (y_index (by simp [Region.wanted]) (.tmp 168) (.const (.int .i64 6)) rfl gv 8 cv 6 (ev_eq _ _ (by simp [put_sz, sz])) rfl (by omega)) hs0.out ?_
  refine wpAnyH_take (i := 13) (v := vw g) rfl (by kernel_rfl) (by kernel_rfl) (by kernel_rfl) (fun _ _ _ h => nomatch h.1) (y_load (by simp [Region.wanted]) (.tmp 169) rfl gv 6 g (ev_eq _ _ (by simp [put_sz, sz])) (fun w h => h.1 6 (by omega))) hs0.out ?_
  refine wpAnyH_take (i := 14) (v := vw P2) rfl (by kernel_rfl) (by kernel_rfl) (by kernel_rfl) (fun _ _ _ h => nomatch h.1) (eq_yields ZP2.out.symm (y_and (by simp [Region.wanted]) (.tmp 167) (.tmp 170) rfl (NE) (g) ((ev_ne _ _ (by decide)).trans ((ev_ne _ _ (by decide)).trans ((ev_ne _ _ (by decide)).trans (ev_eq _ _ (by simp [put_sz, sz]))))) (ev_eq _ _ (by simp [put_sz, sz])))) hs0.out ?_
  refine wpAnyH_take (i := 15) (v := vw CH) rfl (by kernel_rfl) (by kernel_rfl) (by kernel_rfl) (fun _ _ _ h => nomatch h.1) (eq_yields ZCH.out.symm (y_xor (by simp [Region.wanted]) (.tmp 163) (.tmp 171) rfl (P1) (P2) ((ev_ne _ _ (by decide)).trans ((ev_ne _ _ (by decide)).trans ((ev_ne _ _ (by decide)).trans ((ev_ne _ _ (by decide)).trans ((ev_ne _ _ (by decide)).trans ((ev_ne _ _ (by decide)).trans ((ev_ne _ _ (by decide)).trans ((ev_ne _ _ (by decide)).trans (ev_eq _ _ (by simp [put_sz, sz])))))))))) (ev_eq _ _ (by simp [put_sz, sz])))) hs0.out ?_
  refine wpAnyH_take (i := 16) (v := vw CH) rfl (by kernel_rfl) (by kernel_rfl) (by kernel_rfl) (fun _ _ _ h => nomatch h.1) (yh_assign (by simp [Region.wanted]) (.tmp 172) rfl _ (ev_eq _ _ (by simp [put_sz, sz]))) hs0.out ?_
  exact wpAnyH_done (by kernel_rfl) ⟨rfl, rfl, rfl⟩ _
noncomputable def code35 : Code := ((Tryd.f66.body.bind (regionAt 35)).getD .skip)
set_option maxHeartbeats 4000000 in
theorem reg35 (A : Act) (W : World) (gv cv gk gw r : Nat) (a b c d e f g h kk ww SG1 CH U1 U2 U3 T1 : W32) (ZU1 : Hid (U1 = h + SG1)) (ZU2 : Hid (U2 = U1 + CH)) (ZU3 : Hid (U3 = U2 + kk)) (ZT1 : Hid (T1 = U3 + ww)) (hlt : r < 64) (sz : A.tmps.size = 288) (x15 : A.eval (.tmp 15) = .slice (some ⟨gv, 0, none⟩) 8 cv) (x17 : A.eval (.tmp 17) = vw SG1) (x18 : A.eval (.tmp 18) = vw CH) (x4 : A.eval (.tmp 4) = .slice (some ⟨gk, 0, none⟩) 64 64) (x9 : A.eval (.tmp 9) = .slice (some ⟨gw, 0, none⟩) 64 64) (x16 : A.eval (.tmp 16) = .int .i64 (r : Int)) (hs0 : Hid (VW W gv ⟨a, b, c, d, e, f, g, h⟩ ∧ W.cell? ⟨gk, r, none⟩ = some (vw kk) ∧ W.cell? ⟨gw, r, none⟩ = some (vw ww))) :
    Code.wp Tryd.prog code35 (fun ex A' W' => ex = .normal ∧ A' = ((((((((((((((((((A.put (some 173) (.slice (some ⟨gv, 0, none⟩) 8 cv)).put (some 174) (.pointer (some ⟨gv, 7, none⟩))).put (some 175) (vw h)).put (some 176) (vw SG1)).put (some 177) (vw U1)).put (some 178) (vw CH)).put (some 179) (vw U2)).put (some 180) (.slice (some ⟨gk, 0, none⟩) 64 64)).put (some 181) (.int .i64 (r : Int))).put (some 182) (.pointer (some ⟨gk, r, none⟩))).put (some 183) (vw kk)).put (some 184) (vw U3)).put (some 185) (.slice (some ⟨gw, 0, none⟩) 64 64)).put (some 186) (.int .i64 (r : Int))).put (some 187) (.pointer (some ⟨gw, r, none⟩))).put (some 188) (vw ww)).put (some 189) (vw T1)).put (some 19) (vw T1)) ∧ W' = W.drew) A W := by
  have hmx : Tryd.prog.follows .mixedOrders = true := by kernel_rfl
  conv => arg 2; whnf
  refine wp_region_held (S := fun w9 => VW w9 gv ⟨a, b, c, d, e, f, g, h⟩ ∧ w9.cell? ⟨gk, r, none⟩ = some (vw kk) ∧ w9.cell? ⟨gw, r, none⟩ = some (vw ww)) hmx ?_
  show wpAnyH _ _ _ _ _ _ _ _ (World.drew W)
  refine wpAnyH_take (i := 0) (v := .slice (some ⟨gv, 0, none⟩) 8 cv) rfl (by kernel_rfl) (by kernel_rfl) (by kernel_rfl) (fun _ _ _ h => nomatch h.1) (yields_move (by simp [Region.wanted]) (.tmp 15) rfl _ x15) hs0.out ?_
  refine wpAnyH_take (i := 1) (v := .pointer (some ⟨gv, 7, none⟩)) rfl (by kernel_rfl) (by kernel_rfl) (by kernel_rfl) (fun _ _ _ h => nomatch h.1) (y_index (by simp [Region.wanted]) (.tmp 173) (.const (.int .i64 7)) rfl gv 8 cv 7 (ev_eq _ _ (by simp [sz])) rfl (by omega)) hs0.out ?_
  refine wpAnyH_take (i := 2) (v := vw h) rfl (by kernel_rfl) (by kernel_rfl) (by kernel_rfl) (fun _ _ _ h => nomatch h.1) (y_load (by simp [Region.wanted]) (.tmp 174) rfl gv 7 h (ev_eq _ _ (by simp [put_sz, sz])) (fun w h => h.1 7 (by omega))) hs0.out ?_
  refine wpAnyH_take (i := 3) (v := vw SG1) rfl (by kernel_rfl) (by kernel_rfl) (by kernel_rfl) (fun _ _ _ h => nomatch h.1) (yields_move (by simp [Region.wanted]) (.tmp 17) rfl _ ((ev_ne _ _ (by decide)).trans ((ev_ne _ _ (by decide)).trans ((ev_ne _ _ (by decide)).trans x17)))) hs0.out ?_
  refine wpAnyH_take (i := 4) (v := vw U1) rfl (by kernel_rfl) (by kernel_rfl) (by kernel_rfl) (fun _ _ _ h => nomatch h.1) (eq_yields ZU1.out.symm (y_add (by simp [Region.wanted]) (.tmp 175) (.tmp 176) rfl (h) (SG1) ((ev_ne _ _ (by decide)).trans (ev_eq _ _ (by simp [put_sz, sz]))) (ev_eq _ _ (by simp [put_sz, sz])))) hs0.out ?_
  refine wpAnyH_take (i := 5) (v := vw CH) rfl (by kernel_rfl) (by kernel_rfl) (by kernel_rfl) (fun _ _ _ h => nomatch h.1) (yields_move (by simp [Region.wanted]) (.tmp 18) rfl _ ((ev_ne _ _ (by decide)).trans ((ev_ne _ _ (by decide)).trans ((ev_ne _ _ (by decide)).trans ((ev_ne _ _ (by decide)).trans ((ev_ne _ _ (by decide)).trans x18)))))) hs0.out ?_
  refine wpAnyH_take (i := 6) (v := vw U2) rfl (by kernel_rfl) (by kernel_rfl) (by kernel_rfl) (fun _ _ _ h => nomatch h.1) (eq_yields ZU2.out.symm (y_add (by simp [Region.wanted]) (.tmp 177) (.tmp 178) rfl (U1) (CH) ((ev_ne _ _ (by decide)).trans (ev_eq _ _ (by simp [put_sz, sz]))) (ev_eq _ _ (by simp [put_sz, sz])))) hs0.out ?_
  refine wpAnyH_take (i := 7) (v := .slice (some ⟨gk, 0, none⟩) 64 64) rfl (by kernel_rfl) (by kernel_rfl) (by kernel_rfl) (fun _ _ _ h => nomatch h.1) (yields_move (by simp [Region.wanted]) (.tmp 4) rfl _ ((ev_ne _ _ (by decide)).trans ((ev_ne _ _ (by decide)).trans ((ev_ne _ _ (by decide)).trans ((ev_ne _ _ (by decide)).trans ((ev_ne _ _ (by decide)).trans ((ev_ne _ _ (by decide)).trans ((ev_ne _ _ (by decide)).trans x4)))))))) hs0.out ?_
  refine wpAnyH_take (i := 8) (v := .int .i64 (r : Int)) rfl (by kernel_rfl) (by kernel_rfl) (by kernel_rfl) (fun _ _ _ h => nomatch h.1) (yields_move (by simp [Region.wanted]) (.tmp 16) rfl _ ((ev_ne _ _ (by decide)).trans ((ev_ne _ _ (by decide)).trans ((ev_ne _ _ (by decide)).trans ((ev_ne _ _ (by decide)).trans ((ev_ne _ _ (by decide)).trans ((ev_ne _ _ (by decide)).trans ((ev_ne _ _ (by decide)).trans ((ev_ne _ _ (by decide)).trans x16))))))))) hs0.out ?_
  refine wpAnyH_take (i := 9) (v := .pointer (some ⟨gk, r, none⟩)) rfl (by kernel_rfl) (by kernel_rfl) (by kernel_rfl) (fun _ _ _ h => nomatch h.1) (y_index (by simp [Region.wanted]) (.tmp 180) (.tmp 181) rfl (gk) 64 64 r ((ev_ne _ _ (by decide)).trans (ev_eq _ _ (by simp [put_sz, sz]))) (ev_eq _ _ (by simp [put_sz, sz])) hlt) hs0.out ?_
  refine wpAnyH_take (i := 10) (v := vw kk) rfl (by kernel_rfl) (by kernel_rfl) (by kernel_rfl) (fun _ _ _ h => nomatch h.1) (y_load (by simp [Region.wanted]) (.tmp 182) rfl (gk) r kk (ev_eq _ _ (by simp [put_sz, sz])) (fun w h => h.2.1)) hs0.out ?_
  refine wpAnyH_take (i := 11) (v := vw U3) rfl (by kernel_rfl) (by kernel_rfl) (by kernel_rfl) (fun _ _ _ h => nomatch h.1) (eq_yields ZU3.out.symm (y_add (by simp [Region.wanted]) (.tmp 179) (.tmp 183) rfl (U2) (kk) ((ev_ne _ _ (by decide)).trans ((ev_ne _ _ (by decide)).trans ((ev_ne _ _ (by decide)).trans ((ev_ne _ _ (by decide)).trans (ev_eq _ _ (by simp [put_sz, sz])))))) (ev_eq _ _ (by simp [put_sz, sz])))) hs0.out ?_
  refine wpAnyH_take (i := 12) (v := .slice (some ⟨gw, 0, none⟩) 64 64) rfl (by kernel_rfl) (by kernel_rfl) (by kernel_rfl) (fun _ _ _ h => nomatch h.1) (yields_move (by simp [Region.wanted]) (.tmp 9) rfl _ ((ev_ne _ _ (by decide)).trans ((ev_ne _ _ (by decide)).trans ((ev_ne _ _ (by decide)).trans ((ev_ne _ _ (by decide)).trans ((ev_ne _ _ (by decide)).trans ((ev_ne _ _ (by decide)).trans ((ev_ne _ _ (by decide)).trans ((ev_ne _ _ (by decide)).trans ((ev_ne _ _ (by decide)).trans ((ev_ne _ _ (by decide)).trans ((ev_ne _ _ (by decide)).trans ((ev_ne _ _ (by decide)).trans x9))))))))))))) hs0.out ?_
  refine wpAnyH_take (i := 13) (v := .int .i64 (r : Int)) rfl (by kernel_rfl) (by kernel_rfl) (by kernel_rfl) (fun _ _ _ h => nomatch h.1) (yields_move (by simp [Region.wanted]) (.tmp 16) rfl _ ((ev_ne _ _ (by decide)).trans ((ev_ne _ _ (by decide)).trans ((ev_ne _ _ (by decide)).trans ((ev_ne _ _ (by decide)).trans ((ev_ne _ _ (by decide)).trans ((ev_ne _ _ (by decide)).trans ((ev_ne _ _ (by decide)).trans ((ev_ne _ _ (by decide)).trans ((ev_ne _ _ (by decide)).trans ((ev_ne _ _ (by decide)).trans ((ev_ne _ _ (by decide)).trans ((ev_ne _ _ (by decide)).trans ((ev_ne _ _ (by decide)).trans x16)))))))))))))) hs0.out ?_
  refine wpAnyH_take (i := 14) (v := .pointer (some ⟨gw, r, none⟩)) rfl (by kernel_rfl) (by kernel_rfl) (by kernel_rfl) (fun _ _ _ h => nomatch h.1) (y_index (by simp [Region.wanted]) (.tmp 185) (.tmp 186) rfl gw 64 64 r ((ev_ne _ _ (by decide)).trans (ev_eq _ _ (by simp [put_sz, sz]))) (ev_eq _ _ (by simp [put_sz, sz])) hlt) hs0.out ?_
  refine wpAnyH_take (i := 15) (v := vw ww) rfl (by kernel_rfl) (by kernel_rfl) (by kernel_rfl) (fun _ _ _ h => nomatch h.1) (y_load (by simp [Region.wanted]) (.tmp 187) rfl gw r ww (ev_eq _ _ (by simp [put_sz, sz])) (fun w h => h.2.2)) hs0.out ?_
  refine wpAnyH_take (i := 16) (v := vw T1) rfl (by kernel_rfl) (by kernel_rfl) (by kernel_rfl) (fun _ _ _ h => nomatch h.1) (eq_yields ZT1.out.symm (y_add (by simp [Region.wanted]) (.tmp 184) (.tmp 188) rfl (U3) (ww) ((ev_ne _ _ (by decide)).trans ((ev_ne _ _ (by decide)).trans ((ev_ne _ _ (by decide)).trans ((ev_ne _ _ (by decide)).trans (ev_eq _ _ (by simp [put_sz, sz])))))) (ev_eq _ _ (by simp [put_sz, sz])))) hs0.out ?_
  refine wpAnyH_take (i := 17) (v := vw T1) rfl (by kernel_rfl) (by kernel_rfl) (by kernel_rfl) (fun _ _ _ h => nomatch h.1) (yh_assign (by simp [Region.wanted]) (.tmp 189) rfl _ (ev_eq _ _ (by simp [put_sz, sz]))) hs0.out ?_
  exact wpAnyH_done (by kernel_rfl) ⟨rfl, rfl, rfl⟩ _
noncomputable def code36 : Code := ((Tryd.f66.body.bind (regionAt 36)).getD .skip)
set_option maxHeartbeats 4000000 in
theorem reg36 (A : Act) (W : World) (gv cv gk gw r : Nat) (a b c d e f g h kk ww Y1 SG0 : W32) (ZY1 : Hid (Y1 = rotr a 2 ^^^ rotr a 13)) (ZSG0 : Hid (SG0 = Y1 ^^^ rotr a 22)) (sz : A.tmps.size = 288) (x15 : A.eval (.tmp 15) = .slice (some ⟨gv, 0, none⟩) 8 cv) (hs0 : Hid (VW W gv ⟨a, b, c, d, e, f, g, h⟩ ∧ W.cell? ⟨gk, r, none⟩ = some (vw kk) ∧ W.cell? ⟨gw, r, none⟩ = some (vw ww))) :
    Code.wp Tryd.prog code36 (fun ex A' W' => ex = .normal ∧ A' = (((((((((((((((A.put (some 190) (.slice (some ⟨gv, 0, none⟩) 8 cv)).put (some 191) (.pointer (some ⟨gv, 0, none⟩))).put (some 192) (vw a)).put (some 194) (.slice (some ⟨gv, 0, none⟩) 8 cv)).put (some 195) (.pointer (some ⟨gv, 0, none⟩))).put (some 196) (vw a)).put (some 199) (.slice (some ⟨gv, 0, none⟩) 8 cv)).put (some 200) (.pointer (some ⟨gv, 0, none⟩))).put (some 201) (vw a)).put (some 193) (vw (rotr a 2))).put (some 197) (vw (rotr a 13))).put (some 198) (vw Y1)).put (some 202) (vw (rotr a 22))).put (some 203) (vw SG0)).put (some 20) (vw SG0)) ∧ W' = W.drew.drew.drew.drew) A W := by
  have hmx : Tryd.prog.follows .mixedOrders = true := by kernel_rfl
  have A2 := hid (turn_any a 2 (by omega) (by omega))
  have A13 := hid (turn_any a 13 (by omega) (by omega))
  have A22 := hid (turn_any a 22 (by omega) (by omega))
  conv => arg 2; whnf
  refine wp_region_held (S := fun w9 => VW w9 gv ⟨a, b, c, d, e, f, g, h⟩ ∧ w9.cell? ⟨gk, r, none⟩ = some (vw kk) ∧ w9.cell? ⟨gw, r, none⟩ = some (vw ww)) hmx ?_
  show wpAnyH _ _ _ _ _ _ _ _ (World.drew W)
  refine wpAnyH_take (i := 0) (v := .slice (some ⟨gv, 0, none⟩) 8 cv) rfl (by kernel_rfl) (by kernel_rfl) (by kernel_rfl) (fun _ _ _ h => nomatch h.1) (yields_move (by simp [Region.wanted]) (.tmp 15) rfl _ x15) hs0.out ?_
  refine wpAnyH_take (i := 1) (v := .pointer (some ⟨gv, 0, none⟩)) rfl (by kernel_rfl) (by kernel_rfl) (by kernel_rfl) (fun _ _ _ h => nomatch h.1) (y_index (by simp [Region.wanted]) (.tmp 190) (.const (.int .i64 0)) rfl gv 8 cv 0 (ev_eq _ _ (by simp [sz])) rfl (by omega)) hs0.out ?_
  refine wpAnyH_take (i := 2) (v := vw a) rfl (by kernel_rfl) (by kernel_rfl) (by kernel_rfl) (fun _ _ _ h => nomatch h.1) (y_load (by simp [Region.wanted]) (.tmp 191) rfl gv 0 a (ev_eq _ _ (by simp [put_sz, sz])) (fun w h => h.1 0 (by omega))) hs0.out ?_
  refine wpAnyH_take (i := 4) (v := .slice (some ⟨gv, 0, none⟩) 8 cv) rfl (by kernel_rfl) (by kernel_rfl) (by kernel_rfl) (fun _ _ _ h => nomatch h.1) (yields_move (by simp [Region.wanted]) (.tmp 15) rfl _ ((ev_ne _ _ (by decide)).trans ((ev_ne _ _ (by decide)).trans ((ev_ne _ _ (by decide)).trans x15)))) hs0.out ?_
  refine wpAnyH_take (i := 5) (v := .pointer (some ⟨gv, 0, none⟩)) rfl (by kernel_rfl) (by kernel_rfl) (by kernel_rfl) (fun _ _ _ h => nomatch h.1) (y_index (by simp [Region.wanted]) (.tmp 194) (.const (.int .i64 0)) rfl gv 8 cv 0 (ev_eq _ _ (by simp [put_sz, sz])) rfl (by omega)) hs0.out ?_
  refine wpAnyH_take (i := 6) (v := vw a) rfl (by kernel_rfl) (by kernel_rfl) (by kernel_rfl) (fun _ _ _ h => nomatch h.1) (y_load (by simp [Region.wanted]) (.tmp 195) rfl gv 0 a (ev_eq _ _ (by simp [put_sz, sz])) (fun w h => h.1 0 (by omega))) hs0.out ?_
  refine wpAnyH_take (i := 9) (v := .slice (some ⟨gv, 0, none⟩) 8 cv) rfl (by kernel_rfl) (by kernel_rfl) (by kernel_rfl) (fun _ _ _ h => nomatch h.1) (yields_move (by simp [Region.wanted]) (.tmp 15) rfl _ ((ev_ne _ _ (by decide)).trans ((ev_ne _ _ (by decide)).trans ((ev_ne _ _ (by decide)).trans ((ev_ne _ _ (by decide)).trans ((ev_ne _ _ (by decide)).trans ((ev_ne _ _ (by decide)).trans x15))))))) hs0.out ?_
  refine wpAnyH_take (i := 10) (v := .pointer (some ⟨gv, 0, none⟩)) rfl (by kernel_rfl) (by kernel_rfl) (by kernel_rfl) (fun _ _ _ h => nomatch h.1) (y_index (by simp [Region.wanted]) (.tmp 199) (.const (.int .i64 0)) rfl gv 8 cv 0 (ev_eq _ _ (by simp [put_sz, sz])) rfl (by omega)) hs0.out ?_
  refine wpAnyH_take (i := 11) (v := vw a) rfl (by kernel_rfl) (by kernel_rfl) (by kernel_rfl) (fun _ _ _ h => nomatch h.1) (y_load (by simp [Region.wanted]) (.tmp 200) rfl gv 0 a (ev_eq _ _ (by simp [put_sz, sz])) (fun w h => h.1 0 (by omega))) hs0.out ?_
  refine wpAnyH_all (rs := [3]) (by kernel_rfl) (by simp) fun i9 hmem => ?_
  obtain rfl : i9 = 3 := by simpa using hmem
  refine wpOp_own rfl rfl fun K' hK' => ?_
  refine wp_calls2 78 hf_turn (.tmp 192) (.const (.int .i64 2)) _ rfl (vw a) (.int .i64 2) ((ev_ne _ _ (by decide)).trans ((ev_ne _ _ (by decide)).trans ((ev_ne _ _ (by decide)).trans ((ev_ne _ _ (by decide)).trans ((ev_ne _ _ (by decide)).trans ((ev_ne _ _ (by decide)).trans (ev_eq _ _ (by simp [put_sz, sz])))))))) rfl ?_
  refine (A2.out _).mono ?_
  rintro _ _ ⟨rfl, rfl⟩
  refine ⟨_, rfl, hK' _ _ ⟨hs0.out, ?_⟩⟩
  clear hK' K' hmem
  show wpAnyH _ _ _ _ _ _ _ ((((((((((A.put (some 190) (.slice (some ⟨gv, 0, none⟩) 8 cv)).put (some 191) (.pointer (some ⟨gv, 0, none⟩))).put (some 192) (vw a)).put (some 194) (.slice (some ⟨gv, 0, none⟩) 8 cv)).put (some 195) (.pointer (some ⟨gv, 0, none⟩))).put (some 196) (vw a)).put (some 199) (.slice (some ⟨gv, 0, none⟩) 8 cv)).put (some 200) (.pointer (some ⟨gv, 0, none⟩))).put (some 201) (vw a)).put (some 193) (vw (rotr a 2))) _
  refine wpAnyH_all (rs := [7]) (by kernel_rfl) (by simp) fun i9 hmem => ?_
  obtain rfl : i9 = 7 := by simpa using hmem
  refine wpOp_own rfl rfl fun K' hK' => ?_
  refine wp_calls2 78 hf_turn (.tmp 196) (.const (.int .i64 13)) _ rfl (vw a) (.int .i64 13) ((ev_ne _ _ (by decide)).trans ((ev_ne _ _ (by decide)).trans ((ev_ne _ _ (by decide)).trans ((ev_ne _ _ (by decide)).trans (ev_eq _ _ (by simp [put_sz, sz])))))) rfl ?_
  refine (A13.out _).mono ?_
  rintro _ _ ⟨rfl, rfl⟩
  refine ⟨_, rfl, hK' _ _ ⟨hs0.out, ?_⟩⟩
  clear hK' K' hmem
  show wpAnyH _ _ _ _ _ _ _ (((((((((((A.put (some 190) (.slice (some ⟨gv, 0, none⟩) 8 cv)).put (some 191) (.pointer (some ⟨gv, 0, none⟩))).put (some 192) (vw a)).put (some 194) (.slice (some ⟨gv, 0, none⟩) 8 cv)).put (some 195) (.pointer (some ⟨gv, 0, none⟩))).put (some 196) (vw a)).put (some 199) (.slice (some ⟨gv, 0, none⟩) 8 cv)).put (some 200) (.pointer (some ⟨gv, 0, none⟩))).put (some 201) (vw a)).put (some 193) (vw (rotr a 2))).put (some 197) (vw (rotr a 13))) _
  refine wpAnyH_take (i := 8) (v := vw Y1) rfl (by kernel_rfl) (by kernel_rfl) (by kernel_rfl) (fun _ _ _ h => nomatch h.1) (eq_yields ZY1.out.symm (y_xor (by simp [Region.wanted]) (.tmp 193) (.tmp 197) rfl (rotr a 2) (rotr a 13) ((ev_ne _ _ (by decide)).trans (ev_eq _ _ (by simp [put_sz, sz]))) (ev_eq _ _ (by simp [put_sz, sz])))) hs0.out ?_
  refine wpAnyH_all (rs := [12]) (by kernel_rfl) (by simp) fun i9 hmem => ?_
  obtain rfl : i9 = 12 := by simpa using hmem
  refine wpOp_own rfl rfl fun K' hK' => ?_
  refine wp_calls2 78 hf_turn (.tmp 201) (.const (.int .i64 22)) _ rfl (vw a) (.int .i64 22) ((ev_ne _ _ (by decide)).trans ((ev_ne _ _ (by decide)).trans ((ev_ne _ _ (by decide)).trans (ev_eq _ _ (by simp [put_sz, sz]))))) rfl ?_
  refine (A22.out _).mono ?_
  rintro _ _ ⟨rfl, rfl⟩
  refine ⟨_, rfl, hK' _ _ ⟨hs0.out, ?_⟩⟩
  clear hK' K' hmem
  show wpAnyH _ _ _ _ _ _ _ (((((((((((((A.put (some 190) (.slice (some ⟨gv, 0, none⟩) 8 cv)).put (some 191) (.pointer (some ⟨gv, 0, none⟩))).put (some 192) (vw a)).put (some 194) (.slice (some ⟨gv, 0, none⟩) 8 cv)).put (some 195) (.pointer (some ⟨gv, 0, none⟩))).put (some 196) (vw a)).put (some 199) (.slice (some ⟨gv, 0, none⟩) 8 cv)).put (some 200) (.pointer (some ⟨gv, 0, none⟩))).put (some 201) (vw a)).put (some 193) (vw (rotr a 2))).put (some 197) (vw (rotr a 13))).put (some 198) (vw Y1)).put (some 202) (vw (rotr a 22))) _
  refine wpAnyH_take (i := 13) (v := vw SG0) rfl (by kernel_rfl) (by kernel_rfl) (by kernel_rfl) (fun _ _ _ h => nomatch h.1) (eq_yields ZSG0.out.symm (y_xor (by simp [Region.wanted]) (.tmp 198) (.tmp 202) rfl (Y1) (rotr a 22) ((ev_ne _ _ (by decide)).trans (ev_eq _ _ (by simp [put_sz, sz]))) (ev_eq _ _ (by simp [put_sz, sz])))) hs0.out ?_
  refine wpAnyH_take (i := 14) (v := vw SG0) rfl (by kernel_rfl) (by kernel_rfl) (by kernel_rfl) (fun _ _ _ h => nomatch h.1) (yh_assign (by simp [Region.wanted]) (.tmp 203) rfl _ (ev_eq _ _ (by simp [put_sz, sz]))) hs0.out ?_
  exact wpAnyH_done (by kernel_rfl) ⟨rfl, rfl, rfl⟩ _
noncomputable def code37 : Code := ((Tryd.f66.body.bind (regionAt 37)).getD .skip)
set_option maxHeartbeats 4000000 in
theorem reg37 (A : Act) (W : World) (gv cv gk gw r : Nat) (a b c d e f g h kk ww Q1 Q2 Q3 Q4 MJ : W32) (ZQ1 : Hid (Q1 = a &&& b)) (ZQ2 : Hid (Q2 = a &&& c)) (ZQ3 : Hid (Q3 = Q1 ^^^ Q2)) (ZQ4 : Hid (Q4 = b &&& c)) (ZMJ : Hid (MJ = Q3 ^^^ Q4)) (sz : A.tmps.size = 288) (x15 : A.eval (.tmp 15) = .slice (some ⟨gv, 0, none⟩) 8 cv) (hs0 : Hid (VW W gv ⟨a, b, c, d, e, f, g, h⟩ ∧ W.cell? ⟨gk, r, none⟩ = some (vw kk) ∧ W.cell? ⟨gw, r, none⟩ = some (vw ww))) :
    Code.wp Tryd.prog code37 (fun ex A' W' => ex = .normal ∧ A' = ((((((((((((((((((((((((A.put (some 204) (.slice (some ⟨gv, 0, none⟩) 8 cv)).put (some 205) (.pointer (some ⟨gv, 0, none⟩))).put (some 206) (vw a)).put (some 207) (.slice (some ⟨gv, 0, none⟩) 8 cv)).put (some 208) (.pointer (some ⟨gv, 1, none⟩))).put (some 209) (vw b)).put (some 210) (vw Q1)).put (some 211) (.slice (some ⟨gv, 0, none⟩) 8 cv)).put (some 212) (.pointer (some ⟨gv, 0, none⟩))).put (some 213) (vw a)).put (some 214) (.slice (some ⟨gv, 0, none⟩) 8 cv)).put (some 215) (.pointer (some ⟨gv, 2, none⟩))).put (some 216) (vw c)).put (some 217) (vw Q2)).put (some 218) (vw Q3)).put (some 219) (.slice (some ⟨gv, 0, none⟩) 8 cv)).put (some 220) (.pointer (some ⟨gv, 1, none⟩))).put (some 221) (vw b)).put (some 222) (.slice (some ⟨gv, 0, none⟩) 8 cv)).put (some 223) (.pointer (some ⟨gv, 2, none⟩))).put (some 224) (vw c)).put (some 225) (vw Q4)).put (some 226) (vw MJ)).put (some 21) (vw MJ)) ∧ W' = W.drew) A W := by
  have hmx : Tryd.prog.follows .mixedOrders = true := by kernel_rfl
  conv => arg 2; whnf
  refine wp_region_held (S := fun w9 => VW w9 gv ⟨a, b, c, d, e, f, g, h⟩ ∧ w9.cell? ⟨gk, r, none⟩ = some (vw kk) ∧ w9.cell? ⟨gw, r, none⟩ = some (vw ww)) hmx ?_
  show wpAnyH _ _ _ _ _ _ _ _ (World.drew W)
  refine wpAnyH_take (i := 0) (v := .slice (some ⟨gv, 0, none⟩) 8 cv) rfl (by kernel_rfl) (by kernel_rfl) (by kernel_rfl) (fun _ _ _ h => nomatch h.1) (yields_move (by simp [Region.wanted]) (.tmp 15) rfl _ x15) hs0.out ?_
  refine wpAnyH_take (i := 1) (v := .pointer (some ⟨gv, 0, none⟩)) rfl (by kernel_rfl) (by kernel_rfl) (by kernel_rfl) (fun _ _ _ h => nomatch h.1) (y_index (by simp [Region.wanted]) (.tmp 204) (.const (.int .i64 0)) rfl gv 8 cv 0 (ev_eq _ _ (by simp [sz])) rfl (by omega)) hs0.out ?_
  refine wpAnyH_take (i := 2) (v := vw a) rfl (by kernel_rfl) (by kernel_rfl) (by kernel_rfl) (fun _ _ _ h => nomatch h.1) (y_load (by simp [Region.wanted]) (.tmp 205) rfl gv 0 a (ev_eq _ _ (by simp [put_sz, sz])) (fun w h => h.1 0 (by omega))) hs0.out ?_
  refine wpAnyH_take (i := 3) (v := .slice (some ⟨gv, 0, none⟩) 8 cv) rfl (by kernel_rfl) (by kernel_rfl) (by kernel_rfl) (fun _ _ _ h => nomatch h.1) (yields_move (by simp [Region.wanted]) (.tmp 15) rfl _ ((ev_ne _ _ (by decide)).trans ((ev_ne _ _ (by decide)).trans ((ev_ne _ _ (by decide)).trans x15)))) hs0.out ?_
  refine wpAnyH_take (i := 4) (v := .pointer (some ⟨gv, 1, none⟩)) rfl (by kernel_rfl) (by kernel_rfl) (by kernel_rfl) (fun _ _ _ h => nomatch h.1) (y_index (by simp [Region.wanted]) (.tmp 207) (.const (.int .i64 1)) rfl gv 8 cv 1 (ev_eq _ _ (by simp [put_sz, sz])) rfl (by omega)) hs0.out ?_
  refine wpAnyH_take (i := 5) (v := vw b) rfl (by kernel_rfl) (by kernel_rfl) (by kernel_rfl) (fun _ _ _ h => nomatch h.1) (y_load (by simp [Region.wanted]) (.tmp 208) rfl gv 1 b (ev_eq _ _ (by simp [put_sz, sz])) (fun w h => h.1 1 (by omega))) hs0.out ?_
  refine wpAnyH_take (i := 6) (v := vw Q1) rfl (by kernel_rfl) (by kernel_rfl) (by kernel_rfl) (fun _ _ _ h => nomatch h.1) (eq_yields ZQ1.out.symm (y_and (by simp [Region.wanted]) (.tmp 206) (.tmp 209) rfl (a) (b) ((ev_ne _ _ (by decide)).trans ((ev_ne _ _ (by decide)).trans ((ev_ne _ _ (by decide)).trans (ev_eq _ _ (by simp [put_sz, sz]))))) (ev_eq _ _ (by simp [put_sz, sz])))) hs0.out ?_
  refine wpAnyH_take (i := 7) (v := .slice (some ⟨gv, 0, none⟩) 8 cv) rfl (by kernel_rfl) (by kernel_rfl) (by kernel_rfl) (fun _ _ _ h => nomatch h.1) (yields_move (by simp [Region.wanted]) (.tmp 15) rfl _ ((ev_ne _ _ (by decide)).trans ((ev_ne _ _ (by decide)).trans ((ev_ne _ _ (by decide)).trans ((ev_ne _ _ (by decide)).trans ((ev_ne _ _ (by decide)).trans ((ev_ne _ _ (by decide)).trans ((ev_ne _ _ (by decide)).trans x15)))))))) hs0.out ?_
  refine wpAnyH_take (i := 8) (v := .pointer (some ⟨gv, 0, none⟩)) rfl (by kernel_rfl) (by kernel_rfl) (by kernel_rfl) (fun _ _ _ h => nomatch h.1) (y_index (by simp [Region.wanted]) (.tmp 211) (.const (.int .i64 0)) rfl gv 8 cv 0 (ev_eq _ _ (by simp [put_sz, sz])) rfl (by omega)) hs0.out ?_
  refine wpAnyH_take (i := 9) (v := vw a) rfl (by kernel_rfl) (by kernel_rfl) (by kernel_rfl) (fun _ _ _ h => nomatch h.1) (y_load (by simp [Region.wanted]) (.tmp 212) rfl gv 0 a (ev_eq _ _ (by simp [put_sz, sz])) (fun w h => h.1 0 (by omega))) hs0.out ?_
  refine wpAnyH_take (i := 10) (v := .slice (some ⟨gv, 0, none⟩) 8 cv) rfl (by kernel_rfl) (by kernel_rfl) (by kernel_rfl) (fun _ _ _ h => nomatch h.1) (yields_move (by simp [Region.wanted]) (.tmp 15) rfl _ ((ev_ne _ _ (by decide)).trans ((ev_ne _ _ (by decide)).trans ((ev_ne _ _ (by decide)).trans ((ev_ne _ _ (by decide)).trans ((ev_ne _ _ (by decide)).trans ((ev_ne _ _ (by decide)).trans ((ev_ne _ _ (by decide)).trans ((ev_ne _ _ (by decide)).trans ((ev_ne _ _ (by decide)).trans ((ev_ne _ _ (by decide)).trans x15))))))))))) hs0.out ?_
  refine wpAnyH_take (i := 11) (v := .pointer (some ⟨gv, 2, none⟩)) rfl (by kernel_rfl) (by kernel_rfl) (by kernel_rfl) (fun _ _ _ h => nomatch h.1) (y_index (by simp [Region.wanted]) (.tmp 214) (.const (.int .i64 2)) rfl gv 8 cv 2 (ev_eq _ _ (by simp [put_sz, sz])) rfl (by omega)) hs0.out ?_
  refine wpAnyH_take (i := 12) (v := vw c) rfl (by kernel_rfl) (by kernel_rfl) (by kernel_rfl) (fun _ _ _ h => nomatch h.1) (y_load (by simp [Region.wanted]) (.tmp 215) rfl gv 2 c (ev_eq _ _ (by simp [put_sz, sz])) (fun w h => h.1 2 (by omega))) hs0.out ?_
  refine wpAnyH_take (i := 13) (v := vw Q2) rfl (by kernel_rfl) (by kernel_rfl) (by kernel_rfl) (fun _ _ _ h => nomatch h.1) (eq_yields ZQ2.out.symm (y_and (by simp [Region.wanted]) (.tmp 213) (.tmp 216) rfl (a) (c) ((ev_ne _ _ (by decide)).trans ((ev_ne _ _ (by decide)).trans ((ev_ne _ _ (by decide)).trans (ev_eq _ _ (by simp [put_sz, sz]))))) (ev_eq _ _ (by simp [put_sz, sz])))) hs0.out ?_
  refine wpAnyH_take (i := 14) (v := vw Q3) rfl (by kernel_rfl) (by kernel_rfl) (by kernel_rfl) (fun _ _ _ h => nomatch h.1) (eq_yields ZQ3.out.symm (y_xor (by simp [Region.wanted]) (.tmp 210) (.tmp 217) rfl (Q1) (Q2) ((ev_ne _ _ (by decide)).trans ((ev_ne _ _ (by decide)).trans ((ev_ne _ _ (by decide)).trans ((ev_ne _ _ (by decide)).trans ((ev_ne _ _ (by decide)).trans ((ev_ne _ _ (by decide)).trans ((ev_ne _ _ (by decide)).trans (ev_eq _ _ (by simp [put_sz, sz]))))))))) (ev_eq _ _ (by simp [put_sz, sz])))) hs0.out ?_
  refine wpAnyH_take (i := 15) (v := .slice (some ⟨gv, 0, none⟩) 8 cv) rfl (by kernel_rfl) (by kernel_rfl) (by kernel_rfl) (fun _ _ _ h => nomatch h.1) (yields_move (by simp [Region.wanted]) (.tmp 15) rfl _ ((ev_ne _ _ (by decide)).trans ((ev_ne _ _ (by decide)).trans ((ev_ne _ _ (by decide)).trans ((ev_ne _ _ (by decide)).trans ((ev_ne _ _ (by decide)).trans ((ev_ne _ _ (by decide)).trans ((ev_ne _ _ (by decide)).trans ((ev_ne _ _ (by decide)).trans ((ev_ne _ _ (by decide)).trans ((ev_ne _ _ (by decide)).trans ((ev_ne _ _ (by decide)).trans ((ev_ne _ _ (by decide)).trans ((ev_ne _ _ (by decide)).trans ((ev_ne _ _ (by decide)).trans ((ev_ne _ _ (by decide)).trans x15)))))))))))))))) hs0.out ?_
  refine wpAnyH_take (i := 16) (v := .pointer (some ⟨gv, 1, none⟩)) rfl (by kernel_rfl) (by kernel_rfl) (by kernel_rfl) (fun _ _ _ h => nomatch h.1) (y_index (by simp [Region.wanted]) (.tmp 219) (.const (.int .i64 1)) rfl gv 8 cv 1 (ev_eq _ _ (by simp [put_sz, sz])) rfl (by omega)) hs0.out ?_
  refine wpAnyH_take (i := 17) (v := vw b) rfl (by kernel_rfl) (by kernel_rfl) (by kernel_rfl) (fun _ _ _ h => nomatch h.1) (y_load (by simp [Region.wanted]) (.tmp 220) rfl gv 1 b (ev_eq _ _ (by simp [put_sz, sz])) (fun w h => h.1 1 (by omega))) hs0.out ?_
  refine wpAnyH_take (i := 18) (v := .slice (some ⟨gv, 0, none⟩) 8 cv) rfl (by kernel_rfl) (by kernel_rfl) (by kernel_rfl) (fun _ _ _ h => nomatch h.1) (yields_move (by simp [Region.wanted]) (.tmp 15) rfl _ ((ev_ne _ _ (by decide)).trans ((ev_ne _ _ (by decide)).trans ((ev_ne _ _ (by decide)).trans ((ev_ne _ _ (by decide)).trans ((ev_ne _ _ (by decide)).trans ((ev_ne _ _ (by decide)).trans ((ev_ne _ _ (by decide)).trans ((ev_ne _ _ (by decide)).trans ((ev_ne _ _ (by decide)).trans ((ev_ne _ _ (by decide)).trans ((ev_ne _ _ (by decide)).trans ((ev_ne _ _ (by decide)).trans ((ev_ne _ _ (by decide)).trans ((ev_ne _ _ (by decide)).trans ((ev_ne _ _ (by decide)).trans ((ev_ne _ _ (by decide)).trans ((ev_ne _ _ (by decide)).trans ((ev_ne _ _ (by decide)).trans x15))))))))))))))))))) hs0.out ?_
  refine wpAnyH_take (i := 19) (v := .pointer (some ⟨gv, 2, none⟩)) rfl (by kernel_rfl) (by kernel_rfl) (by kernel_rfl) (fun _ _ _ h => nomatch h.1) (y_index (by simp [Region.wanted]) (.tmp 222) (.const (.int .i64 2)) rfl gv 8 cv 2 (ev_eq _ _ (by simp [put_sz, sz])) rfl (by omega)) hs0.out ?_
  refine wpAnyH_take (i := 20) (v := vw c) rfl (by kernel_rfl) (by kernel_rfl) (by kernel_rfl) (fun _ _ _ h => nomatch h.1) (y_load (by simp [Region.wanted]) (.tmp 223) rfl gv 2 c (ev_eq _ _ (by simp [put_sz, sz])) (fun w h => h.1 2 (by omega))) hs0.out ?_
  refine wpAnyH_take (i := 21) (v := vw Q4) rfl (by kernel_rfl) (by kernel_rfl) (by kernel_rfl) (fun _ _ _ h => nomatch h.1) (eq_yields ZQ4.out.symm (y_and (by simp [Region.wanted]) (.tmp 221) (.tmp 224) rfl (b) (c) ((ev_ne _ _ (by decide)).trans ((ev_ne _ _ (by decide)).trans ((ev_ne _ _ (by decide)).trans (ev_eq _ _ (by simp [put_sz, sz]))))) (ev_eq _ _ (by simp [put_sz, sz])))) hs0.out ?_
  refine wpAnyH_take (i := 22) (v := vw MJ) rfl (by kernel_rfl) (by kernel_rfl) (by kernel_rfl) (fun _ _ _ h => nomatch h.1) (eq_yields ZMJ.out.symm (y_xor (by simp [Region.wanted]) (.tmp 218) (.tmp 225) rfl (Q3) (Q4) ((ev_ne _ _ (by decide)).trans ((ev_ne _ _ (by decide)).trans ((ev_ne _ _ (by decide)).trans ((ev_ne _ _ (by decide)).trans ((ev_ne _ _ (by decide)).trans ((ev_ne _ _ (by decide)).trans ((ev_ne _ _ (by decide)).trans (ev_eq _ _ (by simp [put_sz, sz]))))))))) (ev_eq _ _ (by simp [put_sz, sz])))) hs0.out ?_
  refine wpAnyH_take (i := 23) (v := vw MJ) rfl (by kernel_rfl) (by kernel_rfl) (by kernel_rfl) (fun _ _ _ h => nomatch h.1) (yh_assign (by simp [Region.wanted]) (.tmp 226) rfl _ (ev_eq _ _ (by simp [put_sz, sz]))) hs0.out ?_
  exact wpAnyH_done (by kernel_rfl) ⟨rfl, rfl, rfl⟩ _
noncomputable def code38 : Code := ((Tryd.f66.body.bind (regionAt 38)).getD .skip)
set_option maxHeartbeats 4000000 in
theorem reg38 (A : Act) (W : World) (gv cv gk gw r : Nat) (a b c d e f g h kk ww T1 SG0 MJ V1 NA ND : W32) (ZV1 : Hid (V1 = T1 + SG0)) (ZNA : Hid (NA = V1 + MJ)) (ZND : Hid (ND = d + T1)) (sz : A.tmps.size = 288) (x15 : A.eval (.tmp 15) = .slice (some ⟨gv, 0, none⟩) 8 cv) (x19 : A.eval (.tmp 19) = vw T1) (x20 : A.eval (.tmp 20) = vw SG0) (x21 : A.eval (.tmp 21) = vw MJ) (hs0 : Hid (VW W gv ⟨a, b, c, d, e, f, g, h⟩ ∧ W.cell? ⟨gk, r, none⟩ = some (vw kk) ∧ W.cell? ⟨gw, r, none⟩ = some (vw ww))) :
    Code.wp Tryd.prog code38 (fun ex A' W' => ex = .normal ∧ A' = ((((((((((((((((((((((((((((((A.put (some 227) (vw T1)).put (some 228) (vw SG0)).put (some 229) (vw V1)).put (some 230) (vw MJ)).put (some 231) (vw NA)).put (some 232) (.slice (some ⟨gv, 0, none⟩) 8 cv)).put (some 233) (.pointer (some ⟨gv, 0, none⟩))).put (some 234) (vw a)).put (some 235) (.slice (some ⟨gv, 0, none⟩) 8 cv)).put (some 236) (.pointer (some ⟨gv, 1, none⟩))).put (some 237) (vw b)).put (some 238) (.slice (some ⟨gv, 0, none⟩) 8 cv)).put (some 239) (.pointer (some ⟨gv, 2, none⟩))).put (some 240) (vw c)).put (some 241) (.slice (some ⟨gv, 0, none⟩) 8 cv)).put (some 242) (.pointer (some ⟨gv, 3, none⟩))).put (some 243) (vw d)).put (some 244) (vw T1)).put (some 245) (vw ND)).put (some 246) (.slice (some ⟨gv, 0, none⟩) 8 cv)).put (some 247) (.pointer (some ⟨gv, 4, none⟩))).put (some 248) (vw e)).put (some 249) (.slice (some ⟨gv, 0, none⟩) 8 cv)).put (some 250) (.pointer (some ⟨gv, 5, none⟩))).put (some 251) (vw f)).put (some 252) (.slice (some ⟨gv, 0, none⟩) 8 cv)).put (some 253) (.pointer (some ⟨gv, 6, none⟩))).put (some 254) (vw g)).put (some 255) (.slice (some ⟨W.heap.size, 0, none⟩) 8 8)).put (some 15) (.slice (some ⟨W.heap.size, 0, none⟩) 8 8)) ∧ W' = W.drew.alloc (.cells #[vw NA, vw a, vw b, vw c, vw ND, vw e, vw f, vw g] 101)) A W := by
  have hmx : Tryd.prog.follows .mixedOrders = true := by kernel_rfl
  conv => arg 2; whnf
  refine wp_region_held (S := fun w9 => VW w9 gv ⟨a, b, c, d, e, f, g, h⟩ ∧ w9.cell? ⟨gk, r, none⟩ = some (vw kk) ∧ w9.cell? ⟨gw, r, none⟩ = some (vw ww)) hmx ?_
  show wpAnyH _ _ _ _ _ _ _ _ (World.drew W)
  refine wpAnyH_take (i := 0) (v := vw T1) rfl (by kernel_rfl) (by kernel_rfl) (by kernel_rfl) (fun _ _ _ h => nomatch h.1) (yields_move (by simp [Region.wanted]) (.tmp 19) rfl _ x19) hs0.out ?_
  refine wpAnyH_take (i := 1) (v := vw SG0) rfl (by kernel_rfl) (by kernel_rfl) (by kernel_rfl) (fun _ _ _ h => nomatch h.1) (yields_move (by simp [Region.wanted]) (.tmp 20) rfl _ ((ev_ne _ _ (by decide)).trans x20)) hs0.out ?_
  refine wpAnyH_take (i := 2) (v := vw V1) rfl (by kernel_rfl) (by kernel_rfl) (by kernel_rfl) (fun _ _ _ h => nomatch h.1) (eq_yields ZV1.out.symm (y_add (by simp [Region.wanted]) (.tmp 227) (.tmp 228) rfl (T1) (SG0) ((ev_ne _ _ (by decide)).trans (ev_eq _ _ (by simp [sz]))) (ev_eq _ _ (by simp [put_sz, sz])))) hs0.out ?_
  refine wpAnyH_take (i := 3) (v := vw MJ) rfl (by kernel_rfl) (by kernel_rfl) (by kernel_rfl) (fun _ _ _ h => nomatch h.1) (yields_move (by simp [Region.wanted]) (.tmp 21) rfl _ ((ev_ne _ _ (by decide)).trans ((ev_ne _ _ (by decide)).trans ((ev_ne _ _ (by decide)).trans x21)))) hs0.out ?_
  refine wpAnyH_take (i := 4) (v := vw NA) rfl (by kernel_rfl) (by kernel_rfl) (by kernel_rfl) (fun _ _ _ h => nomatch h.1) (eq_yields ZNA.out.symm (y_add (by simp [Region.wanted]) (.tmp 229) (.tmp 230) rfl (V1) (MJ) ((ev_ne _ _ (by decide)).trans (ev_eq _ _ (by simp [put_sz, sz]))) (ev_eq _ _ (by simp [put_sz, sz])))) hs0.out ?_
  refine wpAnyH_take (i := 5) (v := .slice (some ⟨gv, 0, none⟩) 8 cv) rfl (by kernel_rfl) (by kernel_rfl) (by kernel_rfl) (fun _ _ _ h => nomatch h.1) (yields_move (by simp [Region.wanted]) (.tmp 15) rfl _ ((ev_ne _ _ (by decide)).trans ((ev_ne _ _ (by decide)).trans ((ev_ne _ _ (by decide)).trans ((ev_ne _ _ (by decide)).trans ((ev_ne _ _ (by decide)).trans x15)))))) hs0.out ?_
  refine wpAnyH_take (i := 6) (v := .pointer (some ⟨gv, 0, none⟩)) rfl (by kernel_rfl) (by kernel_rfl) (by kernel_rfl) (fun _ _ _ h => nomatch h.1) (y_index (by simp [Region.wanted]) (.tmp 232) (.const (.int .i64 0)) rfl gv 8 cv 0 (ev_eq _ _ (by simp [put_sz, sz])) rfl (by omega)) hs0.out ?_
  refine wpAnyH_take (i := 7) (v := vw a) rfl (by kernel_rfl) (by kernel_rfl) (by kernel_rfl) (fun _ _ _ h => nomatch h.1) (y_load (by simp [Region.wanted]) (.tmp 233) rfl gv 0 a (ev_eq _ _ (by simp [put_sz, sz])) (fun w h => h.1 0 (by omega))) hs0.out ?_
  refine wpAnyH_take (i := 8) (v := .slice (some ⟨gv, 0, none⟩) 8 cv) rfl (by kernel_rfl) (by kernel_rfl) (by kernel_rfl) (fun _ _ _ h => nomatch h.1) (yields_move (by simp [Region.wanted]) (.tmp 15) rfl _ ((ev_ne _ _ (by decide)).trans ((ev_ne _ _ (by decide)).trans ((ev_ne _ _ (by decide)).trans ((ev_ne _ _ (by decide)).trans ((ev_ne _ _ (by decide)).trans ((ev_ne _ _ (by decide)).trans ((ev_ne _ _ (by decide)).trans ((ev_ne _ _ (by decide)).trans x15))))))))) hs0.out ?_
  refine wpAnyH_take (i := 9) (v := .pointer (some ⟨gv, 1, none⟩)) rfl (by kernel_rfl) (by kernel_rfl) (by kernel_rfl) (fun _ _ _ h => nomatch h.1) (y_index (by simp [Region.wanted]) (.tmp 235) (.const (.int .i64 1)) rfl gv 8 cv 1 (ev_eq _ _ (by simp [put_sz, sz])) rfl (by omega)) hs0.out ?_
  refine wpAnyH_take (i := 10) (v := vw b) rfl (by kernel_rfl) (by kernel_rfl) (by kernel_rfl) (fun _ _ _ h => nomatch h.1) (y_load (by simp [Region.wanted]) (.tmp 236) rfl gv 1 b (ev_eq _ _ (by simp [put_sz, sz])) (fun w h => h.1 1 (by omega))) hs0.out ?_
  refine wpAnyH_take (i := 11) (v := .slice (some ⟨gv, 0, none⟩) 8 cv) rfl (by kernel_rfl) (by kernel_rfl) (by kernel_rfl) (fun _ _ _ h => nomatch h.1) (yields_move (by simp [Region.wanted]) (.tmp 15) rfl _ ((ev_ne _ _ (by decide)).trans ((ev_ne _ _ (by decide)).trans ((ev_ne _ _ (by decide)).trans ((ev_ne _ _ (by decide)).trans ((ev_ne _ _ (by decide)).trans ((ev_ne _ _ (by decide)).trans ((ev_ne _ _ (by decide)).trans ((ev_ne _ _ (by decide)).trans ((ev_ne _ _ (by decide)).trans ((ev_ne _ _ (by decide)).trans ((ev_ne _ _ (by decide)).trans x15)))))))))))) hs0.out ?_
  refine wpAnyH_take (i := 12) (v := .pointer (some ⟨gv, 2, none⟩)) rfl (by kernel_rfl) (by kernel_rfl) (by kernel_rfl) (fun _ _ _ h => nomatch h.1) (y_index (by simp [Region.wanted]) (.tmp 238) (.const (.int .i64 2)) rfl gv 8 cv 2 (ev_eq _ _ (by simp [put_sz, sz])) rfl (by omega)) hs0.out ?_
  refine wpAnyH_take (i := 13) (v := vw c) rfl (by kernel_rfl) (by kernel_rfl) (by kernel_rfl) (fun _ _ _ h => nomatch h.1) (y_load (by simp [Region.wanted]) (.tmp 239) rfl gv 2 c (ev_eq _ _ (by simp [put_sz, sz])) (fun w h => h.1 2 (by omega))) hs0.out ?_
  refine wpAnyH_take (i := 14) (v := .slice (some ⟨gv, 0, none⟩) 8 cv) rfl (by kernel_rfl) (by kernel_rfl) (by kernel_rfl) (fun _ _ _ h => nomatch h.1) (yields_move (by simp [Region.wanted]) (.tmp 15) rfl _ ((ev_ne _ _ (by decide)).trans ((ev_ne _ _ (by decide)).trans ((ev_ne _ _ (by decide)).trans ((ev_ne _ _ (by decide)).trans ((ev_ne _ _ (by decide)).trans ((ev_ne _ _ (by decide)).trans ((ev_ne _ _ (by decide)).trans ((ev_ne _ _ (by decide)).trans ((ev_ne _ _ (by decide)).trans ((ev_ne _ _ (by decide)).trans ((ev_ne _ _ (by decide)).trans ((ev_ne _ _ (by decide)).trans ((ev_ne _ _ (by decide)).trans ((ev_ne _ _ (by decide)).trans x15))))))))))))))) hs0.out ?_
  refine wpAnyH_take (i := 15) (v := .pointer (some ⟨gv, 3, none⟩)) rfl (by kernel_rfl) (by kernel_rfl) (by kernel_rfl) (fun _ _ _ h => nomatch h.1) (y_index (by simp [Region.wanted]) (.tmp 241) (.const (.int .i64 3)) rfl gv 8 cv 3 (ev_eq _ _ (by simp [put_sz, sz])) rfl (by omega)) hs0.out ?_
  refine wpAnyH_take (i := 16) (v := vw d) rfl (by kernel_rfl) (by kernel_rfl) (by kernel_rfl) (fun _ _ _ h => nomatch h.1) (y_load (by simp [Region.wanted]) (.tmp 242) rfl gv 3 d (ev_eq _ _ (by simp [put_sz, sz])) (fun w h => h.1 3 (by omega))) hs0.out ?_
  refine wpAnyH_take (i := 17) (v := vw T1) rfl (by kernel_rfl) (by kernel_rfl) (by kernel_rfl) (fun _ _ _ h => nomatch h.1) (yields_move (by simp [Region.wanted]) (.tmp 19) rfl _ ((ev_ne _ _ (by decide)).trans ((ev_ne _ _ (by decide)).trans ((ev_ne _ _ (by decide)).trans ((ev_ne _ _ (by decide)).trans ((ev_ne _ _ (by decide)).trans ((ev_ne _ _ (by decide)).trans ((ev_ne _ _ (by decide)).trans ((ev_ne _ _ (by decide)).trans ((ev_ne _ _ (by decide)).trans ((ev_ne _ _ (by decide)).trans ((ev_ne _ _ (by decide)).trans ((ev_ne _ _ (by decide)).trans ((ev_ne _ _ (by decide)).trans ((ev_ne _ _ (by decide)).trans ((ev_ne _ _ (by decide)).trans ((ev_ne _ _ (by decide)).trans ((ev_ne _ _ (by decide)).trans x19)))))))))))))))))) hs0.out ?_
  refine wpAnyH_take (i := 18) (v := vw ND) rfl (by kernel_rfl) (by kernel_rfl) (by kernel_rfl) (fun _ _ _ h => nomatch h.1) (eq_yields ZND.out.symm (y_add (by simp [Region.wanted]) (.tmp 243) (.tmp 244) rfl (d) (T1) ((ev_ne _ _ (by decide)).trans (ev_eq _ _ (by simp [put_sz, sz]))) (ev_eq _ _ (by simp [put_sz, sz])))) hs0.out ?_
  refine wpAnyH_take (i := 19) (v := .slice (some ⟨gv, 0, none⟩) 8 cv) rfl (by kernel_rfl) (by kernel_rfl) (by kernel_rfl) (fun _ _ _ h => nomatch h.1) (yields_move (by simp [Region.wanted]) (.tmp 15) rfl _ ((ev_ne _ _ (by decide)).trans ((ev_ne _ _ (by decide)).trans ((ev_ne _ _ (by decide)).trans ((ev_ne _ _ (by decide)).trans ((ev_ne _ _ (by decide)).trans ((ev_ne _ _ (by decide)).trans ((ev_ne _ _ (by decide)).trans ((ev_ne _ _ (by decide)).trans ((ev_ne _ _ (by decide)).trans ((ev_ne _ _ (by decide)).trans ((ev_ne _ _ (by decide)).trans ((ev_ne _ _ (by decide)).trans ((ev_ne _ _ (by decide)).trans ((ev_ne _ _ (by decide)).trans ((ev_ne _ _ (by decide)).trans ((ev_ne _ _ (by decide)).trans ((ev_ne _ _ (by decide)).trans ((ev_ne _ _ (by decide)).trans ((ev_ne _ _ (by decide)).trans x15)))))))))))))))))))) hs0.out ?_
  refine wpAnyH_take (i := 20) (v := .pointer (some ⟨gv, 4, none⟩)) rfl (by kernel_rfl) (by kernel_rfl) (by kernel_rfl) (fun _ _ _ h => nomatch h.1) (y_index (by simp [Region.wanted]) (.tmp 246) (.const (.int .i64 4)) rfl gv 8 cv 4 (ev_eq _ _ (by simp [put_sz, sz])) rfl (by omega)) hs0.out ?_
  refine wpAnyH_take (i := 21) (v := vw e) rfl (by kernel_rfl) (by kernel_rfl) (by kernel_rfl) (fun _ _ _ h => nomatch h.1) (y_load (by simp [Region.wanted]) (.tmp 247) rfl gv 4 e (ev_eq _ _ (by simp [put_sz, sz])) (fun w h => h.1 4 (by omega))) hs0.out ?_
  refine wpAnyH_take (i := 22) (v := .slice (some ⟨gv, 0, none⟩) 8 cv) rfl (by kernel_rfl) (by kernel_rfl) (by kernel_rfl) (fun _ _ _ h => nomatch h.1) (yields_move (by simp [Region.wanted]) (.tmp 15) rfl _ ((ev_ne _ _ (by decide)).trans ((ev_ne _ _ (by decide)).trans ((ev_ne _ _ (by decide)).trans ((ev_ne _ _ (by decide)).trans ((ev_ne _ _ (by decide)).trans ((ev_ne _ _ (by decide)).trans ((ev_ne _ _ (by decide)).trans ((ev_ne _ _ (by decide)).trans ((ev_ne _ _ (by decide)).trans ((ev_ne _ _ (by decide)).trans ((ev_ne _ _ (by decide)).trans ((ev_ne _ _ (by decide)).trans ((ev_ne _ _ (by decide)).trans ((ev_ne _ _ (by decide)).trans ((ev_ne _ _ (by decide)).trans ((ev_ne _ _ (by decide)).trans ((ev_ne _ _ (by decide)).trans ((ev_ne _ _ (by decide)).trans ((ev_ne _ _ (by decide)).trans ((ev_ne _ _ (by decide)).trans ((ev_ne _ _ (by decide)).trans ((ev_ne _ _ (by decide)).trans x15))))))))))))))))))))))) hs0.out ?_
  refine wpAnyH_take (i := 23) (v := .pointer (some ⟨gv, 5, none⟩)) rfl (by kernel_rfl) (by kernel_rfl) (by kernel_rfl) (fun _ _ _ h => nomatch h.1) (y_index (by simp [Region.wanted]) (.tmp 249) (.const (.int .i64 5)) rfl gv 8 cv 5 (ev_eq _ _ (by simp [put_sz, sz])) rfl (by omega)) hs0.out ?_
  refine wpAnyH_take (i := 24) (v := vw f) rfl (by kernel_rfl) (by kernel_rfl) (by kernel_rfl) (fun _ _ _ h => nomatch h.1) (y_load (by simp [Region.wanted]) (.tmp 250) rfl gv 5 f (ev_eq _ _ (by simp [put_sz, sz])) (fun w h => h.1 5 (by omega))) hs0.out ?_
  refine wpAnyH_take (i := 25) (v := .slice (some ⟨gv, 0, none⟩) 8 cv) rfl (by kernel_rfl) (by kernel_rfl) (by kernel_rfl) (fun _ _ _ h => nomatch h.1) (yields_move (by simp [Region.wanted]) (.tmp 15) rfl _ ((ev_ne _ _ (by decide)).trans ((ev_ne _ _ (by decide)).trans ((ev_ne _ _ (by decide)).trans ((ev_ne _ _ (by decide)).trans ((ev_ne _ _ (by decide)).trans ((ev_ne _ _ (by decide)).trans ((ev_ne _ _ (by decide)).trans ((ev_ne _ _ (by decide)).trans ((ev_ne _ _ (by decide)).trans ((ev_ne _ _ (by decide)).trans ((ev_ne _ _ (by decide)).trans ((ev_ne _ _ (by decide)).trans ((ev_ne _ _ (by decide)).trans ((ev_ne _ _ (by decide)).trans ((ev_ne _ _ (by decide)).trans ((ev_ne _ _ (by decide)).trans ((ev_ne _ _ (by decide)).trans ((ev_ne _ _ (by decide)).trans ((ev_ne _ _ (by decide)).trans ((ev_ne _ _ (by decide)).trans ((ev_ne _ _ (by decide)).trans ((ev_ne _ _ (by decide)).trans ((ev_ne _ _ (by decide)).trans ((ev_ne _ _ (by decide)).trans ((ev_ne _ _ (by decide)).trans x15)))))))))))))))))))))))))) hs0.out ?_
  refine wpAnyH_take (i := 26) (v := .pointer (some ⟨gv, 6, none⟩)) rfl (by kernel_rfl) (by kernel_rfl) (by kernel_rfl) (fun _ _ _ h => nomatch h.1) (y_index (by simp [Region.wanted]) (.tmp 252) (.const (.int .i64 6)) rfl gv 8 cv 6 (ev_eq _ _ (by simp [put_sz, sz])) rfl (by omega)) hs0.out ?_
  refine wpAnyH_take (i := 27) (v := vw g) rfl (by kernel_rfl) (by kernel_rfl) (by kernel_rfl) (fun _ _ _ h => nomatch h.1) (y_load (by simp [Region.wanted]) (.tmp 253) rfl gv 6 g (ev_eq _ _ (by simp [put_sz, sz])) (fun w h => h.1 6 (by omega))) hs0.out ?_
  refine wpAnyH_all (rs := [28]) (by kernel_rfl) (by simp) fun i9 hmem => ?_
  obtain rfl : i9 = 28 := by simpa using hmem
  refine wpOp_own rfl rfl fun K' hK' => ?_
  refine wp_build8 (.tmp 231) (.tmp 234) (.tmp 237) (.tmp 240) (.tmp 245) (.tmp 248) (.tmp 251) (.tmp 254) rfl NA a b c ND e f g ((ev_ne _ _ (by decide)).trans ((ev_ne _ _ (by decide)).trans ((ev_ne _ _ (by decide)).trans ((ev_ne _ _ (by decide)).trans ((ev_ne _ _ (by decide)).trans ((ev_ne _ _ (by decide)).trans ((ev_ne _ _ (by decide)).trans ((ev_ne _ _ (by decide)).trans ((ev_ne _ _ (by decide)).trans ((ev_ne _ _ (by decide)).trans ((ev_ne _ _ (by decide)).trans ((ev_ne _ _ (by decide)).trans ((ev_ne _ _ (by decide)).trans ((ev_ne _ _ (by decide)).trans ((ev_ne _ _ (by decide)).trans ((ev_ne _ _ (by decide)).trans ((ev_ne _ _ (by decide)).trans ((ev_ne _ _ (by decide)).trans ((ev_ne _ _ (by decide)).trans ((ev_ne _ _ (by decide)).trans ((ev_ne _ _ (by decide)).trans ((ev_ne _ _ (by decide)).trans ((ev_ne _ _ (by decide)).trans (ev_eq _ _ (by simp [put_sz, sz]))))))))))))))))))))))))) ((ev_ne _ _ (by decide)).trans ((ev_ne _ _ (by decide)).trans ((ev_ne _ _ (by decide)).trans ((ev_ne _ _ (by decide)).trans ((ev_ne _ _ (by decide)).trans ((ev_ne _ _ (by decide)).trans ((ev_ne _ _ (by decide)).trans ((ev_ne _ _ (by decide)).trans ((ev_ne _ _ (by decide)).trans ((ev_ne _ _ (by decide)).trans ((ev_ne _ _ (by decide)).trans ((ev_ne _ _ (by decide)).trans ((ev_ne _ _ (by decide)).trans ((ev_ne _ _ (by decide)).trans ((ev_ne _ _ (by decide)).trans ((ev_ne _ _ (by decide)).trans ((ev_ne _ _ (by decide)).trans ((ev_ne _ _ (by decide)).trans ((ev_ne _ _ (by decide)).trans ((ev_ne _ _ (by decide)).trans (ev_eq _ _ (by simp [put_sz, sz])))))))))))))))))))))) ((ev_ne _ _ (by decide)).trans ((ev_ne _ _ (by decide)).trans ((ev_ne _ _ (by decide)).trans ((ev_ne _ _ (by decide)).trans ((ev_ne _ _ (by decide)).trans ((ev_ne _ _ (by decide)).trans ((ev_ne _ _ (by decide)).trans ((ev_ne _ _ (by decide)).trans ((ev_ne _ _ (by decide)).trans ((ev_ne _ _ (by decide)).trans ((ev_ne _ _ (by decide)).trans ((ev_ne _ _ (by decide)).trans ((ev_ne _ _ (by decide)).trans ((ev_ne _ _ (by decide)).trans ((ev_ne _ _ (by decide)).trans ((ev_ne _ _ (by decide)).trans ((ev_ne _ _ (by decide)).trans (ev_eq _ _ (by simp [put_sz, sz]))))))))))))))))))) ((ev_ne _ _ (by decide)).trans ((ev_ne _ _ (by decide)).trans ((ev_ne _ _ (by decide)).trans ((ev_ne _ _ (by decide)).trans ((ev_ne _ _ (by decide)).trans ((ev_ne _ _ (by decide)).trans ((ev_ne _ _ (by decide)).trans ((ev_ne _ _ (by decide)).trans ((ev_ne _ _ (by decide)).trans ((ev_ne _ _ (by decide)).trans ((ev_ne _ _ (by decide)).trans ((ev_ne _ _ (by decide)).trans ((ev_ne _ _ (by decide)).trans ((ev_ne _ _ (by decide)).trans (ev_eq _ _ (by simp [put_sz, sz])))))))))))))))) ((ev_ne _ _ (by decide)).trans ((ev_ne _ _ (by decide)).trans ((ev_ne _ _ (by decide)).trans ((ev_ne _ _ (by decide)).trans ((ev_ne _ _ (by decide)).trans ((ev_ne _ _ (by decide)).trans ((ev_ne _ _ (by decide)).trans ((ev_ne _ _ (by decide)).trans ((ev_ne _ _ (by decide)).trans (ev_eq _ _ (by simp [put_sz, sz]))))))))))) ((ev_ne _ _ (by decide)).trans ((ev_ne _ _ (by decide)).trans ((ev_ne _ _ (by decide)).trans ((ev_ne _ _ (by decide)).trans ((ev_ne _ _ (by decide)).trans ((ev_ne _ _ (by decide)).trans (ev_eq _ _ (by simp [put_sz, sz])))))))) ((ev_ne _ _ (by decide)).trans ((ev_ne _ _ (by decide)).trans ((ev_ne _ _ (by decide)).trans (ev_eq _ _ (by simp [put_sz, sz]))))) (ev_eq _ _ (by simp [put_sz, sz])) ?_
  refine hK' _ _ ⟨vw_alloc hs0.out _, ?_⟩
  clear hK' K' hmem
  show wpAnyH _ _ _ _ _ _ _ (((((((((((((((((((((((((((((A.put (some 227) (vw T1)).put (some 228) (vw SG0)).put (some 229) (vw V1)).put (some 230) (vw MJ)).put (some 231) (vw NA)).put (some 232) (.slice (some ⟨gv, 0, none⟩) 8 cv)).put (some 233) (.pointer (some ⟨gv, 0, none⟩))).put (some 234) (vw a)).put (some 235) (.slice (some ⟨gv, 0, none⟩) 8 cv)).put (some 236) (.pointer (some ⟨gv, 1, none⟩))).put (some 237) (vw b)).put (some 238) (.slice (some ⟨gv, 0, none⟩) 8 cv)).put (some 239) (.pointer (some ⟨gv, 2, none⟩))).put (some 240) (vw c)).put (some 241) (.slice (some ⟨gv, 0, none⟩) 8 cv)).put (some 242) (.pointer (some ⟨gv, 3, none⟩))).put (some 243) (vw d)).put (some 244) (vw T1)).put (some 245) (vw ND)).put (some 246) (.slice (some ⟨gv, 0, none⟩) 8 cv)).put (some 247) (.pointer (some ⟨gv, 4, none⟩))).put (some 248) (vw e)).put (some 249) (.slice (some ⟨gv, 0, none⟩) 8 cv)).put (some 250) (.pointer (some ⟨gv, 5, none⟩))).put (some 251) (vw f)).put (some 252) (.slice (some ⟨gv, 0, none⟩) 8 cv)).put (some 253) (.pointer (some ⟨gv, 6, none⟩))).put (some 254) (vw g)).put (some 255) (.slice (some ⟨W.heap.size, 0, none⟩) 8 8)) _
  refine wpAnyH_take (i := 29) (v := .slice (some ⟨W.heap.size, 0, none⟩) 8 8) rfl (by kernel_rfl) (by kernel_rfl) (by kernel_rfl) (fun _ _ _ h => nomatch h.1) (yh_assign (by simp [Region.wanted]) (.tmp 255) rfl _ (ev_eq _ _ (by simp [put_sz, sz]))) (vw_alloc hs0.out _) ?_
  exact wpAnyH_done (by kernel_rfl) ⟨rfl, rfl, rfl⟩ _
end Go.Proofs.YthnciogaibhmcaaDoor

/- The rounds of the reference's Sum (loop 7), over a frame that is a letter. -/
namespace Go.Proofs.YthnciogaibhmcaaDoor
open Go.RowKit
set_option linter.unusedVariables false
set_option maxRecDepth 100000
/-- the innermost loop about a region: its body -/
def loopAt (n : Nat) : Code → Option Code
  | .loop c => match loopAt n c with
    | some d => some d
    | none => if (regionAt n c).isSome then some c else none
  | .seq a b => match loopAt n a with
    | some c => some c
    | none => loopAt n b
  | .block _ c => loopAt n c
  | .scope c => loopAt n c
  | .cond _ a b => match loopAt n a with
    | some c => some c
    | none => loopAt n b
  | _ => none
noncomputable def body7 : Code := ((Tryd.f66.body.bind (loopAt 33)).getD .skip)
/-- a frame behind a piece of code that writes one variable -/
structure Out1 (A A' : Act) (D : Nat) (v : Value) : Prop where
  sz : A'.tmps.size = 288
  df : A'.defers = A.defers
  keep : ∀ i, i < 139 → i ≠ D → A'.eval (.tmp i) = A.eval (.tmp i)
  at' : A'.eval (.tmp D) = v
theorem put_df (a : Act) (d : Option Tmp) (v : Value) : (a.put d v).defers = a.defers := by cases d <;> rfl
theorem wpList_yields {ops : Array Oper} {rest : List Oper} {o : Oper} {a : Act} {w : World} {Q : Exit → Act → World → Prop} (hg : o.guard = none) (v : Value) (hy : YieldsIf Tryd.prog ops (fun _ => True) o v a) (h : wpList Tryd.prog ops Q rest (a.put o.dst v) w) : wpList Tryd.prog ops Q (o :: rest) a w := by
  rcases hy with ⟨_, hr⟩ | ⟨hn, _⟩
  · refine wpList_plain hg fun K hK => ?_
    unfold Oper.wp
    rw [hr w trivial, Oper.upon_value]
    exact hK _ _ h
  · exact absurd hn (by simp [Region.wanted, hg])
theorem y_lss {ops : Array Oper} {S : World → Prop} {op : Oper} {a : Act} (hw : Region.wanted op (yielded ops a.tmps) = true) (x y : Operand) (ho : op.op = .binOp .lss 3 x y 3) (p q : Int) (hx : a.eval x = .int .i64 p) (hy : a.eval y = .int .i64 q) : YieldsIf Tryd.prog ops S op (.bool (decide (p < q))) a := by
  refine .inl ⟨hw, fun w _ => ?_⟩
  unfold execOp
  simp only [ho, hx, hy]
  simp [go_sem]
theorem y_addi {ops : Array Oper} {S : World → Prop} {op : Oper} {a : Act} (hw : Region.wanted op (yielded ops a.tmps) = true) (x y : Operand) (ho : op.op = .binOp .add 3 x y 3) (p q z : Int) (hx : a.eval x = .int .i64 p) (hy : a.eval y = .int .i64 q) (hz : IntKind.i64.wrap (p + q) = z) : YieldsIf Tryd.prog ops S op (.int .i64 z) a := by
  refine .inl ⟨hw, fun w _ => ?_⟩
  unfold execOp
  simp only [ho, hx, hy]
  simp [go_sem, hz]
noncomputable def code31 : Code := ((Tryd.f66.body.bind (regionAt 31)).getD .skip)
noncomputable def code32 : Code := ((Tryd.f66.body.bind (regionAt 32)).getD .skip)
theorem out31 (A : Act) (W : World) (r : Nat) (sz : A.tmps.size = 288) (x16 : A.eval (.tmp 16) = .int .i64 (r : Int)) :
    Code.wp Tryd.prog code31 (fun ex A' W' => ex = .normal ∧ ((A'.tmps.size = 288 ∧ A'.defers = A.defers ∧ (∀ i, i < 139 → A'.eval (.tmp i) = A.eval (.tmp i)) ∧ A'.eval (.tmp 140) = .bool (decide ((r : Int) < 64))) ∧ W' = W)) A W := by
  conv => arg 2; whnf
  refine wp_region_list ?_
  refine wpList_yields rfl (.int .i64 (r : Int)) (yields_move (by simp [Region.wanted]) (.tmp 16) rfl _ x16) ?_
  refine wpList_yields rfl (.bool (decide ((r : Int) < 64))) (y_lss (by simp [Region.wanted]) (.tmp 139) (.const (.int .i64 64)) rfl (r : Int) 64 (ev_eq _ _ (by rw [sz]; decide)) rfl) ?_
  refine wpList_nil ⟨rfl, ⟨by simp only [put_sz]; exact sz, by simp only [put_df], fun i hi => (ev_ne _ _ (Nat.ne_of_gt (Nat.lt_of_lt_of_le hi (by decide)))).trans (ev_ne _ _ (Nat.ne_of_gt (Nat.lt_of_lt_of_le hi (by decide)))), ev_eq _ _ (by simp only [put_sz]; rw [sz]; decide)⟩, rfl⟩
theorem out32 (A : Act) (W : World) (r : Nat) (hr : r < 64) (sz : A.tmps.size = 288) (x16 : A.eval (.tmp 16) = .int .i64 (r : Int)) :
    Code.wp Tryd.prog code32 (fun ex A' W' => ex = .normal ∧ (Out1 A A' 16 (.int .i64 ((r + 1 : Nat) : Int)) ∧ W' = W)) A W := by
  conv => arg 2; whnf
  refine wp_region_list ?_
  refine wpList_yields rfl (.int .i64 (r : Int)) (yields_move (by simp [Region.wanted]) (.tmp 16) rfl _ x16) ?_
  refine wpList_yields rfl (.int .i64 ((r + 1 : Nat) : Int)) (y_addi (by simp [Region.wanted]) (.tmp 141) (.const (.int .i64 1)) rfl (r : Int) 1 _ (ev_eq _ _ (by rw [sz]; decide)) rfl (by rw [IntKind.wrap_i64]; omega)) ?_
  refine wpList_yields rfl (.int .i64 ((r + 1 : Nat) : Int)) (yh_assign (by simp [Region.wanted]) (.tmp 142) rfl _ (ev_eq _ _ (by simp only [put_sz]; rw [sz]; decide))) ?_
  exact wpList_nil ⟨rfl, ⟨by simp only [put_sz]; exact sz, by simp only [put_df], fun i hi hd => (ev_ne _ _ (Ne.symm hd)).trans ((ev_ne _ _ (Nat.ne_of_gt (Nat.lt_of_lt_of_le hi (by decide)))).trans (ev_ne _ _ (Nat.ne_of_gt (Nat.lt_of_lt_of_le hi (by decide))))), ev_eq _ _ (by simp only [put_sz]; rw [sz]; decide)⟩, rfl⟩
theorem out33 (A : Act) (W : World) (gv cv gk gw r : Nat) (a b c d e f g h kk ww X1 SG1 : W32) (ZX1 : Hid (X1 = rotr e 6 ^^^ rotr e 11)) (ZSG1 : Hid (SG1 = X1 ^^^ rotr e 25)) (sz : A.tmps.size = 288) (x15 : A.eval (.tmp 15) = .slice (some ⟨gv, 0, none⟩) 8 cv) (hs0 : Hid (VW W gv ⟨a, b, c, d, e, f, g, h⟩ ∧ W.cell? ⟨gk, r, none⟩ = some (vw kk) ∧ W.cell? ⟨gw, r, none⟩ = some (vw ww))) :
    Code.wp Tryd.prog code33 (fun ex A' W' => ex = .normal ∧ (Out1 A A' 17 (vw SG1) ∧ W' = W.drew.drew.drew.drew)) A W := by
  refine wp_split _ (reg33 A W gv cv gk gw r a b c d e f g h kk ww X1 SG1 ZX1 ZSG1 sz x15 hs0) ?_
  rintro A' W' ⟨rfl, rfl⟩
  exact ⟨rfl, ⟨by simp only [put_sz]; exact sz, by simp only [put_df], fun i hi hd => ((ev_ne _ _ (Ne.symm hd)).trans ((ev_ne _ _ (Nat.ne_of_gt (Nat.lt_of_lt_of_le hi (by decide)))).trans ((ev_ne _ _ (Nat.ne_of_gt (Nat.lt_of_lt_of_le hi (by decide)))).trans ((ev_ne _ _ (Nat.ne_of_gt (Nat.lt_of_lt_of_le hi (by decide)))).trans ((ev_ne _ _ (Nat.ne_of_gt (Nat.lt_of_lt_of_le hi (by decide)))).trans ((ev_ne _ _ (Nat.ne_of_gt (Nat.lt_of_lt_of_le hi (by decide)))).trans ((ev_ne _ _ (Nat.ne_of_gt (Nat.lt_of_lt_of_le hi (by decide)))).trans ((ev_ne _ _ (Nat.ne_of_gt (Nat.lt_of_lt_of_le hi (by decide)))).trans ((ev_ne _ _ (Nat.ne_of_gt (Nat.lt_of_lt_of_le hi (by decide)))).trans ((ev_ne _ _ (Nat.ne_of_gt (Nat.lt_of_lt_of_le hi (by decide)))).trans ((ev_ne _ _ (Nat.ne_of_gt (Nat.lt_of_lt_of_le hi (by decide)))).trans ((ev_ne _ _ (Nat.ne_of_gt (Nat.lt_of_lt_of_le hi (by decide)))).trans ((ev_ne _ _ (Nat.ne_of_gt (Nat.lt_of_lt_of_le hi (by decide)))).trans ((ev_ne _ _ (Nat.ne_of_gt (Nat.lt_of_lt_of_le hi (by decide)))).trans (ev_ne _ _ (Nat.ne_of_gt (Nat.lt_of_lt_of_le hi (by decide)))))))))))))))))), ev_eq _ _ (by simp only [put_sz]; rw [sz]; decide)⟩, rfl⟩
theorem out34 (A : Act) (W : World) (gv cv gk gw r : Nat) (a b c d e f g h kk ww P1 NE P2 CH : W32) (ZP1 : Hid (P1 = e &&& f)) (ZNE : Hid (NE = ~~~e)) (ZP2 : Hid (P2 = NE &&& g)) (ZCH : Hid (CH = P1 ^^^ P2)) (sz : A.tmps.size = 288) (x15 : A.eval (.tmp 15) = .slice (some ⟨gv, 0, none⟩) 8 cv) (hs0 : Hid (VW W gv ⟨a, b, c, d, e, f, g, h⟩ ∧ W.cell? ⟨gk, r, none⟩ = some (vw kk) ∧ W.cell? ⟨gw, r, none⟩ = some (vw ww))) :
    Code.wp Tryd.prog code34 (fun ex A' W' => ex = .normal ∧ (Out1 A A' 18 (vw CH) ∧ W' = W.drew)) A W := by
  refine wp_split _ (reg34 A W gv cv gk gw r a b c d e f g h kk ww P1 NE P2 CH ZP1 ZNE ZP2 ZCH sz x15 hs0) ?_
  rintro A' W' ⟨rfl, rfl⟩
  exact ⟨rfl, ⟨by simp only [put_sz]; exact sz, by simp only [put_df], fun i hi hd => ((ev_ne _ _ (Ne.symm hd)).trans ((ev_ne _ _ (Nat.ne_of_gt (Nat.lt_of_lt_of_le hi (by decide)))).trans ((ev_ne _ _ (Nat.ne_of_gt (Nat.lt_of_lt_of_le hi (by decide)))).trans ((ev_ne _ _ (Nat.ne_of_gt (Nat.lt_of_lt_of_le hi (by decide)))).trans ((ev_ne _ _ (Nat.ne_of_gt (Nat.lt_of_lt_of_le hi (by decide)))).trans ((ev_ne _ _ (Nat.ne_of_gt (Nat.lt_of_lt_of_le hi (by decide)))).trans ((ev_ne _ _ (Nat.ne_of_gt (Nat.lt_of_lt_of_le hi (by decide)))).trans ((ev_ne _ _ (Nat.ne_of_gt (Nat.lt_of_lt_of_le hi (by decide)))).trans ((ev_ne _ _ (Nat.ne_of_gt (Nat.lt_of_lt_of_le hi (by decide)))).trans ((ev_ne _ _ (Nat.ne_of_gt (Nat.lt_of_lt_of_le hi (by decide)))).trans ((ev_ne _ _ (Nat.ne_of_gt (Nat.lt_of_lt_of_le hi (by decide)))).trans ((ev_ne _ _ (Nat.ne_of_gt (Nat.lt_of_lt_of_le hi (by decide)))).trans ((ev_ne _ _ (Nat.ne_of_gt (Nat.lt_of_lt_of_le hi (by decide)))).trans ((ev_ne _ _ (Nat.ne_of_gt (Nat.lt_of_lt_of_le hi (by decide)))).trans ((ev_ne _ _ (Nat.ne_of_gt (Nat.lt_of_lt_of_le hi (by decide)))).trans ((ev_ne _ _ (Nat.ne_of_gt (Nat.lt_of_lt_of_le hi (by decide)))).trans (ev_ne _ _ (Nat.ne_of_gt (Nat.lt_of_lt_of_le hi (by decide)))))))))))))))))))), ev_eq _ _ (by simp only [put_sz]; rw [sz]; decide)⟩, rfl⟩
theorem out35 (A : Act) (W : World) (gv cv gk gw r : Nat) (a b c d e f g h kk ww SG1 CH U1 U2 U3 T1 : W32) (ZU1 : Hid (U1 = h + SG1)) (ZU2 : Hid (U2 = U1 + CH)) (ZU3 : Hid (U3 = U2 + kk)) (ZT1 : Hid (T1 = U3 + ww)) (hlt : r < 64) (sz : A.tmps.size = 288) (x15 : A.eval (.tmp 15) = .slice (some ⟨gv, 0, none⟩) 8 cv) (x17 : A.eval (.tmp 17) = vw SG1) (x18 : A.eval (.tmp 18) = vw CH) (x4 : A.eval (.tmp 4) = .slice (some ⟨gk, 0, none⟩) 64 64) (x9 : A.eval (.tmp 9) = .slice (some ⟨gw, 0, none⟩) 64 64) (x16 : A.eval (.tmp 16) = .int .i64 (r : Int)) (hs0 : Hid (VW W gv ⟨a, b, c, d, e, f, g, h⟩ ∧ W.cell? ⟨gk, r, none⟩ = some (vw kk) ∧ W.cell? ⟨gw, r, none⟩ = some (vw ww))) :
    Code.wp Tryd.prog code35 (fun ex A' W' => ex = .normal ∧ (Out1 A A' 19 (vw T1) ∧ W' = W.drew)) A W := by
  refine wp_split _ (reg35 A W gv cv gk gw r a b c d e f g h kk ww SG1 CH U1 U2 U3 T1 ZU1 ZU2 ZU3 ZT1 hlt sz x15 x17 x18 x4 x9 x16 hs0) ?_
  rintro A' W' ⟨rfl, rfl⟩
  exact ⟨rfl, ⟨by simp only [put_sz]; exact sz, by simp only [put_df], fun i hi hd => ((ev_ne _ _ (Ne.symm hd)).trans ((ev_ne _ _ (Nat.ne_of_gt (Nat.lt_of_lt_of_le hi (by decide)))).trans ((ev_ne _ _ (Nat.ne_of_gt (Nat.lt_of_lt_of_le hi (by decide)))).trans ((ev_ne _ _ (Nat.ne_of_gt (Nat.lt_of_lt_of_le hi (by decide)))).trans ((ev_ne _ _ (Nat.ne_of_gt (Nat.lt_of_lt_of_le hi (by decide)))).trans ((ev_ne _ _ (Nat.ne_of_gt (Nat.lt_of_lt_of_le hi (by decide)))).trans ((ev_ne _ _ (Nat.ne_of_gt (Nat.lt_of_lt_of_le hi (by decide)))).trans ((ev_ne _ _ (Nat.ne_of_gt (Nat.lt_of_lt_of_le hi (by decide)))).trans ((ev_ne _ _ (Nat.ne_of_gt (Nat.lt_of_lt_of_le hi (by decide)))).trans ((ev_ne _ _ (Nat.ne_of_gt (Nat.lt_of_lt_of_le hi (by decide)))).trans ((ev_ne _ _ (Nat.ne_of_gt (Nat.lt_of_lt_of_le hi (by decide)))).trans ((ev_ne _ _ (Nat.ne_of_gt (Nat.lt_of_lt_of_le hi (by decide)))).trans ((ev_ne _ _ (Nat.ne_of_gt (Nat.lt_of_lt_of_le hi (by decide)))).trans ((ev_ne _ _ (Nat.ne_of_gt (Nat.lt_of_lt_of_le hi (by decide)))).trans ((ev_ne _ _ (Nat.ne_of_gt (Nat.lt_of_lt_of_le hi (by decide)))).trans ((ev_ne _ _ (Nat.ne_of_gt (Nat.lt_of_lt_of_le hi (by decide)))).trans ((ev_ne _ _ (Nat.ne_of_gt (Nat.lt_of_lt_of_le hi (by decide)))).trans (ev_ne _ _ (Nat.ne_of_gt (Nat.lt_of_lt_of_le hi (by decide))))))))))))))))))))), ev_eq _ _ (by simp only [put_sz]; rw [sz]; decide)⟩, rfl⟩
theorem out36 (A : Act) (W : World) (gv cv gk gw r : Nat) (a b c d e f g h kk ww Y1 SG0 : W32) (ZY1 : Hid (Y1 = rotr a 2 ^^^ rotr a 13)) (ZSG0 : Hid (SG0 = Y1 ^^^ rotr a 22)) (sz : A.tmps.size = 288) (x15 : A.eval (.tmp 15) = .slice (some ⟨gv, 0, none⟩) 8 cv) (hs0 : Hid (VW W gv ⟨a, b, c, d, e, f, g, h⟩ ∧ W.cell? ⟨gk, r, none⟩ = some (vw kk) ∧ W.cell? ⟨gw, r, none⟩ = some (vw ww))) :
    Code.wp Tryd.prog code36 (fun ex A' W' => ex = .normal ∧ (Out1 A A' 20 (vw SG0) ∧ W' = W.drew.drew.drew.drew)) A W := by
  refine wp_split _ (reg36 A W gv cv gk gw r a b c d e f g h kk ww Y1 SG0 ZY1 ZSG0 sz x15 hs0) ?_
  rintro A' W' ⟨rfl, rfl⟩
  exact ⟨rfl, ⟨by simp only [put_sz]; exact sz, by simp only [put_df], fun i hi hd => ((ev_ne _ _ (Ne.symm hd)).trans ((ev_ne _ _ (Nat.ne_of_gt (Nat.lt_of_lt_of_le hi (by decide)))).trans ((ev_ne _ _ (Nat.ne_of_gt (Nat.lt_of_lt_of_le hi (by decide)))).trans ((ev_ne _ _ (Nat.ne_of_gt (Nat.lt_of_lt_of_le hi (by decide)))).trans ((ev_ne _ _ (Nat.ne_of_gt (Nat.lt_of_lt_of_le hi (by decide)))).trans ((ev_ne _ _ (Nat.ne_of_gt (Nat.lt_of_lt_of_le hi (by decide)))).trans ((ev_ne _ _ (Nat.ne_of_gt (Nat.lt_of_lt_of_le hi (by decide)))).trans ((ev_ne _ _ (Nat.ne_of_gt (Nat.lt_of_lt_of_le hi (by decide)))).trans ((ev_ne _ _ (Nat.ne_of_gt (Nat.lt_of_lt_of_le hi (by decide)))).trans ((ev_ne _ _ (Nat.ne_of_gt (Nat.lt_of_lt_of_le hi (by decide)))).trans ((ev_ne _ _ (Nat.ne_of_gt (Nat.lt_of_lt_of_le hi (by decide)))).trans ((ev_ne _ _ (Nat.ne_of_gt (Nat.lt_of_lt_of_le hi (by decide)))).trans ((ev_ne _ _ (Nat.ne_of_gt (Nat.lt_of_lt_of_le hi (by decide)))).trans ((ev_ne _ _ (Nat.ne_of_gt (Nat.lt_of_lt_of_le hi (by decide)))).trans (ev_ne _ _ (Nat.ne_of_gt (Nat.lt_of_lt_of_le hi (by decide)))))))))))))))))), ev_eq _ _ (by simp only [put_sz]; rw [sz]; decide)⟩, rfl⟩
theorem out37 (A : Act) (W : World) (gv cv gk gw r : Nat) (a b c d e f g h kk ww Q1 Q2 Q3 Q4 MJ : W32) (ZQ1 : Hid (Q1 = a &&& b)) (ZQ2 : Hid (Q2 = a &&& c)) (ZQ3 : Hid (Q3 = Q1 ^^^ Q2)) (ZQ4 : Hid (Q4 = b &&& c)) (ZMJ : Hid (MJ = Q3 ^^^ Q4)) (sz : A.tmps.size = 288) (x15 : A.eval (.tmp 15) = .slice (some ⟨gv, 0, none⟩) 8 cv) (hs0 : Hid (VW W gv ⟨a, b, c, d, e, f, g, h⟩ ∧ W.cell? ⟨gk, r, none⟩ = some (vw kk) ∧ W.cell? ⟨gw, r, none⟩ = some (vw ww))) :
    Code.wp Tryd.prog code37 (fun ex A' W' => ex = .normal ∧ (Out1 A A' 21 (vw MJ) ∧ W' = W.drew)) A W := by
  refine wp_split _ (reg37 A W gv cv gk gw r a b c d e f g h kk ww Q1 Q2 Q3 Q4 MJ ZQ1 ZQ2 ZQ3 ZQ4 ZMJ sz x15 hs0) ?_
  rintro A' W' ⟨rfl, rfl⟩
  exact ⟨rfl, ⟨by simp only [put_sz]; exact sz, by simp only [put_df], fun i hi hd => ((ev_ne _ _ (Ne.symm hd)).trans ((ev_ne _ _ (Nat.ne_of_gt (Nat.lt_of_lt_of_le hi (by decide)))).trans ((ev_ne _ _ (Nat.ne_of_gt (Nat.lt_of_lt_of_le hi (by decide)))).trans ((ev_ne _ _ (Nat.ne_of_gt (Nat.lt_of_lt_of_le hi (by decide)))).trans ((ev_ne _ _ (Nat.ne_of_gt (Nat.lt_of_lt_of_le hi (by decide)))).trans ((ev_ne _ _ (Nat.ne_of_gt (Nat.lt_of_lt_of_le hi (by decide)))).trans ((ev_ne _ _ (Nat.ne_of_gt (Nat.lt_of_lt_of_le hi (by decide)))).trans ((ev_ne _ _ (Nat.ne_of_gt (Nat.lt_of_lt_of_le hi (by decide)))).trans ((ev_ne _ _ (Nat.ne_of_gt (Nat.lt_of_lt_of_le hi (by decide)))).trans ((ev_ne _ _ (Nat.ne_of_gt (Nat.lt_of_lt_of_le hi (by decide)))).trans ((ev_ne _ _ (Nat.ne_of_gt (Nat.lt_of_lt_of_le hi (by decide)))).trans ((ev_ne _ _ (Nat.ne_of_gt (Nat.lt_of_lt_of_le hi (by decide)))).trans ((ev_ne _ _ (Nat.ne_of_gt (Nat.lt_of_lt_of_le hi (by decide)))).trans ((ev_ne _ _ (Nat.ne_of_gt (Nat.lt_of_lt_of_le hi (by decide)))).trans ((ev_ne _ _ (Nat.ne_of_gt (Nat.lt_of_lt_of_le hi (by decide)))).trans ((ev_ne _ _ (Nat.ne_of_gt (Nat.lt_of_lt_of_le hi (by decide)))).trans ((ev_ne _ _ (Nat.ne_of_gt (Nat.lt_of_lt_of_le hi (by decide)))).trans ((ev_ne _ _ (Nat.ne_of_gt (Nat.lt_of_lt_of_le hi (by decide)))).trans ((ev_ne _ _ (Nat.ne_of_gt (Nat.lt_of_lt_of_le hi (by decide)))).trans ((ev_ne _ _ (Nat.ne_of_gt (Nat.lt_of_lt_of_le hi (by decide)))).trans ((ev_ne _ _ (Nat.ne_of_gt (Nat.lt_of_lt_of_le hi (by decide)))).trans ((ev_ne _ _ (Nat.ne_of_gt (Nat.lt_of_lt_of_le hi (by decide)))).trans ((ev_ne _ _ (Nat.ne_of_gt (Nat.lt_of_lt_of_le hi (by decide)))).trans (ev_ne _ _ (Nat.ne_of_gt (Nat.lt_of_lt_of_le hi (by decide))))))))))))))))))))))))))), ev_eq _ _ (by simp only [put_sz]; rw [sz]; decide)⟩, rfl⟩
theorem out38 (A : Act) (W : World) (gv cv gk gw r : Nat) (a b c d e f g h kk ww T1 SG0 MJ V1 NA ND : W32) (ZV1 : Hid (V1 = T1 + SG0)) (ZNA : Hid (NA = V1 + MJ)) (ZND : Hid (ND = d + T1)) (sz : A.tmps.size = 288) (x15 : A.eval (.tmp 15) = .slice (some ⟨gv, 0, none⟩) 8 cv) (x19 : A.eval (.tmp 19) = vw T1) (x20 : A.eval (.tmp 20) = vw SG0) (x21 : A.eval (.tmp 21) = vw MJ) (hs0 : Hid (VW W gv ⟨a, b, c, d, e, f, g, h⟩ ∧ W.cell? ⟨gk, r, none⟩ = some (vw kk) ∧ W.cell? ⟨gw, r, none⟩ = some (vw ww))) :
    Code.wp Tryd.prog code38 (fun ex A' W' => ex = .normal ∧ (Out1 A A' 15 (.slice (some ⟨W.heap.size, 0, none⟩) 8 8) ∧ W' = W.drew.alloc (.cells #[vw NA, vw a, vw b, vw c, vw ND, vw e, vw f, vw g] 101))) A W := by
  refine wp_split _ (reg38 A W gv cv gk gw r a b c d e f g h kk ww T1 SG0 MJ V1 NA ND ZV1 ZNA ZND sz x15 x19 x20 x21 hs0) ?_
  rintro A' W' ⟨rfl, rfl⟩
  exact ⟨rfl, ⟨by simp only [put_sz]; exact sz, by simp only [put_df], fun i hi hd => ((ev_ne _ _ (Ne.symm hd)).trans ((ev_ne _ _ (Nat.ne_of_gt (Nat.lt_of_lt_of_le hi (by decide)))).trans ((ev_ne _ _ (Nat.ne_of_gt (Nat.lt_of_lt_of_le hi (by decide)))).trans ((ev_ne _ _ (Nat.ne_of_gt (Nat.lt_of_lt_of_le hi (by decide)))).trans ((ev_ne _ _ (Nat.ne_of_gt (Nat.lt_of_lt_of_le hi (by decide)))).trans ((ev_ne _ _ (Nat.ne_of_gt (Nat.lt_of_lt_of_le hi (by decide)))).trans ((ev_ne _ _ (Nat.ne_of_gt (Nat.lt_of_lt_of_le hi (by decide)))).trans ((ev_ne _ _ (Nat.ne_of_gt (Nat.lt_of_lt_of_le hi (by decide)))).trans ((ev_ne _ _ (Nat.ne_of_gt (Nat.lt_of_lt_of_le hi (by decide)))).trans ((ev_ne _ _ (Nat.ne_of_gt (Nat.lt_of_lt_of_le hi (by decide)))).trans ((ev_ne _ _ (Nat.ne_of_gt (Nat.lt_of_lt_of_le hi (by decide)))).trans ((ev_ne _ _ (Nat.ne_of_gt (Nat.lt_of_lt_of_le hi (by decide)))).trans ((ev_ne _ _ (Nat.ne_of_gt (Nat.lt_of_lt_of_le hi (by decide)))).trans ((ev_ne _ _ (Nat.ne_of_gt (Nat.lt_of_lt_of_le hi (by decide)))).trans ((ev_ne _ _ (Nat.ne_of_gt (Nat.lt_of_lt_of_le hi (by decide)))).trans ((ev_ne _ _ (Nat.ne_of_gt (Nat.lt_of_lt_of_le hi (by decide)))).trans ((ev_ne _ _ (Nat.ne_of_gt (Nat.lt_of_lt_of_le hi (by decide)))).trans ((ev_ne _ _ (Nat.ne_of_gt (Nat.lt_of_lt_of_le hi (by decide)))).trans ((ev_ne _ _ (Nat.ne_of_gt (Nat.lt_of_lt_of_le hi (by decide)))).trans ((ev_ne _ _ (Nat.ne_of_gt (Nat.lt_of_lt_of_le hi (by decide)))).trans ((ev_ne _ _ (Nat.ne_of_gt (Nat.lt_of_lt_of_le hi (by decide)))).trans ((ev_ne _ _ (Nat.ne_of_gt (Nat.lt_of_lt_of_le hi (by decide)))).trans ((ev_ne _ _ (Nat.ne_of_gt (Nat.lt_of_lt_of_le hi (by decide)))).trans ((ev_ne _ _ (Nat.ne_of_gt (Nat.lt_of_lt_of_le hi (by decide)))).trans ((ev_ne _ _ (Nat.ne_of_gt (Nat.lt_of_lt_of_le hi (by decide)))).trans ((ev_ne _ _ (Nat.ne_of_gt (Nat.lt_of_lt_of_le hi (by decide)))).trans ((ev_ne _ _ (Nat.ne_of_gt (Nat.lt_of_lt_of_le hi (by decide)))).trans ((ev_ne _ _ (Nat.ne_of_gt (Nat.lt_of_lt_of_le hi (by decide)))).trans ((ev_ne _ _ (Nat.ne_of_gt (Nat.lt_of_lt_of_le hi (by decide)))).trans (ev_ne _ _ (Nat.ne_of_gt (Nat.lt_of_lt_of_le hi (by decide))))))))))))))))))))))))))))))))), ev_eq _ _ (by simp only [put_sz]; rw [sz]; decide)⟩, rfl⟩
end Go.Proofs.YthnciogaibhmcaaDoor

/- The rounds of the reference's Sum: the loop, over a frame that is a letter. -/
namespace Go.Proofs.YthnciogaibhmcaaDoor
open Go.RowKit
set_option linter.unusedVariables false
set_option maxRecDepth 100000
/-- what the rounds keep -/
structure I7 (N gm gw : Nat) (cur : Array Value) (V2 : World) (sH : S8) (bs : List UInt8) (A0 A : Act) (W : World) (r : Nat) : Prop where
  sz : A.tmps.size = 288
  df : A.defers = A0.defers
  keep : ∀ i : Nat, i < 139 → (i < 15 ∨ 21 < i) → A.eval (.tmp i) = A0.eval (.tmp i)
  le : r ≤ 64
  i : A.eval (.tmp 16) = .int .i64 (r : Int)
  v : ∃ gv cv, A.eval (.tmp 15) = .slice (some ⟨gv, 0, none⟩) 8 cv ∧ N + 1 < gv ∧ VW W gv (rds sH bs r)
  sc : W.heap[gw]? = some (.cells (wvs (sched bs)) 101 (0, 0))
  bl : BL N gm cur V2 W sH
def mu7 (A : Act) (_ : World) : Nat := 64 - (intOf (A.eval (.tmp 16))).toNat
theorem ne_mid {i D : Nat} (hc : i < 15 ∨ 21 < i) (h1 : 15 ≤ D) (h2 : D ≤ 21) : i ≠ D := by omega
set_option maxHeartbeats 4000000 in
theorem round7 {Q : Exit → Act → World → Prop} {N gm gw : Nat} {cur : Array Value} {V2 : World} {sH : S8} {bs : List UInt8} {A0 : Act} (x4 : A0.eval (.tmp 4) = .slice (some ⟨N + 1 + 1, 0, none⟩) 64 64) (x9 : A0.eval (.tmp 9) = .slice (some ⟨gw, 0, none⟩) 64 64)
    (hexit : ∀ A W, I7 N gm gw cur V2 sH bs A0 A W 64 → Q (.exit 12) A W) (A : Act) (W : World) (r : Nat) (I : I7 N gm gw cur V2 sH bs A0 A W r) :
    Code.wp Tryd.prog body7 (Exit.then (fun A' W' => (∃ r', I7 N gm gw cur V2 sH bs A0 A' W' r') ∧ mu7 A' W' < mu7 A W) Q) A W := by
  obtain ⟨gv, cv, x15, hgv, hv⟩ := I.v
  conv => arg 2; whnf
  refine wp_seq ?_
  refine wp_seq ?_
  refine wp_split _ (out31 A W r I.sz I.i) ?_
  rintro A1 W1 ⟨⟨sz1, df1, k1, c1⟩, hW1⟩
  show Code.wp _ _ _ A1 W1
  by_cases hlt : r < 64
  · refine wp_cond_true (by rw [c1, decide_eq_true (by omega)]) ?_
    refine wp_skip ?_
    show Code.wp _ _ _ A1 W1
    refine wp_seq ?_
    refine wp_block ?_
    refine wp_seq ?_
    have Hstep := rds_step sH bs r hlt
    have cw : W1.cell? ⟨gw, r, none⟩ = some (vw ((sched bs)[r]'(by rw [sched_length]; exact hlt))) := by
      rw [hW1, cell_of_row _ _ _ _ _ _ I.sc, wvs_get _ r (by rw [sched_length]; exact hlt)]
    have ck : W1.cell? ⟨N + 1 + 1, r, none⟩ = some (vw (KL[r]'(by rw [KL_length]; exact hlt))) := by
      rw [hW1, cell_of_row _ _ _ _ _ _ I.bl.k, kcells_eq, List.getElem?_toArray, List.getElem?_map, List.getElem?_eq_getElem (by rw [KL_length]; exact hlt)]
      rfl
    generalize (sched bs)[r]'(by rw [sched_length]; exact hlt) = ww at cw Hstep
    generalize KL[r]'(by rw [KL_length]; exact hlt) = kk at ck Hstep
    obtain ⟨S, hS⟩ : ∃ S, S = rds sH bs r := ⟨_, rfl⟩
    rw [← hS] at hv Hstep
    obtain ⟨a, b, c, d, e, f, g, h⟩ := S
    obtain ⟨X1, hX1⟩ : ∃ X1 : W32, X1 = rotr e 6 ^^^ rotr e 11 := ⟨_, rfl⟩
    obtain ⟨SG1, hSG1⟩ : ∃ SG1 : W32, SG1 = X1 ^^^ rotr e 25 := ⟨_, rfl⟩
    obtain ⟨P1, hP1⟩ : ∃ P1 : W32, P1 = e &&& f := ⟨_, rfl⟩
    obtain ⟨NE, hNE⟩ : ∃ NE : W32, NE = ~~~e := ⟨_, rfl⟩
    obtain ⟨P2, hP2⟩ : ∃ P2 : W32, P2 = NE &&& g := ⟨_, rfl⟩
    obtain ⟨CH, hCH⟩ : ∃ CH : W32, CH = P1 ^^^ P2 := ⟨_, rfl⟩
    obtain ⟨U1, hU1⟩ : ∃ U1 : W32, U1 = h + SG1 := ⟨_, rfl⟩
    obtain ⟨U2, hU2⟩ : ∃ U2 : W32, U2 = U1 + CH := ⟨_, rfl⟩
    obtain ⟨U3, hU3⟩ : ∃ U3 : W32, U3 = U2 + kk := ⟨_, rfl⟩
    obtain ⟨T1, hT1⟩ : ∃ T1 : W32, T1 = U3 + ww := ⟨_, rfl⟩
    obtain ⟨Y1, hY1⟩ : ∃ Y1 : W32, Y1 = rotr a 2 ^^^ rotr a 13 := ⟨_, rfl⟩
    obtain ⟨SG0, hSG0⟩ : ∃ SG0 : W32, SG0 = Y1 ^^^ rotr a 22 := ⟨_, rfl⟩
    obtain ⟨Q1, hQ1⟩ : ∃ Q1 : W32, Q1 = a &&& b := ⟨_, rfl⟩
    obtain ⟨Q2, hQ2⟩ : ∃ Q2 : W32, Q2 = a &&& c := ⟨_, rfl⟩
    obtain ⟨Q3, hQ3⟩ : ∃ Q3 : W32, Q3 = Q1 ^^^ Q2 := ⟨_, rfl⟩
    obtain ⟨Q4, hQ4⟩ : ∃ Q4 : W32, Q4 = b &&& c := ⟨_, rfl⟩
    obtain ⟨MJ, hMJ⟩ : ∃ MJ : W32, MJ = Q3 ^^^ Q4 := ⟨_, rfl⟩
    obtain ⟨V1, hV1⟩ : ∃ V1 : W32, V1 = T1 + SG0 := ⟨_, rfl⟩
    obtain ⟨NA, hNA⟩ : ∃ NA : W32, NA = V1 + MJ := ⟨_, rfl⟩
    obtain ⟨ND, hND⟩ : ∃ ND : W32, ND = d + T1 := ⟨_, rfl⟩
    have Hnew : rds sH bs (r + 1) = ⟨NA, a, b, c, ND, e, f, g⟩ := by
      rw [Hstep, rd_at, hND, hNA, hV1, hMJ, hQ4, hQ3, hQ2, hQ1, hSG0, hY1, hT1, hU3, hU2, hU1, hCH, hP2, hNE, hP1, hSG1, hX1]
    have hs1 : Hid (VW W1 gv ⟨a, b, c, d, e, f, g, h⟩ ∧ W1.cell? ⟨N + 1 + 1, r, none⟩ = some (vw kk) ∧ W1.cell? ⟨gw, r, none⟩ = some (vw ww)) := ⟨by rw [hW1]; exact hv, ck, cw⟩
    have hd1 : Below W.heap.size W W1 := by rw [hW1]; exact Below.refl _ _
    have y15 : A1.eval (.tmp 15) = .slice (some ⟨gv, 0, none⟩) 8 cv := (k1 15 (by decide)).trans x15
    have y16 : A1.eval (.tmp 16) = .int .i64 (r : Int) := (k1 16 (by decide)).trans I.i
    have y4 : A1.eval (.tmp 4) = .slice (some ⟨N + 1 + 1, 0, none⟩) 64 64 := (k1 4 (by decide)).trans ((I.keep 4 (by decide) (by decide)).trans x4)
    have y9 : A1.eval (.tmp 9) = .slice (some ⟨gw, 0, none⟩) 64 64 := (k1 9 (by decide)).trans ((I.keep 9 (by decide) (by decide)).trans x9)
    have sz := sz1
    refine wp_split _ (out33 A1 W1 gv cv (N + 1 + 1) gw r a b c d e f g h kk ww X1 SG1 hX1 hSG1 sz1 y15 hs1) ?_
    rintro A2 W2 ⟨o2, hW2⟩
    show Code.wp _ _ _ A2 W2
    have sz2 := o2.sz
    have y4_2 : A2.eval (.tmp 4) = .slice (some ⟨N + 1 + 1, 0, none⟩) 64 64 := (o2.keep 4 (by decide) (by decide)).trans y4
    have y9_2 : A2.eval (.tmp 9) = .slice (some ⟨gw, 0, none⟩) 64 64 := (o2.keep 9 (by decide) (by decide)).trans y9
    have y15_2 : A2.eval (.tmp 15) = .slice (some ⟨gv, 0, none⟩) 8 cv := (o2.keep 15 (by decide) (by decide)).trans y15
    have y16_2 : A2.eval (.tmp 16) = .int .i64 (r : Int) := (o2.keep 16 (by decide) (by decide)).trans y16
    have y17_2 : A2.eval (.tmp 17) = vw SG1 := o2.at'
    have hs2 : Hid (VW W2 gv ⟨a, b, c, d, e, f, g, h⟩ ∧ W2.cell? ⟨N + 1 + 1, r, none⟩ = some (vw kk) ∧ W2.cell? ⟨gw, r, none⟩ = some (vw ww)) := by rw [hW2]; exact hs1.out
    have hd2 : Below W.heap.size W W2 := by rw [hW2]; exact hd1.drew.drew.drew.drew
    refine wp_seq ?_
    refine wp_split _ (out34 A2 W2 gv cv (N + 1 + 1) gw r a b c d e f g h kk ww P1 NE P2 CH hP1 hNE hP2 hCH sz2 y15_2 hs2) ?_
    rintro A3 W3 ⟨o3, hW3⟩
    show Code.wp _ _ _ A3 W3
    have sz3 := o3.sz
    have y4_3 : A3.eval (.tmp 4) = .slice (some ⟨N + 1 + 1, 0, none⟩) 64 64 := (o3.keep 4 (by decide) (by decide)).trans y4_2
    have y9_3 : A3.eval (.tmp 9) = .slice (some ⟨gw, 0, none⟩) 64 64 := (o3.keep 9 (by decide) (by decide)).trans y9_2
    have y15_3 : A3.eval (.tmp 15) = .slice (some ⟨gv, 0, none⟩) 8 cv := (o3.keep 15 (by decide) (by decide)).trans y15_2
    have y16_3 : A3.eval (.tmp 16) = .int .i64 (r : Int) := (o3.keep 16 (by decide) (by decide)).trans y16_2
    have y17_3 : A3.eval (.tmp 17) = vw SG1 := (o3.keep 17 (by decide) (by decide)).trans y17_2
    have y18_3 : A3.eval (.tmp 18) = vw CH := o3.at'
    have hs3 : Hid (VW W3 gv ⟨a, b, c, d, e, f, g, h⟩ ∧ W3.cell? ⟨N + 1 + 1, r, none⟩ = some (vw kk) ∧ W3.cell? ⟨gw, r, none⟩ = some (vw ww)) := by rw [hW3]; exact hs2.out
    have hd3 : Below W.heap.size W W3 := by rw [hW3]; exact hd2.drew
    refine wp_seq ?_
    refine wp_split _ (out35 A3 W3 gv cv (N + 1 + 1) gw r a b c d e f g h kk ww SG1 CH U1 U2 U3 T1 hU1 hU2 hU3 hT1 hlt sz3 y15_3 y17_3 y18_3 y4_3 y9_3 y16_3 hs3) ?_
    rintro A4 W4 ⟨o4, hW4⟩
    show Code.wp _ _ _ A4 W4
    have sz4 := o4.sz
    have y4_4 : A4.eval (.tmp 4) = .slice (some ⟨N + 1 + 1, 0, none⟩) 64 64 := (o4.keep 4 (by decide) (by decide)).trans y4_3
    have y9_4 : A4.eval (.tmp 9) = .slice (some ⟨gw, 0, none⟩) 64 64 := (o4.keep 9 (by decide) (by decide)).trans y9_3
    have y15_4 : A4.eval (.tmp 15) = .slice (some ⟨gv, 0, none⟩) 8 cv := (o4.keep 15 (by decide) (by decide)).trans y15_3
    have y16_4 : A4.eval (.tmp 16) = .int .i64 (r : Int) := (o4.keep 16 (by decide) (by decide)).trans y16_3
    have y17_4 : A4.eval (.tmp 17) = vw SG1 := (o4.keep 17 (by decide) (by decide)).trans y17_3
    have y18_4 : A4.eval (.tmp 18) = vw CH := (o4.keep 18 (by decide) (by decide)).trans y18_3
    have y19_4 : A4.eval (.tmp 19) = vw T1 := o4.at'
    have hs4 : Hid (VW W4 gv ⟨a, b, c, d, e, f, g, h⟩ ∧ W4.cell? ⟨N + 1 + 1, r, none⟩ = some (vw kk) ∧ W4.cell? ⟨gw, r, none⟩ = some (vw ww)) := by rw [hW4]; exact hs3.out
    have hd4 : Below W.heap.size W W4 := by rw [hW4]; exact hd3.drew
    refine wp_seq ?_
    refine wp_split _ (out36 A4 W4 gv cv (N + 1 + 1) gw r a b c d e f g h kk ww Y1 SG0 hY1 hSG0 sz4 y15_4 hs4) ?_
    rintro A5 W5 ⟨o5, hW5⟩
    show Code.wp _ _ _ A5 W5
    have sz5 := o5.sz
    have y4_5 : A5.eval (.tmp 4) = .slice (some ⟨N + 1 + 1, 0, none⟩) 64 64 := (o5.keep 4 (by decide) (by decide)).trans y4_4
    have y9_5 : A5.eval (.tmp 9) = .slice (some ⟨gw, 0, none⟩) 64 64 := (o5.keep 9 (by decide) (by decide)).trans y9_4
    have y15_5 : A5.eval (.tmp 15) = .slice (some ⟨gv, 0, none⟩) 8 cv := (o5.keep 15 (by decide) (by decide)).trans y15_4
    have y16_5 : A5.eval (.tmp 16) = .int .i64 (r : Int) := (o5.keep 16 (by decide) (by decide)).trans y16_4
    have y17_5 : A5.eval (.tmp 17) = vw SG1 := (o5.keep 17 (by decide) (by decide)).trans y17_4
    have y18_5 : A5.eval (.tmp 18) = vw CH := (o5.keep 18 (by decide) (by decide)).trans y18_4
    have y19_5 : A5.eval (.tmp 19) = vw T1 := (o5.keep 19 (by decide) (by decide)).trans y19_4
    have y20_5 : A5.eval (.tmp 20) = vw SG0 := o5.at'
    have hs5 : Hid (VW W5 gv ⟨a, b, c, d, e, f, g, h⟩ ∧ W5.cell? ⟨N + 1 + 1, r, none⟩ = some (vw kk) ∧ W5.cell? ⟨gw, r, none⟩ = some (vw ww)) := by rw [hW5]; exact hs4.out
    have hd5 : Below W.heap.size W W5 := by rw [hW5]; exact hd4.drew.drew.drew.drew
    refine wp_seq ?_
    refine wp_split _ (out37 A5 W5 gv cv (N + 1 + 1) gw r a b c d e f g h kk ww Q1 Q2 Q3 Q4 MJ hQ1 hQ2 hQ3 hQ4 hMJ sz5 y15_5 hs5) ?_
    rintro A6 W6 ⟨o6, hW6⟩
    show Code.wp _ _ _ A6 W6
    have sz6 := o6.sz
    have y4_6 : A6.eval (.tmp 4) = .slice (some ⟨N + 1 + 1, 0, none⟩) 64 64 := (o6.keep 4 (by decide) (by decide)).trans y4_5
    have y9_6 : A6.eval (.tmp 9) = .slice (some ⟨gw, 0, none⟩) 64 64 := (o6.keep 9 (by decide) (by decide)).trans y9_5
    have y15_6 : A6.eval (.tmp 15) = .slice (some ⟨gv, 0, none⟩) 8 cv := (o6.keep 15 (by decide) (by decide)).trans y15_5
    have y16_6 : A6.eval (.tmp 16) = .int .i64 (r : Int) := (o6.keep 16 (by decide) (by decide)).trans y16_5
    have y17_6 : A6.eval (.tmp 17) = vw SG1 := (o6.keep 17 (by decide) (by decide)).trans y17_5
    have y18_6 : A6.eval (.tmp 18) = vw CH := (o6.keep 18 (by decide) (by decide)).trans y18_5
    have y19_6 : A6.eval (.tmp 19) = vw T1 := (o6.keep 19 (by decide) (by decide)).trans y19_5
    have y20_6 : A6.eval (.tmp 20) = vw SG0 := (o6.keep 20 (by decide) (by decide)).trans y20_5
    have y21_6 : A6.eval (.tmp 21) = vw MJ := o6.at'
    have hs6 : Hid (VW W6 gv ⟨a, b, c, d, e, f, g, h⟩ ∧ W6.cell? ⟨N + 1 + 1, r, none⟩ = some (vw kk) ∧ W6.cell? ⟨gw, r, none⟩ = some (vw ww)) := by rw [hW6]; exact hs5.out
    have hd6 : Below W.heap.size W W6 := by rw [hW6]; exact hd5.drew
    refine wp_split _ (out38 A6 W6 gv cv (N + 1 + 1) gw r a b c d e f g h kk ww T1 SG0 MJ V1 NA ND hV1 hNA hND sz6 y15_6 y19_6 y20_6 y21_6 hs6) ?_
    rintro A7 W7 ⟨o7, hW7⟩
    show Code.wp _ _ _ A7 W7
    have sz7 := o7.sz
    have y4_7 : A7.eval (.tmp 4) = .slice (some ⟨N + 1 + 1, 0, none⟩) 64 64 := (o7.keep 4 (by decide) (by decide)).trans y4_6
    have y9_7 : A7.eval (.tmp 9) = .slice (some ⟨gw, 0, none⟩) 64 64 := (o7.keep 9 (by decide) (by decide)).trans y9_6
    have y16_7 : A7.eval (.tmp 16) = .int .i64 (r : Int) := (o7.keep 16 (by decide) (by decide)).trans y16_6
    have y17_7 : A7.eval (.tmp 17) = vw SG1 := (o7.keep 17 (by decide) (by decide)).trans y17_6
    have y18_7 : A7.eval (.tmp 18) = vw CH := (o7.keep 18 (by decide) (by decide)).trans y18_6
    have y19_7 : A7.eval (.tmp 19) = vw T1 := (o7.keep 19 (by decide) (by decide)).trans y19_6
    have y20_7 : A7.eval (.tmp 20) = vw SG0 := (o7.keep 20 (by decide) (by decide)).trans y20_6
    have y21_7 : A7.eval (.tmp 21) = vw MJ := (o7.keep 21 (by decide) (by decide)).trans y21_6
    have hd7 : Below W.heap.size W W7 := by rw [hW7]; exact hd6.drew.alloc hd6.size _
    have HBn : BL N gm cur V2 W7 sH := I.bl.below hd7
    have Hsn : W7.heap[gw]? = some (.cells (wvs (sched bs)) 101 (0, 0)) := (hd7.block _ (heap_lt I.sc)).trans I.sc
    have Hvn : VW W7 W6.heap.size (rds sH bs (r + 1)) := by
      rw [Hnew, hW7]
      intro q hq
      rw [show W6.heap.size = W6.drew.heap.size from rfl, cell_of_row _ _ _ _ _ _ (heap_alloc_new W6.drew _)]
      have : q = 0 ∨ q = 1 ∨ q = 2 ∨ q = 3 ∨ q = 4 ∨ q = 5 ∨ q = 6 ∨ q = 7 := by omega
      rcases this with rfl | rfl | rfl | rfl | rfl | rfl | rfl | rfl <;> rfl
    refine wp_split _ (out32 A7 W7 r hlt sz7 y16_7) ?_
    rintro A8 W8 ⟨o8, hW8⟩
    show (∃ r', I7 N gm gw cur V2 sH bs A0 A8 W8 r') ∧ mu7 A8 W8 < mu7 A W
    refine ⟨⟨r + 1, ⟨o8.sz, ?_, fun i hi hc => ?_, by omega, o8.at', ⟨W6.heap.size, 8, (o8.keep 15 (by decide) (by decide)).trans o7.at', Nat.lt_of_lt_of_le (heap_lt I.bl.h) hd6.size, by rw [hW8]; exact Hvn⟩, by rw [hW8]; exact Hsn, by rw [hW8]; exact HBn⟩⟩, ?_⟩
    · rw [o8.df, o7.df, o6.df, o5.df, o4.df, o3.df, o2.df, df1]; exact I.df
    · exact (o8.keep i hi (ne_mid hc (by decide) (by decide))).trans ((o7.keep i hi (ne_mid hc (by decide) (by decide))).trans ((o6.keep i hi (ne_mid hc (by decide) (by decide))).trans ((o5.keep i hi (ne_mid hc (by decide) (by decide))).trans ((o4.keep i hi (ne_mid hc (by decide) (by decide))).trans ((o3.keep i hi (ne_mid hc (by decide) (by decide))).trans ((o2.keep i hi (ne_mid hc (by decide) (by decide))).trans ((k1 i hi).trans (I.keep i hi hc))))))))
    · unfold mu7
      rw [o8.at', I.i]
      simp only [intOf]
      omega
  · refine wp_cond_false (by rw [c1, decide_eq_false (by omega)]) ?_
    refine wp_exit ?_
    show Q (.exit 12) A1 W1
    have hr : r = 64 := by have := I.le; omega
    subst hr
    refine hexit A1 W1 ⟨sz1, df1.trans I.df, fun i hi hc => (k1 i hi).trans (I.keep i hi hc), Nat.le_refl _, (k1 16 (by decide)).trans I.i, ⟨gv, cv, (k1 15 (by decide)).trans x15, hgv, by rw [hW1]; exact hv⟩, by rw [hW1]; exact I.sc, by rw [hW1]; exact I.bl⟩
/-- the loop -/
theorem loop7 {Q : Exit → Act → World → Prop} {N gm gw : Nat} {cur : Array Value} {V2 : World} {sH : S8} {bs : List UInt8} {A0 : Act} {W0 : World} (x4 : A0.eval (.tmp 4) = .slice (some ⟨N + 1 + 1, 0, none⟩) 64 64) (x9 : A0.eval (.tmp 9) = .slice (some ⟨gw, 0, none⟩) 64 64)
    (start : I7 N gm gw cur V2 sH bs A0 A0 W0 0) (hexit : ∀ A W, I7 N gm gw cur V2 sH bs A0 A W 64 → Q (.exit 12) A W) : Code.wp Tryd.prog (Code.loop body7) Q A0 W0 :=
  wp_loop (fun A W => ∃ r, I7 N gm gw cur V2 sH bs A0 A W r) mu7 ⟨0, start⟩ (fun A W ⟨r, h⟩ => round7 x4 x9 hexit A W r h)
end Go.Proofs.YthnciogaibhmcaaDoor

/- The words of a block added to the state (loop 8 of the reference's Sum), over a frame that is a letter. -/
namespace Go.Proofs.YthnciogaibhmcaaDoor
open Go.RowKit
set_option linter.unusedVariables false
set_option maxRecDepth 100000
/-- a frame behind code that writes no slots but these -/
structure Keep (A A' : Act) (L : List Nat) : Prop where
  sz : A'.tmps.size = A.tmps.size
  df : A'.defers = A.defers
  keep : ∀ i : Nat, i ∉ L → A'.eval (.tmp i) = A.eval (.tmp i)
theorem Keep.refl (A : Act) (L : List Nat) : Keep A A L := ⟨rfl, rfl, fun _ _ => rfl⟩
theorem Keep.put {A A' : Act} {L : List Nat} (h : Keep A A' L) (d : Nat) (v : Value) (hd : d ∈ L) : Keep A (A'.put (some d) v) L :=
  ⟨(put_sz _ _ _).trans h.sz, (put_df _ _ _).trans h.df, fun i hi => (ev_ne _ _ (fun e => hi (by have e' : d = i := e; rw [← e']; exact hd))).trans (h.keep i hi)⟩
theorem Keep.putn {A A' : Act} {L : List Nat} (h : Keep A A' L) (v : Value) : Keep A (A'.put none v) L := ⟨(put_sz _ _ _).trans h.sz, (put_df _ _ _).trans h.df, h.keep⟩
theorem Keep.trans {A B D : Act} {L : List Nat} (h : Keep A B L) (k : Keep B D L) : Keep A D L := ⟨k.sz.trans h.sz, k.df.trans h.df, fun i hi => (k.keep i hi).trans (h.keep i hi)⟩
theorem Keep.mono {A B : Act} {L M : List Nat} (h : Keep A B L) (k : ∀ i, i ∈ L → i ∈ M) : Keep A B M := ⟨h.sz, h.df, fun i hi => h.keep i (fun hm => hi (k i hm))⟩
theorem wp_yields {ops : Array Oper} {S : World → Prop} {o : Oper} {a : Act} {w : World} {v : Value} {K : Act → World → Prop} {Q : Exit → Act → World → Prop} (hy : YieldsIf Tryd.prog ops S o v a) (hs : S w) (hg : o.guard = none) (h : K (a.put o.dst v) w) : o.wp Tryd.prog a w K Q := by
  rcases hy with ⟨_, hr⟩ | ⟨hn, _⟩
  · unfold Oper.wp
    rw [hr w hs, Oper.upon_value]
    exact h
  · exact absurd hn (by simp [Region.wanted, hg])
theorem wpOp_yields {ops : Array Oper} {i : Nat} {o : Oper} {S : World → Prop} {a : Act} {w : World} {v : Value} {K : Act → World → Prop} {Q : Exit → Act → World → Prop} (hi : ops[i]? = some o) (hg : o.guard = none) (hy : YieldsIf Tryd.prog ops S o v a) (hs : S w) (h : K (a.put o.dst v) w) : wpOp Tryd.prog ops Q i K a w :=
  wpOp_own hi hg fun K' hK' => wp_yields hy hs hg (hK' _ _ h)
theorem wpOp_storeW {ops : Array Oper} {i : Nat} {o : Oper} {a : Act} {w : World} {K : Act → World → Prop} {Q : Exit → Act → World → Prop} (hi : ops[i]? = some o) (hg : o.guard = none) (x y : Operand) (ho : o.op = .store 101 x y) (g k : Nat) (v : W32) (u : Value) (hx : a.eval x = .pointer (some ⟨g, k, none⟩)) (hy : a.eval y = vw v)
    (hc : w.cell? ⟨g, k, none⟩ = some u) (hf : w.frozen? ⟨g, k, none⟩ = false) (h : K (a.put o.dst undef) (w.setCell ⟨g, k, none⟩ (vw v))) : wpOp Tryd.prog ops Q i K a w :=
  wpOp_own hi hg fun K' hK' => wp_store_word x y ho g k v u hx hy hc hf (hK' _ _ h)
abbrev L8 : List Nat := [22, 256, 257, 258, 259, 260, 261, 262, 263, 264, 265, 266, 267, 268, 269]
noncomputable def code40 : Code := ((Tryd.f66.body.bind (regionAt 40)).getD .skip)
noncomputable def code41 : Code := ((Tryd.f66.body.bind (regionAt 41)).getD .skip)
noncomputable def code42 : Code := ((Tryd.f66.body.bind (regionAt 42)).getD .skip)
noncomputable def body8 : Code := ((Tryd.f66.body.bind (loopAt 42)).getD .skip)
theorem out40 (A : Act) (W : World) (r : Nat) (sz : A.tmps.size = 288) (x22 : A.eval (.tmp 22) = .int .i64 (r : Int)) :
    Code.wp Tryd.prog code40 (fun ex A' W' => ex = .normal ∧ ((Keep A A' [256, 257] ∧ A'.eval (.tmp 257) = .bool (decide ((r : Int) < 8))) ∧ W' = W)) A W := by
  conv => arg 2; whnf
  refine wp_region_list ?_
  refine wpList_yields rfl (.int .i64 (r : Int)) (yields_move (by simp [Region.wanted]) (.tmp 22) rfl _ x22) ?_
  refine wpList_yields rfl (.bool (decide ((r : Int) < 8))) (y_lss (by simp [Region.wanted]) (.tmp 256) (.const (.int .i64 8)) rfl (r : Int) 8 (ev_eq _ _ (by rw [sz]; decide)) rfl) ?_
  exact wpList_nil ⟨rfl, ⟨((Keep.refl A _).put 256 _ (by decide)).put 257 _ (by decide), ev_eq _ _ (by simp only [put_sz]; rw [sz]; decide)⟩, rfl⟩
theorem out41 (A : Act) (W : World) (r : Nat) (hr : r < 64) (sz : A.tmps.size = 288) (x22 : A.eval (.tmp 22) = .int .i64 (r : Int)) :
    Code.wp Tryd.prog code41 (fun ex A' W' => ex = .normal ∧ ((Keep A A' [22, 258, 259] ∧ A'.eval (.tmp 22) = .int .i64 ((r + 1 : Nat) : Int)) ∧ W' = W)) A W := by
  conv => arg 2; whnf
  refine wp_region_list ?_
  refine wpList_yields rfl (.int .i64 (r : Int)) (yields_move (by simp [Region.wanted]) (.tmp 22) rfl _ x22) ?_
  refine wpList_yields rfl (.int .i64 ((r + 1 : Nat) : Int)) (y_addi (by simp [Region.wanted]) (.tmp 258) (.const (.int .i64 1)) rfl (r : Int) 1 _ (ev_eq _ _ (by rw [sz]; decide)) rfl (by rw [IntKind.wrap_i64]; omega)) ?_
  refine wpList_yields rfl (.int .i64 ((r + 1 : Nat) : Int)) (yh_assign (by simp [Region.wanted]) (.tmp 259) rfl _ (ev_eq _ _ (by simp only [put_sz]; rw [sz]; decide))) ?_
  exact wpList_nil ⟨rfl, ⟨(((Keep.refl A _).put 258 _ (by decide)).put 259 _ (by decide)).put 22 _ (by decide), ev_eq _ _ (by simp only [put_sz]; rw [sz]; decide)⟩, rfl⟩
set_option maxHeartbeats 4000000 in
theorem out42 (A : Act) (W : World) (N gv cv j : Nat) (p q : W32) (hj : j < 8) (hg : N + 1 < gv) (sz : A.tmps.size = 288) (x3 : A.eval (.tmp 3) = .slice (some ⟨N + 1, 0, none⟩) 8 8) (x15 : A.eval (.tmp 15) = .slice (some ⟨gv, 0, none⟩) 8 cv) (x22 : A.eval (.tmp 22) = .int .i64 (j : Int))
    (hp : W.cell? ⟨N + 1, j, none⟩ = some (vw p)) (hs : W.cell? ⟨gv, j, none⟩ = some (vw q)) (hf : W.frozen? ⟨N + 1, j, none⟩ = false) :
    Code.wp Tryd.prog code42 (fun ex A' W' => ex = .normal ∧ (Keep A A' [260, 261, 262, 263, 264, 265, 266, 267, 268, 269] ∧ W' = W.drew.setCell ⟨N + 1, j, none⟩ (vw (p + q)))) A W := by
  have hmx : Tryd.prog.follows .mixedOrders = true := by kernel_rfl
  conv => arg 2; whnf
  refine wp_region_held (S := fun w9 => w9.cell? ⟨gv, j, none⟩ = some (vw q)) hmx ?_
  show wpAnyH _ _ _ _ _ _ _ _ (World.drew W)
  refine wpAnyH_take (i := 0) (v := .slice (some ⟨N + 1, 0, none⟩) 8 8) rfl (by kernel_rfl) (by kernel_rfl) (by kernel_rfl) (fun _ _ _ h => nomatch h.1) (yields_move (by simp [Region.wanted]) (.tmp 3) rfl _ x3) hs ?_
  refine wpAnyH_take (i := 1) (v := .int .i64 (j : Int)) rfl (by kernel_rfl) (by kernel_rfl) (by kernel_rfl) (fun _ _ _ h => nomatch h.1) (yields_move (by simp [Region.wanted]) (.tmp 22) rfl _ ((ev_ne _ _ (by decide)).trans x22)) hs ?_
  refine wpAnyH_take (i := 2) (v := .pointer (some ⟨N + 1, j, none⟩)) rfl (by kernel_rfl) (by kernel_rfl) (by kernel_rfl) (fun _ _ _ h => nomatch h.1) (y_index (by simp [Region.wanted]) (.tmp 260) (.tmp 261) rfl (N + 1) 8 8 j ((ev_ne _ _ (by decide)).trans (ev_eq _ _ (by (try simp only [put_sz]); rw [sz]; decide))) (ev_eq _ _ (by (try simp only [put_sz]); rw [sz]; decide)) hj) hs ?_
  refine wpAnyH_take (i := 4) (v := .slice (some ⟨gv, 0, none⟩) 8 cv) rfl (by kernel_rfl) (by kernel_rfl) (by kernel_rfl) (fun _ _ _ h => nomatch h.1) (yields_move (by simp [Region.wanted]) (.tmp 15) rfl _ ((ev_ne _ _ (by decide)).trans ((ev_ne _ _ (by decide)).trans ((ev_ne _ _ (by decide)).trans x15)))) hs ?_
  refine wpAnyH_take (i := 5) (v := .int .i64 (j : Int)) rfl (by kernel_rfl) (by kernel_rfl) (by kernel_rfl) (fun _ _ _ h => nomatch h.1) (yields_move (by simp [Region.wanted]) (.tmp 22) rfl _ ((ev_ne _ _ (by decide)).trans ((ev_ne _ _ (by decide)).trans ((ev_ne _ _ (by decide)).trans ((ev_ne _ _ (by decide)).trans x22))))) hs ?_
  refine wpAnyH_take (i := 6) (v := .pointer (some ⟨gv, j, none⟩)) rfl (by kernel_rfl) (by kernel_rfl) (by kernel_rfl) (fun _ _ _ h => nomatch h.1) (y_index (by simp [Region.wanted]) (.tmp 264) (.tmp 265) rfl gv 8 cv j ((ev_ne _ _ (by decide)).trans (ev_eq _ _ (by (try simp only [put_sz]); rw [sz]; decide))) (ev_eq _ _ (by (try simp only [put_sz]); rw [sz]; decide)) hj) hs ?_
  refine wpAnyH_take (i := 7) (v := vw q) rfl (by kernel_rfl) (by kernel_rfl) (by kernel_rfl) (fun _ _ _ h => nomatch h.1) (y_load (by simp [Region.wanted]) (.tmp 266) rfl gv j q (ev_eq _ _ (by (try simp only [put_sz]); rw [sz]; decide)) (fun w h => h)) hs ?_
  refine wpAnyH_all (rs := [3]) (by kernel_rfl) (by simp) fun i9 hmem => ?_
  obtain rfl : i9 = 3 := by simpa using hmem
  refine wpOp_yields (S := fun x => x.cell? ⟨N + 1, j, none⟩ = some (vw p)) (v := vw p) rfl (by kernel_rfl) (y_load (by simp [Region.wanted]) (.tmp 262) rfl (N + 1) j p ((ev_ne _ _ (by decide)).trans ((ev_ne _ _ (by decide)).trans ((ev_ne _ _ (by decide)).trans ((ev_ne _ _ (by decide)).trans (ev_eq _ _ (by (try simp only [put_sz]); rw [sz]; decide)))))) (fun w h => h)) hp ⟨hs, ?_⟩
  show wpAnyH _ _ _ _ _ _ _ ((((((((A.put (some 260) (.slice (some ⟨N + 1, 0, none⟩) 8 8)).put (some 261) (.int .i64 (j : Int))).put (some 262) (.pointer (some ⟨N + 1, j, none⟩))).put (some 264) (.slice (some ⟨gv, 0, none⟩) 8 cv)).put (some 265) (.int .i64 (j : Int))).put (some 266) (.pointer (some ⟨gv, j, none⟩))).put (some 267) (vw q)).put (some 263) (vw p)) _
  refine wpAnyH_take (i := 8) (v := vw (p + q)) rfl (by kernel_rfl) (by kernel_rfl) (by kernel_rfl) (fun _ _ _ h => nomatch h.1) (y_add (by simp [Region.wanted]) (.tmp 263) (.tmp 267) rfl p q (ev_eq _ _ (by (try simp only [put_sz]); rw [sz]; decide)) ((ev_ne _ _ (by decide)).trans (ev_eq _ _ (by (try simp only [put_sz]); rw [sz]; decide)))) hs ?_
  refine wpAnyH_take (i := 9) (v := .pointer (some ⟨N + 1, j, none⟩)) rfl (by kernel_rfl) (by kernel_rfl) (by kernel_rfl) (fun _ _ _ h => nomatch h.1) (y_index (by simp [Region.wanted]) (.tmp 260) (.tmp 261) rfl (N + 1) 8 8 j ((ev_ne _ _ (by decide)).trans ((ev_ne _ _ (by decide)).trans ((ev_ne _ _ (by decide)).trans ((ev_ne _ _ (by decide)).trans ((ev_ne _ _ (by decide)).trans ((ev_ne _ _ (by decide)).trans ((ev_ne _ _ (by decide)).trans ((ev_ne _ _ (by decide)).trans (ev_eq _ _ (by (try simp only [put_sz]); rw [sz]; decide)))))))))) ((ev_ne _ _ (by decide)).trans ((ev_ne _ _ (by decide)).trans ((ev_ne _ _ (by decide)).trans ((ev_ne _ _ (by decide)).trans ((ev_ne _ _ (by decide)).trans ((ev_ne _ _ (by decide)).trans ((ev_ne _ _ (by decide)).trans (ev_eq _ _ (by (try simp only [put_sz]); rw [sz]; decide))))))))) hj) hs ?_
  refine wpAnyH_all (rs := [10]) (by kernel_rfl) (by simp) fun i9 hmem => ?_
  obtain rfl : i9 = 10 := by simpa using hmem
  refine wpOp_storeW rfl (by kernel_rfl) (.tmp 269) (.tmp 268) rfl (N + 1) j (p + q) _ (ev_eq _ _ (by (try simp only [put_sz]); rw [sz]; decide)) ((ev_ne _ _ (by decide)).trans (ev_eq _ _ (by (try simp only [put_sz]); rw [sz]; decide))) hp hf ⟨(World.cell?_setCell_other _ _ _ _ (by intro h; simp only [Addr.mk.injEq] at h; omega)).trans hs, wpAnyH_done (by kernel_rfl) ⟨rfl, ?_, rfl⟩ _⟩
  exact (((((((((((Keep.refl A _).put 260 _ (by decide)).put 261 _ (by decide)).put 262 _ (by decide)).put 264 _ (by decide)).put 265 _ (by decide)).put 266 _ (by decide)).put 267 _ (by decide)).put 263 _ (by decide)).put 268 _ (by decide)).put 269 _ (by decide)).putn _
end Go.Proofs.YthnciogaibhmcaaDoor

/- The words of a block added to the state: loop 8 of the reference's Sum, over a frame that is a letter. -/
namespace Go.Proofs.YthnciogaibhmcaaDoor
open Go.RowKit
set_option linter.unusedVariables false
set_option maxRecDepth 100000
/-- a state whose first j words have been added to -/
def mix8 (s e : S8) (j : Nat) : S8 := ⟨if 0 < j then s.a + e.a else s.a, if 1 < j then s.b + e.b else s.b, if 2 < j then s.c + e.c else s.c, if 3 < j then s.d + e.d else s.d, if 4 < j then s.e + e.e else s.e, if 5 < j then s.f + e.f else s.f, if 6 < j then s.g + e.g else s.g, if 7 < j then s.h + e.h else s.h⟩
theorem mix8_zero (s e : S8) : mix8 s e 0 = s := rfl
theorem mix8_all (s e : S8) : mix8 s e 8 = s.add e := rfl
theorem mix8_step (s e : S8) (j : Nat) (h : j < 8) : (mix8 s e j).vals.setIfInBounds j (vw ((mix8 s e j).toL[j]'h + e.toL[j]'h)) = (mix8 s e (j + 1)).vals := by
  have : j = 0 ∨ j = 1 ∨ j = 2 ∨ j = 3 ∨ j = 4 ∨ j = 5 ∨ j = 6 ∨ j = 7 := by omega
  rcases this with rfl | rfl | rfl | rfl | rfl | rfl | rfl | rfl <;> rfl
/-- what the loop keeps -/
structure I8 (N gm gv cv : Nat) (cur : Array Value) (V2 : World) (sH e8 : S8) (A0 A : Act) (W : World) (j : Nat) : Prop where
  sz : A.tmps.size = 288
  k : Keep A0 A L8
  le : j ≤ 8
  i : A.eval (.tmp 22) = .int .i64 (j : Int)
  v : VW W gv e8
  bl : BL N gm cur V2 W (mix8 sH e8 j)
def mu8 (A : Act) (_ : World) : Nat := 8 - (intOf (A.eval (.tmp 22))).toNat
set_option maxHeartbeats 400000 in
theorem round8 {Q : Exit → Act → World → Prop} {N gm gv cv : Nat} {cur : Array Value} {V2 : World} {sH e8 : S8} {A0 : Act} (x3 : A0.eval (.tmp 3) = .slice (some ⟨N + 1, 0, none⟩) 8 8) (x15 : A0.eval (.tmp 15) = .slice (some ⟨gv, 0, none⟩) 8 cv) (hg : N + 1 < gv) (hgm : gm ≠ N + 1)
    (hexit : ∀ A W, I8 N gm gv cv cur V2 sH e8 A0 A W 8 → Q (.exit 14) A W) (A : Act) (W : World) (j : Nat) (I : I8 N gm gv cv cur V2 sH e8 A0 A W j) :
    Code.wp Tryd.prog body8 (Exit.then (fun A' W' => (∃ j', I8 N gm gv cv cur V2 sH e8 A0 A' W' j') ∧ mu8 A' W' < mu8 A W) Q) A W := by
  conv => arg 2; whnf
  refine wp_seq ?_
  refine wp_seq ?_
  refine wp_split _ (out40 A W j I.sz I.i) ?_
  rintro A1 W1 ⟨⟨k1, c1⟩, hW1⟩
  show Code.wp _ _ _ A1 W1
  have K1 : Keep A A1 L8 := k1.mono (by decide)
  have sz1 : A1.tmps.size = 288 := K1.sz.trans I.sz
  have y22 : A1.eval (.tmp 22) = .int .i64 (j : Int) := (k1.keep 22 (by decide)).trans I.i
  by_cases hlt : j < 8
  · refine wp_cond_true (by rw [c1, decide_eq_true (by omega)]) ?_
    refine wp_skip ?_
    show Code.wp _ _ _ A1 W1
    refine wp_seq ?_
    refine wp_block ?_
    have y3 := (K1.keep 3 (by decide)).trans ((I.k.keep 3 (by decide)).trans x3)
    have y15 := (K1.keep 15 (by decide)).trans ((I.k.keep 15 (by decide)).trans x15)
    have hp : W1.cell? ⟨N + 1, j, none⟩ = some (vw ((mix8 sH e8 j).toL[j]'hlt)) := by rw [hW1, cell_of_row _ _ _ _ _ _ I.bl.h, vals_get _ j hlt]
    have hf : W1.frozen? ⟨N + 1, j, none⟩ = false := by rw [hW1]; exact frozen_of_row _ _ j _ _ I.bl.h
    refine wp_split _ (out42 A1 W1 N gv cv j _ (e8.toL[j]'hlt) hlt hg sz1 y3 y15 y22 hp (by rw [hW1]; exact I.v j hlt) hf) ?_
    rintro A2 W2 ⟨k2, hW2⟩
    show Code.wp _ _ _ A2 W2
    have K2 : Keep A1 A2 L8 := k2.mono (by decide)
    refine wp_split _ (out41 A2 W2 j (by omega) (K2.sz.trans sz1) ((k2.keep 22 (by decide)).trans y22)) ?_
    rintro A3 W3 ⟨⟨k3, c3⟩, hW3⟩
    show (∃ j', I8 N gm gv cv cur V2 sH e8 A0 A3 W3 j') ∧ mu8 A3 W3 < mu8 A W
    have K3 : Keep A2 A3 L8 := k3.mono (by decide)
    have hb1 : Below (N + 1) V2 W1 := by rw [hW1]; exact I.bl.bel
    have hh1 : W1.heap[N + 1]? = some (.cells (mix8 sH e8 j).vals 101 (0, 0)) := by rw [hW1]; exact I.bl.h
    have hk1 : W1.heap[N + 1 + 1]? = some (.cells kcells 101 (0, 0)) := by rw [hW1]; exact I.bl.k
    have hm1 : W1.heap[gm]? = some (.cells cur 5 (0, 0)) := by rw [hW1]; exact I.bl.m
    have hv1 : VW W1 gv e8 := by rw [hW1]; exact I.v
    refine ⟨⟨j + 1, ⟨K3.sz.trans (K2.sz.trans sz1), I.k.trans (K1.trans (K2.trans K3)), by omega, c3, ?_, ?_⟩⟩, ?_⟩
    · rw [hW3, hW2]
      intro q hq
      exact (World.cell?_setCell_other _ _ _ _ (by intro h; simp only [Addr.mk.injEq] at h; omega)).trans (hv1 q hq)
    · rw [hW3, hW2]
      refine ⟨?_, (heap_setCell_other _ _ _ _ (by simp)).trans hk1, (heap_setCell_other _ _ _ _ hgm).trans hm1, hb1.drew.setCell (Nat.le_refl _) _⟩
      rw [heap_setCell_same _ _ _ _ _ _ (show W1.drew.heap[N + 1]? = _ from hh1), mix8_step _ _ _ hlt]
    · unfold mu8
      rw [c3, I.i]
      simp only [intOf]
      omega
  · refine wp_cond_false (by rw [c1, decide_eq_false (by omega)]) ?_
    refine wp_exit ?_
    show Q (.exit 14) A1 W1
    have hr : j = 8 := by have := I.le; omega
    subst hr
    exact hexit A1 W1 ⟨sz1, I.k.trans K1, Nat.le_refl _, y22, by rw [hW1]; exact I.v, by rw [hW1]; exact I.bl⟩
/-- the loop -/
theorem loop8 {Q : Exit → Act → World → Prop} {N gm gv cv : Nat} {cur : Array Value} {V2 : World} {sH e8 : S8} {A0 : Act} {W0 : World} (x3 : A0.eval (.tmp 3) = .slice (some ⟨N + 1, 0, none⟩) 8 8) (x15 : A0.eval (.tmp 15) = .slice (some ⟨gv, 0, none⟩) 8 cv) (hg : N + 1 < gv) (hgm : gm ≠ N + 1)
    (start : I8 N gm gv cv cur V2 sH e8 A0 A0 W0 0) (hexit : ∀ A W, I8 N gm gv cv cur V2 sH e8 A0 A W 8 → Q (.exit 14) A W) : Code.wp Tryd.prog (Code.loop body8) Q A0 W0 :=
  wp_loop (fun A W => ∃ j, I8 N gm gv cv cur V2 sH e8 A0 A W j) mu8 ⟨0, start⟩ (fun A W ⟨j, h⟩ => round8 x3 x15 hg hgm hexit A W j h)
end Go.Proofs.YthnciogaibhmcaaDoor

/- The words spread (loop 6 of the reference's Sum): its regions, over a frame that is a letter. -/
namespace Go.Proofs.YthnciogaibhmcaaDoor
open Go.RowKit
set_option linter.unusedVariables false
set_option maxRecDepth 100000
theorem y_subi {ops : Array Oper} {S : World → Prop} {op : Oper} {a : Act} (hw : Region.wanted op (yielded ops a.tmps) = true) (x y : Operand) (ho : op.op = .binOp .sub 3 x y 3) (p q z : Int) (hx : a.eval x = .int .i64 p) (hy : a.eval y = .int .i64 q) (hz : IntKind.i64.wrap (p - q) = z) : YieldsIf Tryd.prog ops S op (.int .i64 z) a := by
  refine .inl ⟨hw, fun w _ => ?_⟩
  unfold execOp
  simp only [ho, hx, hy]
  simp [go_sem, hz]
theorem y_shr3 {ops : Array Oper} {S : World → Prop} {op : Oper} {a : Act} (hw : Region.wanted op (yielded ops a.tmps) = true) (x y : Operand) (ho : op.op = .binOp .shr 101 x y 116) (p : W32) (hx : a.eval x = vw p) (hy : a.eval y = .int .u64 3) : YieldsIf Tryd.prog ops S op (vw (p >>> 3)) a := by
  refine .inl ⟨hw, fun w _ => ?_⟩
  have h1 := w_shr3 p
  unfold execOp
  simp only [ho, hx, hy]
  simp [go_sem, h1]
theorem y_shr10 {ops : Array Oper} {S : World → Prop} {op : Oper} {a : Act} (hw : Region.wanted op (yielded ops a.tmps) = true) (x y : Operand) (ho : op.op = .binOp .shr 101 x y 116) (p : W32) (hx : a.eval x = vw p) (hy : a.eval y = .int .u64 10) : YieldsIf Tryd.prog ops S op (vw (p >>> 10)) a := by
  refine .inl ⟨hw, fun w _ => ?_⟩
  have h1 := w_shr10 p
  unfold execOp
  simp only [ho, hx, hy]
  simp [go_sem, h1]
theorem wpOp_turn {ops : Array Oper} {i : Nat} {o : Oper} {a : Act} {w : World} {K : Act → World → Prop} {Q : Exit → Act → World → Prop} (hi : ops[i]? = some o) (hg : o.guard = none) (x : Operand) (n : Nat) (ats : Array TypeId) (ho : o.op = .call { callee := .value (.func 78), args := #[x, .const (.int .i64 (n : Int))], argTypes := ats }) (p : W32) (hx : a.eval x = vw p)
    (ht : ∀ w : World, Calls Tryd.prog 78 #[vw p, .int .i64 (n : Int)] w fun e w' => e = .returned (vw (rotr p n)) ∧ w' = w.drew) (h : K (a.put o.dst (vw (rotr p n))) w.drew) : wpOp Tryd.prog ops Q i K a w :=
  wpOp_own hi hg fun K' hK' => wp_calls2 78 hf_turn x (.const (.int .i64 (n : Int))) _ ho (vw p) (.int .i64 (n : Int)) hx rfl ((ht w).mono fun e w' h' => ⟨_, h'.1, hK' _ _ (h'.2 ▸ h)⟩)
abbrev L6 : List Nat := [12, 13, 14, 90, 91, 92, 93, 94, 95, 96, 97, 98, 99, 100, 101, 102, 103, 104, 105, 106, 107, 108, 109, 110, 111, 112, 113, 114, 115, 116, 117, 118, 119, 120, 121, 122, 123, 124, 125, 126, 127, 128, 129, 130, 131, 132, 133, 134, 135]
noncomputable def code24 : Code := ((Tryd.f66.body.bind (regionAt 24)).getD .skip)
noncomputable def code25 : Code := ((Tryd.f66.body.bind (regionAt 25)).getD .skip)
noncomputable def code26 : Code := ((Tryd.f66.body.bind (regionAt 26)).getD .skip)
noncomputable def code27 : Code := ((Tryd.f66.body.bind (regionAt 27)).getD .skip)
noncomputable def body6 : Code := ((Tryd.f66.body.bind (loopAt 27)).getD .skip)
theorem out24 (A : Act) (W : World) (r : Nat) (sz : A.tmps.size = 288) (x12 : A.eval (.tmp 12) = .int .i64 (r : Int)) :
    Code.wp Tryd.prog code24 (fun ex A' W' => ex = .normal ∧ ((Keep A A' [90, 91] ∧ A'.eval (.tmp 91) = .bool (decide ((r : Int) < 64))) ∧ W' = W)) A W := by
  conv => arg 2; whnf
  refine wp_region_list ?_
  refine wpList_yields rfl (.int .i64 (r : Int)) (yields_move (by simp [Region.wanted]) (.tmp 12) rfl _ x12) ?_
  refine wpList_yields rfl (.bool (decide ((r : Int) < 64))) (y_lss (by simp [Region.wanted]) (.tmp 90) (.const (.int .i64 64)) rfl (r : Int) 64 (ev_eq _ _ (by rw [sz]; decide)) rfl) ?_
  exact wpList_nil ⟨rfl, ⟨((Keep.refl A _).put 90 _ (by decide)).put 91 _ (by decide), ev_eq _ _ (by simp only [put_sz]; rw [sz]; decide)⟩, rfl⟩
theorem out25 (A : Act) (W : World) (r : Nat) (hr : r < 64) (sz : A.tmps.size = 288) (x12 : A.eval (.tmp 12) = .int .i64 (r : Int)) :
    Code.wp Tryd.prog code25 (fun ex A' W' => ex = .normal ∧ ((Keep A A' [12, 92, 93] ∧ A'.eval (.tmp 12) = .int .i64 ((r + 1 : Nat) : Int)) ∧ W' = W)) A W := by
  conv => arg 2; whnf
  refine wp_region_list ?_
  refine wpList_yields rfl (.int .i64 (r : Int)) (yields_move (by simp [Region.wanted]) (.tmp 12) rfl _ x12) ?_
  refine wpList_yields rfl (.int .i64 ((r + 1 : Nat) : Int)) (y_addi (by simp [Region.wanted]) (.tmp 92) (.const (.int .i64 1)) rfl (r : Int) 1 _ (ev_eq _ _ (by rw [sz]; decide)) rfl (by rw [IntKind.wrap_i64]; omega)) ?_
  refine wpList_yields rfl (.int .i64 ((r + 1 : Nat) : Int)) (yh_assign (by simp [Region.wanted]) (.tmp 93) rfl _ (ev_eq _ _ (by simp only [put_sz]; rw [sz]; decide))) ?_
  exact wpList_nil ⟨rfl, ⟨(((Keep.refl A _).put 92 _ (by decide)).put 93 _ (by decide)).put 12 _ (by decide), ev_eq _ _ (by simp only [put_sz]; rw [sz]; decide)⟩, rfl⟩
set_option maxHeartbeats 1000000 in
theorem out26 (A : Act) (W : World) (gw e e15 e2 : Nat) (x y : W32) (h15 : e15 + 15 = e) (h2 : e2 + 2 = e) (he : e < 64) (sz : A.tmps.size = 288) (x9 : A.eval (.tmp 9) = .slice (some ⟨gw, 0, none⟩) 64 64) (x12 : A.eval (.tmp 12) = .int .i64 (e : Int)) (hs : W.cell? ⟨gw, e15, none⟩ = some (vw x) ∧ W.cell? ⟨gw, e2, none⟩ = some (vw y)) :
    Code.wp Tryd.prog code26 (fun ex A' W' => ex = .normal ∧ ((Keep A A' L6 ∧ A'.eval (.tmp 12) = A.eval (.tmp 12) ∧ A'.eval (.tmp 13) = vw x ∧ A'.eval (.tmp 14) = vw y) ∧ W' = W.drew)) A W := by
  have hmx : Tryd.prog.follows .mixedOrders = true := by kernel_rfl
  conv => arg 2; whnf
  refine wp_region_held (S := fun w9 => w9.cell? ⟨gw, e15, none⟩ = some (vw x) ∧ w9.cell? ⟨gw, e2, none⟩ = some (vw y)) hmx ?_
  show wpAnyH _ _ _ _ _ _ _ _ (World.drew W)
  refine wpAnyH_take (i := 0) (v := .slice (some ⟨gw, 0, none⟩) 64 64) rfl (by kernel_rfl) (by kernel_rfl) (by kernel_rfl) (fun _ _ _ h => nomatch h.1) (yields_move (by simp [Region.wanted]) (.tmp 9) rfl _ x9) hs ?_
  refine wpAnyH_take (i := 1) (v := .int .i64 (e : Int)) rfl (by kernel_rfl) (by kernel_rfl) (by kernel_rfl) (fun _ _ _ h => nomatch h.1) (yields_move (by simp [Region.wanted]) (.tmp 12) rfl _ ((ev_ne _ _ (by decide)).trans x12)) hs ?_
  refine wpAnyH_take (i := 2) (v := .int .i64 (e15 : Int)) rfl (by kernel_rfl) (by kernel_rfl) (by kernel_rfl) (fun _ _ _ h => nomatch h.1) (y_subi (by simp [Region.wanted]) (.tmp 95) (.const (.int .i64 15)) rfl (e : Int) 15 _ (ev_eq _ _ (by (try simp only [put_sz]); rw [sz]; decide)) rfl (by rw [IntKind.wrap_i64]; omega)) hs ?_
  refine wpAnyH_take (i := 3) (v := .pointer (some ⟨gw, e15, none⟩)) rfl (by kernel_rfl) (by kernel_rfl) (by kernel_rfl) (fun _ _ _ h => nomatch h.1) (y_index (by simp [Region.wanted]) (.tmp 94) (.tmp 96) rfl gw 64 64 e15 ((ev_ne _ _ (by decide)).trans ((ev_ne _ _ (by decide)).trans (ev_eq _ _ (by (try simp only [put_sz]); rw [sz]; decide)))) (ev_eq _ _ (by (try simp only [put_sz]); rw [sz]; decide)) (by omega)) hs ?_
  refine wpAnyH_take (i := 4) (v := vw x) rfl (by kernel_rfl) (by kernel_rfl) (by kernel_rfl) (fun _ _ _ h => nomatch h.1) (y_load (by simp [Region.wanted]) (.tmp 97) rfl gw e15 x (ev_eq _ _ (by (try simp only [put_sz]); rw [sz]; decide)) (fun w h => h.1)) hs ?_
  refine wpAnyH_take (i := 5) (v := .slice (some ⟨gw, 0, none⟩) 64 64) rfl (by kernel_rfl) (by kernel_rfl) (by kernel_rfl) (fun _ _ _ h => nomatch h.1) (yields_move (by simp [Region.wanted]) (.tmp 9) rfl _ ((ev_ne _ _ (by decide)).trans ((ev_ne _ _ (by decide)).trans ((ev_ne _ _ (by decide)).trans ((ev_ne _ _ (by decide)).trans ((ev_ne _ _ (by decide)).trans x9)))))) hs ?_
  refine wpAnyH_take (i := 6) (v := .int .i64 (e : Int)) rfl (by kernel_rfl) (by kernel_rfl) (by kernel_rfl) (fun _ _ _ h => nomatch h.1) (yields_move (by simp [Region.wanted]) (.tmp 12) rfl _ ((ev_ne _ _ (by decide)).trans ((ev_ne _ _ (by decide)).trans ((ev_ne _ _ (by decide)).trans ((ev_ne _ _ (by decide)).trans ((ev_ne _ _ (by decide)).trans ((ev_ne _ _ (by decide)).trans x12))))))) hs ?_
  refine wpAnyH_take (i := 7) (v := .int .i64 (e2 : Int)) rfl (by kernel_rfl) (by kernel_rfl) (by kernel_rfl) (fun _ _ _ h => nomatch h.1) (y_subi (by simp [Region.wanted]) (.tmp 100) (.const (.int .i64 2)) rfl (e : Int) 2 _ (ev_eq _ _ (by (try simp only [put_sz]); rw [sz]; decide)) rfl (by rw [IntKind.wrap_i64]; omega)) hs ?_
  refine wpAnyH_take (i := 8) (v := .pointer (some ⟨gw, e2, none⟩)) rfl (by kernel_rfl) (by kernel_rfl) (by kernel_rfl) (fun _ _ _ h => nomatch h.1) (y_index (by simp [Region.wanted]) (.tmp 99) (.tmp 101) rfl gw 64 64 e2 ((ev_ne _ _ (by decide)).trans ((ev_ne _ _ (by decide)).trans (ev_eq _ _ (by (try simp only [put_sz]); rw [sz]; decide)))) (ev_eq _ _ (by (try simp only [put_sz]); rw [sz]; decide)) (by omega)) hs ?_
  refine wpAnyH_take (i := 9) (v := vw y) rfl (by kernel_rfl) (by kernel_rfl) (by kernel_rfl) (fun _ _ _ h => nomatch h.1) (y_load (by simp [Region.wanted]) (.tmp 102) rfl gw e2 y (ev_eq _ _ (by (try simp only [put_sz]); rw [sz]; decide)) (fun w h => h.2)) hs ?_
  refine wpAnyH_take (i := 10) (v := vw x) rfl (by kernel_rfl) (by kernel_rfl) (by kernel_rfl) (fun _ _ _ h => nomatch h.1) (yh_assign (by simp [Region.wanted]) (.tmp 98) rfl _ ((ev_ne _ _ (by decide)).trans ((ev_ne _ _ (by decide)).trans ((ev_ne _ _ (by decide)).trans ((ev_ne _ _ (by decide)).trans ((ev_ne _ _ (by decide)).trans (ev_eq _ _ (by (try simp only [put_sz]); rw [sz]; decide)))))))) hs ?_
  refine wpAnyH_take (i := 11) (v := vw y) rfl (by kernel_rfl) (by kernel_rfl) (by kernel_rfl) (fun _ _ _ h => nomatch h.1) (yh_assign (by simp [Region.wanted]) (.tmp 103) rfl _ ((ev_ne _ _ (by decide)).trans (ev_eq _ _ (by (try simp only [put_sz]); rw [sz]; decide)))) hs ?_
  exact wpAnyH_done (by kernel_rfl) ⟨rfl, ⟨(((((((((((((Keep.refl A _).put 94 _ (by decide)).put 95 _ (by decide)).put 96 _ (by decide)).put 97 _ (by decide)).put 98 _ (by decide)).put 99 _ (by decide)).put 100 _ (by decide)).put 101 _ (by decide)).put 102 _ (by decide)).put 103 _ (by decide)).put 13 _ (by decide)).put 14 _ (by decide)), ((ev_ne _ _ (by decide)).trans ((ev_ne _ _ (by decide)).trans ((ev_ne _ _ (by decide)).trans ((ev_ne _ _ (by decide)).trans ((ev_ne _ _ (by decide)).trans ((ev_ne _ _ (by decide)).trans ((ev_ne _ _ (by decide)).trans ((ev_ne _ _ (by decide)).trans ((ev_ne _ _ (by decide)).trans ((ev_ne _ _ (by decide)).trans ((ev_ne _ _ (by decide)).trans ((ev_ne _ _ (by decide)).trans rfl)))))))))))), ((ev_ne _ _ (by decide)).trans (ev_eq _ _ (by (try simp only [put_sz]); rw [sz]; decide))), (ev_eq _ _ (by (try simp only [put_sz]); rw [sz]; decide))⟩, rfl⟩ _
set_option maxHeartbeats 1000000 in
theorem out27 (A : Act) (W : World) (gw e e16 e7 : Nat) (x y a16 a7 A1 B1 FM S1 S2 A2 B2 NM S3 : W32) (hA1 : A1 = rotr x 7 ^^^ rotr x 18) (hB1 : B1 = x >>> 3) (hFM : FM = A1 ^^^ B1) (hS1 : S1 = a16 + FM) (hS2 : S2 = S1 + a7) (hA2 : A2 = rotr y 17 ^^^ rotr y 19) (hB2 : B2 = y >>> 10) (hNM : NM = A2 ^^^ B2) (hS3 : S3 = S2 + NM) (u : Value) (h16 : e16 + 16 = e) (h7 : e7 + 7 = e) (he : e < 64) (sz : A.tmps.size = 288) (x9 : A.eval (.tmp 9) = .slice (some ⟨gw, 0, none⟩) 64 64) (x12 : A.eval (.tmp 12) = .int .i64 (e : Int)) (x13 : A.eval (.tmp 13) = vw x) (x14 : A.eval (.tmp 14) = vw y)
    (hs : W.cell? ⟨gw, e16, none⟩ = some (vw a16) ∧ W.cell? ⟨gw, e7, none⟩ = some (vw a7)) (hE : W.cell? ⟨gw, e, none⟩ = some u) (hf : W.frozen? ⟨gw, e, none⟩ = false) :
    Code.wp Tryd.prog code27 (fun ex A' W' => ex = .normal ∧ (Keep A A' [104, 105, 106, 107, 108, 109, 110, 111, 112, 113, 114, 115, 116, 117, 118, 119, 120, 121, 122, 123, 124, 125, 126, 127, 128, 129, 130, 131, 132, 133, 134, 135] ∧ W' = W.drew.drew.drew.drew.drew.setCell ⟨gw, e, none⟩ (vw S3))) A W := by
  have hmx : Tryd.prog.follows .mixedOrders = true := by kernel_rfl
  have T1 := hid (turn_any x 7 (by omega) (by omega))
  have T2 := hid (turn_any x 18 (by omega) (by omega))
  have T3 := hid (turn_any y 17 (by omega) (by omega))
  have T4 := hid (turn_any y 19 (by omega) (by omega))
  conv => arg 2; whnf
  refine wp_region_held (S := fun w9 => w9.cell? ⟨gw, e16, none⟩ = some (vw a16) ∧ w9.cell? ⟨gw, e7, none⟩ = some (vw a7)) hmx ?_
  show wpAnyH _ _ _ _ _ _ _ _ (World.drew W)
  refine wpAnyH_take (i := 0) (v := .slice (some ⟨gw, 0, none⟩) 64 64) rfl (by kernel_rfl) (by kernel_rfl) (by kernel_rfl) (fun _ _ _ h => nomatch h.1) (yields_move (by simp [Region.wanted]) (.tmp 9) rfl _ x9) hs ?_
  refine wpAnyH_take (i := 1) (v := .int .i64 (e : Int)) rfl (by kernel_rfl) (by kernel_rfl) (by kernel_rfl) (fun _ _ _ h => nomatch h.1) (yields_move (by simp [Region.wanted]) (.tmp 12) rfl _ ((ev_ne _ _ (by decide)).trans x12)) hs ?_
  refine wpAnyH_take (i := 2) (v := .slice (some ⟨gw, 0, none⟩) 64 64) rfl (by kernel_rfl) (by kernel_rfl) (by kernel_rfl) (fun _ _ _ h => nomatch h.1) (yields_move (by simp [Region.wanted]) (.tmp 9) rfl _ ((ev_ne _ _ (by decide)).trans ((ev_ne _ _ (by decide)).trans x9))) hs ?_
  refine wpAnyH_take (i := 3) (v := .int .i64 (e : Int)) rfl (by kernel_rfl) (by kernel_rfl) (by kernel_rfl) (fun _ _ _ h => nomatch h.1) (yields_move (by simp [Region.wanted]) (.tmp 12) rfl _ ((ev_ne _ _ (by decide)).trans ((ev_ne _ _ (by decide)).trans ((ev_ne _ _ (by decide)).trans x12)))) hs ?_
  refine wpAnyH_take (i := 4) (v := .int .i64 (e16 : Int)) rfl (by kernel_rfl) (by kernel_rfl) (by kernel_rfl) (fun _ _ _ h => nomatch h.1) (y_subi (by simp [Region.wanted]) (.tmp 107) (.const (.int .i64 16)) rfl (e : Int) 16 _ (ev_eq _ _ (by (try simp only [put_sz]); rw [sz]; decide)) rfl (by rw [IntKind.wrap_i64]; omega)) hs ?_
  refine wpAnyH_take (i := 5) (v := .pointer (some ⟨gw, e16, none⟩)) rfl (by kernel_rfl) (by kernel_rfl) (by kernel_rfl) (fun _ _ _ h => nomatch h.1) (y_index (by simp [Region.wanted]) (.tmp 106) (.tmp 108) rfl gw 64 64 e16 ((ev_ne _ _ (by decide)).trans ((ev_ne _ _ (by decide)).trans (ev_eq _ _ (by (try simp only [put_sz]); rw [sz]; decide)))) (ev_eq _ _ (by (try simp only [put_sz]); rw [sz]; decide)) (by omega)) hs ?_
  refine wpAnyH_take (i := 6) (v := vw a16) rfl (by kernel_rfl) (by kernel_rfl) (by kernel_rfl) (fun _ _ _ h => nomatch h.1) (y_load (by simp [Region.wanted]) (.tmp 109) rfl gw e16 a16 (ev_eq _ _ (by (try simp only [put_sz]); rw [sz]; decide)) (fun w h => h.1)) hs ?_
  refine wpAnyH_take (i := 7) (v := vw x) rfl (by kernel_rfl) (by kernel_rfl) (by kernel_rfl) (fun _ _ _ h => nomatch h.1) (yields_move (by simp [Region.wanted]) (.tmp 13) rfl _ ((ev_ne _ _ (by decide)).trans ((ev_ne _ _ (by decide)).trans ((ev_ne _ _ (by decide)).trans ((ev_ne _ _ (by decide)).trans ((ev_ne _ _ (by decide)).trans ((ev_ne _ _ (by decide)).trans ((ev_ne _ _ (by decide)).trans x13)))))))) hs ?_
  refine wpAnyH_take (i := 9) (v := vw x) rfl (by kernel_rfl) (by kernel_rfl) (by kernel_rfl) (fun _ _ _ h => nomatch h.1) (yields_move (by simp [Region.wanted]) (.tmp 13) rfl _ ((ev_ne _ _ (by decide)).trans ((ev_ne _ _ (by decide)).trans ((ev_ne _ _ (by decide)).trans ((ev_ne _ _ (by decide)).trans ((ev_ne _ _ (by decide)).trans ((ev_ne _ _ (by decide)).trans ((ev_ne _ _ (by decide)).trans ((ev_ne _ _ (by decide)).trans x13))))))))) hs ?_
  refine wpAnyH_take (i := 12) (v := vw x) rfl (by kernel_rfl) (by kernel_rfl) (by kernel_rfl) (fun _ _ _ h => nomatch h.1) (yields_move (by simp [Region.wanted]) (.tmp 13) rfl _ ((ev_ne _ _ (by decide)).trans ((ev_ne _ _ (by decide)).trans ((ev_ne _ _ (by decide)).trans ((ev_ne _ _ (by decide)).trans ((ev_ne _ _ (by decide)).trans ((ev_ne _ _ (by decide)).trans ((ev_ne _ _ (by decide)).trans ((ev_ne _ _ (by decide)).trans ((ev_ne _ _ (by decide)).trans x13)))))))))) hs ?_
  refine wpAnyH_take (i := 13) (v := vw B1) rfl (by kernel_rfl) (by kernel_rfl) (by kernel_rfl) (fun _ _ _ h => nomatch h.1) (eq_yields hB1.symm (y_shr3 (by simp [Region.wanted]) (.tmp 116) (.const (.int .u64 3)) rfl (x) (ev_eq _ _ (by (try simp only [put_sz]); rw [sz]; decide)) rfl)) hs ?_
  refine wpAnyH_take (i := 16) (v := .slice (some ⟨gw, 0, none⟩) 64 64) rfl (by kernel_rfl) (by kernel_rfl) (by kernel_rfl) (fun _ _ _ h => nomatch h.1) (yields_move (by simp [Region.wanted]) (.tmp 9) rfl _ ((ev_ne _ _ (by decide)).trans ((ev_ne _ _ (by decide)).trans ((ev_ne _ _ (by decide)).trans ((ev_ne _ _ (by decide)).trans ((ev_ne _ _ (by decide)).trans ((ev_ne _ _ (by decide)).trans ((ev_ne _ _ (by decide)).trans ((ev_ne _ _ (by decide)).trans ((ev_ne _ _ (by decide)).trans ((ev_ne _ _ (by decide)).trans ((ev_ne _ _ (by decide)).trans x9)))))))))))) hs ?_
  refine wpAnyH_take (i := 17) (v := .int .i64 (e : Int)) rfl (by kernel_rfl) (by kernel_rfl) (by kernel_rfl) (fun _ _ _ h => nomatch h.1) (yields_move (by simp [Region.wanted]) (.tmp 12) rfl _ ((ev_ne _ _ (by decide)).trans ((ev_ne _ _ (by decide)).trans ((ev_ne _ _ (by decide)).trans ((ev_ne _ _ (by decide)).trans ((ev_ne _ _ (by decide)).trans ((ev_ne _ _ (by decide)).trans ((ev_ne _ _ (by decide)).trans ((ev_ne _ _ (by decide)).trans ((ev_ne _ _ (by decide)).trans ((ev_ne _ _ (by decide)).trans ((ev_ne _ _ (by decide)).trans ((ev_ne _ _ (by decide)).trans x12))))))))))))) hs ?_
  refine wpAnyH_take (i := 18) (v := .int .i64 (e7 : Int)) rfl (by kernel_rfl) (by kernel_rfl) (by kernel_rfl) (fun _ _ _ h => nomatch h.1) (y_subi (by simp [Region.wanted]) (.tmp 121) (.const (.int .i64 7)) rfl (e : Int) 7 _ (ev_eq _ _ (by (try simp only [put_sz]); rw [sz]; decide)) rfl (by rw [IntKind.wrap_i64]; omega)) hs ?_
  refine wpAnyH_take (i := 19) (v := .pointer (some ⟨gw, e7, none⟩)) rfl (by kernel_rfl) (by kernel_rfl) (by kernel_rfl) (fun _ _ _ h => nomatch h.1) (y_index (by simp [Region.wanted]) (.tmp 120) (.tmp 122) rfl gw 64 64 e7 ((ev_ne _ _ (by decide)).trans ((ev_ne _ _ (by decide)).trans (ev_eq _ _ (by (try simp only [put_sz]); rw [sz]; decide)))) (ev_eq _ _ (by (try simp only [put_sz]); rw [sz]; decide)) (by omega)) hs ?_
  refine wpAnyH_take (i := 20) (v := vw a7) rfl (by kernel_rfl) (by kernel_rfl) (by kernel_rfl) (fun _ _ _ h => nomatch h.1) (y_load (by simp [Region.wanted]) (.tmp 123) rfl gw e7 a7 (ev_eq _ _ (by (try simp only [put_sz]); rw [sz]; decide)) (fun w h => h.2)) hs ?_
  refine wpAnyH_take (i := 22) (v := vw y) rfl (by kernel_rfl) (by kernel_rfl) (by kernel_rfl) (fun _ _ _ h => nomatch h.1) (yields_move (by simp [Region.wanted]) (.tmp 14) rfl _ ((ev_ne _ _ (by decide)).trans ((ev_ne _ _ (by decide)).trans ((ev_ne _ _ (by decide)).trans ((ev_ne _ _ (by decide)).trans ((ev_ne _ _ (by decide)).trans ((ev_ne _ _ (by decide)).trans ((ev_ne _ _ (by decide)).trans ((ev_ne _ _ (by decide)).trans ((ev_ne _ _ (by decide)).trans ((ev_ne _ _ (by decide)).trans ((ev_ne _ _ (by decide)).trans ((ev_ne _ _ (by decide)).trans ((ev_ne _ _ (by decide)).trans ((ev_ne _ _ (by decide)).trans ((ev_ne _ _ (by decide)).trans ((ev_ne _ _ (by decide)).trans x14))))))))))))))))) hs ?_
  refine wpAnyH_take (i := 24) (v := vw y) rfl (by kernel_rfl) (by kernel_rfl) (by kernel_rfl) (fun _ _ _ h => nomatch h.1) (yields_move (by simp [Region.wanted]) (.tmp 14) rfl _ ((ev_ne _ _ (by decide)).trans ((ev_ne _ _ (by decide)).trans ((ev_ne _ _ (by decide)).trans ((ev_ne _ _ (by decide)).trans ((ev_ne _ _ (by decide)).trans ((ev_ne _ _ (by decide)).trans ((ev_ne _ _ (by decide)).trans ((ev_ne _ _ (by decide)).trans ((ev_ne _ _ (by decide)).trans ((ev_ne _ _ (by decide)).trans ((ev_ne _ _ (by decide)).trans ((ev_ne _ _ (by decide)).trans ((ev_ne _ _ (by decide)).trans ((ev_ne _ _ (by decide)).trans ((ev_ne _ _ (by decide)).trans ((ev_ne _ _ (by decide)).trans ((ev_ne _ _ (by decide)).trans x14)))))))))))))))))) hs ?_
  refine wpAnyH_take (i := 27) (v := vw y) rfl (by kernel_rfl) (by kernel_rfl) (by kernel_rfl) (fun _ _ _ h => nomatch h.1) (yields_move (by simp [Region.wanted]) (.tmp 14) rfl _ ((ev_ne _ _ (by decide)).trans ((ev_ne _ _ (by decide)).trans ((ev_ne _ _ (by decide)).trans ((ev_ne _ _ (by decide)).trans ((ev_ne _ _ (by decide)).trans ((ev_ne _ _ (by decide)).trans ((ev_ne _ _ (by decide)).trans ((ev_ne _ _ (by decide)).trans ((ev_ne _ _ (by decide)).trans ((ev_ne _ _ (by decide)).trans ((ev_ne _ _ (by decide)).trans ((ev_ne _ _ (by decide)).trans ((ev_ne _ _ (by decide)).trans ((ev_ne _ _ (by decide)).trans ((ev_ne _ _ (by decide)).trans ((ev_ne _ _ (by decide)).trans ((ev_ne _ _ (by decide)).trans ((ev_ne _ _ (by decide)).trans x14))))))))))))))))))) hs ?_
  refine wpAnyH_take (i := 28) (v := vw B2) rfl (by kernel_rfl) (by kernel_rfl) (by kernel_rfl) (fun _ _ _ h => nomatch h.1) (eq_yields hB2.symm (y_shr10 (by simp [Region.wanted]) (.tmp 131) (.const (.int .u64 10)) rfl (y) (ev_eq _ _ (by (try simp only [put_sz]); rw [sz]; decide)) rfl)) hs ?_
  refine wpAnyH_all (rs := [8]) (by kernel_rfl) (by simp) fun i9 hmem => ?_
  obtain rfl : i9 = 8 := by simpa using hmem
  refine wpOp_turn rfl (by kernel_rfl) (.tmp 111) 7 _ rfl x ((ev_ne _ _ (by decide)).trans ((ev_ne _ _ (by decide)).trans ((ev_ne _ _ (by decide)).trans ((ev_ne _ _ (by decide)).trans ((ev_ne _ _ (by decide)).trans ((ev_ne _ _ (by decide)).trans ((ev_ne _ _ (by decide)).trans ((ev_ne _ _ (by decide)).trans ((ev_ne _ _ (by decide)).trans ((ev_ne _ _ (by decide)).trans ((ev_ne _ _ (by decide)).trans ((ev_ne _ _ (by decide)).trans (ev_eq _ _ (by (try simp only [put_sz]); rw [sz]; decide)))))))))))))) T1.out ⟨hs, ?_⟩
  show wpAnyH _ _ _ _ _ _ _ (((((((((((((((((((((A.put (some 104) (.slice (some ⟨gw, 0, none⟩) 64 64)).put (some 105) (.int .i64 (e : Int))).put (some 106) (.slice (some ⟨gw, 0, none⟩) 64 64)).put (some 107) (.int .i64 (e : Int))).put (some 108) (.int .i64 (e16 : Int))).put (some 109) (.pointer (some ⟨gw, e16, none⟩))).put (some 110) (vw a16)).put (some 111) (vw x)).put (some 113) (vw x)).put (some 116) (vw x)).put (some 117) (vw B1)).put (some 120) (.slice (some ⟨gw, 0, none⟩) 64 64)).put (some 121) (.int .i64 (e : Int))).put (some 122) (.int .i64 (e7 : Int))).put (some 123) (.pointer (some ⟨gw, e7, none⟩))).put (some 124) (vw a7)).put (some 126) (vw y)).put (some 128) (vw y)).put (some 131) (vw y)).put (some 132) (vw B2)).put (some 112) (vw (rotr x 7))) _
  refine wpAnyH_all (rs := [10]) (by kernel_rfl) (by simp) fun i9 hmem => ?_
  obtain rfl : i9 = 10 := by simpa using hmem
  refine wpOp_turn rfl (by kernel_rfl) (.tmp 113) 18 _ rfl x ((ev_ne _ _ (by decide)).trans ((ev_ne _ _ (by decide)).trans ((ev_ne _ _ (by decide)).trans ((ev_ne _ _ (by decide)).trans ((ev_ne _ _ (by decide)).trans ((ev_ne _ _ (by decide)).trans ((ev_ne _ _ (by decide)).trans ((ev_ne _ _ (by decide)).trans ((ev_ne _ _ (by decide)).trans ((ev_ne _ _ (by decide)).trans ((ev_ne _ _ (by decide)).trans ((ev_ne _ _ (by decide)).trans (ev_eq _ _ (by (try simp only [put_sz]); rw [sz]; decide)))))))))))))) T2.out ⟨hs, ?_⟩
  show wpAnyH _ _ _ _ _ _ _ ((((((((((((((((((((((A.put (some 104) (.slice (some ⟨gw, 0, none⟩) 64 64)).put (some 105) (.int .i64 (e : Int))).put (some 106) (.slice (some ⟨gw, 0, none⟩) 64 64)).put (some 107) (.int .i64 (e : Int))).put (some 108) (.int .i64 (e16 : Int))).put (some 109) (.pointer (some ⟨gw, e16, none⟩))).put (some 110) (vw a16)).put (some 111) (vw x)).put (some 113) (vw x)).put (some 116) (vw x)).put (some 117) (vw B1)).put (some 120) (.slice (some ⟨gw, 0, none⟩) 64 64)).put (some 121) (.int .i64 (e : Int))).put (some 122) (.int .i64 (e7 : Int))).put (some 123) (.pointer (some ⟨gw, e7, none⟩))).put (some 124) (vw a7)).put (some 126) (vw y)).put (some 128) (vw y)).put (some 131) (vw y)).put (some 132) (vw B2)).put (some 112) (vw (rotr x 7))).put (some 114) (vw (rotr x 18))) _
  refine wpAnyH_take (i := 11) (v := vw A1) rfl (by kernel_rfl) (by kernel_rfl) (by kernel_rfl) (fun _ _ _ h => nomatch h.1) (eq_yields hA1.symm (y_xor (by simp [Region.wanted]) (.tmp 112) (.tmp 114) rfl (rotr x 7) (rotr x 18) ((ev_ne _ _ (by decide)).trans (ev_eq _ _ (by (try simp only [put_sz]); rw [sz]; decide))) (ev_eq _ _ (by (try simp only [put_sz]); rw [sz]; decide)))) hs ?_
  refine wpAnyH_take (i := 14) (v := vw FM) rfl (by kernel_rfl) (by kernel_rfl) (by kernel_rfl) (fun _ _ _ h => nomatch h.1) (eq_yields hFM.symm (y_xor (by simp [Region.wanted]) (.tmp 115) (.tmp 117) rfl (A1) (B1) (ev_eq _ _ (by (try simp only [put_sz]); rw [sz]; decide)) ((ev_ne _ _ (by decide)).trans ((ev_ne _ _ (by decide)).trans ((ev_ne _ _ (by decide)).trans ((ev_ne _ _ (by decide)).trans ((ev_ne _ _ (by decide)).trans ((ev_ne _ _ (by decide)).trans ((ev_ne _ _ (by decide)).trans ((ev_ne _ _ (by decide)).trans ((ev_ne _ _ (by decide)).trans ((ev_ne _ _ (by decide)).trans ((ev_ne _ _ (by decide)).trans ((ev_ne _ _ (by decide)).trans (ev_eq _ _ (by (try simp only [put_sz]); rw [sz]; decide)))))))))))))))) hs ?_
  refine wpAnyH_take (i := 15) (v := vw S1) rfl (by kernel_rfl) (by kernel_rfl) (by kernel_rfl) (fun _ _ _ h => nomatch h.1) (eq_yields hS1.symm (y_add (by simp [Region.wanted]) (.tmp 110) (.tmp 118) rfl (a16) (FM) ((ev_ne _ _ (by decide)).trans ((ev_ne _ _ (by decide)).trans ((ev_ne _ _ (by decide)).trans ((ev_ne _ _ (by decide)).trans ((ev_ne _ _ (by decide)).trans ((ev_ne _ _ (by decide)).trans ((ev_ne _ _ (by decide)).trans ((ev_ne _ _ (by decide)).trans ((ev_ne _ _ (by decide)).trans ((ev_ne _ _ (by decide)).trans ((ev_ne _ _ (by decide)).trans ((ev_ne _ _ (by decide)).trans ((ev_ne _ _ (by decide)).trans ((ev_ne _ _ (by decide)).trans ((ev_ne _ _ (by decide)).trans ((ev_ne _ _ (by decide)).trans ((ev_ne _ _ (by decide)).trans (ev_eq _ _ (by (try simp only [put_sz]); rw [sz]; decide))))))))))))))))))) (ev_eq _ _ (by (try simp only [put_sz]); rw [sz]; decide)))) hs ?_
  refine wpAnyH_take (i := 21) (v := vw S2) rfl (by kernel_rfl) (by kernel_rfl) (by kernel_rfl) (fun _ _ _ h => nomatch h.1) (eq_yields hS2.symm (y_add (by simp [Region.wanted]) (.tmp 119) (.tmp 124) rfl (S1) (a7) (ev_eq _ _ (by (try simp only [put_sz]); rw [sz]; decide)) ((ev_ne _ _ (by decide)).trans ((ev_ne _ _ (by decide)).trans ((ev_ne _ _ (by decide)).trans ((ev_ne _ _ (by decide)).trans ((ev_ne _ _ (by decide)).trans ((ev_ne _ _ (by decide)).trans ((ev_ne _ _ (by decide)).trans ((ev_ne _ _ (by decide)).trans ((ev_ne _ _ (by decide)).trans (ev_eq _ _ (by (try simp only [put_sz]); rw [sz]; decide))))))))))))) hs ?_
  refine wpAnyH_all (rs := [23]) (by kernel_rfl) (by simp) fun i9 hmem => ?_
  obtain rfl : i9 = 23 := by simpa using hmem
  refine wpOp_turn rfl (by kernel_rfl) (.tmp 126) 17 _ rfl y ((ev_ne _ _ (by decide)).trans ((ev_ne _ _ (by decide)).trans ((ev_ne _ _ (by decide)).trans ((ev_ne _ _ (by decide)).trans ((ev_ne _ _ (by decide)).trans ((ev_ne _ _ (by decide)).trans ((ev_ne _ _ (by decide)).trans ((ev_ne _ _ (by decide)).trans ((ev_ne _ _ (by decide)).trans (ev_eq _ _ (by (try simp only [put_sz]); rw [sz]; decide))))))))))) T3.out ⟨hs, ?_⟩
  show wpAnyH _ _ _ _ _ _ _ (((((((((((((((((((((((((((A.put (some 104) (.slice (some ⟨gw, 0, none⟩) 64 64)).put (some 105) (.int .i64 (e : Int))).put (some 106) (.slice (some ⟨gw, 0, none⟩) 64 64)).put (some 107) (.int .i64 (e : Int))).put (some 108) (.int .i64 (e16 : Int))).put (some 109) (.pointer (some ⟨gw, e16, none⟩))).put (some 110) (vw a16)).put (some 111) (vw x)).put (some 113) (vw x)).put (some 116) (vw x)).put (some 117) (vw B1)).put (some 120) (.slice (some ⟨gw, 0, none⟩) 64 64)).put (some 121) (.int .i64 (e : Int))).put (some 122) (.int .i64 (e7 : Int))).put (some 123) (.pointer (some ⟨gw, e7, none⟩))).put (some 124) (vw a7)).put (some 126) (vw y)).put (some 128) (vw y)).put (some 131) (vw y)).put (some 132) (vw B2)).put (some 112) (vw (rotr x 7))).put (some 114) (vw (rotr x 18))).put (some 115) (vw A1)).put (some 118) (vw FM)).put (some 119) (vw S1)).put (some 125) (vw S2)).put (some 127) (vw (rotr y 17))) _
  refine wpAnyH_all (rs := [25]) (by kernel_rfl) (by simp) fun i9 hmem => ?_
  obtain rfl : i9 = 25 := by simpa using hmem
  refine wpOp_turn rfl (by kernel_rfl) (.tmp 128) 19 _ rfl y ((ev_ne _ _ (by decide)).trans ((ev_ne _ _ (by decide)).trans ((ev_ne _ _ (by decide)).trans ((ev_ne _ _ (by decide)).trans ((ev_ne _ _ (by decide)).trans ((ev_ne _ _ (by decide)).trans ((ev_ne _ _ (by decide)).trans ((ev_ne _ _ (by decide)).trans ((ev_ne _ _ (by decide)).trans (ev_eq _ _ (by (try simp only [put_sz]); rw [sz]; decide))))))))))) T4.out ⟨hs, ?_⟩
  show wpAnyH _ _ _ _ _ _ _ ((((((((((((((((((((((((((((A.put (some 104) (.slice (some ⟨gw, 0, none⟩) 64 64)).put (some 105) (.int .i64 (e : Int))).put (some 106) (.slice (some ⟨gw, 0, none⟩) 64 64)).put (some 107) (.int .i64 (e : Int))).put (some 108) (.int .i64 (e16 : Int))).put (some 109) (.pointer (some ⟨gw, e16, none⟩))).put (some 110) (vw a16)).put (some 111) (vw x)).put (some 113) (vw x)).put (some 116) (vw x)).put (some 117) (vw B1)).put (some 120) (.slice (some ⟨gw, 0, none⟩) 64 64)).put (some 121) (.int .i64 (e : Int))).put (some 122) (.int .i64 (e7 : Int))).put (some 123) (.pointer (some ⟨gw, e7, none⟩))).put (some 124) (vw a7)).put (some 126) (vw y)).put (some 128) (vw y)).put (some 131) (vw y)).put (some 132) (vw B2)).put (some 112) (vw (rotr x 7))).put (some 114) (vw (rotr x 18))).put (some 115) (vw A1)).put (some 118) (vw FM)).put (some 119) (vw S1)).put (some 125) (vw S2)).put (some 127) (vw (rotr y 17))).put (some 129) (vw (rotr y 19))) _
  refine wpAnyH_take (i := 26) (v := vw A2) rfl (by kernel_rfl) (by kernel_rfl) (by kernel_rfl) (fun _ _ _ h => nomatch h.1) (eq_yields hA2.symm (y_xor (by simp [Region.wanted]) (.tmp 127) (.tmp 129) rfl (rotr y 17) (rotr y 19) ((ev_ne _ _ (by decide)).trans (ev_eq _ _ (by (try simp only [put_sz]); rw [sz]; decide))) (ev_eq _ _ (by (try simp only [put_sz]); rw [sz]; decide)))) hs ?_
  refine wpAnyH_take (i := 29) (v := vw NM) rfl (by kernel_rfl) (by kernel_rfl) (by kernel_rfl) (fun _ _ _ h => nomatch h.1) (eq_yields hNM.symm (y_xor (by simp [Region.wanted]) (.tmp 130) (.tmp 132) rfl (A2) (B2) (ev_eq _ _ (by (try simp only [put_sz]); rw [sz]; decide)) ((ev_ne _ _ (by decide)).trans ((ev_ne _ _ (by decide)).trans ((ev_ne _ _ (by decide)).trans ((ev_ne _ _ (by decide)).trans ((ev_ne _ _ (by decide)).trans ((ev_ne _ _ (by decide)).trans ((ev_ne _ _ (by decide)).trans ((ev_ne _ _ (by decide)).trans ((ev_ne _ _ (by decide)).trans (ev_eq _ _ (by (try simp only [put_sz]); rw [sz]; decide))))))))))))) hs ?_
  refine wpAnyH_take (i := 30) (v := vw S3) rfl (by kernel_rfl) (by kernel_rfl) (by kernel_rfl) (fun _ _ _ h => nomatch h.1) (eq_yields hS3.symm (y_add (by simp [Region.wanted]) (.tmp 125) (.tmp 133) rfl (S2) (NM) ((ev_ne _ _ (by decide)).trans ((ev_ne _ _ (by decide)).trans ((ev_ne _ _ (by decide)).trans ((ev_ne _ _ (by decide)).trans (ev_eq _ _ (by (try simp only [put_sz]); rw [sz]; decide)))))) (ev_eq _ _ (by (try simp only [put_sz]); rw [sz]; decide)))) hs ?_
  refine wpAnyH_take (i := 31) (v := .pointer (some ⟨gw, e, none⟩)) rfl (by kernel_rfl) (by kernel_rfl) (by kernel_rfl) (fun _ _ _ h => nomatch h.1) (y_index (by simp [Region.wanted]) (.tmp 104) (.tmp 105) rfl gw 64 64 e ((ev_ne _ _ (by decide)).trans ((ev_ne _ _ (by decide)).trans ((ev_ne _ _ (by decide)).trans ((ev_ne _ _ (by decide)).trans ((ev_ne _ _ (by decide)).trans ((ev_ne _ _ (by decide)).trans ((ev_ne _ _ (by decide)).trans ((ev_ne _ _ (by decide)).trans ((ev_ne _ _ (by decide)).trans ((ev_ne _ _ (by decide)).trans ((ev_ne _ _ (by decide)).trans ((ev_ne _ _ (by decide)).trans ((ev_ne _ _ (by decide)).trans ((ev_ne _ _ (by decide)).trans ((ev_ne _ _ (by decide)).trans ((ev_ne _ _ (by decide)).trans ((ev_ne _ _ (by decide)).trans ((ev_ne _ _ (by decide)).trans ((ev_ne _ _ (by decide)).trans ((ev_ne _ _ (by decide)).trans ((ev_ne _ _ (by decide)).trans ((ev_ne _ _ (by decide)).trans ((ev_ne _ _ (by decide)).trans ((ev_ne _ _ (by decide)).trans ((ev_ne _ _ (by decide)).trans ((ev_ne _ _ (by decide)).trans ((ev_ne _ _ (by decide)).trans ((ev_ne _ _ (by decide)).trans ((ev_ne _ _ (by decide)).trans ((ev_ne _ _ (by decide)).trans (ev_eq _ _ (by (try simp only [put_sz]); rw [sz]; decide)))))))))))))))))))))))))))))))) ((ev_ne _ _ (by decide)).trans ((ev_ne _ _ (by decide)).trans ((ev_ne _ _ (by decide)).trans ((ev_ne _ _ (by decide)).trans ((ev_ne _ _ (by decide)).trans ((ev_ne _ _ (by decide)).trans ((ev_ne _ _ (by decide)).trans ((ev_ne _ _ (by decide)).trans ((ev_ne _ _ (by decide)).trans ((ev_ne _ _ (by decide)).trans ((ev_ne _ _ (by decide)).trans ((ev_ne _ _ (by decide)).trans ((ev_ne _ _ (by decide)).trans ((ev_ne _ _ (by decide)).trans ((ev_ne _ _ (by decide)).trans ((ev_ne _ _ (by decide)).trans ((ev_ne _ _ (by decide)).trans ((ev_ne _ _ (by decide)).trans ((ev_ne _ _ (by decide)).trans ((ev_ne _ _ (by decide)).trans ((ev_ne _ _ (by decide)).trans ((ev_ne _ _ (by decide)).trans ((ev_ne _ _ (by decide)).trans ((ev_ne _ _ (by decide)).trans ((ev_ne _ _ (by decide)).trans ((ev_ne _ _ (by decide)).trans ((ev_ne _ _ (by decide)).trans ((ev_ne _ _ (by decide)).trans ((ev_ne _ _ (by decide)).trans (ev_eq _ _ (by (try simp only [put_sz]); rw [sz]; decide))))))))))))))))))))))))))))))) (by omega)) hs ?_
  refine wpAnyH_all (rs := [32]) (by kernel_rfl) (by simp) fun i9 hmem => ?_
  obtain rfl : i9 = 32 := by simpa using hmem
  refine wpOp_storeW rfl (by kernel_rfl) (.tmp 135) (.tmp 134) rfl gw e S3 _ (ev_eq _ _ (by (try simp only [put_sz]); rw [sz]; decide)) ((ev_ne _ _ (by decide)).trans (ev_eq _ _ (by (try simp only [put_sz]); rw [sz]; decide))) hE hf ⟨⟨((World.cell?_setCell_other _ _ _ _ (by intro h; simp only [Addr.mk.injEq] at h; omega)).trans hs.1), ((World.cell?_setCell_other _ _ _ _ (by intro h; simp only [Addr.mk.injEq] at h; omega)).trans hs.2)⟩, wpAnyH_done (by kernel_rfl) ⟨rfl, ?_, rfl⟩ _⟩
  exact (((((((((((((((((((((((((((((((((Keep.refl A _).put 104 _ (by decide)).put 105 _ (by decide)).put 106 _ (by decide)).put 107 _ (by decide)).put 108 _ (by decide)).put 109 _ (by decide)).put 110 _ (by decide)).put 111 _ (by decide)).put 113 _ (by decide)).put 116 _ (by decide)).put 117 _ (by decide)).put 120 _ (by decide)).put 121 _ (by decide)).put 122 _ (by decide)).put 123 _ (by decide)).put 124 _ (by decide)).put 126 _ (by decide)).put 128 _ (by decide)).put 131 _ (by decide)).put 132 _ (by decide)).put 112 _ (by decide)).put 114 _ (by decide)).put 115 _ (by decide)).put 118 _ (by decide)).put 119 _ (by decide)).put 125 _ (by decide)).put 127 _ (by decide)).put 129 _ (by decide)).put 130 _ (by decide)).put 133 _ (by decide)).put 134 _ (by decide)).put 135 _ (by decide)).putn _
end Go.Proofs.YthnciogaibhmcaaDoor

/- The words spread: loop 6 of the reference's Sum, over a frame that is a letter. -/
namespace Go.Proofs.YthnciogaibhmcaaDoor
open Go.RowKit
set_option linter.unusedVariables false
set_option maxRecDepth 100000
/-- what the loop keeps -/
structure I6 (N gm gw : Nat) (cur : Array Value) (V2 : World) (sH : S8) (bs : List UInt8) (A0 A : Act) (W : World) (e : Nat) : Prop where
  sz : A.tmps.size = 288
  k : Keep A0 A L6
  ge : 16 ≤ e
  le : e ≤ 64
  i : A.eval (.tmp 12) = .int .i64 (e : Int)
  w : W.heap[gw]? = some (.cells (wvs (extZ bs e)) 101 (0, 0))
  bl : BL N gm cur V2 W sH
def mu6 (A : Act) (_ : World) : Nat := 64 - (intOf (A.eval (.tmp 12))).toNat
set_option maxHeartbeats 400000 in
theorem round6 {Q : Exit → Act → World → Prop} {N gm gw : Nat} {cur : Array Value} {V2 : World} {sH : S8} {bs : List UInt8} {A0 : Act} (x9 : A0.eval (.tmp 9) = .slice (some ⟨gw, 0, none⟩) 64 64) (hgm : gm < gw) (hg : N + 1 + 1 < gw)
    (hexit : ∀ A W, I6 N gm gw cur V2 sH bs A0 A W 64 → Q (.exit 10) A W) (A : Act) (W : World) (e : Nat) (I : I6 N gm gw cur V2 sH bs A0 A W e) :
    Code.wp Tryd.prog body6 (Exit.then (fun A' W' => (∃ e', I6 N gm gw cur V2 sH bs A0 A' W' e') ∧ mu6 A' W' < mu6 A W) Q) A W := by
  conv => arg 2; whnf
  refine wp_seq ?_
  refine wp_seq ?_
  refine wp_split _ (out24 A W e I.sz I.i) ?_
  rintro A1 W1 ⟨⟨k1, c1⟩, hW1⟩
  show Code.wp _ _ _ A1 W1
  have K1 : Keep A A1 L6 := k1.mono (by decide)
  have sz1 : A1.tmps.size = 288 := K1.sz.trans I.sz
  have y12 : A1.eval (.tmp 12) = .int .i64 (e : Int) := (k1.keep 12 (by decide)).trans I.i
  have he0 := I.ge
  by_cases hlt : e < 64
  · refine wp_cond_true (by rw [c1, decide_eq_true (by omega)]) ?_
    refine wp_skip ?_
    show Code.wp _ _ _ A1 W1
    refine wp_seq ?_
    refine wp_block ?_
    refine wp_seq ?_
    have y9 := (K1.keep 9 (by decide)).trans ((I.k.keep 9 (by decide)).trans x9)
    have hw : W1.heap[gw]? = some (.cells (wvs (extZ bs e)) 101 (0, 0)) := by rw [hW1]; exact I.w
    have hbl : BL N gm cur V2 W1 sH := by rw [hW1]; exact I.bl
    have c15 := extZ_cell' he0 hlt 15 (by omega) (by omega) hw
    have c2 := extZ_cell' he0 hlt 2 (by omega) (by omega) hw
    have c7 := extZ_cell' he0 hlt 7 (by omega) (by omega) hw
    have c16 := extZ_cell' he0 hlt 16 (by omega) (by omega) hw
    have cE : W1.cell? ⟨gw, e, none⟩ = some (vw 0) := by
      rw [cell_of_row _ _ _ _ _ _ hw, wvs, List.getElem?_toArray, List.getElem?_map, extZ_zero bs e he0 hlt]
      rfl
    have fE := frozen_of_row _ _ e _ _ hw
    have Hst := extZ_step bs e he0 hlt
    have Hnx := nextW_at bs e he0 hlt
    obtain ⟨EX, hEX⟩ : ∃ EX, EX = ext (e - 16) (wordsAt bs 64) := ⟨_, rfl⟩
    rw [← hEX] at c15 c2 c7 c16 Hnx Hst
    obtain ⟨e15, h15⟩ : ∃ e15, e15 = e - 15 := ⟨_, rfl⟩
    obtain ⟨e2, h2⟩ : ∃ e2, e2 = e - 2 := ⟨_, rfl⟩
    obtain ⟨e7, h7⟩ : ∃ e7, e7 = e - 7 := ⟨_, rfl⟩
    obtain ⟨e16, h16⟩ : ∃ e16, e16 = e - 16 := ⟨_, rfl⟩
    rw [← h15] at c15
    rw [← h2] at c2
    rw [← h7] at c7
    rw [← h16] at c16
    rw [← h15, ← h2, ← h7, ← h16] at Hnx
    generalize EX.getD e15 0 = x at c15 Hnx
    generalize EX.getD e2 0 = y at c2 Hnx
    generalize EX.getD e7 0 = a7 at c7 Hnx
    generalize EX.getD e16 0 = a16 at c16 Hnx
    refine wp_split _ (out26 A1 W1 gw e e15 e2 x y (by omega) (by omega) hlt sz1 y9 y12 ⟨c15, c2⟩) ?_
    rintro A2 W2 ⟨⟨K2, s12, s13, s14⟩, hW2⟩
    show Code.wp _ _ _ A2 W2
    have sz2 : A2.tmps.size = 288 := K2.sz.trans sz1
    refine wp_split _ (out27 A2 W2 gw e e16 e7 x y a16 a7 _ _ _ _ _ _ _ _ _ rfl rfl rfl rfl rfl rfl rfl rfl rfl (vw 0) (by omega) (by omega) hlt sz2 ((K2.keep 9 (by decide)).trans y9) (s12.trans y12) s13 s14 (by rw [hW2]; exact ⟨c16, c7⟩) (by rw [hW2]; exact cE) (by rw [hW2]; exact fE)) ?_
    rintro A3 W3 ⟨k3, hW3⟩
    show Code.wp _ _ _ A3 W3
    have K3 : Keep A2 A3 L6 := k3.mono (by decide)
    refine wp_split _ (out25 A3 W3 e hlt (K3.sz.trans sz2) ((k3.keep 12 (by decide)).trans (s12.trans y12))) ?_
    rintro A4 W4 ⟨⟨k4, c4⟩, hW4⟩
    show (∃ e', I6 N gm gw cur V2 sH bs A0 A4 W4 e') ∧ mu6 A4 W4 < mu6 A W
    have K4 : Keep A3 A4 L6 := k4.mono (by decide)
    refine ⟨⟨e + 1, ⟨K4.sz.trans (K3.sz.trans sz2), I.k.trans (K1.trans (K2.trans (K3.trans K4))), by omega, by omega, c4, ?_, ?_⟩⟩, ?_⟩
    · rw [hW4, hW3, hW2]
      rw [heap_setCell_same _ _ _ _ _ _ (show W1.drew.drew.drew.drew.drew.drew.heap[gw]? = _ from hw), wvs_set, ← Hst, Hnx]
      have e1 : a16 + (rotr x 7 ^^^ rotr x 18 ^^^ x >>> 3) + a7 + (rotr y 17 ^^^ rotr y 19 ^^^ y >>> 10) = nearMix y + a7 + farMix x + a16 := by
        unfold nearMix farMix
        generalize rotr x 7 ^^^ rotr x 18 ^^^ x >>> 3 = m1
        generalize rotr y 17 ^^^ rotr y 19 ^^^ y >>> 10 = m2
        ac_rfl
      rw [e1]
    · rw [hW4, hW3, hW2]
      refine ⟨(heap_setCell_other _ _ _ _ (show N + 1 ≠ gw by omega)).trans hbl.h, (heap_setCell_other _ _ _ _ (show N + 1 + 1 ≠ gw by omega)).trans hbl.k, (heap_setCell_other _ _ _ _ (show gm ≠ gw by omega)).trans hbl.m, hbl.bel.drew.drew.drew.drew.drew.drew.setCell (p := ⟨gw, e, none⟩) (show N + 1 ≤ gw by omega) _⟩
    · unfold mu6
      rw [c4, I.i]
      simp only [intOf]
      omega
  · refine wp_cond_false (by rw [c1, decide_eq_false (by omega)]) ?_
    refine wp_exit ?_
    show Q (.exit 10) A1 W1
    have hr : e = 64 := by have := I.le; omega
    subst hr
    exact hexit A1 W1 ⟨sz1, I.k.trans K1, by omega, Nat.le_refl _, y12, by rw [hW1]; exact I.w, by rw [hW1]; exact I.bl⟩
/-- the loop -/
theorem loop6 {Q : Exit → Act → World → Prop} {N gm gw : Nat} {cur : Array Value} {V2 : World} {sH : S8} {bs : List UInt8} {A0 : Act} {W0 : World} (x9 : A0.eval (.tmp 9) = .slice (some ⟨gw, 0, none⟩) 64 64) (hgm : gm < gw) (hg : N + 1 + 1 < gw)
    (start : I6 N gm gw cur V2 sH bs A0 A0 W0 16) (hexit : ∀ A W, I6 N gm gw cur V2 sH bs A0 A W 64 → Q (.exit 10) A W) : Code.wp Tryd.prog (Code.loop body6) Q A0 W0 :=
  wp_loop (fun A W => ∃ e, I6 N gm gw cur V2 sH bs A0 A W e) mu6 ⟨16, start⟩ (fun A W ⟨e, h⟩ => round6 x9 hgm hg hexit A W e h)
end Go.Proofs.YthnciogaibhmcaaDoor

/- The words of a block (loops 4 and 5 of the reference's Sum): the region, over a frame that is a letter. -/
namespace Go.Proofs.YthnciogaibhmcaaDoor
open Go.RowKit
set_option linter.unusedVariables false
set_option maxRecDepth 100000
theorem w_conv8 (b : UInt8) : ((BitVec.ofNat 32 b.toNat).toNat : Int) = (b.toNat : Int) := by
  have := b.toNat_lt
  rw [BitVec.toNat_ofNat]
  omega
theorem y_muli {ops : Array Oper} {S : World → Prop} {op : Oper} {a : Act} (hw : Region.wanted op (yielded ops a.tmps) = true) (x y : Operand) (ho : op.op = .binOp .mul 3 x y 3) (p q z : Int) (hx : a.eval x = .int .i64 p) (hy : a.eval y = .int .i64 q) (hz : IntKind.i64.wrap (p * q) = z) : YieldsIf Tryd.prog ops S op (.int .i64 z) a := by
  refine .inl ⟨hw, fun w hS9 => ?_⟩
  unfold execOp
  simp only [ho, hx, hy]
  simp [go_sem, hz]
theorem y_indexB {ops : Array Oper} {S : World → Prop} {op : Oper} {a : Act} (hw : Region.wanted op (yielded ops a.tmps) = true) (x y : Operand) (ho : op.op = .indexAddr 84 x y) (g n c k : Nat) (hx : a.eval x = .slice (some ⟨g, 0, none⟩) n c) (hy : a.eval y = .int .i64 (k : Int)) (hk : k < n) : YieldsIf Tryd.prog ops S op (.pointer (some ⟨g, k, none⟩)) a := by
  refine .inl ⟨hw, fun w hS9 => ?_⟩
  have h1 : (k : Int) < (n : Int) := by omega
  have h0 : (0 : Int) ≤ (k : Int) := by omega
  unfold execOp
  simp only [ho, hx, hy]
  simp [go_sem, h0, h1]
theorem yh_loadB {ops : Array Oper} {S : World → Prop} {op : Oper} {a : Act} (hw : Region.wanted op (yielded ops a.tmps) = true) (x : Operand) (ho : op.op = .load 5 x) (g k : Nat) (b : UInt8) (hx : a.eval x = .pointer (some ⟨g, k, none⟩)) (hS : ∀ w, S w → w.cell? ⟨g, k, none⟩ = some (.int .u8 (b.toNat : Int))) : YieldsIf Tryd.prog ops S op (.int .u8 (b.toNat : Int)) a := by
  refine .inl ⟨hw, fun w hS9 => ?_⟩
  have h1 := hS w hS9
  unfold execOp
  simp only [ho, hx]
  simp [go_sem, h1]
theorem y_conv8 {ops : Array Oper} {S : World → Prop} {op : Oper} {a : Act} (hw : Region.wanted op (yielded ops a.tmps) = true) (x : Operand) (ho : op.op = .convert 5 101 x) (b : UInt8) (hx : a.eval x = .int .u8 (b.toNat : Int)) : YieldsIf Tryd.prog ops S op (vw (BitVec.ofNat 32 b.toNat)) a := by
  refine .inl ⟨hw, fun w hS9 => ?_⟩
  have h1 : IntKind.u32.wrap (b.toNat : Int) = ((BitVec.ofNat 32 b.toNat).toNat : Int) := by
    rw [w_conv8]; have := b.toNat_lt; rw [IntKind.wrap_u32]; omega
  unfold vw
  rw [← h1]
  unfold execOp
  simp only [ho, hx]
  simp [go_sem]
theorem y_shl8 {ops : Array Oper} {S : World → Prop} {op : Oper} {a : Act} (hw : Region.wanted op (yielded ops a.tmps) = true) (x y : Operand) (ho : op.op = .binOp .shl 101 x y 116) (p : W32) (hx : a.eval x = vw p) (hy : a.eval y = .int .u64 8) : YieldsIf Tryd.prog ops S op (vw (p <<< 8)) a := by
  refine .inl ⟨hw, fun w hS9 => ?_⟩
  have h1 : IntKind.u32.wrap ((p.toNat : Int) * 256) = ((p <<< 8).toNat : Int) := w_shl p 8
  obtain ⟨r, hr⟩ : ∃ r, r = p <<< 8 := ⟨_, rfl⟩
  rw [← hr] at h1 ⊢
  clear hr
  unfold execOp
  simp only [ho, hx, hy]
  simp [go_sem, h1]
theorem y_or {ops : Array Oper} {S : World → Prop} {op : Oper} {a : Act} (hw : Region.wanted op (yielded ops a.tmps) = true) (x y : Operand) (ho : op.op = .binOp .or 101 x y 101) (p q : W32) (hx : a.eval x = vw p) (hy : a.eval y = vw q) : YieldsIf Tryd.prog ops S op (vw (p ||| q)) a := by
  refine .inl ⟨hw, fun w hS9 => ?_⟩
  have h1 := w_or p q
  unfold execOp
  simp only [ho, hx, hy]
  simp [go_sem, h1]
noncomputable def code22 : Code := ((Tryd.f66.body.bind (regionAt 22)).getD .skip)
set_option maxHeartbeats 1000000 in
theorem out22 (A : Act) (W : World) (gw gm M cm i q at9 x : Nat) (p : W32) (b : UInt8) (hgm : gm < gw) (hi : i < 16) (hq : q < 4) (hx9 : x = at9 + 4 * i + q) (hx : x < M) (hM : M ≤ 140737488355200) (sz : A.tmps.size = 288)
    (x9 : A.eval (.tmp 9) = .slice (some ⟨gw, 0, none⟩) 64 64) (x5 : A.eval (.tmp 5) = .slice (some ⟨gm, 0, none⟩) M cm) (x10 : A.eval (.tmp 10) = .int .i64 (i : Int)) (x8 : A.eval (.tmp 8) = .int .i64 (at9 : Int)) (x11 : A.eval (.tmp 11) = .int .i64 (q : Int))
    (hp : W.cell? ⟨gw, i, none⟩ = some (vw p)) (hf : W.frozen? ⟨gw, i, none⟩ = false) (hs : W.cell? ⟨gm, x, none⟩ = some (.int .u8 (b.toNat : Int))) :
    Code.wp Tryd.prog code22 (fun ex A' W' => ex = .normal ∧ (Keep A A' [71, 72, 73, 74, 75, 76, 77, 78, 79, 80, 81, 82, 83, 84, 85, 86, 87, 88, 89] ∧ W' = W.drew.setCell ⟨gw, i, none⟩ (vw (p <<< 8 ||| BitVec.ofNat 32 b.toNat)))) A W := by
  have hmx : Tryd.prog.follows .mixedOrders = true := by kernel_rfl
  conv => arg 2; whnf
  refine wp_region_held (S := fun w9 => w9.cell? ⟨gm, x, none⟩ = some (.int .u8 (b.toNat : Int))) hmx ?_
  show wpAnyH _ _ _ _ _ _ _ _ (World.drew W)
  refine wpAnyH_take (i := 0) (v := .slice (some ⟨gw, 0, none⟩) 64 64) rfl (by kernel_rfl) (by kernel_rfl) (by kernel_rfl) (fun _ _ _ h => nomatch h.1) (yields_move (by simp [Region.wanted]) (.tmp 9) rfl _ x9) hs ?_
  refine wpAnyH_take (i := 1) (v := .int .i64 (i : Int)) rfl (by kernel_rfl) (by kernel_rfl) (by kernel_rfl) (fun _ _ _ h => nomatch h.1) (yields_move (by simp [Region.wanted]) (.tmp 10) rfl _ ((ev_ne _ _ (by decide)).trans x10)) hs ?_
  refine wpAnyH_take (i := 2) (v := .slice (some ⟨gw, 0, none⟩) 64 64) rfl (by kernel_rfl) (by kernel_rfl) (by kernel_rfl) (fun _ _ _ h => nomatch h.1) (yields_move (by simp [Region.wanted]) (.tmp 9) rfl _ ((ev_ne _ _ (by decide)).trans ((ev_ne _ _ (by decide)).trans x9))) hs ?_
  refine wpAnyH_take (i := 3) (v := .int .i64 (i : Int)) rfl (by kernel_rfl) (by kernel_rfl) (by kernel_rfl) (fun _ _ _ h => nomatch h.1) (yields_move (by simp [Region.wanted]) (.tmp 10) rfl _ ((ev_ne _ _ (by decide)).trans ((ev_ne _ _ (by decide)).trans ((ev_ne _ _ (by decide)).trans x10)))) hs ?_
  refine wpAnyH_take (i := 4) (v := .pointer (some ⟨gw, i, none⟩)) rfl (by kernel_rfl) (by kernel_rfl) (by kernel_rfl) (fun _ _ _ h => nomatch h.1) (y_index (by simp [Region.wanted]) (.tmp 73) (.tmp 74) rfl gw 64 64 i ((ev_ne _ _ (by decide)).trans (ev_eq _ _ (by (try simp only [put_sz]); rw [sz]; decide))) (ev_eq _ _ (by (try simp only [put_sz]); rw [sz]; decide)) (by omega)) hs ?_
  refine wpAnyH_take (i := 7) (v := .slice (some ⟨gm, 0, none⟩) M cm) rfl (by kernel_rfl) (by kernel_rfl) (by kernel_rfl) (fun _ _ _ h => nomatch h.1) (yields_move (by simp [Region.wanted]) (.tmp 5) rfl _ ((ev_ne _ _ (by decide)).trans ((ev_ne _ _ (by decide)).trans ((ev_ne _ _ (by decide)).trans ((ev_ne _ _ (by decide)).trans ((ev_ne _ _ (by decide)).trans x5)))))) hs ?_
  refine wpAnyH_take (i := 8) (v := .int .i64 (at9 : Int)) rfl (by kernel_rfl) (by kernel_rfl) (by kernel_rfl) (fun _ _ _ h => nomatch h.1) (yields_move (by simp [Region.wanted]) (.tmp 8) rfl _ ((ev_ne _ _ (by decide)).trans ((ev_ne _ _ (by decide)).trans ((ev_ne _ _ (by decide)).trans ((ev_ne _ _ (by decide)).trans ((ev_ne _ _ (by decide)).trans ((ev_ne _ _ (by decide)).trans x8))))))) hs ?_
  refine wpAnyH_take (i := 9) (v := .int .i64 (i : Int)) rfl (by kernel_rfl) (by kernel_rfl) (by kernel_rfl) (fun _ _ _ h => nomatch h.1) (yields_move (by simp [Region.wanted]) (.tmp 10) rfl _ ((ev_ne _ _ (by decide)).trans ((ev_ne _ _ (by decide)).trans ((ev_ne _ _ (by decide)).trans ((ev_ne _ _ (by decide)).trans ((ev_ne _ _ (by decide)).trans ((ev_ne _ _ (by decide)).trans ((ev_ne _ _ (by decide)).trans x10)))))))) hs ?_
  refine wpAnyH_take (i := 10) (v := .int .i64 (4 * (i : Int))) rfl (by kernel_rfl) (by kernel_rfl) (by kernel_rfl) (fun _ _ _ h => nomatch h.1) (y_muli (by simp [Region.wanted]) (.const (.int .i64 4)) (.tmp 80) rfl 4 (i : Int) _ rfl (ev_eq _ _ (by (try simp only [put_sz]); rw [sz]; decide)) (by rw [IntKind.wrap_i64]; omega)) hs ?_
  refine wpAnyH_take (i := 11) (v := .int .i64 ((at9 : Int) + 4 * (i : Int))) rfl (by kernel_rfl) (by kernel_rfl) (by kernel_rfl) (fun _ _ _ h => nomatch h.1) (y_addi (by simp [Region.wanted]) (.tmp 79) (.tmp 81) rfl (at9 : Int) (4 * (i : Int)) _ ((ev_ne _ _ (by decide)).trans ((ev_ne _ _ (by decide)).trans (ev_eq _ _ (by (try simp only [put_sz]); rw [sz]; decide)))) (ev_eq _ _ (by (try simp only [put_sz]); rw [sz]; decide)) (by rw [IntKind.wrap_i64]; omega)) hs ?_
  refine wpAnyH_take (i := 12) (v := .int .i64 (q : Int)) rfl (by kernel_rfl) (by kernel_rfl) (by kernel_rfl) (fun _ _ _ h => nomatch h.1) (yields_move (by simp [Region.wanted]) (.tmp 11) rfl _ ((ev_ne _ _ (by decide)).trans ((ev_ne _ _ (by decide)).trans ((ev_ne _ _ (by decide)).trans ((ev_ne _ _ (by decide)).trans ((ev_ne _ _ (by decide)).trans ((ev_ne _ _ (by decide)).trans ((ev_ne _ _ (by decide)).trans ((ev_ne _ _ (by decide)).trans ((ev_ne _ _ (by decide)).trans ((ev_ne _ _ (by decide)).trans x11))))))))))) hs ?_
  refine wpAnyH_take (i := 13) (v := .int .i64 (x : Int)) rfl (by kernel_rfl) (by kernel_rfl) (by kernel_rfl) (fun _ _ _ h => nomatch h.1) (y_addi (by simp [Region.wanted]) (.tmp 82) (.tmp 83) rfl ((at9 : Int) + 4 * (i : Int)) (q : Int) _ ((ev_ne _ _ (by decide)).trans (ev_eq _ _ (by (try simp only [put_sz]); rw [sz]; decide))) (ev_eq _ _ (by (try simp only [put_sz]); rw [sz]; decide)) (by rw [IntKind.wrap_i64]; omega)) hs ?_
  refine wpAnyH_take (i := 14) (v := .pointer (some ⟨gm, x, none⟩)) rfl (by kernel_rfl) (by kernel_rfl) (by kernel_rfl) (fun _ _ _ h => nomatch h.1) (y_indexB (by simp [Region.wanted]) (.tmp 78) (.tmp 84) rfl gm M cm x ((ev_ne _ _ (by decide)).trans ((ev_ne _ _ (by decide)).trans ((ev_ne _ _ (by decide)).trans ((ev_ne _ _ (by decide)).trans ((ev_ne _ _ (by decide)).trans ((ev_ne _ _ (by decide)).trans (ev_eq _ _ (by (try simp only [put_sz]); rw [sz]; decide)))))))) (ev_eq _ _ (by (try simp only [put_sz]); rw [sz]; decide)) hx) hs ?_
  refine wpAnyH_take (i := 15) (v := .int .u8 (b.toNat : Int)) rfl (by kernel_rfl) (by kernel_rfl) (by kernel_rfl) (fun _ _ _ h => nomatch h.1) (yh_loadB (by simp [Region.wanted]) (.tmp 85) rfl gm x b (ev_eq _ _ (by (try simp only [put_sz]); rw [sz]; decide)) (fun w h => h)) hs ?_
  refine wpAnyH_take (i := 16) (v := vw (BitVec.ofNat 32 b.toNat)) rfl (by kernel_rfl) (by kernel_rfl) (by kernel_rfl) (fun _ _ _ h => nomatch h.1) (y_conv8 (by simp [Region.wanted]) (.tmp 86) rfl b (ev_eq _ _ (by (try simp only [put_sz]); rw [sz]; decide))) hs ?_
  refine wpAnyH_all (rs := [5]) (by kernel_rfl) (by simp) fun i9 hmem => ?_
  obtain rfl : i9 = 5 := by simpa using hmem
  refine wpOp_yields (S := fun x => x.cell? ⟨gw, i, none⟩ = some (vw p)) (v := vw p) rfl (by kernel_rfl) (y_load (by simp [Region.wanted]) (.tmp 75) rfl gw i p ((ev_ne _ _ (by decide)).trans ((ev_ne _ _ (by decide)).trans ((ev_ne _ _ (by decide)).trans ((ev_ne _ _ (by decide)).trans ((ev_ne _ _ (by decide)).trans ((ev_ne _ _ (by decide)).trans ((ev_ne _ _ (by decide)).trans ((ev_ne _ _ (by decide)).trans ((ev_ne _ _ (by decide)).trans ((ev_ne _ _ (by decide)).trans (ev_eq _ _ (by (try simp only [put_sz]); rw [sz]; decide)))))))))))) (fun w h => h)) hp ⟨hs, ?_⟩
  show wpAnyH _ _ _ _ _ _ _ ((((((((((((((((A.put (some 71) (.slice (some ⟨gw, 0, none⟩) 64 64)).put (some 72) (.int .i64 (i : Int))).put (some 73) (.slice (some ⟨gw, 0, none⟩) 64 64)).put (some 74) (.int .i64 (i : Int))).put (some 75) (.pointer (some ⟨gw, i, none⟩))).put (some 78) (.slice (some ⟨gm, 0, none⟩) M cm)).put (some 79) (.int .i64 (at9 : Int))).put (some 80) (.int .i64 (i : Int))).put (some 81) (.int .i64 (4 * (i : Int)))).put (some 82) (.int .i64 ((at9 : Int) + 4 * (i : Int)))).put (some 83) (.int .i64 (q : Int))).put (some 84) (.int .i64 (x : Int))).put (some 85) (.pointer (some ⟨gm, x, none⟩))).put (some 86) (.int .u8 (b.toNat : Int))).put (some 87) (vw (BitVec.ofNat 32 b.toNat))).put (some 76) (vw p)) _
  refine wpAnyH_take (i := 6) (v := vw (p <<< 8)) rfl (by kernel_rfl) (by kernel_rfl) (by kernel_rfl) (fun _ _ _ h => nomatch h.1) (y_shl8 (by simp [Region.wanted]) (.tmp 76) (.const (.int .u64 8)) rfl p (ev_eq _ _ (by (try simp only [put_sz]); rw [sz]; decide)) rfl) hs ?_
  refine wpAnyH_take (i := 17) (v := vw (p <<< 8 ||| BitVec.ofNat 32 b.toNat)) rfl (by kernel_rfl) (by kernel_rfl) (by kernel_rfl) (fun _ _ _ h => nomatch h.1) (y_or (by simp [Region.wanted]) (.tmp 77) (.tmp 87) rfl (p <<< 8) (BitVec.ofNat 32 b.toNat) (ev_eq _ _ (by (try simp only [put_sz]); rw [sz]; decide)) ((ev_ne _ _ (by decide)).trans ((ev_ne _ _ (by decide)).trans (ev_eq _ _ (by (try simp only [put_sz]); rw [sz]; decide))))) hs ?_
  refine wpAnyH_take (i := 18) (v := .pointer (some ⟨gw, i, none⟩)) rfl (by kernel_rfl) (by kernel_rfl) (by kernel_rfl) (fun _ _ _ h => nomatch h.1) (y_index (by simp [Region.wanted]) (.tmp 71) (.tmp 72) rfl gw 64 64 i ((ev_ne _ _ (by decide)).trans ((ev_ne _ _ (by decide)).trans ((ev_ne _ _ (by decide)).trans ((ev_ne _ _ (by decide)).trans ((ev_ne _ _ (by decide)).trans ((ev_ne _ _ (by decide)).trans ((ev_ne _ _ (by decide)).trans ((ev_ne _ _ (by decide)).trans ((ev_ne _ _ (by decide)).trans ((ev_ne _ _ (by decide)).trans ((ev_ne _ _ (by decide)).trans ((ev_ne _ _ (by decide)).trans ((ev_ne _ _ (by decide)).trans ((ev_ne _ _ (by decide)).trans ((ev_ne _ _ (by decide)).trans ((ev_ne _ _ (by decide)).trans ((ev_ne _ _ (by decide)).trans (ev_eq _ _ (by (try simp only [put_sz]); rw [sz]; decide))))))))))))))))))) ((ev_ne _ _ (by decide)).trans ((ev_ne _ _ (by decide)).trans ((ev_ne _ _ (by decide)).trans ((ev_ne _ _ (by decide)).trans ((ev_ne _ _ (by decide)).trans ((ev_ne _ _ (by decide)).trans ((ev_ne _ _ (by decide)).trans ((ev_ne _ _ (by decide)).trans ((ev_ne _ _ (by decide)).trans ((ev_ne _ _ (by decide)).trans ((ev_ne _ _ (by decide)).trans ((ev_ne _ _ (by decide)).trans ((ev_ne _ _ (by decide)).trans ((ev_ne _ _ (by decide)).trans ((ev_ne _ _ (by decide)).trans ((ev_ne _ _ (by decide)).trans (ev_eq _ _ (by (try simp only [put_sz]); rw [sz]; decide)))))))))))))))))) (by omega)) hs ?_
  refine wpAnyH_all (rs := [19]) (by kernel_rfl) (by simp) fun i9 hmem => ?_
  obtain rfl : i9 = 19 := by simpa using hmem
  refine wpOp_storeW rfl (by kernel_rfl) (.tmp 89) (.tmp 88) rfl gw i (p <<< 8 ||| BitVec.ofNat 32 b.toNat) _ (ev_eq _ _ (by (try simp only [put_sz]); rw [sz]; decide)) ((ev_ne _ _ (by decide)).trans (ev_eq _ _ (by (try simp only [put_sz]); rw [sz]; decide))) hp hf ⟨(World.cell?_setCell_other _ _ _ _ (by intro h; simp only [Addr.mk.injEq] at h; omega)).trans hs, wpAnyH_done (by kernel_rfl) ⟨rfl, ?_, rfl⟩ _⟩
  exact ((((((((((((((((((((Keep.refl A _).put 71 _ (by decide)).put 72 _ (by decide)).put 73 _ (by decide)).put 74 _ (by decide)).put 75 _ (by decide)).put 78 _ (by decide)).put 79 _ (by decide)).put 80 _ (by decide)).put 81 _ (by decide)).put 82 _ (by decide)).put 83 _ (by decide)).put 84 _ (by decide)).put 85 _ (by decide)).put 86 _ (by decide)).put 87 _ (by decide)).put 76 _ (by decide)).put 77 _ (by decide)).put 88 _ (by decide)).put 89 _ (by decide)).putn _
end Go.Proofs.YthnciogaibhmcaaDoor

/- The words of a block: loops 4 and 5 of the reference's Sum, over a frame that is a letter. -/
namespace Go.Proofs.YthnciogaibhmcaaDoor
open Go.RowKit
set_option linter.unusedVariables false
set_option maxRecDepth 100000
noncomputable def code20 : Code := ((Tryd.f66.body.bind (regionAt 20)).getD .skip)
theorem out20 (A : Act) (W : World) (r : Nat) (sz : A.tmps.size = 288) (x11 : A.eval (.tmp 11) = .int .i64 (r : Int)) :
    Code.wp Tryd.prog code20 (fun ex A' W' => ex = .normal ∧ ((Keep A A' [67, 68] ∧ A'.eval (.tmp 68) = .bool (decide ((r : Int) < 4))) ∧ W' = W)) A W := by
  conv => arg 2; whnf
  refine wp_region_list ?_
  refine wpList_yields rfl (.int .i64 (r : Int)) (yields_move (by simp [Region.wanted]) (.tmp 11) rfl _ x11) ?_
  refine wpList_yields rfl (.bool (decide ((r : Int) < 4))) (y_lss (by simp [Region.wanted]) (.tmp 67) (.const (.int .i64 4)) rfl (r : Int) 4 (ev_eq _ _ (by rw [sz]; decide)) rfl) ?_
  exact wpList_nil ⟨rfl, ⟨((Keep.refl A _).put 67 _ (by decide)).put 68 _ (by decide), ev_eq _ _ (by simp only [put_sz]; rw [sz]; decide)⟩, rfl⟩
noncomputable def code21 : Code := ((Tryd.f66.body.bind (regionAt 21)).getD .skip)
theorem out21 (A : Act) (W : World) (r : Nat) (hr : r < 64) (sz : A.tmps.size = 288) (x11 : A.eval (.tmp 11) = .int .i64 (r : Int)) :
    Code.wp Tryd.prog code21 (fun ex A' W' => ex = .normal ∧ ((Keep A A' [11, 69, 70] ∧ A'.eval (.tmp 11) = .int .i64 ((r + 1 : Nat) : Int)) ∧ W' = W)) A W := by
  conv => arg 2; whnf
  refine wp_region_list ?_
  refine wpList_yields rfl (.int .i64 (r : Int)) (yields_move (by simp [Region.wanted]) (.tmp 11) rfl _ x11) ?_
  refine wpList_yields rfl (.int .i64 ((r + 1 : Nat) : Int)) (y_addi (by simp [Region.wanted]) (.tmp 69) (.const (.int .i64 1)) rfl (r : Int) 1 _ (ev_eq _ _ (by rw [sz]; decide)) rfl (by rw [IntKind.wrap_i64]; omega)) ?_
  refine wpList_yields rfl (.int .i64 ((r + 1 : Nat) : Int)) (yh_assign (by simp [Region.wanted]) (.tmp 70) rfl _ (ev_eq _ _ (by simp only [put_sz]; rw [sz]; decide))) ?_
  exact wpList_nil ⟨rfl, ⟨(((Keep.refl A _).put 69 _ (by decide)).put 70 _ (by decide)).put 11 _ (by decide), ev_eq _ _ (by simp only [put_sz]; rw [sz]; decide)⟩, rfl⟩
noncomputable def code17 : Code := ((Tryd.f66.body.bind (regionAt 17)).getD .skip)
theorem out17 (A : Act) (W : World) (r : Nat) (sz : A.tmps.size = 288) (x10 : A.eval (.tmp 10) = .int .i64 (r : Int)) :
    Code.wp Tryd.prog code17 (fun ex A' W' => ex = .normal ∧ ((Keep A A' [63, 64] ∧ A'.eval (.tmp 64) = .bool (decide ((r : Int) < 16))) ∧ W' = W)) A W := by
  conv => arg 2; whnf
  refine wp_region_list ?_
  refine wpList_yields rfl (.int .i64 (r : Int)) (yields_move (by simp [Region.wanted]) (.tmp 10) rfl _ x10) ?_
  refine wpList_yields rfl (.bool (decide ((r : Int) < 16))) (y_lss (by simp [Region.wanted]) (.tmp 63) (.const (.int .i64 16)) rfl (r : Int) 16 (ev_eq _ _ (by rw [sz]; decide)) rfl) ?_
  exact wpList_nil ⟨rfl, ⟨((Keep.refl A _).put 63 _ (by decide)).put 64 _ (by decide), ev_eq _ _ (by simp only [put_sz]; rw [sz]; decide)⟩, rfl⟩
noncomputable def code18 : Code := ((Tryd.f66.body.bind (regionAt 18)).getD .skip)
theorem out18 (A : Act) (W : World) (r : Nat) (hr : r < 64) (sz : A.tmps.size = 288) (x10 : A.eval (.tmp 10) = .int .i64 (r : Int)) :
    Code.wp Tryd.prog code18 (fun ex A' W' => ex = .normal ∧ ((Keep A A' [10, 65, 66] ∧ A'.eval (.tmp 10) = .int .i64 ((r + 1 : Nat) : Int)) ∧ W' = W)) A W := by
  conv => arg 2; whnf
  refine wp_region_list ?_
  refine wpList_yields rfl (.int .i64 (r : Int)) (yields_move (by simp [Region.wanted]) (.tmp 10) rfl _ x10) ?_
  refine wpList_yields rfl (.int .i64 ((r + 1 : Nat) : Int)) (y_addi (by simp [Region.wanted]) (.tmp 65) (.const (.int .i64 1)) rfl (r : Int) 1 _ (ev_eq _ _ (by rw [sz]; decide)) rfl (by rw [IntKind.wrap_i64]; omega)) ?_
  refine wpList_yields rfl (.int .i64 ((r + 1 : Nat) : Int)) (yh_assign (by simp [Region.wanted]) (.tmp 66) rfl _ (ev_eq _ _ (by simp only [put_sz]; rw [sz]; decide))) ?_
  exact wpList_nil ⟨rfl, ⟨(((Keep.refl A _).put 65 _ (by decide)).put 66 _ (by decide)).put 10 _ (by decide), ev_eq _ _ (by simp only [put_sz]; rw [sz]; decide)⟩, rfl⟩
noncomputable def code19 : Code := ((Tryd.f66.body.bind (regionAt 19)).getD .skip)
theorem out19 (A : Act) (W : World) (sz : A.tmps.size = 288) :
    Code.wp Tryd.prog code19 (fun ex A' W' => ex = .normal ∧ ((Keep A A' [11] ∧ A'.eval (.tmp 11) = .int .i64 ((0 : Nat) : Int)) ∧ W' = W)) A W := by
  conv => arg 2; whnf
  refine wp_region_list ?_
  refine wpList_yields rfl (.int .i64 ((0 : Nat) : Int)) (yh_assign (by simp [Region.wanted]) (.const (.int .i64 0)) rfl _ rfl) ?_
  exact wpList_nil ⟨rfl, ⟨(Keep.refl A _).put 11 _ (by decide), ev_eq _ _ (by rw [sz]; decide)⟩, rfl⟩
abbrev L5 : List Nat := [11, 67, 68, 69, 70, 71, 72, 73, 74, 75, 76, 77, 78, 79, 80, 81, 82, 83, 84, 85, 86, 87, 88, 89]
abbrev L4 : List Nat := [10, 11, 63, 64, 65, 66, 67, 68, 69, 70, 71, 72, 73, 74, 75, 76, 77, 78, 79, 80, 81, 82, 83, 84, 85, 86, 87, 88, 89]
noncomputable def body5 : Code := ((Tryd.f66.body.bind (loopAt 22)).getD .skip)
noncomputable def body4 : Code := ((Tryd.f66.body.bind (loopAt 19)).getD .skip)
/-- what the inner loop keeps -/
structure I5 (N gm gw : Nat) (cur : Array Value) (V2 : World) (sH : S8) (bs : List UInt8) (i : Nat) (A0 A : Act) (W : World) (q : Nat) : Prop where
  sz : A.tmps.size = 288
  k : Keep A0 A L5
  le : q ≤ 4
  ix : A.eval (.tmp 11) = .int .i64 (q : Int)
  w : W.heap[gw]? = some (.cells (wvs (wordsZ bs (4 * i + q))) 101 (0, 0))
  bl : BL N gm cur V2 W sH
def mu5 (A : Act) (_ : World) : Nat := 4 - (intOf (A.eval (.tmp 11))).toNat
set_option maxHeartbeats 400000 in
theorem round5 {Q : Exit → Act → World → Prop} {N gm gw M cm at9 : Nat} {cur : Array Value} {V2 : World} {sH : S8} {bs : List UInt8} {A0 : Act} {i : Nat} (hi : i < 16) (x10 : A0.eval (.tmp 10) = .int .i64 (i : Int)) (x9 : A0.eval (.tmp 9) = .slice (some ⟨gw, 0, none⟩) 64 64) (x5 : A0.eval (.tmp 5) = .slice (some ⟨gm, 0, none⟩) M cm) (x8 : A0.eval (.tmp 8) = .int .i64 (at9 : Int)) (hgm : gm < gw) (hg : N + 1 + 1 < gw) (lbs : bs.length = 64) (hat : at9 + 64 ≤ M) (hM : M ≤ 140737488355200) (hmb : ∀ (W : World) (k : Nat) (h : k < bs.length), W.heap[gm]? = some (.cells cur 5 (0, 0)) → W.cell? ⟨gm, at9 + k, none⟩ = some (.int .u8 ((bs[k]'h).toNat : Int)))
    (hexit : ∀ A W, I5 N gm gw cur V2 sH bs i A0 A W 4 → Q (.exit 8) A W) (A : Act) (W : World) (q : Nat) (I : I5 N gm gw cur V2 sH bs i A0 A W q) :
    Code.wp Tryd.prog body5 (Exit.then (fun A' W' => (∃ q', I5 N gm gw cur V2 sH bs i A0 A' W' q') ∧ mu5 A' W' < mu5 A W) Q) A W := by
  conv => arg 2; whnf
  refine wp_seq ?_
  refine wp_seq ?_
  refine wp_split _ (out20 A W q I.sz I.ix) ?_
  rintro A1 W1 ⟨⟨k1, c1⟩, hW1⟩
  show Code.wp _ _ _ A1 W1
  have K1 : Keep A A1 L5 := k1.mono (by decide)
  have sz1 : A1.tmps.size = 288 := K1.sz.trans I.sz
  have y11 : A1.eval (.tmp 11) = .int .i64 (q : Int) := (k1.keep 11 (by decide)).trans I.ix
  by_cases hlt : q < 4
  · refine wp_cond_true (by rw [c1, decide_eq_true (by omega)]) ?_
    refine wp_skip ?_
    show Code.wp _ _ _ A1 W1
    refine wp_seq ?_
    refine wp_block ?_
    have y9 := (K1.keep 9 (by decide)).trans ((I.k.keep 9 (by decide)).trans x9)
    have y5 := (K1.keep 5 (by decide)).trans ((I.k.keep 5 (by decide)).trans x5)
    have y10 := (K1.keep 10 (by decide)).trans ((I.k.keep 10 (by decide)).trans x10)
    have y8 := (K1.keep 8 (by decide)).trans ((I.k.keep 8 (by decide)).trans x8)
    have hw : W1.heap[gw]? = some (.cells (wvs (wordsZ bs (4 * i + q))) 101 (0, 0)) := by rw [hW1]; exact I.w
    have hbl : BL N gm cur V2 W1 sH := by rw [hW1]; exact I.bl
    have k64 : 4 * i + q < bs.length := by omega
    have c2 := hmb W1 (4 * i + q) k64 hbl.m
    have c3 : W1.cell? ⟨gw, i, none⟩ = some (vw (wordAt bs (4 * i + q) i)) := by
      rw [cell_of_row _ _ _ _ _ _ hw, wvs, List.getElem?_toArray, List.getElem?_map, wordsZ_get bs (4 * i + q) i (by omega)]
      rfl
    have f1 := frozen_of_row _ _ i _ _ hw
    have Hst := wordsZ_step bs (4 * i + q) k64 (by omega)
    rw [show (4 * i + q) / 4 = i by omega] at Hst
    refine wp_split _ (out22 A1 W1 gw gm M cm i q at9 (at9 + (4 * i + q)) _ _ hgm hi hlt (by omega) (by omega) hM sz1 y9 y5 y10 y8 y11 c3 f1 c2) ?_
    rintro A2 W2 ⟨k2, hW2⟩
    show Code.wp _ _ _ A2 W2
    have K2 : Keep A1 A2 L5 := k2.mono (by decide)
    refine wp_split _ (out21 A2 W2 q (by omega) (K2.sz.trans sz1) ((k2.keep 11 (by decide)).trans y11)) ?_
    rintro A3 W3 ⟨⟨k3, c4⟩, hW3⟩
    show (∃ q', I5 N gm gw cur V2 sH bs i A0 A3 W3 q') ∧ mu5 A3 W3 < mu5 A W
    have K3 : Keep A2 A3 L5 := k3.mono (by decide)
    refine ⟨⟨q + 1, ⟨K3.sz.trans (K2.sz.trans sz1), I.k.trans (K1.trans (K2.trans K3)), by omega, c4, ?_, ?_⟩⟩, ?_⟩
    · rw [hW3, hW2]
      rw [heap_setCell_same _ _ _ _ _ _ (show W1.drew.heap[gw]? = _ from hw), wvs_set, Hst]
      rfl
    · rw [hW3, hW2]
      refine ⟨(heap_setCell_other _ _ _ _ (show N + 1 ≠ gw by omega)).trans hbl.h, (heap_setCell_other _ _ _ _ (show N + 1 + 1 ≠ gw by omega)).trans hbl.k, (heap_setCell_other _ _ _ _ (show gm ≠ gw by omega)).trans hbl.m, hbl.bel.drew.setCell (p := ⟨gw, i, none⟩) (show N + 1 ≤ gw by omega) _⟩
    · unfold mu5
      rw [c4, I.ix]
      simp only [intOf]
      omega
  · refine wp_cond_false (by rw [c1, decide_eq_false (by omega)]) ?_
    refine wp_exit ?_
    show Q (.exit 8) A1 W1
    have hr : q = 4 := by have := I.le; omega
    subst hr
    exact hexit A1 W1 ⟨sz1, I.k.trans K1, Nat.le_refl _, y11, by rw [hW1]; exact I.w, by rw [hW1]; exact I.bl⟩
theorem loop5 {Q : Exit → Act → World → Prop} {N gm gw M cm at9 : Nat} {cur : Array Value} {V2 : World} {sH : S8} {bs : List UInt8} {A0 : Act} {W0 : World} {i : Nat} (hi : i < 16) (x10 : A0.eval (.tmp 10) = .int .i64 (i : Int)) (x9 : A0.eval (.tmp 9) = .slice (some ⟨gw, 0, none⟩) 64 64) (x5 : A0.eval (.tmp 5) = .slice (some ⟨gm, 0, none⟩) M cm) (x8 : A0.eval (.tmp 8) = .int .i64 (at9 : Int)) (hgm : gm < gw) (hg : N + 1 + 1 < gw) (lbs : bs.length = 64) (hat : at9 + 64 ≤ M) (hM : M ≤ 140737488355200) (hmb : ∀ (W : World) (k : Nat) (h : k < bs.length), W.heap[gm]? = some (.cells cur 5 (0, 0)) → W.cell? ⟨gm, at9 + k, none⟩ = some (.int .u8 ((bs[k]'h).toNat : Int)))
    (start : I5 N gm gw cur V2 sH bs i A0 A0 W0 0) (hexit : ∀ A W, I5 N gm gw cur V2 sH bs i A0 A W 4 → Q (.exit 8) A W) : Code.wp Tryd.prog (Code.loop body5) Q A0 W0 :=
  wp_loop (fun A W => ∃ q, I5 N gm gw cur V2 sH bs i A0 A W q) mu5 ⟨0, start⟩ (fun A W ⟨q, h⟩ => round5 hi x10 x9 x5 x8 hgm hg lbs hat hM hmb hexit A W q h)
end Go.Proofs.YthnciogaibhmcaaDoor

/- The words of a block: loop 4 of the reference's Sum, over a frame that is a letter. -/
namespace Go.Proofs.YthnciogaibhmcaaDoor
open Go.RowKit
set_option linter.unusedVariables false
set_option maxRecDepth 100000
/-- what the loop keeps -/
structure I4 (N gm gw : Nat) (cur : Array Value) (V2 : World) (sH : S8) (bs : List UInt8) (A0 A : Act) (W : World) (i : Nat) : Prop where
  sz : A.tmps.size = 288
  k : Keep A0 A L4
  le : i ≤ 16
  ix : A.eval (.tmp 10) = .int .i64 (i : Int)
  w : W.heap[gw]? = some (.cells (wvs (wordsZ bs (4 * i))) 101 (0, 0))
  bl : BL N gm cur V2 W sH
def mu4 (A : Act) (_ : World) : Nat := 16 - (intOf (A.eval (.tmp 10))).toNat
set_option maxHeartbeats 400000 in
theorem round4 {Q : Exit → Act → World → Prop} {N gm gw M cm at9 : Nat} {cur : Array Value} {V2 : World} {sH : S8} {bs : List UInt8} {A0 : Act} (x9 : A0.eval (.tmp 9) = .slice (some ⟨gw, 0, none⟩) 64 64) (x5 : A0.eval (.tmp 5) = .slice (some ⟨gm, 0, none⟩) M cm) (x8 : A0.eval (.tmp 8) = .int .i64 (at9 : Int)) (hgm : gm < gw) (hg : N + 1 + 1 < gw) (lbs : bs.length = 64) (hat : at9 + 64 ≤ M) (hM : M ≤ 140737488355200) (hmb : ∀ (W : World) (k : Nat) (h : k < bs.length), W.heap[gm]? = some (.cells cur 5 (0, 0)) → W.cell? ⟨gm, at9 + k, none⟩ = some (.int .u8 ((bs[k]'h).toNat : Int)))
    (hexit : ∀ A W, I4 N gm gw cur V2 sH bs A0 A W 16 → Q (.exit 6) A W) (A : Act) (W : World) (i : Nat) (I : I4 N gm gw cur V2 sH bs A0 A W i) :
    Code.wp Tryd.prog body4 (Exit.then (fun A' W' => (∃ i', I4 N gm gw cur V2 sH bs A0 A' W' i') ∧ mu4 A' W' < mu4 A W) Q) A W := by
  conv => arg 2; whnf
  refine wp_seq ?_
  refine wp_seq ?_
  refine wp_split _ (out17 A W i I.sz I.ix) ?_
  rintro A1 W1 ⟨⟨k1, c1⟩, hW1⟩
  show Code.wp _ _ _ A1 W1
  have K1 : Keep A A1 L4 := k1.mono (by decide)
  have sz1 : A1.tmps.size = 288 := K1.sz.trans I.sz
  have y10 : A1.eval (.tmp 10) = .int .i64 (i : Int) := (k1.keep 10 (by decide)).trans I.ix
  by_cases hlt : i < 16
  · refine wp_cond_true (by rw [c1, decide_eq_true (by omega)]) ?_
    refine wp_skip ?_
    show Code.wp _ _ _ A1 W1
    refine wp_seq ?_
    refine wp_block ?_
    refine wp_seq ?_
    refine wp_split _ (out19 A1 W1 sz1) ?_
    rintro A2 W2 ⟨⟨k2, c2⟩, hW2⟩
    show Code.wp _ _ _ A2 W2
    have K2 : Keep A1 A2 L4 := k2.mono (by decide)
    have y9 := (K2.keep 9 (by decide)).trans ((K1.keep 9 (by decide)).trans ((I.k.keep 9 (by decide)).trans x9))
    have y5 := (K2.keep 5 (by decide)).trans ((K1.keep 5 (by decide)).trans ((I.k.keep 5 (by decide)).trans x5))
    have y8 := (K2.keep 8 (by decide)).trans ((K1.keep 8 (by decide)).trans ((I.k.keep 8 (by decide)).trans x8))
    have z10 := (k2.keep 10 (by decide)).trans y10
    refine wp_block ?_
    refine loop5 hlt z10 y9 y5 y8 hgm hg lbs hat hM hmb ⟨K2.sz.trans sz1, Keep.refl _ _, Nat.zero_le _, c2, by rw [hW2, hW1]; exact I.w, by rw [hW2, hW1]; exact I.bl⟩ ?_
    intro A3 W3 I3
    show Code.wp _ _ _ A3 W3
    have K3 : Keep A2 A3 L4 := I3.k.mono (by decide)
    refine wp_split _ (out18 A3 W3 i (by omega) I3.sz ((I3.k.keep 10 (by decide)).trans z10)) ?_
    rintro A4 W4 ⟨⟨k4, c4⟩, hW4⟩
    show (∃ i', I4 N gm gw cur V2 sH bs A0 A4 W4 i') ∧ mu4 A4 W4 < mu4 A W
    have K4 : Keep A3 A4 L4 := k4.mono (by decide)
    refine ⟨⟨i + 1, ⟨K4.sz.trans I3.sz, I.k.trans (K1.trans (K2.trans (K3.trans K4))), by omega, c4, by rw [hW4]; exact I3.w, by rw [hW4]; exact I3.bl⟩⟩, ?_⟩
    unfold mu4
    rw [c4, I.ix]
    simp only [intOf]
    omega
  · refine wp_cond_false (by rw [c1, decide_eq_false (by omega)]) ?_
    refine wp_exit ?_
    show Q (.exit 6) A1 W1
    have hr : i = 16 := by have := I.le; omega
    subst hr
    exact hexit A1 W1 ⟨sz1, I.k.trans K1, Nat.le_refl _, y10, by rw [hW1]; exact I.w, by rw [hW1]; exact I.bl⟩
theorem loop4 {Q : Exit → Act → World → Prop} {N gm gw M cm at9 : Nat} {cur : Array Value} {V2 : World} {sH : S8} {bs : List UInt8} {A0 : Act} {W0 : World} (x9 : A0.eval (.tmp 9) = .slice (some ⟨gw, 0, none⟩) 64 64) (x5 : A0.eval (.tmp 5) = .slice (some ⟨gm, 0, none⟩) M cm) (x8 : A0.eval (.tmp 8) = .int .i64 (at9 : Int)) (hgm : gm < gw) (hg : N + 1 + 1 < gw) (lbs : bs.length = 64) (hat : at9 + 64 ≤ M) (hM : M ≤ 140737488355200) (hmb : ∀ (W : World) (k : Nat) (h : k < bs.length), W.heap[gm]? = some (.cells cur 5 (0, 0)) → W.cell? ⟨gm, at9 + k, none⟩ = some (.int .u8 ((bs[k]'h).toNat : Int)))
    (start : I4 N gm gw cur V2 sH bs A0 A0 W0 0) (hexit : ∀ A W, I4 N gm gw cur V2 sH bs A0 A W 16 → Q (.exit 6) A W) : Code.wp Tryd.prog (Code.loop body4) Q A0 W0 :=
  wp_loop (fun A W => ∃ i, I4 N gm gw cur V2 sH bs A0 A W i) mu4 ⟨0, start⟩ (fun A W ⟨i, h⟩ => round4 x9 x5 x8 hgm hg lbs hat hM hmb hexit A W i h)
end Go.Proofs.YthnciogaibhmcaaDoor

/- The blocks: loop 3 of the reference's Sum, over a frame that is a letter. -/
namespace Go.Proofs.YthnciogaibhmcaaDoor
open Go.RowKit
set_option linter.unusedVariables false
set_option maxRecDepth 100000
theorem y_lenS {ops : Array Oper} {S : World → Prop} {op : Oper} {a : Act} (hw : Region.wanted op (yielded ops a.tmps) = true) (t : Nat) (ho : op.op = .call { callee := .builtin .len, args := #[.tmp t], argTypes := #[84] }) (ht : op.type = 3) (ad : Option Addr) (n c : Nat) (hx : a.eval (.tmp t) = .slice ad n c) : YieldsIf Tryd.prog ops S op (.int .i64 (n : Int)) a := by
  refine .inl ⟨hw, fun w _ => ?_⟩
  have hx' : a.tmps[t]?.getD undef = .slice ad n c := by simpa [Act.eval] using hx
  unfold execOp
  simp only [ho, ht]
  simp [go_sem, hx']
theorem wpList_make64 {ops : Array Oper} {rest : List Oper} {o : Oper} {a : Act} {w : World} {Q : Exit → Act → World → Prop} (hg : o.guard = none) (ho : o.op = .makeSlice 113 (.const (.int .i64 64)) (.const (.int .i64 64)))
    (h : wpList Tryd.prog ops Q rest (a.put o.dst (.slice (some ⟨w.heap.size, 0, none⟩) 64 64)) (w.alloc (.cells (wvs (List.replicate 64 0)) 101))) : wpList Tryd.prog ops Q (o :: rest) a w := by
  obtain ⟨i0, hi, hz0, hz1, hz2⟩ := info_parts Tryd.info101
  refine wpList_plain hg fun K hK => ?_
  unfold Oper.wp execOp
  have hm := run_make (P := Tryd.prog) w 113 101 i0 (.int .u32 0) Tryd.underlying113 hi hz0 .i64 .i64 64 64 (by omega) (by omega) (by rw [hz2]; omega) (by omega)
  rw [show (64 : Int).toNat = 64 from rfl, hz1, Nat.mul_one, made_words] at hm
  simp only [ho, Act.eval, Sem.run_bind, hm, Result.andThen_ok, Sem.run_pure, go_sem]
  exact hK _ _ h
noncomputable def code13 : Code := ((Tryd.f66.body.bind (regionAt 13)).getD .skip)
theorem out13 (A : Act) (W : World) (r gm M cm : Nat) (sz : A.tmps.size = 288) (x8 : A.eval (.tmp 8) = .int .i64 (r : Int)) (x5 : A.eval (.tmp 5) = .slice (some ⟨gm, 0, none⟩) M cm) :
    Code.wp Tryd.prog code13 (fun ex A' W' => ex = .normal ∧ ((Keep A A' [56, 57, 58, 59] ∧ A'.eval (.tmp 59) = .bool (decide ((r : Int) < (M : Int)))) ∧ W' = W)) A W := by
  conv => arg 2; whnf
  refine wp_region_list ?_
  refine wpList_yields rfl (.int .i64 (r : Int)) (yields_move (by simp [Region.wanted]) (.tmp 8) rfl _ x8) ?_
  refine wpList_yields rfl (.slice (some ⟨gm, 0, none⟩) M cm) (yields_move (by simp [Region.wanted]) (.tmp 5) rfl _ ((ev_ne _ _ (by decide)).trans x5)) ?_
  refine wpList_yields rfl (.int .i64 (M : Int)) (y_lenS (by simp [Region.wanted]) 57 rfl rfl _ _ _ (ev_eq _ _ (by simp only [put_sz]; rw [sz]; decide))) ?_
  refine wpList_yields rfl (.bool (decide ((r : Int) < (M : Int)))) (y_lss (by simp [Region.wanted]) (.tmp 56) (.tmp 58) rfl (r : Int) (M : Int) ((ev_ne _ _ (by decide)).trans ((ev_ne _ _ (by decide)).trans (ev_eq _ _ (by rw [sz]; decide)))) (ev_eq _ _ (by simp only [put_sz]; rw [sz]; decide))) ?_
  exact wpList_nil ⟨rfl, ⟨((((Keep.refl A _).put 56 _ (by decide)).put 57 _ (by decide)).put 58 _ (by decide)).put 59 _ (by decide), ev_eq _ _ (by simp only [put_sz]; rw [sz]; decide)⟩, rfl⟩
noncomputable def code14 : Code := ((Tryd.f66.body.bind (regionAt 14)).getD .skip)
theorem out14 (A : Act) (W : World) (r : Nat) (hr : r ≤ 140737488355200) (sz : A.tmps.size = 288) (x8 : A.eval (.tmp 8) = .int .i64 (r : Int)) :
    Code.wp Tryd.prog code14 (fun ex A' W' => ex = .normal ∧ ((Keep A A' [8, 60, 61] ∧ A'.eval (.tmp 8) = .int .i64 ((r + 64 : Nat) : Int)) ∧ W' = W)) A W := by
  conv => arg 2; whnf
  refine wp_region_list ?_
  refine wpList_yields rfl (.int .i64 (r : Int)) (yields_move (by simp [Region.wanted]) (.tmp 8) rfl _ x8) ?_
  refine wpList_yields rfl (.int .i64 ((r + 64 : Nat) : Int)) (y_addi (by simp [Region.wanted]) (.tmp 60) (.const (.int .i64 64)) rfl (r : Int) 64 _ (ev_eq _ _ (by rw [sz]; decide)) rfl (by rw [IntKind.wrap_i64]; omega)) ?_
  refine wpList_yields rfl (.int .i64 ((r + 64 : Nat) : Int)) (yh_assign (by simp [Region.wanted]) (.tmp 61) rfl _ (ev_eq _ _ (by simp only [put_sz]; rw [sz]; decide))) ?_
  exact wpList_nil ⟨rfl, ⟨(((Keep.refl A _).put 60 _ (by decide)).put 61 _ (by decide)).put 8 _ (by decide), ev_eq _ _ (by simp only [put_sz]; rw [sz]; decide)⟩, rfl⟩
noncomputable def code15 : Code := ((Tryd.f66.body.bind (regionAt 15)).getD .skip)
theorem out15 (A : Act) (W : World) (sz : A.tmps.size = 288) :
    Code.wp Tryd.prog code15 (fun ex A' W' => ex = .normal ∧ ((Keep A A' [9, 62] ∧ A'.eval (.tmp 9) = .slice (some ⟨W.heap.size, 0, none⟩) 64 64) ∧ W' = W.alloc (.cells (wvs (List.replicate 64 0)) 101))) A W := by
  conv => arg 2; whnf
  refine wp_region_list ?_
  refine wpList_make64 rfl rfl ?_
  refine wpList_yields rfl (.slice (some ⟨W.heap.size, 0, none⟩) 64 64) (yh_assign (by simp [Region.wanted]) (.tmp 62) rfl _ (ev_eq _ _ (by rw [sz]; decide))) ?_
  exact wpList_nil ⟨rfl, ⟨((Keep.refl A _).put 62 _ (by decide)).put 9 _ (by decide), ev_eq _ _ (by simp only [put_sz]; rw [sz]; decide)⟩, rfl⟩
noncomputable def code29 : Code := ((Tryd.f66.body.bind (regionAt 29)).getD .skip)
theorem out29 (A : Act) (W : World) (N : Nat) (sH : S8) (sz : A.tmps.size = 288) (x15 : A.eval (.tmp 15) = .slice none 0 0) (x3 : A.eval (.tmp 3) = .slice (some ⟨N + 1, 0, none⟩) 8 8) (hh : W.heap[N + 1]? = some (.cells sH.vals 101 (0, 0))) :
    Code.wp Tryd.prog code29 (fun ex A' W' => ex = .normal ∧ (Keep A A' [15, 136, 137, 138] ∧ ∃ gv cv, A'.eval (.tmp 15) = .slice (some ⟨gv, 0, none⟩) 8 cv ∧ W.heap.size ≤ gv ∧ VW W' gv sH ∧ Below W.heap.size W W')) A W := by
  have hc : ∀ q (h : q < sH.toL.length), W.cell? ((⟨N + 1, 0, none⟩ : Addr).add q) = some (vw sH.toL[q]) := fun q hq => by
    rw [addr_add, Nat.zero_add, cell_of_row _ _ _ _ _ _ hh, vals_get sH q hq]
  conv => arg 2; whnf
  refine wp_region_list ?_
  refine wpList_yields rfl (.slice none 0 0) (yields_move (by simp [Region.wanted]) (.tmp 15) rfl _ x15) ?_
  refine wpList_yields rfl (.slice (some ⟨N + 1, 0, none⟩) 8 8) (yields_move (by simp [Region.wanted]) (.tmp 3) rfl _ ((ev_ne _ _ (by decide)).trans x3)) ?_
  refine app_words _ rfl (.tmp 136) (.tmp 137) rfl W.heap.size (.slice none 0 0) [] ((ev_ne _ _ (by decide)).trans (ev_eq _ _ (by rw [sz]; decide))) (World.ownsRow_nil _ _ _ _) ⟨N + 1, 0, none⟩ 8 8 sH.toL rfl (ev_eq _ _ (by simp only [put_sz]; rw [sz]; decide)) hc (by simp) (Nat.le_refl _) ?_
  intro v5 w5 ho5 hb5
  obtain ⟨gv, cv, rfl, hgv, hvc⟩ := vrow_of ho5
  refine wpList_yields rfl (.slice (some ⟨gv, 0, none⟩) 8 cv) (yh_assign (by simp [Region.wanted]) (.tmp 138) rfl _ (ev_eq _ _ (by simp only [put_sz]; rw [sz]; decide))) ?_
  exact wpList_nil ⟨rfl, ((((Keep.refl A _).put 136 _ (by decide)).put 137 _ (by decide)).put 138 _ (by decide)).put 15 _ (by decide), gv, cv, ev_eq _ _ (by simp only [put_sz]; rw [sz]; decide), hgv, hvc, hb5⟩
noncomputable def code16 : Code := ((Tryd.f66.body.bind (regionAt 16)).getD .skip)
theorem out16 (A : Act) (W : World) (sz : A.tmps.size = 288) :
    Code.wp Tryd.prog code16 (fun ex A' W' => ex = .normal ∧ ((Keep A A' [10] ∧ A'.eval (.tmp 10) = .int .i64 ((0 : Nat) : Int)) ∧ W' = W)) A W := by
  conv => arg 2; whnf
  refine wp_region_list ?_
  refine wpList_yields rfl (.int .i64 ((0 : Nat) : Int)) (yh_assign (by simp [Region.wanted]) (.const (.int .i64 0)) rfl _ rfl) ?_
  exact wpList_nil ⟨rfl, ⟨(Keep.refl A _).put 10 _ (by decide), ev_eq _ _ (by rw [sz]; decide)⟩, rfl⟩
noncomputable def code23 : Code := ((Tryd.f66.body.bind (regionAt 23)).getD .skip)
theorem out23 (A : Act) (W : World) (sz : A.tmps.size = 288) :
    Code.wp Tryd.prog code23 (fun ex A' W' => ex = .normal ∧ ((Keep A A' [12] ∧ A'.eval (.tmp 12) = .int .i64 ((16 : Nat) : Int)) ∧ W' = W)) A W := by
  conv => arg 2; whnf
  refine wp_region_list ?_
  refine wpList_yields rfl (.int .i64 ((16 : Nat) : Int)) (yh_assign (by simp [Region.wanted]) (.const (.int .i64 16)) rfl _ rfl) ?_
  exact wpList_nil ⟨rfl, ⟨(Keep.refl A _).put 12 _ (by decide), ev_eq _ _ (by rw [sz]; decide)⟩, rfl⟩
noncomputable def code28 : Code := ((Tryd.f66.body.bind (regionAt 28)).getD .skip)
theorem out28 (A : Act) (W : World) (sz : A.tmps.size = 288) :
    Code.wp Tryd.prog code28 (fun ex A' W' => ex = .normal ∧ ((Keep A A' [15] ∧ A'.eval (.tmp 15) = .slice none 0 0) ∧ W' = W)) A W := by
  conv => arg 2; whnf
  refine wp_region_list ?_
  refine wpList_yields rfl (.slice none 0 0) (yh_assign (by simp [Region.wanted]) (.const (.slice none 0 0)) rfl _ rfl) ?_
  exact wpList_nil ⟨rfl, ⟨(Keep.refl A _).put 15 _ (by decide), ev_eq _ _ (by rw [sz]; decide)⟩, rfl⟩
noncomputable def code30 : Code := ((Tryd.f66.body.bind (regionAt 30)).getD .skip)
theorem out30 (A : Act) (W : World) (sz : A.tmps.size = 288) :
    Code.wp Tryd.prog code30 (fun ex A' W' => ex = .normal ∧ ((Keep A A' [16] ∧ A'.eval (.tmp 16) = .int .i64 ((0 : Nat) : Int)) ∧ W' = W)) A W := by
  conv => arg 2; whnf
  refine wp_region_list ?_
  refine wpList_yields rfl (.int .i64 ((0 : Nat) : Int)) (yh_assign (by simp [Region.wanted]) (.const (.int .i64 0)) rfl _ rfl) ?_
  exact wpList_nil ⟨rfl, ⟨(Keep.refl A _).put 16 _ (by decide), ev_eq _ _ (by rw [sz]; decide)⟩, rfl⟩
noncomputable def code39 : Code := ((Tryd.f66.body.bind (regionAt 39)).getD .skip)
theorem out39 (A : Act) (W : World) (sz : A.tmps.size = 288) :
    Code.wp Tryd.prog code39 (fun ex A' W' => ex = .normal ∧ ((Keep A A' [22] ∧ A'.eval (.tmp 22) = .int .i64 ((0 : Nat) : Int)) ∧ W' = W)) A W := by
  conv => arg 2; whnf
  refine wp_region_list ?_
  refine wpList_yields rfl (.int .i64 ((0 : Nat) : Int)) (yh_assign (by simp [Region.wanted]) (.const (.int .i64 0)) rfl _ rfl) ?_
  exact wpList_nil ⟨rfl, ⟨(Keep.refl A _).put 22 _ (by decide), ev_eq _ _ (by rw [sz]; decide)⟩, rfl⟩

noncomputable def body3 : Code := ((Tryd.f66.body.bind (loopAt 15)).getD .skip)
/-- the slots that stay through the blocks -/
structure Four (N gm M cm : Nat) (A0 A : Act) : Prop where
  sz : A.tmps.size = 288
  df : A.defers = A0.defers
  x2 : A.eval (.tmp 2) = A0.eval (.tmp 2)
  x3 : A.eval (.tmp 3) = .slice (some ⟨N + 1, 0, none⟩) 8 8
  x4 : A.eval (.tmp 4) = .slice (some ⟨N + 1 + 1, 0, none⟩) 64 64
  x5 : A.eval (.tmp 5) = .slice (some ⟨gm, 0, none⟩) M cm
theorem Four.keep {N gm M cm : Nat} {A0 A B : Act} {L : List Nat} (h : Four N gm M cm A0 A) (k : Keep A B L) (h2 : 2 ∉ L ∧ 3 ∉ L ∧ 4 ∉ L ∧ 5 ∉ L) : Four N gm M cm A0 B :=
  ⟨k.sz.trans h.sz, k.df.trans h.df, (k.keep 2 h2.1).trans h.x2, (k.keep 3 h2.2.1).trans h.x3, (k.keep 4 h2.2.2.1).trans h.x4, (k.keep 5 h2.2.2.2).trans h.x5⟩
/-- what the loop keeps -/
structure I3 (N gm M cm : Nat) (cur : Array Value) (V2 : World) (m : List UInt8) (A0 A : Act) (W : World) (j : Nat) : Prop where
  f : Four N gm M cm A0 A
  le : 64 * j ≤ M
  ix : A.eval (.tmp 8) = .int .i64 ((64 * j : Nat) : Int)
  bl : BL N gm cur V2 W (blks init (m.take (64 * j)))
def mu3 (M : Nat) (A : Act) (_ : World) : Nat := M - (intOf (A.eval (.tmp 8))).toNat
set_option maxHeartbeats 1000000 in
theorem round3 {Q : Exit → Act → World → Prop} {N gm M cm : Nat} {cur : Array Value} {V2 : World} {m : List UInt8} {A0 : Act} (hM : M = m.length) (hM0 : M % 64 = 0) (hM1 : M ≤ 140737488355200) (hgm : N + 1 + 1 < gm)
    (hmb : ∀ (W : World) (i : Nat) (hi : i < m.length), W.heap[gm]? = some (.cells cur 5 (0, 0)) → W.cell? ⟨gm, i, none⟩ = some (.int .u8 ((m[i]'hi).toNat : Int)))
    (hexit : ∀ A W j, I3 N gm M cm cur V2 m A0 A W j → 64 * j = M → Q (.exit 4) A W) (A : Act) (W : World) (j : Nat) (I : I3 N gm M cm cur V2 m A0 A W j) :
    Code.wp Tryd.prog body3 (Exit.then (fun A' W' => (∃ j', I3 N gm M cm cur V2 m A0 A' W' j') ∧ mu3 M A' W' < mu3 M A W) Q) A W := by
  conv => arg 2; whnf
  refine wp_seq ?_
  refine wp_seq ?_
  refine wp_split _ (out13 A W (64 * j) gm M cm I.f.sz I.ix I.f.x5) ?_
  rintro A1 W1 ⟨⟨k1, c1⟩, hW1⟩
  show Code.wp _ _ _ A1 W1
  have F1 := I.f.keep k1 (by decide)
  have y8 := (k1.keep 8 (by decide)).trans I.ix
  have hbl1 : BL N gm cur V2 W1 (blks init (m.take (64 * j))) := by rw [hW1]; exact I.bl
  have hle := I.le
  by_cases hlt : 64 * j < M
  · refine wp_cond_true (by rw [c1, decide_eq_true (by omega)]) ?_
    refine wp_skip ?_
    show Code.wp _ _ _ A1 W1
    refine wp_seq ?_
    refine wp_block ?_
    refine wp_seq ?_
    obtain ⟨sH, hsH⟩ : ∃ sH, sH = blks init (m.take (64 * j)) := ⟨_, rfl⟩
    rw [← hsH] at hbl1
    obtain ⟨bs, hbs⟩ : ∃ bs, bs = (m.drop (64 * j)).take 64 := ⟨_, rfl⟩
    have lbs : bs.length = 64 := by rw [hbs]; simp; omega
    have Hbs : ∀ (i : Nat) (hi : i < bs.length), ∃ h1, m[64 * j + i]'h1 = bs[i]'hi := fun i hi => ⟨by omega, by simp [hbs]⟩
    have Hcmp : blks init (m.take (64 * (j + 1))) = comp sH bs := by
      have e : m.take (64 * (j + 1)) = m.take (64 * j) ++ bs := by rw [hbs, show 64 * (j + 1) = 64 * j + 64 by omega, List.take_add]
      rw [e, blks_append _ _ _ (by simp; omega), blks_one _ _ lbs, ← hsH]
    have hmb' : ∀ (W : World) (k : Nat) (h : k < bs.length), W.heap[gm]? = some (.cells cur 5 (0, 0)) → W.cell? ⟨gm, 64 * j + k, none⟩ = some (.int .u8 ((bs[k]'h).toNat : Int)) := fun W k h hW => by
      obtain ⟨h1, h2⟩ := Hbs k h
      rw [hmb W (64 * j + k) h1 hW, h2]
    refine wp_split _ (out15 A1 W1 F1.sz) ?_
    rintro A2 W2 ⟨⟨k2, c2⟩, hW2⟩
    show Code.wp _ _ _ A2 W2
    have F2 := F1.keep k2 (by decide)
    have y8_2 := (k2.keep 8 (by decide)).trans y8
    obtain ⟨gw, hgw⟩ : ∃ gw, gw = W1.heap.size := ⟨_, rfl⟩
    rw [← hgw] at c2
    have hw2 : W2.heap[gw]? = some (.cells (wvs (wordsZ bs (4 * 0))) 101 (0, 0)) := by rw [hW2, hgw, Nat.mul_zero, wordsZ_zero]; exact heap_alloc_new W1 _
    have hbl2 : BL N gm cur V2 W2 sH := by rw [hW2]; exact hbl1.alloc _
    have hgm1 : gm < gw := by rw [hgw]; exact heap_lt hbl1.m
    have hgk1 : N + 1 + 1 < gw := by rw [hgw]; exact heap_lt hbl1.k
    refine wp_seq ?_
    refine wp_seq ?_
    refine wp_split _ (out16 A2 W2 F2.sz) ?_
    rintro A3 W3 ⟨⟨k3, c3⟩, hW3⟩
    show Code.wp _ _ _ A3 W3
    have F3 := F2.keep k3 (by decide)
    have y8_3 := (k3.keep 8 (by decide)).trans y8_2
    have y9_3 := (k3.keep 9 (by decide)).trans c2
    refine wp_block ?_
    refine loop4 y9_3 F3.x5 y8_3 hgm1 hgk1 lbs (by omega) hM1 hmb' ⟨F3.sz, Keep.refl _ _, Nat.zero_le _, c3, by rw [hW3]; exact hw2, by rw [hW3]; exact hbl2⟩ ?_
    intro A4 W4 I4
    show Code.wp _ _ _ A4 W4
    have F4 := F3.keep I4.k (by decide)
    have y8_4 := (I4.k.keep 8 (by decide)).trans y8_3
    have y9_4 := (I4.k.keep 9 (by decide)).trans y9_3
    refine wp_seq ?_
    refine wp_seq ?_
    refine wp_split _ (out23 A4 W4 F4.sz) ?_
    rintro A5 W5 ⟨⟨k5, c5⟩, hW5⟩
    show Code.wp _ _ _ A5 W5
    have F5 := F4.keep k5 (by decide)
    have y8_5 := (k5.keep 8 (by decide)).trans y8_4
    have y9_5 := (k5.keep 9 (by decide)).trans y9_4
    refine wp_block ?_
    refine loop6 (bs := bs) y9_5 hgm1 hgk1 ⟨F5.sz, Keep.refl _ _, Nat.le_refl _, by decide, c5, by rw [hW5]; exact I4.w, by rw [hW5]; exact I4.bl⟩ ?_
    intro A6 W6 I6
    show Code.wp _ _ _ A6 W6
    have F6 := F5.keep I6.k (by decide)
    have y8_6 := (I6.k.keep 8 (by decide)).trans y8_5
    have y9_6 := (I6.k.keep 9 (by decide)).trans y9_5
    have hsc6 : W6.heap[gw]? = some (.cells (wvs (sched bs)) 101 (0, 0)) := by
      have h := I6.w
      rw [extZ_all] at h
      exact h
    refine wp_seq ?_
    refine wp_split _ (out28 A6 W6 F6.sz) ?_
    rintro A7 W7 ⟨⟨k7, c7⟩, hW7⟩
    show Code.wp _ _ _ A7 W7
    have F7 := F6.keep k7 (by decide)
    have y8_7 := (k7.keep 8 (by decide)).trans y8_6
    have y9_7 := (k7.keep 9 (by decide)).trans y9_6
    have hbl7 : BL N gm cur V2 W7 sH := by rw [hW7]; exact I6.bl
    have hsc7 : W7.heap[gw]? = some (.cells (wvs (sched bs)) 101 (0, 0)) := by rw [hW7]; exact hsc6
    refine wp_seq ?_
    refine wp_split _ (out29 A7 W7 N sH F7.sz c7 F7.x3 hbl7.h) ?_
    rintro A8 W8 ⟨k8, gv, cv, c8, hgv, hv8, hb8⟩
    show Code.wp _ _ _ A8 W8
    have F8 := F7.keep k8 (by decide)
    have y8_8 := (k8.keep 8 (by decide)).trans y8_7
    have y9_8 := (k8.keep 9 (by decide)).trans y9_7
    have hbl8 : BL N gm cur V2 W8 sH := hbl7.below hb8
    have hsc8 : W8.heap[gw]? = some (.cells (wvs (sched bs)) 101 (0, 0)) := (hb8.block _ (heap_lt hsc7)).trans hsc7
    have hgv' : N + 1 < gv := Nat.lt_of_lt_of_le (heap_lt hbl7.h) hgv
    refine wp_seq ?_
    refine wp_seq ?_
    refine wp_split _ (out30 A8 W8 F8.sz) ?_
    rintro A9 W9 ⟨⟨k9, c9⟩, hW9⟩
    show Code.wp _ _ _ A9 W9
    have F9 := F8.keep k9 (by decide)
    have y8_9 := (k9.keep 8 (by decide)).trans y8_8
    have y9_9 := (k9.keep 9 (by decide)).trans y9_8
    refine wp_block ?_
    refine loop7 (gm := gm) (cur := cur) (V2 := V2) (sH := sH) (bs := bs) F9.x4 y9_9 ⟨F9.sz, rfl, fun _ _ _ => rfl, by decide, c9, ⟨gv, cv, (k9.keep 15 (by decide)).trans c8, hgv', by rw [hW9]; exact hv8⟩, by rw [hW9]; exact hsc8, by rw [hW9]; exact hbl8⟩ ?_
    intro A10 W10 I7
    show Code.wp _ _ _ A10 W10
    obtain ⟨gv', cv', c10, hg10, hv10⟩ := I7.v
    have F10 : Four N gm M cm A0 A10 := ⟨I7.sz, I7.df.trans F9.df, (I7.keep 2 (by decide) (by decide)).trans F9.x2, (I7.keep 3 (by decide) (by decide)).trans F9.x3, (I7.keep 4 (by decide) (by decide)).trans F9.x4, (I7.keep 5 (by decide) (by decide)).trans F9.x5⟩
    have y8_10 := (I7.keep 8 (by decide) (by decide)).trans y8_9
    rw [rds_all] at hv10
    refine wp_seq ?_
    refine wp_split _ (out39 A10 W10 F10.sz) ?_
    rintro A11 W11 ⟨⟨k11, c11⟩, hW11⟩
    show Code.wp _ _ _ A11 W11
    have F11 := F10.keep k11 (by decide)
    have y8_11 := (k11.keep 8 (by decide)).trans y8_10
    refine wp_block ?_
    refine loop8 (gm := gm) (cur := cur) (V2 := V2) (sH := sH) F11.x3 ((k11.keep 15 (by decide)).trans c10) hg10 (by omega) ⟨F11.sz, Keep.refl _ _, by decide, c11, by rw [hW11]; exact hv10, by rw [hW11, mix8_zero]; exact I7.bl⟩ ?_
    intro A12 W12 I8
    show Code.wp _ _ _ A12 W12
    have F12 := F11.keep I8.k (by decide)
    have y8_12 := (I8.k.keep 8 (by decide)).trans y8_11
    refine wp_split _ (out14 A12 W12 (64 * j) (by omega) F12.sz y8_12) ?_
    rintro A13 W13 ⟨⟨k13, c13⟩, hW13⟩
    show (∃ j', I3 N gm M cm cur V2 m A0 A13 W13 j') ∧ mu3 M A13 W13 < mu3 M A W
    refine ⟨⟨j + 1, ⟨F12.keep k13 (by decide), by omega, c13, ?_⟩⟩, ?_⟩
    · rw [hW13, Hcmp]
      have h := I8.bl
      rw [mix8_all] at h
      exact h
    · unfold mu3
      rw [c13, I.ix]
      simp only [intOf]
      omega
  · refine wp_cond_false (by rw [c1, decide_eq_false (by omega)]) ?_
    refine wp_exit ?_
    show Q (.exit 4) A1 W1
    exact hexit A1 W1 j ⟨F1, hle, y8, by rw [hW1]; exact I.bl⟩ (by omega)
theorem loop3 {Q : Exit → Act → World → Prop} {N gm M cm : Nat} {cur : Array Value} {V2 : World} {m : List UInt8} {A0 : Act} {W0 : World} (hM : M = m.length) (hM0 : M % 64 = 0) (hM1 : M ≤ 140737488355200) (hgm : N + 1 + 1 < gm)
    (hmb : ∀ (W : World) (i : Nat) (hi : i < m.length), W.heap[gm]? = some (.cells cur 5 (0, 0)) → W.cell? ⟨gm, i, none⟩ = some (.int .u8 ((m[i]'hi).toNat : Int)))
    (start : I3 N gm M cm cur V2 m A0 A0 W0 0) (hexit : ∀ A W j, I3 N gm M cm cur V2 m A0 A W j → 64 * j = M → Q (.exit 4) A W) : Code.wp Tryd.prog (Code.loop body3) Q A0 W0 :=
  wp_loop (fun A W => ∃ j, I3 N gm M cm cur V2 m A0 A W j) (mu3 M) ⟨0, start⟩ (fun A W ⟨j, h⟩ => round3 hM hM0 hM1 hgm hmb hexit A W j h)
end Go.Proofs.YthnciogaibhmcaaDoor

/- The bytes of the state: loop 9 of the reference's Sum, over a frame that is a letter. -/
namespace Go.Proofs.YthnciogaibhmcaaDoor
open Go.RowKit
set_option linter.unusedVariables false
set_option maxRecDepth 100000
theorem ev_none (a : Act) (v : Value) (x : Operand) : (a.put none v).eval x = a.eval x := by cases x <;> rfl
theorem wpList_yieldsS {ops : Array Oper} {rest : List Oper} {o : Oper} {a : Act} {w : World} {Q : Exit → Act → World → Prop} {S : World → Prop} (hg : o.guard = none) (v : Value) (hy : YieldsIf Tryd.prog ops S o v a) (hs : S w) (h : wpList Tryd.prog ops Q rest (a.put o.dst v) w) : wpList Tryd.prog ops Q (o :: rest) a w := by
  rcases hy with ⟨_, hr⟩ | ⟨hn, _⟩
  · refine wpList_plain hg fun K hK => ?_
    unfold Oper.wp
    rw [hr w hs, Oper.upon_value]
    exact hK _ _ h
  · exact absurd hn (by simp [Region.wanted, hg])
section
variable {ops : Array Oper} {S : World → Prop} {op : Oper} {a : Act}
theorem y_quo4 (hw : Region.wanted op (yielded ops a.tmps) = true) (x y : Operand) (ho : op.op = .binOp .quo 3 x y 3) (i : Nat) (hi : i < 32) (hx : a.eval x = .int .i64 (i : Int)) (hy : a.eval y = .int .i64 4) : YieldsIf Tryd.prog ops S op (.int .i64 ((i / 4 : Nat) : Int)) a := by
  refine .inl ⟨hw, fun w _ => ?_⟩
  have h1 : IntKind.i64.wrap ((i : Int).tdiv 4) = ((i / 4 : Nat) : Int) := by rw [IntKind.wrap_i64, Int.tdiv_eq_ediv_of_nonneg (by omega)]; omega
  rw [← h1]
  unfold execOp
  simp only [ho, hx, hy]
  simp [go_sem]
theorem y_rem4 (hw : Region.wanted op (yielded ops a.tmps) = true) (x y : Operand) (ho : op.op = .binOp .rem 3 x y 3) (i : Nat) (hi : i < 32) (hx : a.eval x = .int .i64 (i : Int)) (hy : a.eval y = .int .i64 4) : YieldsIf Tryd.prog ops S op (.int .i64 ((i % 4 : Nat) : Int)) a := by
  refine .inl ⟨hw, fun w _ => ?_⟩
  have h1 : (i : Int).tmod 4 = ((i % 4 : Nat) : Int) := by rw [Int.tmod_eq_emod_of_nonneg (by omega)]; omega
  rw [← h1]
  unfold execOp
  simp only [ho, hx, hy]
  simp [go_sem]
theorem y_shrI (hw : Region.wanted op (yielded ops a.tmps) = true) (x y : Operand) (ho : op.op = .binOp .shr 101 x y 3) (p : W32) (n : Nat) (hn : n < 32) (hx : a.eval x = vw p) (hy : a.eval y = .int .i64 (n : Int)) : YieldsIf Tryd.prog ops S op (vw (p >>> n)) a := by
  refine .inl ⟨hw, fun w _ => ?_⟩
  unfold execOp
  simp only [ho, hx, hy]
  simp [go_sem]
  first
    | exact (Int.shiftRight_eq_div_pow _ _).symm
    | (rw [Int.shiftRight_eq_div_pow]; norm_cast)
theorem y_byteW (hw : Region.wanted op (yielded ops a.tmps) = true) (x : Operand) (ho : op.op = .convert 101 5 x) (p : W32) (hx : a.eval x = vw p) : YieldsIf Tryd.prog ops S op (.int .u8 ((UInt8.ofNat p.toNat).toNat : Int)) a := by
  refine .inl ⟨hw, fun w hS9 => ?_⟩
  have h1 : IntKind.u8.wrap (p.toNat : Int) = ((UInt8.ofNat p.toNat).toNat : Int) := by
    rw [IntKind.wrap_u8]; simp
  rw [← h1]
  unfold execOp
  simp only [ho, hx]
  simp [go_sem]
theorem y_indexH (hw : Region.wanted op (yielded ops a.tmps) = true) (x y : Operand) (ho : op.op = .indexAddr 49 x y) (g k : Nat) (hx : a.eval x = .pointer (some ⟨g, 0, none⟩)) (hy : a.eval y = .int .i64 (k : Int)) (hk : k < 32) : YieldsIf Tryd.prog ops S op (.pointer (some ⟨g, k, none⟩)) a := by
  refine .inl ⟨hw, fun w _ => ?_⟩
  have h1 : (k : Int) < 32 := by omega
  have h0 : (0 : Int) ≤ (k : Int) := by omega
  unfold execOp
  simp only [ho, hx, hy]
  simp [go_sem, h0, h1]
end
theorem wpList_storeB {ops : Array Oper} {rest : List Oper} {o : Oper} {a : Act} {w : World} {Q : Exit → Act → World → Prop} (hg : o.guard = none) (x y : Operand) (ho : o.op = .store 5 x y) (g i : Nat) (v : UInt8) (u : Value) (hx : a.eval x = .pointer (some ⟨g, i, none⟩)) (hy : a.eval y = .int .u8 (v.toNat : Int))
    (hc : w.cell? ⟨g, i, none⟩ = some u) (hf : w.frozen? ⟨g, i, none⟩ = false) (h : wpList Tryd.prog ops Q rest (a.put o.dst undef) (w.setCell ⟨g, i, none⟩ (.int .u8 (v.toNat : Int)))) : wpList Tryd.prog ops Q (o :: rest) a w := by
  refine wpList_plain hg fun K hK => ?_
  unfold Oper.wp execOp
  simp only [ho, hx, hy]
  simp [go_sem, hc, hf]
  exact hK _ _ h
abbrev L9 : List Nat := [24, 270, 271, 272, 273, 274, 275, 276, 277, 278, 279, 280, 281, 282, 283, 284, 285, 286]
noncomputable def code43 : Code := ((Tryd.f66.body.bind (regionAt 43)).getD .skip)
theorem out43 (A : Act) (W : World) (Z : Array Value) (hz : ∀ w, (zeroValue 49).run Tryd.prog w = .ok (.agg Z) w) (sz : A.tmps.size = 288) :
    Code.wp Tryd.prog code43 (fun ex A' W' => ex = .normal ∧ ((Keep A A' [23] ∧ A'.eval (.tmp 23) = .pointer (some ⟨W.heap.size, 0, none⟩)) ∧ W' = W.alloc (.cells Z 49))) A W := by
  conv => arg 2; whnf
  refine wp_region_list ?_
  refine wpList_alloc_row rfl 49 rfl Z hz ?_
  exact wpList_nil ⟨rfl, ⟨(Keep.refl A _).put 23 _ (by decide), ev_eq _ _ (by rw [sz]; decide)⟩, rfl⟩
noncomputable def code45 : Code := ((Tryd.f66.body.bind (regionAt 45)).getD .skip)
theorem out45 (A : Act) (W : World) (r : Nat) (sz : A.tmps.size = 288) (x24 : A.eval (.tmp 24) = .int .i64 (r : Int)) :
    Code.wp Tryd.prog code45 (fun ex A' W' => ex = .normal ∧ ((Keep A A' [270, 271] ∧ A'.eval (.tmp 271) = .bool (decide ((r : Int) < 32))) ∧ W' = W)) A W := by
  conv => arg 2; whnf
  refine wp_region_list ?_
  refine wpList_yields rfl (.int .i64 (r : Int)) (yields_move (by simp [Region.wanted]) (.tmp 24) rfl _ x24) ?_
  refine wpList_yields rfl (.bool (decide ((r : Int) < 32))) (y_lss (by simp [Region.wanted]) (.tmp 270) (.const (.int .i64 32)) rfl (r : Int) 32 (ev_eq _ _ (by rw [sz]; decide)) rfl) ?_
  exact wpList_nil ⟨rfl, ⟨((Keep.refl A _).put 270 _ (by decide)).put 271 _ (by decide), ev_eq _ _ (by simp only [put_sz]; rw [sz]; decide)⟩, rfl⟩
noncomputable def code46 : Code := ((Tryd.f66.body.bind (regionAt 46)).getD .skip)
theorem out46 (A : Act) (W : World) (r : Nat) (hr : r < 64) (sz : A.tmps.size = 288) (x24 : A.eval (.tmp 24) = .int .i64 (r : Int)) :
    Code.wp Tryd.prog code46 (fun ex A' W' => ex = .normal ∧ ((Keep A A' [24, 272, 273] ∧ A'.eval (.tmp 24) = .int .i64 ((r + 1 : Nat) : Int)) ∧ W' = W)) A W := by
  conv => arg 2; whnf
  refine wp_region_list ?_
  refine wpList_yields rfl (.int .i64 (r : Int)) (yields_move (by simp [Region.wanted]) (.tmp 24) rfl _ x24) ?_
  refine wpList_yields rfl (.int .i64 ((r + 1 : Nat) : Int)) (y_addi (by simp [Region.wanted]) (.tmp 272) (.const (.int .i64 1)) rfl (r : Int) 1 _ (ev_eq _ _ (by rw [sz]; decide)) rfl (by rw [IntKind.wrap_i64]; omega)) ?_
  refine wpList_yields rfl (.int .i64 ((r + 1 : Nat) : Int)) (yh_assign (by simp [Region.wanted]) (.tmp 273) rfl _ (ev_eq _ _ (by simp only [put_sz]; rw [sz]; decide))) ?_
  exact wpList_nil ⟨rfl, ⟨(((Keep.refl A _).put 272 _ (by decide)).put 273 _ (by decide)).put 24 _ (by decide), ev_eq _ _ (by simp only [put_sz]; rw [sz]; decide)⟩, rfl⟩
noncomputable def code44 : Code := ((Tryd.f66.body.bind (regionAt 44)).getD .skip)
theorem out44 (A : Act) (W : World) (sz : A.tmps.size = 288) :
    Code.wp Tryd.prog code44 (fun ex A' W' => ex = .normal ∧ ((Keep A A' [24] ∧ A'.eval (.tmp 24) = .int .i64 ((0 : Nat) : Int)) ∧ W' = W)) A W := by
  conv => arg 2; whnf
  refine wp_region_list ?_
  refine wpList_yields rfl (.int .i64 ((0 : Nat) : Int)) (yh_assign (by simp [Region.wanted]) (.const (.int .i64 0)) rfl _ rfl) ?_
  exact wpList_nil ⟨rfl, ⟨(Keep.refl A _).put 24 _ (by decide), ev_eq _ _ (by rw [sz]; decide)⟩, rfl⟩

noncomputable def code47 : Code := ((Tryd.f66.body.bind (regionAt 47)).getD .skip)
theorem out47 (A : Act) (W : World) (N go i : Nat) (p : W32) (u : Value) (hi : i < 32) (sz : A.tmps.size = 288) (x24 : A.eval (.tmp 24) = .int .i64 (i : Int)) (x3 : A.eval (.tmp 3) = .slice (some ⟨N + 1, 0, none⟩) 8 8) (x23 : A.eval (.tmp 23) = .pointer (some ⟨go, 0, none⟩))
    (hp : W.cell? ⟨N + 1, i / 4, none⟩ = some (vw p)) (hu : W.cell? ⟨go, i, none⟩ = some u) (hf : W.frozen? ⟨go, i, none⟩ = false) :
    Code.wp Tryd.prog code47 (fun ex A' W' => ex = .normal ∧ (Keep A A' L9 ∧ A'.eval (.tmp 24) = .int .i64 (i : Int) ∧ W' = W.setCell ⟨go, i, none⟩ (.int .u8 ((UInt8.ofNat (p >>> (24 - 8 * (i % 4))).toNat).toNat : Int)))) A W := by
  conv => arg 2; whnf
  refine wp_region_list ?_
  refine wpList_yields rfl (.int .i64 (i : Int)) (yields_move (by simp [Region.wanted]) (.tmp 24) rfl _ x24) ?_
  refine wpList_yields rfl (.slice (some ⟨N + 1, 0, none⟩) 8 8) (yields_move (by simp [Region.wanted]) (.tmp 3) rfl _ ((ev_ne _ _ (by decide)).trans (x3))) ?_
  refine wpList_yields rfl (.int .i64 (i : Int)) (yields_move (by simp [Region.wanted]) (.tmp 24) rfl _ ((ev_ne _ _ (by decide)).trans ((ev_ne _ _ (by decide)).trans (x24)))) ?_
  refine wpList_yields rfl (.int .i64 ((i / 4 : Nat) : Int)) (y_quo4 (by simp [Region.wanted]) (.tmp 276) (.const (.int .i64 4)) rfl i hi (ev_eq _ _ (by (try simp only [put_sz]); rw [sz]; decide)) rfl) ?_
  refine wpList_yields rfl (.pointer (some ⟨N + 1, i / 4, none⟩)) (y_index (by simp [Region.wanted]) (.tmp 275) (.tmp 277) rfl (N + 1) 8 8 (i / 4) ((ev_ne _ _ (by decide)).trans ((ev_ne _ _ (by decide)).trans (ev_eq _ _ (by (try simp only [put_sz]); rw [sz]; decide)))) (ev_eq _ _ (by (try simp only [put_sz]); rw [sz]; decide)) (by omega)) ?_
  refine wpList_yieldsS (S := fun x => x.cell? ⟨N + 1, i / 4, none⟩ = some (vw p)) rfl (vw p) (y_load (by simp [Region.wanted]) (.tmp 278) rfl (N + 1) (i / 4) p (ev_eq _ _ (by (try simp only [put_sz]); rw [sz]; decide)) (fun w h => h)) hp ?_
  refine wpList_yields rfl (.int .i64 (i : Int)) (yields_move (by simp [Region.wanted]) (.tmp 24) rfl _ ((ev_ne _ _ (by decide)).trans ((ev_ne _ _ (by decide)).trans ((ev_ne _ _ (by decide)).trans ((ev_ne _ _ (by decide)).trans ((ev_ne _ _ (by decide)).trans ((ev_ne _ _ (by decide)).trans (x24)))))))) ?_
  refine wpList_yields rfl (.int .i64 ((i % 4 : Nat) : Int)) (y_rem4 (by simp [Region.wanted]) (.tmp 280) (.const (.int .i64 4)) rfl i hi (ev_eq _ _ (by (try simp only [put_sz]); rw [sz]; decide)) rfl) ?_
  refine wpList_yields rfl (.int .i64 ((8 * (i % 4) : Nat) : Int)) (y_muli (by simp [Region.wanted]) (.const (.int .i64 8)) (.tmp 281) rfl 8 ((i % 4 : Nat) : Int) _ rfl (ev_eq _ _ (by (try simp only [put_sz]); rw [sz]; decide)) (by rw [IntKind.wrap_i64]; omega)) ?_
  refine wpList_yields rfl (.int .i64 ((24 - 8 * (i % 4) : Nat) : Int)) (y_subi (by simp [Region.wanted]) (.const (.int .i64 24)) (.tmp 282) rfl 24 ((8 * (i % 4) : Nat) : Int) _ rfl (ev_eq _ _ (by (try simp only [put_sz]); rw [sz]; decide)) (by rw [IntKind.wrap_i64]; omega)) ?_
  refine wpList_yields rfl (vw (p >>> (24 - 8 * (i % 4)))) (y_shrI (by simp [Region.wanted]) (.tmp 279) (.tmp 283) rfl p (24 - 8 * (i % 4)) (by omega) ((ev_ne _ _ (by decide)).trans ((ev_ne _ _ (by decide)).trans ((ev_ne _ _ (by decide)).trans ((ev_ne _ _ (by decide)).trans (ev_eq _ _ (by (try simp only [put_sz]); rw [sz]; decide)))))) (ev_eq _ _ (by (try simp only [put_sz]); rw [sz]; decide))) ?_
  refine wpList_yields rfl (.int .u8 ((UInt8.ofNat (p >>> (24 - 8 * (i % 4))).toNat).toNat : Int)) (y_byteW (by simp [Region.wanted]) (.tmp 284) rfl _ (ev_eq _ _ (by (try simp only [put_sz]); rw [sz]; decide))) ?_
  refine wpList_yields rfl (.pointer (some ⟨go, i, none⟩)) (y_indexH (by simp [Region.wanted]) (.tmp 23) (.tmp 274) rfl go i ((ev_ne _ _ (by decide)).trans ((ev_ne _ _ (by decide)).trans ((ev_ne _ _ (by decide)).trans ((ev_ne _ _ (by decide)).trans ((ev_ne _ _ (by decide)).trans ((ev_ne _ _ (by decide)).trans ((ev_ne _ _ (by decide)).trans ((ev_ne _ _ (by decide)).trans ((ev_ne _ _ (by decide)).trans ((ev_ne _ _ (by decide)).trans ((ev_ne _ _ (by decide)).trans ((ev_ne _ _ (by decide)).trans (x23))))))))))))) ((ev_ne _ _ (by decide)).trans ((ev_ne _ _ (by decide)).trans ((ev_ne _ _ (by decide)).trans ((ev_ne _ _ (by decide)).trans ((ev_ne _ _ (by decide)).trans ((ev_ne _ _ (by decide)).trans ((ev_ne _ _ (by decide)).trans ((ev_ne _ _ (by decide)).trans ((ev_ne _ _ (by decide)).trans ((ev_ne _ _ (by decide)).trans ((ev_ne _ _ (by decide)).trans (ev_eq _ _ (by (try simp only [put_sz]); rw [sz]; decide))))))))))))) hi) ?_
  refine wpList_storeB rfl (.tmp 286) (.tmp 285) rfl go i (UInt8.ofNat (p >>> (24 - 8 * (i % 4))).toNat) u (ev_eq _ _ (by (try simp only [put_sz]); rw [sz]; decide)) ((ev_ne _ _ (by decide)).trans (ev_eq _ _ (by (try simp only [put_sz]); rw [sz]; decide))) hu hf ?_
  refine wpList_nil ⟨rfl, ?_, ?_, rfl⟩
  · exact ((((((((((((((Keep.refl A _).put 274 _ (by decide)).put 275 _ (by decide)).put 276 _ (by decide)).put 277 _ (by decide)).put 278 _ (by decide)).put 279 _ (by decide)).put 280 _ (by decide)).put 281 _ (by decide)).put 282 _ (by decide)).put 283 _ (by decide)).put 284 _ (by decide)).put 285 _ (by decide)).put 286 _ (by decide)).putn _
  · exact (ev_none _ _ _).trans ((ev_ne _ _ (by decide)).trans ((ev_ne _ _ (by decide)).trans ((ev_ne _ _ (by decide)).trans ((ev_ne _ _ (by decide)).trans ((ev_ne _ _ (by decide)).trans ((ev_ne _ _ (by decide)).trans ((ev_ne _ _ (by decide)).trans ((ev_ne _ _ (by decide)).trans ((ev_ne _ _ (by decide)).trans ((ev_ne _ _ (by decide)).trans ((ev_ne _ _ (by decide)).trans ((ev_ne _ _ (by decide)).trans ((ev_ne _ _ (by decide)).trans (x24))))))))))))))
end Go.Proofs.YthnciogaibhmcaaDoor

/- The bytes of the state, and the end of the reference's Sum, over a frame that is a letter. -/
namespace Go.Proofs.YthnciogaibhmcaaDoor
open Go.RowKit
set_option linter.unusedVariables false
set_option maxRecDepth 100000
noncomputable def body9 : Code := ((Tryd.f66.body.bind (loopAt 47)).getD .skip)
/-- what the loop keeps -/
structure I9 (N go : Nat) (s : S8) (Z : Array Value) (w : World) (A0 A : Act) (W : World) (i : Nat) : Prop where
  sz : A.tmps.size = 288
  k : Keep A0 A L9
  le : i ≤ 32
  ix : A.eval (.tmp 24) = .int .i64 (i : Int)
  o : W.heap[go]? = some (.cells (bvs (outAt s i)) 49 (0, 0))
  h : W.heap[N + 1]? = some (.cells s.vals 101 (0, 0))
  r : W.heap[N]? = some (.cells Z 49 (0, 0))
  b : Below N w W
def mu9 (A : Act) (_ : World) : Nat := 32 - (intOf (A.eval (.tmp 24))).toNat
set_option maxHeartbeats 400000 in
theorem round9 {Q : Exit → Act → World → Prop} {N go : Nat} {s : S8} {Z : Array Value} {w : World} {A0 : Act} (x3 : A0.eval (.tmp 3) = .slice (some ⟨N + 1, 0, none⟩) 8 8) (x23 : A0.eval (.tmp 23) = .pointer (some ⟨go, 0, none⟩)) (hg : N + 1 < go)
    (hexit : ∀ A W, I9 N go s Z w A0 A W 32 → Q (.exit 16) A W) (A : Act) (W : World) (i : Nat) (I : I9 N go s Z w A0 A W i) :
    Code.wp Tryd.prog body9 (Exit.then (fun A' W' => (∃ i', I9 N go s Z w A0 A' W' i') ∧ mu9 A' W' < mu9 A W) Q) A W := by
  conv => arg 2; whnf
  refine wp_seq ?_
  refine wp_seq ?_
  refine wp_split _ (out45 A W i I.sz I.ix) ?_
  rintro A1 W1 ⟨⟨k1, c1⟩, hW1⟩
  show Code.wp _ _ _ A1 W1
  have K1 : Keep A A1 L9 := k1.mono (by decide)
  have sz1 : A1.tmps.size = 288 := K1.sz.trans I.sz
  have y24 : A1.eval (.tmp 24) = .int .i64 (i : Int) := (k1.keep 24 (by decide)).trans I.ix
  by_cases hlt : i < 32
  · refine wp_cond_true (by rw [c1, decide_eq_true (by omega)]) ?_
    refine wp_skip ?_
    show Code.wp _ _ _ A1 W1
    refine wp_seq ?_
    refine wp_block ?_
    have y3 := (K1.keep 3 (by decide)).trans ((I.k.keep 3 (by decide)).trans x3)
    have y23 := (K1.keep 23 (by decide)).trans ((I.k.keep 23 (by decide)).trans x23)
    have h4 : i / 4 < 8 := by omega
    have hp : W1.cell? ⟨N + 1, i / 4, none⟩ = some (vw (s.toL[i / 4]'h4)) := by rw [hW1, cell_of_row _ _ _ _ _ _ I.h, vals_get _ _ h4]
    have ho1 : W1.heap[go]? = some (.cells (bvs (outAt s i)) 49 (0, 0)) := by rw [hW1]; exact I.o
    have hol : i < (outAt s i).length := by rw [outAt_length _ _ I.le]; exact hlt
    have hu : W1.cell? ⟨go, i, none⟩ = some (.int .u8 (((outAt s i)[i]'hol).toNat : Int)) := by rw [cell_of_row _ _ _ _ _ _ ho1, bvs_get _ _ hol]
    refine wp_split _ (out47 A1 W1 N go i _ _ hlt sz1 y24 y3 y23 hp hu (frozen_of_row _ _ i _ _ ho1)) ?_
    rintro A2 W2 ⟨K2, c2, hW2⟩
    show Code.wp _ _ _ A2 W2
    refine wp_split _ (out46 A2 W2 i (by omega) (K2.sz.trans sz1) c2) ?_
    rintro A3 W3 ⟨⟨k3, c3⟩, hW3⟩
    show (∃ i', I9 N go s Z w A0 A3 W3 i') ∧ mu9 A3 W3 < mu9 A W
    have K3 : Keep A2 A3 L9 := k3.mono (by decide)
    refine ⟨⟨i + 1, ⟨K3.sz.trans (K2.sz.trans sz1), I.k.trans (K1.trans (K2.trans K3)), by omega, c3, ?_, ?_, ?_, ?_⟩⟩, ?_⟩
    · rw [hW3, hW2, heap_setCell_same _ _ _ _ _ _ ho1, bvs_set]
      have e := outAt_set s (i / 4) (i % 4) h4 (by omega)
      rw [show 4 * (i / 4) + i % 4 = i by omega] at e
      rw [BitVec.toNat_ushiftRight, Nat.shiftRight_eq_div_pow, e]
    · rw [hW3, hW2, heap_setCell_other _ _ _ _ (show N + 1 ≠ go by omega), hW1]; exact I.h
    · rw [hW3, hW2, heap_setCell_other _ _ _ _ (show N ≠ go by omega), hW1]; exact I.r
    · rw [hW3, hW2, hW1]; exact I.b.setCell (p := ⟨go, i, none⟩) (show N ≤ go by omega) _
    · unfold mu9
      rw [c3, I.ix]
      simp only [intOf]
      omega
  · refine wp_cond_false (by rw [c1, decide_eq_false (by omega)]) ?_
    refine wp_exit ?_
    show Q (.exit 16) A1 W1
    have hr : i = 32 := by have := I.le; omega
    subst hr
    exact hexit A1 W1 ⟨sz1, I.k.trans K1, Nat.le_refl _, y24, by rw [hW1]; exact I.o, by rw [hW1]; exact I.h, by rw [hW1]; exact I.r, by rw [hW1]; exact I.b⟩
theorem loop9 {Q : Exit → Act → World → Prop} {N go : Nat} {s : S8} {Z : Array Value} {w : World} {A0 : Act} {W0 : World} (x3 : A0.eval (.tmp 3) = .slice (some ⟨N + 1, 0, none⟩) 8 8) (x23 : A0.eval (.tmp 23) = .pointer (some ⟨go, 0, none⟩)) (hg : N + 1 < go)
    (start : I9 N go s Z w A0 A0 W0 0) (hexit : ∀ A W, I9 N go s Z w A0 A W 32 → Q (.exit 16) A W) : Code.wp Tryd.prog (Code.loop body9) Q A0 W0 :=
  wp_loop (fun A W => ∃ i, I9 N go s Z w A0 A W i) mu9 ⟨0, start⟩ (fun A W ⟨i, h⟩ => round9 x3 x23 hg hexit A W i h)
noncomputable def code48 : Code := ((Tryd.f66.body.bind (regionAt 48)).getD .skip)
theorem out48 (A : Act) (W : World) (N go : Nat) (l : List UInt8) (hl : l.length = 32) (Z : Array Value) (hZ : Z.size = 32) (sz : A.tmps.size = 288) (x2 : A.eval (.tmp 2) = .pointer (some ⟨N, 0, none⟩)) (x23 : A.eval (.tmp 23) = .pointer (some ⟨go, 0, none⟩))
    (ho : W.heap[go]? = some (.cells (bvs l) 49 (0, 0))) (hr : W.heap[N]? = some (.cells Z 49 (0, 0))) (hi : (Tryd.prog.info? 49).map (·.size) = some 32) :
    Code.wp Tryd.prog code48 (fun ex A' W' => ex = .normal ∧ (Keep A A' [287] ∧ W' = W.setRow N (bvs l))) A W := by
  have hi' : (Tryd.prog.info? 49).map (·.size) = some (bvs l).size := by rw [bvs_size, hl]; exact hi
  conv => arg 2; whnf
  refine wp_region_list ?_
  refine wpList_load_row rfl 49 (.tmp 23) rfl go x23 _ _ _ _ ho Tryd.underlying49 rfl hi' ?_
  refine wpList_store_row rfl 49 (.tmp 2) (.tmp 287) rfl N (bvs l) ((ev_ne _ _ (by decide)).trans x2) (ev_eq _ _ (by rw [sz]; decide)) 49 Z hr hi' (by rw [hZ, bvs_size, hl]) (bvs_one l) ?_
  exact wpList_nil ⟨rfl, ((Keep.refl A _).put 287 _ (by decide)).putn _, rfl⟩
end Go.Proofs.YthnciogaibhmcaaDoor
