/- What the walk of the reference's Sum leans on. -/
import Derived.Test.YtfiaefagnkmpoaaDoorHYields
import Derived.BigRegion
namespace Go.Proofs.YtfiaefagnkmpoaaDoor
open Go.RowKit
set_option linter.unusedVariables false
set_option maxRecDepth 100000

/-- the bytes, the mark, and so many noughts -/
def zpad (l : List UInt8) (k : Nat) : List UInt8 := l ++ 128 :: List.replicate k 0
theorem zpad_length (l : List UInt8) (k : Nat) : (zpad l k).length = l.length + 1 + k := by simp [zpad]; omega
theorem zpad_step (l : List UInt8) (k : Nat) : zpad l k ++ [0] = zpad l (k + 1) := by
  simp [zpad, List.replicate_succ', List.append_assoc]
/-- all, with k bytes of the size -/
def mAt (l : List UInt8) (k : Nat) : List UInt8 := zpad l (noughts l.length) ++ (be8 (l.length * 8)).take k
theorem mAt_all (l : List UInt8) : mAt l 8 = l ++ pad l.length := by
  unfold mAt zpad pad
  rw [List.take_of_length_le (by rw [be8_length]; omega), List.append_assoc, List.cons_append]
theorem mAt_step (l : List UInt8) (k : Nat) (h : k < 8) : mAt l k ++ [UInt8.ofNat (l.length * 8 / 2 ^ (56 - 8 * k))] = mAt l (k + 1) := by
  unfold mAt
  rw [List.take_succ_eq_append_getElem (by rw [be8_length]; exact h), be8_get _ _ h, List.append_assoc]
theorem mAt_length (l : List UInt8) (k : Nat) : (mAt l k).length ≤ l.length + 73 := by
  have h1 : ((be8 (l.length * 8)).take k).length ≤ 8 := by rw [List.length_take, be8_length]; omega
  have h2 : noughts l.length < 64 := by unfold noughts; omega
  unfold mAt
  rw [List.length_append, zpad_length]
  omega

/-- what the blocks' loop keeps: the state, the constants, the bytes -/
structure BL (N gm : Nat) (cur : Array Value) (V wr : World) (s : S8) : Prop where
  h : wr.heap[N + 1]? = some (.cells s.vals 53 (0, 0))
  k : wr.heap[N + 1 + 1]? = some (.cells kcells 53 (0, 0))
  m : wr.heap[gm]? = some (.cells cur 5 (0, 0))
  bel : Below (N + 1) V wr
theorem BL.below {N gm : Nat} {cur : Array Value} {V wr wr' : World} {s : S8} (h : BL N gm cur V wr s) (hb : Below wr.heap.size wr wr') : BL N gm cur V wr' s :=
  ⟨(hb.block _ (heap_lt h.h)).trans h.h, (hb.block _ (heap_lt h.k)).trans h.k, (hb.block _ (heap_lt h.m)).trans h.m, h.bel.trans (hb.mono (Nat.le_of_lt (heap_lt h.h)))⟩
theorem BL.alloc {N gm : Nat} {cur : Array Value} {V wr : World} {s : S8} (h : BL N gm cur V wr s) (o : Obj) : BL N gm cur V (wr.alloc o) s := h.below ((Below.refl _ _).alloc (Nat.le_refl _) _)
theorem BL.other {N gm : Nat} {cur : Array Value} {V wr wr' : World} {s : S8} (h : BL N gm cur V wr s) (g : Nat) (h1 : g ≠ N + 1) (h2 : g ≠ N + 1 + 1) (h3 : g ≠ gm) (h4 : N + 1 ≤ g) (hb : ∀ k, k ≠ g → wr'.heap[k]? = wr.heap[k]?) (hbel : Below (N + 1) wr wr') : BL N gm cur V wr' s :=
  ⟨(hb _ (Ne.symm h1)).trans h.h, (hb _ (Ne.symm h2)).trans h.k, (hb _ (Ne.symm h3)).trans h.m, h.bel.trans hbel⟩
theorem made_words (n : Nat) : madeCells (Value.int .u32 0).cells n = wvs (List.replicate n 0) := by
  have h : (madeCells (Value.int .u32 0).cells n).toList = (wvs (List.replicate n 0)).toList := by
    have : (Value.int .u32 0).cells = #[.int .u32 0] := rfl
    rw [this, toList_madeCells_one]
    simp [wvs]
  exact Array.toList_inj.1 h
theorem extZ_cell' {bs : List UInt8} {w : World} {g k : Nat} {t : TypeId} (h0 : 16 ≤ k) (h1 : k < 64) (d : Nat) (hd : 0 < d) (hd2 : d ≤ 16) (hW : w.heap[g]? = some (.cells (wvs (extZ bs k)) t (0, 0))) :
    w.cell? ⟨g, k - d, none⟩ = some (vw ((ext (k - 16) (wordsAt bs 64)).getD (k - d) 0)) := by
  rw [cell_of_row _ _ _ _ _ _ hW, wvs, List.getElem?_toArray, List.getElem?_map, extZ_get bs k (k - d) h0 (by omega)]
  rfl
theorem nextW_at (bs : List UInt8) (k : Nat) (h0 : 16 ≤ k) (h1 : k < 64) : nextW (ext (k - 16) (wordsAt bs 64)) = nearMix ((ext (k - 16) (wordsAt bs 64)).getD (k - 2) 0) + (ext (k - 16) (wordsAt bs 64)).getD (k - 7) 0 + farMix ((ext (k - 16) (wordsAt bs 64)).getD (k - 15) 0) + (ext (k - 16) (wordsAt bs 64)).getD (k - 16) 0 := by
  have hl : (ext (k - 16) (wordsAt bs 64)).length = k := by rw [ext_length, wordsAt_length]; omega
  unfold nextW
  rw [hl]
/-- eight words of a state at the head of a row -/
def VW (w : World) (g : Nat) (s : S8) : Prop := ∀ q (h : q < 8), w.cell? ⟨g, q, none⟩ = some (vw (s.toL[q]'h))
theorem VW.below {w w' : World} {g : Nat} {s : S8} (h : VW w g s) (hb : Below w.heap.size w w') : VW w' g s := fun q hq => (hb.cell (World.block_lt_of_cell? _ _ (h q hq))).trans (h q hq)
theorem vrow_of {w : World} {B : Nat} {v : Value} {s : S8} (h : w.ownsRow B 53 1 v ([] ++ s.toL).length (([] ++ s.toL).map vw)) : ∃ g cap, v = .slice (some ⟨g, 0, none⟩) 8 cap ∧ B ≤ g ∧ VW w g s := by
  rcases h.2 with ⟨_, h0⟩ | ⟨g, cap, cur, hv, hb, hg, hc, hm, hs, ht⟩
  · have : (8 : Nat) = 0 := h0
    omega
  · refine ⟨g, cap, hv, hb, fun q hq => ?_⟩
    rw [cell_of_row _ _ _ _ _ _ hg]
    have h3 := congrArg (fun l : List Value => l[q]?) ht
    have hq' : q < ([] ++ s.toL).length * 1 := hq
    simp only [List.getElem?_take_of_lt hq'] at h3
    rw [← Array.getElem?_toList, h3, List.nil_append, List.getElem?_map, List.getElem?_eq_getElem (by exact hq)]
    rfl
theorem rd_at (a b c d e f g h kk ww : W32) : rd ⟨a, b, c, d, e, f, g, h⟩ (ww + kk) = ⟨h + (rotr e 6 ^^^ rotr e 11 ^^^ rotr e 25) + (e &&& f ^^^ ~~~e &&& g) + kk + ww + (rotr a 2 ^^^ rotr a 13 ^^^ rotr a 22) + (a &&& b ^^^ a &&& c ^^^ b &&& c), a, b, c, d + (h + (rotr e 6 ^^^ rotr e 11 ^^^ rotr e 25) + (e &&& f ^^^ ~~~e &&& g) + kk + ww), e, f, g⟩ := by
  unfold rd t1 t2
  simp only
  generalize rotr e 6 ^^^ rotr e 11 ^^^ rotr e 25 = s1
  generalize e &&& f ^^^ ~~~e &&& g = ch
  generalize rotr a 2 ^^^ rotr a 13 ^^^ rotr a 22 = s0
  generalize a &&& b ^^^ a &&& c ^^^ b &&& c = mj
  have e1 : h + s1 + ch + (ww + kk) = h + s1 + ch + kk + ww := by ac_rfl
  rw [e1]
  have e2 : h + s1 + ch + kk + ww + (s0 + mj) = h + s1 + ch + kk + ww + s0 + mj := by ac_rfl
  rw [e2]
theorem eq_yields {ops : Array Oper} {S : World → Prop} {op : Oper} {a : Act} {p q : W32} (h : p = q) (hy : YieldsIf Tryd.prog ops S op (vw p) a) : YieldsIf Tryd.prog ops S op (vw q) a := h ▸ hy
theorem vw_alloc {wr : World} {gv gk gw r : Nat} {s : S8} {kk ww : W32} (h : VW wr gv s ∧ wr.cell? ⟨gk, r, none⟩ = some (vw kk) ∧ wr.cell? ⟨gw, r, none⟩ = some (vw ww)) (o : Obj) : VW (wr.alloc o) gv s ∧ (wr.alloc o).cell? ⟨gk, r, none⟩ = some (vw kk) ∧ (wr.alloc o).cell? ⟨gw, r, none⟩ = some (vw ww) := by
  have hb : Below wr.heap.size wr (wr.alloc o) := (Below.refl _ _).alloc (Nat.le_refl _) o
  exact ⟨h.1.below hb, (hb.cell (World.block_lt_of_cell? _ _ h.2.1)).trans h.2.1, (hb.cell (World.block_lt_of_cell? _ _ h.2.2)).trans h.2.2⟩
theorem sum4 (a b c d : W32) : ((a.toNat : Int) + (b.toNat : Int) + (c.toNat : Int) + (d.toNat : Int)) % 4294967296 = ((a + b + c + d).toNat : Int) := by
  simp only [BitVec.toNat_add]
  omega

end Go.Proofs.YtfiaefagnkmpoaaDoor
