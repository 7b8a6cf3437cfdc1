/- The reference's Rows, by a contract; rows of both sides in one form. (Printed by gen/zrowsall.py.) -/
import Derived.Test.YthnciogaibhmcaaDoorZX
import Derived.Test.YthnciogaibhmcaaDoorAToNum
namespace Go.Proofs.YthnciogaibhmcaaDoor
open Go.RowKit
set_option linter.unusedVariables false
set_option maxRecDepth 20000

def toRC (x : Rw) : Xr.RC := ⟨x.key, x.a, x.cols.length, x.cap⟩
def toX (p : ByteArray × List ByteArray) : Xr.Rw := ⟨p.1, p.2⟩
/-- the rows of a chain, in the other form -/
def rowsX (c : Ch) : List Xr.Rw := (rowsOf c).map toX
theorem rcCells_toRC (l : List Rw) : Xr.rcCells (l.map toRC) = rvCells l := by
  unfold Xr.rcCells rvCells
  rw [List.flatMap_map]
  rfl
theorem colAt_own {w : World} {a : Option Addr} {cap : Nat} {l : List ByteArray} (h : w.ownsRow 0 9 1 (.slice a l.length cap) l.length (strsOf l)) (hl : l ≠ []) : Xr.ColAt w a l := by
  rcases h.2 with ⟨_, h0⟩ | ⟨g, cp, cur, e, _, hg, _, _, _, ht⟩
  · exact absurd (List.eq_nil_of_length_eq_zero h0) hl
  · injection e with e1
    exact ⟨g, cur, e1, hg, by rw [Nat.mul_one] at ht; exact ht⟩
theorem isX {w : World} : ∀ (l : List Rw), (∀ x ∈ l, w.ownsRow 0 9 1 (.slice x.a x.cols.length x.cap) x.cols.length (strsOf x.cols)) → (∀ x ∈ l, x.cols ≠ []) → Xr.RowsIs w (l.map toRC) ((l.map Rw.text).map toX)
  | [], _, _ => trivial
  | x :: l, h, hn => ⟨⟨rfl, rfl, colAt_own (h x (List.mem_cons_self ..)) (hn x (List.mem_cons_self ..))⟩, isX l (fun y hy => h y (List.mem_cons_of_mem _ hy)) (fun y hy => hn y (List.mem_cons_of_mem _ hy))⟩
theorem rowsOf_ne (c : Ch) : ∀ p ∈ rowsOf c, p.2 ≠ [] := by
  intro p hp
  rcases List.mem_append.1 hp with hp | hp
  · simp only [headRows, List.mem_cons, List.not_mem_nil, or_false] at hp
    rcases hp with rfl | rfl | rfl | rfl <;> simp
  · obtain ⟨e, _, rfl⟩ := List.mem_map.1 hp
    simp [evText]
theorem toXr {w : World} {base : Nat} {v : Value} {l : List Rw} {c : Ch} (h : RowsAt w base v l) (ht : l.map Rw.text = rowsOf c) : w.ownsRow base 45 2 v (l.map toRC).length (Xr.rcCells (l.map toRC)) ∧ Xr.RowsIs w (l.map toRC) (rowsX c) := by
  refine ⟨by rw [rcCells_toRC, List.length_map]; exact h.1, ?_⟩
  unfold rowsX
  rw [← ht]
  refine isX l h.2 fun x hx => ?_
  exact rowsOf_ne c x.text (by rw [← ht]; exact List.mem_map.2 ⟨x, hx, rfl⟩)
theorem rowsX_len (c : Ch) : (rowsX c).length = 4 + c.ev.length := by simp [rowsX, rowsOf, headRows]; omega
theorem evKey_list (n : Nat) : (evKey n).toList = 110 :: numT n := by
  rw [evKey, Lib.toList_data]
  simp [txt]
theorem less_head (a b : UInt8) (l m : List UInt8) (h : a < b) : Op.bytesLess (a :: l) (b :: m) = true := by simp [Op.bytesLess, h]
theorem less_same (a : UInt8) (l m : List UInt8) (h : Op.bytesLess l m = true) : Op.bytesLess (a :: l) (a :: m) = true := by simp [Op.bytesLess, h]
theorem keys_up {c : Ch} (ok : ChOk c) (hc : c.cnt < 1152921504606846976) : ∀ k (h : k + 1 < (rowsX c).length), Op.bytesLess (rowsX c)[k].key.toList (rowsX c)[k + 1].key.toList = true := by
  intro k h
  have hl := rowsX_len c
  have hev : ∀ i (hi : i < c.ev.length), (rowsX c)[4 + i]'(by omega) = toX (evText c.ev[i]) := fun i hi => by
    simp only [rowsX, List.getElem_map]
    congr 1
    unfold rowsOf
    rw [List.getElem_append_right (by simp [headRows])]
    simp [headRows]
  match k, h with
  | 0, h => show Op.bytesLess (⟨#[35]⟩ : ByteArray).toList (⟨#[97]⟩ : ByteArray).toList = true; rw [Lib.toList_data, Lib.toList_data]; decide
  | 1, h => show Op.bytesLess (⟨#[97]⟩ : ByteArray).toList (⟨#[98]⟩ : ByteArray).toList = true; rw [Lib.toList_data, Lib.toList_data]; decide
  | 2, h => show Op.bytesLess (⟨#[98]⟩ : ByteArray).toList (⟨#[104]⟩ : ByteArray).toList = true; rw [Lib.toList_data, Lib.toList_data]; decide
  | 3, h =>
    have h0 := hev 0 (by omega)
    have e : (rowsX c)[3 + 1] = toX (evText c.ev[0]) := h0
    rw [e]
    show Op.bytesLess (⟨#[104]⟩ : ByteArray).toList (evKey _).toList = true
    rw [Lib.toList_data, evKey_list]
    exact less_head _ _ _ _ (by decide)
  | k + 4, h =>
    have h0 := hev k (by omega)
    have h1 := hev (k + 1) (by omega)
    have e0 : (rowsX c)[k + 4]'(by omega) = toX (evText c.ev[k]) := by rw [← h0]; congr 1; omega
    have e1 : (rowsX c)[k + 4 + 1] = toX (evText c.ev[k + 1]) := by rw [← h1]; congr 1; omega
    rw [e0, e1]
    show Op.bytesLess (evKey _).toList (evKey _).toList = true
    rw [evKey_list, evKey_list]
    refine less_same _ _ _ ?_
    have n0 := ok.num k (by omega)
    have n1 := ok.num (k + 1) (by omega)
    unfold Ch.cnt at hc
    rw [numT_less _ _ (by omega) (by omega)]
    exact decide_eq_true (by omega)
theorem rise_of {w : World} {rs : List Xr.RC} {m : List Xr.Rw} (hi : Xr.RowsIs w rs m) (h : ∀ k (h : k + 1 < m.length), Op.bytesLess m[k].key.toList m[k + 1].key.toList = true) : ∀ k (h : k + 1 < rs.length), Op.bytesLess rs[k].key.toList rs[k + 1].key.toList = true := by
  intro k hk
  have hl := hi.length
  rw [(hi.get k (by omega) (by omega)).1, (hi.get (k + 1) hk (by omega)).1]
  exact h k (by omega)
theorem RowsAt.mono {w : World} {B B' : Nat} {v : Value} {l : List Rw} (h : RowsAt w B v l) (hB : B' ≤ B) : RowsAt w B' v l := ⟨own_monoW h.1 hB, h.2⟩
theorem RAt.below_c99 {w w' : World} {B g : Nat} {v : Value} {c : Ch} (h : RAt w B g v c) (ok : Lens c) (hb : Below w.heap.size w w') : w'.cell? ⟨g, 99, none⟩ = some v := (h.below hb).c99 ok

set_option maxHeartbeats 8000000 in
theorem rRows_x {w : World} {B g : Nat} {v : Value} {c : Ch} (h : RAt w B g v c) (ok : ChOk c) (hc : c.cnt < 1152921504606846976) :
    Calls Tryd.prog 19 #[.pointer (some ⟨g, 0, none⟩)] w (Xr.RowsPost w (rowsX c)) := by
  obtain ⟨a0, cap, rfl⟩ := h.val
  have hbn : c.bn ≤ 4611686018427387904 := by unfold Ch.cnt at hc; omega
  have hla : c.la ≤ 4611686018427387904 := by have := ok.las; omega
  have han : c.an ≤ 4611686018427387904 := by have := ok.anc; unfold Ch.cnt at hc; omega
  have hev : ∀ i (hi : i < c.ev.length), (c.ev[i]).num ≤ 4611686018427387904 ∧ (c.ev[i]).tim ≤ 4611686018427387904 := fun i hi => by
    have h1 := ok.num i hi
    have h2 := ok.tim _ (List.getElem_mem hi)
    have h3 := ok.las
    unfold Ch.cnt at hc
    omega
  have HH := hid h
  have OK := hid ok
  have Hc := hid hc
  have Hev := hid hev
  have Hbn := hid hbn
  have Hla := hid hla
  have Han := hid han
  have hfew := ok.few
  have c1 := h.c1
  clear h ok hev hbn hla han hc
  go_enter Tryd.func19, Tryd.ntmps19
  go_wp2_with (go_at_call 41; refine (refNum_any c.an Han.out w).mono ?_; rintro e w1 ⟨rfl, hb1⟩)
  obtain ⟨V0, hV0⟩ : ∃ V0, V0 = w1.drew := ⟨_, rfl⟩
  have b0 : Below w.heap.size w V0 := by rw [hV0]; exact hb1.drew
  refine wp_act _ fun A hA => ?_
  have sz : A.tmps.size = 83 := by rw [hA]; rfl
  have e0 : A.eval (.tmp 0) = .pointer (some ⟨g, 0, none⟩) := by rw [hA]; rfl
  have e3 : A.eval (.tmp 3) = .string (txt c.an) := by rw [hA]; rfl
  have edf : A.defers = [] := by rw [hA]
  refine wp_split _ (rRows_region4 sz e0 e3 hV0 (HH.out.below b0) OK.out.l Hbn.out Hla.out) ?_
  rintro a V6 ⟨Kp, ⟨vR, L0, hv, hR6, hT6⟩, b6⟩
  have hsz := Kp.sz.trans sz
  have k0 := (Kp.keep 0 (by decide)).trans e0
  have kdf := Kp.df.trans edf
  clear Kp sz e0 e3 edf hA A
  obtain ⟨tm, df⟩ := a
  obtain ⟨x0, x1, x2, x3, x4, x5, x6, x7, x8, x9, x10, x11, x12, x13, x14, x15, x16, x17, x18, x19, x20, x21, x22, x23, x24, x25, x26, x27, x28, x29, x30, x31, x32, x33, x34, x35, x36, x37, x38, x39, x40, x41, x42, x43, x44, x45, x46, x47, x48, x49, x50, x51, x52, x53, x54, x55, x56, x57, x58, x59, x60, x61, x62, x63, x64, x65, x66, x67, x68, x69, x70, x71, x72, x73, x74, x75, x76, x77, x78, x79, x80, x81, x82, hx⟩ := len83 tm.toList (by simpa using hsz)
  obtain rfl : tm = #[x0, x1, x2, x3, x4, x5, x6, x7, x8, x9, x10, x11, x12, x13, x14, x15, x16, x17, x18, x19, x20, x21, x22, x23, x24, x25, x26, x27, x28, x29, x30, x31, x32, x33, x34, x35, x36, x37, x38, x39, x40, x41, x42, x43, x44, x45, x46, x47, x48, x49, x50, x51, x52, x53, x54, x55, x56, x57, x58, x59, x60, x61, x62, x63, x64, x65, x66, x67, x68, x69, x70, x71, x72, x73, x74, x75, x76, x77, x78, x79, x80, x81, x82] := Array.ext' hx
  obtain rfl : df = [] := kdf
  obtain rfl : x0 = .pointer (some ⟨g, 0, none⟩) := k0
  obtain rfl : x4 = vR := hv
  clear hsz hx
  have bV6 : Below w.heap.size w V6 := Below.on' b0 b6
  have hl6 : L0.length = 4 := by
    have := congrArg List.length hT6
    simpa [headRows] using this
  have HR6 := hid (hR6.mono b0.size)
  have HT6 := hid hT6
  have BV6 := hid bV6
  obtain ⟨a4, c4, rfl⟩ := own_val9 hR6.1
  rw [hl6] at HR6 ⊢
  have q99 := HH.out.below_c99 OK.out.l bV6
  clear hR6 hT6 hl6 b6 bV6 b0 hV0 hb1 c1
  go_wp2_with fail
  go_loopw [4, 5] (fun v3 i wr => ∃ k : Nat, k ≤ c.ev.length ∧ i = .int .i64 (k : Int) ∧ ∃ L : List Rw, RowsAt wr w.heap.size v3 L ∧ L.map Rw.text = headRows c ++ (c.ev.take k).map evText ∧ Below w.heap.size w wr) (fun _ i _ => c.ev.length - (intOf i).toNat)
  case atStart => exact ⟨0, Nat.zero_le _, rfl, _, HR6.out, by rw [HT6.out]; simp, BV6.out⟩
  case round =>
    obtain ⟨k, hk, rfl, L, hR, hLt, hbel⟩ := hrel
    have hLl : L.length = 4 + k := by
      have := congrArg List.length hLt
      simp [headRows, Nat.min_eq_left hk] at this
      omega
    obtain ⟨a3, c3, rfl⟩ := own_val9 hR.1
    have r99 := HH.out.below_c99 OK.out.l hbel
    have HR := hid hR
    have HLt := hid hLt
    have Hbel := hid hbel
    have HLl := hid hLl
    clear hR hLt hbel hLl HR6 HT6 BV6
    by_cases hlt : k < c.ev.length
    · have g1 : decide ((k : Int) < (c.ev.length : Int)) = true := by simp; omega
      obtain ⟨b, rfl, hbl, hrow⟩ := (HH.out.below Hbel.out).row_at k hlt
      obtain ⟨hn, ht⟩ := Hev.out k hlt
      have Hst : Hid ((c.ev.take (k + 1)).map evText = (c.ev.take k).map evText ++ [evText c.ev[k]]) := by show _ = _; rw [List.take_succ_eq_append_getElem hlt, List.map_append]; rfl
      generalize (c.ev[k]'hlt) = e at *
      have d0 : wr.cell? ⟨b, k * 4, none⟩ = some (.int .i64 (e.num : Int)) := hrow 0 _ rfl
      have d1 : wr.cell? ⟨b, k * 4 + 1, none⟩ = some (.int .i64 (e.tim : Int)) := hrow 1 _ rfl
      have d2 : wr.cell? ⟨b, k * 4 + 2, none⟩ = some (.string e.what) := hrow 2 _ rfl
      have d3 : wr.cell? ⟨b, k * 4 + 3, none⟩ = some (.string e.who) := hrow 3 _ rfl
      have Hn := hid hn
      have Ht := hid ht
      clear hrow hn ht
      go_wp2_with fail
      obtain ⟨W5, hW5⟩ : ∃ W5, W5 = wr.alloc (.cells #[.int .i64 (e.num : Int), .int .i64 (e.tim : Int), .string e.what, .string e.who] 60) := ⟨_, rfl⟩
      have b5 : Below wr.heap.size wr W5 := by rw [hW5]; exact (Below.refl _ wr).alloc (Nat.le_refl _) _
      have s5 : W5.heap[wr.heap.size]? = some (.cells (eVals e).toArray 60 (0, 0)) := by rw [hW5]; exact heap_alloc_new wr _
      rw [← hW5]
      obtain ⟨V0, hV0⟩ : ∃ V0, V0 = W5.drew := ⟨_, rfl⟩
      have b6 : Below wr.heap.size wr V0 := by rw [hV0]; exact b5.drew
      have s6 : V0.heap[wr.heap.size]? = some (.cells (eVals e).toArray 60 (0, 0)) := by rw [hV0]; exact s5
      have hneE : (Value.slice a3 L.length c3).ownBlock ≠ some wr.heap.size := fun x => by have := (HR.out.1.lt _ x).2; omega
      refine wp_act _ fun A hA => ?_
      have sz : A.tmps.size = 83 := by rw [hA]; rfl
      have e4 : A.eval (.tmp 4) = .slice a3 L.length c3 := by rw [hA]; rfl
      have e6 : A.eval (.tmp 6) = .pointer (some ⟨wr.heap.size, 0, none⟩) := by rw [hA]; rfl
      refine wp_split _ (rRows_region9 sz e4 e6 hV0 s6 (HR.out.on b6) Hn.out Ht.out (by have := HLl.out; omega) (Nat.le_trans Hbel.out.size b6.size) hneE) ?_
      rintro _ V1 ⟨V2, V3, kk, cp, rfl, hR1, b7⟩
      rw [hA]
      simp only [Act.put, List.setIfInBounds_toArray, List.set_cons_succ, List.set_cons_zero]
      have hT1 : (L ++ [evRow e V2.heap.size]).map Rw.text = headRows c ++ (c.ev.take (k + 1)).map evText := by
        rw [List.map_append, HLt.out, Hst.out, List.append_assoc]
        rfl
      obtain ⟨L1, hL1⟩ : ∃ L1, L1 = L ++ [evRow e V2.heap.size] := ⟨_, rfl⟩
      rw [← hL1] at hR1 hT1 ⊢
      have HR1 := hid hR1
      have HT1 := hid hT1
      have B1 := hid ((Below.on' Hbel.out b6).trans b7)
      clear sz e4 e6 hA A hR1 hT1 b7 hL1 b5 b6 s5 s6 hW5 hV0 hneE d0 d1 d2 d3
      go_wp2_with fail
      go_roundw
      case rel => exact ⟨k + 1, by omega, by go_num, L1, HR1.out, HT1.out, B1.out⟩
      case measure => simp [intOf]; omega
    · have hkl : k = c.ev.length := by omega
      have g1 : decide ((k : Int) < (c.ev.length : Int)) = false := by simp; omega
      have hend := HLt.out
      rw [hkl, List.take_length] at hend
      have hend2 : L.map Rw.text = rowsOf c := hend
      have hx := toXr HR.out hend2
      have Hso := hid (Xr.sorted_any hx.1 hx.2 (by have := HLl.out; simp; omega) (rise_of hx.2 (keys_up OK.out Hc.out)))
      clear hkl hend hend2 hx
      go_wp2_with (go_at_call 49; refine Hso.out.mono ?_; rintro e w9 ⟨v9, rs9, rfl, ho9, hi9, hb9⟩)
      go_ret
      exact ⟨v9, rs9, rfl, own_monoW ho9 Hbel.out.size, hi9, Below.on' Hbel.out hb9⟩
end Go.Proofs.YthnciogaibhmcaaDoor
