/- YthnciogaibhmcaaDoorZHash + YthnciogaibhmcaaDoorZLd1 + YthnciogaibhmcaaDoorZLd2 -/
import Derived.Test.YthnciogaibhmcaaDoorZRows
import Derived.Test.YthnciogaibhmcaaDoorZToNum
import Derived.Test.YthnciogaibhmcaaDoorALd8
/- The reference's hash of a row: 32 bytes of the only column. -/
namespace Go.Proofs.YthnciogaibhmcaaDoor
open Go.RowKit
set_option linter.unusedVariables false
set_option maxRecDepth 20000
attribute [local go_sem ↓] loadH_fold storeH_fold
/-- the first i bytes of a hash are there -/
def curH (h : List UInt8) (i : Nat) : List UInt8 := h.take i ++ List.replicate (32 - i) 0
theorem curH_len (h : List UInt8) (hl : h.length = 32) (i : Nat) (hi : i ≤ 32) : (curH h i).length = 32 := by simp [curH, hl]; omega
theorem curH_0 (h : List UInt8) : curH h 0 = zero32 := by simp [curH, zero32]
theorem curH_32 (h : List UInt8) (hl : h.length = 32) : curH h 32 = h := by simp [curH, List.take_of_length_le (Nat.le_of_eq hl)]
theorem curH_step (h : List UInt8) (hl : h.length = 32) (i : Nat) (hi : i < 32) : (bvs (curH h i)).setIfInBounds i (.int .u8 ((h[i]'(by omega)).toNat : Int)) = bvs (curH h (i + 1)) := by
  show (cellsOf (curH h i)).toArray.setIfInBounds i _ = (cellsOf (curH h (i + 1))).toArray
  rw [List.setIfInBounds_toArray]
  congr 1
  unfold curH cellsOf
  rw [show 32 - i = (32 - (i + 1)) + 1 by omega, List.replicate_succ, List.map_append, List.map_cons, set_mid _ _ _ _ i (by simp; omega), List.take_succ_eq_append_getElem (by omega), List.map_append, List.map_append, List.append_assoc]
  rfl
set_option maxHeartbeats 4000000 in
theorem rhash_ok (w : World) (key : ByteArray) (h : List UInt8) (hl : h.length = 32) (ad : Option Addr) (cp : Nat) (ht : Texts w ad [mkB h]) :
    Calls Tryd.prog 40 #[.agg #[.string key, .slice ad 1 cp], .string key] w fun e w' => e = .returned (.tuple #[.agg (bvs h), .bool true]) ∧ Below w.heap.size w w' := by
  obtain ⟨b, o, rfl, j0⟩ := ht 0 (by simp)
  have c0 : w.cell? ⟨b, o, none⟩ = some (.string (mkB h)) := j0
  clear ht j0
  have hsz : (mkB h).size = 32 := by show h.toArray.size = 32; simpa using hl
  have hget : ∀ i (hi : i < 32), (mkB h).data[i]? = some (h[i]'(by omega)) := fun i hi => by
    show h.toArray[i]? = _
    simp [hl, hi]
  obtain ⟨Z, hZ⟩ : ∃ Z, Z = bvs zero32 := ⟨_, rfl⟩
  have zh := (zero_of_info zero_hash).1
  rw [show bvs (List.replicate 32 0) = Z from hZ.symm] at zh
  obtain ⟨W, hW⟩ : ∃ W, W = ((w.alloc (.cells #[.string key, .slice (some ⟨b, o, none⟩) 1 cp] 45)).alloc (.cells Z 49)).alloc (.cells Z 49) := ⟨_, rfl⟩
  have b1 : Below w.heap.size w (w.alloc (.cells #[.string key, .slice (some ⟨b, o, none⟩) 1 cp] 45)) := (Below.refl _ w).alloc (Nat.le_refl _) _
  have bW : Below w.heap.size w W := by rw [hW]; exact (b1.alloc (by simp) _).alloc (by simp; omega) _
  have x0 : W.heap[w.heap.size]? = some (.cells #[.string key, .slice (some ⟨b, o, none⟩) 1 cp] 45 (0, 0)) := by
    rw [hW, (MapKept.heap_alloc _ _).2 _ (by simp; omega), (MapKept.heap_alloc _ _).2 _ (by simp)]
    exact heap_alloc_new w _
  have x1 : W.heap[w.heap.size + 1]? = some (.cells Z 49 (0, 0)) := by
    rw [hW, (MapKept.heap_alloc _ _).2 _ (by simp)]
    have := heap_alloc_new (w.alloc (.cells #[.string key, .slice (some ⟨b, o, none⟩) 1 cp] 45)) (.cells Z 49)
    rw [show (w.alloc (.cells #[.string key, .slice (some ⟨b, o, none⟩) 1 cp] 45)).heap.size = w.heap.size + 1 by simp] at this
    exact this
  have x2 : W.heap[w.heap.size + 1 + 1]? = some (.cells Z 49 (0, 0)) := by
    rw [hW]
    have := heap_alloc_new ((w.alloc (.cells #[.string key, .slice (some ⟨b, o, none⟩) 1 cp] 45)).alloc (.cells Z 49)) (.cells Z 49)
    rw [show ((w.alloc (.cells #[.string key, .slice (some ⟨b, o, none⟩) 1 cp] 45)).alloc (.cells Z 49)).heap.size = w.heap.size + 1 + 1 by simp] at this
    exact this
  have k0 : W.cell? ⟨w.heap.size, 0, none⟩ = some (.string key) := cell_of_row _ _ 0 _ _ _ x0
  have k1 : W.cell? ⟨w.heap.size, 1, none⟩ = some (.slice (some ⟨b, o, none⟩) 1 cp) := cell_of_row _ _ 1 _ _ _ x0
  have cW : W.cell? ⟨b, o, none⟩ = some (.string (mkB h)) := (bW.cell (World.block_lt_of_cell? _ _ c0)).trans c0
  have hkk : (key.toList == key.toList) = true := by simp
  have hbl : b < w.heap.size := World.block_lt_of_cell? _ _ c0
  have Hl := hid hl
  have HZ := hid hZ
  have zh := hid zh
  have HW := hid hW
  have BW := hid bW
  have X0 := hid x0
  have X1 := hid x1
  have X2 := hid x2
  have Hget := hid hget
  clear hZ hW bW b1 x0 x1 x2 c0 hget
  obtain ⟨t, htt⟩ : ∃ t, t = mkB h := ⟨_, rfl⟩
  have HT := hid htt
  rw [← htt] at cW hsz
  clear htt
  go_enter Tryd.func40, Tryd.ntmps40
  go_wp2_with (first
    | (with_reducible show Go.wpList _ _ _ _ _ _; refine wpList_alloc_row rfl 49 rfl Z zh.out ?_; rw [← HW.out])
    | (with_reducible show Go.wpList _ _ _ _ _ _; refine wpList_alloc_row rfl 49 rfl Z zh.out ?_))
  go_loopw [7] (fun i wr => ∃ k : Nat, k ≤ 32 ∧ i = .int .i64 (k : Int) ∧ wr.heap[w.heap.size + 1 + 1]? = some (.cells (bvs (curH h k)) 49 (0, 0)) ∧ Out (fun j => j = w.heap.size + 1 + 1) W wr) (fun i _ => 32 - (intOf i).toNat)
  case atStart => exact ⟨0, Nat.zero_le _, rfl, by rw [curH_0, ← HZ.out]; exact X2.out, Out.refl _ _⟩
  case round =>
    obtain ⟨k, hk, rfl, hc, hout⟩ := hrel
    have y0 := (hout.block w.heap.size (heap_lt X0.out) (by omega)).trans X0.out
    have k1 : wr.cell? ⟨w.heap.size, 1, none⟩ = some (.slice (some ⟨b, o, none⟩) 1 cp) := cell_of_row _ _ 1 _ _ _ y0
    have cR : wr.cell? ⟨b, o, none⟩ = some (.string t) := by
      have : wr.cell? ⟨b, o, none⟩ = W.cell? ⟨b, o, none⟩ := by unfold World.cell?; rw [hout.block b (Nat.lt_of_lt_of_le hbl BW.out.size) (by omega)]
      exact this.trans cW
    have Hout := hid hout
    have HC := hid hc
    by_cases hlt : k < 32
    · have hget : t.data[k]? = some (h[k]'(by have := Hl.out; omega)) := by rw [HT.out]; exact Hget.out k hlt
      have st := hid (curH_step h Hl.out k hlt)
      generalize (h[k]'(by have := Hl.out; omega)) = cc at *
      have g1 : decide ((k : Int) < 32) = true := by simp; omega
      have z1 : ∃ u, wr.cell? ⟨w.heap.size + 1 + 1, k, none⟩ = some u := by
        rw [cell_of_row _ _ _ _ _ _ hc]
        exact ⟨_, Array.getElem?_eq_getElem (by show k < (cellsOf _).toArray.size; rw [List.size_toArray, cellsOf_length, curH_len h Hl.out k hk]; exact hlt)⟩
      obtain ⟨u, z1⟩ := z1
      have z2 : wr.frozen? ⟨w.heap.size + 1 + 1, k, none⟩ = false := frozen_of_row _ _ _ _ _ hc
      clear hc hout y0
      go_wp2
      go_roundw
      case rel =>
        have e9 : t[k]'(by omega) = cc := by
          have h9 : t.data[k]? = some (t.data[k]'(by show k < t.size; omega)) := Array.getElem?_eq_getElem _
          rw [hget] at h9
          exact (Option.some.inj h9).symm
        refine ⟨k + 1, by omega, by go_num, ?_, Hout.out.setCell _ _ rfl⟩
        rw [heap_setCell_same _ _ _ _ _ _ HC.out, e9, st.out]
      case measure => simp [intOf]; omega
    · have g1 : decide ((k : Int) < 32) = false := by simp; omega
      obtain rfl : k = 32 := by omega
      rw [curH_32 h Hl.out] at hc
      have HC2 := hid hc
      have HZ1 := hid ((hout.block (w.heap.size + 1) (heap_lt X1.out) (by omega)).trans X1.out)
      have sh := hid (size_hashs h Hl.out)
      have one := hid (bvs_one h)
      have zs : Hid (Z.size = (bvs h).size) := by
        show _ = _
        rw [HZ.out, bvs_size, bvs_size, Hl.out]
        rfl
      clear hc hout y0 HC
      obtain ⟨O, hO⟩ : ∃ O, O = bvs h := ⟨_, rfl⟩
      rw [← hO] at HC2 sh one zs
      have HO := hid hO
      clear hO
      go_wp2_with (first
        | (with_reducible show Go.wpList _ _ _ _ _ _; refine wpList_load_row rfl 49 _ rfl (w.heap.size + 1 + 1) rfl _ _ _ _ HC2.out Tryd.underlying49 rfl sh.out ?_)
        | (with_reducible show Go.wpList _ _ _ _ _ _; refine wpList_store_row rfl 49 _ _ rfl (w.heap.size + 1) O rfl rfl 49 Z HZ1.out sh.out zs.out one.out ?_))
      refine bodyPost_ret (results_row_tmp rfl _ _ (w.heap.size + 1) 49 O (0, 0) _ rfl (setRow_heap _ _ _ _ _ _ HZ1.out) Tryd.underlying49 rfl sh.out) rfl ?_
      exact ⟨by rw [HO.out]; rfl, (BW.out.trans (Hout.out.below BW.out.size (fun j hj => by omega))).setRow (by omega) _⟩
end Go.Proofs.YthnciogaibhmcaaDoor

/- The reference's Load: the regions of its loop that draw their order. (Printed by gen/zld.py.) -/
namespace Go.Proofs.YthnciogaibhmcaaDoor
open Go.RowKit
set_option linter.unusedVariables false
set_option maxRecDepth 20000
theorem cell_99 {V : World} {g : Nat} {v : Value} {c : Ch} (h : V.heap[g]? = some (.cells (rfcells c v).toArray 58 (0, 0))) (ok : Lens c) : V.cell? ⟨g, 99, none⟩ = some v := by
  rw [rfcells_v] at h
  exact cell_mid h 99 (by simp [rfnums, cellsOf_length, ok.lb, ok.lan, ok.lh])
theorem added_rowR {V0 w V2 : World} {B g : Nat} {v : Value} {c : Ch} {l : List Ev} {k n cap : Nat} (H1 : RAt w B g v c) (ok : Lens c) (hown : V2.ownsRow B 60 4 (.slice (some ⟨k, 0, none⟩) n cap) l.length (eCells l)) (hg : w.grownBy V2 v.ownBlock) (hk : v.ownBlock = some k ∨ k = w.heap.size) (o2 : V2.heap[g]? = some (.cells (rfcells c v).toArray 58 (0, 0))) (hB : B ≤ V0.heap.size) (b01 : Below V0.heap.size V0 w) :
    RAt (V2.setCell ⟨g, 99, none⟩ (.slice (some ⟨k, 0, none⟩) n cap)) B g (.slice (some ⟨k, 0, none⟩) n cap) { c with ev := l } ∧ Below B V0 (V2.setCell ⟨g, 99, none⟩ (.slice (some ⟨k, 0, none⟩) n cap)) := by
  have hne : k ≠ g := by
    rcases hk with h | h
    · exact H1.ne k h
    · have := H1.lt; omega
  refine ⟨⟨?_, ⟨hown.1, ?_⟩, H1.bg⟩, ?_⟩
  · rw [heap_setCell_same V2 g 99 _ _ _ o2, rfcells_set99 ok]
    rfl
  · rcases hown.2 with h0 | ⟨k', cp, cur, e, hb, hk', r⟩
    · exact .inl h0
    · cases e
      exact .inr ⟨_, _, cur, rfl, hb, (heap_setCell_other _ _ _ _ hne).trans hk', r⟩
  · have b1 : Below B V0 V2 := (b01.mono hB).grown hg (Nat.le_trans hB b01.size) (fun j hj => (H1.lts j hj).1)
    exact (Out.setCell (P := fun j => B ≤ j) ⟨b1.os, b1.tape, b1.output, b1.size, fun j hj hp => b1.block j (by omega)⟩ _ _ H1.bg).below hB (fun j hj => hj)
noncomputable def codeRLd (n : Nat) : Code := ((Tryd.f14.body.bind (regionAt n)).getD .skip)
set_option maxHeartbeats 4000000 in
theorem rld_region17 {V0 W5 : World} {B g R b o cp p i sm : Nat} {c : Ch} {A : Act} {m : Nat} {t q s : ByteArray} {K : World → Prop} (sz : A.tmps.size = 233) (e4 : A.eval (.tmp 4) = .int .i64 (p : Int)) (e18 : A.eval (.tmp 18) = .int .i64 (i : Int)) (e19 : A.eval (.tmp 19) = .pointer (some ⟨R, 0, none⟩)) (hsm : IntKind.i64.wrap ((p : Int) + (i : Int)) = (sm : Int)) (hmm : IntKind.i64.wrap ((sm : Int) - 3) = (m : Int)) (hm4 : m ≤ 4611686018427387904) (hq : ¬ (12 : Int) < (q.size : Int)) (hsz : ¬ (30 : Int) < (s.size : Int)) (hK : ∀ {V V' : World}, Below V.heap.size V V' → K V → K V') (hV0 : V0 = W5.drew) (hs0 : TE R b o cp (evKey m) t q s K V0) :
    (codeRLd 17).wp Tryd.prog (fun x a V => x = .normal ∧ a = (((((((((((((((((((((((((((((((A.put (some 157) (.pointer (some ⟨R, 0, none⟩))).put (some 158) (.string (evKey m))).put (some 159) (.int .i64 (p : Int))).put (some 160) (.int .i64 (i : Int))).put (some 161) (.int .i64 (sm : Int))).put (some 162) (.int .i64 (m : Int))).put (some 163) (.string (txt m))).put (some 164) (.string (evKey m))).put (some 165) (.bool false)).put (some 166) (.bool false)).put (some 167) (.pointer (some ⟨R, 1, none⟩))).put (some 168) (.slice (some ⟨b, o, none⟩) 3 cp)).put (some 169) (.int .i64 3)).put (some 170) (.bool false)).put (some 171) (.bool false)).put (some 172) (.bool false)).put (some 173) (.pointer (some ⟨R, 1, none⟩))).put (some 174) (.slice (some ⟨b, o, none⟩) 3 cp)).put (some 175) (.pointer (some ⟨b, o + 1, none⟩))).put (some 176) (.string q)).put (some 177) (.int .i64 (q.size : Int))).put (some 178) (.bool false)).put (some 179) (.bool false)).put (some 180) (.bool false)).put (some 181) (.pointer (some ⟨R, 1, none⟩))).put (some 182) (.slice (some ⟨b, o, none⟩) 3 cp)).put (some 183) (.pointer (some ⟨b, o + 2, none⟩))).put (some 184) (.string s)).put (some 185) (.int .i64 (s.size : Int))).put (some 186) (.bool false)).put (some 187) (.bool false)) ∧ TE R b o cp (evKey m) t q s K V ∧ Below V0.heap.size V0 V) A W5 := by
  have hm : Tryd.prog.follows .mixedOrders = true := by kernel_rfl
  unfold codeRLd
  conv => arg 2; whnf
  refine wp_region_G (fun _ => false) (TE R b o cp (evKey m) t q s K) hm ?_
  rw [show ({ W5 with drawn := W5.drawn + 1 } : World) = V0 from hV0.symm]
  refine wpAnyG_take (i := 0) (v := .pointer (some ⟨R, 0, none⟩)) rfl (by kernel_rfl) (by kernel_rfl) (by kernel_rfl) (fun _ _ _ h => nomatch h.1) (yg_fld (by simp [Region.wanted]) (.tmp 19) rfl e19 (fun w => by simp [go_sem])) hs0 ?_
  show wpAnyG _ _ _ _ _ _ _ _ (A.put (some 157) (.pointer (some ⟨R, 0, none⟩))) _
  refine wpAnyG_take (i := 1) (v := .string (evKey m)) rfl (by kernel_rfl) (by kernel_rfl) (by kernel_rfl) (fun _ _ _ h => nomatch h.1) (yg_ld (by simp [Region.wanted]) (.tmp 157) rfl (ev_eq _ _ (by simp [sz])) (fun w hw => by have h1 := hw.k0; simp [go_sem, h1])) hs0 ?_
  show wpAnyG _ _ _ _ _ _ _ _ ((A.put (some 157) (.pointer (some ⟨R, 0, none⟩))).put (some 158) (.string (evKey m))) _
  refine wpAnyG_take (i := 2) (v := .int .i64 (p : Int)) rfl (by kernel_rfl) (by kernel_rfl) (by kernel_rfl) (fun _ _ _ h => nomatch h.1) (yg_mv (by simp [Region.wanted]) (.tmp 4) rfl ((ev_ne _ _ (by decide)).trans ((ev_ne _ _ (by decide)).trans e4))) hs0 ?_
  show wpAnyG _ _ _ _ _ _ _ _ (((A.put (some 157) (.pointer (some ⟨R, 0, none⟩))).put (some 158) (.string (evKey m))).put (some 159) (.int .i64 (p : Int))) _
  refine wpAnyG_take (i := 3) (v := .int .i64 (i : Int)) rfl (by kernel_rfl) (by kernel_rfl) (by kernel_rfl) (fun _ _ _ h => nomatch h.1) (yg_mv (by simp [Region.wanted]) (.tmp 18) rfl ((ev_ne _ _ (by decide)).trans ((ev_ne _ _ (by decide)).trans ((ev_ne _ _ (by decide)).trans e18)))) hs0 ?_
  show wpAnyG _ _ _ _ _ _ _ _ ((((A.put (some 157) (.pointer (some ⟨R, 0, none⟩))).put (some 158) (.string (evKey m))).put (some 159) (.int .i64 (p : Int))).put (some 160) (.int .i64 (i : Int))) _
  refine wpAnyG_take (i := 4) (v := .int .i64 (sm : Int)) rfl (by kernel_rfl) (by kernel_rfl) (by kernel_rfl) (fun _ _ _ h => nomatch h.1) (y_addi (by simp [Region.wanted]) (.tmp 159) (.tmp 160) rfl _ _ _ ((ev_ne _ _ (by decide)).trans (ev_eq _ _ (by simp [put_sz, sz]))) (ev_eq _ _ (by simp [put_sz, sz])) hsm) hs0 ?_
  show wpAnyG _ _ _ _ _ _ _ _ (((((A.put (some 157) (.pointer (some ⟨R, 0, none⟩))).put (some 158) (.string (evKey m))).put (some 159) (.int .i64 (p : Int))).put (some 160) (.int .i64 (i : Int))).put (some 161) (.int .i64 (sm : Int))) _
  refine wpAnyG_take (i := 5) (v := .int .i64 (m : Int)) rfl (by kernel_rfl) (by kernel_rfl) (by kernel_rfl) (fun _ _ _ h => nomatch h.1) (y_subi (by simp [Region.wanted]) (.tmp 161) (.const (.int .i64 3)) rfl _ _ _ (ev_eq _ _ (by simp [put_sz, sz])) rfl hmm) hs0 ?_
  show wpAnyG _ _ _ _ _ _ _ _ ((((((A.put (some 157) (.pointer (some ⟨R, 0, none⟩))).put (some 158) (.string (evKey m))).put (some 159) (.int .i64 (p : Int))).put (some 160) (.int .i64 (i : Int))).put (some 161) (.int .i64 (sm : Int))).put (some 162) (.int .i64 (m : Int))) _
  refine wpAnyG_all (rs := [6]) (by kernel_rfl) (by simp) fun i1 hm1 => ?_
  obtain rfl : i1 = 6 := by simpa using hm1
  refine wpOp_own rfl rfl fun K1 hK1 => ?_
  refine wp_calls1 41 hf_num14 (.tmp 162) _ rfl (.int .i64 (m : Int)) (ev_eq _ _ (by simp [put_sz, sz])) ?_
  refine (refNum_any m hm4 V0).mono ?_
  rintro _ V1 ⟨rfl, hb1⟩
  have hs1 := hs0.keep hb1 (hK hb1 hs0.2.2)
  refine ⟨_, rfl, hK1 _ _ ⟨.inr hs1, ?_⟩⟩
  clear hK1 K1 hm1
  show wpAnyG _ _ _ _ _ _ _ _ (((((((A.put (some 157) (.pointer (some ⟨R, 0, none⟩))).put (some 158) (.string (evKey m))).put (some 159) (.int .i64 (p : Int))).put (some 160) (.int .i64 (i : Int))).put (some 161) (.int .i64 (sm : Int))).put (some 162) (.int .i64 (m : Int))).put (some 163) (.string (txt m))) _
  refine wpAnyG_take (i := 7) (v := .string (evKey m)) rfl (by kernel_rfl) (by kernel_rfl) (by kernel_rfl) (fun _ _ _ h => nomatch h.1) (y_addS (by simp [Region.wanted]) (.const (.string ⟨#[110]⟩)) (.tmp 163) rfl ⟨#[110]⟩ (txt m) rfl (ev_eq _ _ (by simp [put_sz, sz])) (by have := txt_size m hm4; show ¬ 9223372036854775807 < 1 + (txt m).size; omega)) hs1 ?_
  show wpAnyG _ _ _ _ _ _ _ _ ((((((((A.put (some 157) (.pointer (some ⟨R, 0, none⟩))).put (some 158) (.string (evKey m))).put (some 159) (.int .i64 (p : Int))).put (some 160) (.int .i64 (i : Int))).put (some 161) (.int .i64 (sm : Int))).put (some 162) (.int .i64 (m : Int))).put (some 163) (.string (txt m))).put (some 164) (.string (evKey m))) _
  refine wpAnyG_take (i := 8) (v := .bool false) rfl (by kernel_rfl) (by kernel_rfl) (by kernel_rfl) (fun _ _ _ h => nomatch h.1) (yg_bin (by simp [Region.wanted]) (.tmp 158) (.tmp 164) rfl ((ev_ne _ _ (by decide)).trans ((ev_ne _ _ (by decide)).trans ((ev_ne _ _ (by decide)).trans ((ev_ne _ _ (by decide)).trans ((ev_ne _ _ (by decide)).trans ((ev_ne _ _ (by decide)).trans (ev_eq _ _ (by simp [put_sz, sz])))))))) (ev_eq _ _ (by simp [put_sz, sz])) (fun w => by simp [go_sem])) hs1 ?_
  show wpAnyG _ _ _ _ _ _ _ _ (((((((((A.put (some 157) (.pointer (some ⟨R, 0, none⟩))).put (some 158) (.string (evKey m))).put (some 159) (.int .i64 (p : Int))).put (some 160) (.int .i64 (i : Int))).put (some 161) (.int .i64 (sm : Int))).put (some 162) (.int .i64 (m : Int))).put (some 163) (.string (txt m))).put (some 164) (.string (evKey m))).put (some 165) (.bool false)) _
  obtain ⟨Az1, hAz1⟩ : ∃ Az1, Az1 = (((((((((A.put (some 157) (.pointer (some ⟨R, 0, none⟩))).put (some 158) (.string (evKey m))).put (some 159) (.int .i64 (p : Int))).put (some 160) (.int .i64 (i : Int))).put (some 161) (.int .i64 (sm : Int))).put (some 162) (.int .i64 (m : Int))).put (some 163) (.string (txt m))).put (some 164) (.string (evKey m))).put (some 165) (.bool false)) := ⟨_, rfl⟩
  have szAz1 : Az1.tmps.size = 233 := by rw [hAz1]; simp [put_sz, sz]
  have eAz119 : Az1.eval (.tmp 19) = .pointer (some ⟨R, 0, none⟩) := by rw [hAz1]; exact ((ev_ne _ _ (by decide)).trans ((ev_ne _ _ (by decide)).trans ((ev_ne _ _ (by decide)).trans ((ev_ne _ _ (by decide)).trans ((ev_ne _ _ (by decide)).trans ((ev_ne _ _ (by decide)).trans ((ev_ne _ _ (by decide)).trans ((ev_ne _ _ (by decide)).trans ((ev_ne _ _ (by decide)).trans e19)))))))))
  have eAz1165 : Az1.eval (.tmp 165) = .bool false := by rw [hAz1]; exact (ev_eq _ _ (by simp [put_sz, sz]))
  rw [← hAz1]
  refine wpAnyG_take (i := 9) (v := .bool false) rfl (by kernel_rfl) (by kernel_rfl) (by kernel_rfl) (fun _ _ _ h => nomatch h.1) (yg_mv (by simp [Region.wanted]) (.tmp 165) rfl eAz1165) hs1 ?_
  show wpAnyG _ _ _ _ _ _ _ _ (Az1.put (some 166) (.bool false)) _
  refine wpAnyG_take (i := 10) (v := .pointer (some ⟨R, 1, none⟩)) rfl (by kernel_rfl) (by kernel_rfl) (by kernel_rfl) (fun _ _ _ h => nomatch h.1) (yg_fld (guard_f (i := 9) (d := 166) rfl rfl (by simp [put_sz, szAz1]) (ev_eq _ _ (by simp [szAz1]))) (.tmp 19) rfl ((ev_ne _ _ (by decide)).trans eAz119) (fun w => by simp [go_sem])) hs1 ?_
  show wpAnyG _ _ _ _ _ _ _ _ ((Az1.put (some 166) (.bool false)).put (some 167) (.pointer (some ⟨R, 1, none⟩))) _
  refine wpAnyG_take (i := 11) (v := .slice (some ⟨b, o, none⟩) 3 cp) rfl (by kernel_rfl) (by kernel_rfl) (by kernel_rfl) (fun _ _ _ h => nomatch h.1) (yg_ld (guard_f (i := 9) (d := 166) rfl rfl (by simp [put_sz, szAz1]) ((ev_ne _ _ (by decide)).trans (ev_eq _ _ (by simp [szAz1])))) (.tmp 167) rfl (ev_eq _ _ (by simp [put_sz, szAz1])) (fun w hw => by have h1 := hw.k1; simp [go_sem, h1])) hs1 ?_
  show wpAnyG _ _ _ _ _ _ _ _ (((Az1.put (some 166) (.bool false)).put (some 167) (.pointer (some ⟨R, 1, none⟩))).put (some 168) (.slice (some ⟨b, o, none⟩) 3 cp)) _
  refine wpAnyG_take (i := 12) (v := .int .i64 3) rfl (by kernel_rfl) (by kernel_rfl) (by kernel_rfl) (fun _ _ _ h => nomatch h.1) (yg_len (guard_f (i := 9) (d := 166) rfl rfl (by simp [put_sz, szAz1]) ((ev_ne _ _ (by decide)).trans ((ev_ne _ _ (by decide)).trans (ev_eq _ _ (by simp [szAz1]))))) 168 rfl (ev_eq _ _ (by simp [put_sz, szAz1])) (fun w _ => by simp [go_sem])) hs1 ?_
  show wpAnyG _ _ _ _ _ _ _ _ ((((Az1.put (some 166) (.bool false)).put (some 167) (.pointer (some ⟨R, 1, none⟩))).put (some 168) (.slice (some ⟨b, o, none⟩) 3 cp)).put (some 169) (.int .i64 3)) _
  refine wpAnyG_take (i := 13) (v := .bool false) rfl (by kernel_rfl) (by kernel_rfl) (by kernel_rfl) (fun _ _ _ h => nomatch h.1) (yg_bin (guard_f (i := 9) (d := 166) rfl rfl (by simp [put_sz, szAz1]) ((ev_ne _ _ (by decide)).trans ((ev_ne _ _ (by decide)).trans ((ev_ne _ _ (by decide)).trans (ev_eq _ _ (by simp [szAz1])))))) (.tmp 169) (.const (.int .i64 3)) rfl (ev_eq _ _ (by simp [put_sz, szAz1])) rfl (fun w => by simp [go_sem])) hs1 ?_
  show wpAnyG _ _ _ _ _ _ _ _ (((((Az1.put (some 166) (.bool false)).put (some 167) (.pointer (some ⟨R, 1, none⟩))).put (some 168) (.slice (some ⟨b, o, none⟩) 3 cp)).put (some 169) (.int .i64 3)).put (some 170) (.bool false)) _
  refine wpAnyG_take (i := 14) (v := .bool false) rfl (by kernel_rfl) (by kernel_rfl) (by kernel_rfl) (fun _ _ _ h => nomatch h.1) (yg_pickF (by simp [Region.wanted]) (.tmp 166) (.const (.bool true)) (.tmp 170) rfl ((ev_ne _ _ (by decide)).trans ((ev_ne _ _ (by decide)).trans ((ev_ne _ _ (by decide)).trans ((ev_ne _ _ (by decide)).trans (ev_eq _ _ (by simp [szAz1])))))) (ev_eq _ _ (by simp [put_sz, szAz1]))) hs1 ?_
  show wpAnyG _ _ _ _ _ _ _ _ ((((((Az1.put (some 166) (.bool false)).put (some 167) (.pointer (some ⟨R, 1, none⟩))).put (some 168) (.slice (some ⟨b, o, none⟩) 3 cp)).put (some 169) (.int .i64 3)).put (some 170) (.bool false)).put (some 171) (.bool false)) _
  refine wpAnyG_take (i := 15) (v := .bool false) rfl (by kernel_rfl) (by kernel_rfl) (by kernel_rfl) (fun _ _ _ h => nomatch h.1) (yg_mv (by simp [Region.wanted]) (.tmp 171) rfl (ev_eq _ _ (by simp [put_sz, szAz1]))) hs1 ?_
  show wpAnyG _ _ _ _ _ _ _ _ (((((((Az1.put (some 166) (.bool false)).put (some 167) (.pointer (some ⟨R, 1, none⟩))).put (some 168) (.slice (some ⟨b, o, none⟩) 3 cp)).put (some 169) (.int .i64 3)).put (some 170) (.bool false)).put (some 171) (.bool false)).put (some 172) (.bool false)) _
  refine wpAnyG_take (i := 16) (v := .pointer (some ⟨R, 1, none⟩)) rfl (by kernel_rfl) (by kernel_rfl) (by kernel_rfl) (fun _ _ _ h => nomatch h.1) (yg_fld (guard_f (i := 15) (d := 172) rfl rfl (by simp [put_sz, szAz1]) (ev_eq _ _ (by simp [put_sz, szAz1]))) (.tmp 19) rfl ((ev_ne _ _ (by decide)).trans ((ev_ne _ _ (by decide)).trans ((ev_ne _ _ (by decide)).trans ((ev_ne _ _ (by decide)).trans ((ev_ne _ _ (by decide)).trans ((ev_ne _ _ (by decide)).trans ((ev_ne _ _ (by decide)).trans eAz119))))))) (fun w => by simp [go_sem])) hs1 ?_
  show wpAnyG _ _ _ _ _ _ _ _ ((((((((Az1.put (some 166) (.bool false)).put (some 167) (.pointer (some ⟨R, 1, none⟩))).put (some 168) (.slice (some ⟨b, o, none⟩) 3 cp)).put (some 169) (.int .i64 3)).put (some 170) (.bool false)).put (some 171) (.bool false)).put (some 172) (.bool false)).put (some 173) (.pointer (some ⟨R, 1, none⟩))) _
  refine wpAnyG_take (i := 17) (v := .slice (some ⟨b, o, none⟩) 3 cp) rfl (by kernel_rfl) (by kernel_rfl) (by kernel_rfl) (fun _ _ _ h => nomatch h.1) (yg_ld (guard_f (i := 15) (d := 172) rfl rfl (by simp [put_sz, szAz1]) ((ev_ne _ _ (by decide)).trans (ev_eq _ _ (by simp [put_sz, szAz1])))) (.tmp 173) rfl (ev_eq _ _ (by simp [put_sz, szAz1])) (fun w hw => by have h1 := hw.k1; simp [go_sem, h1])) hs1 ?_
  show wpAnyG _ _ _ _ _ _ _ _ (((((((((Az1.put (some 166) (.bool false)).put (some 167) (.pointer (some ⟨R, 1, none⟩))).put (some 168) (.slice (some ⟨b, o, none⟩) 3 cp)).put (some 169) (.int .i64 3)).put (some 170) (.bool false)).put (some 171) (.bool false)).put (some 172) (.bool false)).put (some 173) (.pointer (some ⟨R, 1, none⟩))).put (some 174) (.slice (some ⟨b, o, none⟩) 3 cp)) _
  obtain ⟨Az2, hAz2⟩ : ∃ Az2, Az2 = (((((((((Az1.put (some 166) (.bool false)).put (some 167) (.pointer (some ⟨R, 1, none⟩))).put (some 168) (.slice (some ⟨b, o, none⟩) 3 cp)).put (some 169) (.int .i64 3)).put (some 170) (.bool false)).put (some 171) (.bool false)).put (some 172) (.bool false)).put (some 173) (.pointer (some ⟨R, 1, none⟩))).put (some 174) (.slice (some ⟨b, o, none⟩) 3 cp)) := ⟨_, rfl⟩
  have szAz2 : Az2.tmps.size = 233 := by rw [hAz2]; simp [put_sz, szAz1]
  have eAz219 : Az2.eval (.tmp 19) = .pointer (some ⟨R, 0, none⟩) := by rw [hAz2]; exact ((ev_ne _ _ (by decide)).trans ((ev_ne _ _ (by decide)).trans ((ev_ne _ _ (by decide)).trans ((ev_ne _ _ (by decide)).trans ((ev_ne _ _ (by decide)).trans ((ev_ne _ _ (by decide)).trans ((ev_ne _ _ (by decide)).trans ((ev_ne _ _ (by decide)).trans ((ev_ne _ _ (by decide)).trans eAz119)))))))))
  have eAz2172 : Az2.eval (.tmp 172) = .bool false := by rw [hAz2]; exact ((ev_ne _ _ (by decide)).trans ((ev_ne _ _ (by decide)).trans (ev_eq _ _ (by simp [put_sz, szAz1]))))
  have eAz2174 : Az2.eval (.tmp 174) = .slice (some ⟨b, o, none⟩) 3 cp := by rw [hAz2]; exact (ev_eq _ _ (by simp [put_sz, szAz1]))
  rw [← hAz2]
  refine wpAnyG_take (i := 18) (v := .pointer (some ⟨b, o + 1, none⟩)) rfl (by kernel_rfl) (by kernel_rfl) (by kernel_rfl) (fun _ _ _ h => nomatch h.1) (yg_ix (guard_f (i := 15) (d := 172) rfl rfl (by simp [szAz2]) eAz2172) (.tmp 174) (.const (.int .i64 1)) rfl eAz2174 rfl (fun w => by simp [go_sem])) hs1 ?_
  show wpAnyG _ _ _ _ _ _ _ _ (Az2.put (some 175) (.pointer (some ⟨b, o + 1, none⟩))) _
  refine wpAnyG_take (i := 19) (v := .string q) rfl (by kernel_rfl) (by kernel_rfl) (by kernel_rfl) (fun _ _ _ h => nomatch h.1) (yg_ld (guard_f (i := 15) (d := 172) rfl rfl (by simp [put_sz, szAz2]) ((ev_ne _ _ (by decide)).trans eAz2172)) (.tmp 175) rfl (ev_eq _ _ (by simp [szAz2])) (fun w hw => by have h1 := hw.2.1.2.1; simp [go_sem, h1])) hs1 ?_
  show wpAnyG _ _ _ _ _ _ _ _ ((Az2.put (some 175) (.pointer (some ⟨b, o + 1, none⟩))).put (some 176) (.string q)) _
  refine wpAnyG_take (i := 20) (v := .int .i64 (q.size : Int)) rfl (by kernel_rfl) (by kernel_rfl) (by kernel_rfl) (fun _ _ _ h => nomatch h.1) (yg_len (guard_f (i := 15) (d := 172) rfl rfl (by simp [put_sz, szAz2]) ((ev_ne _ _ (by decide)).trans ((ev_ne _ _ (by decide)).trans eAz2172))) 176 rfl (ev_eq _ _ (by simp [put_sz, szAz2])) (fun w _ => by simp [go_sem])) hs1 ?_
  show wpAnyG _ _ _ _ _ _ _ _ (((Az2.put (some 175) (.pointer (some ⟨b, o + 1, none⟩))).put (some 176) (.string q)).put (some 177) (.int .i64 (q.size : Int))) _
  refine wpAnyG_take (i := 21) (v := .bool false) rfl (by kernel_rfl) (by kernel_rfl) (by kernel_rfl) (fun _ _ _ h => nomatch h.1) (yg_bin (guard_f (i := 15) (d := 172) rfl rfl (by simp [put_sz, szAz2]) ((ev_ne _ _ (by decide)).trans ((ev_ne _ _ (by decide)).trans ((ev_ne _ _ (by decide)).trans eAz2172)))) (.tmp 177) (.const (.int .i64 12)) rfl (ev_eq _ _ (by simp [put_sz, szAz2])) rfl (fun w => by simp [go_sem, hq])) hs1 ?_
  show wpAnyG _ _ _ _ _ _ _ _ ((((Az2.put (some 175) (.pointer (some ⟨b, o + 1, none⟩))).put (some 176) (.string q)).put (some 177) (.int .i64 (q.size : Int))).put (some 178) (.bool false)) _
  refine wpAnyG_take (i := 22) (v := .bool false) rfl (by kernel_rfl) (by kernel_rfl) (by kernel_rfl) (fun _ _ _ h => nomatch h.1) (yg_pickF (by simp [Region.wanted]) (.tmp 172) (.const (.bool true)) (.tmp 178) rfl ((ev_ne _ _ (by decide)).trans ((ev_ne _ _ (by decide)).trans ((ev_ne _ _ (by decide)).trans ((ev_ne _ _ (by decide)).trans eAz2172)))) (ev_eq _ _ (by simp [put_sz, szAz2]))) hs1 ?_
  show wpAnyG _ _ _ _ _ _ _ _ (((((Az2.put (some 175) (.pointer (some ⟨b, o + 1, none⟩))).put (some 176) (.string q)).put (some 177) (.int .i64 (q.size : Int))).put (some 178) (.bool false)).put (some 179) (.bool false)) _
  refine wpAnyG_take (i := 23) (v := .bool false) rfl (by kernel_rfl) (by kernel_rfl) (by kernel_rfl) (fun _ _ _ h => nomatch h.1) (yg_mv (by simp [Region.wanted]) (.tmp 179) rfl (ev_eq _ _ (by simp [put_sz, szAz2]))) hs1 ?_
  show wpAnyG _ _ _ _ _ _ _ _ ((((((Az2.put (some 175) (.pointer (some ⟨b, o + 1, none⟩))).put (some 176) (.string q)).put (some 177) (.int .i64 (q.size : Int))).put (some 178) (.bool false)).put (some 179) (.bool false)).put (some 180) (.bool false)) _
  refine wpAnyG_take (i := 24) (v := .pointer (some ⟨R, 1, none⟩)) rfl (by kernel_rfl) (by kernel_rfl) (by kernel_rfl) (fun _ _ _ h => nomatch h.1) (yg_fld (guard_f (i := 23) (d := 180) rfl rfl (by simp [put_sz, szAz2]) (ev_eq _ _ (by simp [put_sz, szAz2]))) (.tmp 19) rfl ((ev_ne _ _ (by decide)).trans ((ev_ne _ _ (by decide)).trans ((ev_ne _ _ (by decide)).trans ((ev_ne _ _ (by decide)).trans ((ev_ne _ _ (by decide)).trans ((ev_ne _ _ (by decide)).trans eAz219)))))) (fun w => by simp [go_sem])) hs1 ?_
  show wpAnyG _ _ _ _ _ _ _ _ (((((((Az2.put (some 175) (.pointer (some ⟨b, o + 1, none⟩))).put (some 176) (.string q)).put (some 177) (.int .i64 (q.size : Int))).put (some 178) (.bool false)).put (some 179) (.bool false)).put (some 180) (.bool false)).put (some 181) (.pointer (some ⟨R, 1, none⟩))) _
  refine wpAnyG_take (i := 25) (v := .slice (some ⟨b, o, none⟩) 3 cp) rfl (by kernel_rfl) (by kernel_rfl) (by kernel_rfl) (fun _ _ _ h => nomatch h.1) (yg_ld (guard_f (i := 23) (d := 180) rfl rfl (by simp [put_sz, szAz2]) ((ev_ne _ _ (by decide)).trans (ev_eq _ _ (by simp [put_sz, szAz2])))) (.tmp 181) rfl (ev_eq _ _ (by simp [put_sz, szAz2])) (fun w hw => by have h1 := hw.k1; simp [go_sem, h1])) hs1 ?_
  show wpAnyG _ _ _ _ _ _ _ _ ((((((((Az2.put (some 175) (.pointer (some ⟨b, o + 1, none⟩))).put (some 176) (.string q)).put (some 177) (.int .i64 (q.size : Int))).put (some 178) (.bool false)).put (some 179) (.bool false)).put (some 180) (.bool false)).put (some 181) (.pointer (some ⟨R, 1, none⟩))).put (some 182) (.slice (some ⟨b, o, none⟩) 3 cp)) _
  refine wpAnyG_take (i := 26) (v := .pointer (some ⟨b, o + 2, none⟩)) rfl (by kernel_rfl) (by kernel_rfl) (by kernel_rfl) (fun _ _ _ h => nomatch h.1) (yg_ix (guard_f (i := 23) (d := 180) rfl rfl (by simp [put_sz, szAz2]) ((ev_ne _ _ (by decide)).trans ((ev_ne _ _ (by decide)).trans (ev_eq _ _ (by simp [put_sz, szAz2]))))) (.tmp 182) (.const (.int .i64 2)) rfl (ev_eq _ _ (by simp [put_sz, szAz2])) rfl (fun w => by simp [go_sem])) hs1 ?_
  show wpAnyG _ _ _ _ _ _ _ _ (((((((((Az2.put (some 175) (.pointer (some ⟨b, o + 1, none⟩))).put (some 176) (.string q)).put (some 177) (.int .i64 (q.size : Int))).put (some 178) (.bool false)).put (some 179) (.bool false)).put (some 180) (.bool false)).put (some 181) (.pointer (some ⟨R, 1, none⟩))).put (some 182) (.slice (some ⟨b, o, none⟩) 3 cp)).put (some 183) (.pointer (some ⟨b, o + 2, none⟩))) _
  obtain ⟨Az3, hAz3⟩ : ∃ Az3, Az3 = (((((((((Az2.put (some 175) (.pointer (some ⟨b, o + 1, none⟩))).put (some 176) (.string q)).put (some 177) (.int .i64 (q.size : Int))).put (some 178) (.bool false)).put (some 179) (.bool false)).put (some 180) (.bool false)).put (some 181) (.pointer (some ⟨R, 1, none⟩))).put (some 182) (.slice (some ⟨b, o, none⟩) 3 cp)).put (some 183) (.pointer (some ⟨b, o + 2, none⟩))) := ⟨_, rfl⟩
  have szAz3 : Az3.tmps.size = 233 := by rw [hAz3]; simp [put_sz, szAz2]
  have eAz3180 : Az3.eval (.tmp 180) = .bool false := by rw [hAz3]; exact ((ev_ne _ _ (by decide)).trans ((ev_ne _ _ (by decide)).trans ((ev_ne _ _ (by decide)).trans (ev_eq _ _ (by simp [put_sz, szAz2])))))
  have eAz3183 : Az3.eval (.tmp 183) = .pointer (some ⟨b, o + 2, none⟩) := by rw [hAz3]; exact (ev_eq _ _ (by simp [put_sz, szAz2]))
  rw [← hAz3]
  refine wpAnyG_take (i := 27) (v := .string s) rfl (by kernel_rfl) (by kernel_rfl) (by kernel_rfl) (fun _ _ _ h => nomatch h.1) (yg_ld (guard_f (i := 23) (d := 180) rfl rfl (by simp [szAz3]) eAz3180) (.tmp 183) rfl eAz3183 (fun w hw => by have h1 := hw.2.1.2.2; simp [go_sem, h1])) hs1 ?_
  show wpAnyG _ _ _ _ _ _ _ _ (Az3.put (some 184) (.string s)) _
  refine wpAnyG_take (i := 28) (v := .int .i64 (s.size : Int)) rfl (by kernel_rfl) (by kernel_rfl) (by kernel_rfl) (fun _ _ _ h => nomatch h.1) (yg_len (guard_f (i := 23) (d := 180) rfl rfl (by simp [put_sz, szAz3]) ((ev_ne _ _ (by decide)).trans eAz3180)) 184 rfl (ev_eq _ _ (by simp [szAz3])) (fun w _ => by simp [go_sem])) hs1 ?_
  show wpAnyG _ _ _ _ _ _ _ _ ((Az3.put (some 184) (.string s)).put (some 185) (.int .i64 (s.size : Int))) _
  refine wpAnyG_take (i := 29) (v := .bool false) rfl (by kernel_rfl) (by kernel_rfl) (by kernel_rfl) (fun _ _ _ h => nomatch h.1) (yg_bin (guard_f (i := 23) (d := 180) rfl rfl (by simp [put_sz, szAz3]) ((ev_ne _ _ (by decide)).trans ((ev_ne _ _ (by decide)).trans eAz3180))) (.tmp 185) (.const (.int .i64 30)) rfl (ev_eq _ _ (by simp [put_sz, szAz3])) rfl (fun w => by simp [go_sem, hsz])) hs1 ?_
  show wpAnyG _ _ _ _ _ _ _ _ (((Az3.put (some 184) (.string s)).put (some 185) (.int .i64 (s.size : Int))).put (some 186) (.bool false)) _
  refine wpAnyG_take (i := 30) (v := .bool false) rfl (by kernel_rfl) (by kernel_rfl) (by kernel_rfl) (fun _ _ _ h => nomatch h.1) (yg_pickF (by simp [Region.wanted]) (.tmp 180) (.const (.bool true)) (.tmp 186) rfl ((ev_ne _ _ (by decide)).trans ((ev_ne _ _ (by decide)).trans ((ev_ne _ _ (by decide)).trans eAz3180))) (ev_eq _ _ (by simp [put_sz, szAz3]))) hs1 ?_
  show wpAnyG _ _ _ _ _ _ _ _ ((((Az3.put (some 184) (.string s)).put (some 185) (.int .i64 (s.size : Int))).put (some 186) (.bool false)).put (some 187) (.bool false)) _
  refine wpAnyG_done (by kernel_rfl) ⟨rfl, ?_, hs1, hb1⟩ _
  show ((((Az3.put (some 184) (.string s)).put (some 185) (.int .i64 (s.size : Int))).put (some 186) (.bool false)).put (some 187) (.bool false)) = _
  rw [hAz3, hAz2, hAz1]

set_option maxHeartbeats 4000000 in
theorem rld_region23 {V0 W5 : World} {B g R b o cp p i sm : Nat} {c : Ch} {A : Act} {e : Ev} {key t : ByteArray} {a0 : Option Addr} {n0 c0 : Nat} (sz : A.tmps.size = 233) (e4 : A.eval (.tmp 4) = .int .i64 (p : Int)) (e18 : A.eval (.tmp 18) = .int .i64 (i : Int)) (e19 : A.eval (.tmp 19) = .pointer (some ⟨R, 0, none⟩)) (hsm : IntKind.i64.wrap ((p : Int) + (i : Int)) = (sm : Int)) (hmm : IntKind.i64.wrap ((sm : Int) - 3) = (e.num : Int)) (e16 : A.eval (.tmp 16) = .pointer (some ⟨g, 0, none⟩)) (e20 : A.eval (.tmp 20) = .int .i64 (e.tim : Int)) (ok : Lens c) (hfew : c.ev.length ≤ 1000) (H0 : RAt V0 B g (.slice a0 n0 c0) c) (hB : B ≤ V0.heap.size) (hneR : (Value.slice a0 n0 c0).ownBlock ≠ some R) (hneb : (Value.slice a0 n0 c0).ownBlock ≠ some b) (hV0 : V0 = W5.drew) (hs0 : TE R b o cp key t e.what e.who (fun V => V.heap[g]? = some (.cells (rfcells c (.slice a0 n0 c0)).toArray 58 (0, 0))) V0) :
    (codeRLd 23).wp Tryd.prog (fun x a V => x = .normal ∧ ∃ k cap, a = (((((((((((((((((((((((A.put (some 209) (.pointer (some ⟨g, 0, none⟩))).put (some 210) (.pointer (some ⟨g, 0, none⟩))).put (some 211) (.pointer (some ⟨g, 0, none⟩))).put (some 212) (.pointer (some ⟨g, 99, none⟩))).put (some 213) (.slice a0 n0 c0)).put (some 214) (.int .i64 (p : Int))).put (some 215) (.int .i64 (i : Int))).put (some 216) (.int .i64 (sm : Int))).put (some 217) (.int .i64 (e.num : Int))).put (some 218) (.int .i64 (e.tim : Int))).put (some 219) (.pointer (some ⟨R, 1, none⟩))).put (some 220) (.slice (some ⟨b, o, none⟩) 3 cp)).put (some 221) (.pointer (some ⟨b, o + 1, none⟩))).put (some 222) (.string e.what)).put (some 223) (.pointer (some ⟨R, 1, none⟩))).put (some 224) (.slice (some ⟨b, o, none⟩) 3 cp)).put (some 225) (.pointer (some ⟨b, o + 2, none⟩))).put (some 226) (.string e.who)).put (some 227) (.agg (eVals e).toArray)).put (some 228) (.slice (some ⟨V0.heap.size, 0, none⟩) 1 1)).put (some 229) (.slice (some ⟨k, 0, none⟩) (c.ev ++ [e]).length cap)).put (some 230) (.pointer (some ⟨g, 0, none⟩))).put (some 231) (.pointer (some ⟨g, 99, none⟩))) ∧ RAt V B g (.slice (some ⟨k, 0, none⟩) (c.ev ++ [e]).length cap) { c with ev := c.ev ++ [e] } ∧ Below B V0 V) A W5 := by
  have hm : Tryd.prog.follows .mixedOrders = true := by kernel_rfl
  unfold codeRLd
  conv => arg 2; whnf
  refine wp_region_G (fun i => i == 23) (TE R b o cp key t e.what e.who (fun V => V.heap[g]? = some (.cells (rfcells c (.slice a0 n0 c0)).toArray 58 (0, 0)))) hm ?_
  rw [show ({ W5 with drawn := W5.drawn + 1 } : World) = V0 from hV0.symm]
  refine wpAnyG_take (i := 0) (v := .pointer (some ⟨g, 0, none⟩)) rfl (by kernel_rfl) (by kernel_rfl) (by kernel_rfl) (fun _ _ _ h => nomatch h.1) (yg_mv (by simp [Region.wanted]) (.tmp 16) rfl e16) hs0 ?_
  show wpAnyG _ _ _ _ _ _ _ _ (A.put (some 209) (.pointer (some ⟨g, 0, none⟩))) _
  refine wpAnyG_take (i := 1) (v := .pointer (some ⟨g, 0, none⟩)) rfl (by kernel_rfl) (by kernel_rfl) (by kernel_rfl) (fun _ _ _ h => nomatch h.1) (yg_mv (by simp [Region.wanted]) (.tmp 16) rfl ((ev_ne _ _ (by decide)).trans e16)) hs0 ?_
  show wpAnyG _ _ _ _ _ _ _ _ ((A.put (some 209) (.pointer (some ⟨g, 0, none⟩))).put (some 210) (.pointer (some ⟨g, 0, none⟩))) _
  refine wpAnyG_take (i := 2) (v := .pointer (some ⟨g, 0, none⟩)) rfl (by kernel_rfl) (by kernel_rfl) (by kernel_rfl) (fun _ _ _ h => nomatch h.1) (yg_nil (by simp [Region.wanted]) (.tmp 210) rfl (ev_eq _ _ (by simp [put_sz, sz]))) hs0 ?_
  show wpAnyG _ _ _ _ _ _ _ _ (((A.put (some 209) (.pointer (some ⟨g, 0, none⟩))).put (some 210) (.pointer (some ⟨g, 0, none⟩))).put (some 211) (.pointer (some ⟨g, 0, none⟩))) _
  refine wpAnyG_take (i := 3) (v := .pointer (some ⟨g, 99, none⟩)) rfl (by kernel_rfl) (by kernel_rfl) (by kernel_rfl) (fun _ _ _ h => nomatch h.1) (yg_fld (by simp [Region.wanted]) (.tmp 211) rfl (ev_eq _ _ (by simp [put_sz, sz])) (fun w => by simp [go_sem])) hs0 ?_
  show wpAnyG _ _ _ _ _ _ _ _ ((((A.put (some 209) (.pointer (some ⟨g, 0, none⟩))).put (some 210) (.pointer (some ⟨g, 0, none⟩))).put (some 211) (.pointer (some ⟨g, 0, none⟩))).put (some 212) (.pointer (some ⟨g, 99, none⟩))) _
  refine wpAnyG_take (i := 4) (v := .slice a0 n0 c0) rfl (by kernel_rfl) (by kernel_rfl) (by kernel_rfl) (fun _ _ _ h => nomatch h.1) (yg_ld (by simp [Region.wanted]) (.tmp 212) rfl (ev_eq _ _ (by simp [put_sz, sz])) (fun w hw => by have h1 := cell_99 hw.2.2 ok; simp [go_sem, h1])) hs0 ?_
  show wpAnyG _ _ _ _ _ _ _ _ (((((A.put (some 209) (.pointer (some ⟨g, 0, none⟩))).put (some 210) (.pointer (some ⟨g, 0, none⟩))).put (some 211) (.pointer (some ⟨g, 0, none⟩))).put (some 212) (.pointer (some ⟨g, 99, none⟩))).put (some 213) (.slice a0 n0 c0)) _
  refine wpAnyG_take (i := 5) (v := .int .i64 (p : Int)) rfl (by kernel_rfl) (by kernel_rfl) (by kernel_rfl) (fun _ _ _ h => nomatch h.1) (yg_mv (by simp [Region.wanted]) (.tmp 4) rfl ((ev_ne _ _ (by decide)).trans ((ev_ne _ _ (by decide)).trans ((ev_ne _ _ (by decide)).trans ((ev_ne _ _ (by decide)).trans ((ev_ne _ _ (by decide)).trans e4)))))) hs0 ?_
  show wpAnyG _ _ _ _ _ _ _ _ ((((((A.put (some 209) (.pointer (some ⟨g, 0, none⟩))).put (some 210) (.pointer (some ⟨g, 0, none⟩))).put (some 211) (.pointer (some ⟨g, 0, none⟩))).put (some 212) (.pointer (some ⟨g, 99, none⟩))).put (some 213) (.slice a0 n0 c0)).put (some 214) (.int .i64 (p : Int))) _
  refine wpAnyG_take (i := 6) (v := .int .i64 (i : Int)) rfl (by kernel_rfl) (by kernel_rfl) (by kernel_rfl) (fun _ _ _ h => nomatch h.1) (yg_mv (by simp [Region.wanted]) (.tmp 18) rfl ((ev_ne _ _ (by decide)).trans ((ev_ne _ _ (by decide)).trans ((ev_ne _ _ (by decide)).trans ((ev_ne _ _ (by decide)).trans ((ev_ne _ _ (by decide)).trans ((ev_ne _ _ (by decide)).trans e18))))))) hs0 ?_
  show wpAnyG _ _ _ _ _ _ _ _ (((((((A.put (some 209) (.pointer (some ⟨g, 0, none⟩))).put (some 210) (.pointer (some ⟨g, 0, none⟩))).put (some 211) (.pointer (some ⟨g, 0, none⟩))).put (some 212) (.pointer (some ⟨g, 99, none⟩))).put (some 213) (.slice a0 n0 c0)).put (some 214) (.int .i64 (p : Int))).put (some 215) (.int .i64 (i : Int))) _
  refine wpAnyG_take (i := 7) (v := .int .i64 (sm : Int)) rfl (by kernel_rfl) (by kernel_rfl) (by kernel_rfl) (fun _ _ _ h => nomatch h.1) (y_addi (by simp [Region.wanted]) (.tmp 214) (.tmp 215) rfl _ _ _ ((ev_ne _ _ (by decide)).trans (ev_eq _ _ (by simp [put_sz, sz]))) (ev_eq _ _ (by simp [put_sz, sz])) hsm) hs0 ?_
  show wpAnyG _ _ _ _ _ _ _ _ ((((((((A.put (some 209) (.pointer (some ⟨g, 0, none⟩))).put (some 210) (.pointer (some ⟨g, 0, none⟩))).put (some 211) (.pointer (some ⟨g, 0, none⟩))).put (some 212) (.pointer (some ⟨g, 99, none⟩))).put (some 213) (.slice a0 n0 c0)).put (some 214) (.int .i64 (p : Int))).put (some 215) (.int .i64 (i : Int))).put (some 216) (.int .i64 (sm : Int))) _
  refine wpAnyG_take (i := 8) (v := .int .i64 (e.num : Int)) rfl (by kernel_rfl) (by kernel_rfl) (by kernel_rfl) (fun _ _ _ h => nomatch h.1) (y_subi (by simp [Region.wanted]) (.tmp 216) (.const (.int .i64 3)) rfl _ _ _ (ev_eq _ _ (by simp [put_sz, sz])) rfl hmm) hs0 ?_
  show wpAnyG _ _ _ _ _ _ _ _ (((((((((A.put (some 209) (.pointer (some ⟨g, 0, none⟩))).put (some 210) (.pointer (some ⟨g, 0, none⟩))).put (some 211) (.pointer (some ⟨g, 0, none⟩))).put (some 212) (.pointer (some ⟨g, 99, none⟩))).put (some 213) (.slice a0 n0 c0)).put (some 214) (.int .i64 (p : Int))).put (some 215) (.int .i64 (i : Int))).put (some 216) (.int .i64 (sm : Int))).put (some 217) (.int .i64 (e.num : Int))) _
  obtain ⟨Az1, hAz1⟩ : ∃ Az1, Az1 = (((((((((A.put (some 209) (.pointer (some ⟨g, 0, none⟩))).put (some 210) (.pointer (some ⟨g, 0, none⟩))).put (some 211) (.pointer (some ⟨g, 0, none⟩))).put (some 212) (.pointer (some ⟨g, 99, none⟩))).put (some 213) (.slice a0 n0 c0)).put (some 214) (.int .i64 (p : Int))).put (some 215) (.int .i64 (i : Int))).put (some 216) (.int .i64 (sm : Int))).put (some 217) (.int .i64 (e.num : Int))) := ⟨_, rfl⟩
  have szAz1 : Az1.tmps.size = 233 := by rw [hAz1]; simp [put_sz, sz]
  have eAz119 : Az1.eval (.tmp 19) = .pointer (some ⟨R, 0, none⟩) := by rw [hAz1]; exact ((ev_ne _ _ (by decide)).trans ((ev_ne _ _ (by decide)).trans ((ev_ne _ _ (by decide)).trans ((ev_ne _ _ (by decide)).trans ((ev_ne _ _ (by decide)).trans ((ev_ne _ _ (by decide)).trans ((ev_ne _ _ (by decide)).trans ((ev_ne _ _ (by decide)).trans ((ev_ne _ _ (by decide)).trans e19)))))))))
  have eAz120 : Az1.eval (.tmp 20) = .int .i64 (e.tim : Int) := by rw [hAz1]; exact ((ev_ne _ _ (by decide)).trans ((ev_ne _ _ (by decide)).trans ((ev_ne _ _ (by decide)).trans ((ev_ne _ _ (by decide)).trans ((ev_ne _ _ (by decide)).trans ((ev_ne _ _ (by decide)).trans ((ev_ne _ _ (by decide)).trans ((ev_ne _ _ (by decide)).trans ((ev_ne _ _ (by decide)).trans e20)))))))))
  have eAz1209 : Az1.eval (.tmp 209) = .pointer (some ⟨g, 0, none⟩) := by rw [hAz1]; exact ((ev_ne _ _ (by decide)).trans ((ev_ne _ _ (by decide)).trans ((ev_ne _ _ (by decide)).trans ((ev_ne _ _ (by decide)).trans ((ev_ne _ _ (by decide)).trans ((ev_ne _ _ (by decide)).trans ((ev_ne _ _ (by decide)).trans ((ev_ne _ _ (by decide)).trans (ev_eq _ _ (by simp [sz]))))))))))
  have eAz1213 : Az1.eval (.tmp 213) = .slice a0 n0 c0 := by rw [hAz1]; exact ((ev_ne _ _ (by decide)).trans ((ev_ne _ _ (by decide)).trans ((ev_ne _ _ (by decide)).trans ((ev_ne _ _ (by decide)).trans (ev_eq _ _ (by simp [put_sz, sz]))))))
  have eAz1217 : Az1.eval (.tmp 217) = .int .i64 (e.num : Int) := by rw [hAz1]; exact (ev_eq _ _ (by simp [put_sz, sz]))
  rw [← hAz1]
  refine wpAnyG_take (i := 9) (v := .int .i64 (e.tim : Int)) rfl (by kernel_rfl) (by kernel_rfl) (by kernel_rfl) (fun _ _ _ h => nomatch h.1) (yg_mv (by simp [Region.wanted]) (.tmp 20) rfl eAz120) hs0 ?_
  show wpAnyG _ _ _ _ _ _ _ _ (Az1.put (some 218) (.int .i64 (e.tim : Int))) _
  refine wpAnyG_take (i := 10) (v := .pointer (some ⟨R, 1, none⟩)) rfl (by kernel_rfl) (by kernel_rfl) (by kernel_rfl) (fun _ _ _ h => nomatch h.1) (yg_fld (by simp [Region.wanted]) (.tmp 19) rfl ((ev_ne _ _ (by decide)).trans eAz119) (fun w => by simp [go_sem])) hs0 ?_
  show wpAnyG _ _ _ _ _ _ _ _ ((Az1.put (some 218) (.int .i64 (e.tim : Int))).put (some 219) (.pointer (some ⟨R, 1, none⟩))) _
  refine wpAnyG_take (i := 11) (v := .slice (some ⟨b, o, none⟩) 3 cp) rfl (by kernel_rfl) (by kernel_rfl) (by kernel_rfl) (fun _ _ _ h => nomatch h.1) (yg_ld (by simp [Region.wanted]) (.tmp 219) rfl (ev_eq _ _ (by simp [put_sz, szAz1])) (fun w hw => by have h1 := hw.k1; simp [go_sem, h1])) hs0 ?_
  show wpAnyG _ _ _ _ _ _ _ _ (((Az1.put (some 218) (.int .i64 (e.tim : Int))).put (some 219) (.pointer (some ⟨R, 1, none⟩))).put (some 220) (.slice (some ⟨b, o, none⟩) 3 cp)) _
  refine wpAnyG_take (i := 12) (v := .pointer (some ⟨b, o + 1, none⟩)) rfl (by kernel_rfl) (by kernel_rfl) (by kernel_rfl) (fun _ _ _ h => nomatch h.1) (yg_ix (by simp [Region.wanted]) (.tmp 220) (.const (.int .i64 1)) rfl (ev_eq _ _ (by simp [put_sz, szAz1])) rfl (fun w => by simp [go_sem])) hs0 ?_
  show wpAnyG _ _ _ _ _ _ _ _ ((((Az1.put (some 218) (.int .i64 (e.tim : Int))).put (some 219) (.pointer (some ⟨R, 1, none⟩))).put (some 220) (.slice (some ⟨b, o, none⟩) 3 cp)).put (some 221) (.pointer (some ⟨b, o + 1, none⟩))) _
  refine wpAnyG_take (i := 13) (v := .string e.what) rfl (by kernel_rfl) (by kernel_rfl) (by kernel_rfl) (fun _ _ _ h => nomatch h.1) (yg_ld (by simp [Region.wanted]) (.tmp 221) rfl (ev_eq _ _ (by simp [put_sz, szAz1])) (fun w hw => by have h1 := hw.2.1.2.1; simp [go_sem, h1])) hs0 ?_
  show wpAnyG _ _ _ _ _ _ _ _ (((((Az1.put (some 218) (.int .i64 (e.tim : Int))).put (some 219) (.pointer (some ⟨R, 1, none⟩))).put (some 220) (.slice (some ⟨b, o, none⟩) 3 cp)).put (some 221) (.pointer (some ⟨b, o + 1, none⟩))).put (some 222) (.string e.what)) _
  refine wpAnyG_take (i := 14) (v := .pointer (some ⟨R, 1, none⟩)) rfl (by kernel_rfl) (by kernel_rfl) (by kernel_rfl) (fun _ _ _ h => nomatch h.1) (yg_fld (by simp [Region.wanted]) (.tmp 19) rfl ((ev_ne _ _ (by decide)).trans ((ev_ne _ _ (by decide)).trans ((ev_ne _ _ (by decide)).trans ((ev_ne _ _ (by decide)).trans ((ev_ne _ _ (by decide)).trans eAz119))))) (fun w => by simp [go_sem])) hs0 ?_
  show wpAnyG _ _ _ _ _ _ _ _ ((((((Az1.put (some 218) (.int .i64 (e.tim : Int))).put (some 219) (.pointer (some ⟨R, 1, none⟩))).put (some 220) (.slice (some ⟨b, o, none⟩) 3 cp)).put (some 221) (.pointer (some ⟨b, o + 1, none⟩))).put (some 222) (.string e.what)).put (some 223) (.pointer (some ⟨R, 1, none⟩))) _
  refine wpAnyG_take (i := 15) (v := .slice (some ⟨b, o, none⟩) 3 cp) rfl (by kernel_rfl) (by kernel_rfl) (by kernel_rfl) (fun _ _ _ h => nomatch h.1) (yg_ld (by simp [Region.wanted]) (.tmp 223) rfl (ev_eq _ _ (by simp [put_sz, szAz1])) (fun w hw => by have h1 := hw.k1; simp [go_sem, h1])) hs0 ?_
  show wpAnyG _ _ _ _ _ _ _ _ (((((((Az1.put (some 218) (.int .i64 (e.tim : Int))).put (some 219) (.pointer (some ⟨R, 1, none⟩))).put (some 220) (.slice (some ⟨b, o, none⟩) 3 cp)).put (some 221) (.pointer (some ⟨b, o + 1, none⟩))).put (some 222) (.string e.what)).put (some 223) (.pointer (some ⟨R, 1, none⟩))).put (some 224) (.slice (some ⟨b, o, none⟩) 3 cp)) _
  refine wpAnyG_take (i := 16) (v := .pointer (some ⟨b, o + 2, none⟩)) rfl (by kernel_rfl) (by kernel_rfl) (by kernel_rfl) (fun _ _ _ h => nomatch h.1) (yg_ix (by simp [Region.wanted]) (.tmp 224) (.const (.int .i64 2)) rfl (ev_eq _ _ (by simp [put_sz, szAz1])) rfl (fun w => by simp [go_sem])) hs0 ?_
  show wpAnyG _ _ _ _ _ _ _ _ ((((((((Az1.put (some 218) (.int .i64 (e.tim : Int))).put (some 219) (.pointer (some ⟨R, 1, none⟩))).put (some 220) (.slice (some ⟨b, o, none⟩) 3 cp)).put (some 221) (.pointer (some ⟨b, o + 1, none⟩))).put (some 222) (.string e.what)).put (some 223) (.pointer (some ⟨R, 1, none⟩))).put (some 224) (.slice (some ⟨b, o, none⟩) 3 cp)).put (some 225) (.pointer (some ⟨b, o + 2, none⟩))) _
  refine wpAnyG_take (i := 17) (v := .string e.who) rfl (by kernel_rfl) (by kernel_rfl) (by kernel_rfl) (fun _ _ _ h => nomatch h.1) (yg_ld (by simp [Region.wanted]) (.tmp 225) rfl (ev_eq _ _ (by simp [put_sz, szAz1])) (fun w hw => by have h1 := hw.2.1.2.2; simp [go_sem, h1])) hs0 ?_
  show wpAnyG _ _ _ _ _ _ _ _ (((((((((Az1.put (some 218) (.int .i64 (e.tim : Int))).put (some 219) (.pointer (some ⟨R, 1, none⟩))).put (some 220) (.slice (some ⟨b, o, none⟩) 3 cp)).put (some 221) (.pointer (some ⟨b, o + 1, none⟩))).put (some 222) (.string e.what)).put (some 223) (.pointer (some ⟨R, 1, none⟩))).put (some 224) (.slice (some ⟨b, o, none⟩) 3 cp)).put (some 225) (.pointer (some ⟨b, o + 2, none⟩))).put (some 226) (.string e.who)) _
  obtain ⟨Az2, hAz2⟩ : ∃ Az2, Az2 = (((((((((Az1.put (some 218) (.int .i64 (e.tim : Int))).put (some 219) (.pointer (some ⟨R, 1, none⟩))).put (some 220) (.slice (some ⟨b, o, none⟩) 3 cp)).put (some 221) (.pointer (some ⟨b, o + 1, none⟩))).put (some 222) (.string e.what)).put (some 223) (.pointer (some ⟨R, 1, none⟩))).put (some 224) (.slice (some ⟨b, o, none⟩) 3 cp)).put (some 225) (.pointer (some ⟨b, o + 2, none⟩))).put (some 226) (.string e.who)) := ⟨_, rfl⟩
  have szAz2 : Az2.tmps.size = 233 := by rw [hAz2]; simp [put_sz, szAz1]
  have eAz2209 : Az2.eval (.tmp 209) = .pointer (some ⟨g, 0, none⟩) := by rw [hAz2]; exact ((ev_ne _ _ (by decide)).trans ((ev_ne _ _ (by decide)).trans ((ev_ne _ _ (by decide)).trans ((ev_ne _ _ (by decide)).trans ((ev_ne _ _ (by decide)).trans ((ev_ne _ _ (by decide)).trans ((ev_ne _ _ (by decide)).trans ((ev_ne _ _ (by decide)).trans ((ev_ne _ _ (by decide)).trans eAz1209)))))))))
  have eAz2213 : Az2.eval (.tmp 213) = .slice a0 n0 c0 := by rw [hAz2]; exact ((ev_ne _ _ (by decide)).trans ((ev_ne _ _ (by decide)).trans ((ev_ne _ _ (by decide)).trans ((ev_ne _ _ (by decide)).trans ((ev_ne _ _ (by decide)).trans ((ev_ne _ _ (by decide)).trans ((ev_ne _ _ (by decide)).trans ((ev_ne _ _ (by decide)).trans ((ev_ne _ _ (by decide)).trans eAz1213)))))))))
  have eAz2217 : Az2.eval (.tmp 217) = .int .i64 (e.num : Int) := by rw [hAz2]; exact ((ev_ne _ _ (by decide)).trans ((ev_ne _ _ (by decide)).trans ((ev_ne _ _ (by decide)).trans ((ev_ne _ _ (by decide)).trans ((ev_ne _ _ (by decide)).trans ((ev_ne _ _ (by decide)).trans ((ev_ne _ _ (by decide)).trans ((ev_ne _ _ (by decide)).trans ((ev_ne _ _ (by decide)).trans eAz1217)))))))))
  have eAz2218 : Az2.eval (.tmp 218) = .int .i64 (e.tim : Int) := by rw [hAz2]; exact ((ev_ne _ _ (by decide)).trans ((ev_ne _ _ (by decide)).trans ((ev_ne _ _ (by decide)).trans ((ev_ne _ _ (by decide)).trans ((ev_ne _ _ (by decide)).trans ((ev_ne _ _ (by decide)).trans ((ev_ne _ _ (by decide)).trans ((ev_ne _ _ (by decide)).trans (ev_eq _ _ (by simp [szAz1]))))))))))
  have eAz2222 : Az2.eval (.tmp 222) = .string e.what := by rw [hAz2]; exact ((ev_ne _ _ (by decide)).trans ((ev_ne _ _ (by decide)).trans ((ev_ne _ _ (by decide)).trans ((ev_ne _ _ (by decide)).trans (ev_eq _ _ (by simp [put_sz, szAz1]))))))
  have eAz2226 : Az2.eval (.tmp 226) = .string e.who := by rw [hAz2]; exact (ev_eq _ _ (by simp [put_sz, szAz1]))
  rw [← hAz2]
  refine wpAnyG_take (i := 18) (v := .agg (eVals e).toArray) rfl (by kernel_rfl) (by kernel_rfl) (by kernel_rfl) (fun _ _ _ h => nomatch h.1) (y_buildE (by simp [Region.wanted]) (.tmp 217) (.tmp 218) (.tmp 222) (.tmp 226) rfl e eAz2217 eAz2218 eAz2222 eAz2226) hs0 ?_
  show wpAnyG _ _ _ _ _ _ _ _ (Az2.put (some 227) (.agg (eVals e).toArray)) _
  refine wpAnyG_all (rs := [19]) (by kernel_rfl) (by simp) fun i1 hm1 => ?_
  obtain rfl : i1 = 19 := by simpa using hm1
  refine wpOp_own rfl rfl fun K1 hK1 => ?_
  refine wp_buildE (.tmp 227) rfl e (ev_eq _ _ (by simp [szAz2])) ?_
  have b01 : Below V0.heap.size V0 (V0.alloc (.cells (eVals e).toArray 60)) := (Below.refl _ V0).alloc (Nat.le_refl _) _
  have H1 := H0.below b01
  have hs1 := hs0.keep b01 H1.obj
  refine hK1 _ _ ⟨.inr hs1, ?_⟩
  clear hK1 K1 hm1
  show wpAnyG _ _ _ _ _ _ _ _ ((Az2.put (some 227) (.agg (eVals e).toArray)).put (some 228) (.slice (some ⟨V0.heap.size, 0, none⟩) 1 1)) _
  refine wpAnyG_all (rs := [20]) (by kernel_rfl) (by simp) fun i2 hm2 => ?_
  obtain rfl : i2 = 20 := by simpa using hm2
  refine wpOp_own rfl rfl fun K2 hK2 => ?_
  refine wp_appE _ (.tmp 213) (.tmp 228) rfl B (.slice a0 n0 c0) c.ev ((ev_ne _ _ (by decide)).trans ((ev_ne _ _ (by decide)).trans eAz2213)) H1.row e V0.heap.size (ev_eq _ _ (by simp [put_sz, szAz2])) (range_new V0 e) hfew (Nat.le_trans hB b01.size) ?_
  intro k cap V2 hown hgrow hk
  have o2 : V2.heap[g]? = some (.cells (rfcells c (.slice a0 n0 c0)).toArray 58 (0, 0)) := (hgrow.block g H1.lt (fun x => H1.ne g x.symm rfl)).trans H1.obj
  have hs2 := hs1.grown hgrow hneR hneb o2
  refine hK2 _ _ ⟨.inr hs2, ?_⟩
  clear hK2 K2 hm2
  show wpAnyG _ _ _ _ _ _ _ _ (((Az2.put (some 227) (.agg (eVals e).toArray)).put (some 228) (.slice (some ⟨V0.heap.size, 0, none⟩) 1 1)).put (some 229) (.slice (some ⟨k, 0, none⟩) (c.ev ++ [e]).length cap)) _
  refine wpAnyG_one (i := 21) (v := .pointer (some ⟨g, 0, none⟩)) rfl (by kernel_rfl) (yg_nil (by simp [Region.wanted]) (.tmp 209) rfl ((ev_ne _ _ (by decide)).trans ((ev_ne _ _ (by decide)).trans ((ev_ne _ _ (by decide)).trans eAz2209)))) hs2 ?_
  show wpAnyG _ _ _ _ _ _ _ _ ((((Az2.put (some 227) (.agg (eVals e).toArray)).put (some 228) (.slice (some ⟨V0.heap.size, 0, none⟩) 1 1)).put (some 229) (.slice (some ⟨k, 0, none⟩) (c.ev ++ [e]).length cap)).put (some 230) (.pointer (some ⟨g, 0, none⟩))) _
  refine wpAnyG_one (i := 22) (v := .pointer (some ⟨g, 99, none⟩)) rfl (by kernel_rfl) (yg_fld (by simp [Region.wanted]) (.tmp 230) rfl (ev_eq _ _ (by simp [put_sz, szAz2])) (fun w => by simp [go_sem])) hs2 ?_
  show wpAnyG _ _ _ _ _ _ _ _ (((((Az2.put (some 227) (.agg (eVals e).toArray)).put (some 228) (.slice (some ⟨V0.heap.size, 0, none⟩) 1 1)).put (some 229) (.slice (some ⟨k, 0, none⟩) (c.ev ++ [e]).length cap)).put (some 230) (.pointer (some ⟨g, 0, none⟩))).put (some 231) (.pointer (some ⟨g, 99, none⟩))) _
  obtain ⟨Az3, hAz3⟩ : ∃ Az3, Az3 = (((((Az2.put (some 227) (.agg (eVals e).toArray)).put (some 228) (.slice (some ⟨V0.heap.size, 0, none⟩) 1 1)).put (some 229) (.slice (some ⟨k, 0, none⟩) (c.ev ++ [e]).length cap)).put (some 230) (.pointer (some ⟨g, 0, none⟩))).put (some 231) (.pointer (some ⟨g, 99, none⟩))) := ⟨_, rfl⟩
  have szAz3 : Az3.tmps.size = 233 := by rw [hAz3]; simp [put_sz, szAz2]
  have eAz3229 : Az3.eval (.tmp 229) = .slice (some ⟨k, 0, none⟩) (c.ev ++ [e]).length cap := by rw [hAz3]; exact ((ev_ne _ _ (by decide)).trans ((ev_ne _ _ (by decide)).trans (ev_eq _ _ (by simp [put_sz, szAz2]))))
  have eAz3231 : Az3.eval (.tmp 231) = .pointer (some ⟨g, 99, none⟩) := by rw [hAz3]; exact (ev_eq _ _ (by simp [put_sz, szAz2]))
  rw [← hAz3]
  refine wpAnyG_all (rs := [23]) (by kernel_rfl) (by simp) fun i3 hm3 => ?_
  obtain rfl : i3 = 23 := by simpa using hm3
  refine wpOp_own rfl rfl fun K3 hK3 => ?_
  refine wp_storeV (.tmp 231) (.tmp 229) rfl g 99 (some ⟨k, 0, none⟩) _ cap (.slice a0 n0 c0) eAz3231 eAz3229 (cell_99 o2 ok) (frozen_of_row _ _ _ _ _ o2) ?_
  have hfin := added_rowR H1 ok hown hgrow hk o2 hB b01
  refine hK3 _ _ ⟨.inl rfl, wpAnyG_done (by kernel_rfl) ⟨rfl, k, cap, ?_, hfin.1, hfin.2⟩ _⟩
  show Az3 = _
  rw [hAz3, hAz2, hAz1]

end Go.Proofs.YthnciogaibhmcaaDoor

/- The reference's Load of a chain's own rows, by a contract. -/
namespace Go.Proofs.YthnciogaibhmcaaDoor
open Go.RowKit
set_option linter.unusedVariables false
set_option maxRecDepth 20000
def buildR14 (ps : Array (Nat × Value)) : Sem Value := Instr.build 58 ps
theorem buildR14_fold (ps : Array (Nat × Value)) : Instr.build 58 ps = buildR14 ps := rfl
attribute [local go_sem ↓] loadH_fold storeH_fold buildR14_fold
theorem built_r6 (p q s : Int) (x y z : List UInt8) (hx : x.length = 32) (hy : y.length = 32) (hz : z.length = 32) : Tryd.prog.built 58 [(0, .int .i64 p), (1, .int .i64 q), (2, .int .i64 s), (3, .agg (bvs x)), (4, .agg (bvs y)), (5, .agg (bvs z))] = some (([Value.int .i64 p, Value.int .i64 q, Value.int .i64 s] : List Value) ++ (cellsOf x ++ (cellsOf y ++ (cellsOf z ++ [Value.slice none 0 0])))).toArray := by
  obtain ⟨x0, x1, x2, x3, x4, x5, x6, x7, x8, x9, x10, x11, x12, x13, x14, x15, x16, x17, x18, x19, x20, x21, x22, x23, x24, x25, x26, x27, x28, x29, x30, x31, rfl⟩ := len32 x hx
  obtain ⟨y0, y1, y2, y3, y4, y5, y6, y7, y8, y9, y10, y11, y12, y13, y14, y15, y16, y17, y18, y19, y20, y21, y22, y23, y24, y25, y26, y27, y28, y29, y30, y31, rfl⟩ := len32 y hy
  obtain ⟨z0, z1, z2, z3, z4, z5, z6, z7, z8, z9, z10, z11, z12, z13, z14, z15, z16, z17, z18, z19, z20, z21, z22, z23, z24, z25, z26, z27, z28, z29, z30, z31, rfl⟩ := len32 z hz
  kernel_rfl
theorem lastT_step (c : Ch) (k : Nat) (hk : k < c.ev.length) : lastT (cutE c (k + 1)) = c.ev[k].tim := by
  unfold lastT cutE
  simp only
  rw [List.take_succ_eq_append_getElem hk, List.getLast?_append]
  simp
def RLoadPost (w : World) (c : Ch) (e : Ending) (w' : World) : Prop := ∃ g v, e = .returned (.tuple #[.pointer (some ⟨g, 0, none⟩), .int .i64 0]) ∧ RAt w' w.heap.size g v c ∧ Below w.heap.size w w'
set_option maxHeartbeats 16000000 in
theorem rLoad_ok {w : World} (b cap : Nat) (c : Ch) (hR : TxRows w b (rowsOf c)) (hd : Ldable c) (hcap : 4 + c.ev.length ≤ cap) :
    Calls Tryd.prog 14 #[.slice (some ⟨b, 0, none⟩) (4 + c.ev.length) cap] w (RLoadPost w c) := by
  have hlen := rowsOf_len c
  obtain ⟨a0, p0, u0, v0, s0⟩ := hR 0 (by omega)
  obtain ⟨a1, p1, u1, v1, s1⟩ := hR 1 (by omega)
  obtain ⟨a2, p2, u2, v2, s2⟩ := hR 2 (by omega)
  obtain ⟨a3, p3, u3, v3, s3⟩ := hR 3 (by omega)
  have x0 : w.cell? ⟨b, 0, none⟩ = some (.string ⟨#[35]⟩) := u0
  have y0 : w.cell? ⟨b, 1, none⟩ = some (.slice a0 3 p0) := v0
  have t0 : Texts w a0 ([c.bn, c.an, c.la].map txt) := s0
  have x1 : w.cell? ⟨b, 2, none⟩ = some (.string ⟨#[97]⟩) := u1
  have y1 : w.cell? ⟨b, 3, none⟩ = some (.slice a1 1 p1) := v1
  have t1 : Texts w a1 [mkB c.ah] := s1
  have x2 : w.cell? ⟨b, 4, none⟩ = some (.string ⟨#[98]⟩) := u2
  have y2 : w.cell? ⟨b, 5, none⟩ = some (.slice a2 1 p2) := v2
  have t2 : Texts w a2 [mkB c.bh] := s2
  have x3 : w.cell? ⟨b, 6, none⟩ = some (.string ⟨#[104]⟩) := u3
  have y3 : w.cell? ⟨b, 7, none⟩ = some (.slice a3 1 p3) := v3
  have t3 : Texts w a3 [mkB c.hd] := s3
  obtain ⟨b0, o0, rfl, j0⟩ := t0 0 (by simp)
  obtain ⟨b1, o1, e1, j1⟩ := t0 1 (by simp)
  cases e1
  obtain ⟨b2, o2, e2, j2⟩ := t0 2 (by simp)
  cases e2
  have k0 : w.cell? ⟨b0, o0, none⟩ = some (.string (txt c.bn)) := j0
  have k1 : w.cell? ⟨b0, o0 + 1, none⟩ = some (.string (txt c.an)) := j1
  have k2 : w.cell? ⟨b0, o0 + 2, none⟩ = some (.string (txt c.la)) := j2
  clear u0 v0 s0 u1 v1 s1 u2 v2 s2 u3 v3 s3 j0 j1 j2
  have num : ∀ n ≤ 4611686018427387904, ∀ W : World, Calls Tryd.prog 39 #[.string (txt n)] W fun e w' => e = .returned (.tuple #[.int .i64 (n : Int), .int .i64 0]) ∧ w' = W := fun n hn W => by
    have h := refToNumber_any (txt n) W (txt_len n hn)
    have e1 : (txt n).data.toList = numT n := rfl
    rw [e1, toNum_numT n hn] at h
    exact h
  have hbn := hd.bn
  have han := hd.an
  have hla := hd.la
  have hfew := hd.few
  have hanc := hd.anc
  have C1 := hid (num c.bn (by omega))
  have C2 := hid (num c.an (by omega))
  have C3 := hid (num c.la (by omega))
  have Num := hid num
  have HD := hid hd
  have HR := hid hR
  have T1 := hid t1
  have T2 := hid t2
  have T3 := hid t3
  obtain ⟨tp, htp⟩ : ∃ t, t = txt c.bn := ⟨_, rfl⟩
  obtain ⟨tq, htq⟩ : ∃ t, t = txt c.an := ⟨_, rfl⟩
  obtain ⟨ts, hts⟩ : ∃ t, t = txt c.la := ⟨_, rfl⟩
  rw [← htp] at k0 C1
  rw [← htq] at k1 C2
  rw [← hts] at k2 C3
  obtain ⟨Z, hZ⟩ : ∃ Z, Z = bvs zero32 := ⟨_, rfl⟩
  have zh := (zero_of_info zero_hash).1
  rw [show bvs (List.replicate 32 0) = Z from hZ.symm] at zh
  have hSt : ∀ (h : List UInt8), h.length = 32 → ∀ W : World, (storeH (.pointer (some ⟨W.heap.size, 0, none⟩)) (.agg (bvs h))).run Tryd.prog (W.alloc (.cells Z 49)) = .ok () (W.alloc (.cells (bvs h) 49)) := fun h hl W => by
    have := storeH_new W h zero32 hl (by decide)
    rw [show bvs zero32 = Z from hZ.symm] at this
    exact this
  obtain ⟨O1, hO1⟩ : ∃ O, O = bvs c.ah := ⟨_, rfl⟩
  obtain ⟨O2, hO2⟩ : ∃ O, O = bvs c.bh := ⟨_, rfl⟩
  obtain ⟨O3, hO3⟩ : ∃ O, O = bvs c.hd := ⟨_, rfl⟩
  have st1 := hSt c.ah hd.l.lan
  have st2 := hSt c.bh hd.l.lb
  have st3 := hSt c.hd hd.l.lh
  have hbl : Hid (Tryd.prog.built 58 [(0, .int .i64 (c.bn : Int)), (1, .int .i64 (c.an : Int)), (2, .int .i64 (c.la : Int)), (3, .agg (bvs c.bh)), (4, .agg (bvs c.ah)), (5, .agg (bvs c.hd))] = some (rfcells c (.slice none 0 0)).toArray) := built_r6 (c.bn : Int) (c.an : Int) (c.la : Int) c.bh c.ah c.hd hd.l.lb hd.l.lan hd.l.lh
  rw [← hO1] at st1 hbl
  rw [← hO2] at st2 hbl
  rw [← hO3] at st3 hbl
  have HO1 := hid hO1
  have HO2 := hid hO2
  have HO3 := hid hO3
  obtain ⟨RC, hRC⟩ : ∃ RC, RC = (rfcells c (.slice none 0 0)).toArray := ⟨_, rfl⟩
  rw [← hRC] at hbl
  have HRC := hid hRC
  have hB6 : ∀ W : World, (buildR14 #[(0, .int .i64 (c.bn : Int)), (1, .int .i64 (c.an : Int)), (2, .int .i64 (c.la : Int)), (3, .agg O2), (4, .agg O1), (5, .agg O3)]).run Tryd.prog W = .ok (.agg RC) W := fun W => run_build (P := Tryd.prog) W 58 #[(0, .int .i64 (c.bn : Int)), (1, .int .i64 (c.an : Int)), (2, .int .i64 (c.la : Int)), (3, .agg O2), (4, .agg O1), (5, .agg O3)] _ hbl.out
  obtain ⟨N, hN⟩ : ∃ N, N = 4 + c.ev.length := ⟨_, rfl⟩
  rw [← hN] at hcap ⊢
  have HN := hid hN
  have g4 : ¬ (N : Int) < 4 := by omega
  have g68 : ¬ (68 : Int) < (N : Int) := by omega
  have hn0 : 0 < N := by omega
  have hn1 : 1 < N := by omega
  have hn2 : 2 < N := by omega
  have hn3 : 3 < N := by omega
  have q1 : ¬ (1099511627776 : Int) < (c.bn : Int) := by omega
  have q2 : ¬ (1099511627776 : Int) < (c.an : Int) := by omega
  have q3 : ¬ (1099511627776 : Int) < (c.la : Int) := by omega
  have q4 : ¬ (c.bn : Int) + (N : Int) - 4 < (c.an : Int) := by unfold Ch.cnt at hanc; omega
  clear hN htp htq hts hZ hSt hO1 hO2 hO3 hRC hR hd num t0 t1 t2 t3 hlen
  go_enter Tryd.func14, Tryd.ntmps14
  go_wp2_with (first
    | (go_at_call 39; refine (C1.out _).mono ?_; rintro _ w9 ⟨rfl, e9⟩; subst w9; clear C1)
    | (go_at_call 39; refine (C2.out _).mono ?_; rintro _ w9 ⟨rfl, e9⟩; subst w9; clear C2)
    | (go_at_call 39; refine (C3.out _).mono ?_; rintro _ w9 ⟨rfl, e9⟩; subst w9; clear C3)
    | (go_at_call 40; refine (rhash_ok w ⟨#[97]⟩ c.ah HD.out.l.lan a1 p1 T1.out).mono ?_; rintro _ w1 ⟨rfl, hb1⟩; rw [← HO1.out]; have ha1 := (Below.refl _ w1).alloc (Nat.le_refl _) (.cells O1 49); have B1 := hid (Below.on' hb1 ha1); have X1 := hid (heap_alloc_new w1 (.cells O1 49)); have x2 := (B1.out.cell (World.block_lt_of_cell? _ _ x2)).trans x2; have y2 := (B1.out.cell (World.block_lt_of_cell? _ _ y2)).trans y2; clear hb1 ha1 T1)
    | (go_at_call 40; refine (rhash_ok _ ⟨#[98]⟩ c.bh HD.out.l.lb a2 p2 (T2.out.below B1.out)).mono ?_; rintro _ w2 ⟨rfl, hb2⟩; rw [← HO2.out]; have ha2 := (Below.refl _ w2).alloc (Nat.le_refl _) (.cells O2 49); have B2 := hid (Below.on' B1.out (Below.on' hb2 ha2)); have X12 := hid (((Below.on' hb2 ha2).block _ (heap_lt X1.out)).trans X1.out); have X2 := hid (heap_alloc_new w2 (.cells O2 49)); have x3 := (B2.out.cell (World.block_lt_of_cell? _ _ x3)).trans x3; have y3 := (B2.out.cell (World.block_lt_of_cell? _ _ y3)).trans y3; clear hb2 ha2 T2)
    | (go_at_call 40; refine (rhash_ok _ ⟨#[104]⟩ c.hd HD.out.l.lh a3 p3 (T3.out.below B2.out)).mono ?_; rintro _ w3 ⟨rfl, hb3⟩; rw [← HO3.out]; have ha3 := (Below.refl _ w3).alloc (Nat.le_refl _) (.cells O3 49); have B3 := hid (Below.on' B2.out (Below.on' hb3 ha3)); have X13 := ((Below.on' hb3 ha3).block _ (heap_lt X12.out)).trans X12.out; have X23 := ((Below.on' hb3 ha3).block _ (heap_lt X2.out)).trans X2.out; have X3 := heap_alloc_new w3 (.cells O3 49); have hL1 : (loadH (.pointer (some ⟨w1.heap.size, 0, none⟩))).run Tryd.prog (w3.alloc (.cells O3 49)) = .ok (.agg O1) (w3.alloc (.cells O3 49)) := loadH_run (l := c.ah) ⟨HO1.out, HD.out.l.lan⟩ X13; have hL2 : (loadH (.pointer (some ⟨w2.heap.size, 0, none⟩))).run Tryd.prog (w3.alloc (.cells O3 49)) = .ok (.agg O2) (w3.alloc (.cells O3 49)) := loadH_run (l := c.bh) ⟨HO2.out, HD.out.l.lb⟩ X23; have hL3 : (loadH (.pointer (some ⟨w3.heap.size, 0, none⟩))).run Tryd.prog (w3.alloc (.cells O3 49)) = .ok (.agg O3) (w3.alloc (.cells O3 49)) := loadH_run (l := c.hd) ⟨HO3.out, HD.out.l.lh⟩ X3; clear hb3 ha3 T3 X13 X23 X3))
  obtain ⟨g, hg⟩ : ∃ g, g = w3.heap.size + 1 := ⟨_, rfl⟩
  obtain ⟨W4, hW4⟩ : ∃ W4, W4 = (w3.alloc (.cells O3 49)).alloc (.cells RC 58) := ⟨_, rfl⟩
  have hz3 : (w3.alloc (.cells O3 49)).heap.size = w3.heap.size + 1 := by simp
  have b4 : Below w.heap.size w W4 := by rw [hW4]; exact Below.on' B3.out ((Below.refl _ _).alloc (Nat.le_refl _) _)
  have o4 : W4.heap[g]? = some (.cells (rfcells c (.slice none 0 0)).toArray 58 (0, 0)) := by
    rw [hW4, hg, ← hz3, ← HRC.out]
    exact heap_alloc_new _ _
  have hgw : w.heap.size ≤ g := by rw [hg, ← hz3]; exact B3.out.size
  have h4 : RAt W4 w.heap.size g (.slice none 0 0) (cutE c 0) := ⟨o4, World.ownsRow_nil _ _ _ _, hgw⟩
  rw [← hg, ← hW4]
  have H4 := hid h4
  have B4 := hid b4
  clear h4 b4 o4 hW4 hz3 hL1 hL2 hL3 x0 x1 x2 x3 y0 y1 y2 y3 k0 k1 k2 hg
  go_loopw [17, 18] (fun bf i wr => ∃ m : Nat, 4 ≤ m ∧ m ≤ N ∧ i = .int .i64 (m : Int) ∧ bf = .int .i64 (lastT (cutE c (m - 4)) : Int) ∧ ∃ v, RAt wr w.heap.size g v (cutE c (m - 4)) ∧ Below w.heap.size w wr) (fun _ i _ => N - (intOf i).toNat)
  case atStart => exact ⟨4, Nat.le_refl _, by have := HN.out; omega, rfl, rfl, _, H4.out, B4.out⟩
  case round =>
    obtain ⟨m, hm4, hmN, rfl, rfl, v, hch, hbel⟩ := hrel
    obtain ⟨av, cv, rfl⟩ := hch.val
    have Hch := hid hch
    have Hbel := hid hbel
    clear hch hbel H4 B4
    by_cases hlt : m < N
    · have g1 : decide ((m : Int) < (N : Int)) = true := by simp; omega
      obtain ⟨k, hk⟩ : ∃ k, k = m - 4 := ⟨_, rfl⟩
      have hkl : k < c.ev.length := by have := HN.out; omega
      obtain ⟨a, cp, u9, v9, t9⟩ := HR.out (4 + k) (by rw [rowsOf_len]; omega)
      rw [rowsOf_ev c k hkl] at u9 v9 t9
      have Hl := hid (HD.out.last k hkl)
      have Hst := hid (cutE_step c k hkl)
      have Hls := hid (lastT_step c k hkl)
      have Hnum := hid (HD.out.num k hkl)
      have Hsz := hid (HD.out.siz _ (List.getElem_mem hkl))
      have Htm := hid (HD.out.tim _ (List.getElem_mem hkl))
      rw [show 4 + k = m by omega] at u9 v9
      obtain ⟨e, he⟩ : ∃ e, e = c.ev[k] := ⟨_, rfl⟩
      rw [← he] at u9 v9 t9 Hl Hst Hls Hnum Hsz Htm
      clear he
      obtain ⟨bb, oo, rfl, j0⟩ := t9 0 (by simp [evText])
      obtain ⟨bb1, oo1, e1, j1⟩ := t9 1 (by simp [evText])
      cases e1
      obtain ⟨bb2, oo2, e2, j2⟩ := t9 2 (by simp [evText])
      cases e2
      have d0 : wr.cell? ⟨b, m * 2, none⟩ = some (.string (evKey e.num)) := (Hbel.out.cell (World.block_lt_of_cell? _ _ u9)).trans u9
      have d1 : wr.cell? ⟨b, m * 2 + 1, none⟩ = some (.slice (some ⟨bb, oo, none⟩) 3 cp) := (Hbel.out.cell (World.block_lt_of_cell? _ _ v9)).trans v9
      have f0 : w.cell? ⟨bb, oo, none⟩ = some (.string (txt e.tim)) := j0
      have f1 : w.cell? ⟨bb, oo + 1, none⟩ = some (.string e.what) := j1
      have f2 : w.cell? ⟨bb, oo + 2, none⟩ = some (.string e.who) := j2
      have hbb : bb < w.heap.size := World.block_lt_of_cell? _ _ f0
      have F0 := hid f0
      have F1 := hid f1
      have F2 := hid f2
      have t4 : e.tim ≤ 4611686018427387904 := by have := Htm.out; omega
      have n4 : e.num ≤ 4611686018427387904 := by have := Hnum.out; omega
      have CT := hid (Num.out e.tim t4)
      obtain ⟨tt, htt⟩ : ∃ t, t = txt e.tim := ⟨_, rfl⟩
      rw [← htt] at F0 CT
      have Hk := hid hk
      have HCh := hid (hk ▸ Hch.out)
      clear u9 v9 t9 j0 j1 j2 f0 f1 f2 htt Hch
      go_wp2_with fail
      obtain ⟨W5, hW5⟩ : ∃ W5, W5 = wr.alloc (.cells #[.string (evKey e.num), .slice (some ⟨bb, oo, none⟩) 3 cp] 45) := ⟨_, rfl⟩
      have b5 : Below wr.heap.size wr W5 := by rw [hW5]; exact (Below.refl _ wr).alloc (Nat.le_refl _) _
      have r5 : W5.heap[wr.heap.size]? = some (.cells #[.string (evKey e.num), .slice (some ⟨bb, oo, none⟩) 3 cp] 45 (0, 0)) := by rw [hW5]; exact heap_alloc_new wr _
      rw [← hW5]
      obtain ⟨V0, hV0⟩ : ∃ V0, V0 = W5.drew := ⟨_, rfl⟩
      have b6 : Below wr.heap.size wr V0 := by rw [hV0]; exact b5.drew
      have r6 : V0.heap[wr.heap.size]? = some (.cells #[.string (evKey e.num), .slice (some ⟨bb, oo, none⟩) 3 cp] 45 (0, 0)) := by rw [hV0]; exact r5
      have bw6 : Below w.heap.size w V0 := Below.on' Hbel.out b6
      have te0 : TE wr.heap.size bb oo cp (evKey e.num) tt e.what e.who (fun V => RAt V w.heap.size g (.slice av (cutE c k).ev.length cv) (cutE c k)) V0 :=
        ⟨r6, ⟨(bw6.cell (p := ⟨bb, oo, none⟩) hbb).trans F0.out, (bw6.cell (p := ⟨bb, oo + 1, none⟩) hbb).trans F1.out, (bw6.cell (p := ⟨bb, oo + 2, none⟩) hbb).trans F2.out⟩, HCh.out.below b6⟩
      have hsm : IntKind.i64.wrap ((c.bn : Int) + (m : Int)) = ((c.bn + m : Nat) : Int) := by rw [IntKind.wrap_i64]; omega
      have hmm : IntKind.i64.wrap (((c.bn + m : Nat) : Int) - 3) = (e.num : Int) := by have := Hnum.out; have := Hk.out; rw [IntKind.wrap_i64]; omega
      refine wp_act _ fun A hA => ?_
      have sz : A.tmps.size = 233 := by rw [hA]; rfl
      have e4 : A.eval (.tmp 4) = .int .i64 (c.bn : Int) := by rw [hA]; rfl
      have e18 : A.eval (.tmp 18) = .int .i64 (m : Int) := by rw [hA]; rfl
      have e19 : A.eval (.tmp 19) = .pointer (some ⟨wr.heap.size, 0, none⟩) := by rw [hA]; rfl
      refine wp_split _ (rld_region17 (B := 0) (g := 0) (c := c) sz e4 e18 e19 hsm hmm n4 (by have := Hsz.out.1; omega) (by have := Hsz.out.2; omega) (fun hb h => h.below hb) hV0 te0) ?_
      rintro _ V1 ⟨rfl, te1, b7⟩
      rw [hA]
      simp only [Act.put, List.setIfInBounds_toArray, List.set_cons_succ, List.set_cons_zero]
      have z1 := te1.k1
      have z0 := te1.2.1.1
      have gA : ¬ (e.tim : Int) < (lastT (cutE c (m - 4)) : Int) := by have := Hl.out; have := Hk.out; rw [← this]; omega
      have gB : ¬ (c.la : Int) < (e.tim : Int) := by have := Htm.out; omega
      have Hte := hid te1
      have BwV := hid (Below.on' bw6 b7)
      have Rlt := hid (heap_lt te1.1)
      clear sz e4 e18 e19 hA A te0 te1 b5 b6 b7 bw6 r5 r6 hW5 hV0 d0 d1
      go_wp2_with (go_at_call 39; refine (CT.out _).mono ?_; rintro _ w9 ⟨rfl, e9⟩; subst w9)
      obtain ⟨V3, hV3⟩ : ∃ V3, V3 = V1.drew := ⟨_, rfl⟩
      have b3 : Below V1.heap.size V1 V3 := by rw [hV3]; exact (Below.refl _ V1).drew
      have te3 := Hte.out.keep b3 (Hte.out.2.2.below b3)
      have hown := Hte.out.2.2
      refine wp_act _ fun A hA => ?_
      have sz : A.tmps.size = 233 := by rw [hA]; rfl
      have e4 : A.eval (.tmp 4) = .int .i64 (c.bn : Int) := by rw [hA]; rfl
      have e18 : A.eval (.tmp 18) = .int .i64 (m : Int) := by rw [hA]; rfl
      have e19 : A.eval (.tmp 19) = .pointer (some ⟨wr.heap.size, 0, none⟩) := by rw [hA]; rfl
      have e16 : A.eval (.tmp 16) = .pointer (some ⟨g, 0, none⟩) := by rw [hA]; rfl
      have e20 : A.eval (.tmp 20) = .int .i64 (e.tim : Int) := by rw [hA]; rfl
      refine wp_split _ (rld_region23 (e := e) sz e4 e18 e19 hsm hmm e16 e20 (cutE_lens HD.out.l k) (by simp [cutE]; omega) te3.2.2 (Nat.le_trans BwV.out.size b3.size) (fun x => by have := (HCh.out.lts _ x).2; omega) (fun x => by have := (HCh.out.lts _ x).1; omega) hV3 ⟨te3.1, te3.2.1, te3.2.2.obj⟩) ?_
      rintro _ V6 ⟨kk, cap6, rfl, h6, b6⟩
      rw [hA]
      simp only [Act.put, List.setIfInBounds_toArray, List.set_cons_succ, List.set_cons_zero]
      rw [Hst.out] at h6
      have H6 := hid h6
      have B6 := hid ((Below.on' BwV.out b3).trans b6)
      clear sz e4 e18 e19 e16 e20 hA A te3 b3 b6 hV3 h6 hown z0 z1
      go_wp2_with fail
      go_roundw
      case rel =>
        have hk9 := Hk.out
        refine ⟨m + 1, by omega, by omega, by go_num, ?_, .slice (some ⟨kk, 0, none⟩) ((cutE c k).ev ++ [e]).length cap6, ?_, B6.out⟩
        · rw [show m + 1 - 4 = k + 1 by omega, Hls.out]
        · rw [show m + 1 - 4 = k + 1 by omega]
          exact H6.out
      case measure => simp [intOf]; omega
    · have g1 : decide ((m : Int) < (N : Int)) = false := by simp; omega
      have hmm : m - 4 = c.ev.length := by have := HN.out; omega
      have hfin := Hch.out
      rw [hmm, cutE_all] at hfin
      have Hfin := hid hfin
      clear hfin hmm Hch
      go_wp2_with fail
      go_ret2
      exact ⟨g, _, rfl, Hfin.out, Hbel.out⟩
end Go.Proofs.YthnciogaibhmcaaDoor
