/- YthfmpebgmojcaaaDoorALd2 + YthfmpebgmojcaaaDoorALd3 + YthfmpebgmojcaaaDoorALd4 + YthfmpebgmojcaaaDoorALd6 + YthfmpebgmojcaaaDoorALd7 + YthfmpebgmojcaaaDoorALd8 + YthfmpebgmojcaaaDoorZHash -/
import Derived.Test.YthfmpebgmojcaaaDoorTkG
import Derived.Test.YthfmpebgmojcaaaDoorALd5
import Derived.Laws.IdiomStrings
import Derived.Laws.Cover3
import Derived.Test.YthfmpebgmojcaaaDoorATk2
import Derived.Test.YthfmpebgmojcaaaDoorZRows
import Derived.Test.YthfmpebgmojcaaaDoorZToNum
/- Loading a chain: state.Hash and toHash, by contracts for right rows. -/
namespace Go.Proofs.YthfmpebgmojcaaaDoor
open Go.RowKit
set_option linter.unusedVariables false
set_option maxRecDepth 20000
theorem conv_str (w : World) (s : ByteArray) : ∃ cap W, (convert 9 40 (.string s)).run Tryd.prog w = .ok (.slice (some ⟨w.heap.size, 0, none⟩) s.size cap) W ∧ Bytes W (some ⟨w.heap.size, 0, none⟩) s.data.toList ∧ s.size ≤ cap ∧ Below w.heap.size w W := by
  refine ⟨_, _, run_bytes_of_string (P := Tryd.prog) w 9 40 5 s Tryd.underlying9 Tryd.underlying40 Tryd.underlying5, fun i hi => ⟨w.heap.size, 0, rfl, ?_⟩, grownCap_ge _ _ _ _, ?_⟩
  · have hi' : i < s.data.size := by simpa using hi
    have h := bytesRow_at s (grownCap w s.size 0 5) i hi'
    have hh := heap_alloc_last w.drew (.cells (bytesRow s (grownCap w s.size 0 5)) 5 ((bytesRow s (grownCap w s.size 0 5)).size, (bytesRow s (grownCap w s.size 0 5)).size + 1))
    rw [Nat.zero_add]
    have hh' : (w.drew.alloc (.cells (bytesRow s (grownCap w s.size 0 5)) 5 ((bytesRow s (grownCap w s.size 0 5)).size, (bytesRow s (grownCap w s.size 0 5)).size + 1))).heap[w.heap.size]? = some (.cells (bytesRow s (grownCap w s.size 0 5)) 5 ((bytesRow s (grownCap w s.size 0 5)).size, (bytesRow s (grownCap w s.size 0 5)).size + 1)) := hh
    unfold World.cell?
    rw [hh']
    exact h.trans (by simp)
  · exact (Below.refl _ w).drew.alloc (Nat.le_refl _) _
set_option maxHeartbeats 1000000 in
theorem hashOf_ok (w : World) (h : List UInt8) (hl : h.length = 32) :
    Calls Tryd.prog 100 #[.string (mkB h)] w fun e w' => e = .returned (.tuple #[.agg (bvs h), .bool true]) ∧ Below w.heap.size w w' := by
  obtain ⟨Z, hZ⟩ : ∃ Z, Z = bvs (List.replicate 32 0) := ⟨_, rfl⟩
  have zh := (zero_of_info zero_hash).1
  rw [← hZ] at zh
  have hz : Hid (HV Z zero32) := by
    show HV _ _
    rw [hZ]; exact hv_zero
  have zh := hid zh
  have hsz : (mkB h).size = 32 := by show h.toArray.size = 32; simpa using hl
  have b0 : Below w.heap.size w (w.alloc (.cells Z 69)) := (Below.refl _ w).alloc (Nat.le_refl _) _
  have r0 : (w.alloc (.cells Z 69)).heap[w.heap.size]? = some (.cells Z 69 (0, 0)) := heap_alloc_new w _
  obtain ⟨cp, W1, hc1, hB1, hcp, hb1⟩ := conv_str (w.alloc (.cells Z 69)) (mkB h)
  rw [hsz] at hc1 hcp
  have hrange : W1.rangeAt (w.alloc (.cells Z 69)).heap.size 0 (cellsOf h) := fun j u hj => by
    have hj' : j < h.length := by
      have := (List.getElem?_eq_some_iff.1 hj).1
      simpa [cellsOf_length] using this
    obtain ⟨bb, oo, e, hcl⟩ := hB1 j hj'
    cases e
    rw [hcl]
    rw [cellsOf_get h j hj'] at hj
    rw [← hj]
    rfl
  have R1 := hid ((hb1.block _ (heap_lt r0)).trans r0)
  have B1 := hid (Below.on' b0 hb1)
  rw [show (w.alloc (.cells Z 69)).heap.size = w.heap.size + 1 by simp] at hrange
  have Hr := hid hrange
  have sh := hid (size_hashs h hl)
  have sl := hid (size_hashl h hl)
  have one := hid (bvs_one h)
  have bv : Hid ((cellsOf h).toArray = bvs h) := rfl
  have zs : Hid (Z.size = (bvs h).size) := hz.out.size.trans (HV.size (l := h) ⟨rfl, hl⟩).symm
  generalize mkB h = t at *
  generalize cellsOf h = Lc at *
  generalize bvs h = O at *
  clear hZ hB1 hb1 b0 r0 hrange
  have hap : ∀ (a : Option Addr) (W : World), (Instr.arrayAt 69 (.slice a 32 cp)).run Tryd.prog W = .ok (.pointer a) W := fun a W => run_arrayAt W 69 5 32 a 32 cp Tryd.underlying69 (Nat.le_refl _)
  go_enter Tryd.func100, Tryd.ntmps100
  go_wp2_with (first
    | (with_reducible show Go.wpList _ _ _ _ _ _; refine wpList_alloc_row rfl 69 rfl Z zh.out ?_)
    | (with_reducible show Go.wpList _ _ _ _ _ _; refine wpList_load_mid rfl 69 _ rfl (w.heap.size + 1) 0 rfl Lc _ Hr.out Tryd.underlying69 rfl sl.out ?_; rw [bv.out])
    | (with_reducible show Go.wpList _ _ _ _ _ _; refine wpList_store_row rfl 69 _ _ rfl w.heap.size O rfl rfl 69 Z R1.out sh.out zs.out one.out ?_))
  refine bodyPost_ret (results_row_tmp rfl _ _ w.heap.size 69 O (0, 0) _ rfl (setRow_heap _ _ _ _ _ _ R1.out) Tryd.underlying69 rfl sh.out) rfl ?_
  exact ⟨rfl, B1.out.setRow (Nat.le_refl _) _⟩
end Go.Proofs.YthfmpebgmojcaaaDoor
/- Loading a chain: toHash, by a contract for right rows. -/
namespace Go.Proofs.YthfmpebgmojcaaaDoor
open Go.RowKit
set_option linter.unusedVariables false
set_option maxRecDepth 20000
set_option maxHeartbeats 1000000 in
theorem toHash_ok (w : World) (key : ByteArray) (hks : key.size ≤ 1000) (ad : Option Addr) (cp : Nat) (h : List UInt8) (hl : h.length = 32) (ht : Texts w ad [mkB h]) :
    Calls Tryd.prog 72 #[.agg #[.string key, .slice ad 1 cp], .string key] w fun e w' => e = .returned (.tuple #[.agg (bvs h), .bool true]) ∧ Below w.heap.size w w' := by
  obtain ⟨Z, hZ⟩ : ∃ Z, Z = bvs (List.replicate 32 0) := ⟨_, rfl⟩
  have zh := (zero_of_info zero_hash).1
  rw [← hZ] at zh
  have hz : Hid (HV Z zero32) := by
    show HV _ _
    rw [hZ]; exact hv_zero
  have zh := hid zh
  obtain ⟨b, o, rfl, j0⟩ := ht 0 (by simp)
  have b0 : Below w.heap.size w ((w.alloc (.cells #[.string key, .slice (some ⟨b, o, none⟩) 1 cp] 75)).alloc (.cells Z 69)) := ((Below.refl _ w).alloc (Nat.le_refl _) _).alloc (by simp) _
  have k0 : ((w.alloc (.cells #[.string key, .slice (some ⟨b, o, none⟩) 1 cp] 75)).alloc (.cells Z 69)).cell? ⟨b, o, none⟩ = some (.string (mkB h)) := (b0.cell (p := ⟨b, o, none⟩) (World.block_lt_of_cell? _ _ j0)).trans j0
  have r0 : ((w.alloc (.cells #[.string key, .slice (some ⟨b, o, none⟩) 1 cp] 75)).alloc (.cells Z 69)).heap[w.heap.size + 1]? = some (.cells Z 69 (0, 0)) := heap_alloc2_new w _ _
  have m0 := cell_of_row _ _ 0 _ _ _ (heap_alloc2_old w (.cells #[.string key, .slice (some ⟨b, o, none⟩) 1 cp] 75) (.cells Z 69))
  have m1 := cell_of_row _ _ 1 _ _ _ (heap_alloc2_old w (.cells #[.string key, .slice (some ⟨b, o, none⟩) 1 cp] 75) (.cells Z 69))
  have C := hid (fun W => hashOf_ok W h hl)
  have R0 := hid r0
  have B0 := hid b0
  have sh := hid (size_hashs h hl)
  have one := hid (bvs_one h)
  have zs : Hid (Z.size = (bvs h).size) := hz.out.size.trans (HV.size (l := h) ⟨rfl, hl⟩).symm
  generalize mkB h = t at *
  generalize bvs h = O at *
  clear hZ r0 b0 j0 ht
  go_enter Tryd.func72, Tryd.ntmps72
  go_wp2_with (first
    | (with_reducible show Go.wpList _ _ _ _ _ _; refine wpList_alloc_row rfl 69 rfl Z zh.out ?_)
    | (go_at_call 100; refine (C.out _).mono ?_; rintro e w1 ⟨rfl, hb1⟩; have R1 := hid ((hb1.block _ (heap_lt R0.out)).trans R0.out); have B1 := hid (Below.on' B0.out hb1); clear hb1)
    | (with_reducible show Go.wpList _ _ _ _ _ _; refine wpList_store_row rfl 69 (.tmp 4) (.tmp 22) rfl (w.heap.size + 1) O rfl rfl 69 Z R1.out sh.out zs.out one.out ?_))
  refine bodyPost_ret (results_row_tmp rfl _ _ (w.heap.size + 1) 69 O (0, 0) _ rfl (setRow_heap _ _ _ _ _ _ R1.out) Tryd.underlying69 rfl sh.out) rfl ?_
  exact ⟨rfl, B1.out.setRow (by omega) _⟩
end Go.Proofs.YthfmpebgmojcaaaDoor
/- takeHashes' stores, over a frame that is a letter. -/
namespace Go.Proofs.YthfmpebgmojcaaaDoor
open Go.RowKit
set_option linter.unusedVariables false
set_option maxRecDepth 20000
section
variable {w : World} {B g : Nat} {v : Value} {c : Ch}
theorem ChAt.setAh (h : ChAt w B g v c) (ok : Lens c) (l : List UInt8) (hl : l.length = 32) : ChAt (w.setCells g 34 (cellsOf l)) B g v { c with ah := l } := by
  refine ⟨?_, h.row_set _ _, h.bg⟩
  rw [heap_setCells_same g _ (cellsOf l) 34 w _ h.obj (by rw [ccells_length ok, cellsOf_length, hl]; omega)]
  have e : ∀ d : Ch, ccells d v = (lnkC d.bn d.bh ++ [.int .i64 (d.an : Int)]) ++ (cellsOf d.ah ++ (v :: (cellsOf d.hd ++ [.int .i64 (d.la : Int)]))) := fun d => by simp [ccells, lnkC]
  rw [e, e, splice_mid _ _ _ _ (by simp [cellsOf, hl, ok.lan]) 34 (by simp [lnkC_length, ok.lb])]
theorem ChAt.setBh (h : ChAt w B g v c) (ok : Lens c) (l : List UInt8) (hl : l.length = 32) : ChAt (w.setCells g 1 (cellsOf l)) B g v { c with bh := l } := by
  refine ⟨?_, h.row_set _ _, h.bg⟩
  rw [heap_setCells_same g _ (cellsOf l) 1 w _ h.obj (by rw [ccells_length ok, cellsOf_length, hl]; omega)]
  have e : ∀ d : Ch, ccells d v = [.int .i64 (d.bn : Int)] ++ (cellsOf d.bh ++ (lnkC d.an d.ah ++ (v :: (cellsOf d.hd ++ [.int .i64 (d.la : Int)])))) := fun d => by simp [ccells, lnkC]
  rw [e, e, splice_mid _ _ _ _ (by simp [cellsOf, hl, ok.lb]) 1 rfl]
end
def Three (x5 x7 x9 : Nat) (la lb lh : List UInt8) (V : World) : Prop := V.heap[x5]? = some (.cells (cellsOf la).toArray 69 (0, 0)) ∧ V.heap[x7]? = some (.cells (cellsOf lb).toArray 69 (0, 0)) ∧ V.heap[x9]? = some (.cells (cellsOf lh).toArray 69 (0, 0))
theorem set3 {x5 x7 x9 g o : Nat} {la lb lh l : List UInt8} {V : World} (h : Three x5 x7 x9 la lb lh V) (hne : x5 ≠ g ∧ x7 ≠ g ∧ x9 ≠ g) : Three x5 x7 x9 la lb lh (V.setCells g o (cellsOf l)) :=
  ⟨(other_setCells g x5 hne.1 _ _ _).trans h.1, (other_setCells g x7 hne.2.1 _ _ _).trans h.2.1, (other_setCells g x9 hne.2.2 _ _ _).trans h.2.2⟩
noncomputable def codeTH : Code := ((Tryd.f32.body.bind (regionAt 4)).getD .skip)
set_option maxHeartbeats 4000000 in
theorem takeHashes_region {V0 W5 : World} {B g x5 x7 x9 : Nat} {v : Value} {c : Ch} {la lb lh : List UInt8} {A : Act} (sz : A.tmps.size = 53) (e0 : A.eval (.tmp 0) = .pointer (some ⟨g, 0, none⟩)) (e5 : A.eval (.tmp 5) = .pointer (some ⟨x5, 0, none⟩)) (e7 : A.eval (.tmp 7) = .pointer (some ⟨x7, 0, none⟩)) (e9 : A.eval (.tmp 9) = .pointer (some ⟨x9, 0, none⟩))
    (hV0 : V0 = W5.drew) (H0 : ChAt V0 B g v c) (ok : Lens c) (hla : la.length = 32) (hlb : lb.length = 32) (hlh : lh.length = 32) (hs0 : Three x5 x7 x9 la lb lh V0) (hne : x5 ≠ g ∧ x7 ≠ g ∧ x9 ≠ g) :
    codeTH.wp Tryd.prog (fun x a V => x = .normal ∧ a = ((((((((((((((A.put (some 32) (.pointer (some ⟨g, 0, none⟩))).put (some 33) (.pointer (some ⟨g, 0, none⟩))).put (some 34) (.pointer (some ⟨g, 0, none⟩))).put (some 35) (.agg (bvs la))).put (some 36) (.agg (bvs lb))).put (some 37) (.agg (bvs lh))).put (some 38) (.pointer (some ⟨g, 0, none⟩))).put (some 39) (.pointer (some ⟨g, 33, none⟩))).put (some 40) (.pointer (some ⟨g, 34, none⟩))).put (some 41) (.pointer (some ⟨g, 0, none⟩))).put (some 42) (.pointer (some ⟨g, 0, none⟩))).put (some 43) (.pointer (some ⟨g, 1, none⟩))).put (some 44) (.pointer (some ⟨g, 0, none⟩))).put (some 45) (.pointer (some ⟨g, 67, none⟩))) ∧ ChAt V B g v { c with ah := la, bh := lb, hd := lh } ∧ Out (fun k => k = g) V0 V) A W5 := by
  have hm : Tryd.prog.follows .mixedOrders = true := by kernel_rfl
  unfold codeTH
  conv => arg 2; whnf
  refine wp_region_held (S := Three x5 x7 x9 la lb lh) hm ?_
  rw [show ({ W5 with drawn := W5.drawn + 1 } : World) = V0 from hV0.symm]
  refine tkH (i := 0) (d := 32) (v := .pointer (some ⟨g, 0, none⟩)) rfl rfl (yields_move (by simp [Region.wanted]) (.tmp 0) rfl _ e0) hs0 ?_
  refine tkH (i := 1) (d := 33) (v := .pointer (some ⟨g, 0, none⟩)) rfl rfl (yields_move (by simp [Region.wanted]) (.tmp 0) rfl _ (evn e0)) hs0 ?_
  refine tkH (i := 2) (d := 34) (v := .pointer (some ⟨g, 0, none⟩)) rfl rfl (yields_move (by simp [Region.wanted]) (.tmp 0) rfl _ (evn (evn e0))) hs0 ?_
  refine tkH (i := 3) (d := 35) (v := .agg (bvs la)) rfl rfl (y_loadH (by simp [Region.wanted]) (.tmp 5) rfl x5 0 la hla (evn (evn (evn e5))) (fun V hV => range_whole hV.1)) hs0 ?_
  refine tkH (i := 4) (d := 36) (v := .agg (bvs lb)) rfl rfl (y_loadH (by simp [Region.wanted]) (.tmp 7) rfl x7 0 lb hlb (evn (evn (evn (evn e7)))) (fun V hV => range_whole hV.2.1)) hs0 ?_
  refine tkH (i := 5) (d := 37) (v := .agg (bvs lh)) rfl rfl (y_loadH (by simp [Region.wanted]) (.tmp 9) rfl x9 0 lh hlh (evn (evn (evn (evn (evn e9))))) (fun V hV => range_whole hV.2.2)) hs0 ?_
  obtain ⟨A2, hA2⟩ : ∃ A2, A2 = ((((((A.put (some 32) (.pointer (some ⟨g, 0, none⟩))).put (some 33) (.pointer (some ⟨g, 0, none⟩))).put (some 34) (.pointer (some ⟨g, 0, none⟩))).put (some 35) (.agg (bvs la))).put (some 36) (.agg (bvs lb))).put (some 37) (.agg (bvs lh))) := ⟨_, rfl⟩
  have szA2 : A2.tmps.size = 53 := by rw [hA2]; simp [put_sz, sz]
  have eA232 : A2.eval (.tmp 32) = .pointer (some ⟨g, 0, none⟩) := by rw [hA2]; exact (evn (evn (evn (evn (evn (ev_eq _ _ (by simp [sz])))))))
  have eA233 : A2.eval (.tmp 33) = .pointer (some ⟨g, 0, none⟩) := by rw [hA2]; exact (evn (evn (evn (evn (ev_eq _ _ (by simp [put_sz, sz]))))))
  have eA234 : A2.eval (.tmp 34) = .pointer (some ⟨g, 0, none⟩) := by rw [hA2]; exact (evn (evn (evn (ev_eq _ _ (by simp [put_sz, sz])))))
  have eA235 : A2.eval (.tmp 35) = .agg (bvs la) := by rw [hA2]; exact (evn (evn (ev_eq _ _ (by simp [put_sz, sz]))))
  have eA236 : A2.eval (.tmp 36) = .agg (bvs lb) := by rw [hA2]; exact (evn (ev_eq _ _ (by simp [put_sz, sz])))
  have eA237 : A2.eval (.tmp 37) = .agg (bvs lh) := by rw [hA2]; exact (ev_eq _ _ (by simp [put_sz, sz]))
  rw [← hA2]
  refine tkH (i := 6) (d := 38) (v := .pointer (some ⟨g, 0, none⟩)) rfl rfl (y_nil (by simp [Region.wanted]) (.tmp 32) rfl _ eA232) hs0 ?_
  refine tkH (i := 7) (d := 39) (v := .pointer (some ⟨g, 33, none⟩)) rfl rfl (y_chain1 (by simp [Region.wanted]) (.tmp 38) rfl g (ev_eq _ _ (by simp [szA2]))) hs0 ?_
  refine tkH (i := 8) (d := 40) (v := .pointer (some ⟨g, 34, none⟩)) rfl rfl (y_link1 (by simp [Region.wanted]) (.tmp 39) rfl g 33 (ev_eq _ _ (by simp [put_sz, szA2]))) hs0 ?_
  obtain ⟨S1, hS1⟩ : ∃ S1, S1 = (((A2.put (some 38) (.pointer (some ⟨g, 0, none⟩))).put (some 39) (.pointer (some ⟨g, 33, none⟩))).put (some 40) (.pointer (some ⟨g, 34, none⟩))) := ⟨_, rfl⟩
  have szS1 : S1.tmps.size = 53 := by rw [hS1]; simp [put_sz, szA2]
  have eS140 : S1.eval (.tmp 40) = .pointer (some ⟨g, 34, none⟩) := by rw [hS1]; exact (ev_eq _ _ (by simp [put_sz, szA2]))
  have eS135 : S1.eval (.tmp 35) = .agg (bvs la) := by rw [hS1]; exact (evn (evn (evn eA235)))
  have eS133 : S1.eval (.tmp 33) = .pointer (some ⟨g, 0, none⟩) := by rw [hS1]; exact (evn (evn (evn eA233)))
  have eS134 : S1.eval (.tmp 34) = .pointer (some ⟨g, 0, none⟩) := by rw [hS1]; exact (evn (evn (evn eA234)))
  have eS136 : S1.eval (.tmp 36) = .agg (bvs lb) := by rw [hS1]; exact (evn (evn (evn eA236)))
  have eS137 : S1.eval (.tmp 37) = .agg (bvs lh) := by rw [hS1]; exact (evn (evn (evn eA237)))
  rw [← hS1]
  refine wpAnyH_all (rs := [9]) (by kernel_rfl) (by simp) fun i1 hm1 => ?_
  obtain rfl : i1 = 9 := by simpa using hm1
  refine wpOp_own rfl rfl fun K1 hK1 => ?_
  refine wp_store_mid 69 (.tmp 40) (.tmp 35) rfl g 34 (bvs la) eS140 eS135 (by rw [bvs_size, hla]; exact H0.there ok 34 32 (by omega)) (by rw [bvs_size, hla]; exact size_hash) (bvs_one _) ?_
  rw [show (bvs la).toList = cellsOf la from rfl]
  have H1 := H0.setAh ok la hla
  have hs1 := set3 (g := g) (o := 34) (l := la) hs0 hne
  refine hK1 _ _ ⟨hs1, ?_⟩
  clear hK1 K1 hm1
  show wpAnyH _ _ _ _ _ _ _ S1 _
  refine tkH (i := 10) (d := 41) (v := .pointer (some ⟨g, 0, none⟩)) rfl rfl (y_nil (by simp [Region.wanted]) (.tmp 33) rfl _ eS133) hs1 ?_
  refine tkH (i := 11) (d := 42) (v := .pointer (some ⟨g, 0, none⟩)) rfl rfl (y_chain0 (by simp [Region.wanted]) (.tmp 41) rfl g (ev_eq _ _ (by simp [szS1]))) hs1 ?_
  refine tkH (i := 12) (d := 43) (v := .pointer (some ⟨g, 1, none⟩)) rfl rfl (y_link1 (by simp [Region.wanted]) (.tmp 42) rfl g 0 (ev_eq _ _ (by simp [put_sz, szS1]))) hs1 ?_
  obtain ⟨S2, hS2⟩ : ∃ S2, S2 = (((S1.put (some 41) (.pointer (some ⟨g, 0, none⟩))).put (some 42) (.pointer (some ⟨g, 0, none⟩))).put (some 43) (.pointer (some ⟨g, 1, none⟩))) := ⟨_, rfl⟩
  have szS2 : S2.tmps.size = 53 := by rw [hS2]; simp [put_sz, szS1]
  have eS243 : S2.eval (.tmp 43) = .pointer (some ⟨g, 1, none⟩) := by rw [hS2]; exact (ev_eq _ _ (by simp [put_sz, szS1]))
  have eS236 : S2.eval (.tmp 36) = .agg (bvs lb) := by rw [hS2]; exact (evn (evn (evn eS136)))
  have eS234 : S2.eval (.tmp 34) = .pointer (some ⟨g, 0, none⟩) := by rw [hS2]; exact (evn (evn (evn eS134)))
  have eS237 : S2.eval (.tmp 37) = .agg (bvs lh) := by rw [hS2]; exact (evn (evn (evn eS137)))
  rw [← hS2]
  refine wpAnyH_all (rs := [13]) (by kernel_rfl) (by simp) fun i2 hm2 => ?_
  obtain rfl : i2 = 13 := by simpa using hm2
  refine wpOp_own rfl rfl fun K2 hK2 => ?_
  refine wp_store_mid 69 (.tmp 43) (.tmp 36) rfl g 1 (bvs lb) eS243 eS236 (by rw [bvs_size, hlb]; exact H1.there (c := { c with ah := la }) ⟨ok.lb, hla, ok.lh⟩ 1 32 (by omega)) (by rw [bvs_size, hlb]; exact size_hash) (bvs_one _) ?_
  rw [show (bvs lb).toList = cellsOf lb from rfl]
  have H2 := H1.setBh (c := { c with ah := la }) ⟨ok.lb, hla, ok.lh⟩ lb hlb
  have hs2 := set3 (g := g) (o := 1) (l := lb) hs1 hne
  refine hK2 _ _ ⟨hs2, ?_⟩
  clear hK2 K2 hm2
  show wpAnyH _ _ _ _ _ _ _ S2 _
  refine tkH (i := 14) (d := 44) (v := .pointer (some ⟨g, 0, none⟩)) rfl rfl (y_nil (by simp [Region.wanted]) (.tmp 34) rfl _ eS234) hs2 ?_
  refine tkH (i := 15) (d := 45) (v := .pointer (some ⟨g, 67, none⟩)) rfl rfl (y_chain3 (by simp [Region.wanted]) (.tmp 44) rfl g (ev_eq _ _ (by simp [szS2]))) hs2 ?_
  obtain ⟨S3, hS3⟩ : ∃ S3, S3 = ((S2.put (some 44) (.pointer (some ⟨g, 0, none⟩))).put (some 45) (.pointer (some ⟨g, 67, none⟩))) := ⟨_, rfl⟩
  have szS3 : S3.tmps.size = 53 := by rw [hS3]; simp [put_sz, szS2]
  have eS345 : S3.eval (.tmp 45) = .pointer (some ⟨g, 67, none⟩) := by rw [hS3]; exact (ev_eq _ _ (by simp [put_sz, szS2]))
  have eS337 : S3.eval (.tmp 37) = .agg (bvs lh) := by rw [hS3]; exact (evn (evn eS237))
  rw [← hS3]
  refine wpAnyH_all (rs := [16]) (by kernel_rfl) (by simp) fun i3 hm3 => ?_
  obtain rfl : i3 = 16 := by simpa using hm3
  refine wpOp_own rfl rfl fun K3 hK3 => ?_
  refine wp_store_mid 69 (.tmp 45) (.tmp 37) rfl g 67 (bvs lh) eS345 eS337 (by rw [bvs_size, hlh]; exact H2.there (c := { c with ah := la, bh := lb }) ⟨hlb, hla, ok.lh⟩ 67 32 (by omega)) (by rw [bvs_size, hlh]; exact size_hash) (bvs_one _) ?_
  rw [show (bvs lh).toList = cellsOf lh from rfl]
  have H3 := H2.setHd (c := { c with ah := la, bh := lb }) ⟨hlb, hla, ok.lh⟩ lh hlh
  have hs3 := set3 (g := g) (o := 67) (l := lh) hs2 hne
  refine hK3 _ _ ⟨hs3, wpAnyH_done (by kernel_rfl) ⟨rfl, ?_, H3, Out.setCells (P := fun x => x = g) g rfl _ _ _ (Out.setCells (P := fun x => x = g) g rfl _ _ _ (Out.setCells (P := fun x => x = g) g rfl _ _ _ (Out.refl _ V0)))⟩ _⟩
  show S3 = _
  rw [hS3, hS2, hS1, hA2]
end Go.Proofs.YthfmpebgmojcaaaDoor
/- Loading a chain: takeHashes, by a contract for right rows. -/
namespace Go.Proofs.YthfmpebgmojcaaaDoor
open Go.RowKit
set_option linter.unusedVariables false
set_option maxRecDepth 20000
attribute [local go_sem ↓] loadL_fold storeL_fold loadH_fold storeH_fold buildH_fold
end Go.Proofs.YthfmpebgmojcaaaDoor
/- Loading a chain from its own rows. -/
namespace Go.Proofs.YthfmpebgmojcaaaDoor
open Go.RowKit
set_option linter.unusedVariables false
set_option maxRecDepth 20000
theorem hf_countL : ∀ (args : Array Value) (w : World), (callFunc 23 args).run Tryd.prog w = .ok (.enter 23 args) w := fun args w => by simp [go_sem]
noncomputable def codeLd (n : Nat) : Code := ((Tryd.f6.body.bind (regionAt n)).getD .skip)
set_option maxHeartbeats 2000000 in
theorem load_region10 {V0 W5 : World} {B g : Nat} {v : Value} {c : Ch} {A : Act} (sz : A.tmps.size = 52) (e4 : A.eval (.tmp 4) = .pointer (some ⟨g, 0, none⟩)) (hV0 : V0 = W5.drew) (hs0 : ChAt V0 B g v c) (ok : Lens c) (hc : c.cnt < 1152921504606846976) (hle : c.an ≤ c.cnt) :
    (codeLd 10).wp Tryd.prog (fun x a V => x = .normal ∧ a = ((((((((A.put (some 43) (.pointer (some ⟨g, 0, none⟩))).put (some 44) (.pointer (some ⟨g, 0, none⟩))).put (some 45) (.pointer (some ⟨g, 33, none⟩))).put (some 46) (.pointer (some ⟨g, 33, none⟩))).put (some 47) (.int .i64 (c.an : Int))).put (some 48) (.pointer (some ⟨g, 0, none⟩))).put (some 49) (.int .i64 (c.cnt : Int))).put (some 50) (.bool false)) ∧ ChAt V B g v c ∧ Below V0.heap.size V0 V) A W5 := by
  have hm : Tryd.prog.follows .mixedOrders = true := by kernel_rfl
  have hgt2 : ¬ ((c.cnt : Int) < (c.an : Int)) := by omega
  unfold codeLd
  conv => arg 2; whnf
  refine wp_region_G (fun _ => false) (fun V => ChAt V B g v c) hm ?_
  rw [show ({ W5 with drawn := W5.drawn + 1 } : World) = V0 from hV0.symm]
  refine tkG (i := 0) (d := 43) (v := .pointer (some ⟨g, 0, none⟩)) rfl rfl (yg_mv (by simp [Region.wanted]) (.tmp 4) rfl e4) hs0 ?_
  refine tkG (i := 1) (d := 44) (v := .pointer (some ⟨g, 0, none⟩)) rfl rfl (yg_nil (by simp [Region.wanted]) (.tmp 43) rfl (ev_eq _ _ (by simp [sz]))) hs0 ?_
  refine tkG (i := 2) (d := 45) (v := .pointer (some ⟨g, 33, none⟩)) rfl rfl (yg_fld (by simp [Region.wanted]) (.tmp 44) rfl (ev_eq _ _ (by simp [put_sz, sz])) (fun w => by simp [go_sem])) hs0 ?_
  refine tkG (i := 3) (d := 46) (v := .pointer (some ⟨g, 33, none⟩)) rfl rfl (yg_fld (by simp [Region.wanted]) (.tmp 45) rfl (ev_eq _ _ (by simp [put_sz, sz])) (fun w => by simp [go_sem])) hs0 ?_
  refine tkG (i := 4) (d := 47) (v := .int .i64 (c.an : Int)) rfl rfl (yg_ld (by simp [Region.wanted]) (.tmp 46) rfl (ev_eq _ _ (by simp [put_sz, sz])) (fun w hw => by have h1 := hw.c33 ok; simp [go_sem, h1])) hs0 ?_
  refine tkG (i := 5) (d := 48) (v := .pointer (some ⟨g, 0, none⟩)) rfl rfl (yg_mv (by simp [Region.wanted]) (.tmp 4) rfl (evn (evn (evn (evn (evn e4)))))) hs0 ?_
  refine wpAnyG_all (rs := [6]) (by kernel_rfl) (by simp) fun i1 hm1 => ?_
  obtain rfl : i1 = 6 := by simpa using hm1
  refine wpOp_own rfl rfl fun K1 hK1 => ?_
  refine wp_calls1 23 hf_countL (.tmp 48) _ rfl (.pointer (some ⟨g, 0, none⟩)) (ev_eq _ _ (by simp [put_sz, sz])) ?_
  refine (count_len hs0 ok hc).mono ?_
  rintro _ V1 ⟨rfl, hb1⟩
  have hs1 := hs0.below hb1
  refine ⟨_, rfl, hK1 _ _ ⟨.inr hs1, ?_⟩⟩
  clear hK1 K1 hm1
  show wpAnyG _ _ _ _ _ _ _ _ (((((((A.put (some 43) (.pointer (some ⟨g, 0, none⟩))).put (some 44) (.pointer (some ⟨g, 0, none⟩))).put (some 45) (.pointer (some ⟨g, 33, none⟩))).put (some 46) (.pointer (some ⟨g, 33, none⟩))).put (some 47) (.int .i64 (c.an : Int))).put (some 48) (.pointer (some ⟨g, 0, none⟩))).put (some 49) (.int .i64 (c.cnt : Int))) _
  refine tkG (i := 7) (d := 50) (v := .bool false) rfl rfl (yg_bin (by simp [Region.wanted]) (.tmp 47) (.tmp 49) rfl (evn (evn (ev_eq _ _ (by simp [put_sz, sz])))) (ev_eq _ _ (by simp [put_sz, sz])) (fun w => by simp [go_sem, hgt2])) hs1 ?_
  refine wpAnyG_done (by kernel_rfl) ⟨rfl, rfl, hs1, hb1⟩ _
def TxRows (w : World) (b : Nat) (R : List (ByteArray × List ByteArray)) : Prop := ∀ i (h : i < R.length), ∃ a cp, w.cell? ⟨b, i * 2, none⟩ = some (.string R[i].1) ∧ w.cell? ⟨b, i * 2 + 1, none⟩ = some (.slice a R[i].2.length cp) ∧ Texts w a R[i].2
theorem TxRows.below {w w' : World} {b B : Nat} {R : List (ByteArray × List ByteArray)} (h : TxRows w b R) (hb : Below w.heap.size w w') : TxRows w' b R := fun i hi => by
  obtain ⟨a, cp, h1, h2, h3⟩ := h i hi
  exact ⟨a, cp, (hb.cell (World.block_lt_of_cell? _ _ h1)).trans h1, (hb.cell (World.block_lt_of_cell? _ _ h2)).trans h2, h3.below hb⟩
theorem rvCells_get (l : List Rw) (i : Nat) (h : i < l.length) (k : Nat) (hk : k < 2) : (rvCells l)[i * 2 + k]? = (l[i]).vals[k]? := by
  induction l generalizing i with
  | nil => simp at h
  | cons e l ih =>
    have hl : e.vals.length = 2 := rfl
    show (e.vals ++ rvCells l)[i * 2 + k]? = _
    cases i with
    | zero => rw [List.getElem?_append_left (by omega)]; simp
    | succ i =>
      rw [List.getElem?_append_right (by omega), hl, show (i + 1) * 2 + k - 2 = i * 2 + k by omega, ih i (by simpa using h)]
      simp
theorem RowsAt.tx {w : World} {base : Nat} {v : Value} {l : List Rw} (h : RowsAt w base v l) (h0 : 0 < l.length) : ∃ b cap, v = .slice (some ⟨b, 0, none⟩) l.length cap ∧ l.length ≤ cap ∧ TxRows w b (l.map Rw.text) := by
  rcases h.1.2 with ⟨_, h9⟩ | ⟨b, cap, cur, hv, _, hg, hcap, _, _, ht⟩
  · omega
  · refine ⟨b, cap, hv, hcap, fun i hi => ?_⟩
    have hi' : i < l.length := by simpa using hi
    have key : ∀ k, k < 2 → w.cell? ⟨b, i * 2 + k, none⟩ = (l[i]).vals[k]? := fun k hk => by
      have h1 : (cur.toList.take (l.length * 2))[i * 2 + k]? = (l[i]).vals[k]? := by rw [ht, rvCells_get _ _ hi' _ hk]
      rw [List.getElem?_take_of_lt (by omega)] at h1
      rw [cell_of_row _ _ _ _ _ _ hg, ← Array.getElem?_toList]
      exact h1
    obtain ⟨a, c2, e1, h3, _⟩ := texts_of_own (h.2 l[i] (List.getElem_mem hi'))
    have e2 : (l.map Rw.text)[i] = (l[i]).text := by simp
    injection e1 with e3 e4 e5
    subst e3
    rw [e2]
    exact ⟨_, _, key 0 (by omega), key 1 (by omega), h3⟩
structure Ldable (c : Ch) : Prop where
  l : Lens c
  bn : c.bn ≤ 1099511627776
  an : c.an ≤ 1099511627776
  la : c.la ≤ 1099511627776
  few : c.ev.length ≤ 64
  anc : c.an ≤ c.cnt
  num : ∀ i (h : i < c.ev.length), c.ev[i].num = c.bn + i + 1
  siz : ∀ e ∈ c.ev, e.what.size ≤ 12 ∧ e.who.size ≤ 30
  tim : ∀ e ∈ c.ev, e.tim ≤ c.la
  up : ∀ i (h : i + 1 < c.ev.length), (c.ev[i]'(by omega)).tim ≤ c.ev[i + 1].tim
def cutE (c : Ch) (k : Nat) : Ch := { c with ev := c.ev.take k }
theorem Ldable.last {c : Ch} (h : Ldable c) (k : Nat) (hk : k < c.ev.length) : lastT (cutE c k) ≤ c.ev[k].tim := by
  unfold lastT cutE
  cases k with
  | zero => simp
  | succ k =>
    rw [List.getLast?_eq_getElem?]
    simp only [List.length_take]
    rw [show min (k + 1) c.ev.length - 1 = k by omega, List.getElem?_take_of_lt (by omega), List.getElem?_eq_getElem (by omega)]
    exact h.up k hk
end Go.Proofs.YthfmpebgmojcaaaDoor
/- Load of a chain's own rows, by a contract. -/
namespace Go.Proofs.YthfmpebgmojcaaaDoor
open Go.RowKit
set_option linter.unusedVariables false
set_option maxRecDepth 20000
end Go.Proofs.YthfmpebgmojcaaaDoor
/- The reference's hash of a row: 32 bytes of the only column. -/
namespace Go.Proofs.YthfmpebgmojcaaaDoor
open Go.RowKit
set_option linter.unusedVariables false
set_option maxRecDepth 20000
attribute [local go_sem ↓] loadH_fold storeH_fold
def curH (h : List UInt8) (i : Nat) : List UInt8 := h.take i ++ List.replicate (32 - i) 0
theorem curH_len (h : List UInt8) (hl : h.length = 32) (i : Nat) (hi : i ≤ 32) : (curH h i).length = 32 := by simp [curH, hl]; omega
theorem curH_0 (h : List UInt8) : curH h 0 = zero32 := by simp [curH, zero32]
theorem curH_32 (h : List UInt8) (hl : h.length = 32) : curH h 32 = h := by simp [curH, List.take_of_length_le (Nat.le_of_eq hl)]
theorem curH_step (h : List UInt8) (hl : h.length = 32) (i : Nat) (hi : i < 32) : (bvs (curH h i)).setIfInBounds i (.int .u8 ((h[i]'(by omega)).toNat : Int)) = bvs (curH h (i + 1)) := by
  show (cellsOf (curH h i)).toArray.setIfInBounds i _ = (cellsOf (curH h (i + 1))).toArray
  rw [List.setIfInBounds_toArray]
  congr 1
  unfold curH cellsOf
  rw [show 32 - i = (32 - (i + 1)) + 1 by omega, List.replicate_succ, List.map_append, List.map_cons, set_mid _ _ _ _ i (by simp; omega), List.take_succ_eq_append_getElem (by omega), List.map_append, List.map_append, List.append_assoc]
  rfl
set_option maxHeartbeats 4000000 in
theorem rhash_ok (w : World) (key : ByteArray) (h : List UInt8) (hl : h.length = 32) (ad : Option Addr) (cp : Nat) (ht : Texts w ad [mkB h]) :
    Calls Tryd.prog 35 #[.agg #[.string key, .slice ad 1 cp], .string key] w fun e w' => e = .returned (.tuple #[.agg (bvs h), .bool true]) ∧ Below w.heap.size w w' := by
  obtain ⟨b, o, rfl, j0⟩ := ht 0 (by simp)
  have c0 : w.cell? ⟨b, o, none⟩ = some (.string (mkB h)) := j0
  clear ht j0
  have hsz : (mkB h).size = 32 := by show h.toArray.size = 32; simpa using hl
  have hget : ∀ i (hi : i < 32), (mkB h).data[i]? = some (h[i]'(by omega)) := fun i hi => by
    show h.toArray[i]? = _
    simp [hl, hi]
  obtain ⟨Z, hZ⟩ : ∃ Z, Z = bvs zero32 := ⟨_, rfl⟩
  have zh := (zero_of_info zero_hash).1
  rw [show bvs (List.replicate 32 0) = Z from hZ.symm] at zh
  obtain ⟨W, hW⟩ : ∃ W, W = ((w.alloc (.cells #[.string key, .slice (some ⟨b, o, none⟩) 1 cp] 75)).alloc (.cells Z 69)).alloc (.cells Z 69) := ⟨_, rfl⟩
  have b1 : Below w.heap.size w (w.alloc (.cells #[.string key, .slice (some ⟨b, o, none⟩) 1 cp] 75)) := (Below.refl _ w).alloc (Nat.le_refl _) _
  have bW : Below w.heap.size w W := by rw [hW]; exact (b1.alloc (by simp) _).alloc (by simp; omega) _
  have x0 : W.heap[w.heap.size]? = some (.cells #[.string key, .slice (some ⟨b, o, none⟩) 1 cp] 75 (0, 0)) := by
    rw [hW, (MapKept.heap_alloc _ _).2 _ (by simp; omega), (MapKept.heap_alloc _ _).2 _ (by simp)]
    exact heap_alloc_new w _
  have x1 : W.heap[w.heap.size + 1]? = some (.cells Z 69 (0, 0)) := by
    rw [hW, (MapKept.heap_alloc _ _).2 _ (by simp)]
    have := heap_alloc_new (w.alloc (.cells #[.string key, .slice (some ⟨b, o, none⟩) 1 cp] 75)) (.cells Z 69)
    rw [show (w.alloc (.cells #[.string key, .slice (some ⟨b, o, none⟩) 1 cp] 75)).heap.size = w.heap.size + 1 by simp] at this
    exact this
  have x2 : W.heap[w.heap.size + 1 + 1]? = some (.cells Z 69 (0, 0)) := by
    rw [hW]
    have := heap_alloc_new ((w.alloc (.cells #[.string key, .slice (some ⟨b, o, none⟩) 1 cp] 75)).alloc (.cells Z 69)) (.cells Z 69)
    rw [show ((w.alloc (.cells #[.string key, .slice (some ⟨b, o, none⟩) 1 cp] 75)).alloc (.cells Z 69)).heap.size = w.heap.size + 1 + 1 by simp] at this
    exact this
  have k0 : W.cell? ⟨w.heap.size, 0, none⟩ = some (.string key) := cell_of_row _ _ 0 _ _ _ x0
  have k1 : W.cell? ⟨w.heap.size, 1, none⟩ = some (.slice (some ⟨b, o, none⟩) 1 cp) := cell_of_row _ _ 1 _ _ _ x0
  have cW : W.cell? ⟨b, o, none⟩ = some (.string (mkB h)) := (bW.cell (World.block_lt_of_cell? _ _ c0)).trans c0
  have hkk : (key.toList == key.toList) = true := by simp
  have hbl : b < w.heap.size := World.block_lt_of_cell? _ _ c0
  have Hl := hid hl
  have HZ := hid hZ
  have zh := hid zh
  have HW := hid hW
  have BW := hid bW
  have X0 := hid x0
  have X1 := hid x1
  have X2 := hid x2
  have Hget := hid hget
  clear hZ hW bW b1 x0 x1 x2 c0 hget
  obtain ⟨t, htt⟩ : ∃ t, t = mkB h := ⟨_, rfl⟩
  have HT := hid htt
  rw [← htt] at cW hsz
  clear htt
  go_enter Tryd.func35, Tryd.ntmps35
  go_wp2_with (first
    | (with_reducible show Go.wpList _ _ _ _ _ _; refine wpList_alloc_row rfl 69 rfl Z zh.out ?_; rw [← HW.out])
    | (with_reducible show Go.wpList _ _ _ _ _ _; refine wpList_alloc_row rfl 69 rfl Z zh.out ?_))
  go_loopw [7] (fun i wr => ∃ k : Nat, k ≤ 32 ∧ i = .int .i64 (k : Int) ∧ wr.heap[w.heap.size + 1 + 1]? = some (.cells (bvs (curH h k)) 69 (0, 0)) ∧ Out (fun j => j = w.heap.size + 1 + 1) W wr) (fun i _ => 32 - (intOf i).toNat)
  case atStart => exact ⟨0, Nat.zero_le _, rfl, by rw [curH_0, ← HZ.out]; exact X2.out, Out.refl _ _⟩
  case round =>
    obtain ⟨k, hk, rfl, hc, hout⟩ := hrel
    have y0 := (hout.block w.heap.size (heap_lt X0.out) (by omega)).trans X0.out
    have k1 : wr.cell? ⟨w.heap.size, 1, none⟩ = some (.slice (some ⟨b, o, none⟩) 1 cp) := cell_of_row _ _ 1 _ _ _ y0
    have cR : wr.cell? ⟨b, o, none⟩ = some (.string t) := by
      have : wr.cell? ⟨b, o, none⟩ = W.cell? ⟨b, o, none⟩ := by unfold World.cell?; rw [hout.block b (Nat.lt_of_lt_of_le hbl BW.out.size) (by omega)]
      exact this.trans cW
    have Hout := hid hout
    have HC := hid hc
    by_cases hlt : k < 32
    · have hget : t.data[k]? = some (h[k]'(by have := Hl.out; omega)) := by rw [HT.out]; exact Hget.out k hlt
      have st := hid (curH_step h Hl.out k hlt)
      generalize (h[k]'(by have := Hl.out; omega)) = cc at *
      have g1 : decide ((k : Int) < 32) = true := by simp; omega
      have z1 : ∃ u, wr.cell? ⟨w.heap.size + 1 + 1, k, none⟩ = some u := by
        rw [cell_of_row _ _ _ _ _ _ hc]
        exact ⟨_, Array.getElem?_eq_getElem (by show k < (cellsOf _).toArray.size; rw [List.size_toArray, cellsOf_length, curH_len h Hl.out k hk]; exact hlt)⟩
      obtain ⟨u, z1⟩ := z1
      have z2 : wr.frozen? ⟨w.heap.size + 1 + 1, k, none⟩ = false := frozen_of_row _ _ _ _ _ hc
      clear hc hout y0
      go_wp2
      go_roundw
      case rel =>
        have e9 : t[k]'(by omega) = cc := by
          have h9 : t.data[k]? = some (t.data[k]'(by show k < t.size; omega)) := Array.getElem?_eq_getElem _
          rw [hget] at h9
          exact (Option.some.inj h9).symm
        refine ⟨k + 1, by omega, by go_num, ?_, Hout.out.setCell _ _ rfl⟩
        rw [heap_setCell_same _ _ _ _ _ _ HC.out, e9, st.out]
      case measure => simp [intOf]; omega
    · have g1 : decide ((k : Int) < 32) = false := by simp; omega
      obtain rfl : k = 32 := by omega
      rw [curH_32 h Hl.out] at hc
      have HC2 := hid hc
      have HZ1 := hid ((hout.block (w.heap.size + 1) (heap_lt X1.out) (by omega)).trans X1.out)
      have sh := hid (size_hashs h Hl.out)
      have one := hid (bvs_one h)
      have zs : Hid (Z.size = (bvs h).size) := by
        show _ = _
        rw [HZ.out, bvs_size, bvs_size, Hl.out]
        rfl
      clear hc hout y0 HC
      obtain ⟨O, hO⟩ : ∃ O, O = bvs h := ⟨_, rfl⟩
      rw [← hO] at HC2 sh one zs
      have HO := hid hO
      clear hO
      go_wp2_with (first
        | (with_reducible show Go.wpList _ _ _ _ _ _; refine wpList_load_row rfl 69 _ rfl (w.heap.size + 1 + 1) rfl _ _ _ _ HC2.out Tryd.underlying69 rfl sh.out ?_)
        | (with_reducible show Go.wpList _ _ _ _ _ _; refine wpList_store_row rfl 69 _ _ rfl (w.heap.size + 1) O rfl rfl 69 Z HZ1.out sh.out zs.out one.out ?_))
      refine bodyPost_ret (results_row_tmp rfl _ _ (w.heap.size + 1) 69 O (0, 0) _ rfl (setRow_heap _ _ _ _ _ _ HZ1.out) Tryd.underlying69 rfl sh.out) rfl ?_
      exact ⟨by rw [HO.out]; rfl, (BW.out.trans (Hout.out.below BW.out.size (fun j hj => by omega))).setRow (by omega) _⟩
end Go.Proofs.YthfmpebgmojcaaaDoor
