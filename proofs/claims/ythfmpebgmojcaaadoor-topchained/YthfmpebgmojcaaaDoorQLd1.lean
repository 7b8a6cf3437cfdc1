/- YthfmpebgmojcaaaDoorALd3 + YthfmpebgmojcaaaDoorALd4 + YthfmpebgmojcaaaDoorALd6 + YthfmpebgmojcaaaDoorALd7 + YthfmpebgmojcaaaDoorQMath + YthfmpebgmojcaaaDoorQLd1 -/
import Derived.Test.YthfmpebgmojcaaaDoorTkG
import Derived.Test.YthfmpebgmojcaaaDoorALd2
import Derived.Test.YthfmpebgmojcaaaDoorATk2
import Derived.Test.YthfmpebgmojcaaaDoorQNum
/- Loading a chain: toHash, by a contract for right rows. -/
namespace Go.Proofs.YthfmpebgmojcaaaDoor
open Go.RowKit
set_option linter.unusedVariables false
set_option maxRecDepth 20000
set_option maxHeartbeats 1000000 in
theorem toHash_ok (w : World) (key : ByteArray) (hks : key.size ≤ 1000) (ad : Option Addr) (cp : Nat) (h : List UInt8) (hl : h.length = 32) (ht : Texts w ad [mkB h]) :
    Calls Tryd.prog 72 #[.agg #[.string key, .slice ad 1 cp], .string key] w fun e w' => e = .returned (.tuple #[.agg (bvs h), .bool true]) ∧ Below w.heap.size w w' := by
  obtain ⟨Z, hZ⟩ : ∃ Z, Z = bvs (List.replicate 32 0) := ⟨_, rfl⟩
  have zh := (zero_of_info zero_hash).1
  rw [← hZ] at zh
  have hz : Hid (HV Z zero32) := by
    show HV _ _
    rw [hZ]; exact hv_zero
  have zh := hid zh
  obtain ⟨b, o, rfl, j0⟩ := ht 0 (by simp)
  have b0 : Below w.heap.size w ((w.alloc (.cells #[.string key, .slice (some ⟨b, o, none⟩) 1 cp] 75)).alloc (.cells Z 69)) := ((Below.refl _ w).alloc (Nat.le_refl _) _).alloc (by simp) _
  have k0 : ((w.alloc (.cells #[.string key, .slice (some ⟨b, o, none⟩) 1 cp] 75)).alloc (.cells Z 69)).cell? ⟨b, o, none⟩ = some (.string (mkB h)) := (b0.cell (p := ⟨b, o, none⟩) (World.block_lt_of_cell? _ _ j0)).trans j0
  have r0 : ((w.alloc (.cells #[.string key, .slice (some ⟨b, o, none⟩) 1 cp] 75)).alloc (.cells Z 69)).heap[w.heap.size + 1]? = some (.cells Z 69 (0, 0)) := heap_alloc2_new w _ _
  have m0 := cell_of_row _ _ 0 _ _ _ (heap_alloc2_old w (.cells #[.string key, .slice (some ⟨b, o, none⟩) 1 cp] 75) (.cells Z 69))
  have m1 := cell_of_row _ _ 1 _ _ _ (heap_alloc2_old w (.cells #[.string key, .slice (some ⟨b, o, none⟩) 1 cp] 75) (.cells Z 69))
  have C := hid (fun W => hashOf_ok W h hl)
  have R0 := hid r0
  have B0 := hid b0
  have sh := hid (size_hashs h hl)
  have one := hid (bvs_one h)
  have zs : Hid (Z.size = (bvs h).size) := hz.out.size.trans (HV.size (l := h) ⟨rfl, hl⟩).symm
  generalize mkB h = t at *
  generalize bvs h = O at *
  clear hZ r0 b0 j0 ht
  go_enter Tryd.func72, Tryd.ntmps72
  go_wp2_with (first
    | (with_reducible show Go.wpList _ _ _ _ _ _; refine wpList_alloc_row rfl 69 rfl Z zh.out ?_)
    | (go_at_call 100; refine (C.out _).mono ?_; rintro e w1 ⟨rfl, hb1⟩; have R1 := hid ((hb1.block _ (heap_lt R0.out)).trans R0.out); have B1 := hid (Below.on' B0.out hb1); clear hb1)
    | (with_reducible show Go.wpList _ _ _ _ _ _; refine wpList_store_row rfl 69 (.tmp 4) (.tmp 22) rfl (w.heap.size + 1) O rfl rfl 69 Z R1.out sh.out zs.out one.out ?_))
  refine bodyPost_ret (results_row_tmp rfl _ _ (w.heap.size + 1) 69 O (0, 0) _ rfl (setRow_heap _ _ _ _ _ _ R1.out) Tryd.underlying69 rfl sh.out) rfl ?_
  exact ⟨rfl, B1.out.setRow (by omega) _⟩
end Go.Proofs.YthfmpebgmojcaaaDoor
/- takeHashes' stores, over a frame that is a letter. -/
namespace Go.Proofs.YthfmpebgmojcaaaDoor
open Go.RowKit
set_option linter.unusedVariables false
set_option maxRecDepth 20000
section
variable {w : World} {B g : Nat} {v : Value} {c : Ch}
theorem ChAt.setAh (h : ChAt w B g v c) (ok : Lens c) (l : List UInt8) (hl : l.length = 32) : ChAt (w.setCells g 34 (cellsOf l)) B g v { c with ah := l } := by
  refine ⟨?_, h.row_set _ _, h.bg⟩
  rw [heap_setCells_same g _ (cellsOf l) 34 w _ h.obj (by rw [ccells_length ok, cellsOf_length, hl]; omega)]
  have e : ∀ d : Ch, ccells d v = (lnkC d.bn d.bh ++ [.int .i64 (d.an : Int)]) ++ (cellsOf d.ah ++ (v :: (cellsOf d.hd ++ [.int .i64 (d.la : Int)]))) := fun d => by simp [ccells, lnkC]
  rw [e, e, splice_mid _ _ _ _ (by simp [cellsOf, hl, ok.lan]) 34 (by simp [lnkC_length, ok.lb])]
theorem ChAt.setBh (h : ChAt w B g v c) (ok : Lens c) (l : List UInt8) (hl : l.length = 32) : ChAt (w.setCells g 1 (cellsOf l)) B g v { c with bh := l } := by
  refine ⟨?_, h.row_set _ _, h.bg⟩
  rw [heap_setCells_same g _ (cellsOf l) 1 w _ h.obj (by rw [ccells_length ok, cellsOf_length, hl]; omega)]
  have e : ∀ d : Ch, ccells d v = [.int .i64 (d.bn : Int)] ++ (cellsOf d.bh ++ (lnkC d.an d.ah ++ (v :: (cellsOf d.hd ++ [.int .i64 (d.la : Int)])))) := fun d => by simp [ccells, lnkC]
  rw [e, e, splice_mid _ _ _ _ (by simp [cellsOf, hl, ok.lb]) 1 rfl]
end
def Three (x5 x7 x9 : Nat) (la lb lh : List UInt8) (V : World) : Prop := V.heap[x5]? = some (.cells (cellsOf la).toArray 69 (0, 0)) ∧ V.heap[x7]? = some (.cells (cellsOf lb).toArray 69 (0, 0)) ∧ V.heap[x9]? = some (.cells (cellsOf lh).toArray 69 (0, 0))
theorem set3 {x5 x7 x9 g o : Nat} {la lb lh l : List UInt8} {V : World} (h : Three x5 x7 x9 la lb lh V) (hne : x5 ≠ g ∧ x7 ≠ g ∧ x9 ≠ g) : Three x5 x7 x9 la lb lh (V.setCells g o (cellsOf l)) :=
  ⟨(other_setCells g x5 hne.1 _ _ _).trans h.1, (other_setCells g x7 hne.2.1 _ _ _).trans h.2.1, (other_setCells g x9 hne.2.2 _ _ _).trans h.2.2⟩
noncomputable def codeTH : Code := ((Tryd.f32.body.bind (regionAt 4)).getD .skip)
set_option maxHeartbeats 4000000 in
theorem takeHashes_region {V0 W5 : World} {B g x5 x7 x9 : Nat} {v : Value} {c : Ch} {la lb lh : List UInt8} {A : Act} (sz : A.tmps.size = 53) (e0 : A.eval (.tmp 0) = .pointer (some ⟨g, 0, none⟩)) (e5 : A.eval (.tmp 5) = .pointer (some ⟨x5, 0, none⟩)) (e7 : A.eval (.tmp 7) = .pointer (some ⟨x7, 0, none⟩)) (e9 : A.eval (.tmp 9) = .pointer (some ⟨x9, 0, none⟩))
    (hV0 : V0 = W5.drew) (H0 : ChAt V0 B g v c) (ok : Lens c) (hla : la.length = 32) (hlb : lb.length = 32) (hlh : lh.length = 32) (hs0 : Three x5 x7 x9 la lb lh V0) (hne : x5 ≠ g ∧ x7 ≠ g ∧ x9 ≠ g) :
    codeTH.wp Tryd.prog (fun x a V => x = .normal ∧ a = ((((((((((((((A.put (some 32) (.pointer (some ⟨g, 0, none⟩))).put (some 33) (.pointer (some ⟨g, 0, none⟩))).put (some 34) (.pointer (some ⟨g, 0, none⟩))).put (some 35) (.agg (bvs la))).put (some 36) (.agg (bvs lb))).put (some 37) (.agg (bvs lh))).put (some 38) (.pointer (some ⟨g, 0, none⟩))).put (some 39) (.pointer (some ⟨g, 33, none⟩))).put (some 40) (.pointer (some ⟨g, 34, none⟩))).put (some 41) (.pointer (some ⟨g, 0, none⟩))).put (some 42) (.pointer (some ⟨g, 0, none⟩))).put (some 43) (.pointer (some ⟨g, 1, none⟩))).put (some 44) (.pointer (some ⟨g, 0, none⟩))).put (some 45) (.pointer (some ⟨g, 67, none⟩))) ∧ ChAt V B g v { c with ah := la, bh := lb, hd := lh } ∧ Out (fun k => k = g) V0 V) A W5 := by
  have hm : Tryd.prog.follows .mixedOrders = true := by kernel_rfl
  unfold codeTH
  conv => arg 2; whnf
  refine wp_region_held (S := Three x5 x7 x9 la lb lh) hm ?_
  rw [show ({ W5 with drawn := W5.drawn + 1 } : World) = V0 from hV0.symm]
  refine tkH (i := 0) (d := 32) (v := .pointer (some ⟨g, 0, none⟩)) rfl rfl (yields_move (by simp [Region.wanted]) (.tmp 0) rfl _ e0) hs0 ?_
  refine tkH (i := 1) (d := 33) (v := .pointer (some ⟨g, 0, none⟩)) rfl rfl (yields_move (by simp [Region.wanted]) (.tmp 0) rfl _ (evn e0)) hs0 ?_
  refine tkH (i := 2) (d := 34) (v := .pointer (some ⟨g, 0, none⟩)) rfl rfl (yields_move (by simp [Region.wanted]) (.tmp 0) rfl _ (evn (evn e0))) hs0 ?_
  refine tkH (i := 3) (d := 35) (v := .agg (bvs la)) rfl rfl (y_loadH (by simp [Region.wanted]) (.tmp 5) rfl x5 0 la hla (evn (evn (evn e5))) (fun V hV => range_whole hV.1)) hs0 ?_
  refine tkH (i := 4) (d := 36) (v := .agg (bvs lb)) rfl rfl (y_loadH (by simp [Region.wanted]) (.tmp 7) rfl x7 0 lb hlb (evn (evn (evn (evn e7)))) (fun V hV => range_whole hV.2.1)) hs0 ?_
  refine tkH (i := 5) (d := 37) (v := .agg (bvs lh)) rfl rfl (y_loadH (by simp [Region.wanted]) (.tmp 9) rfl x9 0 lh hlh (evn (evn (evn (evn (evn e9))))) (fun V hV => range_whole hV.2.2)) hs0 ?_
  obtain ⟨A2, hA2⟩ : ∃ A2, A2 = ((((((A.put (some 32) (.pointer (some ⟨g, 0, none⟩))).put (some 33) (.pointer (some ⟨g, 0, none⟩))).put (some 34) (.pointer (some ⟨g, 0, none⟩))).put (some 35) (.agg (bvs la))).put (some 36) (.agg (bvs lb))).put (some 37) (.agg (bvs lh))) := ⟨_, rfl⟩
  have szA2 : A2.tmps.size = 53 := by rw [hA2]; simp [put_sz, sz]
  have eA232 : A2.eval (.tmp 32) = .pointer (some ⟨g, 0, none⟩) := by rw [hA2]; exact (evn (evn (evn (evn (evn (ev_eq _ _ (by simp [sz])))))))
  have eA233 : A2.eval (.tmp 33) = .pointer (some ⟨g, 0, none⟩) := by rw [hA2]; exact (evn (evn (evn (evn (ev_eq _ _ (by simp [put_sz, sz]))))))
  have eA234 : A2.eval (.tmp 34) = .pointer (some ⟨g, 0, none⟩) := by rw [hA2]; exact (evn (evn (evn (ev_eq _ _ (by simp [put_sz, sz])))))
  have eA235 : A2.eval (.tmp 35) = .agg (bvs la) := by rw [hA2]; exact (evn (evn (ev_eq _ _ (by simp [put_sz, sz]))))
  have eA236 : A2.eval (.tmp 36) = .agg (bvs lb) := by rw [hA2]; exact (evn (ev_eq _ _ (by simp [put_sz, sz])))
  have eA237 : A2.eval (.tmp 37) = .agg (bvs lh) := by rw [hA2]; exact (ev_eq _ _ (by simp [put_sz, sz]))
  rw [← hA2]
  refine tkH (i := 6) (d := 38) (v := .pointer (some ⟨g, 0, none⟩)) rfl rfl (y_nil (by simp [Region.wanted]) (.tmp 32) rfl _ eA232) hs0 ?_
  refine tkH (i := 7) (d := 39) (v := .pointer (some ⟨g, 33, none⟩)) rfl rfl (y_chain1 (by simp [Region.wanted]) (.tmp 38) rfl g (ev_eq _ _ (by simp [szA2]))) hs0 ?_
  refine tkH (i := 8) (d := 40) (v := .pointer (some ⟨g, 34, none⟩)) rfl rfl (y_link1 (by simp [Region.wanted]) (.tmp 39) rfl g 33 (ev_eq _ _ (by simp [put_sz, szA2]))) hs0 ?_
  obtain ⟨S1, hS1⟩ : ∃ S1, S1 = (((A2.put (some 38) (.pointer (some ⟨g, 0, none⟩))).put (some 39) (.pointer (some ⟨g, 33, none⟩))).put (some 40) (.pointer (some ⟨g, 34, none⟩))) := ⟨_, rfl⟩
  have szS1 : S1.tmps.size = 53 := by rw [hS1]; simp [put_sz, szA2]
  have eS140 : S1.eval (.tmp 40) = .pointer (some ⟨g, 34, none⟩) := by rw [hS1]; exact (ev_eq _ _ (by simp [put_sz, szA2]))
  have eS135 : S1.eval (.tmp 35) = .agg (bvs la) := by rw [hS1]; exact (evn (evn (evn eA235)))
  have eS133 : S1.eval (.tmp 33) = .pointer (some ⟨g, 0, none⟩) := by rw [hS1]; exact (evn (evn (evn eA233)))
  have eS134 : S1.eval (.tmp 34) = .pointer (some ⟨g, 0, none⟩) := by rw [hS1]; exact (evn (evn (evn eA234)))
  have eS136 : S1.eval (.tmp 36) = .agg (bvs lb) := by rw [hS1]; exact (evn (evn (evn eA236)))
  have eS137 : S1.eval (.tmp 37) = .agg (bvs lh) := by rw [hS1]; exact (evn (evn (evn eA237)))
  rw [← hS1]
  refine wpAnyH_all (rs := [9]) (by kernel_rfl) (by simp) fun i1 hm1 => ?_
  obtain rfl : i1 = 9 := by simpa using hm1
  refine wpOp_own rfl rfl fun K1 hK1 => ?_
  refine wp_store_mid 69 (.tmp 40) (.tmp 35) rfl g 34 (bvs la) eS140 eS135 (by rw [bvs_size, hla]; exact H0.there ok 34 32 (by omega)) (by rw [bvs_size, hla]; exact size_hash) (bvs_one _) ?_
  rw [show (bvs la).toList = cellsOf la from rfl]
  have H1 := H0.setAh ok la hla
  have hs1 := set3 (g := g) (o := 34) (l := la) hs0 hne
  refine hK1 _ _ ⟨hs1, ?_⟩
  clear hK1 K1 hm1
  show wpAnyH _ _ _ _ _ _ _ S1 _
  refine tkH (i := 10) (d := 41) (v := .pointer (some ⟨g, 0, none⟩)) rfl rfl (y_nil (by simp [Region.wanted]) (.tmp 33) rfl _ eS133) hs1 ?_
  refine tkH (i := 11) (d := 42) (v := .pointer (some ⟨g, 0, none⟩)) rfl rfl (y_chain0 (by simp [Region.wanted]) (.tmp 41) rfl g (ev_eq _ _ (by simp [szS1]))) hs1 ?_
  refine tkH (i := 12) (d := 43) (v := .pointer (some ⟨g, 1, none⟩)) rfl rfl (y_link1 (by simp [Region.wanted]) (.tmp 42) rfl g 0 (ev_eq _ _ (by simp [put_sz, szS1]))) hs1 ?_
  obtain ⟨S2, hS2⟩ : ∃ S2, S2 = (((S1.put (some 41) (.pointer (some ⟨g, 0, none⟩))).put (some 42) (.pointer (some ⟨g, 0, none⟩))).put (some 43) (.pointer (some ⟨g, 1, none⟩))) := ⟨_, rfl⟩
  have szS2 : S2.tmps.size = 53 := by rw [hS2]; simp [put_sz, szS1]
  have eS243 : S2.eval (.tmp 43) = .pointer (some ⟨g, 1, none⟩) := by rw [hS2]; exact (ev_eq _ _ (by simp [put_sz, szS1]))
  have eS236 : S2.eval (.tmp 36) = .agg (bvs lb) := by rw [hS2]; exact (evn (evn (evn eS136)))
  have eS234 : S2.eval (.tmp 34) = .pointer (some ⟨g, 0, none⟩) := by rw [hS2]; exact (evn (evn (evn eS134)))
  have eS237 : S2.eval (.tmp 37) = .agg (bvs lh) := by rw [hS2]; exact (evn (evn (evn eS137)))
  rw [← hS2]
  refine wpAnyH_all (rs := [13]) (by kernel_rfl) (by simp) fun i2 hm2 => ?_
  obtain rfl : i2 = 13 := by simpa using hm2
  refine wpOp_own rfl rfl fun K2 hK2 => ?_
  refine wp_store_mid 69 (.tmp 43) (.tmp 36) rfl g 1 (bvs lb) eS243 eS236 (by rw [bvs_size, hlb]; exact H1.there (c := { c with ah := la }) ⟨ok.lb, hla, ok.lh⟩ 1 32 (by omega)) (by rw [bvs_size, hlb]; exact size_hash) (bvs_one _) ?_
  rw [show (bvs lb).toList = cellsOf lb from rfl]
  have H2 := H1.setBh (c := { c with ah := la }) ⟨ok.lb, hla, ok.lh⟩ lb hlb
  have hs2 := set3 (g := g) (o := 1) (l := lb) hs1 hne
  refine hK2 _ _ ⟨hs2, ?_⟩
  clear hK2 K2 hm2
  show wpAnyH _ _ _ _ _ _ _ S2 _
  refine tkH (i := 14) (d := 44) (v := .pointer (some ⟨g, 0, none⟩)) rfl rfl (y_nil (by simp [Region.wanted]) (.tmp 34) rfl _ eS234) hs2 ?_
  refine tkH (i := 15) (d := 45) (v := .pointer (some ⟨g, 67, none⟩)) rfl rfl (y_chain3 (by simp [Region.wanted]) (.tmp 44) rfl g (ev_eq _ _ (by simp [szS2]))) hs2 ?_
  obtain ⟨S3, hS3⟩ : ∃ S3, S3 = ((S2.put (some 44) (.pointer (some ⟨g, 0, none⟩))).put (some 45) (.pointer (some ⟨g, 67, none⟩))) := ⟨_, rfl⟩
  have szS3 : S3.tmps.size = 53 := by rw [hS3]; simp [put_sz, szS2]
  have eS345 : S3.eval (.tmp 45) = .pointer (some ⟨g, 67, none⟩) := by rw [hS3]; exact (ev_eq _ _ (by simp [put_sz, szS2]))
  have eS337 : S3.eval (.tmp 37) = .agg (bvs lh) := by rw [hS3]; exact (evn (evn eS237))
  rw [← hS3]
  refine wpAnyH_all (rs := [16]) (by kernel_rfl) (by simp) fun i3 hm3 => ?_
  obtain rfl : i3 = 16 := by simpa using hm3
  refine wpOp_own rfl rfl fun K3 hK3 => ?_
  refine wp_store_mid 69 (.tmp 45) (.tmp 37) rfl g 67 (bvs lh) eS345 eS337 (by rw [bvs_size, hlh]; exact H2.there (c := { c with ah := la, bh := lb }) ⟨hlb, hla, ok.lh⟩ 67 32 (by omega)) (by rw [bvs_size, hlh]; exact size_hash) (bvs_one _) ?_
  rw [show (bvs lh).toList = cellsOf lh from rfl]
  have H3 := H2.setHd (c := { c with ah := la, bh := lb }) ⟨hlb, hla, ok.lh⟩ lh hlh
  have hs3 := set3 (g := g) (o := 67) (l := lh) hs2 hne
  refine hK3 _ _ ⟨hs3, wpAnyH_done (by kernel_rfl) ⟨rfl, ?_, H3, Out.setCells (P := fun x => x = g) g rfl _ _ _ (Out.setCells (P := fun x => x = g) g rfl _ _ _ (Out.setCells (P := fun x => x = g) g rfl _ _ _ (Out.refl _ V0)))⟩ _⟩
  show S3 = _
  rw [hS3, hS2, hS1, hA2]
end Go.Proofs.YthfmpebgmojcaaaDoor
/- Loading a chain: takeHashes, by a contract for right rows. -/
namespace Go.Proofs.YthfmpebgmojcaaaDoor
open Go.RowKit
set_option linter.unusedVariables false
set_option maxRecDepth 20000
attribute [local go_sem ↓] loadL_fold storeL_fold loadH_fold storeH_fold buildH_fold
set_option maxHeartbeats 2000000 in
theorem takeHashes_ok {w : World} {B g : Nat} {v : Value} {c : Ch} (h : ChAt w B g v c) (ok : Lens c) (b o cp : Nat) (hbw : b < w.heap.size) (a1 a2 a3 : Option Addr) (p1 p2 p3 : Nat) (la lb lh : List UInt8) (hla : la.length = 32) (hlb : lb.length = 32) (hlh : lh.length = 32)
    (hr : w.rangeAt b o [.string ⟨#[97]⟩, .slice a1 1 p1, .string ⟨#[98]⟩, .slice a2 1 p2, .string ⟨#[104]⟩, .slice a3 1 p3]) (t1 : Texts w a1 [mkB la]) (t2 : Texts w a2 [mkB lb]) (t3 : Texts w a3 [mkB lh]) :
    Calls Tryd.prog 32 #[.pointer (some ⟨g, 0, none⟩), .slice (some ⟨b, o, none⟩) 3 cp] w fun e w' => e = .returned (.bool true) ∧ ChAt w' B g v { c with ah := la, bh := lb, hd := lh } ∧ Out (fun j => j = g) w w' := by
  obtain ⟨Z, hZ⟩ : ∃ Z, Z = bvs zero32 := ⟨_, rfl⟩
  have zh := (zero_of_info zero_hash).1
  rw [show bvs (List.replicate 32 0) = Z from hZ.symm] at zh
  have hSt : ∀ (l : List UInt8), l.length = 32 → ∀ W : World, (storeH (.pointer (some ⟨W.heap.size, 0, none⟩)) (.agg (bvs l))).run Tryd.prog (W.alloc (.cells Z 69)) = .ok () (W.alloc (.cells (bvs l) 69)) := fun l hl W => by
    have := storeH_new W l zero32 hl (by decide)
    rw [show bvs zero32 = Z from hZ.symm] at this
    exact this
  have s1 := hSt la hla
  have s2 := hSt lb hlb
  have s3 := hSt lh hlh
  have HH := hid h
  have OK := hid ok
  have Hr := hid hr
  have T1 := hid t1
  have T2 := hid t2
  have T3 := hid t3
  obtain ⟨Oa, hOa⟩ : ∃ O, O = bvs la := ⟨_, rfl⟩
  obtain ⟨Ob, hOb⟩ : ∃ O, O = bvs lb := ⟨_, rfl⟩
  obtain ⟨Oh, hOh⟩ : ∃ O, O = bvs lh := ⟨_, rfl⟩
  rw [← hOa] at s1
  rw [← hOb] at s2
  rw [← hOh] at s3
  have HOa := hid hOa
  have HOb := hid hOb
  have HOh := hid hOh
  have cells : Hid (∀ W, Below w.heap.size w W → ∀ j u, [Value.string ⟨#[97]⟩, .slice a1 1 p1, .string ⟨#[98]⟩, .slice a2 1 p2, .string ⟨#[104]⟩, .slice a3 1 p3][j]? = some u → W.cell? ⟨b, o + j, none⟩ = some u) := fun W hb j u hj => (hb.cell (p := ⟨b, o + j, none⟩) hbw).trans (hr j u hj)
  have c0 : w.cell? ⟨b, o, none⟩ = some (.string ⟨#[97]⟩) := hr 0 _ rfl
  have c1 : w.cell? ⟨b, o + 1, none⟩ = some (.slice a1 1 p1) := hr 1 _ rfl
  have C1 := hid (toHash_ok w ⟨#[97]⟩ (by decide) a1 p1 la hla t1)
  rw [← hOa] at C1
  clear h ok hr t1 t2 t3 hSt hZ hOa hOb hOh
  go_enter Tryd.func32, Tryd.ntmps32
  go_wp2_with fail
  refine C1.out.mono ?_
  rintro _ w1 ⟨rfl, hb1⟩
  have ge1 := hid hb1.size
  obtain ⟨w2, hw2⟩ : ∃ w2, w2 = w1.alloc (.cells Oa 69) := ⟨_, rfl⟩
  have b2 : Below w.heap.size w w2 := by rw [hw2]; exact hb1.alloc hb1.size _
  have c2 : w2.cell? ⟨b, o + 2, none⟩ = some (.string ⟨#[98]⟩) := cells.out _ b2 2 _ rfl
  have c3 : w2.cell? ⟨b, o + 2 + 1, none⟩ = some (.slice a2 1 p2) := cells.out _ b2 3 _ rfl
  have x2 : w2.heap[w1.heap.size]? = some (.cells Oa 69 (0, 0)) := by rw [hw2]; exact heap_alloc_new w1 _
  have C2 := hid (toHash_ok w2 ⟨#[98]⟩ (by decide) a2 p2 lb hlb (T2.out.below b2))
  rw [← HOb.out] at C2
  have HW2 := hid hw2
  rw [hw2] at c2 c3
  have X2 := hid x2
  have B2 := hid b2
  clear c0 c1 hw2 hb1 x2 b2 C1
  go_wp2_with fail
  rw [← HW2.out]
  refine C2.out.mono ?_
  rintro _ w3 ⟨rfl, hb3⟩
  have ge3 := hid (Nat.le_trans B2.out.size hb3.size)
  obtain ⟨w4, hw4⟩ : ∃ w4, w4 = w3.alloc (.cells Ob 69) := ⟨_, rfl⟩
  have b24 : Below w2.heap.size w2 w4 := by rw [hw4]; exact hb3.alloc hb3.size _
  have b4 : Below w.heap.size w w4 := Below.on' B2.out b24
  have c4 : w4.cell? ⟨b, o + 4, none⟩ = some (.string ⟨#[104]⟩) := cells.out _ b4 4 _ rfl
  have c5 : w4.cell? ⟨b, o + 4 + 1, none⟩ = some (.slice a3 1 p3) := cells.out _ b4 5 _ rfl
  have x4 : w4.heap[w3.heap.size]? = some (.cells Ob 69 (0, 0)) := by rw [hw4]; exact heap_alloc_new w3 _
  have C3 := hid (toHash_ok w4 ⟨#[104]⟩ (by decide) a3 p3 lh hlh (T3.out.below b4))
  rw [← HOh.out] at C3
  have HW4 := hid hw4
  rw [hw4] at c4 c5
  have X4 := hid x4
  have X24 := hid ((b24.block _ (heap_lt X2.out)).trans X2.out)
  have B4 := hid b4
  clear c2 c3 hw4 hb3 x4 b4 b24 C2 X2
  go_wp2_with fail
  rw [← HW4.out]
  refine C3.out.mono ?_
  rintro _ w5 ⟨rfl, hb5⟩
  have ge5 := hid (Nat.le_trans B4.out.size hb5.size)
  obtain ⟨w6, hw6⟩ : ∃ w6, w6 = w5.alloc (.cells Oh 69) := ⟨_, rfl⟩
  have b46 : Below w4.heap.size w4 w6 := by rw [hw6]; exact hb5.alloc hb5.size _
  have x6 : w6.heap[w5.heap.size]? = some (.cells Oh 69 (0, 0)) := by rw [hw6]; exact heap_alloc_new w5 _
  have HW6 := hid hw6
  have B46 := hid b46
  have X6 := hid x6
  have l24 := hid B4.out.size
  clear c4 c5 hb5 C3 x6 b46 hw6
  go_wp2_with fail
  rw [← HW6.out]
  obtain ⟨V0, hV0⟩ : ∃ V0, V0 = w6.drew := ⟨_, rfl⟩
  have bV : Below w6.heap.size w6 V0 := by rw [hV0]; exact (Below.refl _ w6).drew
  have b4V : Below w4.heap.size w4 V0 := Below.on' B46.out bV
  have bwV : Below w.heap.size w V0 := Below.on' B4.out b4V
  have hgl := HH.out.lt
  have hge1 : w.heap.size ≤ w1.heap.size := by
    exact ge1.out
  refine wp_act _ fun A hA => ?_
  have sz : A.tmps.size = 53 := by rw [hA]; rfl
  have e0 : A.eval (.tmp 0) = .pointer (some ⟨g, 0, none⟩) := by rw [hA]; rfl
  have e5 : A.eval (.tmp 5) = .pointer (some ⟨w1.heap.size, 0, none⟩) := by rw [hA]; rfl
  have e7 : A.eval (.tmp 7) = .pointer (some ⟨w3.heap.size, 0, none⟩) := by rw [hA]; rfl
  have e9 : A.eval (.tmp 9) = .pointer (some ⟨w5.heap.size, 0, none⟩) := by rw [hA]; rfl
  have hT : Three w1.heap.size w3.heap.size w5.heap.size la lb lh V0 := ⟨by rw [b4V.block _ (heap_lt X24.out), X24.out, HOa.out]; rfl, by rw [b4V.block _ (heap_lt X4.out), X4.out, HOb.out]; rfl, by rw [bV.block _ (heap_lt X6.out), X6.out, HOh.out]; rfl⟩
  have hne : w1.heap.size ≠ g ∧ w3.heap.size ≠ g ∧ w5.heap.size ≠ g := by
    have q3 := ge3.out
    have q5 := ge5.out
    omega
  refine wp_split _ (takeHashes_region sz e0 e5 e7 e9 hV0 (HH.out.below bwV) OK.out hla hlb hlh hT hne) ?_
  rintro _ V1 ⟨rfl, h1, o1⟩
  rw [hA]
  simp only [Act.put, List.setIfInBounds_toArray, List.set_cons_succ, List.set_cons_zero]
  have H1 := hid h1
  have O1 : Hid (Out (fun j => j = g) w V1) := (Out.of_below bwV).trans o1 (fun _ _ x => x)
  clear sz e0 e5 e7 e9 hA A h1 o1 hT hne
  go_wp2_with fail
  go_ret
  exact ⟨rfl, H1.out, O1.out⟩
end Go.Proofs.YthfmpebgmojcaaaDoor
/- Loading a chain from its own rows. -/
namespace Go.Proofs.YthfmpebgmojcaaaDoor
open Go.RowKit
set_option linter.unusedVariables false
set_option maxRecDepth 20000
theorem hf_countL : ∀ (args : Array Value) (w : World), (callFunc 23 args).run Tryd.prog w = .ok (.enter 23 args) w := fun args w => by simp [go_sem]
noncomputable def codeLd (n : Nat) : Code := ((Tryd.f6.body.bind (regionAt n)).getD .skip)
set_option maxHeartbeats 2000000 in
theorem load_region10 {V0 W5 : World} {B g : Nat} {v : Value} {c : Ch} {A : Act} (sz : A.tmps.size = 52) (e4 : A.eval (.tmp 4) = .pointer (some ⟨g, 0, none⟩)) (hV0 : V0 = W5.drew) (hs0 : ChAt V0 B g v c) (ok : Lens c) (hc : c.cnt < 1152921504606846976) (hle : c.an ≤ c.cnt) :
    (codeLd 10).wp Tryd.prog (fun x a V => x = .normal ∧ a = ((((((((A.put (some 43) (.pointer (some ⟨g, 0, none⟩))).put (some 44) (.pointer (some ⟨g, 0, none⟩))).put (some 45) (.pointer (some ⟨g, 33, none⟩))).put (some 46) (.pointer (some ⟨g, 33, none⟩))).put (some 47) (.int .i64 (c.an : Int))).put (some 48) (.pointer (some ⟨g, 0, none⟩))).put (some 49) (.int .i64 (c.cnt : Int))).put (some 50) (.bool false)) ∧ ChAt V B g v c ∧ Below V0.heap.size V0 V) A W5 := by
  have hm : Tryd.prog.follows .mixedOrders = true := by kernel_rfl
  have hgt2 : ¬ ((c.cnt : Int) < (c.an : Int)) := by omega
  unfold codeLd
  conv => arg 2; whnf
  refine wp_region_G (fun _ => false) (fun V => ChAt V B g v c) hm ?_
  rw [show ({ W5 with drawn := W5.drawn + 1 } : World) = V0 from hV0.symm]
  refine tkG (i := 0) (d := 43) (v := .pointer (some ⟨g, 0, none⟩)) rfl rfl (yg_mv (by simp [Region.wanted]) (.tmp 4) rfl e4) hs0 ?_
  refine tkG (i := 1) (d := 44) (v := .pointer (some ⟨g, 0, none⟩)) rfl rfl (yg_nil (by simp [Region.wanted]) (.tmp 43) rfl (ev_eq _ _ (by simp [sz]))) hs0 ?_
  refine tkG (i := 2) (d := 45) (v := .pointer (some ⟨g, 33, none⟩)) rfl rfl (yg_fld (by simp [Region.wanted]) (.tmp 44) rfl (ev_eq _ _ (by simp [put_sz, sz])) (fun w => by simp [go_sem])) hs0 ?_
  refine tkG (i := 3) (d := 46) (v := .pointer (some ⟨g, 33, none⟩)) rfl rfl (yg_fld (by simp [Region.wanted]) (.tmp 45) rfl (ev_eq _ _ (by simp [put_sz, sz])) (fun w => by simp [go_sem])) hs0 ?_
  refine tkG (i := 4) (d := 47) (v := .int .i64 (c.an : Int)) rfl rfl (yg_ld (by simp [Region.wanted]) (.tmp 46) rfl (ev_eq _ _ (by simp [put_sz, sz])) (fun w hw => by have h1 := hw.c33 ok; simp [go_sem, h1])) hs0 ?_
  refine tkG (i := 5) (d := 48) (v := .pointer (some ⟨g, 0, none⟩)) rfl rfl (yg_mv (by simp [Region.wanted]) (.tmp 4) rfl (evn (evn (evn (evn (evn e4)))))) hs0 ?_
  refine wpAnyG_all (rs := [6]) (by kernel_rfl) (by simp) fun i1 hm1 => ?_
  obtain rfl : i1 = 6 := by simpa using hm1
  refine wpOp_own rfl rfl fun K1 hK1 => ?_
  refine wp_calls1 23 hf_countL (.tmp 48) _ rfl (.pointer (some ⟨g, 0, none⟩)) (ev_eq _ _ (by simp [put_sz, sz])) ?_
  refine (count_len hs0 ok hc).mono ?_
  rintro _ V1 ⟨rfl, hb1⟩
  have hs1 := hs0.below hb1
  refine ⟨_, rfl, hK1 _ _ ⟨.inr hs1, ?_⟩⟩
  clear hK1 K1 hm1
  show wpAnyG _ _ _ _ _ _ _ _ (((((((A.put (some 43) (.pointer (some ⟨g, 0, none⟩))).put (some 44) (.pointer (some ⟨g, 0, none⟩))).put (some 45) (.pointer (some ⟨g, 33, none⟩))).put (some 46) (.pointer (some ⟨g, 33, none⟩))).put (some 47) (.int .i64 (c.an : Int))).put (some 48) (.pointer (some ⟨g, 0, none⟩))).put (some 49) (.int .i64 (c.cnt : Int))) _
  refine tkG (i := 7) (d := 50) (v := .bool false) rfl rfl (yg_bin (by simp [Region.wanted]) (.tmp 47) (.tmp 49) rfl (evn (evn (ev_eq _ _ (by simp [put_sz, sz])))) (ev_eq _ _ (by simp [put_sz, sz])) (fun w => by simp [go_sem, hgt2])) hs1 ?_
  refine wpAnyG_done (by kernel_rfl) ⟨rfl, rfl, hs1, hb1⟩ _
def TxRows (w : World) (b : Nat) (R : List (ByteArray × List ByteArray)) : Prop := ∀ i (h : i < R.length), ∃ a cp, w.cell? ⟨b, i * 2, none⟩ = some (.string R[i].1) ∧ w.cell? ⟨b, i * 2 + 1, none⟩ = some (.slice a R[i].2.length cp) ∧ Texts w a R[i].2
theorem TxRows.below {w w' : World} {b B : Nat} {R : List (ByteArray × List ByteArray)} (h : TxRows w b R) (hb : Below w.heap.size w w') : TxRows w' b R := fun i hi => by
  obtain ⟨a, cp, h1, h2, h3⟩ := h i hi
  exact ⟨a, cp, (hb.cell (World.block_lt_of_cell? _ _ h1)).trans h1, (hb.cell (World.block_lt_of_cell? _ _ h2)).trans h2, h3.below hb⟩
theorem rvCells_get (l : List Rw) (i : Nat) (h : i < l.length) (k : Nat) (hk : k < 2) : (rvCells l)[i * 2 + k]? = (l[i]).vals[k]? := by
  induction l generalizing i with
  | nil => simp at h
  | cons e l ih =>
    have hl : e.vals.length = 2 := rfl
    show (e.vals ++ rvCells l)[i * 2 + k]? = _
    cases i with
    | zero => rw [List.getElem?_append_left (by omega)]; simp
    | succ i =>
      rw [List.getElem?_append_right (by omega), hl, show (i + 1) * 2 + k - 2 = i * 2 + k by omega, ih i (by simpa using h)]
      simp
theorem RowsAt.tx {w : World} {base : Nat} {v : Value} {l : List Rw} (h : RowsAt w base v l) (h0 : 0 < l.length) : ∃ b cap, v = .slice (some ⟨b, 0, none⟩) l.length cap ∧ l.length ≤ cap ∧ TxRows w b (l.map Rw.text) := by
  rcases h.1.2 with ⟨_, h9⟩ | ⟨b, cap, cur, hv, _, hg, hcap, _, _, ht⟩
  · omega
  · refine ⟨b, cap, hv, hcap, fun i hi => ?_⟩
    have hi' : i < l.length := by simpa using hi
    have key : ∀ k, k < 2 → w.cell? ⟨b, i * 2 + k, none⟩ = (l[i]).vals[k]? := fun k hk => by
      have h1 : (cur.toList.take (l.length * 2))[i * 2 + k]? = (l[i]).vals[k]? := by rw [ht, rvCells_get _ _ hi' _ hk]
      rw [List.getElem?_take_of_lt (by omega)] at h1
      rw [cell_of_row _ _ _ _ _ _ hg, ← Array.getElem?_toList]
      exact h1
    obtain ⟨a, c2, e1, h3, _⟩ := texts_of_own (h.2 l[i] (List.getElem_mem hi'))
    have e2 : (l.map Rw.text)[i] = (l[i]).text := by simp
    injection e1 with e3 e4 e5
    subst e3
    rw [e2]
    exact ⟨_, _, key 0 (by omega), key 1 (by omega), h3⟩
structure Ldable (c : Ch) : Prop where
  l : Lens c
  bn : c.bn ≤ 1099511627776
  an : c.an ≤ 1099511627776
  la : c.la ≤ 1099511627776
  few : c.ev.length ≤ 64
  anc : c.an ≤ c.cnt
  num : ∀ i (h : i < c.ev.length), c.ev[i].num = c.bn + i + 1
  siz : ∀ e ∈ c.ev, e.what.size ≤ 12 ∧ e.who.size ≤ 30
  tim : ∀ e ∈ c.ev, e.tim ≤ c.la
  up : ∀ i (h : i + 1 < c.ev.length), (c.ev[i]'(by omega)).tim ≤ c.ev[i + 1].tim
def cutE (c : Ch) (k : Nat) : Ch := { c with ev := c.ev.take k }
theorem Ldable.last {c : Ch} (h : Ldable c) (k : Nat) (hk : k < c.ev.length) : lastT (cutE c k) ≤ c.ev[k].tim := by
  unfold lastT cutE
  cases k with
  | zero => simp
  | succ k =>
    rw [List.getLast?_eq_getElem?]
    simp only [List.length_take]
    rw [show min (k + 1) c.ev.length - 1 = k by omega, List.getElem?_take_of_lt (by omega), List.getElem?_eq_getElem (by omega)]
    exact h.up k hk
theorem cutE_step (c : Ch) (k : Nat) (hk : k < c.ev.length) : { cutE c k with ev := (cutE c k).ev ++ [c.ev[k]] } = cutE c (k + 1) := by
  unfold cutE
  simp only
  rw [List.take_succ_eq_append_getElem hk]
theorem cutE_all (c : Ch) : cutE c c.ev.length = c := by simp [cutE]
theorem cutE_lens {c : Ch} (h : Lens c) (k : Nat) : Lens (cutE c k) := ⟨h.lb, h.lan, h.lh⟩
theorem cutE_cnt (c : Ch) (k : Nat) (hk : k ≤ c.ev.length) : (cutE c k).cnt = c.bn + k := by simp [cutE, Ch.cnt, Nat.min_eq_left hk]
theorem rowsOf_len (c : Ch) : (rowsOf c).length = 4 + c.ev.length := by simp [rowsOf, headRows]; omega
theorem rowsOf_ev (c : Ch) (k : Nat) (hk : k < c.ev.length) (h : 4 + k < (rowsOf c).length) : (rowsOf c)[4 + k] = evText c.ev[k] := by
  have : (rowsOf c)[4 + k]? = some (evText c.ev[k]) := by
    unfold rowsOf
    rw [List.getElem?_append_right (by simp [headRows])]
    simp [headRows, hk]
  rw [List.getElem?_eq_getElem h] at this
  exact Option.some.inj this
end Go.Proofs.YthfmpebgmojcaaaDoor
/- A chain out of any rows, as mathematics: what Load takes. -/
namespace Go.Proofs.YthfmpebgmojcaaaDoor
open Go.RowKit
set_option linter.unusedVariables false
set_option maxRecDepth 20000
abbrev TR := ByteArray × List ByteArray
theorem str_eqQ (s t : ByteArray) : s = t ↔ s.toList = t.toList := by
  constructor
  · intro h; rw [h]
  · intro h
    rw [Lib.toList_data, Lib.toList_data] at h
    rw [← Lib.mk_data s, ← Lib.mk_data t, h]
theorem eqQ (a b : ByteArray) : (a.toList == b.toList) = decide (a = b) := by
  by_cases e : a = b
  · subst e; simp
  · rw [decide_eq_false e, beq_eq_false_iff_ne]; exact fun e' => e ((str_eqQ _ _).2 e')
theorem numR_someQ {l : List UInt8} {lo hi n : Nat} (h : numR l lo hi = some n) : l = numT n ∧ lo ≤ n ∧ n ≤ hi := by
  unfold numR at h
  split at h
  · rename_i h1
    cases h
    exact ⟨(toNum_inv (Prod.ext rfl h1.1)).1, h1.2⟩
  · cases h
theorem txt_of {p : ByteArray} {lo hi n : Nat} (h : numR p.data.toList lo hi = some n) : p = txt n := by
  have := (numR_someQ h).1
  apply ByteArray.ext
  apply Array.ext'
  simpa [txt] using this
def numsOf (r : TR) : Option (Nat × Nat × Nat) := match r.2 with
  | [p, q, s] => if r.1 = ⟨#[35]⟩ then (numR p.data.toList 0 1099511627776).bind fun a => (numR q.data.toList 0 1099511627776).bind fun b => (numR s.data.toList 0 1099511627776).map fun c => (a, b, c) else none
  | _ => none
def hashIn (k : ByteArray) (r : TR) : Option (List UInt8) := match r.2 with
  | [h] => if r.1 = k ∧ h.size = 32 then some h.data.toList else none
  | _ => none
def evIn (c : Ch) (r : TR) : Option Ev := match r.2 with
  | [t, p, q] => if r.1 = evKey (c.cnt + 1) ∧ p.size ≤ 12 ∧ q.size ≤ 30 then (numR t.data.toList (lastT c) c.la).map fun n => ⟨c.cnt + 1, n, p, q⟩ else none
  | _ => none
def evsIn : Ch → List TR → Option Ch
  | c, [] => some c
  | c, r :: l => (evIn c r).bind fun e => evsIn { c with ev := c.ev ++ [e] } l
def loadC (R : List TR) : Option Ch := match R with
  | r0 :: r1 :: r2 :: r3 :: l => if l.length ≤ 64 then (numsOf r0).bind fun n => (hashIn ⟨#[97]⟩ r1).bind fun ha => (hashIn ⟨#[98]⟩ r2).bind fun hb => (hashIn ⟨#[104]⟩ r3).bind fun hh => (evsIn ⟨n.1, hb, n.2.1, ha, [], hh, n.2.2⟩ l).bind fun c => if c.an ≤ c.cnt then some c else none else none
  | _ => none
theorem numsOf_some {r : TR} {p q s : Nat} (h : numsOf r = some (p, q, s)) : r = (⟨#[35]⟩, [p, q, s].map txt) ∧ p ≤ 1099511627776 ∧ q ≤ 1099511627776 ∧ s ≤ 1099511627776 := by
  obtain ⟨k, l⟩ := r
  unfold numsOf at h
  split at h
  · rename_i a b d he
    simp only at he h
    subst he
    split at h
    · rename_i hk
      cases h1 : numR a.data.toList 0 1099511627776 with
      | none => rw [h1] at h; cases h
      | some a' =>
        cases h2 : numR b.data.toList 0 1099511627776 with
        | none => rw [h1, h2] at h; cases h
        | some b' =>
          cases h3 : numR d.data.toList 0 1099511627776 with
          | none => rw [h1, h2, h3] at h; cases h
          | some d' =>
            rw [h1, h2, h3] at h
            simp only [Option.bind_some, Option.map_some, Option.some.injEq, Prod.mk.injEq] at h
            obtain ⟨rfl, rfl, rfl⟩ := h
            rw [txt_of h1, txt_of h2, txt_of h3, hk]
            exact ⟨rfl, (numR_someQ h1).2.2, (numR_someQ h2).2.2, (numR_someQ h3).2.2⟩
    · cases h
  · cases h
theorem hashIn_some {k : ByteArray} {r : TR} {h : List UInt8} (e : hashIn k r = some h) : r = (k, [mkB h]) ∧ h.length = 32 := by
  obtain ⟨k', l⟩ := r
  unfold hashIn at e
  split at e
  · rename_i x he
    simp only at he e
    subst he
    split at e
    · rename_i hk
      cases e
      rw [hk.1]
      exact ⟨rfl, by have := hk.2; simpa using this⟩
    · cases e
  · cases e
theorem evIn_some {c : Ch} {r : TR} {e : Ev} (h : evIn c r = some e) : r = evText e ∧ e.num = c.cnt + 1 ∧ e.what.size ≤ 12 ∧ e.who.size ≤ 30 ∧ lastT c ≤ e.tim ∧ e.tim ≤ c.la := by
  obtain ⟨k, l⟩ := r
  unfold evIn at h
  split at h
  · rename_i a b d he
    simp only at he h
    subst he
    split at h
    · rename_i hk
      cases h1 : numR a.data.toList (lastT c) c.la with
      | none => rw [h1] at h; cases h
      | some n =>
        rw [h1] at h
        cases h
        rw [txt_of h1, hk.1]
        exact ⟨rfl, rfl, hk.2.1, hk.2.2, (numR_someQ h1).2⟩
    · cases h
  · cases h
theorem evsIn_some : ∀ {l : List TR} {c d : Ch}, evsIn c l = some d → ∃ es : List Ev, d = { c with ev := c.ev ++ es } ∧ l = es.map evText ∧ (∀ i (h : i < es.length), es[i].num = c.cnt + 1 + i) ∧ (∀ e ∈ es, e.what.size ≤ 12 ∧ e.who.size ≤ 30 ∧ lastT c ≤ e.tim ∧ e.tim ≤ c.la) ∧ (∀ i (h : i + 1 < es.length), (es[i]'(by omega)).tim ≤ es[i + 1].tim)
  | [], c, d, h => by
    cases h
    exact ⟨[], by simp, rfl, fun i h => by simp at h, fun e h => by simp at h, fun i h => by simp at h⟩
  | r :: l, c, d, h => by
    unfold evsIn at h
    cases h1 : evIn c r with
    | none => rw [h1] at h; cases h
    | some e =>
      rw [h1] at h
      obtain ⟨es, rfl, rfl, h4, h5, h6⟩ := evsIn_some (c := { c with ev := c.ev ++ [e] }) h
      obtain ⟨rfl, k2, k3, k4, k5, k6⟩ := evIn_some h1
      have hl : lastT { c with ev := c.ev ++ [e] } = e.tim := by simp [lastT]
      have hc : ({ c with ev := c.ev ++ [e] } : Ch).cnt = c.cnt + 1 := by simp [Ch.cnt]; omega
      rw [hl] at h5
      rw [hc] at h4
      refine ⟨e :: es, by simp, rfl, fun i hi => ?_, fun x hx => ?_, fun i hi => ?_⟩
      · cases i with
        | zero => simpa using k2
        | succ i =>
          rw [List.getElem_cons_succ, h4 i (by simpa using hi)]
          omega
      · rcases List.mem_cons.1 hx with rfl | hx
        · exact ⟨k3, k4, k5, k6⟩
        · have := h5 x hx
          exact ⟨this.1, this.2.1, by have := this.2.2.1; omega, this.2.2.2⟩
      · cases i with
        | zero =>
          rw [List.getElem_cons_zero, List.getElem_cons_succ]
          exact (h5 _ (List.getElem_mem _)).2.2.1
        | succ i =>
          rw [List.getElem_cons_succ, List.getElem_cons_succ]
          exact h6 i (by simpa using hi)
theorem loadC_some {R : List TR} {c : Ch} (h : loadC R = some c) : R = rowsOf c ∧ Ldable c := by
  unfold loadC at h
  split at h
  · rename_i r0 r1 r2 r3 l
    split at h
    · rename_i hl
      cases h0 : numsOf r0 with
      | none => rw [h0] at h; cases h
      | some n =>
        obtain ⟨p, q, s⟩ := n
        cases h1 : hashIn ⟨#[97]⟩ r1 with
        | none => rw [h0, h1] at h; cases h
        | some ha =>
          cases h2 : hashIn ⟨#[98]⟩ r2 with
          | none => rw [h0, h1, h2] at h; cases h
          | some hb =>
            cases h3 : hashIn ⟨#[104]⟩ r3 with
            | none => rw [h0, h1, h2, h3] at h; cases h
            | some hh =>
              rw [h0, h1, h2, h3] at h
              simp only [Option.bind_some] at h
              cases h4 : evsIn ⟨p, hb, q, ha, [], hh, s⟩ l with
              | none => rw [h4] at h; cases h
              | some d =>
                rw [h4] at h
                simp only [Option.bind_some] at h
                split at h
                · rename_i h5
                  cases h
                  obtain ⟨es, rfl, rfl, k4, k5, k6⟩ := evsIn_some h4
                  obtain ⟨rfl, n1, n2, n3⟩ := numsOf_some h0
                  obtain ⟨rfl, l1⟩ := hashIn_some h1
                  obtain ⟨rfl, l2⟩ := hashIn_some h2
                  obtain ⟨rfl, l3⟩ := hashIn_some h3
                  simp only [List.nil_append] at *
                  refine ⟨rfl, ⟨⟨l2, l1, l3⟩, n1, n2, n3, by simpa using hl, h5, fun i hi => ?_, fun e he => ?_, fun e he => ?_, k6⟩⟩
                  · have : es[i].num = p + 0 + 1 + i := k4 i hi
                    show es[i].num = p + i + 1
                    omega
                  · exact ⟨(k5 e he).1, (k5 e he).2.1⟩
                  · exact (k5 e he).2.2.2
                · cases h
    · cases h
  · cases h
end Go.Proofs.YthfmpebgmojcaaaDoor
/- Loading a chain from any rows: takeNumbers and toHash. -/
namespace Go.Proofs.YthfmpebgmojcaaaDoor
open Go.RowKit
set_option linter.unusedVariables false
set_option maxRecDepth 20000
theorem numsOf_get (x1 x2 x3 : Option Nat) : (∀ n, (x1.bind fun a => x2.bind fun b => x3.map fun c => (a, b, c)) = some n → n = (x1.getD 0, x2.getD 0, x3.getD 0)) ∧ (x1.bind fun a => x2.bind fun b => x3.map fun c => (a, b, c)).isSome = (x1.isSome && x2.isSome && x3.isSome) := by
  rcases x1 with _ | a <;> rcases x2 with _ | b <;> rcases x3 with _ | c <;> exact ⟨fun n h => (by first | (cases h; rfl) | cases h), rfl⟩
set_option maxHeartbeats 4000000 in
theorem takeNumbers_any {w : World} {B g : Nat} {v : Value} {c : Ch} (h : ChAt w B g v c) (ok : Lens c) (r : TR) (ad : Option Addr) (cp : Nat) (ht : Texts w ad r.2) (hs : ∀ x ∈ r.2, x.size ≤ maxLen) :
    Calls Tryd.prog 31 #[.pointer (some ⟨g, 0, none⟩), .agg #[.string r.1, .slice ad r.2.length cp]] w fun e w' => e = .returned (.bool (numsOf r).isSome) ∧ (∀ n, numsOf r = some n → ChAt w' B g v { c with bn := n.1, an := n.2.1, la := n.2.2 }) ∧ Out (fun j => j = g) w w' := by
  obtain ⟨key, l⟩ := r
  simp only at ht hs ⊢
  obtain ⟨m, hm⟩ : ∃ m, m = l.length := ⟨_, rfl⟩
  rw [← hm]
  have hb0 : Below w.heap.size w (w.alloc (.cells #[.string key, .slice ad m cp] 75)) := (Below.refl _ w).alloc (Nat.le_refl _) _
  have HB := hid hb0
  by_cases hk : key = ⟨#[35]⟩
  · subst hk
    by_cases h3 : l.length = 3
    · obtain ⟨p, q, s, rfl⟩ : ∃ p q s, l = [p, q, s] := by
        match l, h3 with
        | [p, q, s], _ => exact ⟨p, q, s, rfl⟩
      obtain rfl : m = 3 := hm
      have h0 := h.below hb0
      have ht0 := ht.below hb0
      obtain ⟨b, o, rfl, j0⟩ := ht0 0 (by simp)
      obtain ⟨b1, o1, e1, j1⟩ := ht0 1 (by simp)
      cases e1
      obtain ⟨b2, o2, e2, j2⟩ := ht0 2 (by simp)
      cases e2
      have k0 : (w.alloc (.cells #[.string ⟨#[35]⟩, .slice (some ⟨b, o, none⟩) 3 cp] 75)).cell? ⟨b, o, none⟩ = some (.string p) := j0
      have k1 : (w.alloc (.cells #[.string ⟨#[35]⟩, .slice (some ⟨b, o, none⟩) 3 cp] 75)).cell? ⟨b, o + 1, none⟩ = some (.string q) := j1
      have k2 : (w.alloc (.cells #[.string ⟨#[35]⟩, .slice (some ⟨b, o, none⟩) 3 cp] 75)).cell? ⟨b, o + 2, none⟩ = some (.string s) := j2
      have C1 := fun W => numberJ_any p (hs p (by simp)) 0 1099511627776 W
      have C2 := fun W => numberJ_any q (hs q (by simp)) 0 1099511627776 W
      have C3 := fun W => numberJ_any s (hs s (by simp)) 0 1099511627776 W
      have hn : numsOf (⟨#[35]⟩, [p, q, s]) = (numR p.data.toList 0 1099511627776).bind fun a => (numR q.data.toList 0 1099511627776).bind fun b => (numR s.data.toList 0 1099511627776).map fun c => (a, b, c) := by
        unfold numsOf
        dsimp only
        rw [if_pos rfl]
      rw [hn]
      clear j0 j1 j2 ht ht0 hs hn h3
      generalize numR p.data.toList 0 1099511627776 = x1 at *
      generalize numR q.data.toList 0 1099511627776 = x2 at *
      generalize numR s.data.toList 0 1099511627776 = x3 at *
      have hgood := numsOf_get x1 x2 x3
      generalize (x1.bind fun a => x2.bind fun b => x3.map fun c => (a, b, c)) = X at *
      have hX := hgood.2
      have hX1 := hgood.1
      rw [hX]
      clear hX hgood
      generalize x1.getD 0 = n1 at *
      generalize x2.getD 0 = n2 at *
      generalize x3.getD 0 = n3 at *
      generalize x1.isSome = f1 at *
      generalize x2.isSome = f2 at *
      generalize x3.isSome = f3 at *
      have q0 := h0.c0
      have f0 := h0.fz 0
      have h4 := h0.setBn n1
      have q33 := h4.c33 (c := { c with bn := n1 }) ⟨ok.lb, ok.lan, ok.lh⟩
      have f33 := h4.fz 33
      have h5 := h4.setAn (c := { c with bn := n1 }) ⟨ok.lb, ok.lan, ok.lh⟩ n2
      have q99 := h5.c99 (c := { c with bn := n1, an := n2 }) ⟨ok.lb, ok.lan, ok.lh⟩
      have f99 := h5.fz 99
      have h6 := h5.setLa (c := { c with bn := n1, an := n2 }) ⟨ok.lb, ok.lan, ok.lh⟩ n3
      have H6 := hid h6
      have HX1 := hid hX1
      have C1' := hid C1
      have C2' := hid C2
      have C3' := hid C3
      clear h h0 h4 h5 h6 hb0 hX1 C1 C2 C3
      go_enter Tryd.func31, Tryd.ntmps31
      go_wp2_with fail
      refine (C1'.out _).mono ?_
      rintro x w1 ⟨rfl, e9⟩
      subst w1
      go_wp2_with fail
      refine (C2'.out _).mono ?_
      rintro x w1 ⟨rfl, e9⟩
      subst w1
      go_wp2_with fail
      refine (C3'.out _).mono ?_
      rintro x w1 ⟨rfl, e9⟩
      subst w1
      cases f1 <;> cases f2 <;> cases f3
      all_goals
        go_wp2_with fail
        go_ret
        exact ⟨rfl, fun n e => (by rw [HX1.out n e]; exact H6.out), Out.setCell (P := fun j => j = g) (Out.setCell (P := fun j => j = g) (Out.setCell (P := fun j => j = g) (Out.of_below HB.out) ⟨g, 0, none⟩ _ rfl) ⟨g, 33, none⟩ _ rfl) ⟨g, 99, none⟩ _ rfl⟩
    · have hn : numsOf (⟨#[35]⟩, l) = none := by
        unfold numsOf
        split
        · rename_i he
          simp only at he
          rw [he] at h3
          exact absurd rfl h3
        · rfl
      rw [hn]
      rw [← hm] at h3
      have g1 : ((m : Int) == 3) = false := by rw [beq_eq_false_iff_ne]; omega
      have g2 : ((m : Int) != 3) = true := by rw [bne, g1]; rfl
      have g3 : ¬ (m : Int) = 3 := by omega
      clear hm h3 h ok ht hs hn hb0
      go_enter Tryd.func31, Tryd.ntmps31
      go_wp2_with fail
      go_ret
      exact ⟨rfl, fun n e => (by cases e), Out.of_below HB.out⟩
  · have hn : numsOf (key, l) = none := by
      unfold numsOf
      split
      · rw [if_neg hk]
      · rfl
    rw [hn]
    have g1 : (key.toList == (⟨#[35]⟩ : ByteArray).toList) = false := by rw [eqQ]; exact decide_eq_false hk
    rw [show (⟨#[35]⟩ : ByteArray).toList = [35] by decide +kernel] at g1
    have g3 : ¬ key.toList = [35] := by rw [beq_eq_false_iff_ne] at g1; exact g1
    clear h ok ht hs hn hb0 hm hk
    go_enter Tryd.func31, Tryd.ntmps31
    go_wp2_with fail
    go_ret
    exact ⟨rfl, fun n e => (by cases e), Out.of_below HB.out⟩
end Go.Proofs.YthfmpebgmojcaaaDoor
