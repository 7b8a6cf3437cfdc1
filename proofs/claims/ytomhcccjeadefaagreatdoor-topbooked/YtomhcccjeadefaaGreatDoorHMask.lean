/- YtomhcccjeadefaaGreatDoorHTop + YtomhcccjeadefaaGreatDoorHMask -/
import Derived.Test.YtomhcccjeadefaaGreatDoorHSum
/- The hash of bytes: hash.Sum. -/
namespace Go.Proofs.YtomhcccjeadefaaGreatDoor
open Go.RowKit
set_option linter.unusedVariables false
set_option maxRecDepth 20000
def RV (D : List UInt8) (v : Value) : Prop := ∃ s bk f, v = .agg (rvals s bk D.length) ∧ Part D s bk f
theorem start_rv (w : World) : Calls Tryz.prog 16 #[] w fun e w' => ∃ v, e = .returned v ∧ Hid (RV [] v) ∧ Below w.heap.size w w' :=
  (start_any w).mono fun e w' h => by
    obtain ⟨rfl, hb⟩ := h
    exact ⟨_, rfl, ⟨_, _, _, rfl, part_nil⟩, hb⟩
theorem with_rv {w : World} {D : List UInt8} {v : Value} (hv : RV D v) (l : List UInt8) (a : Option Addr) (n cap : Nat) (hn : n = l.length) (hB : Bytes w a l) (hl : D.length + l.length < 4611686018427387904) (hcap : l.length ≤ cap) (hK : KAt w) :
    Calls Tryz.prog 17 #[v, .slice a n cap] w fun e w' => ∃ v', e = .returned v' ∧ Hid (RV (D ++ l) v') ∧ Below w.heap.size w w' := by
  subst hn
  obtain ⟨s, bk, f, rfl, hP⟩ := hv
  refine (with_any hP l a cap hB hl hcap hK).mono fun e w' h => ?_
  obtain ⟨s', bk', f', rfl, hP', hb⟩ := h
  exact ⟨_, rfl, ⟨_, _, _, rfl, hP'⟩, hb⟩
structure HV (O : Array Value) (l : List UInt8) : Prop where
  eq : O = bvs l
  len : l.length = 32
theorem HV.size {O : Array Value} {l : List UInt8} (h : HV O l) : O.size = 32 := by rw [h.eq, bvs_size, h.len]
theorem HV.info {O : Array Value} {l : List UInt8} (h : HV O l) : (Tryz.prog.info? 27).map (·.size) = some O.size := by rw [h.size]; exact size_hash
theorem HV.one {O : Array Value} {l : List UInt8} (h : HV O l) : O.all (·.oneCell') = true := by rw [h.eq]; exact bvs_one _
theorem HV.bytes {O : Array Value} {l : List UInt8} (h : HV O l) {w : World} {g : Nat} (hg : w.heap[g]? = some (.cells O 27 (0, 0))) : Bytes w (some ⟨g, 0, none⟩) l := fun i hi =>
  ⟨g, 0, rfl, by rw [Nat.zero_add, cell_of_row _ _ _ _ _ _ hg, h.eq, bvs_get l i hi]⟩
theorem sum_rv {w : World} {D : List UInt8} {v : Value} (hv : RV D v) (hl : D.length < 1152921504606846976) (hK : KAt w) :
    Calls Tryz.prog 18 #[v] w fun e w' => ∃ O, e = .returned (.agg O) ∧ Hid (HV O (sha D)) ∧ Below w.heap.size w w' := by
  obtain ⟨s, bk, f, rfl, hP⟩ := hv
  refine (sum_any hP hl hK).mono fun e w' h => ?_
  obtain ⟨rfl, hb⟩ := h
  exact ⟨_, rfl, ⟨rfl, sha_length _⟩, hb⟩
theorem hv_zero : HV (bvs (List.replicate 32 0)) (List.replicate 32 0) := ⟨rfl, by simp⟩
set_option maxHeartbeats 1000000 in
theorem hsum_any {w : World} (l : List UInt8) (a : Option Addr) (n cap : Nat) (hn : n = l.length) (hB : Bytes w a l) (hl : l.length < 1152921504606846976) (hcap : l.length ≤ cap) (hK : KAt w) :
    Calls Tryz.prog 6 #[.slice a n cap] w fun e w' => ∃ O, e = .returned (.agg O) ∧ Hid (HV O (sha l)) ∧ Below w.heap.size w w' := by
  obtain ⟨Z, hZ⟩ : ∃ Z, Z = bvs (List.replicate 32 0) := ⟨_, rfl⟩
  have zh := (zero_of_info zero_hash).1
  rw [← hZ] at zh
  have hz : Hid (HV Z (List.replicate 32 0)) := by
    show HV _ _
    rw [hZ]; exact hv_zero
  have zh := hid zh
  have HB := hid hB
  have HK := hid hK
  have Hn := hid hn
  clear hZ hB hK hn
  go_enter Tryz.func6, Tryz.ntmps6
  go_wp2_with (with_reducible show Go.wpList _ _ _ _ _ _; refine wpList_alloc_row rfl 27 rfl Z zh.out ?_)
  refine (start_rv _).mono ?_
  rintro _ w1 ⟨v1, rfl, hv1, hb1⟩
  have b1 : Hid (Below w.heap.size w w1) := ((Below.refl _ w).alloc (Nat.le_refl _) _).trans (hb1.mono (by simp))
  have x1 : Hid (w1.heap[w.heap.size]? = some (.cells Z 27 (0, 0))) := (hb1.block _ (by simp)).trans (heap_alloc_new w _)
  clear hb1
  go_wp2_with fail
  refine (with_rv hv1.out l a n cap Hn.out (HB.out.below b1.out) (by simp; omega) hcap (HK.out.below b1.out)).mono ?_
  rintro _ w2 ⟨v2, rfl, hv2, hb2⟩
  have b2 : Hid (Below w.heap.size w w2) := Below.on' b1.out hb2
  have x2 : Hid (w2.heap[w.heap.size]? = some (.cells Z 27 (0, 0))) := (hb2.block _ (heap_lt x1.out)).trans x1.out
  clear hb2 x1 b1 hv1
  go_wp2_with fail
  refine (sum_rv hv2.out (by simp; omega) (HK.out.below b2.out)).mono ?_
  rintro _ w3 ⟨O, rfl, hO, hb3⟩
  have b3 : Hid (Below w.heap.size w w3) := Below.on' b2.out hb3
  have x3 : Hid (w3.heap[w.heap.size]? = some (.cells Z 27 (0, 0))) := (hb3.block _ (heap_lt x2.out)).trans x2.out
  clear hb3 x2 b2 hv2 HB HK
  go_wp2_with (with_reducible show Go.wpList _ _ _ _ _ _; refine wpList_store_row rfl 27 _ _ rfl w.heap.size O rfl rfl 27 Z x3.out hO.out.info (hz.out.size.trans hO.out.size.symm) hO.out.one ?_)
  refine bodyPost_ret (results_cell_row rfl _ _ w.heap.size 27 O (0, 0) _ rfl (setRow_heap _ _ _ _ _ _ x3.out) Tryz.underlying27 rfl hO.out.info) rfl ⟨O, rfl, hO, ?_⟩
  exact b3.out.setRow (by omega) _
end Go.Proofs.YtomhcccjeadefaaGreatDoor
/- A key as a block, masked: hash.masked. -/
namespace Go.Proofs.YtomhcccjeadefaaGreatDoor
open Go.RowKit
set_option linter.unusedVariables false
set_option maxRecDepth 20000
theorem b_of (a : UInt8) : BitVec.ofInt 8 (a.toNat : Int) = a.toBitVec := by
  apply BitVec.eq_of_toNat_eq
  simp
theorem b_back (a : UInt8) : IntKind.u8.wrap (a.toNat : Int) = (a.toNat : Int) := by
  rw [IntKind.wrap_u8]
  have := a.toNat_lt
  omega
theorem b_xor (a b : UInt8) : bits .xor .u8 (a.toNat : Int) (b.toNat : Int) = ((a ^^^ b).toNat : Int) := by
  have h : bits .xor .u8 (a.toNat : Int) (b.toNat : Int) = IntKind.u8.wrap ((BitVec.ofInt 8 (a.toNat : Int) ^^^ BitVec.ofInt 8 (b.toNat : Int)).toNat : Int) := rfl
  rw [h, b_of, b_of]
  exact b_back (a ^^^ b)
theorem b_or (a b : UInt8) : bits .or .u8 (a.toNat : Int) (b.toNat : Int) = ((a ||| b).toNat : Int) := by
  have h : bits .or .u8 (a.toNat : Int) (b.toNat : Int) = IntKind.u8.wrap ((BitVec.ofInt 8 (a.toNat : Int) ||| BitVec.ofInt 8 (b.toNat : Int)).toNat : Int) := rfl
  rw [h, b_of, b_of]
  exact b_back (a ||| b)
def maskAt (m : UInt8) (B : List UInt8) (n : Nat) : List UInt8 := maskB m (B.take n) ++ B.drop n
theorem maskAt_zero (m : UInt8) (B : List UInt8) : maskAt m B 0 = B := by simp [maskAt, maskB]
theorem maskAt_length (m : UInt8) (B : List UInt8) (n : Nat) : (maskAt m B n).length = B.length := by simp [maskAt, maskB]; omega
theorem maskAt_all (m : UInt8) (B : List UInt8) (n : Nat) (h : B.length = n) : maskAt m B n = maskB m B := by
  unfold maskAt
  rw [List.take_of_length_le (by omega), List.drop_eq_nil_of_le (by omega), List.append_nil]
theorem maskAt_get (m : UInt8) (B : List UInt8) (n : Nat) (h : n < B.length) : (maskAt m B n)[n]'(by rw [maskAt_length]; exact h) = B[n] := by
  simp only [maskAt]
  rw [List.getElem_append_right (by simp [maskB]; omega)]
  simp [maskB, Nat.min_eq_left (Nat.le_of_lt h)]
theorem maskAt_set (m : UInt8) (B : List UInt8) (n : Nat) (h : n < B.length) : (maskAt m B n).set n (B[n] ^^^ m) = maskAt m B (n + 1) := by
  unfold maskAt
  rw [List.set_append_right _ _ (by simp [maskB]; omega), List.take_succ_eq_append_getElem h]
  rw [show n - (maskB m (B.take n)).length = 0 by simp [maskB]; omega, List.drop_eq_getElem_cons h, List.set_cons_zero]
  unfold maskB
  rw [List.map_append, List.append_assoc]
  rfl
def fillB (k : List UInt8) : List UInt8 := k ++ List.replicate (64 - k.length) 0
theorem fillB_length (k : List UInt8) (h : k.length ≤ 64) : (fillB k).length = 64 := by simp [fillB]; omega
theorem blockOf_short (k : List UInt8) (h : ¬ 64 < k.length) : blockOf k = fillB k := by simp [blockOf, fillB, h]
theorem blockOf_long (k : List UInt8) (h : 64 < k.length) : blockOf k = fillB (sha k) := by simp [blockOf, fillB, h]
theorem cells_row (l : List UInt8) (t : TypeId) {w : World} {g : Nat} (hg : w.heap[g]? = some (.cells (cellsOf l).toArray t (0, 0))) (i : Nat) (hi : i < l.length) : w.cell? ⟨g, i, none⟩ = some (.int .u8 (l[i].toNat : Int)) := by
  rw [cell_of_row _ _ _ _ _ _ hg, List.getElem?_toArray, cellsOf_get l i hi]
theorem row_bytes (l : List UInt8) (t : TypeId) {w : World} {g : Nat} (hg : w.heap[g]? = some (.cells (cellsOf l).toArray t (0, 0))) : Bytes w (some ⟨g, 0, none⟩) l := fun i hi =>
  ⟨g, 0, rfl, by rw [Nat.zero_add, cells_row l t hg i hi]⟩
theorem cells_set (l : List UInt8) (i : Nat) (b : UInt8) : (cellsOf l).toArray.setIfInBounds i (.int .u8 (b.toNat : Int)) = (cellsOf (l.set i b)).toArray := by
  simp [cellsOf, List.map_set]
theorem made_row (n : Nat) : madeCells (Value.int .u8 0).cells n = (cellsOf (List.replicate n 0)).toArray := by
  rw [← made_zeros n]
theorem copy_fill {W : World} {g : Nat} {k : List UInt8} {a : Option Addr} {cap : Nat} (hk : k.length ≤ 64) (hB : Bytes W a k) (hcap : k.length ≤ cap) (hg : W.heap[g]? = some (.cells (cellsOf (List.replicate 64 0)).toArray 5 (0, 0))) :
    ∃ v W2, Hid ((Builtin.copy_ #[29, 29] 3 #[.slice (some ⟨g, 0, none⟩) 64 64, .slice a k.length cap]).run Tryz.prog W = .ok v W2) ∧ Hid (W2.heap[g]? = some (.cells (cellsOf (fillB k)).toArray 5 (0, 0))) ∧ Hid (∀ B w0, B ≤ g → Below B w0 W → Below B w0 W2) := by
  by_cases h0 : k.length = 0
  · have hr := run_copy_none (P := Tryz.prog) W 29 29 3 5 (some ⟨g, 0, none⟩) a 64 64 k.length cap Tryz.underlying29 size_byte (by rw [h0]; exact Nat.min_eq_left (by omega))
    refine ⟨_, _, hr, ?_, fun B w0 _ h => h⟩
    obtain rfl : k = [] := List.length_eq_zero_iff.1 h0
    exact hg
  · obtain ⟨b0, o0, ha0, _⟩ := hB 0 (by omega)
    obtain rfl : a = some ⟨b0, o0, none⟩ := ha0
    have hr := run_copy_row (P := Tryz.prog) W 29 29 3 5 g 0 64 64 ⟨b0, o0, none⟩ k.length cap _ 5 (cellsOf k) Tryz.underlying29 size_byte hg
      (by rw [cellsOf_length]; exact (Nat.min_eq_left hk).symm)
      (fun j v hj => by
        have hj' : j < k.length := by have := (List.getElem?_eq_some_iff.1 hj).1; simpa [cellsOf_length] using this
        obtain ⟨b', o', e', hcl⟩ := hB j hj'
        cases e'
        rw [cellsOf_get k j hj'] at hj
        rw [Addr.add_mid, hcl, ← hj])
      (by rw [cellsOf_length]; simp [cellsOf]; omega) (cellsOf_one k)
    refine ⟨_, _, hr, ?_, fun B w0 hB h => h.setRow hB _⟩
    show (W.setRow _ _).heap[g]? = _
    rw [setRow_heap _ _ _ _ _ _ hg]
    have e : List.take 0 (cellsOf (List.replicate 64 0)).toArray.toList ++ (cellsOf k ++ List.drop (0 + (cellsOf k).length) (cellsOf (List.replicate 64 0)).toArray.toList) = cellsOf (fillB k) := by
      rw [cellsOf_length, Nat.zero_add, List.take_zero, List.nil_append, fillB, cellsOf_append]
      simp only [cellsOf, ← List.map_drop, List.drop_replicate]
    rw [List.append_assoc, e]
def MaskPost (w : World) (l : List UInt8) (e : Ending) (w' : World) : Prop := ∃ g, e = .returned (.slice (some ⟨g, 0, none⟩) 64 64) ∧ Bytes w' (some ⟨g, 0, none⟩) l ∧ Below w.heap.size w w'
set_option maxHeartbeats 2000000 in
theorem masked_any {w : World} (key : List UInt8) (a : Option Addr) (n cap : Nat) (m : UInt8) (hn : n = key.length) (hB : Bytes w a key) (hl : key.length < 1152921504606846976) (hcap : key.length ≤ cap) (hK : KAt w) :
    Calls Tryz.prog 77 #[.slice a n cap, .int .u8 (m.toNat : Int)] w (MaskPost w (maskB m (blockOf key))) := by
  obtain ⟨i0, hi, hz0, hz1, hz2⟩ := info_parts Tryz.info5
  obtain ⟨Z, hZ⟩ : ∃ Z, Z = bvs (List.replicate 32 0) := ⟨_, rfl⟩
  have zh := (zero_of_info zero_hash).1
  rw [← hZ] at zh
  have hz : Hid (HV Z (List.replicate 32 0)) := by
    show HV _ _
    rw [hZ]; exact hv_zero
  have zh := hid zh
  have HB := hid hB
  have HK := hid hK
  subst hn
  clear hZ hB hK
  by_cases hlong : 64 < key.length
  · have d1 : (64 : Int) < (key.length : Int) := by omega
    go_enter Tryz.func77, Tryz.ntmps77
    go_wp2_with fail
    refine (hsum_any key a _ cap rfl HB.out hl hcap HK.out).mono ?_
    rintro _ w1 ⟨O, rfl, hO, hb1⟩
    have hb1 := hid hb1
    go_wp2_with (with_reducible show Go.wpList _ _ _ _ _ _; first
      | refine wpList_alloc_row rfl 27 rfl Z zh.out ?_
      | (refine wpList_store_row rfl 27 _ _ rfl w1.heap.size O rfl rfl 27 Z (heap_alloc_new w1 _) hO.out.info (hz.out.size.trans hO.out.size.symm) hO.out.one ?_; rw [World.setRow_alloc_new]))
    obtain ⟨W, hW⟩ : ∃ W, W = w1.alloc (.cells O 27) := ⟨_, rfl⟩
    have Hbw : Hid (Below w.heap.size w W) := by
      show Below _ _ _
      rw [hW]; exact hb1.out.alloc hb1.out.size _
    have lk : (sha key).length = 32 := sha_length key
    have HBk : Hid (Bytes W (some ⟨w1.heap.size, 0, none⟩) (sha key)) := by
      show Bytes _ _ _
      rw [hW]; exact hO.out.bytes (heap_alloc_new w1 _)
    have Hblk : Hid (blockOf key = fillB (sha key)) := blockOf_long key hlong
    have HWe := hid hW
    clear hW
    have Hk : Hid (sha key = sha key) := rfl
    obtain ⟨kk, hkk⟩ : ∃ kk, kk = sha key := ⟨_, rfl⟩
    rw [← hkk] at lk HBk Hblk
    have lk64 : kk.length ≤ 64 := by omega
    have lkc : kk.length ≤ 32 := by omega
    rw [← HWe.out]
    clear hkk Hk hO hb1 hz zh HB HK hlong d1
    obtain ⟨ad, had⟩ : ∃ ad, ad = some (⟨w1.heap.size, 0, none⟩ : Addr) := ⟨_, rfl⟩
    rw [← had] at HBk ⊢
    clear had HWe
    rw [run_make (P := Tryz.prog) _ 29 5 i0 (.int .u8 0) Tryz.underlying29 hi hz0 .i64 .i64 64 64 (by omega) (by omega) (by rw [hz2]; omega) (by omega)]
    simp only [Result.andThen]
    rw [Oper.upon_value, show (64 : Int).toNat = 64 from rfl, hz1, Nat.mul_one, made_row]
    obtain ⟨W1, hW1⟩ : ∃ W1, W1 = W.alloc (.cells (cellsOf (List.replicate 64 0)).toArray 5) := ⟨_, rfl⟩
    have g1 : W1.heap[W.heap.size]? = some (.cells (cellsOf (List.replicate 64 0)).toArray 5 (0, 0)) := by rw [hW1]; exact heap_alloc_new W _
    have HB1 : Hid (Bytes W1 ad kk) := by
      show Bytes _ _ _
      rw [hW1]; exact HBk.out.below ((Below.refl _ W).alloc (Nat.le_refl _) _)
    have Hb1 : Hid (Below w.heap.size w W1) := by
      show Below _ _ _
      rw [hW1]; exact Hbw.out.alloc Hbw.out.size _
    obtain ⟨vc, W2, hrun, hrow, hbel⟩ := copy_fill lk64 HB1.out lkc g1
    rw [lk] at hrun
    have Hfl : Hid ((fillB kk).length = 64) := fillB_length kk lk64
    have Hle : Hid (w.heap.size ≤ W.heap.size) := Hbw.out.size
    have Hbel2 : Hid (Below w.heap.size w W2) := hbel.out _ _ Hle.out Hb1.out
    rw [← hW1]
    clear hW1 g1 HB1 Hb1 hbel HBk Hbw hi hz0 hz1 hz2 lk64 lkc
    go_wp2_with fail
    rw [hrun.out]
    simp only [Result.andThen]
    rw [Oper.upon_value]
    clear hrun
    generalize fillB kk = B at hrow Hblk Hfl
    obtain ⟨M, hM⟩ : ∃ M, M = W.heap.size := ⟨_, rfl⟩
    have HleM : Hid (w.heap.size ≤ M) := by
      show _ ≤ _
      rw [hM]; exact Hle.out
    rw [← hM] at hrow ⊢
    have Hrow0 : Hid (W2.heap[M]? = some (.cells (cellsOf (maskAt m B 0)).toArray 5 (0, 0))) := by
      show _ = _
      rw [maskAt_zero]; exact hrow.out
    clear hM hrow
    go_wp2_with fail
    go_loopw [20] (fun i wr => ∃ k : Nat, k ≤ 64 ∧ i = .int .i64 k ∧ wr.heap[M]? = some (.cells (cellsOf (maskAt m B k)).toArray 5 (0, 0)) ∧ Below w.heap.size w wr) (fun i _ => 64 - (intOf i).toNat)
    case atStart => exact ⟨0, Nat.zero_le _, rfl, Hrow0.out, Hbel2.out⟩
    case round =>
      clear Hrow0 Hbel2
      obtain ⟨k, hk, rfl, hrow, hbel⟩ := hrel
      have Hrow := hid hrow
      have Hbel := hid hbel
      clear hbel
      by_cases hlt : k < 64
      · have hkB : k < B.length := by rw [Hfl.out]; exact hlt
        have c1 := cells_row _ _ hrow k (by rw [maskAt_length]; exact hkB)
        rw [maskAt_get m B k hkB] at c1
        have f1 := frozen_of_row _ _ k _ _ hrow
        have Hst := hid (maskAt_set m B k hkB)
        obtain ⟨x, hx⟩ : ∃ x, x = B[k] := ⟨_, rfl⟩
        rw [← hx] at c1 Hst
        obtain ⟨y, hy⟩ : ∃ y, y = x ^^^ m := ⟨_, rfl⟩
        rw [← hy] at Hst
        have q1 : bits .xor .u8 (x.toNat : Int) (m.toNat : Int) = (y.toNat : Int) := by rw [hy]; exact b_xor x m
        clear hrow hx hkB hy
        go_wp2
        go_roundw
        case rel =>
          refine ⟨k + 1, by omega, by go_num, ?_, Hbel.out.setCell (by have := HleM.out; simp; omega) _⟩
          rw [heap_setCell_same _ _ _ _ _ _ Hrow.out, cells_set, Hst.out]
        case measure => simp [intOf]; omega
      · have hk64 : k = 64 := by omega
        have Hend : Hid (wr.heap[M]? = some (.cells (cellsOf (maskB m (blockOf key))).toArray 5 (0, 0))) := by
          have h := Hrow.out
          rw [hk64, maskAt_all m B 64 Hfl.out, ← Hblk.out] at h
          exact h
        clear hrow Hrow hk64 hk
        go_wp2
        go_ret
        exact ⟨M, rfl, row_bytes _ _ Hend.out, Hbel.out⟩
  · have d1 : ¬ (64 : Int) < (key.length : Int) := by omega
    have Hbw : Hid (Below w.heap.size w w) := Below.refl _ w
    have HBk : Hid (Bytes w a key) := HB.out
    have lk64 : key.length ≤ 64 := by omega
    have lkc : key.length ≤ cap := hcap
    have Hblk : Hid (blockOf key = fillB key) := blockOf_short key hlong
    clear hz zh HB HK hlong
    go_enter Tryz.func77, Tryz.ntmps77
    go_wp2_with fail
    rw [run_make (P := Tryz.prog) _ 29 5 i0 (.int .u8 0) Tryz.underlying29 hi hz0 .i64 .i64 64 64 (by omega) (by omega) (by rw [hz2]; omega) (by omega)]
    simp only [Result.andThen]
    rw [Oper.upon_value, show (64 : Int).toNat = 64 from rfl, hz1, Nat.mul_one, made_row]
    obtain ⟨W1, hW1⟩ : ∃ W1, W1 = w.alloc (.cells (cellsOf (List.replicate 64 0)).toArray 5) := ⟨_, rfl⟩
    have g1 : W1.heap[w.heap.size]? = some (.cells (cellsOf (List.replicate 64 0)).toArray 5 (0, 0)) := by rw [hW1]; exact heap_alloc_new w _
    have HB1 : Hid (Bytes W1 a key) := by
      show Bytes _ _ _
      rw [hW1]; exact HBk.out.below ((Below.refl _ w).alloc (Nat.le_refl _) _)
    have Hb1 : Hid (Below w.heap.size w W1) := by
      show Below _ _ _
      rw [hW1]; exact Hbw.out.alloc Hbw.out.size _
    obtain ⟨vc, W2, hrun, hrow, hbel⟩ := copy_fill lk64 HB1.out lkc g1
    have Hfl : Hid ((fillB key).length = 64) := fillB_length key lk64
    have Hle : Hid (w.heap.size ≤ w.heap.size) := Hbw.out.size
    have Hbel2 : Hid (Below w.heap.size w W2) := hbel.out _ _ Hle.out Hb1.out
    rw [← hW1]
    clear hW1 g1 HB1 Hb1 hbel HBk Hbw hi hz0 hz1 hz2 lk64 lkc
    go_wp2_with fail
    rw [hrun.out]
    simp only [Result.andThen]
    rw [Oper.upon_value]
    clear hrun
    generalize fillB key = B at hrow Hblk Hfl
    obtain ⟨M, hM⟩ : ∃ M, M = w.heap.size := ⟨_, rfl⟩
    have HleM : Hid (w.heap.size ≤ M) := by
      show _ ≤ _
      rw [hM]; exact Hle.out
    rw [← hM] at hrow ⊢
    have Hrow0 : Hid (W2.heap[M]? = some (.cells (cellsOf (maskAt m B 0)).toArray 5 (0, 0))) := by
      show _ = _
      rw [maskAt_zero]; exact hrow.out
    clear hM hrow
    go_wp2_with fail
    go_loopw [20] (fun i wr => ∃ k : Nat, k ≤ 64 ∧ i = .int .i64 k ∧ wr.heap[M]? = some (.cells (cellsOf (maskAt m B k)).toArray 5 (0, 0)) ∧ Below w.heap.size w wr) (fun i _ => 64 - (intOf i).toNat)
    case atStart => exact ⟨0, Nat.zero_le _, rfl, Hrow0.out, Hbel2.out⟩
    case round =>
      clear Hrow0 Hbel2
      obtain ⟨k, hk, rfl, hrow, hbel⟩ := hrel
      have Hrow := hid hrow
      have Hbel := hid hbel
      clear hbel
      by_cases hlt : k < 64
      · have hkB : k < B.length := by rw [Hfl.out]; exact hlt
        have c1 := cells_row _ _ hrow k (by rw [maskAt_length]; exact hkB)
        rw [maskAt_get m B k hkB] at c1
        have f1 := frozen_of_row _ _ k _ _ hrow
        have Hst := hid (maskAt_set m B k hkB)
        obtain ⟨x, hx⟩ : ∃ x, x = B[k] := ⟨_, rfl⟩
        rw [← hx] at c1 Hst
        obtain ⟨y, hy⟩ : ∃ y, y = x ^^^ m := ⟨_, rfl⟩
        rw [← hy] at Hst
        have q1 : bits .xor .u8 (x.toNat : Int) (m.toNat : Int) = (y.toNat : Int) := by rw [hy]; exact b_xor x m
        clear hrow hx hkB hy
        go_wp2
        go_roundw
        case rel =>
          refine ⟨k + 1, by omega, by go_num, ?_, Hbel.out.setCell (by have := HleM.out; simp; omega) _⟩
          rw [heap_setCell_same _ _ _ _ _ _ Hrow.out, cells_set, Hst.out]
        case measure => simp [intOf]; omega
      · have hk64 : k = 64 := by omega
        have Hend : Hid (wr.heap[M]? = some (.cells (cellsOf (maskB m (blockOf key))).toArray 5 (0, 0))) := by
          have h := Hrow.out
          rw [hk64, maskAt_all m B 64 Hfl.out, ← Hblk.out] at h
          exact h
        clear hrow Hrow hk64 hk
        go_wp2
        go_ret
        exact ⟨M, rfl, row_bytes _ _ Hend.out, Hbel.out⟩
end Go.Proofs.YtomhcccjeadefaaGreatDoor
