/- What a password becomes by so many rounds: hash.Iterate. -/
import Derived.Test.YtfiaefagnkmpoaaDoorEPair
import Derived.Laws.IdiomStrings
namespace Go.Proofs.YtfiaefagnkmpoaaDoor
open Go.RowKit
set_option linter.unusedVariables false
set_option maxRecDepth 20000

/-- []byte(s) -/
theorem conv_str (w : World) (s : ByteArray) : ∃ cap W, (convert 9 22 (.string s)).run Tryd.prog w = .ok (.slice (some ⟨w.heap.size, 0, none⟩) s.size cap) W ∧ Bytes W (some ⟨w.heap.size, 0, none⟩) s.data.toList ∧ s.size ≤ cap ∧ Below w.heap.size w W := by
  refine ⟨_, _, run_bytes_of_string (P := Tryd.prog) w 9 22 5 s Tryd.underlying9 Tryd.underlying22 Tryd.underlying5, fun i hi => ⟨w.heap.size, 0, rfl, ?_⟩, grownCap_ge _ _ _ _, ?_⟩
  · have hi' : i < s.data.size := by simpa using hi
    have h := bytesRow_at s (grownCap w s.size 0 5) i hi'
    have hh := heap_alloc_last w.drew (.cells (bytesRow s (grownCap w s.size 0 5)) 5 ((bytesRow s (grownCap w s.size 0 5)).size, (bytesRow s (grownCap w s.size 0 5)).size + 1))
    rw [Nat.zero_add]
    have hh' : (w.drew.alloc (.cells (bytesRow s (grownCap w s.size 0 5)) 5 ((bytesRow s (grownCap w s.size 0 5)).size, (bytesRow s (grownCap w s.size 0 5)).size + 1))).heap[w.heap.size]? = some (.cells (bytesRow s (grownCap w s.size 0 5)) 5 ((bytesRow s (grownCap w s.size 0 5)).size, (bytesRow s (grownCap w s.size 0 5)).size + 1)) := hh
    unfold World.cell?
    rw [hh']
    exact h.trans (by simp)
  · exact (Below.refl _ w).drew.alloc (Nat.le_refl _) _
/-- so many rounds -/
def iterN (p s : List UInt8) : Nat → List UInt8
  | 0 => hmac s p
  | k + 1 => hmac p (iterN p s k)
theorem iterN_length (p s : List UInt8) (k : Nat) : (iterN p s k).length = 32 := by cases k <;> exact hmac_length _ _
/-- the error, or 0 -/
def itErr (p s : ByteArray) (c : Int) : Int := if 64 < p.size ∨ 8 < s.size then 6 else if c < 1 ∨ 64 < c then 2 else 0
def itRes (p s : ByteArray) (c : Int) : List UInt8 := if 64 < p.size ∨ 8 < s.size then List.replicate 32 0 else if c < 1 ∨ 64 < c then List.replicate 32 0 else iterN p.data.toList s.data.toList c.toNat

/-- the rounds' hash lies at G, the result's cells at R -/
def IterAt (w wr : World) (G R : Nat) (Z : Array Value) (l : List UInt8) : Prop := ∃ O, HV O l ∧ wr.heap[G]? = some (.cells O 26 (0, 0)) ∧ wr.heap[R]? = some (.cells Z 26 (0, 0)) ∧ Below w.heap.size w wr

set_option maxHeartbeats 4000000 in
theorem iterate_any {w : World} (p s : ByteArray) (c : Int) (hp : p.size ≤ 140737488355328) (hs : s.size ≤ 140737488355328) (hK : KAt w) :
    Calls Tryd.prog 16 #[.string p, .string s, .int .i64 c] w (HashErr w (itRes p s c) (itErr p s c)) := by
  obtain ⟨Z, hZ⟩ : ∃ Z, Z = bvs (List.replicate 32 0) := ⟨_, rfl⟩
  have zh := (zero_of_info zero_hash).1
  have bh := built_hash
  rw [← hZ] at zh bh
  have hz : Hid (HV Z (List.replicate 32 0)) := by
    show HV _ _
    rw [hZ]; exact hv_zero
  have zh := hid zh
  have bh := hid bh
  have HK := hid hK
  clear hZ hK
  have x0 := hid (heap_alloc_new w (.cells Z 26))
  have b0 : Hid (Below w.heap.size w (w.alloc (.cells Z 26))) := (Below.refl _ w).alloc (Nat.le_refl _) _
  by_cases h1 : 64 < p.size
  · have d1 : (64 : Int) < (p.size : Int) := by omega
    have e1 : Hid (itErr p s c = 6 ∧ itRes p s c = List.replicate 32 0) := by
      show _ ∧ _
      simp [itErr, itRes, h1]
    go_enter Tryd.func16, Tryd.ntmps16
    go_wp2_with (with_reducible show Go.wpList _ _ _ _ _ _; first
      | refine wpList_alloc_row rfl 26 rfl Z zh.out ?_
      | refine wpList_build_none rfl 26 rfl Z bh.out ?_
      | refine wpList_store_row rfl 26 _ _ rfl w.heap.size Z rfl rfl 26 Z x0.out hz.out.info rfl hz.out.one ?_)
    refine bodyPost_ret (results_row_tmp rfl _ _ w.heap.size 26 Z (0, 0) _ rfl (setRow_heap _ _ _ _ _ _ x0.out) Tryd.underlying26 rfl hz.out.info) rfl ?_
    rw [e1.out.1, e1.out.2]
    exact ⟨Z, rfl, hz.out, b0.out.setRow (by omega) _⟩
  · by_cases h2 : 8 < s.size
    · have d1 : ¬ (64 : Int) < (p.size : Int) := by omega
      have d2 : (8 : Int) < (s.size : Int) := by omega
      have e1 : Hid (itErr p s c = 6 ∧ itRes p s c = List.replicate 32 0) := by
        show _ ∧ _
        simp [itErr, itRes, h2]
      go_enter Tryd.func16, Tryd.ntmps16
      go_wp2_with (with_reducible show Go.wpList _ _ _ _ _ _; first
        | refine wpList_alloc_row rfl 26 rfl Z zh.out ?_
        | refine wpList_build_none rfl 26 rfl Z bh.out ?_
        | refine wpList_store_row rfl 26 _ _ rfl w.heap.size Z rfl rfl 26 Z x0.out hz.out.info rfl hz.out.one ?_)
      refine bodyPost_ret (results_row_tmp rfl _ _ w.heap.size 26 Z (0, 0) _ rfl (setRow_heap _ _ _ _ _ _ x0.out) Tryd.underlying26 rfl hz.out.info) rfl ?_
      rw [e1.out.1, e1.out.2]
      exact ⟨Z, rfl, hz.out, b0.out.setRow (by omega) _⟩
    · have d1 : ¬ (64 : Int) < (p.size : Int) := by omega
      have d2 : ¬ (8 : Int) < (s.size : Int) := by omega
      by_cases h3 : c < 1
      · have e1 : Hid (itErr p s c = 2 ∧ itRes p s c = List.replicate 32 0) := by
          show _ ∧ _
          simp [itErr, itRes, h1, h2, h3]
        go_enter Tryd.func16, Tryd.ntmps16
        go_wp2_with (with_reducible show Go.wpList _ _ _ _ _ _; first
          | refine wpList_alloc_row rfl 26 rfl Z zh.out ?_
          | refine wpList_build_none rfl 26 rfl Z bh.out ?_
          | refine wpList_store_row rfl 26 _ _ rfl w.heap.size Z rfl rfl 26 Z x0.out hz.out.info rfl hz.out.one ?_)
        refine bodyPost_ret (results_row_tmp rfl _ _ w.heap.size 26 Z (0, 0) _ rfl (setRow_heap _ _ _ _ _ _ x0.out) Tryd.underlying26 rfl hz.out.info) rfl ?_
        rw [e1.out.1, e1.out.2]
        exact ⟨Z, rfl, hz.out, b0.out.setRow (by omega) _⟩
      · by_cases h4 : 64 < c
        · have e1 : Hid (itErr p s c = 2 ∧ itRes p s c = List.replicate 32 0) := by
            show _ ∧ _
            simp [itErr, itRes, h1, h2, h4]
          go_enter Tryd.func16, Tryd.ntmps16
          go_wp2_with (with_reducible show Go.wpList _ _ _ _ _ _; first
            | refine wpList_alloc_row rfl 26 rfl Z zh.out ?_
            | refine wpList_build_none rfl 26 rfl Z bh.out ?_
            | refine wpList_store_row rfl 26 _ _ rfl w.heap.size Z rfl rfl 26 Z x0.out hz.out.info rfl hz.out.one ?_)
          refine bodyPost_ret (results_row_tmp rfl _ _ w.heap.size 26 Z (0, 0) _ rfl (setRow_heap _ _ _ _ _ _ x0.out) Tryd.underlying26 rfl hz.out.info) rfl ?_
          rw [e1.out.1, e1.out.2]
          exact ⟨Z, rfl, hz.out, b0.out.setRow (by omega) _⟩
        · obtain ⟨C, hC⟩ : ∃ C : Nat, c = (C : Int) := ⟨c.toNat, by omega⟩
          subst hC
          have e1 : Hid (itErr p s (C : Int) = 0 ∧ itRes p s (C : Int) = iterN p.data.toList s.data.toList C) := by
            show _ ∧ _
            simp [itErr, itRes, h1, h2, h3, h4]
          have lp : p.data.toList.length = p.size := Array.length_toList
          have ls : s.data.toList.length = s.size := Array.length_toList
          obtain ⟨pl, hpl⟩ : ∃ pl, pl = p.data.toList := ⟨_, rfl⟩
          obtain ⟨sl, hsl⟩ : ∃ sl, sl = s.data.toList := ⟨_, rfl⟩
          rw [← hpl] at lp e1
          rw [← hsl] at ls e1
          obtain ⟨cp, W1, hc1, B1, lc1, bel1⟩ := conv_str (w.alloc (.cells Z 26)) p
          obtain ⟨cs, W2, hc2, B2, lc2, bel2⟩ := conv_str W1 s
          rw [← hpl] at B1
          rw [← hsl] at B2
          rw [show (w.alloc (.cells Z 26)).heap.size = w.heap.size + 1 by simp] at hc1 B1
          have HB1 : Hid (Bytes W2 (some ⟨w.heap.size + 1, 0, none⟩) pl) := B1.below bel2
          have HB2 := hid B2
          have b2 : Hid (Below w.heap.size w W2) := Below.on' (Below.on' b0.out bel1) bel2
          have x2 : Hid (W2.heap[w.heap.size]? = some (.cells Z 26 (0, 0))) := (bel2.block _ (heap_lt ((bel1.block _ (heap_lt x0.out)).trans x0.out))).trans ((bel1.block _ (heap_lt x0.out)).trans x0.out)
          have Hlp := hid lp
          have Hls := hid ls
          clear hpl hsl B1 B2 bel1 bel2 x0 b0 bh lp ls
          go_enter Tryd.func16, Tryd.ntmps16
          go_wp2_with (with_reducible show Go.wpList _ _ _ _ _ _; refine wpList_alloc_row rfl 26 rfl Z zh.out ?_)
          refine (tag_any sl (some ⟨W1.heap.size, 0, none⟩) s.size cs Hls.out.symm HB2.out (by have := Hls.out; omega) (by have := Hls.out; omega) pl (some ⟨w.heap.size + 1, 0, none⟩) p.size cp Hlp.out.symm HB1.out (by have := Hlp.out; omega) (by have := Hlp.out; omega) (HK.out.below b2.out)).mono ?_
          rintro _ w3 ⟨O, rfl, hO, hb3⟩
          have HO := hid hO
          have b3 : Hid (Below w.heap.size w w3) := Below.on' b2.out hb3
          have x3 : Hid (w3.heap[w.heap.size]? = some (.cells Z 26 (0, 0))) := (hb3.block _ (heap_lt x2.out)).trans x2.out
          have HB3 : Hid (Bytes w3 (some ⟨w.heap.size + 1, 0, none⟩) pl) := HB1.out.below hb3
          clear hb3 hO b2 x2 HB1 HB2 hc1 hc2
          go_wp2_with (with_reducible show Go.wpList _ _ _ _ _ _; first
            | refine wpList_alloc_row rfl 26 rfl Z zh.out ?_
            | (refine wpList_store_row rfl 26 _ _ rfl w3.heap.size O rfl rfl 26 Z (heap_alloc_new w3 _) HO.out.info (hz.out.size.trans HO.out.size.symm) HO.out.one ?_; rw [World.setRow_alloc_new]))
          have I0 : Hid (IterAt w (w3.alloc (.cells O 26)) w3.heap.size w.heap.size Z (iterN pl sl 0)) :=
            ⟨O, HO.out, heap_alloc_new w3 _, (Below.heap_alloc _ _ _ (heap_lt x3.out)).trans x3.out, b3.out.alloc b3.out.size _⟩
          have Hle : Hid (w.heap.size < w3.heap.size) := heap_lt x3.out
          have HBx : Hid (∀ W, Below w3.heap.size w3 W → Bytes W (some ⟨w.heap.size + 1, 0, none⟩) pl) := fun W hW => HB3.out.below hW
          have bl0 : Hid (Below w3.heap.size w3 (w3.alloc (.cells O 26))) := (Below.refl _ w3).alloc (Nat.le_refl _) _
          clear HO b3 x3 HB3 zh
          go_loopw [33] (fun i wr => ∃ k : Nat, k ≤ C ∧ i = .int .i64 k ∧ IterAt w wr w3.heap.size w.heap.size Z (iterN pl sl k) ∧ Below w3.heap.size w3 wr) (fun i _ => C - (intOf i).toNat)
          case atStart => exact ⟨0, Nat.zero_le _, rfl, I0.out, bl0.out⟩
          case round =>
            clear I0 bl0
            obtain ⟨k, hk, rfl, hI, hbl⟩ := hrel
            obtain ⟨O, hO, hg, hr, hb⟩ := hI
            have HO := hid hO
            have Hg := hid hg
            have Hr := hid hr
            have Hb := hid hb
            have Hbl := hid hbl
            clear hO hg hr hb hbl
            by_cases hlt : k < C
            · have q1 : (k : Int) < (C : Int) := by omega
              go_wp2_with fail
              refine (tag_any pl (some ⟨w.heap.size + 1, 0, none⟩) p.size cp Hlp.out.symm (HBx.out _ Hbl.out) (by have := Hlp.out; omega) (by have := Hlp.out; omega) (iterN pl sl k) (some ⟨w3.heap.size, 0, none⟩) 32 32 (iterN_length _ _ _).symm (HO.out.bytes Hg.out) (by rw [iterN_length]; omega) (by rw [iterN_length]; omega) (HK.out.below Hb.out)).mono ?_
              rintro _ w4 ⟨O2, rfl, hO2, hb4⟩
              have HO2 := hid hO2
              have Hg4 : Hid (w4.heap[w3.heap.size]? = some (.cells O 26 (0, 0))) := (hb4.block _ (heap_lt Hg.out)).trans Hg.out
              have Hr4 : Hid (w4.heap[w.heap.size]? = some (.cells Z 26 (0, 0))) := (hb4.block _ (heap_lt Hr.out)).trans Hr.out
              have Hb4 : Hid (Below w.heap.size w w4) := Below.on' Hb.out hb4
              have Hbl4 : Hid (Below w3.heap.size w3 w4) := Below.on' Hbl.out hb4
              clear hO2 hb4 Hg Hr Hb Hbl
              go_wp2_with (with_reducible show Go.wpList _ _ _ _ _ _; refine wpList_store_row rfl 26 _ _ rfl w3.heap.size O2 rfl rfl 26 O Hg4.out HO2.out.info (HO.out.size.trans HO2.out.size.symm) HO2.out.one ?_)
              go_roundw
              case rel =>
                refine ⟨k + 1, by omega, by go_num, ⟨O2, HO2.out, setRow_heap _ _ _ _ _ _ Hg4.out, (setRow_other _ _ _ _ (by have := Hle.out; omega)).trans Hr4.out, Hb4.out.setRow (by have := Hle.out; omega) _⟩, Hbl4.out.setRow (Nat.le_refl _) _⟩
              case measure => simp [intOf]; omega
            · have q1 : ¬ (k : Int) < (C : Int) := by omega
              obtain rfl : k = C := by omega
              have hsz := hid HO.out.info
              have hso : Hid (Z.size = O.size) := hz.out.size.trans HO.out.size.symm
              have ho1 := hid HO.out.one
              go_wp2_with (with_reducible show Go.wpList _ _ _ _ _ _; first
                | refine wpList_load_row rfl 26 _ rfl w3.heap.size rfl _ _ _ _ Hg.out Tryd.underlying26 rfl hsz.out ?_
                | refine wpList_store_row rfl 26 _ _ rfl w.heap.size O rfl rfl 26 Z Hr.out hsz.out hso.out ho1.out ?_)
              show bodyPost _ _ _ _ _ _
              refine bodyPost_ret (results_row_tmp rfl _ _ w.heap.size 26 O (0, 0) _ rfl (setRow_heap _ _ _ _ _ _ Hr.out) Tryd.underlying26 rfl hsz.out) rfl ?_
              rw [e1.out.1, e1.out.2]
              exact ⟨O, rfl, HO.out, Hb.out.setRow (by omega) _⟩
end Go.Proofs.YtfiaefagnkmpoaaDoor
