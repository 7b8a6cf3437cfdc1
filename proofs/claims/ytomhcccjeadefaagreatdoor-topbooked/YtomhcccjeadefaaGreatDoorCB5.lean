/- YtomhcccjeadefaaGreatDoorHIter + YtomhcccjeadefaaGreatDoorCB4 + YtomhcccjeadefaaGreatDoorCB5 -/
import Derived.Test.YtomhcccjeadefaaGreatDoorHDerive
import Derived.Laws.IdiomStrings
import Derived.Test.YtomhcccjeadefaaGreatDoorCB3
import Derived.BigQuiet
/- What a password becomes by so many rounds: hash.Iterate. -/
namespace Go.Proofs.YtomhcccjeadefaaGreatDoor
open Go.RowKit
set_option linter.unusedVariables false
set_option maxRecDepth 20000
theorem conv_str (w : World) (s : ByteArray) : ∃ cap W, (convert 9 29 (.string s)).run Tryz.prog w = .ok (.slice (some ⟨w.heap.size, 0, none⟩) s.size cap) W ∧ Bytes W (some ⟨w.heap.size, 0, none⟩) s.data.toList ∧ s.size ≤ cap ∧ Below w.heap.size w W := by
  refine ⟨_, _, run_bytes_of_string (P := Tryz.prog) w 9 29 5 s Tryz.underlying9 Tryz.underlying29 Tryz.underlying5, fun i hi => ⟨w.heap.size, 0, rfl, ?_⟩, grownCap_ge _ _ _ _, ?_⟩
  · have hi' : i < s.data.size := by simpa using hi
    have h := bytesRow_at s (grownCap w s.size 0 5) i hi'
    have hh := heap_alloc_last w.drew (.cells (bytesRow s (grownCap w s.size 0 5)) 5 ((bytesRow s (grownCap w s.size 0 5)).size, (bytesRow s (grownCap w s.size 0 5)).size + 1))
    rw [Nat.zero_add]
    have hh' : (w.drew.alloc (.cells (bytesRow s (grownCap w s.size 0 5)) 5 ((bytesRow s (grownCap w s.size 0 5)).size, (bytesRow s (grownCap w s.size 0 5)).size + 1))).heap[w.heap.size]? = some (.cells (bytesRow s (grownCap w s.size 0 5)) 5 ((bytesRow s (grownCap w s.size 0 5)).size, (bytesRow s (grownCap w s.size 0 5)).size + 1)) := hh
    unfold World.cell?
    rw [hh']
    exact h.trans (by simp)
  · exact (Below.refl _ w).drew.alloc (Nat.le_refl _) _
def iterN (p s : List UInt8) : Nat → List UInt8
  | 0 => hmac s p
  | k + 1 => hmac p (iterN p s k)
theorem iterN_length (p s : List UInt8) (k : Nat) : (iterN p s k).length = 32 := by cases k <;> exact hmac_length _ _
def itErr (p s : ByteArray) (c : Int) : Int := if 64 < p.size ∨ 8 < s.size then 6 else if c < 1 ∨ 64 < c then 2 else 0
def itRes (p s : ByteArray) (c : Int) : List UInt8 := if 64 < p.size ∨ 8 < s.size then List.replicate 32 0 else if c < 1 ∨ 64 < c then List.replicate 32 0 else iterN p.data.toList s.data.toList c.toNat
def IterAt (w wr : World) (G R : Nat) (Z : Array Value) (l : List UInt8) : Prop := ∃ O, HV O l ∧ wr.heap[G]? = some (.cells O 27 (0, 0)) ∧ wr.heap[R]? = some (.cells Z 27 (0, 0)) ∧ Below w.heap.size w wr
set_option maxHeartbeats 4000000 in
theorem iterate_any {w : World} (p s : ByteArray) (c : Int) (hp : p.size ≤ 140737488355328) (hs : s.size ≤ 140737488355328) (hK : KAt w) :
    Calls Tryz.prog 33 #[.string p, .string s, .int .i64 c] w (HashErr w (itRes p s c) (itErr p s c)) := by
  obtain ⟨Z, hZ⟩ : ∃ Z, Z = bvs (List.replicate 32 0) := ⟨_, rfl⟩
  have zh := (zero_of_info zero_hash).1
  have bh := built_hash
  rw [← hZ] at zh bh
  have hz : Hid (HV Z (List.replicate 32 0)) := by
    show HV _ _
    rw [hZ]; exact hv_zero
  have zh := hid zh
  have bh := hid bh
  have HK := hid hK
  clear hZ hK
  have x0 := hid (heap_alloc_new w (.cells Z 27))
  have b0 : Hid (Below w.heap.size w (w.alloc (.cells Z 27))) := (Below.refl _ w).alloc (Nat.le_refl _) _
  by_cases h1 : 64 < p.size
  · have d1 : (64 : Int) < (p.size : Int) := by omega
    have e1 : Hid (itErr p s c = 6 ∧ itRes p s c = List.replicate 32 0) := by
      show _ ∧ _
      simp [itErr, itRes, h1]
    go_enter Tryz.func33, Tryz.ntmps33
    go_wp2_with (with_reducible show Go.wpList _ _ _ _ _ _; first
      | refine wpList_alloc_row rfl 27 rfl Z zh.out ?_
      | refine wpList_build_none rfl 27 rfl Z bh.out ?_
      | refine wpList_store_row rfl 27 _ _ rfl w.heap.size Z rfl rfl 27 Z x0.out hz.out.info rfl hz.out.one ?_)
    refine bodyPost_ret (results_row_tmp rfl _ _ w.heap.size 27 Z (0, 0) _ rfl (setRow_heap _ _ _ _ _ _ x0.out) Tryz.underlying27 rfl hz.out.info) rfl ?_
    rw [e1.out.1, e1.out.2]
    exact ⟨Z, rfl, hz.out, b0.out.setRow (by omega) _⟩
  · by_cases h2 : 8 < s.size
    · have d1 : ¬ (64 : Int) < (p.size : Int) := by omega
      have d2 : (8 : Int) < (s.size : Int) := by omega
      have e1 : Hid (itErr p s c = 6 ∧ itRes p s c = List.replicate 32 0) := by
        show _ ∧ _
        simp [itErr, itRes, h2]
      go_enter Tryz.func33, Tryz.ntmps33
      go_wp2_with (with_reducible show Go.wpList _ _ _ _ _ _; first
        | refine wpList_alloc_row rfl 27 rfl Z zh.out ?_
        | refine wpList_build_none rfl 27 rfl Z bh.out ?_
        | refine wpList_store_row rfl 27 _ _ rfl w.heap.size Z rfl rfl 27 Z x0.out hz.out.info rfl hz.out.one ?_)
      refine bodyPost_ret (results_row_tmp rfl _ _ w.heap.size 27 Z (0, 0) _ rfl (setRow_heap _ _ _ _ _ _ x0.out) Tryz.underlying27 rfl hz.out.info) rfl ?_
      rw [e1.out.1, e1.out.2]
      exact ⟨Z, rfl, hz.out, b0.out.setRow (by omega) _⟩
    · have d1 : ¬ (64 : Int) < (p.size : Int) := by omega
      have d2 : ¬ (8 : Int) < (s.size : Int) := by omega
      by_cases h3 : c < 1
      · have e1 : Hid (itErr p s c = 2 ∧ itRes p s c = List.replicate 32 0) := by
          show _ ∧ _
          simp [itErr, itRes, h1, h2, h3]
        go_enter Tryz.func33, Tryz.ntmps33
        go_wp2_with (with_reducible show Go.wpList _ _ _ _ _ _; first
          | refine wpList_alloc_row rfl 27 rfl Z zh.out ?_
          | refine wpList_build_none rfl 27 rfl Z bh.out ?_
          | refine wpList_store_row rfl 27 _ _ rfl w.heap.size Z rfl rfl 27 Z x0.out hz.out.info rfl hz.out.one ?_)
        refine bodyPost_ret (results_row_tmp rfl _ _ w.heap.size 27 Z (0, 0) _ rfl (setRow_heap _ _ _ _ _ _ x0.out) Tryz.underlying27 rfl hz.out.info) rfl ?_
        rw [e1.out.1, e1.out.2]
        exact ⟨Z, rfl, hz.out, b0.out.setRow (by omega) _⟩
      · by_cases h4 : 64 < c
        · have e1 : Hid (itErr p s c = 2 ∧ itRes p s c = List.replicate 32 0) := by
            show _ ∧ _
            simp [itErr, itRes, h1, h2, h4]
          go_enter Tryz.func33, Tryz.ntmps33
          go_wp2_with (with_reducible show Go.wpList _ _ _ _ _ _; first
            | refine wpList_alloc_row rfl 27 rfl Z zh.out ?_
            | refine wpList_build_none rfl 27 rfl Z bh.out ?_
            | refine wpList_store_row rfl 27 _ _ rfl w.heap.size Z rfl rfl 27 Z x0.out hz.out.info rfl hz.out.one ?_)
          refine bodyPost_ret (results_row_tmp rfl _ _ w.heap.size 27 Z (0, 0) _ rfl (setRow_heap _ _ _ _ _ _ x0.out) Tryz.underlying27 rfl hz.out.info) rfl ?_
          rw [e1.out.1, e1.out.2]
          exact ⟨Z, rfl, hz.out, b0.out.setRow (by omega) _⟩
        · obtain ⟨C, hC⟩ : ∃ C : Nat, c = (C : Int) := ⟨c.toNat, by omega⟩
          subst hC
          have e1 : Hid (itErr p s (C : Int) = 0 ∧ itRes p s (C : Int) = iterN p.data.toList s.data.toList C) := by
            show _ ∧ _
            simp [itErr, itRes, h1, h2, h3, h4]
          have lp : p.data.toList.length = p.size := Array.length_toList
          have ls : s.data.toList.length = s.size := Array.length_toList
          obtain ⟨pl, hpl⟩ : ∃ pl, pl = p.data.toList := ⟨_, rfl⟩
          obtain ⟨sl, hsl⟩ : ∃ sl, sl = s.data.toList := ⟨_, rfl⟩
          rw [← hpl] at lp e1
          rw [← hsl] at ls e1
          obtain ⟨cp, W1, hc1, B1, lc1, bel1⟩ := conv_str (w.alloc (.cells Z 27)) p
          obtain ⟨cs, W2, hc2, B2, lc2, bel2⟩ := conv_str W1 s
          rw [← hpl] at B1
          rw [← hsl] at B2
          rw [show (w.alloc (.cells Z 27)).heap.size = w.heap.size + 1 by simp] at hc1 B1
          have HB1 : Hid (Bytes W2 (some ⟨w.heap.size + 1, 0, none⟩) pl) := B1.below bel2
          have HB2 := hid B2
          have b2 : Hid (Below w.heap.size w W2) := Below.on' (Below.on' b0.out bel1) bel2
          have x2 : Hid (W2.heap[w.heap.size]? = some (.cells Z 27 (0, 0))) := (bel2.block _ (heap_lt ((bel1.block _ (heap_lt x0.out)).trans x0.out))).trans ((bel1.block _ (heap_lt x0.out)).trans x0.out)
          have Hlp := hid lp
          have Hls := hid ls
          clear hpl hsl B1 B2 bel1 bel2 x0 b0 bh lp ls
          go_enter Tryz.func33, Tryz.ntmps33
          go_wp2_with (with_reducible show Go.wpList _ _ _ _ _ _; refine wpList_alloc_row rfl 27 rfl Z zh.out ?_)
          refine (tag_any sl (some ⟨W1.heap.size, 0, none⟩) s.size cs Hls.out.symm HB2.out (by have := Hls.out; omega) (by have := Hls.out; omega) pl (some ⟨w.heap.size + 1, 0, none⟩) p.size cp Hlp.out.symm HB1.out (by have := Hlp.out; omega) (by have := Hlp.out; omega) (HK.out.below b2.out)).mono ?_
          rintro _ w3 ⟨O, rfl, hO, hb3⟩
          have HO := hid hO
          have b3 : Hid (Below w.heap.size w w3) := Below.on' b2.out hb3
          have x3 : Hid (w3.heap[w.heap.size]? = some (.cells Z 27 (0, 0))) := (hb3.block _ (heap_lt x2.out)).trans x2.out
          have HB3 : Hid (Bytes w3 (some ⟨w.heap.size + 1, 0, none⟩) pl) := HB1.out.below hb3
          clear hb3 hO b2 x2 HB1 HB2 hc1 hc2
          go_wp2_with (with_reducible show Go.wpList _ _ _ _ _ _; first
            | refine wpList_alloc_row rfl 27 rfl Z zh.out ?_
            | (refine wpList_store_row rfl 27 _ _ rfl w3.heap.size O rfl rfl 27 Z (heap_alloc_new w3 _) HO.out.info (hz.out.size.trans HO.out.size.symm) HO.out.one ?_; rw [World.setRow_alloc_new]))
          have I0 : Hid (IterAt w (w3.alloc (.cells O 27)) w3.heap.size w.heap.size Z (iterN pl sl 0)) :=
            ⟨O, HO.out, heap_alloc_new w3 _, (Below.heap_alloc _ _ _ (heap_lt x3.out)).trans x3.out, b3.out.alloc b3.out.size _⟩
          have Hle : Hid (w.heap.size < w3.heap.size) := heap_lt x3.out
          have HBx : Hid (∀ W, Below w3.heap.size w3 W → Bytes W (some ⟨w.heap.size + 1, 0, none⟩) pl) := fun W hW => HB3.out.below hW
          have bl0 : Hid (Below w3.heap.size w3 (w3.alloc (.cells O 27))) := (Below.refl _ w3).alloc (Nat.le_refl _) _
          clear HO b3 x3 HB3 zh
          go_loopw [33] (fun i wr => ∃ k : Nat, k ≤ C ∧ i = .int .i64 k ∧ IterAt w wr w3.heap.size w.heap.size Z (iterN pl sl k) ∧ Below w3.heap.size w3 wr) (fun i _ => C - (intOf i).toNat)
          case atStart => exact ⟨0, Nat.zero_le _, rfl, I0.out, bl0.out⟩
          case round =>
            clear I0 bl0
            obtain ⟨k, hk, rfl, hI, hbl⟩ := hrel
            obtain ⟨O, hO, hg, hr, hb⟩ := hI
            have HO := hid hO
            have Hg := hid hg
            have Hr := hid hr
            have Hb := hid hb
            have Hbl := hid hbl
            clear hO hg hr hb hbl
            by_cases hlt : k < C
            · have q1 : (k : Int) < (C : Int) := by omega
              go_wp2_with fail
              refine (tag_any pl (some ⟨w.heap.size + 1, 0, none⟩) p.size cp Hlp.out.symm (HBx.out _ Hbl.out) (by have := Hlp.out; omega) (by have := Hlp.out; omega) (iterN pl sl k) (some ⟨w3.heap.size, 0, none⟩) 32 32 (iterN_length _ _ _).symm (HO.out.bytes Hg.out) (by rw [iterN_length]; omega) (by rw [iterN_length]; omega) (HK.out.below Hb.out)).mono ?_
              rintro _ w4 ⟨O2, rfl, hO2, hb4⟩
              have HO2 := hid hO2
              have Hg4 : Hid (w4.heap[w3.heap.size]? = some (.cells O 27 (0, 0))) := (hb4.block _ (heap_lt Hg.out)).trans Hg.out
              have Hr4 : Hid (w4.heap[w.heap.size]? = some (.cells Z 27 (0, 0))) := (hb4.block _ (heap_lt Hr.out)).trans Hr.out
              have Hb4 : Hid (Below w.heap.size w w4) := Below.on' Hb.out hb4
              have Hbl4 : Hid (Below w3.heap.size w3 w4) := Below.on' Hbl.out hb4
              clear hO2 hb4 Hg Hr Hb Hbl
              go_wp2_with (with_reducible show Go.wpList _ _ _ _ _ _; refine wpList_store_row rfl 27 _ _ rfl w3.heap.size O2 rfl rfl 27 O Hg4.out HO2.out.info (HO.out.size.trans HO2.out.size.symm) HO2.out.one ?_)
              go_roundw
              case rel =>
                refine ⟨k + 1, by omega, by go_num, ⟨O2, HO2.out, setRow_heap _ _ _ _ _ _ Hg4.out, (setRow_other _ _ _ _ (by have := Hle.out; omega)).trans Hr4.out, Hb4.out.setRow (by have := Hle.out; omega) _⟩, Hbl4.out.setRow (Nat.le_refl _) _⟩
              case measure => simp [intOf]; omega
            · have q1 : ¬ (k : Int) < (C : Int) := by omega
              obtain rfl : k = C := by omega
              have hsz := hid HO.out.info
              have hso : Hid (Z.size = O.size) := hz.out.size.trans HO.out.size.symm
              have ho1 := hid HO.out.one
              go_wp2_with (with_reducible show Go.wpList _ _ _ _ _ _; first
                | refine wpList_load_row rfl 27 _ rfl w3.heap.size rfl _ _ _ _ Hg.out Tryz.underlying27 rfl hsz.out ?_
                | refine wpList_store_row rfl 27 _ _ rfl w.heap.size O rfl rfl 27 Z Hr.out hsz.out hso.out ho1.out ?_)
              show bodyPost _ _ _ _ _ _
              refine bodyPost_ret (results_row_tmp rfl _ _ w.heap.size 27 O (0, 0) _ rfl (setRow_heap _ _ _ _ _ _ Hr.out) Tryz.underlying27 rfl hsz.out) rfl ?_
              rw [e1.out.1, e1.out.2]
              exact ⟨O, rfl, HO.out, Hb.out.setRow (by omega) _⟩
end Go.Proofs.YtomhcccjeadefaaGreatDoor
/- A book of passwords: a user is added to it. -/
namespace Go.Proofs.YtomhcccjeadefaaGreatDoor
open Go.RowKit Go.Maps
set_option linter.unusedVariables false
set_option maxRecDepth 20000
def saltB : ByteArray := ⟨#[115, 97, 108, 116]⟩
def recC (tr un : Nat) (h : List UInt8) (cost : Nat) : List Value := [.int .i64 (tr : Int), .int .i64 (un : Int)] ++ (cellsOf h ++ [.string saltB, .int .i64 (cost : Int), .slice none 0 0])
theorem built_rec (h : List UInt8) (hl : h.length = 32) : Tryz.prog.built 93 [(1, .agg (bvs h)), (2, .string saltB), (3, .int .i64 2)] = some (recC 0 0 h 2).toArray := by
  obtain ⟨x0, x1, x2, x3, x4, x5, x6, x7, x8, x9, x10, x11, x12, x13, x14, x15, x16, x17, x18, x19, x20, x21, x22, x23, x24, x25, x26, x27, x28, x29, x30, x31, rfl⟩ := len32J h hl
  kernel_rfl
def buildRe (ps : Array (Nat × Value)) : Sem Value := Instr.build 93 ps
theorem buildRe_fold (ps : Array (Nat × Value)) : Instr.build 93 ps = buildRe ps := rfl
theorem nameT : nameB oT.data.toList = true := by decide +kernel
theorem nameU : nameB oU.data.toList = true := by decide +kernel
set_option maxHeartbeats 800000 in
theorem isOwnerO (w : World) : Calls Tryz.prog 38 #[.agg #[.string oT, .string oU]] w fun e w' => e = .returned (.bool true) ∧ Below w.heap.size w w' := by
  have h1 := hid (fun W => isName_any oT W (by unfold maxLen oT; decide))
  have h2 := hid (fun W => isName_any oU W (by unfold maxLen oU; decide))
  go_enter Tryz.func38, Tryz.ntmps38
  go_wp2_with (first
    | (go_at_call 62; refine (h1.out _).mono ?_; rw [nameT]; rintro e w1 ⟨rfl, rfl⟩; clear h1)
    | (go_at_call 62; refine (h2.out _).mono ?_; rw [nameU]; rintro e w1 ⟨rfl, rfl⟩; clear h2))
  go_ret
  exact ⟨rfl, (Below.refl _ _).alloc (Nat.le_refl _) _⟩
section
attribute [local go_sem ↓] buildRe_fold
set_option maxHeartbeats 4000000 in
theorem draft_any {w : World} (g : Nat) (p : ByteArray) (hp : p.size ≤ 140737488355328) (hK : KAt w) : Calls Tryz.prog 19 #[.pointer (some ⟨g, 0, none⟩), .agg #[.string oT, .string oU], .string p, .string saltB, .int .i64 2] w fun e w' => Below w.heap.size w w' ∧ ((64 < p.size ∧ e = .returned (.tuple #[.pointer none, .int .i64 6])) ∨ (p.size ≤ 64 ∧ ∃ r, e = .returned (.tuple #[.pointer (some ⟨r, 0, none⟩), .int .i64 0]) ∧ w.heap.size ≤ r ∧ w'.heap[r]? = some (.cells (recC 0 0 (iterN p.data.toList saltB.data.toList 2) 2).toArray 93 (0, 0)))) := by
  have HI := hid (fun (W : World) (hW : Below w.heap.size w W) => iterate_any (w := W) p saltB 2 hp (by show 4 ≤ 140737488355328; omega) (hK.below hW))
  have hl := iterN_length p.data.toList saltB.data.toList 2
  obtain ⟨H, hH⟩ : ∃ H, H = iterN p.data.toList saltB.data.toList 2 := ⟨_, rfl⟩
  have hres : p.size ≤ 64 → itRes p saltB 2 = H ∧ itErr p saltB 2 = 0 := fun h => by
    have s1 : saltB.size = 4 := rfl
    unfold itRes itErr
    rw [if_neg (by omega), if_neg (by omega), if_neg (by omega), if_neg (by omega), hH]
    exact ⟨rfl, rfl⟩
  have hlong : 64 < p.size → itErr p saltB 2 = 6 := fun h => by unfold itErr; rw [if_pos (.inl h)]
  rw [← hH] at hl ⊢
  clear hH hK
  obtain ⟨Z, hZ⟩ : ∃ Z, Z = bvs (List.replicate 32 0) := ⟨_, rfl⟩
  have zh := (zero_of_info zero_hash).1
  rw [← hZ] at zh
  have hz : Hid (HV Z (List.replicate 32 0)) := by
    show HV _ _
    rw [hZ]; exact hv_zero
  have Zh := hid zh
  obtain ⟨RC, hRC⟩ : ∃ RC, RC = (recC 0 0 H 2).toArray := ⟨_, rfl⟩
  have hbr := built_rec H hl
  rw [← hRC] at hbr ⊢
  have Hl := hid hl
  have Hbr := hid hbr
  obtain ⟨er, her⟩ : ∃ er, er = itErr p saltB 2 := ⟨_, rfl⟩
  obtain ⟨rs, hrs⟩ : ∃ rs, rs = itRes p saltB 2 := ⟨_, rfl⟩
  rw [← her] at HI hres hlong
  rw [← hrs] at HI hres
  have Hres := hid hres
  clear zh hZ hRC hl hbr her hrs hres
  by_cases hlen : 64 < p.size
  · obtain rfl := hlong hlen
    have Hlen := hid hlen
    clear hlong hlen
    go_enter Tryz.func19, Tryz.ntmps19
    go_wp2_with (first
      | (go_at_call 38; refine (isOwnerO _).mono ?_; rintro _ w1 ⟨rfl, b1⟩; have B1 := hid (Below.on' ((Below.refl _ w).alloc (Nat.le_refl _) (.cells #[.string oT, .string oU] 31)) b1); clear b1)
      | (go_at_call 33; refine (HI.out w1 B1.out).mono ?_; rintro _ w2 ⟨O, rfl, hO, b2⟩; have HO := hid hO; have B2 := hid (Below.on' B1.out b2); have X2 := hid (heap_alloc_new w2 (.cells Z 27)); clear b2 hO)
      | (with_reducible show Go.wpList _ _ _ _ _ _; first
        | refine wpList_alloc_row rfl 27 rfl Z Zh.out ?_
        | refine wpList_store_row rfl 27 _ _ rfl w2.heap.size O rfl rfl 27 Z X2.out HO.out.info (by rw [hz.out.size, HO.out.size]) HO.out.one ?_))
    go_ret2
    exact ⟨(Below.on' B2.out ((Below.refl _ w2).alloc (Nat.le_refl _) (.cells Z 27))).setRow B2.out.size _, .inl ⟨Hlen.out, rfl⟩⟩
  · obtain ⟨rfl, rfl⟩ := Hres.out (by omega)
    have Hlen := hid hlen
    clear hlong hlen Hres
    go_enter Tryz.func19, Tryz.ntmps19
    go_wp2_with (first
      | (go_at_call 38; refine (isOwnerO _).mono ?_; rintro _ w1 ⟨rfl, b1⟩; have B1 := hid (Below.on' ((Below.refl _ w).alloc (Nat.le_refl _) (.cells #[.string oT, .string oU] 31)) b1); clear b1)
      | (go_at_call 33; refine (HI.out w1 B1.out).mono ?_; rintro _ w2 ⟨O, rfl, hO, b2⟩; have HO := hid hO; have B2 := hid (Below.on' B1.out b2); have X2 := hid (heap_alloc_new w2 (.cells Z 27)); have X3 := hid (setRow_heap (w2.alloc (.cells Z 27)) _ _ O _ _ X2.out); have hB : ∀ W : World, (buildRe #[(1, .agg O), (2, .string saltB), (3, .int .i64 2)]).run Tryz.prog W = .ok (.agg RC) W := (by rw [hO.eq]; exact fun W => run_build (P := Tryz.prog) W 93 #[(1, .agg (bvs rs)), (2, .string saltB), (3, .int .i64 2)] _ Hbr.out); clear b2 hO)
      | (with_reducible show Go.wpList _ _ _ _ _ _; first
        | refine wpList_alloc_row rfl 27 rfl Z Zh.out ?_
        | refine wpList_store_row rfl 27 _ _ rfl w2.heap.size O rfl rfl 27 Z X2.out HO.out.info (by rw [hz.out.size, HO.out.size]) HO.out.one ?_
        | refine wpList_load_row rfl 27 _ rfl w2.heap.size rfl _ _ _ _ X3.out Tryz.underlying27 rfl HO.out.info ?_))
    go_ret2
    have hb3 := (Below.on' B2.out ((Below.refl _ w2).alloc (Nat.le_refl _) (.cells Z 27))).setRow B2.out.size O
    have hs : ((w2.alloc (.cells Z 27)).setRow w2.heap.size O).heap.size = w2.heap.size + 1 := by simp
    exact ⟨Below.on' hb3 ((Below.refl _ _).alloc (Nat.le_refl _) _), .inr ⟨by have := Hlen.out; omega, _, rfl, by have := B2.out.size; omega, by rw [← hs]; exact heap_alloc_new _ _⟩⟩
end
end Go.Proofs.YtomhcccjeadefaaGreatDoor
/- A book of passwords: Add. -/
namespace Go.Proofs.YtomhcccjeadefaaGreatDoor
open Go.RowKit Go.Maps
set_option linter.unusedVariables false
set_option maxRecDepth 20000
def RecAt (w : World) (r tr un : Nat) (h : List UInt8) : Prop := w.heap[r]? = some (.cells (recC tr un h 2).toArray 93 (0, 0))
def AddP (w : World) (B g mb : Nat) (p : ByteArray) (e : Ending) (w' : World) : Prop :=
  (64 < p.size ∧ e = .returned (.int .i64 6) ∧ Below w.heap.size w w') ∨ (p.size ≤ 64 ∧ e = .returned (.int .i64 0) ∧ OutJ (fun k => k = mb) w w' ∧ ∃ r, BookAt w' B g mb 1 (some r) ∧ RecAt w' r 0 0 (iterN p.data.toList saltB.data.toList 2) ∧ B ≤ r)
theorem zeroPtr (w : World) : (zeroValue 68).run Tryz.prog w = .ok (.pointer none) w := by kernel_rfl
set_option maxHeartbeats 4000000 in
theorem addBook_any {w : World} {B g mb : Nat} (h : BookAt w B g mb 0 none) (hB : B ≤ w.heap.size) (p : ByteArray) (hp : p.size ≤ 140737488355328) (hK : KAt w) :
    Calls Tryz.prog 7 #[.pointer (some ⟨g, 0, none⟩), .agg #[.string oT, .string oU], .string p, .string saltB, .int .i64 2] w (AddP w B g mb p) := by
  obtain ⟨W0, hW0⟩ : ∃ W0, W0 = w.alloc (.cells #[.string oT, .string oU] 31) := ⟨_, rfl⟩
  have b0 : Below w.heap.size w W0 := by rw [hW0]; exact (Below.refl _ w).alloc (Nat.le_refl _) _
  have x0 : W0.heap[w.heap.size]? = some (.cells #[.string oT, .string oU] 31 (0, 0)) := by rw [hW0]; exact heap_alloc_new w _
  have HD := hid (draft_any (w := W0) g p hp (hK.below b0))
  have H0 := hid (h.below b0)
  have B0 := hid b0
  have X0 := hid x0
  have HW := hid hW0
  have hne : mb ≠ g := fun e => by
    obtain ⟨es, ck, h1⟩ := h.mp.isMap
    rw [e, h.obj] at h1
    cases h1
  have Hne := hid hne
  have hbx : w.heap.size ≠ g ∧ w.heap.size ≠ mb := ⟨by have := heap_lt h.obj; omega, by have := h.mp.lt; omega⟩
  have Hbx := hid hbx
  have Hb := hid h
  clear h hK b0 x0 hW0 hne hbx
  have x1 : W0.cell? ⟨w.heap.size, 0, none⟩ = some (.string oT) := cell_of_row _ _ 0 _ _ _ X0.out
  have x2 : W0.cell? ⟨w.heap.size, 1, none⟩ = some (.string oU) := cell_of_row _ _ 1 _ _ _ X0.out
  go_enter Tryz.func7, Tryz.ntmps7
  go_wp2_with fail
  rw [show w.alloc (.cells #[.string oT, .string oU] 31) = W0 from HW.out.symm]
  go_wp2_with fail
  refine HD.out.mono ?_
  rintro _ w1 ⟨b1, ⟨hlong, rfl⟩ | ⟨hshort, r, rfl, hr, hrec⟩⟩
  · have B1 := hid b1
    have Hlong := hid hlong
    clear b1 hlong
    go_wp2_with fail
    go_ret
    exact .inl ⟨Hlong.out, rfl, Below.on' B0.out B1.out⟩
  · have B1 := hid (Below.on' B0.out b1)
    have H1 := hid (H0.out.below b1)
    have X1 := hid ((b1.block _ (heap_lt X0.out)).trans X0.out)
    have Hrec := hid hrec
    have Hsh := hid hshort
    have Hr := hid hr
    have y0 : w1.cell? ⟨w.heap.size, 0, none⟩ = some (.string oT) := cell_of_row _ _ 0 _ _ _ X1.out
    have y1 : w1.cell? ⟨w.heap.size, 1, none⟩ = some (.string oU) := cell_of_row _ _ 1 _ _ _ X1.out
    have y2 := H1.out.c0
    have hlk : ∀ q, (Instr.lookup 52 (.map (some mb)) (.agg #[.string oT, .string oU]) true).run Tryz.prog (w1.drewN q) = .ok (.tuple #[.pointer none, .bool false]) (w1.drewN q) := fun q => (H1.out.below (below_drewN _ _ q)).mp.look Tryz.underlying52 (zeroPtr _)
    clear b1 hrec hshort hr x1 x2
    go_wp2_with fail
    go_quiet (fail)
    go_wp2_with (go_at_call 20; refine (hasRoom0 (H1.out.below (below_drewN _ _ _)) oT).mono ?_; rintro _ w3 ⟨rfl, b3⟩; have B3 := hid (undrewN b3); clear b3)
    have H3 := hid (H1.out.below B3.out)
    have X3 := hid ((B3.out.block _ (heap_lt X1.out)).trans X1.out)
    obtain ⟨w4, hrun, hm4, hg4⟩ := (H3.out.below (below_drewN w3.heap.size w3 1)).mp.put Tryz.underlying52 (by omega) (.pointer (some ⟨r, 0, none⟩))
    have hrun' : (Instr.mapUpdate 52 (.map (some mb)) (.agg #[.string oT, .string oU]) (.pointer (some ⟨r, 0, none⟩))).run Tryz.prog w3.drew = .ok () w4 := hrun
    have k0 : w3.cell? ⟨w.heap.size, 0, none⟩ = some (.string oT) := cell_of_row _ _ 0 _ _ _ X3.out
    have k1 : w3.cell? ⟨w.heap.size, 1, none⟩ = some (.string oU) := cell_of_row _ _ 1 _ _ _ X3.out
    have k2 := H3.out.c0
    have HM4 := hid hm4
    have HG4 := hid hg4
    clear hm4 hg4 hrun hlk y0 y1 y2
    go_region
    all_goals (try go_wp2_with fail)
    go_ret
    have g4 : ∀ k, k < w3.heap.size → k ≠ mb → w4.heap[k]? = w3.heap[k]? := fun k hk hne => HG4.out.block k hk (fun e => hne (by cases e; rfl))
    have hb3 : Below w.heap.size w w3 := Below.on' B1.out B3.out
    have hmb := Hb.out.mp.lt
    have hr1 := heap_lt Hrec.out
    have hrw : w.heap.size ≤ r := Nat.le_trans B0.out.size Hr.out
    refine .inr ⟨Hsh.out, rfl, ⟨HG4.out.os.trans hb3.os, HG4.out.tape.trans hb3.tape, HG4.out.output.trans hb3.output, Nat.le_trans hb3.size HG4.out.size, fun k hk hne => (g4 k (by have := hb3.size; omega) hne).trans (hb3.block k hk)⟩, r, ⟨(g4 g (heap_lt H3.out.obj) (fun e => Hne.out e.symm)).trans H3.out.obj, HM4.out, Hb.out.bg, Hb.out.bm⟩, ?_, by omega⟩
    exact (g4 r (by have := B3.out.size; omega) (by omega)).trans ((B3.out.block _ hr1).trans Hrec.out)
end Go.Proofs.YtomhcccjeadefaaGreatDoor
