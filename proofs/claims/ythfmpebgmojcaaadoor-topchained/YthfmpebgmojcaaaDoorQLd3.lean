/- YthfmpebgmojcaaaDoorQLd2 + YthfmpebgmojcaaaDoorQLd3 -/
import Derived.Test.YthfmpebgmojcaaaDoorQLd1
import Derived.Test.YthfmpebgmojcaaaDoorARw2
/- Loading a chain from any rows: state.Hash and toHash. -/
namespace Go.Proofs.YthfmpebgmojcaaaDoor
open Go.RowKit
set_option linter.unusedVariables false
set_option maxRecDepth 20000
theorem zeroHQ : ∀ w, (zeroValue 69).run Tryd.prog w = .ok (.agg (bvs zero32)) w := (zero_of_info zero_hash).1
theorem hashIn_len (k : ByteArray) (r : TR) : ((hashIn k r).getD zero32).length = 32 := by
  cases h : hashIn k r with
  | none => rfl
  | some l => exact (hashIn_some h).2
section
attribute [local go_sem ↓] loadL_fold storeL_fold loadH_fold storeH_fold buildH_fold
set_option maxHeartbeats 1000000 in
theorem hashOf_no (w : World) (s : ByteArray) (hs : s.size ≠ 32) (hm : s.size ≤ maxLen) :
    Calls Tryd.prog 100 #[.string s] w fun e w' => e = .returned (.tuple #[.agg (bvs zero32), .bool false]) ∧ Below w.heap.size w w' := by
  have hS := storeH_new w zero32 zero32 (by decide) (by decide)
  have hz := zeroHQ
  have hb := buildH_run
  have hi := hid (size_hashs zero32 (by decide))
  have g1 : ((s.size : Int) == 32) = false := by rw [beq_eq_false_iff_ne]; omega
  have g2 : ((s.size : Int) != 32) = true := by rw [bne, g1]; rfl
  have g3 : ¬ (s.size : Int) = 32 := by omega
  generalize bvs zero32 = Z at *
  clear hs hm
  go_enter Tryd.func100, Tryd.ntmps100
  go_wp2
  refine bodyPost_ret (results_row_tmp rfl _ _ w.heap.size 69 Z (0, 0) _ rfl (heap_alloc_new w _) Tryd.underlying69 rfl hi.out) rfl ?_
  exact ⟨rfl, (Below.refl _ w).alloc (Nat.le_refl _) _⟩
end
theorem hashIn_none {k key : ByteArray} {l : List ByteArray} (h : hashIn k (key, l) = none) : key ≠ k ∨ l.length ≠ 1 ∨ ∃ x, l = [x] ∧ x.size ≠ 32 := by
  by_cases h1 : key = k
  · by_cases h2 : l.length = 1
    · match l, h2 with
      | [x], _ =>
        refine .inr (.inr ⟨x, rfl, fun hx => ?_⟩)
        have : hashIn k (key, [x]) = some x.data.toList := if_pos ⟨h1, hx⟩
        rw [this] at h
        cases h
    · exact .inr (.inl h2)
  · exact .inl h1
set_option maxHeartbeats 4000000 in
theorem toHash_size (w : World) (k x : ByteArray) (hx : x.size ≠ 32) (hs : x.size ≤ maxLen) (ad : Option Addr) (cp : Nat) (ht : Texts w ad [x]) :
    Calls Tryd.prog 72 #[.agg #[.string k, .slice ad 1 cp], .string k] w fun e w' => e = .returned (.tuple #[.agg (bvs zero32), .bool false]) ∧ Below w.heap.size w w' := by
  have hz := zeroHQ
  have m0 := cell_of_row _ _ 0 _ _ _ (heap_alloc2_old w (.cells #[.string k, .slice ad 1 cp] 75) (.cells (bvs zero32) 69))
  have m1 := cell_of_row _ _ 1 _ _ _ (heap_alloc2_old w (.cells #[.string k, .slice ad 1 cp] 75) (.cells (bvs zero32) 69))
  have b1 : Below w.heap.size w ((w.alloc (.cells #[.string k, .slice ad 1 cp] 75)).alloc (.cells (bvs zero32) 69)) := ((Below.refl _ w).alloc (Nat.le_refl _) _).alloc (by simp) _
  have r1 : ((w.alloc (.cells #[.string k, .slice ad 1 cp] 75)).alloc (.cells (bvs zero32) 69)).heap[w.heap.size + 1]? = some (.cells (bvs zero32) 69 (0, 0)) := heap_alloc2_new w _ _
  obtain ⟨b, o, rfl, j0⟩ := ht 0 (by simp)
  have k0 : ((w.alloc (.cells #[.string k, .slice (some ⟨b, o, none⟩) 1 cp] 75)).alloc (.cells (bvs zero32) 69)).cell? ⟨b, o, none⟩ = some (.string x) := (b1.cell (p := ⟨b, o, none⟩) (World.block_lt_of_cell? _ _ j0)).trans j0
  have B1 := hid b1
  have R1 := hid r1
  have C := hid (fun W => hashOf_no W x hx hs)
  have sh := hid (size_hashs zero32 (by decide))
  have one := hid (bvs_one zero32)
  have Hz := hid hz
  clear ht b1 r1 j0 hz hx hs
  generalize bvs zero32 = Z at *
  go_enter Tryd.func72, Tryd.ntmps72
  go_wp2_with (first
    | (with_reducible show Go.wpList _ _ _ _ _ _; refine wpList_alloc_row rfl 69 rfl Z Hz.out ?_)
    | (go_at_call 100; refine (C.out _).mono ?_; rintro e w1 ⟨rfl, hb1⟩; have R2 := hid ((hb1.block _ (heap_lt R1.out)).trans R1.out); have B2 := hid (Below.on' B1.out hb1); clear hb1)
    | (with_reducible show Go.wpList _ _ _ _ _ _; refine wpList_store_row rfl 69 (.tmp 4) (.tmp 22) rfl (w.heap.size + 1) Z rfl rfl 69 Z R2.out sh.out rfl one.out ?_))
  refine bodyPost_ret (results_row_tmp rfl _ _ (w.heap.size + 1) 69 Z (0, 0) _ rfl (setRow_heap _ _ _ _ _ _ R2.out) Tryd.underlying69 rfl sh.out) rfl ?_
  exact ⟨rfl, B2.out.setRow (by omega) _⟩
section
attribute [local go_sem ↓] loadL_fold storeL_fold loadH_fold storeH_fold buildH_fold
set_option maxHeartbeats 4000000 in
theorem toHash_any (w : World) (key : ByteArray) (hks : key.size ≤ 1000) (r : TR) (ad : Option Addr) (cp : Nat) (ht : Texts w ad r.2) (hs : ∀ x ∈ r.2, x.size ≤ maxLen) :
    Calls Tryd.prog 72 #[.agg #[.string r.1, .slice ad r.2.length cp], .string key] w fun e w' => e = .returned (.tuple #[.agg (bvs ((hashIn key r).getD zero32)), .bool (hashIn key r).isSome]) ∧ Below w.heap.size w w' := by
  cases hr : hashIn key r with
  | some h =>
    obtain ⟨rfl, hl⟩ := hashIn_some hr
    exact toHash_ok w key hks ad cp h hl ht
  | none =>
    obtain ⟨k, l⟩ := r
    simp only [Option.getD_none, Option.isSome_none] at ht hs ⊢
    obtain ⟨m, hm⟩ : ∃ m, m = l.length := ⟨_, rfl⟩
    rw [← hm]
    have b0 : Below w.heap.size w (w.alloc (.cells #[.string k, .slice ad m cp] 75)) := (Below.refl _ w).alloc (Nat.le_refl _) _
    have hS := storeH_new (w.alloc (.cells #[.string k, .slice ad m cp] 75)) zero32 zero32 (by decide) (by decide)
    rw [show (w.alloc (.cells #[.string k, .slice ad m cp] 75)).heap.size = w.heap.size + 1 by simp] at hS
    have hz := zeroHQ
    have hb := buildH_run
    have hi := hid (size_hashs zero32 (by decide))
    have m0 := cell_of_row _ _ 0 _ _ _ (heap_alloc2_old w (.cells #[.string k, .slice ad m cp] 75) (.cells (bvs zero32) 69))
    have m1 := cell_of_row _ _ 1 _ _ _ (heap_alloc2_old w (.cells #[.string k, .slice ad m cp] 75) (.cells (bvs zero32) 69))
    have b1 : Below w.heap.size w ((w.alloc (.cells #[.string k, .slice ad m cp] 75)).alloc (.cells (bvs zero32) 69)) := ((Below.refl _ w).alloc (Nat.le_refl _) _).alloc (by simp) _
    have r1 : ((w.alloc (.cells #[.string k, .slice ad m cp] 75)).alloc (.cells (bvs zero32) 69)).heap[w.heap.size + 1]? = some (.cells (bvs zero32) 69 (0, 0)) := heap_alloc2_new w _ _
    rcases hashIn_none hr with h1 | h1 | ⟨x, rfl, hx⟩
    · have g1 : (k.toList == key.toList) = false := by rw [eqQ]; exact decide_eq_false h1
      have B1 := hid b1
      have R1 := hid r1
      clear hr h1 ht hs b0 b1 r1 hks hm
      generalize bvs zero32 = Z at *
      go_enter Tryd.func72, Tryd.ntmps72
      go_wp2
      refine bodyPost_ret (results_row_tmp rfl _ _ (w.heap.size + 1) 69 Z (0, 0) _ rfl R1.out Tryd.underlying69 rfl hi.out) rfl ?_
      exact ⟨rfl, B1.out⟩
    · have g1 : ((m : Int) == 1) = false := by rw [beq_eq_false_iff_ne]; omega
      have g2 : ((m : Int) != 1) = true := by rw [bne, g1]; rfl
      have g3 : ¬ (m : Int) = 1 := by omega
      have B1 := hid b1
      have R1 := hid r1
      clear hr h1 ht hs b0 b1 r1 hks hm
      generalize bvs zero32 = Z at *
      go_enter Tryd.func72, Tryd.ntmps72
      by_cases hk : k = key
      · have g4 : (k.toList == key.toList) = true := by rw [eqQ]; exact decide_eq_true hk
        clear hk
        go_wp2
        refine bodyPost_ret (results_row_tmp rfl _ _ (w.heap.size + 1) 69 Z (0, 0) _ rfl R1.out Tryd.underlying69 rfl hi.out) rfl ?_
        exact ⟨rfl, B1.out⟩
      · have g4 : (k.toList == key.toList) = false := by rw [eqQ]; exact decide_eq_false hk
        clear hk
        go_wp2
        refine bodyPost_ret (results_row_tmp rfl _ _ (w.heap.size + 1) 69 Z (0, 0) _ rfl R1.out Tryd.underlying69 rfl hi.out) rfl ?_
        exact ⟨rfl, B1.out⟩
    · obtain rfl : m = 1 := hm
      by_cases hk : k = key
      · subst hk
        exact toHash_size w k x hx (hs x (by simp)) ad cp ht
      · have g1 : (k.toList == key.toList) = false := by rw [eqQ]; exact decide_eq_false hk
        have B1 := hid b1
        have R1 := hid r1
        clear hr hk ht hs b0 b1 r1 hks
        generalize bvs zero32 = Z at *
        go_enter Tryd.func72, Tryd.ntmps72
        go_wp2
        refine bodyPost_ret (results_row_tmp rfl _ _ (w.heap.size + 1) 69 Z (0, 0) _ rfl R1.out Tryd.underlying69 rfl hi.out) rfl ?_
        exact ⟨rfl, B1.out⟩
end
end Go.Proofs.YthfmpebgmojcaaaDoor
/- Loading a chain: takeHashes, by a contract for any rows. -/
namespace Go.Proofs.YthfmpebgmojcaaaDoor
open Go.RowKit
set_option linter.unusedVariables false
set_option maxRecDepth 20000
attribute [local go_sem ↓] loadL_fold storeL_fold loadH_fold storeH_fold buildH_fold
set_option maxHeartbeats 2000000 in
theorem takeHashes_any {w : World} {B g : Nat} {v : Value} {c : Ch} (h : ChAt w B g v c) (ok : Lens c) (b o cp : Nat) (hbw : b < w.heap.size) (q1 q2 q3 : TR) (a1 a2 a3 : Option Addr) (p1 p2 p3 : Nat)
    (hr : w.rangeAt b o [.string q1.1, .slice a1 q1.2.length p1, .string q2.1, .slice a2 q2.2.length p2, .string q3.1, .slice a3 q3.2.length p3]) (t1 : Texts w a1 q1.2) (t2 : Texts w a2 q2.2) (t3 : Texts w a3 q3.2) (z1 : ∀ x ∈ q1.2, x.size ≤ maxLen) (z2 : ∀ x ∈ q2.2, x.size ≤ maxLen) (z3 : ∀ x ∈ q3.2, x.size ≤ maxLen) :
    Calls Tryd.prog 32 #[.pointer (some ⟨g, 0, none⟩), .slice (some ⟨b, o, none⟩) 3 cp] w fun e w' => e = .returned (.bool ((hashIn ⟨#[97]⟩ q1).isSome && (hashIn ⟨#[98]⟩ q2).isSome && (hashIn ⟨#[104]⟩ q3).isSome)) ∧ ChAt w' B g v { c with ah := (hashIn ⟨#[97]⟩ q1).getD zero32, bh := (hashIn ⟨#[98]⟩ q2).getD zero32, hd := (hashIn ⟨#[104]⟩ q3).getD zero32 } ∧ Out (fun j => j = g) w w' := by
  have C1 := toHash_any w ⟨#[97]⟩ (by decide) q1 a1 p1 t1 z1
  have C2' := fun (W : World) (hb : Below w.heap.size w W) => toHash_any W ⟨#[98]⟩ (by decide) q2 a2 p2 (t2.below hb) z2
  have C3' := fun (W : World) (hb : Below w.heap.size w W) => toHash_any W ⟨#[104]⟩ (by decide) q3 a3 p3 (t3.below hb) z3
  have hla := hashIn_len ⟨#[97]⟩ q1
  have hlb := hashIn_len ⟨#[98]⟩ q2
  have hlh := hashIn_len ⟨#[104]⟩ q3
  generalize (hashIn ⟨#[97]⟩ q1).getD zero32 = la at *
  generalize (hashIn ⟨#[98]⟩ q2).getD zero32 = lb at *
  generalize (hashIn ⟨#[104]⟩ q3).getD zero32 = lh at *
  generalize (hashIn ⟨#[97]⟩ q1).isSome = f1 at *
  generalize (hashIn ⟨#[98]⟩ q2).isSome = f2 at *
  generalize (hashIn ⟨#[104]⟩ q3).isSome = f3 at *
  obtain ⟨k1, l1⟩ := q1
  obtain ⟨k2, l2⟩ := q2
  obtain ⟨k3, l3⟩ := q3
  simp only at C1 C2' C3' hr
  generalize l1.length = m1 at *
  generalize l2.length = m2 at *
  generalize l3.length = m3 at *
  clear t1 t2 t3 z1 z2 z3
  obtain ⟨Z, hZ⟩ : ∃ Z, Z = bvs zero32 := ⟨_, rfl⟩
  have zh := (zero_of_info zero_hash).1
  rw [show bvs (List.replicate 32 0) = Z from hZ.symm] at zh
  have hSt : ∀ (l : List UInt8), l.length = 32 → ∀ W : World, (storeH (.pointer (some ⟨W.heap.size, 0, none⟩)) (.agg (bvs l))).run Tryd.prog (W.alloc (.cells Z 69)) = .ok () (W.alloc (.cells (bvs l) 69)) := fun l hl W => by
    have := storeH_new W l zero32 hl (by decide)
    rw [show bvs zero32 = Z from hZ.symm] at this
    exact this
  have s1 := hSt la hla
  have s2 := hSt lb hlb
  have s3 := hSt lh hlh
  have HH := hid h
  have OK := hid ok
  have Hr := hid hr
  have C2' := hid C2'
  have C3' := hid C3'
  obtain ⟨Oa, hOa⟩ : ∃ O, O = bvs la := ⟨_, rfl⟩
  obtain ⟨Ob, hOb⟩ : ∃ O, O = bvs lb := ⟨_, rfl⟩
  obtain ⟨Oh, hOh⟩ : ∃ O, O = bvs lh := ⟨_, rfl⟩
  rw [← hOa] at s1
  rw [← hOb] at s2
  rw [← hOh] at s3
  have HOa := hid hOa
  have HOb := hid hOb
  have HOh := hid hOh
  have cells : Hid (∀ W, Below w.heap.size w W → ∀ j u, [Value.string k1, .slice a1 m1 p1, .string k2, .slice a2 m2 p2, .string k3, .slice a3 m3 p3][j]? = some u → W.cell? ⟨b, o + j, none⟩ = some u) := fun W hb j u hj => (hb.cell (p := ⟨b, o + j, none⟩) hbw).trans (hr j u hj)
  have c0 : w.cell? ⟨b, o, none⟩ = some (.string k1) := hr 0 _ rfl
  have c1 : w.cell? ⟨b, o + 1, none⟩ = some (.slice a1 m1 p1) := hr 1 _ rfl
  rw [← hOa] at C1
  have C1 := hid C1
  clear h ok hr hSt hZ hOa hOb hOh
  go_enter Tryd.func32, Tryd.ntmps32
  go_wp2_with fail
  refine C1.out.mono ?_
  rintro _ w1 ⟨rfl, hb1⟩
  have ge1 := hid hb1.size
  obtain ⟨w2, hw2⟩ : ∃ w2, w2 = w1.alloc (.cells Oa 69) := ⟨_, rfl⟩
  have b2 : Below w.heap.size w w2 := by rw [hw2]; exact hb1.alloc hb1.size _
  have c2 : w2.cell? ⟨b, o + 2, none⟩ = some (.string k2) := cells.out _ b2 2 _ rfl
  have c3 : w2.cell? ⟨b, o + 2 + 1, none⟩ = some (.slice a2 m2 p2) := cells.out _ b2 3 _ rfl
  have x2 : w2.heap[w1.heap.size]? = some (.cells Oa 69 (0, 0)) := by rw [hw2]; exact heap_alloc_new w1 _
  have C2 := hid (C2'.out w2 b2)
  rw [← HOb.out] at C2
  have HW2 := hid hw2
  rw [hw2] at c2 c3
  have X2 := hid x2
  have B2 := hid b2
  clear c0 c1 hw2 hb1 x2 b2 C1
  go_wp2_with fail
  rw [← HW2.out]
  refine C2.out.mono ?_
  rintro _ w3 ⟨rfl, hb3⟩
  have ge3 := hid (Nat.le_trans B2.out.size hb3.size)
  obtain ⟨w4, hw4⟩ : ∃ w4, w4 = w3.alloc (.cells Ob 69) := ⟨_, rfl⟩
  have b24 : Below w2.heap.size w2 w4 := by rw [hw4]; exact hb3.alloc hb3.size _
  have b4 : Below w.heap.size w w4 := Below.on' B2.out b24
  have c4 : w4.cell? ⟨b, o + 4, none⟩ = some (.string k3) := cells.out _ b4 4 _ rfl
  have c5 : w4.cell? ⟨b, o + 4 + 1, none⟩ = some (.slice a3 m3 p3) := cells.out _ b4 5 _ rfl
  have x4 : w4.heap[w3.heap.size]? = some (.cells Ob 69 (0, 0)) := by rw [hw4]; exact heap_alloc_new w3 _
  have C3 := hid (C3'.out w4 b4)
  rw [← HOh.out] at C3
  have HW4 := hid hw4
  rw [hw4] at c4 c5
  have X4 := hid x4
  have X24 := hid ((b24.block _ (heap_lt X2.out)).trans X2.out)
  have B4 := hid b4
  clear c2 c3 hw4 hb3 x4 b4 b24 C2 X2
  go_wp2_with fail
  rw [← HW4.out]
  refine C3.out.mono ?_
  rintro _ w5 ⟨rfl, hb5⟩
  have ge5 := hid (Nat.le_trans B4.out.size hb5.size)
  obtain ⟨w6, hw6⟩ : ∃ w6, w6 = w5.alloc (.cells Oh 69) := ⟨_, rfl⟩
  have b46 : Below w4.heap.size w4 w6 := by rw [hw6]; exact hb5.alloc hb5.size _
  have x6 : w6.heap[w5.heap.size]? = some (.cells Oh 69 (0, 0)) := by rw [hw6]; exact heap_alloc_new w5 _
  have HW6 := hid hw6
  have B46 := hid b46
  have X6 := hid x6
  have l24 := hid B4.out.size
  clear c4 c5 hb5 C3 x6 b46 hw6
  go_wp2_with fail
  rw [← HW6.out]
  obtain ⟨V0, hV0⟩ : ∃ V0, V0 = w6.drew := ⟨_, rfl⟩
  have bV : Below w6.heap.size w6 V0 := by rw [hV0]; exact (Below.refl _ w6).drew
  have b4V : Below w4.heap.size w4 V0 := Below.on' B46.out bV
  have bwV : Below w.heap.size w V0 := Below.on' B4.out b4V
  have hgl := HH.out.lt
  have hge1 : w.heap.size ≤ w1.heap.size := by
    exact ge1.out
  refine wp_act _ fun A hA => ?_
  have sz : A.tmps.size = 53 := by rw [hA]; rfl
  have e0 : A.eval (.tmp 0) = .pointer (some ⟨g, 0, none⟩) := by rw [hA]; rfl
  have e5 : A.eval (.tmp 5) = .pointer (some ⟨w1.heap.size, 0, none⟩) := by rw [hA]; rfl
  have e7 : A.eval (.tmp 7) = .pointer (some ⟨w3.heap.size, 0, none⟩) := by rw [hA]; rfl
  have e9 : A.eval (.tmp 9) = .pointer (some ⟨w5.heap.size, 0, none⟩) := by rw [hA]; rfl
  have hT : Three w1.heap.size w3.heap.size w5.heap.size la lb lh V0 := ⟨by rw [b4V.block _ (heap_lt X24.out), X24.out, HOa.out]; rfl, by rw [b4V.block _ (heap_lt X4.out), X4.out, HOb.out]; rfl, by rw [bV.block _ (heap_lt X6.out), X6.out, HOh.out]; rfl⟩
  have hne : w1.heap.size ≠ g ∧ w3.heap.size ≠ g ∧ w5.heap.size ≠ g := by
    have q3 := ge3.out
    have q5 := ge5.out
    omega
  refine wp_split _ (takeHashes_region sz e0 e5 e7 e9 hV0 (HH.out.below bwV) OK.out hla hlb hlh hT hne) ?_
  rintro _ V1 ⟨rfl, h1, o1⟩
  rw [hA]
  simp only [Act.put, List.setIfInBounds_toArray, List.set_cons_succ, List.set_cons_zero]
  have H1 := hid h1
  have O1 : Hid (Out (fun j => j = g) w V1) := (Out.of_below bwV).trans o1 (fun _ _ x => x)
  clear sz e0 e5 e7 e9 hA A h1 o1 hT hne
  cases f1 <;> cases f2 <;> cases f3
  all_goals
    go_wp2_with fail
    go_ret
    exact ⟨rfl, H1.out, O1.out⟩
end Go.Proofs.YthfmpebgmojcaaaDoor
