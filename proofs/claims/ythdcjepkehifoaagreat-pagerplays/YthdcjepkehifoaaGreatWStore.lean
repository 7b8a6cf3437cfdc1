/- YthdcjepkehifoaaGreatWParseIx + YthdcjepkehifoaaGreatWStore -/
import Derived.Test.YthdcjepkehifoaaGreatWParse
/- parseIndex of package wal, by a contract. -/

namespace Go.Proofs.YthdcjepkehifoaaGreat
open Go.RowKit
set_option linter.unusedVariables false
set_option maxRecDepth 20000

def numsOf (x : List UInt8) (k : Nat) : List Nat := (List.range k).map fun i => numAt x (2 * (i + 1))
theorem numsOf_length (x : List UInt8) (k : Nat) : (numsOf x k).length = k := by simp [numsOf]
theorem numsOf_get (x : List UInt8) (k i : Nat) (h : i < (numsOf x k).length) : (numsOf x k)[i] = numAt x (2 * (i + 1)) := by simp [numsOf]
theorem index_read {x : List UInt8} {ns : List Nat} (hg : GoodIx 65536 ns) (h : x = indexB ns) : numAt x 0 = ns.length ∧ numsOf x ns.length = ns := by
  subst h
  refine ⟨ixB_count _ _ (by have := hg.few; omega), ?_⟩
  apply List.ext_getElem (numsOf_length _ _)
  intro i h1 h2
  rw [numsOf_get]
  exact ixB_at ns.length ns i h2 (hg.lt _ (List.getElem_mem h2))
theorem numAt_lt (x : List UInt8) (o : Nat) : numAt x o < 65536 := by
  have h := num_lt ((x.drop o).take 2)
  have : ((x.drop o).take 2).length ≤ 2 := by rw [List.length_take]; omega
  exact Nat.lt_of_lt_of_le h (Nat.pow_le_pow_right (by omega) this)
theorem nums_set (l : List Nat) (k n : Nat) : (nums l).set k (.int .i64 (n : Int)) = nums (l.set k n) := by unfold nums; rw [List.map_set]
theorem nums_get (l : List Nat) (k : Nat) (h : k < l.length) : (nums l)[k]? = some (.int .i64 (l[k] : Int)) := by simp [nums, h]
/-- numbers, read so far -/
def filled (l : List Nat) (k : Nat) : List Nat := l.take k ++ List.replicate (l.length - k) 0
theorem filled_length (l : List Nat) (k : Nat) (h : k ≤ l.length) : (filled l k).length = l.length := by unfold filled; rw [List.length_append, List.length_take, List.length_replicate]; omega
theorem filled_set (l : List Nat) (k : Nat) (h : k < l.length) : (filled l k).set k l[k] = filled l (k + 1) := by
  unfold filled
  rw [show l.length - k = (l.length - (k + 1)) + 1 by omega, List.replicate_succ, List.take_succ_eq_append_getElem h, List.set_append_right _ _ (by rw [List.length_take]; omega)]
  simp only [List.length_take]
  rw [show k - min k l.length = 0 by omega, List.set_cons_zero, List.append_assoc]
  rfl
theorem filled_all (l : List Nat) : filled l l.length = l := by simp [filled]
theorem filled_at (l : List Nat) (k i : Nat) (h : k ≤ l.length) (hi : i < k) : (filled l k)[i]? = some (l[i]'(by omega)) := by
  unfold filled
  rw [List.getElem?_append_left (by rw [List.length_take]; omega), List.getElem?_take_of_lt hi, List.getElem?_eq_getElem]
theorem made_nums (n : Nat) : (madeCells (Value.int .i64 0).cells (n * 1)).toList = nums (List.replicate n 0) := by rw [made_ints]; simp [nums]

/-- what parseIndex tells -/
def IxPost (x : List UInt8) (w : World) (e : Ending) (w' : World) : Prop :=
  (∃ ns g c, e = .returned (.tuple #[.slice (some ⟨g, 0, none⟩) ns.length c, .bool true]) ∧ x = indexB ns ∧ GoodIx 65536 ns ∧ w'.ownsRow w.heap.size 3 1 (.slice (some ⟨g, 0, none⟩) ns.length c) ns.length (nums ns) ∧ Below w.heap.size w w') ∨
  ((∀ ns, GoodIx 65536 ns → x ≠ indexB ns) ∧ ∃ v, e = .returned (.tuple #[v, .bool false]) ∧ Below w.heap.size w w')

set_option maxHeartbeats 800000 in
theorem parseIndex_few (x : List UInt8) (hl : x.length = 256) (b o cap : Nat) (w : World) (hB : Bytes w (some ⟨b, o, none⟩) x) (hcap : 256 ≤ cap) (hk : numAt x 0 < 1 ∨ 100 < numAt x 0) :
    Calls Tryz.prog 138 #[.slice (some ⟨b, o, none⟩) 256 cap] w (IxPost x w) := by
  have Hn := hid (number_part hB 0 2 cap (by omega) (by omega))
  rw [Nat.add_zero] at Hn
  have Hno : Hid (∀ ns, GoodIx 65536 ns → x ≠ indexB ns) := fun ns hg e => by
    have h1 := hg.pos
    have h2 := hg.few
    have h3 := (index_read hg e).1
    omega
  have e : num ((x.drop 0).take 2) = numAt x 0 := rfl
  rw [e] at Hn
  have h64 := numAt_lt x 0
  generalize numAt x 0 = K at *
  clear e hB
  have f1 : (2 : Int) ≤ (cap : Int) := by omega
  go_enter Tryz.func138, Tryz.ntmps138
  rcases hk with h | h
  · have d1 : ((K : Int) < 1) := by omega
    go_wp2_with (go_at_call 165; refine Hn.out.mono ?_; rintro e w1 ⟨rfl, rfl⟩)
    go_ret2
    exact .inr ⟨Hno.out, _, rfl, Below.refl _ _⟩
  · have d1 : ¬ ((K : Int) < 1) := by omega
    have d2 : (100 : Int) < (K : Int) := by omega
    go_wp2_with (go_at_call 165; refine Hn.out.mono ?_; rintro e w1 ⟨rfl, rfl⟩)
    go_ret2
    exact .inr ⟨Hno.out, _, rfl, Below.refl _ _⟩

set_option maxHeartbeats 800000 in
theorem parseIndex_many (x : List UInt8) (hl : x.length = 256) (b o cap : Nat) (w : World) (hB : Bytes w (some ⟨b, o, none⟩) x) (hcap : 256 ≤ cap) (h1 : 1 ≤ numAt x 0) (h2 : numAt x 0 ≤ 100) :
    Calls Tryz.prog 138 #[.slice (some ⟨b, o, none⟩) 256 cap] w (IxPost x w) := by
  obtain ⟨i0, hi, hz0, hz1, hz2⟩ := info_parts Tryz.info3
  have Hn := hid (number_part hB 0 2 cap (by omega) (by omega))
  rw [Nat.add_zero] at Hn
  have Hnum : Hid (∀ i u c, i < 127 → Below w.heap.size w u → Calls Tryz.prog 165 #[.slice (some ⟨b, o + 2 * (i + 1), none⟩) 2 c] u fun e w' => e = .returned (.int .u64 (numAt x (2 * (i + 1)) : Int)) ∧ w' = u) := fun i u c hi hu => number_part (hB.below hu) (2 * (i + 1)) 2 c (by omega) (by omega)
  have HB := hid hB
  have e : num ((x.drop 0).take 2) = numAt x 0 := rfl
  rw [e] at Hn
  have Hrd : Hid (∀ ns, GoodIx 65536 ns → x = indexB ns → numsOf x (numAt x 0) = ns) := fun ns hg e => by
    have h := index_read hg e
    rw [h.1]; exact h.2
  obtain ⟨N, hN⟩ : ∃ N, N = numsOf x (numAt x 0) := ⟨_, rfl⟩
  have Hnl : Hid (N.length = numAt x 0) := by show _ = _; rw [hN, numsOf_length]
  have Hng : Hid (∀ i (h : i < N.length), N[i] = numAt x (2 * (i + 1))) := fun i h => by subst hN; exact numsOf_get _ _ _ h
  have Hnlt : Hid (∀ n ∈ N, n < 65536) := fun n hn => by
    obtain ⟨i, hi, rfl⟩ := List.getElem_of_mem hn
    rw [Hng.out i hi]; exact numAt_lt _ _
  rw [← hN] at Hrd
  clear e hB hN
  have Hk := hid (numAt_lt x 0)
  generalize numAt x 0 = K at *
  have d1 : ¬ ((K : Int) < 1) := by omega
  have d2 : ¬ (100 : Int) < (K : Int) := by omega
  have f1 : (2 : Int) ≤ (cap : Int) := by omega
  have f0 : (0 : Int) ≤ (K : Int) := by omega
  go_enter Tryz.func138, Tryz.ntmps138
  go_wp2_with (first | (go_at_call 165; refine Hn.out.mono ?_; rintro e w1 ⟨rfl, rfl⟩) | (at_make; refine wpList_make_full _ rfl _ _ 30 rfl w1.heap.size 3 i0 (.int .i64 0) 1 Tryz.underlying30 hi hz0 hz1 .u64 .u64 _ _ K rfl rfl (by omega) (by omega) (by rw [hz2]; omega) (by unfold maxLen; omega) (by simp) ?_; intro w0 hown0 hgrow0; have Hown0 := hid hown0; have Hb0 := hid ((Below.refl _ w1).grown hgrow0 (Nat.le_refl _) (by simp)); clear hown0 hgrow0))
  have Hst : Hid (w0.ownsRow w1.heap.size 3 1 (.slice (some ⟨w1.heap.size, 0, none⟩) K K) K (nums (filled N 0))) := by
    have h := Hown0.out
    rw [made_nums] at h
    have e : filled N 0 = List.replicate K 0 := by unfold filled; rw [Hnl.out]; rfl
    rw [e]; exact h
  clear Hown0
  go_loopw [20] (fun i wr => ∃ k : Nat, k ≤ K ∧ i = .int .i64 k ∧ (N.take k).Pairwise (· < ·) ∧ wr.ownsRow w1.heap.size 3 1 (.slice (some ⟨w1.heap.size, 0, none⟩) K K) K (nums (filled N k)) ∧ Below w1.heap.size w1 wr) (fun i _ => K - (intOf i).toNat)
  case atStart => exact ⟨0, Nat.zero_le _, rfl, List.Pairwise.nil, Hst.out, Hb0.out⟩
  case round =>
    obtain ⟨k, hk, rfl, hup, hown, hbel⟩ := hrel
    have Hup := hid hup
    have Hown := hid hown
    have Hbel := hid hbel
    clear hup hown hbel Hst Hb0
    by_cases hlt : k < K
    · have hkn : k < N.length := by rw [Hnl.out]; exact hlt
      have hlen : Hid ((filled N k).length = K) := by show _ = _; rw [filled_length _ _ (by omega), Hnl.out]
      have c1 := (Hown.out.cellAt k (by omega)).trans (nums_get _ k (by rw [hlen.out]; exact hlt))
      have z1 := Hown.out.frozenAt k
      have Hs := hid (Hown.out.stored k (.int .i64 (N[k] : Int)))
      rw [nums_set, filled_set N k hkn] at Hs
      have HX : Hid (N.take (k + 1) = N.take k ++ [N[k]]) := List.take_succ_eq_append_getElem hkn
      have Hslot := hid (slot_any b o cap k wr (by omega) hcap)
      have Hnum' : Hid (∀ c, Calls Tryz.prog 165 #[.slice (some ⟨b, o + 2 * (k + 1), none⟩) 2 c] wr fun e w' => e = .returned (.int .u64 (N[k] : Int)) ∧ w' = wr) := fun c => by
        have := Hnum.out k wr c (by omega) Hbel.out
        rw [← Hng.out k hkn] at this
        exact this
      have hnk := Hnlt.out _ (List.getElem_mem hkn)
      have Hprev : Hid (∀ j, k = j + 1 → ∃ m, N[j]? = some m ∧ (wr.setCell ⟨w1.heap.size, k, none⟩ (.int .i64 (N[k] : Int))).cell? ⟨w1.heap.size, j, none⟩ = some (.int .i64 (m : Int)) ∧ m < 65536 ∧ (N[k] ≤ m → ¬ N.Pairwise (· < ·)) ∧ (m < N[k] → (N.take (k + 1)).Pairwise (· < ·))) := fun j hj => by
        have hjn : j < N.length := by omega
        refine ⟨N[j], List.getElem?_eq_getElem hjn, ?_, Hnlt.out _ (List.getElem_mem hjn), fun h hp => ?_, fun h => ?_⟩
        · rw [World.cell?_setCell_other _ _ _ _ (by simp <;> omega), Hown.out.cellAt j (by omega)]
          unfold nums
          rw [List.getElem?_map, filled_at N k j (by omega) (by omega)]
          rfl
        · have := List.pairwise_iff_getElem.1 hp j k hjn hkn (by omega)
          omega
        · rw [HX.out, List.pairwise_append]
          refine ⟨Hup.out, by simp, fun a ha c hc => ?_⟩
          rw [List.mem_singleton.1 hc]
          obtain ⟨i, hi', rfl⟩ := List.getElem_of_mem ha
          rw [List.length_take] at hi'
          rw [List.getElem_take]
          rcases Nat.lt_or_ge i j with h1 | h1
          · have := List.pairwise_iff_getElem.1 Hup.out i j (by rw [List.length_take]; omega) (by rw [List.length_take]; omega) h1
            rw [List.getElem_take, List.getElem_take] at this
            omega
          · have e : i = j := by omega
            subst e; exact h
      have Hone : Hid (k = 0 → (N.take (k + 1)).Pairwise (· < ·)) := fun e => by
        rw [HX.out, List.pairwise_append]
        refine ⟨Hup.out, by simp, fun a ha => ?_⟩
        rw [e] at ha
        simp at ha
      generalize N[k]'(by rw [Hnl.out]; exact hlt) = n at *
      generalize ((filled N k)[k]'(by rw [hlen.out]; exact hlt)) = c0 at c1
      have eN : IntKind.i64.wrap (n : Int) = (n : Int) := by rw [IntKind.wrap_i64]; omega
      have g0 : (0 : Int) ≤ (k : Int) := by omega
      have g1 : (k : Int) < (K : Int) := by omega
      go_wp2_with (first | (go_at_call 167; refine Hslot.out.mono ?_; rintro e w3 ⟨rfl, rfl⟩) | (go_at_call 165; refine (Hnum'.out _).mono ?_; rintro e w4 ⟨rfl, rfl⟩))
      have Hs1 := hid Hs.out.1
      have Hb1 := hid (Hbel.out.grown Hs.out.2 Hbel.out.size (by simp))
      have q1 : (w4.setCell ⟨w1.heap.size, k, none⟩ (.int .i64 (n : Int))).cell? ⟨w1.heap.size, k, none⟩ = some (.int .i64 (n : Int)) := World.cell?_setCell_same' _ _ _ (by rw [c1]; rfl)
      generalize w4.setCell ⟨w1.heap.size, k, none⟩ (.int .i64 (n : Int)) = V at *
      clear c1 z1 Hs
      by_cases hk0 : k = 0
      · have d3 : ¬ (0 : Int) < (k : Int) := by omega
        have Hup1 := hid (Hone.out hk0)
        go_quiet (fail)
        go_wp2
        go_roundw
        case rel => exact ⟨k + 1, by omega, by go_num, Hup1.out, own_below Hs1.out (below_drewN _ _ _), Hb1.out.trans (below_drewN _ _ _)⟩
        case measure => simp [intOf]; omega
      · obtain ⟨j, hj⟩ : ∃ j, k = j + 1 := ⟨k - 1, by omega⟩
        obtain ⟨m, hm0, hm1, hm2, hm3, hm4⟩ := Hprev.out j hj
        have d5 : 0 < k := by omega
        have d3 : decide ((0 : Int) < (k : Int)) = true := decide_eq_true (by omega)
        have ej : (k : Int) - 1 = (j : Int) := by omega
        have Hej := hid ej
        have g2 : (0 : Int) ≤ (k : Int) - 1 := by omega
        have g3 : (k : Int) - 1 < (K : Int) := by omega
        have hm1' : V.cell? ⟨w1.heap.size, ((k : Int) - 1).toNat, none⟩ = some (.int .i64 (m : Int)) := by rw [ej]; exact hm1
        have Hm3 := hid hm3
        have Hm4 := hid hm4
        have ek : k - 1 = j := by omega
        have hm1'' : V.cell? ⟨w1.heap.size, k - 1, none⟩ = some (.int .i64 (m : Int)) := by rw [ek]; exact hm1
        clear hm3 hm4 ej hm0 hk0 hj ek
        by_cases hle : n ≤ m
        · have d4 : (n : Int) ≤ (m : Int) := by omega
          have Hno := hid (Hm3.out hle)
          go_quiet (fail)
          go_wp2
          go_ret2
          exact .inr ⟨fun ns hg e => by have := Hrd.out ns hg e; rw [this] at Hno; exact Hno.out hg.up, _, rfl, Hb1.out.trans (below_drewN _ _ _)⟩
        · have d4 : ¬ (n : Int) ≤ (m : Int) := by omega
          have Hup1 := hid (Hm4.out (by omega))
          go_quiet (fail)
          go_wp2
          go_roundw
          case rel => exact ⟨k + 1, by omega, by go_num, Hup1.out, own_below Hs1.out (below_drewN _ _ _), Hb1.out.trans (below_drewN _ _ _)⟩
          case measure => simp [intOf]; omega
    · have e : k = K := by omega
      subst e
      have Hup2 : Hid (N.Pairwise (· < ·)) := by
        have h := Hup.out
        rw [List.take_of_length_le (by rw [Hnl.out]; omega)] at h
        exact h
      have Ho2 : Hid (wr.ownsRow w1.heap.size 3 1 (.slice (some ⟨w1.heap.size, 0, none⟩) k k) k (nums N)) := by
        have h := Hown.out
        rw [← Hnl.out, filled_all] at h
        rw [Hnl.out] at h
        exact h
      have Hnums : Hid (Nums wr (some ⟨w1.heap.size, 0, none⟩) N) := fun i hi => by
        refine ⟨w1.heap.size, 0, rfl, ?_⟩
        rw [Nat.zero_add, Ho2.out.cellAt i (by rw [Hnl.out] at hi; omega), nums_get N i hi]
      have Hix := hid (indexBytes_any N _ k wr Hnums.out (by rw [Hnl.out]; exact h2) Hnlt.out)
      rw [Hnl.out] at Hix
      have Hgood : Hid (GoodIx 65536 N) := ⟨by rw [Hnl.out]; exact h1, by rw [Hnl.out]; exact h2, Hup2.out, Hnlt.out⟩
      clear Hown Hnums
      go_wp2_with (first | (go_at_call 146; refine Hix.out.mono ?_; rintro e w3 ⟨gg, cc, rfl, ho3, hb3⟩; have Hb3 := hid (Hbel.out.trans (hb3.mono Hbel.out.size)); have He := hid (equal_any (indexB N) x _ _ cc cap w3 (bytes_of_row ho3 (indexB_length N (by rw [Hnl.out]; omega))) (HB.out.below Hb3.out)); rw [indexB_length N (by rw [Hnl.out]; omega), hl] at He; have Ho3 := hid (own_below Ho2.out hb3); clear ho3 hb3) | (go_at_call 166; refine He.out.mono ?_; rintro e w4 ⟨rfl, rfl⟩))
      go_ret2
      by_cases heq : indexB N = x
      · refine .inl ⟨N, w1.heap.size, k, ?_, heq.symm, Hgood.out, by rw [Hnl.out]; exact Ho3.out, Hb3.out⟩
        rw [Hnl.out, decide_eq_true heq]
        rfl
      · refine .inr ⟨fun ns hg e => heq ?_, .slice (some ⟨w1.heap.size, 0, none⟩) k k, ?_, Hb3.out⟩
        · rw [Hrd.out ns hg e]; exact e.symm
        · rw [decide_eq_false heq]
          rfl

theorem parseIndex_any (x : List UInt8) (hl : x.length = 256) (b o cap : Nat) (w : World) (hB : Bytes w (some ⟨b, o, none⟩) x) (hcap : 256 ≤ cap) :
    Calls Tryz.prog 138 #[.slice (some ⟨b, o, none⟩) 256 cap] w (IxPost x w) := by
  by_cases h : numAt x 0 < 1 ∨ 100 < numAt x 0
  · exact parseIndex_few x hl b o cap w hB hcap h
  · exact parseIndex_many x hl b o cap w hB hcap (by omega) (by omega)
end Go.Proofs.YthdcjepkehifoaaGreat

/- The disk of a log: pages, home, has, at of package wal's store; Need; each by a contract. -/
namespace Go.Proofs.YthdcjepkehifoaaGreat
open Go.RowKit
set_option linter.unusedVariables false
set_option maxRecDepth 20000

theorem row_form {w : World} {B n : Nat} {v : Value} {l : List UInt8} (h : w.ownsRow B 5 1 v n (cellsOf l)) (hn : 0 < n) : ∃ g c, v = .slice (some ⟨g, 0, none⟩) n c ∧ n ≤ c ∧ B ≤ g ∧ g < w.heap.size := by
  obtain ⟨g, c, rfl, hg, hc⟩ := h.form hn
  have hlt := (h.lt g rfl).2
  refine ⟨g, c, rfl, ?_, hg, hlt⟩
  rcases h.2 with ⟨e, _⟩ | ⟨g', c', cur, e, _, _, h1, _⟩
  · cases e
  · cases e; exact h1

set_option maxHeartbeats 400000 in
theorem pages_any {w : World} {B d g cap : Nat} {v : Value} {ps : List (List UInt8)} {ch : List (Nat × List UInt8)} (h : DiskAt w B d g cap v ps ch) (S : Int) (h0 : 0 ≤ S) (h1 : S ≤ 9223372036854775807) (hl : ps.length ≤ 1024) :
    Calls Tryz.prog 76 #[.agg #[.pointer (some ⟨d, 0, none⟩), .int .i64 S]] w fun e w' => e = .returned (.int .i64 ((ps.length : Int) - S - 1)) ∧ Below w.heap.size w w' := by
  have H := hid h
  clear h
  have f1 : IntKind.i64.wrap ((ps.length : Int) - S) = (ps.length : Int) - S := by rw [IntKind.wrap_i64]; omega
  have f2 : IntKind.i64.wrap ((ps.length : Int) - S - 1) = (ps.length : Int) - S - 1 := by rw [IntKind.wrap_i64]; omega
  go_enter Tryz.func76, Tryz.ntmps76
  go_wp2
  have Hb := hid ((Below.refl _ w).alloc (Nat.le_refl _) (.cells #[.pointer (some ⟨d, 0, none⟩), .int .i64 S] 98))
  have Hx := hid (heap_alloc_new w (.cells #[.pointer (some ⟨d, 0, none⟩), .int .i64 S] 98))
  generalize w.alloc (.cells #[.pointer (some ⟨d, 0, none⟩), .int .i64 S] 98) = W at *
  have c0 := cell_of_row _ _ 0 _ _ _ Hx.out
  have c1 := cell_of_row _ _ 1 _ _ _ Hx.out
  go_quiet ((go_at_call 129; refine Calls.quiet_of_same (blocks_any ((H.out.below Hb.out).below (below_drewN _ _ _)))))
  go_wp2
  go_ret
  exact ⟨rfl, Hb.out.trans (below_drewN _ _ _)⟩

set_option maxHeartbeats 400000 in
theorem home_any (a : Value) (S p : Nat) (w : World) (hS : S ≤ 1024) (hp : p ≤ 1024) (ha : a.oneCell' = true) :
    Calls Tryz.prog 104 #[.agg #[a, .int .i64 (S : Int)], .int .i64 (p : Int)] w fun e w' => e = .returned (.int .i64 ((S + 1 + p : Nat) : Int)) ∧ Below w.heap.size w w' := by
  have f1 : IntKind.i64.wrap ((S : Int) + 1) = (S : Int) + 1 := by rw [IntKind.wrap_i64]; omega
  have f2 : IntKind.i64.wrap ((S : Int) + 1 + (p : Int)) = (S : Int) + 1 + (p : Int) := by rw [IntKind.wrap_i64]; omega
  go_enter Tryz.func104, Tryz.ntmps104
  go_wp2
  go_ret
  exact ⟨ret_int (by omega), (Below.refl _ w).alloc (Nat.le_refl _) _⟩

set_option maxHeartbeats 400000 in
theorem has_any {w : World} {B d g cap : Nat} {v : Value} {ps : List (List UInt8)} {ch : List (Nat × List UInt8)} (h : DiskAt w B d g cap v ps ch) (S P : Nat) (hl : ps.length = S + 1 + P) (hm : ps.length ≤ 1024) (n : Int) :
    Calls Tryz.prog 81 #[.agg #[.pointer (some ⟨d, 0, none⟩), .int .i64 (S : Int)], .int .i64 n] w fun e w' => e = .returned (.bool (decide (0 ≤ n ∧ n < (P : Int)))) ∧ Below w.heap.size w w' := by
  have H := hid h
  clear h
  have Hb := hid ((Below.refl _ w).alloc (Nat.le_refl _) (.cells #[.pointer (some ⟨d, 0, none⟩), .int .i64 (S : Int)] 98))
  have Hp := hid (pages_any (H.out.below Hb.out) S (by omega) (by omega) hm)
  rw [show (ps.length : Int) - (S : Int) - 1 = (P : Int) by omega] at Hp
  by_cases h0 : 0 ≤ n
  · go_enter Tryz.func81, Tryz.ntmps81
    go_wp2_with (go_at_call 76; refine Hp.out.mono ?_; rintro e w1 ⟨rfl, hb1⟩)
    go_ret
    refine ⟨ret_bool ?_, Hb.out.trans (hb1.mono Hb.out.size)⟩
    simp [h0]
  · go_enter Tryz.func81, Tryz.ntmps81
    go_wp2
    go_ret
    refine ⟨ret_bool ?_, Hb.out⟩
    simp
    omega

/-- a page that was read -/
def GotPage (x : List UInt8) (w : World) (e : Ending) (w' : World) : Prop := ∃ g c, e = .returned (.slice (some ⟨g, 0, none⟩) 256 c) ∧ w'.ownsRow w.heap.size 5 1 (.slice (some ⟨g, 0, none⟩) 256 c) 256 (cellsOf x) ∧ 256 ≤ c ∧ Below w.heap.size w w'

set_option maxHeartbeats 400000 in
theorem at_any {w : World} {B d g cap : Nat} {v : Value} {ps : List (List UInt8)} {ch : List (Nat × List UInt8)} (h : DiskAt w B d g cap v ps ch) (S : Nat) (n : Nat) (hn : n < ps.length) :
    Calls Tryz.prog 133 #[.agg #[.pointer (some ⟨d, 0, none⟩), .int .i64 (S : Int)], .int .i64 (n : Int)] w (GotPage ps[n] w) := by
  have h256 : (ps[n]).length = 256 := h.full _ (List.getElem_mem _)
  have Hb := hid ((Below.refl _ w).alloc (Nat.le_refl _) (.cells #[.pointer (some ⟨d, 0, none⟩), .int .i64 (S : Int)] 98))
  have Hr := hid (read_ok (h.below Hb.out) n hn)
  rw [h256] at Hr
  clear h h256
  generalize ps[n] = x at *
  go_enter Tryz.func133, Tryz.ntmps133
  go_wp2_with (go_at_call 163; refine Hr.out.mono ?_; rintro e w1 ⟨v', rfl, ho, hb1, _⟩; obtain ⟨g1, c1, rfl, hc1, hg1, _⟩ := row_form ho (by omega); have Ho := hid ho; have Hb1 := hid hb1; clear ho hb1)
  go_ret
  exact ⟨g1, c1, rfl, Ho.out.mono Hb.out.size, hc1, Hb.out.trans (Hb1.out.mono Hb.out.size)⟩

/-- how many blocks of the log a group needs -/
def needOf (n : Int) : Int := if n < 1 ∨ 100 < n then 0 else n + 1
set_option maxHeartbeats 400000 in
theorem need_any (n : Int) (w : World) : Calls Tryz.prog 49 #[.int .i64 n] w fun e w' => e = .returned (.int .i64 (needOf n)) ∧ w' = w := by
  rcases (show n < 1 ∨ (¬ n < 1 ∧ 100 < n) ∨ (¬ n < 1 ∧ ¬ 100 < n) by omega) with h | ⟨h1, h2⟩ | ⟨h1, h2⟩
  · go_enter Tryz.func49, Tryz.ntmps49
    go_wp2
    go_ret
    exact ⟨ret_int (by unfold needOf; rw [if_pos (.inl h)]), rfl⟩
  · go_enter Tryz.func49, Tryz.ntmps49
    go_wp2
    go_ret
    exact ⟨ret_int (by unfold needOf; rw [if_pos (.inr h2)]), rfl⟩
  · have f1 : IntKind.i64.wrap (n + 1) = n + 1 := by rw [IntKind.wrap_i64]; omega
    go_enter Tryz.func49, Tryz.ntmps49
    go_wp2
    go_ret
    exact ⟨ret_int (by unfold needOf; rw [if_neg (by omega)]), rfl⟩
end Go.Proofs.YthdcjepkehifoaaGreat
