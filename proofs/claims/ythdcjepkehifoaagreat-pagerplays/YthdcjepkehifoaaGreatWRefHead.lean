/- YthdcjepkehifoaaGreatWRefLog + YthdcjepkehifoaaGreatWRefIx + YthdcjepkehifoaaGreatWRefPlace + YthdcjepkehifoaaGreatWRefTouched + YthdcjepkehifoaaGreatWRefHead -/
import Derived.Test.YthdcjepkehifoaaGreatWTwin
import Derived.Maps.AppendAt
/- The reference's log, by contracts: its smallest parts. -/
namespace Go.Proofs.YthdcjepkehifoaaGreat
open Go.RowKit Go.Maps
set_option linter.unusedVariables false
set_option maxRecDepth 20000

/-- A reference's log in memory: its own block m, its disk r. -/
structure RefLog (w : World) (B m r : Nat) (F L : Value) (vs us : List Value) (S G U : Nat) (fs : List (List UInt8)) (ls : List (Nat × List UInt8)) : Prop where
  obj : w.heap[m]? = some (.cells #[.pointer (some ⟨r, 0, none⟩), .int .i64 (S : Int), .int .i64 (G : Int), .int .i64 (U : Int)] 103 (0, 0))
  disk : RefAt w B r F L vs us fs ls
  bm : B ≤ m

theorem or_i64 (p q : UInt8) : bits .or .i64 (IntKind.i64.wrap (IntKind.i64.wrap (p.toNat : Int) * 256)) (IntKind.i64.wrap (q.toNat : Int)) = ((256 * p.toNat + q.toNat : Nat) : Int) := by
  have hp := p.toNat_lt
  have hq := q.toNat_lt
  have e1 : IntKind.i64.wrap (p.toNat : Int) = (p.toNat : Int) := by rw [IntKind.wrap_i64]; omega
  have e2 : IntKind.i64.wrap (q.toNat : Int) = (q.toNat : Int) := by rw [IntKind.wrap_i64]; omega
  have e3 : IntKind.i64.wrap ((p.toNat : Int) * 256) = ((256 * p.toNat : Nat) : Int) := by rw [IntKind.wrap_i64]; omega
  rw [e1, e2, e3]
  have h1 : (BitVec.ofInt 64 ((256 * p.toNat : Nat) : Int)).toNat = 256 * p.toNat := by
    rw [BitVec.ofInt_natCast, BitVec.toNat_ofNat]; exact Nat.mod_eq_of_lt (by omega)
  have h2 : (BitVec.ofInt 64 (q.toNat : Int)).toNat = q.toNat := by
    rw [BitVec.ofInt_natCast, BitVec.toNat_ofNat]; exact Nat.mod_eq_of_lt (by omega)
  show IntKind.i64.wrap ((BitVec.ofInt 64 ((256 * p.toNat : Nat) : Int) ||| BitVec.ofInt 64 (q.toNat : Int)).toNat : Int) = _
  rw [BitVec.toNat_or, h1, h2]
  have := Nat.two_pow_add_eq_or_of_lt (i := 8) (b := q.toNat) (by omega) p.toNat
  rw [show 256 * p.toNat ||| q.toNat = 256 * p.toNat + q.toNat from this.symm, IntKind.wrap_i64]
  omega

set_option maxHeartbeats 400000 in
theorem pair_any (x : List UInt8) (b o n cap i : Nat) (w : World) (hx : Bytes w (some ⟨b, o, none⟩) x) (hn : n = x.length) (hi : i + 1 < x.length) (lx : x.length ≤ 256) :
    Calls Tryz.prog 92 #[.slice (some ⟨b, o, none⟩) n cap, .int .i64 (i : Int)] w fun e w' => e = .returned (.int .i64 ((256 * (x[i]'(by omega)).toNat + x[i + 1].toNat : Nat) : Int)) ∧ Below w.heap.size w w' := by
  subst hn
  obtain ⟨b1, o1, ha, c0⟩ := hx i (by omega)
  cases ha
  obtain ⟨b1, o1, ha, c1⟩ := hx (i + 1) hi
  cases ha
  clear hx
  generalize x[i] = p at *
  generalize x[i + 1] = q at *
  have g0 : (i : Int) < (x.length : Int) := by omega
  have g1 : (i : Int) + 1 < (x.length : Int) := by omega
  have g2 : IntKind.i64.wrap ((i : Int) + 1) = (i : Int) + 1 := by rw [IntKind.wrap_i64]; omega
  have t1 : ((i : Int) + 1).toNat = i + 1 := by omega
  have g3 : (0 : Int) ≤ (i : Int) + 1 := by omega
  have g4 : (0 : Int) ≤ (i : Int) := by omega
  go_enter Tryz.func92, Tryz.ntmps92
  go_wp2
  go_region_held3 (fun w9 => w9.cell? ⟨b, o + i, none⟩ = some (.int .u8 (p.toNat : Int)) ∧ w9.cell? ⟨b, o + (i + 1), none⟩ = some (.int .u8 (q.toNat : Int))) (exact ⟨c0, c1⟩) (fail)
  go_wp2
  go_ret
  exact ⟨ret_int (or_i64 p q), undrew1 (Below.refl _ _)⟩

set_option maxHeartbeats 400000 in
theorem zeros_true (x : List UInt8) (b o n cap at0 : Nat) (w : World) (hx : Bytes w (some ⟨b, o, none⟩) x) (hn : n = x.length) (ha : at0 ≤ x.length) (lx : x.length ≤ 256) (hz : ∀ j (hj : j < x.length), at0 ≤ j → x[j] = 0) :
    Calls Tryz.prog 91 #[.slice (some ⟨b, o, none⟩) n cap, .int .i64 (at0 : Int)] w fun e w' => e = .returned (.bool true) ∧ w' = w := by
  subst hn
  have Hx := hid hx
  have Hz := hid hz
  clear hx hz
  go_enter Tryz.func91, Tryz.ntmps91
  go_wp2
  go_loopw [5] (fun i wr => ∃ k : Nat, at0 ≤ k ∧ k ≤ x.length ∧ i = .int .i64 k ∧ wr = w) (fun i _ => x.length - (intOf i).toNat)
  case atStart => exact ⟨at0, Nat.le_refl _, ha, rfl, rfl⟩
  case round =>
    obtain ⟨k, hk1, hk, rfl, rfl⟩ := hrel
    by_cases hlt : k < x.length
    · obtain ⟨b1, o1, ha, hc1⟩ := Hx.out k hlt
      cases ha
      rw [Hz.out k hlt hk1] at hc1
      go_wp2
      go_roundw
      case rel => exact ⟨k + 1, by omega, by omega, by go_num, trivial⟩
      case measure => simp [intOf]; omega
    · go_wp2
      go_ret
      exact ⟨rfl, rfl⟩

theorem RefLog.c0 {w : World} {B m r : Nat} {F L : Value} {vs us : List Value} {S G U : Nat} {fs : List (List UInt8)} {ls : List (Nat × List UInt8)} (h : RefLog w B m r F L vs us S G U fs ls) : w.cell? ⟨m, 0, none⟩ = some (.pointer (some ⟨r, 0, none⟩)) := cell_of_row _ _ 0 _ _ _ h.obj
theorem RefLog.c1 {w : World} {B m r : Nat} {F L : Value} {vs us : List Value} {S G U : Nat} {fs : List (List UInt8)} {ls : List (Nat × List UInt8)} (h : RefLog w B m r F L vs us S G U fs ls) : w.cell? ⟨m, 1, none⟩ = some (.int .i64 (S : Int)) := cell_of_row _ _ 1 _ _ _ h.obj
theorem RefLog.c2 {w : World} {B m r : Nat} {F L : Value} {vs us : List Value} {S G U : Nat} {fs : List (List UInt8)} {ls : List (Nat × List UInt8)} (h : RefLog w B m r F L vs us S G U fs ls) : w.cell? ⟨m, 2, none⟩ = some (.int .i64 (G : Int)) := cell_of_row _ _ 2 _ _ _ h.obj
theorem RefLog.c3 {w : World} {B m r : Nat} {F L : Value} {vs us : List Value} {S G U : Nat} {fs : List (List UInt8)} {ls : List (Nat × List UInt8)} (h : RefLog w B m r F L vs us S G U fs ls) : w.cell? ⟨m, 3, none⟩ = some (.int .i64 (U : Int)) := cell_of_row _ _ 3 _ _ _ h.obj
theorem RefLog.below {w w' : World} {B m r : Nat} {F L : Value} {vs us : List Value} {S G U : Nat} {fs : List (List UInt8)} {ls : List (Nat × List UInt8)} (h : RefLog w B m r F L vs us S G U fs ls) (hb : Below w.heap.size w w') : RefLog w' B m r F L vs us S G U fs ls :=
  ⟨(hb.block m (Array.getElem?_eq_some_iff.1 h.obj).1).trans h.obj, h.disk.below hb, h.bm⟩

set_option maxHeartbeats 800000 in
theorem rblock_any {w : World} {B m r : Nat} {F L : Value} {vs us : List Value} {S G U : Nat} {fs : List (List UInt8)} {ls : List (Nat × List UInt8)} (h : RefLog w B m r F L vs us S G U fs ls) (hok : ∀ c ∈ ls, c.1 < fs.length ∧ c.2.length = 256) (hf : ∀ p ∈ fs, p.length = 256) (hfl : fs.length ≤ 1024) (hls : ls.length ≤ 1000000) (n : Nat) (x : List UInt8) (hx : (psOf fs ls)[n]? = some x) :
    Calls Tryz.prog 83 #[.pointer (some ⟨m, 0, none⟩), .int .i64 (n : Int)] w fun e w' => ∃ v, e = .returned v ∧ w'.ownsRow w.heap.size 5 1 v x.length (cellsOf x) ∧ Below w.heap.size w w' := by
  have hn : n < fs.length := by
    have := (List.getElem?_eq_some_iff.1 hx).1
    rw [psOf_length] at this
    exact this
  have Hr := hid (refRead_ok h.disk hok hf hfl hls n hn x hx)
  have hm := h.c0
  clear h
  go_enter Tryz.func83, Tryz.ntmps83
  go_wp2_with (fail)
  refine Hr.out.mono ?_
  rintro e w1 ⟨v, rfl, ho, hb⟩
  go_wp2
  go_ret
  exact ⟨v, rfl, ho, hb⟩

set_option maxHeartbeats 400000 in
theorem rpages_any {w : World} {B m r : Nat} {F L : Value} {vs us : List Value} {S G U : Nat} {fs : List (List UInt8)} {ls : List (Nat × List UInt8)} (h : RefLog w B m r F L vs us S G U fs ls) (P : Nat) (hl : fs.length = S + 1 + P) (hm : fs.length ≤ 1024) :
    Calls Tryz.prog 18 #[.pointer (some ⟨m, 0, none⟩)] w fun e w' => e = .returned (.int .i64 (P : Int)) ∧ Below w.heap.size w w' := by
  have Hb := hid (refBlocks_any (h.disk.below (w' := w.drew) ⟨rfl, rfl, rfl, Nat.le_refl _, fun _ _ => rfl⟩))
  rw [hl] at Hb
  have c0 := h.c0
  have c1 := h.c1
  generalize hN : S + 1 + P = N at *
  have HN := hid hN
  have HP := hid (show N ≤ 1024 by omega)
  clear hN hl hm
  clear h
  go_enter Tryz.func18, Tryz.ntmps18
  go_wp2
  go_region_held3 (fun w9 => w9.cell? ⟨m, 0, none⟩ = some (.pointer (some ⟨r, 0, none⟩)) ∧ w9.cell? ⟨m, 1, none⟩ = some (.int .i64 (S : Int))) (exact ⟨c0, c1⟩)
    ((go_at_call 77; refine Hb.out.mono ?_; rintro e w3 ⟨rfl, rfl⟩))
  go_wp2
  go_ret
  exact ⟨ret_int (by have := HN.out; have := HP.out; simp only [IntKind.wrap_i64]; omega), undrew1 (Below.refl _ _)⟩
end Go.Proofs.YthdcjepkehifoaaGreat

/- What the reference reads in an index block. -/
namespace Go.Proofs.YthdcjepkehifoaaGreat
open Go.RowKit Go.Maps
set_option linter.unusedVariables false
set_option maxRecDepth 20000

theorem be2 (n : Nat) : be 2 n = [UInt8.ofNat (n / 256), UInt8.ofNat n] := rfl
theorem be2_pair (n : Nat) (h : n < 65536) : 256 * (UInt8.ofNat (n / 256)).toNat + (UInt8.ofNat n).toNat = n := by
  rw [UInt8.toNat_ofNat', UInt8.toNat_ofNat']
  omega
theorem pair_flat (ms : List Nat) (r : List UInt8) (i : Nat) (hi : i < ms.length) (h : ms[i] < 65536) : ∃ p q, (ms.flatMap (be 2) ++ r)[2 * i]? = some p ∧ (ms.flatMap (be 2) ++ r)[2 * i + 1]? = some q ∧ 256 * p.toNat + q.toNat = ms[i] := by
  induction ms generalizing i with
  | nil => simp at hi
  | cons m ms ih =>
    rw [List.flatMap_cons, be2]
    cases i with
    | zero => exact ⟨_, _, rfl, rfl, be2_pair m h⟩
    | succ i =>
      obtain ⟨p, q, h1, h2, h3⟩ := ih i (by simpa using hi) (by simpa using h)
      exact ⟨p, q, h1, h2, by simpa using h3⟩
theorem indexB_flat (ns : List Nat) : indexB ns = (ns.length :: ns).flatMap (be 2) ++ List.replicate (254 - 2 * ns.length) 0 := by
  unfold indexB ixB
  rw [List.flatMap_cons]
  simp
theorem index_pair (ns : List Nat) (hl : ns.length ≤ 100) (i : Nat) (hi : i < ns.length) (h : ns[i] < 65536) : ∃ p q, (indexB ns)[2 + 2 * i]? = some p ∧ (indexB ns)[2 + 2 * i + 1]? = some q ∧ 256 * p.toNat + q.toNat = ns[i] := by
  have := pair_flat (ns.length :: ns) (List.replicate (254 - 2 * ns.length) 0) (i + 1) (by simpa using hi) (by simpa using h)
  rw [← indexB_flat, show 2 * (i + 1) = 2 + 2 * i by omega] at this
  simpa using this
theorem index_count (ns : List Nat) (hl : ns.length ≤ 100) : ∃ p q, (indexB ns)[0]? = some p ∧ (indexB ns)[1]? = some q ∧ 256 * p.toNat + q.toNat = ns.length := by
  have := pair_flat (ns.length :: ns) (List.replicate (254 - 2 * ns.length) 0) 0 (by simp) (by simp; omega)
  rw [← indexB_flat] at this
  simpa using this
theorem index_zero (ns : List Nat) (hl : ns.length ≤ 100) (j : Nat) (hj : j < (indexB ns).length) (h : 2 + 2 * ns.length ≤ j) : (indexB ns)[j] = 0 := by
  have hlen : ((ns.length :: ns).flatMap (be 2)).length = 2 + 2 * ns.length := by rw [flat_be_length]; simp; omega
  have hj' := hj
  rw [indexB_length ns (by omega)] at hj'
  have e : (indexB ns)[j]? = some 0 := by
    rw [indexB_flat, List.getElem?_append_right (by omega), List.getElem?_replicate, if_pos (by omega)]
  rw [List.getElem?_eq_getElem hj] at e
  exact Option.some.inj e

/-- between two rounds of group -/
def GRel (w : World) (ns : List Nat) (k : Nat) (v : Value) (wr : World) : Prop := wr.ownsRow w.heap.size 3 1 v k (nums (ns.take k)) ∧ Below w.heap.size w wr

set_option maxHeartbeats 1600000 in
theorem group_ok {w : World} {B m r : Nat} {F L : Value} {vs us : List Value} {S G U : Nat} {fs : List (List UInt8)} {ls : List (Nat × List UInt8)} (h : RefLog w B m r F L vs us S G U fs ls) (hok : ∀ c ∈ ls, c.1 < fs.length ∧ c.2.length = 256) (hf : ∀ p ∈ fs, p.length = 256) (P : Nat) (hl : fs.length = S + 1 + P) (hfl : fs.length ≤ 1024) (hls : ls.length ≤ 1000000) (n : Nat) (ns : List Nat) (hx : (psOf fs ls)[n]? = some (indexB ns)) (hg : GoodIx P ns) (E : Nat) (hE : n + ns.length ≤ E) (hE2 : E ≤ 2000) :
    Calls Tryz.prog 93 #[.pointer (some ⟨m, 0, none⟩), .int .i64 (n : Int), .int .i64 (E : Int)] w fun e w' => ∃ v, e = .returned (.tuple #[v, .bool true]) ∧ w'.ownsRow w.heap.size 3 1 v ns.length (nums ns) ∧ Below w.heap.size w w' := by
  have h1 := hg.pos
  have h2 := hg.few
  have Hb := hid (rblock_any h hok hf hfl hls n (indexB ns) hx)
  have H := hid h
  have Hg := hid hg
  have Hl := hid hl
  rw [indexB_length ns (by omega)] at Hb
  have g1 : ¬ (ns.length : Int) < 1 := by omega
  have g2 : ¬ (100 : Int) < (ns.length : Int) := by omega
  have g3 : IntKind.i64.wrap ((n : Int) + (ns.length : Int)) = (n : Int) + (ns.length : Int) := by rw [IntKind.wrap_i64]; omega
  have g4 : ¬ (E : Int) < (n : Int) + (ns.length : Int) := by omega
  have g5 : IntKind.i64.wrap (2 * (ns.length : Int)) = 2 * (ns.length : Int) := by rw [IntKind.wrap_i64]; omega
  have g6 : IntKind.i64.wrap (2 + 2 * (ns.length : Int)) = ((2 + 2 * ns.length : Nat) : Int) := by rw [IntKind.wrap_i64]; omega
  clear h hok hf hx hg hl
  go_enter Tryz.func93, Tryz.ntmps93
  go_wp2_with (fail)
  refine Hb.out.mono ?_
  rintro e w1 ⟨v, rfl, ho, hb1⟩
  obtain ⟨gb, gc, rfl, hgc, hgb1, hgb2⟩ := row_form ho (by omega)
  have HB := hid (bytes_of_row ho (indexB_length ns (by omega)))
  have Hb1 := hid hb1
  obtain ⟨p0, p1, e0, e1, e2⟩ := index_count ns h2
  have hpa := pair_any (indexB ns) gb 0 256 gc 0 w1 HB.out (indexB_length ns (by omega)).symm (by rw [indexB_length ns (by omega)]; omega) (by rw [indexB_length ns (by omega)]; omega)
  rw [(List.getElem?_eq_some_iff.1 e0).2, (List.getElem?_eq_some_iff.1 e1).2, e2] at hpa
  have Hpa := hid hpa
  clear hpa e0 e1 e2 ho hb1 Hb
  go_wp2_with (fail)
  refine Hpa.out.mono ?_
  rintro e w2 ⟨rfl, hb2⟩
  have HB2 := hid (HB.out.keep (hb2.block gb hgb2))
  have Hz := hid (zeros_true (indexB ns) gb 0 256 gc (2 + 2 * ns.length) w2 HB2.out (indexB_length ns (by omega)).symm (by rw [indexB_length ns (by omega)]; omega) (by rw [indexB_length ns (by omega)]; omega) (fun j hj h => index_zero ns h2 j hj h))
  have Hb2 := hid (Hb1.out.trans (hb2.mono Hb1.out.size))
  have hgb3 : gb < w2.heap.size := Nat.lt_of_lt_of_le hgb2 hb2.size
  clear hb2 Hpa HB Hb1
  go_wp2_with (fail)
  refine Hz.out.mono ?_
  rintro e w3 ⟨rfl, rfl⟩
  clear Hz g1 g2 g3 g4 g5 g6
  have HG0 : Hid (GRel w3 ns 0 (.slice none 0 0) w3) := ⟨by rw [List.take_zero]; exact World.ownsRow_nil _ _ _ _, Below.refl _ _⟩
  have H3 := hid (H.out.below Hb2.out)
  go_wp2
  go_loopw [10, 11] (fun v i wr => ∃ k : Nat, k ≤ ns.length ∧ i = .int .i64 k ∧ GRel w3 ns k v wr) (fun _ i _ => ns.length - (intOf i).toNat)
  case atStart => exact ⟨0, Nat.zero_le _, rfl, HG0.out⟩
  case round =>
    obtain ⟨k, hk, rfl, hR⟩ := hrel
    have HR := hid hR
    obtain ⟨hown, hbel⟩ := hR
    clear HG0
    by_cases hlt : k < ns.length
    · have d1 : (k : Int) < (ns.length : Int) := by omega
      have hsz := hbel.size
      have HBr := hid (HB2.out.keep (hbel.block gb hgb3))
      have hP := Hg.out.lt _ (List.getElem_mem hlt)
      have hPl : P ≤ 1024 := by have := Hl.out; omega
      obtain ⟨p0, p1, e0, e1, e2⟩ := index_pair ns h2 k hlt (by omega)
      have hpa := pair_any (indexB ns) gb 0 256 gc (2 + 2 * k) wr HBr.out (indexB_length ns (by omega)).symm (by rw [indexB_length ns (by omega)]; omega) (by rw [indexB_length ns (by omega)]; omega)
      rw [(List.getElem?_eq_some_iff.1 e0).2, (List.getElem?_eq_some_iff.1 e1).2, e2] at hpa
      have Hpa := hid hpa
      have f1 : IntKind.i64.wrap (2 * (k : Int)) = 2 * (k : Int) := by rw [IntKind.wrap_i64]; omega
      have f2 : IntKind.i64.wrap (2 + 2 * (k : Int)) = ((2 + 2 * k : Nat) : Int) := by rw [IntKind.wrap_i64]; omega
      have Hown := hid hown
      have Hbel := hid hbel
      clear hpa e0 e1 e2 hown hbel
      go_wp2_with (fail)
      refine Hpa.out.mono ?_
      rintro e w4 ⟨rfl, hb4⟩
      have Hb4 := hid hb4
      have Hown4 := hid (own_below Hown.out hb4)
      have H4 := hid ((H3.out.below Hbel.out).below hb4)
      clear hb4 Hpa f1 f2
      have Hpg := hid (rpages_any H4.out P Hl.out hfl)
      obtain ⟨i0, hi0, hz0, hz1, hz2⟩ := info_parts Tryz.info3
      have Htk := hid (show nums (ns.take (k + 1)) = nums (ns.take k) ++ [.int .i64 (ns[k] : Int)] by unfold nums; rw [List.take_succ_eq_append_getElem hlt, List.map_append]; rfl)
      have Hup := hid (fun j (hj : j < k) => List.pairwise_iff_getElem.1 Hg.out.up j k (by omega) hlt hj)
      generalize ns[k] = x at *
      have d2 : ¬ (P : Int) ≤ (x : Int) := by omega
      rcases (show k = 0 ∨ ∃ j, k = j + 1 by cases k with | zero => exact .inl rfl | succ j => exact .inr ⟨j, rfl⟩) with rfl | ⟨j, rfl⟩
      · have d3 : ¬ (0 : Int) < ((0 : Nat) : Int) := by omega
        clear Hup
        go_wp2_with (fail)
        refine Hpg.out.mono ?_
        rintro e w5 ⟨rfl, hb5⟩
        have Hown5 := hid (own_below Hown4.out hb5)
        have Hb5 := hid ((Hbel.out.trans (Hb4.out.mono hsz)).trans (hb5.mono (Nat.le_trans hsz Hb4.out.size)))
        clear hb5 Hpg Hown4 Hb4
        go_wp2_with (at_builtin; refine wpList_append_own_at _ rfl _ _ 30 rfl w3.heap.size 3 i0 (.int .i64 0) 1 8 Tryz.underlying30 hi0 hz0 hz1 hz2 rfl (by decide) _ _ _ rfl (Hown5.out.alloc _) ⟨w5.heap.size, 0, none⟩ 1 1 [.int .i64 (x : Int)] rfl rfl (World.news_of_block (cs := #[.int .i64 (x : Int)]) (t := 3) (fr := (0, 0)) (heap_alloc_new w5 _)) (by simp [Value.oneCell']) (by unfold maxLen; omega) (by omega) (by rw [World.size_alloc]; have := Hb5.out.size; omega) ?_; intro v' w6 hown6 hgrow6 hnil6 hloc6)
        go_roundw
        case rel => exact ⟨0 + 1, by omega, by go_num, by rw [Htk.out]; exact hown6, (Hb5.out.alloc Hb5.out.size _).grown hgrow6 (by rw [World.size_alloc]; have := Hb5.out.size; omega) (fun j e => (Hown5.out.lt j e).1)⟩
        case measure => simp [intOf]; omega
      · have d3 : (0 : Int) < ((j + 1 : Nat) : Int) := by omega
        have d4 : IntKind.i64.wrap (((j + 1 : Nat) : Int) - 1) = (j : Int) := by rw [IntKind.wrap_i64]; omega
        have hup := Hup.out j (by omega)
        have hc := (nums_get (ns.take (j + 1)) j (by rw [List.length_take]; omega))
        rw [List.getElem_take] at hc
        generalize ns[j] = y at *
        have d5 : ¬ (x : Int) ≤ (y : Int) := by omega
        have Hc := hid hc
        clear Hup hup hc
        go_wp2_with (fail)
        refine Hpg.out.mono ?_
        rintro e w5 ⟨rfl, hb5⟩
        have Hown5 := hid (own_below Hown4.out hb5)
        have Hb5 := hid ((Hbel.out.trans (Hb4.out.mono hsz)).trans (hb5.mono (Nat.le_trans hsz Hb4.out.size)))
        clear hb5 Hpg Hown4 Hb4
        obtain ⟨og, oc, rfl, _, _⟩ := Hown5.out.form (by omega)
        have c1 := (Hown5.out.cellAt j (by omega)).trans Hc.out
        have d6 : (0 : Int) ≤ (j : Int) := by omega
        have d7 : (j : Int) < ((j + 1 : Nat) : Int) := by omega
        go_wp2_with (at_builtin; refine wpList_append_own_at _ rfl _ _ 30 rfl w3.heap.size 3 i0 (.int .i64 0) 1 8 Tryz.underlying30 hi0 hz0 hz1 hz2 rfl (by decide) _ _ _ rfl (Hown5.out.alloc _) ⟨w5.heap.size, 0, none⟩ 1 1 [.int .i64 (x : Int)] rfl rfl (World.news_of_block (cs := #[.int .i64 (x : Int)]) (t := 3) (fr := (0, 0)) (heap_alloc_new w5 _)) (by simp [Value.oneCell']) (by unfold maxLen; omega) (by omega) (by rw [World.size_alloc]; have := Hb5.out.size; omega) ?_; intro v' w6 hown6 hgrow6 hnil6 hloc6)
        go_roundw
        case rel => exact ⟨(j + 1) + 1, by omega, by go_num, by rw [Htk.out]; exact hown6, (Hb5.out.alloc Hb5.out.size _).grown hgrow6 (by rw [World.size_alloc]; have := Hb5.out.size; omega) (fun j e => (Hown5.out.lt j e).1)⟩
        case measure => simp [intOf]; omega
    · obtain rfl : k = ns.length := by omega
      have Hown := hid hown
      have Hbel := hid hbel
      rw [List.take_length] at Hown
      have d1 : ¬ (ns.length : Int) < (ns.length : Int) := by omega
      clear hown hbel
      go_wp2
      go_ret2
      exact ⟨_, rfl, ownsRow_base_a Hown.out Hb2.out.size, Hb2.out.trans (Hbel.out.mono Hb2.out.size)⟩
end Go.Proofs.YthdcjepkehifoaaGreat

/- place and Read of the reference's log. -/
namespace Go.Proofs.YthdcjepkehifoaaGreat
open Go.RowKit Go.Maps
set_option linter.unusedVariables false
set_option maxRecDepth 20000

/-- a whole reference's log -/
structure RefOk (w : World) (B m r : Nat) (F L : Value) (vs us : List Value) (S G : Nat) (gs : List (List Nat)) (P : Nat) (fs : List (List UInt8)) (ls : List (Nat × List UInt8)) : Prop where
  mem : RefLog w B m r F L vs us S G (usedOf gs) fs ls
  inv : LogInv (psOf fs ls) S G gs P
  ok : ∀ c ∈ ls, c.1 < fs.length ∧ c.2.length = 256
  full : ∀ p ∈ fs, p.length = 256
  few : ls.length ≤ 1000000
theorem RefOk.below {w w' : World} {B m r : Nat} {F L : Value} {vs us : List Value} {S G : Nat} {gs : List (List Nat)} {P : Nat} {fs : List (List UInt8)} {ls : List (Nat × List UInt8)} (h : RefOk w B m r F L vs us S G gs P fs ls) (hb : Below w.heap.size w w') : RefOk w' B m r F L vs us S G gs P fs ls := ⟨h.mem.below hb, h.inv, h.ok, h.full, h.few⟩
theorem RefOk.group {w : World} {B m r : Nat} {F L : Value} {vs us : List Value} {S G : Nat} {gs : List (List Nat)} {P : Nat} {fs : List (List UInt8)} {ls : List (Nat × List UInt8)} (h : RefOk w B m r F L vs us S G gs P fs ls) (hs rest : List (List Nat)) (ns : List Nat) (e : gs = hs ++ (ns :: rest)) :
    (1 ≤ ns.length ∧ ns.length ≤ 100 ∧ 1 + usedOf hs + ns.length ≤ usedOf gs ∧ ns.Nodup) ∧ Calls Tryz.prog 93 #[.pointer (some ⟨m, 0, none⟩), .int .i64 ((1 + usedOf hs : Nat) : Int), .int .i64 (usedOf gs : Int)] w fun e w' => ∃ v, e = .returned (.tuple #[v, .bool true]) ∧ w'.ownsRow w.heap.size 3 1 v ns.length (nums ns) ∧ Below w.heap.size w w' := by
  have hlen := h.inv.len
  have hmost := h.inv.most
  have hused := h.inv.used
  rw [psOf_length] at hlen hmost
  have hgr := h.inv.groups
  have hu : usedOf gs = usedOf hs + (ns.length + 1) + usedOf rest := by
    rw [e, show hs ++ ns :: rest = (hs ++ [ns]) ++ rest by simp, usedOf_append, usedOf_snoc]
    omega
  rw [e] at hgr
  obtain ⟨h1, h2, _⟩ := hgr.next
  exact ⟨⟨h2.pos, h2.few, by omega, h2.nodup⟩, group_ok h.mem h.ok h.full P hlen hmost h.few (1 + usedOf hs) ns h1 h2 (usedOf gs) (by omega) (by omega)⟩

theorem noted_step (f : Nat → Option Nat) (n : Nat) (ns : List Nat) (hn : ns.Nodup) (i : Nat) (hi : i < ns.length) (p d : Nat) : (noted f n (ns.take (i + 1)) p).getD d = if ns[i] = p then n + i else (noted f n (ns.take i) p).getD d := by
  have hni : ns[i] ∉ ns.take i := by
    intro hm
    obtain ⟨j, hj, e⟩ := List.getElem_of_mem hm
    rw [List.getElem_take] at e
    rw [List.length_take] at hj
    exact absurd (List.getElem_inj hn |>.1 e) (by omega)
  rw [List.take_succ_eq_append_getElem hi, noted_snoc _ _ _ _ hni]
  show (if p = ns[i] then some (n + (ns.take i).length) else noted f n (ns.take i) p).getD d = _
  by_cases h : p = ns[i]
  · rw [if_pos h, if_pos h.symm, List.length_take]
    show n + min i ns.length = _
    rw [Nat.min_eq_left (by omega)]
  · rw [if_neg h, if_neg (fun e => h e.symm)]

set_option maxHeartbeats 1600000 in
theorem place_any {w : World} {B m r : Nat} {F L : Value} {vs us : List Value} {S G : Nat} {gs : List (List Nat)} {P : Nat} {fs : List (List UInt8)} {ls : List (Nat × List UInt8)} (h : RefOk w B m r F L vs us S G gs P fs ls) (p : Nat) (hp : p < P) :
    Calls Tryz.prog 80 #[.pointer (some ⟨m, 0, none⟩), .int .i64 (p : Int)] w fun e w' => e = .returned (.int .i64 (placeOf S gs p : Int)) ∧ Below w.heap.size w w' := by
  have hlen := h.inv.len
  have hmost := h.inv.most
  have hused := h.inv.used
  have c1 := h.mem.c1
  have H := hid h
  have f1 : IntKind.i64.wrap ((S : Int) + 1) = (S : Int) + 1 := by rw [IntKind.wrap_i64]; omega
  have f2 : IntKind.i64.wrap ((S : Int) + 1 + (p : Int)) = ((S + 1 + p : Nat) : Int) := by rw [IntKind.wrap_i64]; omega
  have hSp : S + 1 + p ≤ 1024 := by omega
  have Hlen := hid hlen
  clear h hlen
  go_enter Tryz.func80, Tryz.ntmps80
  go_wp2
  clear f1 f2 c1
  go_loopw [5, 6] (fun av nv wr => ∃ hs rest, gs = hs ++ rest ∧ nv = .int .i64 ((1 + usedOf hs : Nat) : Int) ∧ av = .int .i64 (placeOf S hs p : Int) ∧ Below w.heap.size w wr) (fun _ nv _ => usedOf gs + 1 - (intOf nv).toNat)
  case atStart => exact ⟨[], gs, rfl, rfl, rfl, Below.refl _ _⟩
  case round =>
    obtain ⟨hs, rest, he, rfl, rfl, hB⟩ := hrel
    have HB := hid hB
    have c3 := (H.out.below hB).mem.c3
    clear hB
    cases rest with
    | nil =>
      rw [List.append_nil] at he
      subst he
      have d1 : ¬ ((1 + usedOf gs : Nat) : Int) ≤ (usedOf gs : Int) := by omega
      go_wp2
      go_ret
      exact ⟨rfl, HB.out⟩
    | cons ns rest =>
      obtain ⟨⟨n1, n2, n3, n4⟩, hG⟩ := (H.out.below HB.out).group hs rest ns he
      have HGr := hid hG
      have Hnd := hid n4
      have He := hid he
      have d1 : ((1 + usedOf hs : Nat) : Int) ≤ (usedOf gs : Int) := by omega
      generalize hN : usedOf hs = N at *
      have HN := hid hN
      obtain ⟨M, hM⟩ : ∃ M, 1 + N = M := ⟨_, rfl⟩
      have HM := hid hM
      rw [hM] at HGr d1 n3 ⊢
      have hM2 : M ≤ 1024 := by omega
      clear hG he n4 hN hM
      obtain ⟨V, rfl⟩ : ∃ V, V = wr := ⟨_, rfl⟩
      go_wp2_with (go_at_call 93; refine HGr.out.mono ?_; rintro e w2 ⟨gv, rfl, hrow, hb2⟩; have Hrow := hid hrow; have Hb2 := hid hb2; clear hrow hb2)
      obtain ⟨gg, gc, rfl, _, _⟩ := Hrow.out.form (by omega)
      have HP0 : Hid (placeOf S hs p = (noted (plOf hs) (M + 1) (ns.take 0) p).getD (S + 1 + p)) := hid (by rw [List.take_zero, noted_nil]; rfl)
      go_loopw [5, 9] (fun av iv wr => ∃ i : Nat, i ≤ ns.length ∧ iv = .int .i64 (i : Int) ∧ av = .int .i64 (((noted (plOf hs) (M + 1) (ns.take i) p).getD (S + 1 + p) : Nat) : Int) ∧ wr = w2) (fun _ iv _ => ns.length - (intOf iv).toNat)
      case atStart => exact ⟨0, Nat.zero_le _, rfl, by rw [HP0.out], rfl⟩
      case round =>
        obtain ⟨i, hi, rfl, rfl, rfl⟩ := hrel
        clear HP0
        by_cases hlt : i < ns.length
        · have g1 : (i : Int) < (ns.length : Int) := by omega
          have c5 := (Hrow.out.cellAt i (by omega)).trans (nums_get ns i hlt)
          have Hst := hid (noted_step (plOf hs) (M + 1) ns Hnd.out i hlt p (S + 1 + p))
          generalize ns[i] = x at *
          generalize (noted (plOf hs) (M + 1) (ns.take i) p).getD (S + 1 + p) = a0 at *
          have g2 : IntKind.i64.wrap ((M : Int) + 1) = (M : Int) + 1 := by rw [IntKind.wrap_i64]; omega
          have g3 : IntKind.i64.wrap ((M : Int) + 1 + (i : Int)) = (M : Int) + 1 + (i : Int) := by rw [IntKind.wrap_i64]; omega
          by_cases hx : x = p
          · have g4 : ((x : Int) == (p : Int)) = true := by rw [beq_iff_eq]; omega
            have Hx := hid hx
            clear hx
            go_wp2
            go_roundw
            case rel => exact ⟨i + 1, by omega, by go_num, by rw [Hst.out, if_pos Hx.out]; go_num, trivial⟩
            case measure => simp [intOf]; omega
          · have g4 : ((x : Int) == (p : Int)) = false := by rw [beq_eq_false_iff_ne]; omega
            have Hx := hid hx
            clear hx
            go_wp2
            go_roundw
            case rel => exact ⟨i + 1, by omega, by go_num, by rw [Hst.out, if_neg Hx.out], trivial⟩
            case measure => simp [intOf]; omega
        · obtain rfl : i = ns.length := by omega
          have g1 : ¬ (ns.length : Int) < (ns.length : Int) := by omega
          have g2 : IntKind.i64.wrap (1 + (ns.length : Int)) = 1 + (ns.length : Int) := by rw [IntKind.wrap_i64]; omega
          have g3 : IntKind.i64.wrap ((M : Int) + (1 + (ns.length : Int))) = (M : Int) + (1 + (ns.length : Int)) := by rw [IntKind.wrap_i64]; omega
          have Hpl : Hid ((noted (plOf hs) (M + 1) (ns.take ns.length) p).getD (S + 1 + p) = placeOf S (hs ++ [ns]) p) := hid (by
            unfold placeOf
            rw [List.take_length, plOf_snoc, HN.out, show N + 2 = M + 1 by have := HM.out; omega])
          rw [Hpl.out]
          have Hu := hid (usedOf_snoc hs ns)
          go_wp2
          go_roundw
          case rel => exact ⟨hs ++ [ns], rest, by rw [He.out]; simp, by rw [Hu.out, HN.out]; have := HM.out; go_num, rfl, HB.out.trans (Hb2.out.mono HB.out.size)⟩
          case measure => simp [intOf]; omega

theorem RefOk.page {w : World} {B m r : Nat} {F L : Value} {vs us : List Value} {S G : Nat} {gs : List (List Nat)} {P : Nat} {fs : List (List UInt8)} {ls : List (Nat × List UInt8)} (h : RefOk w B m r F L vs us S G gs P fs ls) (p : Nat) (hp : p < P) : (psOf fs ls)[placeOf S gs p]? = some (pageNow (psOf fs ls) S gs p) := by
  have hlt := placeOf_lt h.inv p hp
  unfold pageNow
  rw [List.getElem?_eq_getElem hlt]
  simp [List.getD, List.getElem?_eq_getElem hlt]

set_option maxHeartbeats 800000 in
theorem rread_ok {w : World} {B m r : Nat} {F L : Value} {vs us : List Value} {S G : Nat} {gs : List (List Nat)} {P : Nat} {fs : List (List UInt8)} {ls : List (Nat × List UInt8)} (h : RefOk w B m r F L vs us S G gs P fs ls) (p : Nat) (hp : p < P) :
    Calls Tryz.prog 29 #[.pointer (some ⟨m, 0, none⟩), .int .i64 (p : Int)] w fun e w' => ∃ v, e = .returned (.tuple #[v, .int .i64 0]) ∧ w'.ownsRow w.heap.size 5 1 v 256 (cellsOf (pageNow (psOf fs ls) S gs p)) ∧ Below w.heap.size w w' := by
  have hlen := h.inv.len
  have hmost := h.inv.most
  rw [psOf_length] at hlen hmost
  have Hpg := hid (rpages_any h.mem P hlen hmost)
  have H := hid h
  have d1 : ¬ (p : Int) < 0 := by omega
  have d2 : ¬ (P : Int) ≤ (p : Int) := by omega
  have Hx := hid (h.page p hp)
  have H256 := hid (pageNow_length h.inv p hp)
  clear h hlen
  go_enter Tryz.func29, Tryz.ntmps29
  go_wp2_with (fail)
  refine Hpg.out.mono ?_
  rintro e w1 ⟨rfl, hb1⟩
  have H1 := hid (H.out.below hb1)
  have Hb1 := hid hb1
  clear hb1 Hpg H
  go_wp2_with (fail)
  refine (place_any H1.out p hp).mono ?_
  rintro e w2 ⟨rfl, hb2⟩
  have H2 := hid (H1.out.below hb2)
  have Hb2 := hid (Hb1.out.trans (hb2.mono Hb1.out.size))
  have Hbk := hid (rblock_any H2.out.mem H2.out.ok H2.out.full hmost H2.out.few _ _ Hx.out)
  rw [H256.out] at Hbk
  clear hb2 H1 Hb1
  go_wp2_with (fail)
  refine Hbk.out.mono ?_
  rintro e w3 ⟨v, rfl, ho, hb3⟩
  have Ho := hid ho
  have Hb3 := hid (Hb2.out.trans (hb3.mono Hb2.out.size))
  clear ho hb3 Hbk
  go_wp2
  go_ret2
  exact ⟨v, rfl, ownsRow_base_a Ho.out Hb2.out.size, Hb3.out⟩
end Go.Proofs.YthdcjepkehifoaaGreat

/- Touched of the reference's log. -/
namespace Go.Proofs.YthdcjepkehifoaaGreat
open Go.RowKit Go.Maps
set_option linter.unusedVariables false
set_option maxRecDepth 20000

theorem touched_step (k : Nat) (gs : List (List Nat)) : touchedOf (k + 1) gs = if (plOf gs k).isSome = true then touchedOf k gs ++ [k] else touchedOf k gs := by
  unfold touchedOf
  rw [List.range_succ, List.filter_append]
  by_cases h : (plOf gs k).isSome = true
  · rw [if_pos h]; simp [h]
  · rw [if_neg h]; simp [h]
theorem touchedOf_len (P : Nat) (gs : List (List Nat)) : (touchedOf P gs).length ≤ P := by
  refine Nat.le_trans (List.length_filter_le _ _) ?_
  rw [List.length_range]; exact Nat.le_refl _
theorem place_low {ps : List (List UInt8)} {S G : Nat} {gs : List (List Nat)} {P : Nat} (h : LogInv ps S G gs P) (p : Nat) : placeOf S gs p ≤ S ↔ (plOf gs p).isSome = true := by
  unfold placeOf
  cases e : plOf gs p with
  | none => simp; omega
  | some q => have := plOf_le gs p q e; have := h.used; simp; omega

set_option maxHeartbeats 1600000 in
theorem rtouched_any {w : World} {B m r : Nat} {F L : Value} {vs us : List Value} {S G : Nat} {gs : List (List Nat)} {P : Nat} {fs : List (List UInt8)} {ls : List (Nat × List UInt8)} (h : RefOk w B m r F L vs us S G gs P fs ls) :
    Calls Tryz.prog 27 #[.pointer (some ⟨m, 0, none⟩)] w fun e w' => ∃ v, e = .returned v ∧ w'.ownsRow w.heap.size 3 1 v (touchedOf P gs).length (nums (touchedOf P gs)) ∧ Below w.heap.size w w' := by
  obtain ⟨i0, hi0, hz0, hz1, hz2⟩ := info_parts Tryz.info3
  have hlen := h.inv.len
  have hmost := h.inv.most
  rw [psOf_length] at hlen hmost
  have hP : P ≤ 1024 := by omega
  have H := hid h
  have Hlen := hid hlen
  have Hlow := hid (place_low h.inv)
  clear h hlen
  go_enter Tryz.func27, Tryz.ntmps27
  go_wp2
  go_loopw [3, 4] (fun v i wr => ∃ k : Nat, k ≤ P ∧ i = .int .i64 k ∧ wr.ownsRow w.heap.size 3 1 v (touchedOf k gs).length (nums (touchedOf k gs)) ∧ Below w.heap.size w wr) (fun _ i _ => P - (intOf i).toNat)
  case atStart => exact ⟨0, Nat.zero_le _, rfl, World.ownsRow_nil _ _ _ _, Below.refl _ _⟩
  case round =>
    obtain ⟨k, hk, rfl, hown, hB⟩ := hrel
    have Hown := hid hown
    have HB := hid hB
    have H1 := hid (H.out.below hB)
    have Hpg := hid (rpages_any H1.out.mem P Hlen.out hmost)
    clear hown hB
    by_cases hlt : k < P
    · have d1 : (k : Int) < (P : Int) := by omega
      have htl := touchedOf_len k gs
      have Hts := hid (touched_step k gs)
      have hlow := Hlow.out k
      have hplt := placeOf_lt H.out.inv k hlt
      go_wp2_with (fail)
      refine Hpg.out.mono ?_
      rintro e w1 ⟨rfl, hb1⟩
      have H2 := hid (H1.out.below hb1)
      have Hb1 := hid (HB.out.trans (hb1.mono HB.out.size))
      have Hown1 := hid (own_below Hown.out hb1)
      clear hb1 Hpg H1 HB Hown
      go_wp2
      have c1 := H2.out.mem.c1
      have Hpl := hid (place_any (H2.out.below (w' := w1.drew) ⟨rfl, rfl, rfl, Nat.le_refl _, fun _ _ => rfl⟩) k hlt)
      generalize placeOf S gs k = q at *
      by_cases hl : q ≤ S
      · have d2 : (q : Int) ≤ (S : Int) := by omega
        have Hs := hid (hlow.1 hl)
        clear hlow hl
        go_region_held3 (fun w9 => w9.cell? ⟨m, 1, none⟩ = some (.int .i64 (S : Int))) (first | exact c1 | exact q1.out)
          ((go_at_call 80; refine Hpl.out.mono ?_; rintro e w2 ⟨rfl, hb2'⟩; have hb2 := undrew1 hb2'; have q1 := hid (H2.out.below hb2).mem.c1; have Hb2 := hid (Hb1.out.trans (hb2.mono Hb1.out.size)); have Hown2 := hid (own_below Hown1.out hb2); clear hb2 hb2'))
        clear c1 q1 Hpl
        go_wp2_with (at_builtin; refine wpList_append_own_at _ rfl _ _ 30 rfl w.heap.size 3 i0 (.int .i64 0) 1 8 Tryz.underlying30 hi0 hz0 hz1 hz2 rfl (by decide) _ _ _ rfl (Hown2.out.alloc _) ⟨w2.heap.size, 0, none⟩ 1 1 [.int .i64 (k : Int)] rfl rfl (World.news_of_block (cs := #[.int .i64 (k : Int)]) (t := 3) (fr := (0, 0)) (heap_alloc_new w2 _)) (by simp [Value.oneCell']) (by unfold maxLen; omega) (by omega) (by rw [World.size_alloc]; have := Hb2.out.size; omega) ?_; intro v' w6 hown6 hgrow6 hnil6 hloc6)
        go_roundw
        case rel => exact ⟨k + 1, by omega, by go_num, by rw [Hts.out, if_pos Hs.out, List.length_append]; unfold nums at hown6 ⊢; rw [List.map_append]; exact hown6, (Hb2.out.alloc Hb2.out.size _).grown hgrow6 (by rw [World.size_alloc]; have := Hb2.out.size; omega) (fun j e => (Hown2.out.lt j e).1)⟩
        case measure => simp [intOf]; omega
      · have d2 : ¬ (q : Int) ≤ (S : Int) := by omega
        have Hs := hid (fun h => hl (hlow.2 h))
        clear hlow hl
        go_region_held3 (fun w9 => w9.cell? ⟨m, 1, none⟩ = some (.int .i64 (S : Int))) (first | exact c1 | exact q1.out)
          ((go_at_call 80; refine Hpl.out.mono ?_; rintro e w2 ⟨rfl, hb2'⟩; have hb2 := undrew1 hb2'; have q1 := hid (H2.out.below hb2).mem.c1; have Hb2 := hid (Hb1.out.trans (hb2.mono Hb1.out.size)); have Hown2 := hid (own_below Hown1.out hb2); clear hb2 hb2'))
        clear c1 q1 Hpl
        go_wp2
        go_roundw
        case rel => exact ⟨k + 1, by omega, by go_num, by rw [Hts.out, if_neg Hs.out]; exact Hown2.out, Hb2.out⟩
        case measure => simp [intOf]; omega
    · obtain rfl : k = P := by omega
      have d1 : ¬ (k : Int) < (k : Int) := by omega
      go_wp2_with (fail)
      refine Hpg.out.mono ?_
      rintro e w1 ⟨rfl, hb1⟩
      have Hb1 := hid (HB.out.trans (hb1.mono HB.out.size))
      have Hown1 := hid (own_below Hown.out hb1)
      clear hb1 Hpg
      go_wp2
      go_ret
      exact ⟨_, rfl, Hown1.out, Hb1.out⟩
end Go.Proofs.YthdcjepkehifoaaGreat

/- Small questions to the reference's log. -/
namespace Go.Proofs.YthdcjepkehifoaaGreat
open Go.RowKit Go.Maps
set_option linter.unusedVariables false
set_option maxRecDepth 20000

set_option maxHeartbeats 400000 in
theorem rused_any {w : World} {B m r : Nat} {F L : Value} {vs us : List Value} {S G U : Nat} {fs : List (List UInt8)} {ls : List (Nat × List UInt8)} (h : RefLog w B m r F L vs us S G U fs ls) :
    Calls Tryz.prog 20 #[.pointer (some ⟨m, 0, none⟩)] w fun e w' => e = .returned (.int .i64 (U : Int)) ∧ w' = w := by
  have c3 := h.c3
  clear h
  go_enter Tryz.func20, Tryz.ntmps20
  go_wp2
  go_ret
  exact ⟨rfl, rfl⟩
set_option maxHeartbeats 400000 in
theorem rgroups_any {w : World} {B m r : Nat} {F L : Value} {vs us : List Value} {S G U : Nat} {fs : List (List UInt8)} {ls : List (Nat × List UInt8)} (h : RefLog w B m r F L vs us S G U fs ls) :
    Calls Tryz.prog 24 #[.pointer (some ⟨m, 0, none⟩)] w fun e w' => e = .returned (.int .i64 (G : Int)) ∧ w' = w := by
  have c2 := h.c2
  clear h
  go_enter Tryz.func24, Tryz.ntmps24
  go_wp2
  go_ret
  exact ⟨rfl, rfl⟩
set_option maxHeartbeats 400000 in
theorem rneed_any (n : Int) (w : World) : Calls Tryz.prog 128 #[.int .i64 n] w fun e w' => e = .returned (.int .i64 (needOf n)) ∧ w' = w := by
  rcases (show n < 1 ∨ (¬ n < 1 ∧ 100 < n) ∨ (¬ n < 1 ∧ ¬ 100 < n) by omega) with h | ⟨h1, h2⟩ | ⟨h1, h2⟩
  · go_enter Tryz.func128, Tryz.ntmps128
    go_wp2
    go_ret
    exact ⟨ret_int (by unfold needOf; rw [if_pos (.inl h)]), rfl⟩
  · go_enter Tryz.func128, Tryz.ntmps128
    go_wp2
    go_ret
    exact ⟨ret_int (by unfold needOf; rw [if_pos (.inr h2)]), rfl⟩
  · have f1 : IntKind.i64.wrap (n + 1) = n + 1 := by rw [IntKind.wrap_i64]; omega
    go_enter Tryz.func128, Tryz.ntmps128
    go_wp2
    go_ret
    exact ⟨ret_int (by unfold needOf; rw [if_neg (by omega)]), rfl⟩

/-- the bytes of a number of eight, by shifts -/
theorem be8_get (G i : Nat) (hi : i < 8) : (be 8 G)[i]? = some (UInt8.ofNat (G / 2 ^ (56 - 8 * i))) := by
  have : ∀ m n i, i < m → (be m n)[i]? = some (UInt8.ofNat (n / 256 ^ (m - 1 - i))) := by
    intro m
    induction m with
    | zero => intro n i h; omega
    | succ m ih =>
      intro n i h
      rw [be]
      by_cases hm : i < m
      · rw [List.getElem?_append_left (by rw [be_length]; exact hm), ih _ _ hm, Nat.div_div_eq_div_mul]
        congr 3
        rw [show m + 1 - 1 - i = (m - 1 - i) + 1 by omega, Nat.pow_succ, Nat.mul_comm]
      · obtain rfl : i = m := by omega
        rw [List.getElem?_append_right (by rw [be_length]; exact Nat.le_refl _), be_length]
        simp
  rw [this 8 G i hi]
  congr 3
  rw [show (256 : Nat) = 2 ^ 8 by rfl, ← Nat.pow_mul]
  congr 1
  omega
end Go.Proofs.YthdcjepkehifoaaGreat
