/- YthdcjepkehifoaaGreatWTouched + YthdcjepkehifoaaGreatWCheck + YthdcjepkehifoaaGreatWOne -/
import Derived.Test.YthdcjepkehifoaaGreatWTwin
/- Touched of package wal, by a contract: the pages that the log has, rising. -/
namespace Go.Proofs.YthdcjepkehifoaaGreat
open Go.RowKit Go.Maps Go.Sort Go.Shelf
set_option linter.unusedVariables false
set_option maxRecDepth 20000

theorem sorts_int (m : Nat) : AnyZI.SortsIn Tryz.prog Tryz.sortedA_ren Fence.wide m :=
  ⟨fun blk off cap ss W hH hblk hsz => callsIn_wide.2 (AnyM.slices_Sort_int Tryz.sortA blk off cap ss W hH hblk hsz),
   fun p cap W => callsIn_wide.2 (AnyM.slices_Sort_int_none Tryz.sortA p cap W)⟩

/-- numbers as values -/
def natCells (t : List Nat) : List Value := t.map fun (p : Nat) => Value.int .i64 (p : Int)
/-- the keys of a map of places, rising -/
theorem keys_sorted {w : World} {mb n : Nat} {D : DataW Unit} {pl : Nat → Option Nat} (hown : w.ownsMap Tryz.prog 3 (plainElem Tryz.prog 3) mb n D) (hh : ∀ x : Int, Maps.has D (.int .i64 x) = (decide (0 ≤ x) && (pl x.toNat).isSome)) (t : List Nat) (ht : t.Pairwise (· < ·)) (hm : ∀ p, p ∈ t ↔ (pl p).isSome = true) (ss : List Int) (hs : ss.Perm (intKeys D)) :
    ss.length = t.length ∧ (ss.mergeSort (fun x y => decide (x ≤ y))).map encZ = natCells t := by
  have hup : (t.map fun (p : Nat) => (p : Int)).Pairwise (fun a b => a < b) := by
    rw [List.pairwise_map]
    exact ht.imp (fun h => by omega)
  have hc : CollectedI D (fun _ => false) (t.map fun (p : Nat) => (p : Int)) := by
    refine ⟨hup.imp (fun h => by omega), fun x => ?_⟩
    rw [hh x, List.mem_map]
    constructor
    · rintro ⟨p, hp, rfl⟩
      have := (hm p).1 hp
      simp [this]
    · rintro ⟨h1, _⟩
      rw [Bool.and_eq_true, decide_eq_true_eq] at h1
      exact ⟨x.toNat, (hm _).2 h1.2, by omega⟩
  have hp := hc.perm hown intKeyed Tryz.underlying3 (fun _ => rfl)
  have e := mergeSort_of_perm_i (hs.trans hp.symm)
  refine ⟨by rw [(hs.trans hp.symm).length_eq, List.length_map], ?_⟩
  show (ss.mergeSort leI).map encZ = _
  rw [e, List.mergeSort_of_pairwise (hup.imp (fun h => by show decide _ = true; rw [decide_eq_true_eq]; omega)), List.map_map]
  rfl

set_option maxHeartbeats 1600000 in
theorem touched_any {w : World} {B l d g cap mb n : Nat} {v : Value} {S G U : Nat} {pl : Nat → Option Nat} {ps : List (List UInt8)} {ch : List (Nat × List UInt8)} (h : LogMem w B l d g cap mb n v S G U pl ps ch) (hn : n ≤ 1000000) (t : List Nat) (ht : t.Pairwise (· < ·)) (hm : ∀ p, p ∈ t ↔ (pl p).isSome = true) :
    Calls Tryz.prog 26 #[.pointer (some ⟨l, 0, none⟩)] w fun e w' => ∃ v, e = .returned v ∧ w'.ownsRow w.heap.size 3 1 v t.length (natCells t) ∧ Below w.heap.size w w' := by
  obtain ⟨D, hown, hh, _⟩ := h.map
  have c4 := h.c4
  refine (callsIn_wide (n := 6)).1 ?_
  have hbl := hown.lt
  have hsz := hown.size_le
  have hseq : SeqGives Fence.wide 2 Tryz.prog 132 #[.pointer (some ⟨w.heap.size, 0, none⟩)] encZ (fun ss => ss.Perm (intKeys D)) (Maps.size D) (w.alloc (.cells #[.map (some mb)] 99)) :=
    AnyZI.keys_gives (ρ := Tryz.keysA_ren) { Tryz.keysA with } Fence.wide _ trivial rfl (by omega) w.heap.size mb n D _ (by simp) (by simp) (by
      obtain ⟨es, clock, hb, Ft, hs, hD⟩ := hown
      exact ⟨es, clock, (Below.heap_alloc _ _ mb hbl).trans hb, Ft, hs, hD⟩)
  have cK : ∀ mb W, CallsIn Fence.wide 5 Tryz.prog 79 #[.map mb] W fun e w' => e = .returned (.func (.func 132) #[] #[.pointer (some ⟨W.heap.size, 0, none⟩)]) ∧ w' = W.alloc (.cells #[.map mb] 99) := fun mb W => AnyZI.keys_in Tryz.keysA Fence.wide 5 trivial rfl mb W
  have cS := AnyZI.sorted_in Tryz.sortedA Fence.wide 5 trivial trivial trivial trivial rfl (by omega) (sorts_int _) (enters_of Tryz.func131 (by kernel_rfl) rfl) 132 #[.pointer (some ⟨w.heap.size, 0, none⟩)] trivial (enters_of Tryz.func132 (by kernel_rfl) rfl) _ _ (by unfold maxLen; omega) (by omega) _ hseq
  change CallsIn _ _ Tryz.prog 78 _ _ _ at cS
  have hfK : Fence.wide.fn 79 := trivial
  have hfS : Fence.wide.fn 78 := trivial
  have Hown := hid hown
  have Hh := hid hh
  have Hm := hid hm
  clear hown hh hseq hsz h hm
  refine callsIn_of_wp Tryz.func26 rfl trivial ?_ rfl
  simp only [Tryz.ntmps26, List.size_toArray, List.length_cons, List.length_nil, Nat.reduceAdd, Nat.reduceSub, Array.replicate_succ, Array.replicate_zero, List.push_toArray, List.append_toArray, List.nil_append, List.cons_append]
  gi_wp2_with (first
    | (gi_at_call 79; refine (cK _ _).mono ?_; rintro e w' ⟨rfl, rfl⟩)
    | (gi_at_call 78; refine cS.mono ?_; rintro e w' ⟨v, ss, rfl, hS, hrow, hnil, hb⟩))
  go_ret
  obtain ⟨e1, e2⟩ := keys_sorted Hown.out Hh.out t ht Hm.out ss hS
  rw [e1, e2] at hrow
  exact ⟨v, rfl, ownsRow_base_a hrow (by simp), ((Below.refl _ w).alloc (Nat.le_refl _) _).trans (hb.mono (by simp))⟩
end Go.Proofs.YthdcjepkehifoaaGreat

/- Checkpoint of package wal, by contracts. -/

namespace Go.Proofs.YthdcjepkehifoaaGreat
open Go.RowKit Go.Maps
set_option linter.unusedVariables false
set_option maxRecDepth 20000

theorem run_clear_map (w : World) (t ty : TypeId) {k e : TypeId} (ht : Tryz.prog.underlying t = some (.map k e)) (mb : Nat) (es : Array MapEntry) (clock : Nat) (hb : w.heap[mb]? = some (.map es clock)) :
    (Builtin.clear_ #[t] ty #[.map (some mb)]).run Tryz.prog w = .ok (.tuple #[]) { w with heap := w.heap.setIfInBounds mb (.map #[] clock) } := by
  simp [Builtin.clear_, run_underlying ht, getObj, setObj, Sem.run, hb]
theorem cleared_grown (w : World) (mb : Nat) (o : Obj) : w.grownBy { w with heap := w.heap.setIfInBounds mb o } (some mb) :=
  ⟨rfl, rfl, rfl, by simp, fun k hk hne => by
    show (w.heap.setIfInBounds mb o)[k]? = _
    rw [Array.getElem?_setIfInBounds_ne (fun e => hne (by rw [e]))]⟩
theorem LogMem.cleared {w : World} {B l d g cap mb n : Nat} {v : Value} {S G U : Nat} {pl : Nat → Option Nat} {ps : List (List UInt8)} {ch : List (Nat × List UInt8)} (h : LogMem w B l d g cap mb n v S G U pl ps ch) (t ty : TypeId) {k e : TypeId} (ht : Tryz.prog.underlying t = some (.map k e)) :
    ∃ w', (Builtin.clear_ #[t] ty #[.map (some mb)]).run Tryz.prog w = .ok (.tuple #[]) w' ∧ LogMem w' B l d g cap mb 0 v S G U (fun _ => none) ps ch ∧ Out (fun k => k = mb) w w' := by
  obtain ⟨D, ⟨es, clock, hb, r⟩, _⟩ := h.map
  have hg := cleared_grown w mb (.map #[] clock)
  have hlt : mb < w.heap.size := (Array.getElem?_eq_some_iff.1 hb).1
  refine ⟨_, run_clear_map w t ty ht mb es clock hb, h.remap hg ⟨.map [], ⟨#[], clock, ?_, ⟨by simp, MapKept.stamped_empty clock, by simp⟩, Nat.le_refl _, rfl⟩, fun x => by simp [Maps.has], fun k q h => by cases h⟩, hg.os, hg.tape, hg.output, hg.size, fun k hk hne => hg.block k hk (fun e => hne (by cases e; rfl))⟩
  show (w.heap.setIfInBounds mb (.map #[] clock))[mb]? = _
  rw [Array.getElem?_setIfInBounds_self_of_lt hlt]

set_option maxHeartbeats 400000 in
theorem check_empty {w : World} {B l d g cap mb n : Nat} {v : Value} {S G : Nat} {pl : Nat → Option Nat} {ps : List (List UInt8)} {ch : List (Nat × List UInt8)} (h : LogMem w B l d g cap mb n v S G 0 pl ps ch) :
    Calls Tryz.prog 50 #[.pointer (some ⟨l, 0, none⟩)] w fun e w' => e = .returned (.int .i64 0) ∧ w' = w := by
  have c1 := h.c1
  clear h
  go_enter Tryz.func50, Tryz.ntmps50
  go_wp2
  go_ret
  exact ⟨rfl, rfl⟩

theorem homeWs_take (S : Nat) (f : Nat → List UInt8) (t : List Nat) (k : Nat) (hk : k < t.length) : homeWs S f (t.take (k + 1)) = homeWs S f (t.take k) ++ [(S + 1 + t[k], f t[k])] := by
  unfold homeWs
  rw [List.take_succ_eq_append_getElem hk, List.map_append]
  rfl
theorem home_low (fs : List (List UInt8)) (ls : List (Nat × List UInt8)) (S : Nat) (f : Nat → List UInt8) (t : List Nat) (q : Nat) (hq : q ≤ S) : (psOf fs (ls ++ homeWs S f t))[q]? = (psOf fs ls)[q]? := by
  rw [psOf_append, psOf_far]
  intro c hc
  obtain ⟨n, _, rfl⟩ := homeWs_mem hc
  show S + 1 + n ≠ q
  omega
/-- between two rounds of Checkpoint -/
def CRel (w : World) (B l d g cap mb n : Nat) (v : Value) (S G U : Nat) (pl : Nat → Option Nat) (fs : List (List UInt8)) (ls : List (Nat × List UInt8)) (f : Nat → List UInt8) (t : List Nat) (k : Nat) (wr : World) : Prop :=
  ∃ v', LogMem wr B l d g cap mb n v' S G U pl (psOf fs (ls ++ homeWs S f (t.take k))) (chOf fs (ls ++ homeWs S f (t.take k))) ∧ NewV w v v' ∧ Out (logBlock l d g mb v) w wr

set_option maxHeartbeats 1600000 in
theorem check_any {w : World} {B l d g cap mb n : Nat} {v : Value} {S G U : Nat} {pl : Nat → Option Nat} {fs : List (List UInt8)} {ls : List (Nat × List UInt8)} (h : LogMem w B l d g cap mb n v S G U pl (psOf fs ls) (chOf fs ls)) (P : Nat) (hl : fs.length = S + 1 + P) (hm : fs.length ≤ 1024) (hU : 0 < U) (hG : G < 9223372036854775808) (hls : ls.length ≤ 900000) (hn : n ≤ 1000000) (hbase : B ≤ w.heap.size)
    (t : List Nat) (ht : t.Pairwise (· < ·)) (hmem : ∀ p, p ∈ t ↔ (pl p).isSome = true) (f : Nat → List UInt8) (hf : ∀ p ∈ t, p < P ∧ (f p).length = 256 ∧ ∃ q, pl p = some q ∧ q ≤ S ∧ (psOf fs ls)[q]? = some (f p)) (htl : t.length ≤ 1024) :
    Calls Tryz.prog 50 #[.pointer (some ⟨l, 0, none⟩)] w fun e w' => e = .returned (.int .i64 0) ∧ ∃ v', LogMem w' B l d g cap mb 0 v' S G 0 (fun _ => none) (psOf fs (ls ++ (homeWs S f t ++ [(0, headB G 0)]))) (chOf fs (ls ++ (homeWs S f t ++ [(0, headB G 0)]))) ∧ NewV w v v' ∧ Out (logBlock l d g mb v) w w' := by
  have c1 := h.c1
  have d1 : ((U : Int) == 0) = false := by rw [beq_eq_false_iff_ne]; omega
  have Hto := hid (touched_any h hn t ht hmem)
  have H := hid h
  have Hf := hid hf
  have Hl := hid hl
  clear h hf hl ht hmem
  go_enter Tryz.func50, Tryz.ntmps50
  go_wp2_with (fail)
  refine Hto.out.mono ?_
  rintro e w1 ⟨vt, rfl, hrow, hb1⟩
  obtain ⟨ta, tc, rfl⟩ : ∃ ta tc, vt = .slice ta t.length tc := by
    rcases hrow.2 with ⟨h1, h2⟩ | ⟨g, cap, _, h1, _⟩
    · exact ⟨none, 0, by rw [h1, h2]⟩
    · exact ⟨_, _, h1⟩
  have Hrow := hid hrow
  have Hb1 := hid hb1
  have HR0 : Hid (CRel w1 B l d g cap mb n v S G U pl fs ls f t 0 w1) := ⟨v, by
    have := H.out.below hb1
    rw [List.take_zero]
    show LogMem _ _ _ _ _ _ _ _ _ _ _ _ _ (psOf fs (ls ++ [])) (chOf fs (ls ++ []))
    rw [List.append_nil]
    exact this, NewV.refl _ _, Out.of_below (Below.refl _ _)⟩
  clear hrow hb1 c1 Hto
  go_wp2
  go_loopw [16] (fun i wr => ∃ k : Nat, k ≤ t.length ∧ i = .int .i64 k ∧ CRel w1 B l d g cap mb n v S G U pl fs ls f t k wr) (fun i _ => t.length - (intOf i).toNat)
  case atStart => exact ⟨0, Nat.zero_le _, rfl, HR0.out⟩
  case round =>
    obtain ⟨k, hk, rfl, hR⟩ := hrel
    have HR := hid hR
    clear hR HR0
    obtain ⟨v1, hM, hnv, hOw⟩ := HR.out
    have hlv := fun j hj => (H.out.lts j hj).2
    have HO := hid hOw
    have hs1 := Hb1.out.size
    by_cases hlt : k < t.length
    · obtain ⟨gt, ct, e1, _, _⟩ := Hrow.out.form (by omega)
      obtain ⟨rfl, rfl⟩ : ta = some ⟨gt, 0, none⟩ ∧ tc = ct := by cases e1; exact ⟨rfl, rfl⟩
      have hgt := Hrow.out.lt gt rfl
      have hcell : wr.cell? ⟨gt, k, none⟩ = some (.int .i64 (t[k] : Int)) := by
        have h1 := Hrow.out.cellAt k (by omega)
        rw [show (natCells t)[k]? = some (.int .i64 (t[k] : Int)) by unfold natCells; rw [List.getElem?_map, List.getElem?_eq_getElem hlt]; rfl] at h1
        exact (World.cell?_of_block (a := ⟨gt, k, none⟩) (HO.out.block gt hgt.2 (fun hh => by have := hlv gt hh; omega))).trans h1
      have hff := Hf.out t[k] (List.getElem_mem hlt)
      have Htk := hid (homeWs_take S f t k hlt)
      generalize t[k] = x at *
      obtain ⟨hxP, hx256, q, hq, hqS, hqx⟩ := hff
      have hll := Hl.out
      have HM := hid hM
      have Hnv := hid hnv
      have HOw := hid hOw
      have c2 := hM.c2
      have c3 := hM.c3
      have hlen1 : (ls ++ homeWs S f (t.take k)).length ≤ 1000000 := by
        rw [List.length_append]; unfold homeWs; rw [List.length_map, List.length_take]; omega
      have g1 : (k : Int) < (t.length : Int) := by omega
      have Hnow := hid (fun (u : World) (hM' : LogMem u B l d g cap mb n v1 S G U pl (psOf fs (ls ++ homeWs S f (t.take k))) (chOf fs (ls ++ homeWs S f (t.take k)))) => now_any hM' x (by omega) (by omega) (f x) (by rw [hq]; show (psOf fs (ls ++ homeWs S f (t.take k)))[q]? = some (f x); rw [home_low _ _ _ _ _ _ hqS]; exact hqx) (by rw [psOf_length]; exact hm))
      have Hx256 := hid hx256
      have hwB : B ≤ wr.heap.size := Nat.le_trans hbase (Nat.le_trans hs1 HOw.out.size)
      clear hM hnv hOw hq hqx hx256 e1 hll
      go_wp2
      go_region_held3 (fun w9 => w9.cell? ⟨l, 2, none⟩ = some (.pointer (some ⟨d, 0, none⟩)) ∧ w9.cell? ⟨l, 3, none⟩ = some (.int .i64 (S : Int))) (first | exact ⟨c2, c3⟩ | exact q3.out | exact q2.out | exact q1.out)
        (first
          | ((go_at_call 104; refine (home_any _ S x _ (by have := Hl.out; omega) (by have := Hl.out; omega) rfl).mono ?_; rintro e u1 ⟨rfl, hb1'⟩; have hb1 := undrew1 hb1'; have H1 := hid (HM.out.below hb1); have q1 := hid (And.intro H1.out.c2 H1.out.c3); have Hbu1 := hid hb1; clear hb1 hb1'))
          | ((go_at_call 82; refine (Hnow.out _ H1.out).mono ?_; rintro e u2 ⟨g2, c2', rfl, ho2, hc2, hb2⟩; have H2 := hid (H1.out.below hb2); have q2 := hid (And.intro H2.out.c2 H2.out.c3); have Hbu2 := hid (Hbu1.out.trans (hb2.mono Hbu1.out.size)); have Hw := hid (fun mI hmI => logWrite H2.out (S + 1 + x) (by have := Hl.out; omega) (f x) Hx256.out g2 0 c2' (bytes_of_row ho2 Hx256.out) (fun hh => by have h1 := (H1.out.lts _ hh).2; have h2 := (ho2.lt g2 rfl).1; omega) hlen1 (Nat.le_trans hwB Hbu2.out.size) mI hmI); clear ho2 hb2))
          | ((go_at_call 103; refine (Hw.out _ (by omega)).mono ?_; rintro e u3 ⟨rfl, v3, hM3, hn3, ho3⟩; have H3 := hid hM3; have q3 := hid (And.intro hM3.c2 hM3.c3); have Hn3 := hid hn3; have Ho3 := hid ho3; clear hM3 hn3 ho3)))
      clear c2 c3 q1 q2 q3 Hw Hnow
      go_wp2
      go_roundw
      case rel =>
        refine ⟨k + 1, by omega, by go_num, v3, ?_, Hnv.out.trans Hn3.out (Nat.le_trans HOw.out.size Hbu2.out.size), (HOw.out.trans (Out.of_below (P := logBlock l d g mb v) Hbu2.out) (fun _ _ e => e)).trans Ho3.out (fun i hi e => ?_)⟩
        · rw [Htk.out, ← List.append_assoc]; exact H3.out
        · rcases Hnv.out.block e with h | h
          · exact h
          · omega
      case measure => simp [intOf]; omega
    · obtain rfl : k = t.length := by omega
      rw [List.take_length] at hM
      obtain ⟨wc, hcl, hMc, hOc⟩ := hM.cleared 99 0 Tryz.underlying99
      have c4 := hM.c4
      have c1 := hMc.c1
      have z1 := hMc.z 1
      obtain ⟨hMu, hOu⟩ := hMc.used 0
      have HMu := hid hMu
      have Hnv := hid hnv
      have HOa : Hid (Out (logBlock l d g mb v) w (wc.setCell ⟨l, 1, none⟩ (.int .i64 ((0 : Nat) : Int)))) := ((((Out.of_below (P := logBlock l d g mb v) Hb1.out).trans hOw (fun _ _ e => e)).trans hOc (fun i _ e => .inr (.inr (.inr (.inl e))))).trans hOu (fun i _ e => .inl e))
      have hll := Hl.out
      have hlen1 : (ls ++ homeWs S f t).length ≤ 1000000 := by
        rw [List.length_append]; unfold homeWs; rw [List.length_map]; omega
      have hsz : B ≤ (wc.setCell ⟨l, 1, none⟩ (.int .i64 ((0 : Nat) : Int))).heap.size := Nat.le_trans hbase HOa.out.size
      have Hwh := hid (writeHead_any HMu.out hG (by omega) (by omega) hlen1 hsz)
      have HM1 := hid hM
      clear hM hMc hMu hOc hOu hnv hOw HO
      go_wp2_with (go_at_call 105; refine Hwh.out.mono ?_; rintro e w9 ⟨rfl, v9, hM9, hn9, ho9⟩; have HM9 := hid hM9; have Hn9 := hid hn9; have Ho9 := hid ho9; clear hM9 hn9 ho9)
      go_ret
      refine ⟨rfl, v9, ?_, ?_, ?_⟩
      · rw [← List.append_assoc]; exact HM9.out
      · intro j hj
        have ha := HOa.out.size
        rcases Hn9.out j hj with h | h
        · rcases Hnv.out j h with h | h
          · exact .inl h
          · exact .inr (by omega)
        · exact .inr (Nat.le_trans ha h)
      · refine HOa.out.trans Ho9.out (fun i hi e => ?_)
        rcases Hnv.out.block e with h | h
        · exact h
        · omega
end Go.Proofs.YthdcjepkehifoaaGreat

/- A log over a disk that was new: what Commit, Checkpoint, Touched, Disk do to it. -/

namespace Go.Proofs.YthdcjepkehifoaaGreat
open Go.RowKit Go.Maps
set_option linter.unusedVariables false
set_option maxRecDepth 20000

/-- a log in memory, its groups, and all writes to its disk -/
structure At1 (w : World) (B S P k l d g c m n : Nat) (v : Value) (G : Nat) (gs : List (List Nat)) (ls : List (Nat × List UInt8)) : Prop where
  mem : LogMem w B l d g c m n v S G (usedOf gs) (plOf gs) (psOf (fresh S P) ls) (chOf (fresh S P) ls)
  inv : LogInv (psOf (fresh S P) ls) S G gs P
  gr : G ≤ k
  lsl : ls.length ≤ 102 * k
  nl : n ≤ 100 * k
def LogAt (w : World) (B S P k l G : Nat) (gs : List (List Nat)) (ls : List (Nat × List UInt8)) : Prop := ∃ d g c m n v, At1 w B S P k l d g c m n v G gs ls
theorem LogAt.below {w w' : World} {B S P k l G : Nat} {gs : List (List Nat)} {ls : List (Nat × List UInt8)} (h : LogAt w B S P k l G gs ls) (hb : Below w.heap.size w w') : LogAt w' B S P k l G gs ls := by
  obtain ⟨d, g, c, m, n, v, h⟩ := h
  exact ⟨d, g, c, m, n, v, h.mem.below hb, h.inv, h.gr, h.lsl, h.nl⟩
theorem LogAt.le {w : World} {B S P k k' l G : Nat} {gs : List (List Nat)} {ls : List (Nat × List UInt8)} (h : LogAt w B S P k l G gs ls) (hk : k ≤ k') : LogAt w B S P k' l G gs ls := by
  obtain ⟨d, g, c, m, n, v, h⟩ := h
  have h1 := h.gr
  have h2 := h.lsl
  have h3 := h.nl
  exact ⟨d, g, c, m, n, v, h.mem, h.inv, by omega, by omega, by omega⟩
theorem touched_iff {ps : List (List UInt8)} {S G : Nat} {gs : List (List Nat)} {P : Nat} (h : LogInv ps S G gs P) (p : Nat) : p ∈ touchedOf P gs ↔ (plOf gs p).isSome = true := by
  refine ⟨fun hp => (touched_lt hp).2, fun hp => List.mem_filter.2 ⟨List.mem_range.2 ?_, hp⟩⟩
  obtain ⟨ns, hns, hpn⟩ := (plOf_mem gs p).1 hp
  exact (h.groups.good ns hns).lt p hpn
theorem touched_len (P : Nat) (gs : List (List Nat)) : (touchedOf P gs).length ≤ P := by
  refine Nat.le_trans (List.length_filter_le _ _) ?_
  rw [List.length_range]; exact Nat.le_refl _
theorem touched_pos {ps : List (List UInt8)} {S G : Nat} {gs : List (List Nat)} {P : Nat} (h : LogInv ps S G gs P) (hu : 0 < usedOf gs) : 0 < (touchedOf P gs).length := by
  cases gs with
  | nil => cases hu
  | cons ns gs =>
    have hg := h.groups.good ns (List.mem_cons_self ..)
    obtain ⟨p, hp⟩ : ∃ p, p ∈ ns := by
      cases ns with
      | nil => have := hg.pos; simp at this
      | cons p _ => exact ⟨p, List.mem_cons_self ..⟩
    exact List.length_pos_of_mem ((touched_iff h p).2 ((plOf_mem _ p).2 ⟨ns, List.mem_cons_self .., hp⟩))
theorem gs_nil {gs : List (List Nat)} (hu : usedOf gs = 0) : gs = [] := by
  by_cases h : gs = []
  · exact h
  · have := usedOf_pos gs h; omega

theorem one_disk {w : World} {B S P k l G : Nat} {gs : List (List Nat)} {ls : List (Nat × List UInt8)} (h : LogAt w B S P k l G gs ls) (hk : k ≤ 1000) :
    Calls Tryz.prog 31 #[.pointer (some ⟨l, 0, none⟩)] w fun e w' => ∃ d' g' cap' v', e = .returned (.pointer (some ⟨d', 0, none⟩)) ∧ DiskAt w' w.heap.size d' g' cap' v' (psOf (fresh S P) ls) (chOf (fresh S P) ls) ∧ Below w.heap.size w w' := by
  obtain ⟨d, g, c, m, n, v, h⟩ := h
  have h1 := h.inv.len
  have h2 := h.inv.most
  have h3 := h.lsl
  exact logDisk_ok h.mem (by omega) h2 (by rw [chOf_length]; omega)

theorem one_touched {w : World} {B S P k l G : Nat} {gs : List (List Nat)} {ls : List (Nat × List UInt8)} (h : LogAt w B S P k l G gs ls) (hk : k ≤ 1000) :
    Calls Tryz.prog 26 #[.pointer (some ⟨l, 0, none⟩)] w fun e w' => ∃ v, e = .returned v ∧ w'.ownsRow w.heap.size 3 1 v (touchedOf P gs).length (natCells (touchedOf P gs)) ∧ Below w.heap.size w w' := by
  obtain ⟨d, g, c, m, n, v, h⟩ := h
  have h3 := h.nl
  exact touched_any h.mem (by omega) (touchedOf P gs) (touchedOf_up P gs) (touched_iff h.inv)

/-- what a checkpoint writes -/
def cpWs (S P G : Nat) (gs : List (List Nat)) (ls : List (Nat × List UInt8)) : List (Nat × List UInt8) := if usedOf gs = 0 then [] else checkWs (psOf (fresh S P) ls) S G gs P
theorem out_old {w w' : World} {F : Nat → Prop} (ho : Out F w w') {H : Nat} (hH : ∀ j, F j → j < H) : ∀ j, H ≤ j → j < w.heap.size → w'.heap[j]? = w.heap[j]? := fun j h1 h2 => ho.block j h2 (fun hf => by have := hH j hf; omega)

theorem one_check {w : World} {B S P k l G : Nat} {gs : List (List Nat)} {ls : List (Nat × List UInt8)} (h : LogAt w B S P k l G gs ls) (hk : k ≤ 1000) (hP : P ≤ 100) (hB : B ≤ w.heap.size) :
    Calls Tryz.prog 50 #[.pointer (some ⟨l, 0, none⟩)] w fun e w' => e = .returned (.int .i64 0) ∧ LogAt w' B S P (k + 1) l G [] (ls ++ cpWs S P G gs ls) ∧ Below B w w' := by
  have h0 := h
  obtain ⟨d, g, c, m, n, v, h⟩ := h
  have h1 := h.inv.len
  have h2 := h.inv.most
  have h3 := h.lsl
  have h4 := h.nl
  have h5 := h.gr
  have h6 := h.inv.used
  by_cases hu : usedOf gs = 0
  · have hgs := gs_nil hu
    subst hgs
    refine (check_empty (by have := h.mem; rw [usedOf_nil] at this; exact this)).mono ?_
    rintro e w' ⟨rfl, rfl⟩
    refine ⟨rfl, ?_, Below.refl _ _⟩
    unfold cpWs
    rw [if_pos hu, List.append_nil]
    exact h0.le (Nat.le_succ k)
  · rw [psOf_length] at h1 h2
    refine (check_any h.mem P h1 h2 (by omega) (by omega) (by omega) (by omega) hB (touchedOf P gs) (touchedOf_up P gs) (touched_iff h.inv) (pageNow (psOf (fresh S P) ls) S gs) (fun p hp => ?_) (Nat.le_trans (touched_len P gs) (by omega))).mono ?_
    · obtain ⟨hpP, hps⟩ := touched_lt hp
      refine ⟨hpP, pageNow_length h.inv p hpP, ?_⟩
      obtain ⟨q, hq⟩ := Option.isSome_iff_exists.1 hps
      have hql := plOf_le gs p q hq
      refine ⟨q, hq, by omega, ?_⟩
      have hpl : placeOf S gs p = q := by unfold placeOf; rw [hq]; rfl
      unfold pageNow
      rw [hpl]
      have hlt : q < (psOf (fresh S P) ls).length := by rw [← hpl]; exact placeOf_lt h.inv p hpP
      rw [List.getElem?_eq_getElem hlt]
      simp [List.getD, List.getElem?_eq_getElem hlt]
    · rintro e w' ⟨rfl, v', hM, hnv, ho⟩
      have ec : cpWs S P G gs ls = homeWs S (pageNow (psOf (fresh S P) ls) S gs) (touchedOf P gs) ++ [(0, headB G 0)] := by
        unfold cpWs; rw [if_neg hu]; rfl
      refine ⟨rfl, ⟨d, g, c, m, 0, v', ?_, ?_, by omega, ?_, by omega⟩, ho.below hB (fun j hj => (h.mem.lts j hj).1)⟩
      · rw [ec]; exact hM
      · have hc := (h.inv.check (by omega)).1
        rw [ec, psOf_append]
        exact hc
      · rw [ec, List.length_append, List.length_append]
        unfold homeWs
        rw [List.length_map]
        have := touched_len P gs
        simp
        omega

/-- what Commit tells, and leaves, of the pages of a deed -/
def OnePost (w : World) (B S P k l G : Nat) (gs : List (List Nat)) (ls : List (Nat × List UInt8)) (H : Nat) (lp : List PgV) (e : Ending) (w' : World) : Prop :=
  (∀ j, H ≤ j → j < w.heap.size → w'.heap[j]? = w.heap[j]?) ∧ Below B w w' ∧
  ((∃ c : Int, e = .returned (.int .i64 c) ∧ ((c = 6 ∧ 100 < lp.length) ∨ (lp.length ≤ 100 ∧ 0 < lp.length ∧ ((c = 2 ∧ BadRange P lp) ∨ (c = 3 ∧ ¬ BadRange P lp ∧ BadForm lp) ∨ (c = 7 ∧ ¬ BadRange P lp ∧ ¬ BadForm lp ∧ S < usedOf gs + lp.length + 1)))) ∧ LogAt w' B S P (k + 1) l G gs ls) ∨
   (e = .returned (.int .i64 0) ∧ lp.length = 0 ∧ LogAt w' B S P (k + 1) l G gs ls) ∨
   (e = .returned (.int .i64 0) ∧ 0 < lp.length ∧ lp.length ≤ 100 ∧ ¬ BadRange P lp ∧ ¬ BadForm lp ∧ usedOf gs + lp.length + 1 ≤ S ∧ ∃ s, s.Perm lp ∧ s.Pairwise (fun a b => a.1 < b.1) ∧ LogAt w' B S P (k + 1) l (G + 1) (gs ++ [numsP s]) (ls ++ commitWs (usedOf gs) G (numsP s) (s.map (bytesAt w)))))

theorem good_nums {P : Nat} {s : List PgV} (h1 : 1 ≤ s.length) (h2 : s.length ≤ 100) (hup : s.Pairwise (fun a b => a.1 < b.1)) (hr : ¬ BadRange P s) : GoodIx P (numsP s) := by
  have hp : ∀ p ∈ s, 0 ≤ p.1 ∧ p.1 < (P : Int) := fun p hp => by
    have : ¬ (p.1 < 0 ∨ (P : Int) ≤ p.1) := fun h => hr ⟨p, hp, h⟩
    omega
  refine ⟨by rw [numsP_length]; exact h1, by rw [numsP_length]; exact h2, ?_, fun n hn => ?_⟩
  · unfold numsP
    rw [List.pairwise_map]
    exact hup.imp_of_mem fun {a b} ha hb h => by have := hp a ha; have := hp b hb; omega
  · obtain ⟨p, hpm, rfl⟩ := List.mem_map.1 hn
    have := hp p hpm
    omega

/-- .. all of whose blocks are old -/
def LogLow (w : World) (B S P k l G : Nat) (gs : List (List Nat)) (ls : List (Nat × List UInt8)) (H : Nat) : Prop := ∃ d g c m n v, At1 w B S P k l d g c m n v G gs ls ∧ ∀ j, logBlock l d g m v j → j < H
theorem LogLow.at {w : World} {B S P k l G H : Nat} {gs : List (List Nat)} {ls : List (Nat × List UInt8)} (h : LogLow w B S P k l G gs ls H) : LogAt w B S P k l G gs ls := by
  obtain ⟨d, g, c, m, n, v, h, _⟩ := h
  exact ⟨d, g, c, m, n, v, h⟩
theorem LogAt.low {w w' : World} {B S P k l G : Nat} {gs : List (List Nat)} {ls : List (Nat × List UInt8)} (h : LogAt w B S P k l G gs ls) (hb : Below w.heap.size w w') : LogLow w' B S P k l G gs ls w.heap.size := by
  obtain ⟨d, g, c, m, n, v, h⟩ := h
  exact ⟨d, g, c, m, n, v, ⟨h.mem.below hb, h.inv, h.gr, h.lsl, h.nl⟩, fun j hj => (h.mem.lts j hj).2⟩
theorem one_commit {w : World} {B S P k l G : Nat} {gs : List (List Nat)} {ls : List (Nat × List UInt8)} {H : Nat} (h : LogLow w B S P k l G gs ls H) (hk : k ≤ 1000) (hB : B ≤ w.heap.size)
    {q : List Int} {sh : Bool} {y : UInt8} {lp : List PgV} (hd : DeedPgs w H q sh y lp) (a : Option Addr) (cp : Nat) (hp : 0 < lp.length → ∃ b, a = some ⟨b, 0, none⟩ ∧ PgsAt w b 0 lp) :
    Calls Tryz.prog 48 #[.pointer (some ⟨l, 0, none⟩), .slice a lp.length cp] w (OnePost w B S P k l G gs ls H lp) := by
  have h0 := h.at
  obtain ⟨d, g, c, m, n, v, h, hF⟩ := h
  have h1 := h.inv.len
  have h2 := h.inv.most
  rw [psOf_length] at h1 h2
  have h3 := h.lsl
  have h4 := h.nl
  have h5 := h.gr
  have h6 := h.inv.used
  rcases (show lp.length = 0 ∨ 100 < lp.length ∨ (0 < lp.length ∧ lp.length ≤ 100) by omega) with hz | hz | ⟨hz1, hz2⟩
  · rw [hz]
    refine (commit_none _ _ _ _).mono ?_
    rintro e w' ⟨rfl, rfl⟩
    exact ⟨fun _ _ _ => rfl, Below.refl _ _, .inr (.inl ⟨rfl, hz, h0.le (Nat.le_succ k)⟩)⟩
  · refine (commit_long _ _ _ _ _ hz).mono ?_
    rintro e w' ⟨rfl, rfl⟩
    exact ⟨fun _ _ _ => rfl, Below.refl _ _, .inl ⟨6, rfl, .inl ⟨rfl, hz⟩, h0.le (Nat.le_succ k)⟩⟩
  · obtain ⟨b, rfl, hpg⟩ := hp hz1
    refine (commit_any h.mem P h1 h2 h6 lp b 0 cp hpg hz1 hz2 (hd.ok hF) (by omega) (by omega) (by omega) hB).mono ?_
    rintro e w' (⟨cc, rfl, hc, hb⟩ | ⟨rfl, hr, hf, hU, s, v', hs, hup, hM, hnv, ho⟩)
    · exact ⟨fun j _ hj => hb.block j hj, hb.mono hB, .inl ⟨cc, rfl, .inr ⟨hz2, hz1, hc⟩, (h0.below hb).le (Nat.le_succ k)⟩⟩
    · have hsl : s.length = lp.length := hs.length_eq
      have hns : (numsP s).length = lp.length := by rw [numsP_length, hsl]
      have hgi := good_nums (P := P) (s := s) (by omega) (by omega) hup (fun hb => hr ((badRange_perm hs).1 hb))
      refine ⟨out_old ho hF, ho.below hB (fun j hj => (h.mem.lts j hj).1), .inr (.inr ⟨rfl, hz1, hz2, hr, hf, hU, s, hs, hup, d, g, c, m, n + lp.length, v', ?_, ?_, by omega, ?_, by omega⟩)⟩
      · rw [usedOf_snoc, plOf_snoc, hns]; exact hM
      · rw [psOf_append]
        refine h.inv.commit (numsP s) (s.map (bytesAt w)) hgi (by rw [List.length_map, numsP_length]) (fun x hx => ?_) (by omega) (by omega)
        obtain ⟨p, hpm, rfl⟩ := List.mem_map.1 hx
        rw [bytesAt_length]
        by_cases hp256 : p.2.2.1 = 256
        · exact hp256
        · exact absurd (.inr ⟨p, hs.mem_iff.1 hpm, hp256⟩) hf
      · rw [List.length_append, commitWs_length, List.length_map]
        omega
end Go.Proofs.YthdcjepkehifoaaGreat
