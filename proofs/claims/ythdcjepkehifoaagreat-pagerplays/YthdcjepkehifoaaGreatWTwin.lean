/- YthdcjepkehifoaaGreatWRef3 + YthdcjepkehifoaaGreatWTwin -/
import Derived.Test.YthdcjepkehifoaaGreatBRefLoad
/- Open of the reference's log over a new disk; open of the laws. -/

namespace Go.Proofs.YthdcjepkehifoaaGreat
open Go.RowKit Go.Maps
set_option linter.unusedVariables false
set_option maxRecDepth 20000

set_option maxHeartbeats 400000 in
theorem zeros_zpage (b o cap : Nat) (w : World) (hx : Bytes w (some ⟨b, o, none⟩) zpage) :
    Calls Tryz.prog 91 #[.slice (some ⟨b, o, none⟩) 256 cap, .int .i64 0] w fun e w' => e = .returned (.bool true) ∧ w' = w := by
  have Hx := hid hx
  clear hx
  go_enter Tryz.func91, Tryz.ntmps91
  go_wp2
  go_loopw [5] (fun i wr => ∃ k : Nat, k ≤ 256 ∧ i = .int .i64 k ∧ wr = w) (fun i _ => 256 - (intOf i).toNat)
  case atStart => exact ⟨0, Nat.zero_le _, rfl, rfl⟩
  case round =>
    obtain ⟨k, hk, rfl, rfl⟩ := hrel
    by_cases hlt : k < 256
    · obtain ⟨b1, o1, ha, hc1⟩ := Hx.out k (by rw [zpage_length]; exact hlt)
      cases ha
      have hz : zpage[k]'(by rw [zpage_length]; exact hlt) = 0 := by unfold zpage; rw [List.getElem_replicate]
      rw [hz] at hc1
      clear hz
      go_wp2
      go_roundw
      case rel => exact ⟨k + 1, by omega, by go_num, trivial⟩
      case measure => simp [intOf]; omega
    · obtain rfl : k = 256 := by omega
      go_wp2
      go_ret
      exact ⟨rfl, rfl⟩

set_option maxHeartbeats 800000 in
theorem refLogBlock_zero {w : World} {B r : Nat} {F L : Value} {vs us : List Value} {n : Nat} (h : RefAt w B r F L vs us (List.replicate n zpage) []) (m S H U : Nat) (hm : w.cell? ⟨m, 0, none⟩ = some (.pointer (some ⟨r, 0, none⟩))) (h1 : 1 ≤ n) (h2 : n ≤ 1024) :
    Calls Tryz.prog 83 #[.pointer (some ⟨m, 0, none⟩), .int .i64 0] w fun e w' => ∃ v, e = .returned v ∧ w'.ownsRow w.heap.size 5 1 v 256 (cellsOf zpage) ∧ Below w.heap.size w w' := by
  have Hr := hid (refRead_ok h (by simp) (fun p hp => by rw [(List.mem_replicate.1 hp).2, zpage_length]) (by rw [List.length_replicate]; exact h2) (by simp) 0 (by rw [List.length_replicate]; omega) zpage (by
    show (List.replicate n zpage)[0]? = some zpage
    rw [List.getElem?_replicate, if_pos (by omega)]))
  clear h
  go_enter Tryz.func83, Tryz.ntmps83
  go_wp2_with (fail)
  refine Hr.out.mono ?_
  rintro e w1 ⟨v, rfl, ho, hb⟩
  go_wp2
  go_ret
  exact ⟨v, rfl, ho, hb⟩

set_option maxHeartbeats 1600000 in
theorem refOpen_zero {w : World} {B r : Nat} {F L : Value} {vs us : List Value} {n : Nat} (h : RefAt w B r F L vs us (List.replicate n zpage) []) (S P : Nat) (hn : n = S + 1 + P) (hS : 2 ≤ S) (hP : 1 ≤ P) (h2 : n ≤ 1024) :
    Calls Tryz.prog 44 #[.pointer (some ⟨r, 0, none⟩), .int .i64 (S : Int)] w fun e w' => ∃ m, e = .returned (.tuple #[.pointer (some ⟨m, 0, none⟩), .int .i64 0]) ∧ Below w.heap.size w w' := by
  have Hbl := hid (refBlocks_any h)
  have Him := hid (refImage_ok h (by simp) (fun p hp => by rw [(List.mem_replicate.1 hp).2, zpage_length]) (by rw [List.length_replicate]; omega) (by rw [List.length_replicate]; exact h2) (by simp))
  rw [List.length_replicate] at Hbl Him
  have f1 : IntKind.i64.wrap ((n : Int) - 2) = (n : Int) - 2 := by rw [IntKind.wrap_i64]; omega
  have f2 : ¬ (n : Int) - 2 < (S : Int) := by omega
  have f3 : ¬ (S : Int) < 2 := by omega
  have Hn := hid hn
  clear h hn
  go_enter Tryz.func44, Tryz.ntmps44
  go_wp2_with (fail)
  refine Hbl.out.mono ?_
  rintro e w1 ⟨rfl, rfl⟩
  go_wp2_with (fail)
  refine Him.out.mono ?_
  rintro e w2 ⟨b, c, vs', rfl, hI, hb2⟩
  have Hl := hid (refLoad_ok (ps := psOf (List.replicate n zpage) []) (b := b) (c := c) (by rw [psOf_length, List.length_replicate]; exact hI) (by rw [psOf_length, List.length_replicate]; omega) (by rw [psOf_length, List.length_replicate]; exact h2))
  rw [psOf_length, List.length_replicate] at Hl
  have Hb2 := hid hb2
  clear hI hb2 Him Hbl
  go_wp2_with (fail)
  refine Hl.out.mono ?_
  rintro e w3 ⟨hp | ⟨hp, r3, F3, vs3, rfl, hR⟩, hb3⟩
  · exfalso
    obtain ⟨⟨p, hp, hne⟩, _⟩ := hp
    exact hne (by rw [(List.mem_replicate.1 hp).2, zpage_length])
  have HR := hid hR
  have Hb3 := hid (Hb2.out.trans (hb3.mono Hb2.out.size))
  clear hR hb3 hp Hl Hb2
  go_wp2_with (fail)
  have HR4 := hid (HR.out.below ((Below.refl _ w3).alloc (Nat.le_refl _) (.cells #[.pointer (some ⟨r3, 0, none⟩), .int .i64 (S : Int), .int .i64 0, .int .i64 0] 103)))
  have k0 := cell_of_row _ _ 0 _ _ _ (heap_alloc_new w3 (.cells #[.pointer (some ⟨r3, 0, none⟩), .int .i64 (S : Int), .int .i64 0, .int .i64 0] 103))
  have Hb4 := hid (Hb3.out.alloc Hb3.out.size (.cells #[.pointer (some ⟨r3, 0, none⟩), .int .i64 (S : Int), .int .i64 0, .int .i64 0] 103))
  refine (refLogBlock_zero HR4.out w3.heap.size 0 0 0 k0 (by have := Hn.out; omega) h2).mono ?_
  rintro e w5 ⟨v, rfl, ho, hb5⟩
  obtain ⟨vb, vc, rfl, _, _, hvb⟩ := row_form ho (by omega)
  have Hz := hid (zeros_zpage vb 0 vc w5 (bytes_of_row ho zpage_length))
  have Hb5 := hid (Hb4.out.trans (hb5.mono Hb4.out.size))
  clear ho hb5 HR HR4 k0 Hb3 Hb4
  go_wp2_with (fail)
  refine Hz.out.mono ?_
  rintro e w6 ⟨rfl, rfl⟩
  go_wp2
  go_ret2
  exact ⟨_, rfl, Hb5.out⟩

/-- what open gives over a new disk -/
def OpenPost (S P : Nat) (w : World) (e : Ending) (w' : World) : Prop :=
  ∃ l d g cap mb m, e = .returned (.tuple #[.pointer (some ⟨l, 0, none⟩), .pointer (some ⟨m, 0, none⟩), .bool true]) ∧ LogMem w' w.heap.size l d g cap mb 0 (.slice none 0 0) S 0 0 (fun _ => none) (List.replicate (S + 1 + P) zpage) [] ∧ Below w.heap.size w w'
set_option maxHeartbeats 1600000 in
theorem lawOpen_new (w : World) (S P : Nat) (hS : 2 ≤ S) (hP : 1 ≤ P) (h2 : S + 1 + P ≤ 1024) :
    Calls Tryz.prog 13 #[.int .i64 ((S + 1 + P : Nat) : Int), .int .i64 (S : Int)] w (OpenPost S P w) := by
  obtain ⟨n, hn⟩ : ∃ n, n = S + 1 + P := ⟨_, rfl⟩
  have Hn := hid hn
  unfold OpenPost
  rw [← hn] at h2 ⊢
  clear hn
  have h1 : 1 ≤ n := by have := Hn.out; omega
  go_enter Tryz.func13, Tryz.ntmps13
  go_wp2_with (fail)
  refine (new_ok n w h1 h2).mono ?_
  rintro e w1 ⟨d0, g0, cap0, rfl, hD, hb1⟩
  have HD := hid hD
  have Hb1 := hid hb1
  clear hD hb1
  go_wp2_with (fail)
  refine (refNew_ok n w1 h1 h2).mono ?_
  rintro e w2 ⟨r, F, vs, rfl, hR, hb2⟩
  have HR := hid hR
  have HD2 := hid (HD.out.below hb2)
  have Hb2 := hid (Hb1.out.trans (hb2.mono Hb1.out.size))
  clear hR hb2 HD Hb1
  have Ho := hid (open_ok HD2.out S 0 P [] (by exact inv_new n S P Hn.out hS hP h2) (by omega) (by simp))
  go_wp2_with (fail)
  refine Ho.out.mono ?_
  rintro e w3 ⟨l, d, g, cap, mb, n0, rfl, hn0, hM, hb3⟩
  obtain rfl : n0 = 0 := by
    have : usedOf [] = 0 := rfl
    omega
  have HM := hid hM
  have HR3 := hid (HR.out.below hb3)
  have Hb3 := hid (Hb2.out.trans (hb3.mono Hb2.out.size))
  have Hs2 := hid Hb2.out.size
  clear hM hb3 HR HD2 Ho Hb2
  go_wp2_with (fail)
  refine (refOpen_zero HR3.out S P Hn.out hS hP h2).mono ?_
  rintro e w4 ⟨m, rfl, hb4⟩
  have HM4 := hid (HM.out.below hb4)
  have Hb4 := hid (Hb3.out.trans (hb4.mono Hb3.out.size))
  clear hb4 HM Hb3 HR3
  go_wp2
  go_ret3
  exact ⟨l, d, g, cap, mb, m, by simp, HM4.out.mono Hs2.out, Hb4.out⟩
end Go.Proofs.YthdcjepkehifoaaGreat

/- Two logs that tell the same: a group, and the same the other way round. -/
namespace Go.Proofs.YthdcjepkehifoaaGreat
open Go.RowKit Go.Maps
set_option linter.unusedVariables false
set_option maxRecDepth 20000

def fresh (S P : Nat) : List (List UInt8) := List.replicate (S + 1 + P) zpage
theorem fresh_length (S P : Nat) : (fresh S P).length = S + 1 + P := List.length_replicate
/-- two logs with the same writes -/
structure Tw (w : World) (B S P k la lb da ga ca ma na : Nat) (va : Value) (db gb cb mb nb : Nat) (vb : Value) (G U : Nat) (pl : Nat → Option Nat) (ls : List (Nat × List UInt8)) : Prop where
  one : LogMem w B la da ga ca ma na va S G U pl (psOf (fresh S P) ls) (chOf (fresh S P) ls)
  two : LogMem w B lb db gb cb mb nb vb S G U pl (psOf (fresh S P) ls) (chOf (fresh S P) ls)
  sep : ∀ j, logBlock la da ga ma va j → ¬ logBlock lb db gb mb vb j
  room : U ≤ S
  gr : G ≤ k
  lsl : ls.length ≤ 102 * k
  nal : na ≤ 100 * k
  nbl : nb ≤ 100 * k
def Twin (w : World) (B S P k la lb : Nat) : Prop := ∃ da ga ca ma na va db gb cb mb nb vb G U pl ls, Tw w B S P k la lb da ga ca ma na va db gb cb mb nb vb G U pl ls
theorem Twin.below {w w' : World} {B S P k la lb : Nat} (h : Twin w B S P k la lb) (hb : Below w.heap.size w w') : Twin w' B S P k la lb := by
  obtain ⟨da, ga, ca, ma, na, va, db, gb, cb, mb, nb, vb, G, U, pl, ls, h⟩ := h
  exact ⟨da, ga, ca, ma, na, va, db, gb, cb, mb, nb, vb, G, U, pl, ls, h.one.below hb, h.two.below hb, h.sep, h.room, h.gr, h.lsl, h.nal, h.nbl⟩
theorem Twin.le {w : World} {B S P k k' la lb : Nat} (h : Twin w B S P k la lb) (hk : k ≤ k') : Twin w B S P k' la lb := by
  obtain ⟨da, ga, ca, ma, na, va, db, gb, cb, mb, nb, vb, G, U, pl, ls, h⟩ := h
  have h1 := h.gr
  have h2 := h.lsl
  have h3 := h.nal
  have h4 := h.nbl
  exact ⟨da, ga, ca, ma, na, va, db, gb, cb, mb, nb, vb, G, U, pl, ls, h.one, h.two, h.sep, h.room, by omega, by omega, by omega, by omega⟩

theorem twin_first {w : World} {B S P k la lb da ga ca ma na : Nat} {va : Value} {db gb cb mb nb : Nat} {vb : Value} {G U : Nat} {pl : Nat → Option Nat} {ls : List (Nat × List UInt8)} (T : Tw w B S P k la lb da ga ca ma na va db gb cb mb nb vb G U pl ls) (hm : S + 1 + P ≤ 1024) (hk : k ≤ 1000) (hB : B ≤ w.heap.size)
    {H : Nat} {q : List Int} {sh : Bool} {y : UInt8} {lp : List PgV} (hd : DeedPgs w H q sh y lp) (hHa : ∀ j, logBlock la da ga ma va j → j < H) (bp cp : Nat) (hp : PgsAt w bp 0 lp) (h1 : 1 ≤ lp.length) (h2 : lp.length ≤ 100) :
    Calls Tryz.prog 48 #[.pointer (some ⟨la, 0, none⟩), .slice (some ⟨bp, 0, none⟩) lp.length cp] w (CommitPost w B la da ga ca ma na va S G U P pl (fresh S P) ls lp) := by
  have a1 := T.gr
  have a2 := T.lsl
  have a3 := T.nal
  exact commit_any T.one P (fresh_length S P) (by rw [fresh_length]; exact hm) T.room lp bp 0 cp hp h1 h2 (hd.ok hHa) (by omega) (by omega) (by omega) hB

set_option maxHeartbeats 800000 in
theorem twin_second {w w1 : World} {e1 : Ending} {B S P k la lb da ga ca ma na : Nat} {va : Value} {db gb cb mb nb : Nat} {vb : Value} {G U : Nat} {pl : Nat → Option Nat} {ls : List (Nat × List UInt8)} (T : Tw w B S P k la lb da ga ca ma na va db gb cb mb nb vb G U pl ls) (hm : S + 1 + P ≤ 1024) (hk : k ≤ 1000) (hB : B ≤ w.heap.size)
    {H : Nat} {q : List Int} {sh : Bool} {y : UInt8} {lp : List PgV} (hd : DeedPgs w H q sh y lp) (hHa : ∀ j, logBlock la da ga ma va j → j < H) (hHb : ∀ j, logBlock lb db gb mb vb j → j < H) (bq cq : Nat) (hq : PgsAt w bq 0 lp.reverse) (hbq : H ≤ bq) (hbq2 : bq < w.heap.size) (h1 : 1 ≤ lp.length) (h2 : lp.length ≤ 100) (hH : H ≤ w.heap.size)
    (hpost : CommitPost w B la da ga ca ma na va S G U P pl (fresh S P) ls lp e1 w1) :
    ∃ c : Int, e1 = .returned (.int .i64 c) ∧ Below B w w1 ∧ Calls Tryz.prog 48 #[.pointer (some ⟨lb, 0, none⟩), .slice (some ⟨bq, 0, none⟩) lp.length cq] w1 fun e2 w2 => e2 = .returned (.int .i64 c) ∧ Twin w2 B S P (k + 1) la lb ∧ Below B w1 w2 := by
  have a1 := T.gr
  have a2 := T.lsl
  have a3 := T.nal
  have a4 := T.nbl
  have hperm : lp.reverse.Perm lp := List.reverse_perm lp
  have hlr : lp.reverse.length = lp.length := List.length_reverse
  have hR := badRange_perm (P := P) hperm
  have hF := badForm_perm hperm
  rcases hpost with ⟨c, rfl, hc, hb⟩ | ⟨rfl, hr, hf, hU, s, v', hs, hup, hM, hnv, ho⟩
  · refine ⟨c, rfl, hb.mono hB, ?_⟩
    have hs1 := hb.size
    have hC := commit_any (T.two.below hb) P (fresh_length S P) (by rw [fresh_length]; exact hm) T.room lp.reverse bq 0 cq (hq.keep (hb.block _ hbq2)) (by omega) (by omega) (fun p hp => ((hd.below hb).ok hHb) p (List.mem_reverse.1 hp)) (by omega) (by omega) (by omega) (by omega)
    rw [hlr] at hC
    refine hC.mono ?_
    rintro e2 w2 (⟨c', rfl, hc', hb2⟩ | ⟨rfl, hr', hf', hU', _⟩)
    · refine ⟨?_, ?_, hb2.mono (by omega)⟩
      · rw [hR, hF, hlr] at hc'
        have : c' = c := by
          rcases hc with ⟨h, g1⟩ | ⟨h, g1, g2⟩ | ⟨h, g1, g2, g3⟩ <;> rcases hc' with ⟨h', g1'⟩ | ⟨h', g1', g2'⟩ | ⟨h', g1', g2', g3'⟩ <;> first | omega | (exact absurd g1 g1') | (exact absurd g1' g1) | (exact absurd g2 g2') | (exact absurd g2' g2)
        rw [this]
      · exact Twin.le ⟨da, ga, ca, ma, na, va, db, gb, cb, mb, nb, vb, G, U, pl, ls, (T.one.below hb).below hb2, (T.two.below hb).below hb2, T.sep, T.room, T.gr, T.lsl, T.nal, T.nbl⟩ (Nat.le_succ k)
    · exfalso
      rw [hR] at hr'
      rw [hF] at hf'
      rw [hlr] at hU'
      rcases hc with ⟨h, g1⟩ | ⟨h, g1, g2⟩ | ⟨h, g1, g2, g3⟩
      · exact hr' g1
      · exact hf' g2
      · omega
  · have hla : ∀ j, logBlock la da ga ma va j → B ≤ j := fun j hj => (T.one.lts j hj).1
    refine ⟨0, rfl, ho.below hB hla, ?_⟩
    have hs1 := ho.size
    have hD1 : DeedPgs w1 H q sh y lp := hd.keep hs1 (fun j h1 h2 _ => ho.block j h2 (fun hP => by have := hHa j hP; omega))
    have hT2 := T.two.keep (w' := w1) (fun j hj => ho.block j (T.two.lts j hj).2 (fun hP => T.sep j hP hj))
    have hC := commit_any hT2 P (fresh_length S P) (by rw [fresh_length]; exact hm) T.room lp.reverse bq 0 cq (hq.keep (ho.block _ hbq2 (fun hP => by have := hHa _ hP; omega))) (by omega) (by omega) (fun p hp => (hD1.ok hHb) p (List.mem_reverse.1 hp)) (by omega) (by omega) (by omega) (by omega)
    rw [hlr] at hC
    refine hC.mono ?_
    rintro e2 w2 (⟨c', rfl, hc', hb2⟩ | ⟨rfl, hr', hf', hU', s2, v2', hs2, hup2, hM2, hnv2, ho2⟩)
    · exfalso
      rw [hR, hF, hlr] at hc'
      rcases hc' with ⟨h, g1⟩ | ⟨h, g1, g2⟩ | ⟨h, g1, g2, g3⟩
      · exact hr g1
      · exact hf g2
      · omega
    · have hlb : ∀ j, logBlock lb db gb mb vb j → B ≤ j := fun j hj => (hT2.lts j hj).1
      refine ⟨rfl, ?_, ho2.below (by omega) hlb⟩
      have es : s2 = s := List.Perm.eq_of_pairwise (le := fun a b : PgV => a.1 < b.1) (fun a b _ _ h1 h2 => by omega) hup2 hup ((hs2.trans hperm).trans hs.symm)
      subst es
      have hx : s2.map (bytesAt w1) = s2.map (bytesAt w) := by
        apply List.map_congr_left
        intro p hp
        obtain ⟨i, hi, rfl⟩ := List.getElem_of_mem (hs.mem_iff.1 hp)
        rw [hd.at i hi, hD1.at i hi]
      rw [hx, hlr] at hM2
      have hsl : s2.length = lp.length := hs.length_eq
      refine ⟨da, ga, ca, ma, _, v', db, gb, cb, mb, _, v2', _, _, _, _, hM.keep (fun j hj => ho2.block j (hM.lts j hj).2 (fun hP => ?_)), hM2, fun j hj hj2 => ?_, hU, by omega, ?_, by omega, by omega⟩
      · rcases hnv.block hj with h | h
        · exact T.sep j h hP
        · have := (T.two.lts j hP).2
          omega
      · have j1 := (hM.lts j hj).2
        rcases hnv2.block hj2 with h2 | h2
        · rcases hnv.block hj with h | h
          · exact T.sep j h h2
          · have := (T.two.lts j h2).2
            omega
        · omega
      · rw [List.length_append, commitWs_length, List.length_map]
        omega
end Go.Proofs.YthdcjepkehifoaaGreat
