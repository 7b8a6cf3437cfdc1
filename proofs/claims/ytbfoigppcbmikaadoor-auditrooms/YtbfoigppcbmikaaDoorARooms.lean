/- AuditRooms walked. -/
import Derived.Test.YtbfoigppcbmikaaDoorALive
namespace Go.Proofs.YtbfoigppcbmikaaDoor
open Go.RowKit Go.Shelf
set_option linter.unusedVariables false
set_option maxRecDepth 20000
attribute [local go_sem ↓] loadL_fold storeL_fold loadH_fold storeH_fold buildH_fold

/-- what is so behind i calls of Add -/
structure RInv (w : World) (B g i : Nat) (wr : World) : Prop where
  ch : ∃ v c, ChAt wr B g v c ∧ ChOk c ∧ c.ev.length = min i 64 ∧ c.la ≤ i ∧ c.bn = 0
  tb : Tabs wr B
  bel : Below B w wr
abbrev tx : ByteArray := ⟨#[120]⟩
abbrev ty : ByteArray := ⟨#[121]⟩
theorem addE_i {c : Ch} {i : Nat} (hl : c.ev.length = min i 64) (ha : c.la ≤ i) (hi : i ≤ 1000) : addE c (i : Int) tx ty = if i < 64 then 0 else 26 := by
  have h1 : ¬ ((i : Int) < 0 ∨ 1099511627776 < (i : Int)) := by omega
  have h2 : ¬ (12 < tx.size ∨ 30 < ty.size) := by decide
  have h3 : ¬ (i : Int) < (c.la : Int) := by omega
  unfold addE
  rw [if_neg h1, if_neg h2, if_neg h3]
  by_cases h : i < 64
  · rw [if_neg (by omega), if_pos h]
  · rw [if_pos (by omega), if_neg h]
theorem rinv_add {w w0 w1 : World} {B g i : Nat} {v' : Value} {c : Ch} (hok : ChOk c) (hl : c.ev.length = min i 64) (ha : c.la ≤ i) (hb : c.bn = 0) (hi : i ≤ 1000) (h1 : ChAt w1 B g v' (addR c (i : Int) tx ty)) (tb : Tabs w0 B) (bel : Below B w w0) (b1 : Below B w0 w1) : RInv w B g (i + 1) w1 := by
  refine ⟨⟨v', _, h1, addR_ok hok _ _ _, ?_⟩, tb.keep b1, bel.trans b1⟩
  have he := addE_i hl ha hi
  by_cases h : i < 64
  · rw [if_pos h] at he
    unfold addR
    rw [if_pos he]
    refine ⟨?_, ?_, hb⟩
    · simp only [addC, List.length_append, List.length_cons, List.length_nil]
      omega
    · simp only [addC, Int.toNat_natCast]
      omega
  · rw [if_neg h] at he
    unfold addR
    rw [if_neg (by rw [he]; decide)]
    exact ⟨by omega, by omega, hb⟩

set_option maxHeartbeats 4000000 in
theorem auditRooms_walk (n : Int) (hn : (Lit.int .u8 n).wf = true) (k : Int) (hk : (Lit.int .u8 k).wf = true) (w : World) (hT : Tabs w w.heap.size) :
    Calls Tryd.prog 10 #[.int .u8 n, .int .u8 k] w fun e w' => e = .returned (.bool true) ∧ Below w.heap.size w w' := by
  have hn0 : 0 ≤ n ∧ n ≤ 255 := by simpa [Lit.wf, IntKind.min, IntKind.max, IntKind.signed, IntKind.bits] using hn
  have hk0 : 0 ≤ k ∧ k ≤ 255 := by simpa [Lit.wf, IntKind.min, IntKind.max, IntKind.signed, IntKind.bits] using hk
  obtain ⟨N, hm⟩ : ∃ N : Nat, n % 80 = N := ⟨(n % 80).toNat, by omega⟩
  have hN80 : N < 80 := by omega
  clear hn hk
  have HT := hid hT
  obtain ⟨B, hB⟩ : ∃ B, B = w.heap.size := ⟨_, rfl⟩
  have HB := hid hB
  clear hT hB
  go_enter Tryd.func10, Tryd.ntmps10
  go_wp2_with fail
  refine (new_any w).mono ?_
  rintro _ w1 ⟨g, rfl, h1, b1⟩
  rw [← HB.out] at h1 b1
  have B1 : Hid (Below B w w1) := b1
  have H1 := hid h1
  have T1 : Hid (Tabs w1 B) := by
    have := HT.out.keep (HB.out ▸ b1)
    rw [← HB.out] at this
    exact this
  clear h1 b1
  have hB1 : B ≤ w1.heap.size := by have := B1.out.size; have := HB.out; omega
  go_wp2_with fail
  refine (live_any (T1.out.mono hB1)).mono ?_
  rintro _ w2 ⟨rfl, b2⟩
  have R2 : Hid (RInv w B g 0 w2) := ⟨⟨_, _, H1.out.below b2, ch0_ok, rfl, Nat.le_refl _, rfl⟩, T1.out.below hB1 b2, B1.out.trans (b2.mono hB1)⟩
  clear b2 H1 T1 B1 hB1
  go_wp2
  go_loopw [6] (fun v6 wr => ∃ i : Nat, v6 = .int .i64 (i : Int) ∧ i ≤ N ∧ RInv w B g i wr) (fun v6 _ => N - (intOf v6).toNat)
  case atStart => exact ⟨0, rfl, Nat.zero_le _, R2.out⟩
  case round =>
    obtain ⟨i, rfl, hiN, hinv⟩ := hrel
    have HI := hid hinv
    clear hinv R2
    by_cases hlt : i < N
    · have d1 : decide ((i : Int) < (N : Int)) = true := by simp; omega
      obtain ⟨v, c, hch, hok, hl, ha, hb⟩ := HI.out.ch
      have hBr : B ≤ wr.heap.size := by have := HI.out.bel.size; have := HB.out; omega
      have hcn : c.cnt < 1152921504606846976 := by unfold Ch.cnt; omega
      have HA := hid (add_any hch hok hcn hBr (i : Int) tx ty (by decide) (by decide) HI.out.tb)
      have hae := addE_i hl ha (show i ≤ 1000 by omega)
      obtain ⟨e, hee⟩ : ∃ e, e = addEv c (i : Int) tx ty := ⟨_, rfl⟩
      unfold AddPost at HA
      rw [hae, ← hee, show (eVals e).toArray = #[.int .i64 (e.num : Int), .int .i64 (e.tim : Int), .string e.what, .string e.who] from rfl] at HA
      have Hnx : Hid (∀ v' w1, ChAt w1 B g v' (addR c (i : Int) tx ty) → Out (CBlk g v) wr w1 → RInv w B g (i + 1) (w1.alloc (.cells #[.int .i64 (e.num : Int), .int .i64 (e.tim : Int), .string e.what, .string e.who] 59))) := fun v' w1 h1 h2 => by
        have b1 : Below B wr w1 := h2.below hBr hch.blk
        have hb2 : Below w1.heap.size w1 (w1.alloc (.cells #[.int .i64 (e.num : Int), .int .i64 (e.tim : Int), .string e.what, .string e.who] 59)) := (Below.refl _ w1).alloc (Nat.le_refl _) _
        have hB1 : B ≤ w1.heap.size := Nat.le_trans hBr b1.size
        exact rinv_add hok hl ha hb (by omega) (h1.below hb2) HI.out.tb HI.out.bel (b1.trans (hb2.mono hB1))
      clear hch hok hl ha hb hBr hcn hae hee HI
      by_cases h64 : i < 64
      · have d2 : decide ((i : Int) < 64) = true := by simp; omega
        rw [if_pos h64] at HA
        go_wp2_with (go_at_call 33; refine HA.out.mono ?_; rintro x w5 ⟨v5, rfl, h5, o5, _⟩; have H5 := hid h5; have O5 := hid o5; clear h5 o5)
        exact ⟨⟨i + 1, by simp, by omega, Hnx.out _ _ H5.out O5.out⟩, by simp [intOf]; omega⟩
      · have d2 : decide ((i : Int) < 64) = false := by simp; omega
        rw [if_neg h64] at HA
        go_wp2_with (go_at_call 33; refine HA.out.mono ?_; rintro x w5 ⟨v5, rfl, h5, o5, _⟩; have H5 := hid h5; have O5 := hid o5; clear h5 o5)
        exact ⟨⟨i + 1, by simp, by omega, Hnx.out _ _ H5.out O5.out⟩, by simp [intOf]; omega⟩
    · obtain rfl : i = N := by omega
      have d1 : decide ((i : Int) < (i : Int)) = false := by simp
      obtain ⟨v, c, hch, hok, hl, ha, hb⟩ := HI.out.ch
      have hBr : B ≤ wr.heap.size := by have := HI.out.bel.size; have := HB.out; omega
      have hcn : c.cnt < 1152921504606846976 := by unfold Ch.cnt; omega
      obtain ⟨m, hmm⟩ : ∃ m, m = c.ev.length := ⟨_, rfl⟩
      have hm64 : m ≤ 64 := by omega
      obtain ⟨to, hto⟩ : ∃ to : Nat, k % ((m : Int) + 1) = to := ⟨(k % ((m : Int) + 1)).toNat, by have := Int.emod_nonneg k (show (m : Int) + 1 ≠ 0 by omega); omega⟩
      have htm : to ≤ m := by have := Int.emod_lt_of_pos k (show (0 : Int) < (m : Int) + 1 by omega); omega
      have HE := hid (events_any hch hok)
      unfold EvPost at HE
      rw [← hmm] at HE
      have han : (ancC c).an = m := by show c.bn + c.ev.length = m; omega
      have hpe : pruE (ancC c) (to : Int) = 0 := by
        unfold pruE
        rw [han, show (ancC c).bn = 0 from hb, if_neg (by omega)]
      have hpn : pruN (ancC c) (to : Int) = (to : Int) := by
        unfold pruN
        rw [if_pos hpe, show (ancC c).bn = 0 from hb]
        omega
      have hpr : pruR (ancC c) (to : Int) = pruC (ancC c) to := by
        unfold pruR
        rw [if_pos hpe, show (ancC c).bn = 0 from hb, Int.toNat_natCast, Nat.sub_zero]
      have hae : addE (pruR (ancC c) (to : Int)) 1000 tx ty = if m - to < 64 then 0 else 26 := by
        have h1 : (pruC (ancC c) to).la = c.la := rfl
        have h2 : (pruC (ancC c) to).ev.length = m - to := by show (c.ev.drop to).length = _; rw [List.length_drop, ← hmm]
        have h3 : ¬ (12 < tx.size ∨ 30 < ty.size) := by decide
        rw [hpr]
        unfold addE
        rw [h1, h2, if_neg (by omega), if_neg h3, if_neg (by omega)]
        by_cases h : m - to < 64
        · rw [if_pos h, if_neg (by omega)]
        · rw [if_neg h, if_pos (by omega)]
      have hok5 := pruR_ok (ancC_ok hok) (to : Int)
      have hcn5 : (pruR (ancC c) (to : Int)).cnt < 1152921504606846976 := by rw [pruR_cnt (ancC_ok hok)]; exact hcn
      obtain ⟨c5, hc5⟩ : ∃ c5, c5 = pruR (ancC c) (to : Int) := ⟨_, rfl⟩
      rw [← hc5] at hae hok5 hcn5
      obtain ⟨e, hee⟩ : ∃ e, e = addEv c5 1000 tx ty := ⟨_, rfl⟩
      have HP := hid (fun (W : World) (h : ChAt W B g v (ancC c)) (hT : Tabs W B) (hB : B ≤ W.heap.size) => prune_any h (ancC_ok hok) hcn hT hB (to : Int))
      unfold PruPost at HP
      rw [hpe, hpn, ← hc5] at HP
      have HA := hid (fun (W : World) (v : Value) (h : ChAt W B g v c5) (hT : Tabs W B) (hB : B ≤ W.heap.size) => add_any h hok5 hcn5 hB 1000 tx ty (by decide) (by decide) hT)
      unfold AddPost at HA
      rw [hae, ← hee, show (eVals e).toArray = #[.int .i64 (e.num : Int), .int .i64 (e.tim : Int), .string e.what, .string e.who] from rfl] at HA
      have HC := hid hch
      have OK := hid hok
      have Hcn := hid hcn
      have hsub : ((m : Int) - (to : Int)) = ((m - to : Nat) : Int) := by omega
      have Hsub := hid hsub
      have hq : ((to : Int) == (to : Int)) = true := by simp
      clear hch hok hl ha hb hcn hmm hlt han hpe hpn hpr hae hok5 hcn5 hc5 hee hsub
      by_cases h64 : m - to < 64
      all_goals
        first | rw [if_pos h64] at HA | rw [if_neg h64] at HA
        have d9 : decide ((m : Int) - (to : Int) < 64) = decide (m - to < 64) := by rw [Hsub.out]; simp; omega
        first | rw [decide_eq_true h64] at d9 | rw [decide_eq_false h64] at d9
        go_wp2_with (first
          | (go_at_call 33; refine (HA.out _ _ C5.out T5.out hB5).mono ?_; rintro x w6 ⟨v6, rfl, h6, o6, _⟩; have b6 : Below B w5 w6 := o6.below hB5 C5.out.blk; have B6 := hid (B5.out.trans b6); clear h6 o6 b6)
          | (go_at_call 32; refine (HP.out _ C4.out T4.out hB4).mono ?_; rintro x w5 ⟨v5, rfl, h5, o5, _⟩; have C5 := hid h5; have b5 : Below B w4 w5 := o5.below hB4 C4.out.blk; have B5 := hid (B4.out.trans b5); have T5 := hid (T4.out.keep b5); have hB5 : B ≤ w5.heap.size := Nat.le_trans hB4 b5.size; clear h5 o5 b5)
          | (go_at_call 29; refine (anchor_any C3.out OK.out Hcn.out).mono ?_; rintro x w4 ⟨rfl, h4, o4⟩; have C4 := hid h4; have b4 : Below B w3 w4 := o4.below hB3 (fun j hj => by rw [hj]; exact C3.out.bg); have B4 := hid (B3.out.trans b4); have T4 := hid (T3.out.keep b4); have hB4 : B ≤ w4.heap.size := Nat.le_trans hB3 b4.size; clear h4 o4 b4)
          | (go_at_call 30; refine HE.out.mono ?_; rintro x w3 ⟨a3, cap3, rfl, _, b3⟩; have C3 := hid (HC.out.below b3); have B3 := hid (HI.out.bel.trans (b3.mono hBr)); have T3 := hid (HI.out.tb.below hBr b3); have hB3 : B ≤ w3.heap.size := Nat.le_trans hBr b3.size; clear b3))
        go_ret
        have hB6 : B ≤ w6.heap.size := by have := B6.out.size; have := HB.out; omega
        exact ⟨rfl, (B6.out.trans (((Below.refl _ w6).alloc (Nat.le_refl _) _).mono hB6)).mono (Nat.le_of_eq HB.out.symm)⟩
end Go.Proofs.YtbfoigppcbmikaaDoor
