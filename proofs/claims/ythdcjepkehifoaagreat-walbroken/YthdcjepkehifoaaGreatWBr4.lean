/- YthdcjepkehifoaaGreatWBr3 + YthdcjepkehifoaaGreatWBr4 -/
import Derived.Test.YthdcjepkehifoaaGreatWBr2
/- Open of the reference's log over any disk. -/
namespace Go.Proofs.YthdcjepkehifoaaGreat
open Go.RowKit Go.Maps
set_option linter.unusedVariables false
set_option maxRecDepth 20000

theorem num8_lt (l : List UInt8) (hl : l.length = 8) (h : (l[0]'(by omega)).toNat < 128) : num l < 9223372036854775808 := by
  obtain ⟨a, b, c, d, e, f, g, i, rfl⟩ : ∃ a b c d e f g i, l = [a, b, c, d, e, f, g, i] := by
    match l, hl with
    | [a, b, c, d, e, f, g, i], _ => exact ⟨a, b, c, d, e, f, g, i, rfl⟩
  have := b.toNat_lt
  have := c.toNat_lt
  have := d.toNat_lt
  have := e.toNat_lt
  have := f.toNat_lt
  have := g.toNat_lt
  have := i.toNat_lt
  simp only [List.getElem_cons_zero] at h
  simp [num]
  omega
/-- the bytes of a head -/
theorem head_of (x : List UInt8) (hl : x.length = 256) (h0 : x[0] = 72) (h1 : x[1] = 70) (hz : ∀ j (hj : j < x.length), 12 ≤ j → x[j] = 0) : x = headB (num ((x.drop 2).take 8)) (numAt x 10) := by
  unfold headB
  have e1 : be 8 (num ((x.drop 2).take 8)) = (x.drop 2).take 8 := by
    have := be_num ((x.drop 2).take 8)
    rw [List.length_take, List.length_drop, Nat.min_eq_left (by omega)] at this
    exact this
  have e2 : be 2 (numAt x 10) = (x.drop 10).take 2 := by
    have := be_num ((x.drop 10).take 2)
    rw [List.length_take, List.length_drop, Nat.min_eq_left (by omega)] at this
    exact this
  have e3 : List.replicate 244 0 = x.drop 12 := by
    apply List.ext_getElem
    · rw [List.length_replicate, List.length_drop]; omega
    · intro i h1 h2
      rw [List.getElem_replicate, List.getElem_drop]
      exact (hz _ _ (by omega)).symm
  have e0 : [72, 70] = x.take 2 := by
    have := take2 x 0 (by omega)
    rw [List.drop_zero] at this
    rw [this, h0, h1]
  rw [e1, e2, e3, e0]
  have a1 : (x.drop 10).take 2 ++ x.drop 12 = x.drop 10 := by
    have := List.take_append_drop 2 (x.drop 10)
    rw [List.drop_drop] at this
    exact this
  have a2 : (x.drop 2).take 8 ++ x.drop 10 = x.drop 2 := by
    have := List.take_append_drop 8 (x.drop 2)
    rw [List.drop_drop] at this
    exact this
  rw [a1, a2, List.take_append_drop]
theorem head_bytes (G U : Nat) (hG : G < 9223372036854775808) : (headB G U)[0]? = some 72 ∧ (headB G U)[1]? = some 70 ∧ (∃ c, (headB G U)[2]? = some c ∧ c.toNat < 128) ∧ ∀ j (hj : j < (headB G U).length), 12 ≤ j → (headB G U)[j] = 0 := by
  refine ⟨rfl, rfl, ?_, fun j hj h => ?_⟩
  · have h := be8_get G 0 (by omega)
    refine ⟨UInt8.ofNat (G / 2 ^ 56), ?_, ?_⟩
    · show (be 8 G ++ (be 2 U ++ List.replicate 244 0))[0]? = _
      rw [List.getElem?_append_left (by rw [be_length]; omega)]
      exact h
    · rw [UInt8.toNat_ofNat']
      show G / 2 ^ 56 % 256 < 128
      omega
  · have hj2 := hj
    rw [headB_length] at hj2
    have e : (headB G U)[j]? = some 0 := by
      unfold headB
      rw [List.getElem?_append_right (by simp; omega), List.getElem?_append_right (by rw [be_length]; simp; omega), List.getElem?_append_right (by rw [be_length, be_length]; simp; omega), List.getElem?_replicate, if_pos (by rw [be_length, be_length]; simp; omega)]
    rw [List.getElem?_eq_getElem hj] at e
    exact Option.some.inj e
theorem num_take (l : List UInt8) (k : Nat) (hk : k < l.length) : num (l.take (k + 1)) = num (l.take k) * 256 + l[k].toNat := by
  rw [List.take_succ_eq_append_getElem hk, num_snoc]
theorem num_take_lt (l : List UInt8) (hl : l.length = 8) (h : num l < 9223372036854775808) : ∀ k, k ≤ 8 → num (l.take k) * 256 ^ (8 - k) ≤ num l := by
  intro k hk
  induction hd : 8 - k generalizing k with
  | zero =>
    obtain rfl : k = 8 := by omega
    rw [List.take_of_length_le (by omega)]
    simp
  | succ d ih =>
    have := ih (k + 1) (by omega) (by omega)
    rw [num_take l k (by omega)] at this
    refine Nat.le_trans ?_ this
    rw [Nat.pow_succ, Nat.add_mul, Nat.mul_comm (256 ^ d) 256, ← Nat.mul_assoc]
    omega
theorem or_head (H : Nat) (q : UInt8) (hH : H < 36028797018963968) : bits .or .i64 ((H : Int) * 256) (q.toNat : Int) = ((H * 256 + q.toNat : Nat) : Int) := by
  have hq := q.toNat_lt
  rw [show (H : Int) * 256 = ((256 * H : Nat) : Int) by omega]
  have h1 : (BitVec.ofInt 64 ((256 * H : Nat) : Int)).toNat = 256 * H := by
    rw [BitVec.ofInt_natCast, BitVec.toNat_ofNat]; exact Nat.mod_eq_of_lt (by omega)
  have h2 : (BitVec.ofInt 64 (q.toNat : Int)).toNat = q.toNat := by
    rw [BitVec.ofInt_natCast, BitVec.toNat_ofNat]; exact Nat.mod_eq_of_lt (by omega)
  show IntKind.i64.wrap ((BitVec.ofInt 64 ((256 * H : Nat) : Int) ||| BitVec.ofInt 64 (q.toNat : Int)).toNat : Int) = _
  rw [BitVec.toNat_or, h1, h2]
  have := Nat.two_pow_add_eq_or_of_lt (i := 8) (b := q.toNat) (by omega) H
  rw [show 256 * H ||| q.toNat = 256 * H + q.toNat from this.symm, IntKind.wrap_i64]
  omega
/-- what Open tells of any disk -/
def ROpen (ps : List (List UInt8)) (S P : Nat) (w : World) (e : Ending) (w' : World) : Prop :=
  Below w.heap.size w w' ∧ ((∃ G gs m r F vs, LogInv ps S G gs P ∧ e = .returned (.tuple #[.pointer (some ⟨m, 0, none⟩), .int .i64 0]) ∧ RW w' w.heap.size m r F (.slice none 0 0) vs [] S G (usedOf gs) ps []) ∨ ((∀ G gs, ¬ LogInv ps S G gs P) ∧ e = .returned (.tuple #[.pointer none, .int .i64 15])))

set_option maxHeartbeats 3200000 in
theorem refOpen_any {w : World} {B r : Nat} {F L : Value} {vs us : List Value} {ps : List (List UInt8)} (h : RefAt w B r F L vs us ps []) (S P : Nat) (hlen : ps.length = S + 1 + P) (hS : 2 ≤ S) (hP : 1 ≤ P) (h2 : ps.length ≤ 1024) (hfull : ∀ p ∈ ps, p.length = 256) :
    Calls Tryz.prog 44 #[.pointer (some ⟨r, 0, none⟩), .int .i64 (S : Int)] w (ROpen ps S P w) := by
  have Hbl := hid (refBlocks_any h)
  have Him := hid (refImage_ok h (by simp) hfull (by omega) h2 (by simp))
  obtain ⟨n, hn⟩ : ∃ n, ps.length = n := ⟨_, rfl⟩
  rw [hn] at Hbl Him
  have f1 : IntKind.i64.wrap ((n : Int) - 2) = (n : Int) - 2 := by rw [IntKind.wrap_i64]; omega
  have f2 : decide ((n : Int) - 2 < (S : Int)) = false := by rw [decide_eq_false_iff_not]; omega
  have f3 : ¬ (S : Int) < 2 := by omega
  obtain ⟨x, hx⟩ : ∃ x, ps[0]? = some x := ⟨_, List.getElem?_eq_getElem (by omega)⟩
  have Hx0 := hid hx
  have Hx256 := hid (hfull x (List.mem_of_getElem? hx))
  have Hfull := hid hfull
  have Hlen := hid hlen
  have Hn := hid hn
  have Hinv : Hid (∀ G gs, HeadIn x G (usedOf gs) → usedOf gs ≤ S → GroupsAt ps P gs → LogInv ps S G gs P) := fun G gs g1 g2 g3 => ⟨hlen, hS, hP, h2, hfull, ⟨x, hx, g1⟩, g2, g3⟩
  have Hnoh : Hid ((∀ G U, ¬ HeadIn x G U) → ∀ G gs, ¬ LogInv ps S G gs P) := fun hno G gs hi => by
    obtain ⟨b, hb, hh⟩ := hi.head
    rw [hx] at hb
    cases hb
    exact hno _ _ hh
  clear h hx hn hlen hfull
  go_enter Tryz.func44, Tryz.ntmps44
  go_wp2_with (fail)
  refine Hbl.out.mono ?_
  rintro e w1 ⟨rfl, e1⟩
  subst w1
  go_wp2_with (fail)
  refine Him.out.mono ?_
  rintro e w2 ⟨b, c, vs', rfl, hI, hb2⟩
  have Hl := hid (refLoad_ok (ps := ps) (b := b) (c := c) (by rw [Hn.out]; exact hI) (by have := Hlen.out; omega) h2)
  rw [Hn.out] at Hl
  have Hb2 := hid hb2
  clear hI hb2 Him Hbl
  go_wp2_with (fail)
  refine Hl.out.mono ?_
  rintro e w3 ⟨hp | ⟨hp, r3, F3, vs3, rfl, hR⟩, hb3⟩
  · exfalso
    obtain ⟨⟨p, hp, hne⟩, _⟩ := hp
    exact hne (Hfull.out p hp)
  have HR := hid (hR.mono Hb2.out.size)
  have Hlt := hid hR.lts
  have Hb3 := hid (Hb2.out.trans (hb3.mono Hb2.out.size))
  clear hR hb3 hp Hl Hb2
  go_wp2_with (fail)
  have HR4 := hid (HR.out.below ((Below.refl _ w3).alloc (Nat.le_refl _) (.cells #[.pointer (some ⟨r3, 0, none⟩), .int .i64 (S : Int), .int .i64 0, .int .i64 0] 103)))
  have hn0 := heap_alloc_new w3 (.cells #[.pointer (some ⟨r3, 0, none⟩), .int .i64 (S : Int), .int .i64 0, .int .i64 0] 103)
  have Hb4 := hid (Hb3.out.alloc Hb3.out.size (.cells #[.pointer (some ⟨r3, 0, none⟩), .int .i64 (S : Int), .int .i64 0, .int .i64 0] 103))
  have HW : Hid (RW _ w.heap.size w3.heap.size r3 F3 (.slice none 0 0) vs3 [] S 0 0 ps []) := ⟨⟨hn0, HR4.out, Hb3.out.size⟩, fun k hk => by
    rcases hk with rfl | hk
    · have := Hlt.out.1; omega
    · have := (Hlt.out.2 k hk).2; omega, (fun c hc => by cases hc), Hfull.out⟩
  clear hn0 HR4 HR Hlt Hb3
  generalize w3.heap.size = m at *
  refine (rblock_any HW.out.mem HW.out.ok HW.out.full h2 (by simp) 0 x Hx0.out).mono ?_
  rintro e w5 ⟨v, rfl, ho, hb5⟩
  rw [Hx256.out] at ho
  obtain ⟨vb, vc, rfl, _, hvb0, hvb⟩ := row_form ho (by omega)
  have HB := hid (bytes_of_row ho Hx256.out)
  have Hb5 := hid (Hb4.out.trans (hb5.mono Hb4.out.size))
  have HW5 := hid (HW.out.below hb5)
  have hbm : vb ≠ m := by
    have := (HW.out.lts m (.inl rfl)).2
    omega
  clear ho hb5 HW Hb4
  have Hz := hid (zeros_any x vb 0 256 vc 0 w5 HB.out Hx256.out.symm (by omega) (by rw [Hx256.out]; omega))
  go_wp2_with (fail)
  refine Hz.out.mono ?_
  rintro e w6 ⟨rz, rfl, hrz, hw6⟩
  subst w6
  have Hrz := hid hrz
  clear hrz Hz
  cases rz with
  | true =>
    go_wp2
    go_ret2
    refine ⟨Hb5.out, .inl ⟨0, [], m, r3, F3, vs3, Hinv.out 0 [] (.inl ⟨?_, rfl, rfl⟩) (Nat.zero_le _) .nil, rfl, HW5.out⟩⟩
    apply List.ext_getElem (by rw [List.length_replicate]; exact Hx256.out)
    intro i h1 h2
    rw [List.getElem_replicate]
    exact Hrz.out.1 (by first | exact trivial | exact rfl) i h1 (Nat.zero_le _)
  | false =>
    have Hnz : Hid (x ≠ List.replicate 256 0) := fun e => by
      have : ∀ j (hj : j < x.length), 0 ≤ j → x[j] = 0 := fun j hj _ => by
        subst e
        rw [List.getElem_replicate]
      have := Hrz.out.2 this
      cases this
    have Hbad : Hid (¬ (x[0]'(by rw [Hx256.out]; omega) = 72 ∧ x[1]'(by rw [Hx256.out]; omega) = 70 ∧ (x[2]'(by rw [Hx256.out]; omega)).toNat < 128 ∧ ∀ j (hj : j < x.length), 12 ≤ j → x[j] = 0) → ∀ G U, ¬ HeadIn x G U) := fun hno G U hh => by
      rcases hh with ⟨e, _⟩ | ⟨e, hG, _⟩
      · exact Hnz.out e
      · obtain ⟨q0, q1, ⟨cc, q2, q3⟩, q4⟩ := head_bytes G U hG
        refine hno ⟨?_, ?_, ?_, ?_⟩
        · subst e; exact (List.getElem?_eq_some_iff.1 q0).2
        · subst e; exact (List.getElem?_eq_some_iff.1 q1).2
        · subst e; rw [(List.getElem?_eq_some_iff.1 q2).2]; exact q3
        · subst e; exact q4
    have hy0 : 0 < x.length := by rw [Hx256.out]; omega
    obtain ⟨_, _, ha0, k0⟩ := HB.out 0 (by rw [Hx256.out]; omega)
    cases ha0
    obtain ⟨_, _, ha1, k1⟩ := HB.out 1 (by rw [Hx256.out]; omega)
    cases ha1
    obtain ⟨_, _, ha2, k2⟩ := HB.out 2 (by rw [Hx256.out]; omega)
    cases ha2
    have Hz12 := hid (zeros_any x vb 0 256 vc 12 w5 HB.out Hx256.out.symm (by rw [Hx256.out]; omega) (by rw [Hx256.out]; omega))
    have Hgood : Hid (x[0]'(by rw [Hx256.out]; omega) = 72 → x[1]'(by rw [Hx256.out]; omega) = 70 → (x[2]'(by rw [Hx256.out]; omega)).toNat < 128 → (∀ j (hj : j < x.length), 12 ≤ j → x[j] = 0) → HeadIn x (num ((x.drop 2).take 8)) (numAt x 10) ∧ num ((x.drop 2).take 8) < 9223372036854775808) := fun g0 g1 g2 g3 => by
      have e := head_of x Hx256.out g0 g1 g3
      have hl : num ((x.drop 2).take 8) < 9223372036854775808 := num8_lt _ (by rw [List.length_take, List.length_drop, Hx256.out]; rfl) (by rw [List.getElem_take, List.getElem_drop]; exact g2)
      exact ⟨.inr ⟨e, hl, numAt_lt _ _⟩, hl⟩
    have h72 : ∀ c : UInt8, c = 72 ↔ c.toNat = 72 := fun c => ⟨fun h => by rw [h]; rfl, fun h => UInt8.toNat_inj.1 h⟩
    have h70 : ∀ c : UInt8, c = 70 ↔ c.toNat = 70 := fun c => ⟨fun h => by rw [h]; rfl, fun h => UInt8.toNat_inj.1 h⟩
    rw [h72, h70] at Hbad Hgood
    generalize hX0 : (x[0]'(by rw [Hx256.out]; omega)).toNat = X0 at *
    generalize hX1 : (x[1]'(by rw [Hx256.out]; omega)).toNat = X1 at *
    generalize hX2 : (x[2]'(by rw [Hx256.out]; omega)).toNat = X2 at *
    clear h72 h70 hX0 hX1 hX2
    have hOut : Hid (∀ e, (∀ G U, ¬ HeadIn x G U) → e = .returned (.tuple #[.pointer none, .int .i64 15]) → ROpen ps S P w e w5) := fun e hno he => ⟨Hb5.out, .inr ⟨Hnoh.out hno, he⟩⟩
    rcases (show X0 ≠ 72 ∨ (X0 = 72 ∧ X1 ≠ 70) ∨ (X0 = 72 ∧ X1 = 70 ∧ ¬ X2 < 128) ∨ (X0 = 72 ∧ X1 = 70 ∧ X2 < 128) by omega) with h0 | ⟨h0, h1⟩ | ⟨h0, h1, h2'⟩ | ⟨h0, h1, h2'⟩
    · have d0 : ((X0 : Int) != 72) = true := by rw [bne_iff_ne]; omega
      go_wp2
      go_ret2
      exact hOut.out _ (Hbad.out (fun h => h0 h.1)) rfl
    · have d0 : ((X0 : Int) != 72) = false := by rw [h0]; rfl
      have d1 : ((X1 : Int) != 70) = true := by rw [bne_iff_ne]; omega
      go_wp2
      go_ret2
      exact hOut.out _ (Hbad.out (fun h => h1 h.2.1)) rfl
    · have d0 : ((X0 : Int) != 72) = false := by rw [h0]; rfl
      have d1 : ((X1 : Int) != 70) = false := by rw [h1]; rfl
      have d2 : (128 : Int) ≤ (X2 : Int) := by omega
      go_wp2
      go_ret2
      exact hOut.out _ (Hbad.out (fun h => h2' h.2.2.1)) rfl
    have d0 : ((X0 : Int) != 72) = false := by rw [h0]; rfl
    have d1 : ((X1 : Int) != 70) = false := by rw [h1]; rfl
    have d2 : ¬ (128 : Int) ≤ (X2 : Int) := by omega
    go_wp2_with (fail)
    refine Hz12.out.mono ?_
    rintro e w7 ⟨r12, rfl, hr12, hw7⟩
    subst w7
    have Hr12 := hid hr12
    clear hr12 Hz12 k0 k1 k2
    cases r12 with
    | false =>
      go_wp2
      go_ret2
      exact hOut.out _ (Hbad.out (fun h => by have := Hr12.out.2 h.2.2.2; cases this)) rfl
    | true =>
      obtain ⟨hHI, hGl⟩ := Hgood.out h0 h1 h2' (Hr12.out.1 (by first | exact trivial | exact rfl))
      have HHI := hid hHI
      have hL8 : ((x.drop 2).take 8).length = 8 := by rw [List.length_take, List.length_drop, Hx256.out]; rfl
      have Hpre : Hid (∀ k, k < 8 → num (((x.drop 2).take 8).take k) < 36028797018963968) := fun k hk => by
        have := num_take_lt _ hL8 hGl k (by omega)
        have h3 : 256 ^ 1 ≤ 256 ^ (8 - k) := Nat.pow_le_pow_right (by omega) (by omega)
        have h4 := Nat.mul_le_mul_left (num (((x.drop 2).take 8).take k)) h3
        omega
      have Hbit : Hid (∀ k (hk : k < 8), num (((x.drop 2).take 8).take (k + 1)) = num (((x.drop 2).take 8).take k) * 256 + (x[2 + k]'(by rw [Hx256.out]; omega)).toNat) := fun k hk => by
        rw [num_take _ k (by rw [hL8]; exact hk)]
        congr 2
        rw [List.getElem_take, List.getElem_drop]
      have Hall : Hid (((x.drop 2).take 8).take 8 = (x.drop 2).take 8) := by exact List.take_of_length_le (by rw [hL8]; exact Nat.le_refl _)
      generalize (x.drop 2).take 8 = y8 at *
      clear Hr12 Hbad Hgood hHI hL8
      have HK0 : Hid (RW w5 w.heap.size m r3 F3 (.slice none 0 0) vs3 [] S (num (y8.take 0)) 0 ps []) := by rw [List.take_zero]; exact HW5.out
      go_wp2
      clear d0 d1 d2 h0 h1 h2'
      go_loopw [10] (fun i wr => ∃ k : Nat, k ≤ 8 ∧ i = .int .i64 ((2 + k : Nat) : Int) ∧ RW wr w.heap.size m r3 F3 (.slice none 0 0) vs3 [] S (num (y8.take k)) 0 ps [] ∧ Out (fun j => j = m) w5 wr) (fun i _ => 10 - (intOf i).toNat)
      case atStart => exact ⟨0, Nat.zero_le _, rfl, HK0.out, Out.refl _ _⟩
      case round =>
        obtain ⟨k, hk, rfl, hW, hO⟩ := hrel
        have HWr := hid hW
        have HO := hid hO
        have c2 := hW.mem.c2
        have z2 := frozen_of_row _ _ 2 _ _ hW.mem.obj
        clear hW hO HK0
        have HBr := hid (HB.out.keep (HO.out.block vb hvb hbm))
        by_cases hlt : k < 8
        · obtain ⟨_, _, hak, kk⟩ := HBr.out (2 + k) (by rw [Hx256.out]; omega)
          cases hak
          rw [Nat.zero_add] at kk
          have Hor := hid (or_head (num (y8.take k)) (x[2 + k]'(by rw [Hx256.out]; omega)) (Hpre.out k hlt))
          rw [← Hbit.out k hlt] at Hor
          have hHb := Hpre.out k hlt
          have hqb := (x[2 + k]'(by rw [Hx256.out]; omega)).toNat_lt
          have e5 : IntKind.i64.wrap ((num (y8.take k) : Int) * 256) = (num (y8.take k) : Int) * 256 := by rw [IntKind.wrap_i64]; omega
          have e6 : IntKind.i64.wrap ((x[2 + k]'(by rw [Hx256.out]; omega)).toNat : Int) = ((x[2 + k]'(by rw [Hx256.out]; omega)).toNat : Int) := by rw [IntKind.wrap_i64]; omega
          have e1 : ((2 + k : Nat) : Int) < 10 := by omega
          have e2 : ((2 + k : Nat) : Int) < 256 := by omega
          have e3 : (0 : Int) ≤ ((2 + k : Nat) : Int) := by omega
          go_wp2
          go_region
          rw [Hor.out]
          have HS := hid ((HWr.out.set2 (num (y8.take (k + 1)))).below (w' := (wr.setCell ⟨m, 2, none⟩ (.int .i64 ((num (y8.take (k + 1)) : Nat) : Int))).drew) ⟨rfl, rfl, rfl, Nat.le_refl _, fun _ _ => rfl⟩)
          have HO2 := hid ((HO.out.comp (out_set wr m 2 (.int .i64 ((num (y8.take (k + 1)) : Nat) : Int))) (fun j hj => .inl hj)).on2 (w2 := (wr.setCell ⟨m, 2, none⟩ (.int .i64 ((num (y8.take (k + 1)) : Nat) : Int))).drew) ⟨rfl, rfl, rfl, Nat.le_refl _, fun _ _ => rfl⟩)
          generalize (wr.setCell ⟨m, 2, none⟩ (.int .i64 ((num (y8.take (k + 1)) : Nat) : Int))).drew = V9 at *
          clear Hor
          go_wp2
          go_roundw
          case rel => exact ⟨k + 1, by omega, by go_num, HS.out, HO2.out⟩
          case measure => simp [intOf]; omega
        · obtain rfl : k = 8 := by omega
          rw [show ((2 + 8 : Nat) : Int) = 10 from rfl]
          rw [Hall.out] at HWr
          have hpa := pair_any x vb 0 256 vc 10 wr HBr.out Hx256.out.symm (by rw [Hx256.out]; omega) (by rw [Hx256.out]; omega)
          rw [← numAt_eq x 10 (by rw [Hx256.out]; omega)] at hpa
          have Hpa := hid hpa
          have hU16 := numAt_lt x 10
          generalize numAt x 10 = U at *
          generalize num y8 = GG at *
          clear hpa c2 z2 Hpre Hbit Hall
          go_wp2_with (fail)
          refine Hpa.out.mono ?_
          rintro e w8 ⟨rfl, hb8⟩
          have HW8 := hid (HWr.out.below hb8)
          have HO8 := hid (HO.out.on2 hb8)
          have z3 := frozen_of_row _ _ 3 _ _ HW8.out.mem.obj
          have c3 := HW8.out.mem.c3
          clear hb8 Hpa HWr HO HBr
          have HS : Hid (RW (w8.setCell ⟨m, 3, none⟩ (.int .i64 (U : Int))) w.heap.size m r3 F3 (.slice none 0 0) vs3 [] S GG U ps []) := HW8.out.set3 U
          have HO9 := hid (HO8.out.comp (out_set w8 m 3 (.int .i64 (U : Int))) (fun j hj => .inl hj))
          have Hbel : Hid (Below w.heap.size w (w8.setCell ⟨m, 3, none⟩ (.int .i64 (U : Int)))) := Hb5.out.trans (HO9.out.below Hb5.out.size (fun j hj => by subst hj; exact (HW8.out.lts j (.inl rfl)).1))
          by_cases hUS : U ≤ S
          · have e1 : ¬ (S : Int) < (U : Int) := by omega
            go_wp2
            generalize w8.setCell ⟨m, 3, none⟩ (.int .i64 (U : Int)) = W9 at *
            clear c3 z3 HW8 HO8 HO9 e1
            rw [decide_eq_false (show ¬ S < U by omega)]
            go_loopw [11] (fun i wr => ∃ pre, GroupsAt ps P pre ∧ usedOf pre ≤ U ∧ i = .int .i64 ((1 + usedOf pre : Nat) : Int) ∧ RW wr w.heap.size m r3 F3 (.slice none 0 0) vs3 [] S GG U ps [] ∧ Below w.heap.size w wr) (fun i _ => U + 1 - (intOf i).toNat)
            case atStart => exact ⟨[], .nil, Nat.zero_le _, rfl, HS.out, Hbel.out⟩
            case round =>
              obtain ⟨pre, hpre, hup, rfl, hW, hB⟩ := hrel
              have HWr := hid hW
              have HBe := hid hB
              have Hpre := hid hpre
              have c3 := hW.mem.c3
              clear hW hB hpre HS Hbel
              rcases (show usedOf pre = U ∨ usedOf pre < U by omega) with heq | hlt
              · have e1 : ¬ ((1 + usedOf pre : Nat) : Int) ≤ (U : Int) := by omega
                have Heq := hid heq
                clear heq
                go_wp2
                go_ret2
                have hi := Hinv.out GG pre (by rw [Heq.out]; exact HHI.out) (by omega) Hpre.out
                exact ⟨HBe.out, .inl ⟨GG, pre, m, r3, F3, vs3, hi, rfl, by rw [Heq.out]; exact HWr.out⟩⟩
              · have e1 : ((1 + usedOf pre : Nat) : Int) ≤ (U : Int) := by omega
                obtain ⟨xb, hxb⟩ : ∃ xb, ps[1 + usedOf pre]? = some xb := ⟨_, List.getElem?_eq_getElem (by have := Hlen.out; omega)⟩
                have Hxb := hid hxb
                have Hgr := hid (group_any HWr.out.mem HWr.out.ok HWr.out.full P Hlen.out h2 (by simp) (1 + usedOf pre) xb hxb (Hfull.out xb (List.mem_of_getElem? hxb)) U (by have := Hlen.out; omega) (by have := Hlen.out; omega))
                clear hxb
                go_wp2_with (fail)
                refine Hgr.out.mono ?_
                rintro e wg ⟨vg, okg, rfl, hbg, hg⟩
                have Hg := hid hg
                have HBg := hid (HBe.out.trans (hbg.mono HBe.out.size))
                have HWg := hid (HWr.out.below hbg)
                clear hg hbg Hgr c3 HBe HWr
                rcases Hg.out with ⟨rfl, ns, va, vcc, rfl, hxe, hgi, hle⟩ | ⟨rfl, hno⟩
                · have e2 : IntKind.i64.wrap (1 + (ns.length : Int)) = 1 + (ns.length : Int) := by rw [IntKind.wrap_i64]; omega
                  have e3 : IntKind.i64.wrap (((1 + usedOf pre : Nat) : Int) + (1 + (ns.length : Int))) = ((1 + usedOf pre : Nat) : Int) + (1 + (ns.length : Int)) := by rw [IntKind.wrap_i64]; omega
                  have Hgi := hid hgi
                  have Hxe := hid hxe
                  clear hgi hxe
                  go_wp2
                  go_roundw
                  case rel => exact ⟨pre ++ [ns], .snoc Hpre.out (by rw [Hxb.out, Hxe.out]) Hgi.out, by rw [usedOf_snoc]; omega, by rw [usedOf_snoc]; go_num, HWg.out, HBg.out⟩
                  case measure => simp [intOf]; omega
                · have Hnone : Hid (∀ G gs, ¬ LogInv ps S G gs P) := fun G gs hi => by
                    obtain ⟨bh, hbh, hh⟩ := hi.head
                    rw [Hx0.out] at hbh
                    cases hbh
                    obtain ⟨_, hu⟩ := hh.uniq HHI.out
                    obtain ⟨rest, e⟩ := Hpre.out.pref (by have := Hlen.out; omega) hi.groups (by omega)
                    cases rest with
                    | nil => rw [List.append_nil] at e; rw [e] at hu; omega
                    | cons ms rest =>
                      have hgr := hi.groups
                      rw [e] at hgr
                      obtain ⟨g1, g2, _⟩ := hgr.next
                      rw [Hxb.out] at g1
                      refine hno ms g2 (Option.some.inj g1) ?_
                      rw [e, show pre ++ ms :: rest = (pre ++ [ms]) ++ rest by simp, usedOf_append, usedOf_snoc] at hu
                      omega
                  clear hno Hg
                  go_wp2
                  go_ret2
                  exact ⟨HBg.out, .inr ⟨Hnone.out, rfl⟩⟩
          · have e1 : (S : Int) < (U : Int) := by omega
            have Hnone : Hid (∀ G gs, ¬ LogInv ps S G gs P) := fun G gs hi => by
              obtain ⟨bh, hbh, hh⟩ := hi.head
              rw [Hx0.out] at hbh
              cases hbh
              obtain ⟨_, hu⟩ := hh.uniq HHI.out
              have := hi.used
              omega
            go_wp2
            go_ret2
            exact ⟨Hbel.out, .inr ⟨Hnone.out, rfl⟩⟩
end Go.Proofs.YthdcjepkehifoaaGreat

/- Rows of bytes that are written over; bytes that are changed, as an argument. -/
namespace Go.Proofs.YthdcjepkehifoaaGreat
open Go.RowKit Go.Maps
set_option linter.unusedVariables false
set_option maxRecDepth 20000

/-- one byte of one row of an image, stored: what rows it changes is not asked -/
theorem img_store {w : World} {B : Nat} {V : Value} {vs : List Value} {ps : List (List UInt8)} (h : ImgAt w B V vs ps) (hp : ∀ p ∈ ps, p.length = 256) (hV : 0 < ps.length) (i : Nat) (hi' : i < vs.length) (g c : Nat) (hv : vs[i] = .slice (some ⟨g, 0, none⟩) 256 c) (k : Nat) (b : UInt8) :
    ∃ ps', ImgAt (w.setCell ⟨g, k, none⟩ (.int .u8 (b.toNat : Int))) B V vs ps' ∧ ps'.length = ps.length ∧ ∀ p ∈ ps', p.length = 256 := by
  have hvl := h.vlen
  have hrow : ∀ j (hj : j < ps.length) (hj' : j < vs.length), w.ownsRow B 5 1 vs[j] 256 (cellsOf ps[j]) := fun j hj hj' => by
    have := h.rows j hj hj'
    rw [hp _ (List.getElem_mem hj)] at this
    exact this
  have hVg : V.ownBlock ≠ some g := by
    intro e
    have hr := hrow i (by omega) hi'
    rw [hv] at hr
    rcases hr.2 with ⟨h1, _⟩ | ⟨g1, cap1, cur1, h1, _, hh1, _⟩
    · cases h1
    · cases h1
      rcases h.row.2 with ⟨h2, _⟩ | ⟨g2, cap2, cur2, h2, _, hh2, _⟩
      · rw [h2] at e; cases e
      · rw [h2] at e
        cases e
        rw [hh1] at hh2
        cases hh2
  refine ⟨(List.range ps.length).map fun j => if (vs.getD j undef).ownBlock = some g then (ps.getD j []).set k b else ps.getD j [], ⟨?_, by simp [hvl], fun j hj hj' => ?_⟩, by simp, fun p hp' => ?_⟩
  · rw [List.length_map, List.length_range]
    exact own_keep h.row fun j e => heap_setCell_other _ _ _ _ (fun e' => hVg (by rw [e, e']))
  · rw [List.length_map, List.length_range] at hj
    have hr := hrow j hj hj'
    have e1 : vs.getD j undef = vs[j] := by simp [List.getD, List.getElem?_eq_getElem hj']
    have e2 : ps.getD j [] = ps[j] := by simp [List.getD, List.getElem?_eq_getElem hj]
    simp only [List.getElem_map, List.getElem_range, e1, e2]
    by_cases hb : vs[j].ownBlock = some g
    · rw [if_pos hb, List.length_set, hp _ (List.getElem_mem hj)]
      obtain ⟨g2, c2, e, _, _⟩ := row_form hr (by omega)
      rw [e] at hb hr ⊢
      cases hb
      have hs := (hr.stored k (.int .u8 (b.toNat : Int))).1
      rw [cellsOf_set] at hs
      exact hs
    · rw [if_neg hb, hp _ (List.getElem_mem hj)]
      exact own_keep hr fun q e => heap_setCell_other _ _ _ _ (fun e' => hb (by rw [e, e']))
  · obtain ⟨j, hj, rfl⟩ := List.mem_map.1 hp'
    have hj := List.mem_range.1 hj
    have e2 : ps.getD j [] = ps[j] := by simp [List.getD, List.getElem?_eq_getElem hj]
    rw [e2]
    split
    · rw [List.length_set]; exact hp _ (List.getElem_mem hj)
    · exact hp _ (List.getElem_mem hj)

/-- a byte that is changed -/
structure Sp where
  bk : Int
  at0 : Int
  y : UInt8
deriving Inhabited
def SpsAt (w : World) (a : Option Addr) (l : List Sp) : Prop := ∀ i (h : i < l.length), ∃ b o, a = some ⟨b, o, none⟩ ∧ w.cell? ⟨b, o + i * 3, none⟩ = some (.int .i64 l[i].bk) ∧ w.cell? ⟨b, o + i * 3 + 1, none⟩ = some (.int .i64 l[i].at0) ∧ w.cell? ⟨b, o + i * 3 + 2, none⟩ = some (.int .u8 (l[i].y.toNat : Int))
theorem SpsAt.below {w w' : World} {a : Option Addr} {l : List Sp} (h : SpsAt w a l) (hb : Below w.heap.size w w') : SpsAt w' a l := fun i hi => by
  obtain ⟨b, o, e, h0, h1, h2⟩ := h i hi
  have hk := hb.block b (World.block_lt_of_cell? _ _ h0)
  exact ⟨b, o, e, (World.cell?_of_block (a := ⟨b, _, none⟩) hk).trans h0, (World.cell?_of_block (a := ⟨b, _, none⟩) hk).trans h1, (World.cell?_of_block (a := ⟨b, _, none⟩) hk).trans h2⟩
theorem list3 {α : Type} {l : List α} (h : l.length = 3) : ∃ a b c, l = [a, b, c] := by
  match l, h with
  | [a, b, c], _ => exact ⟨a, b, c, rfl⟩
theorem cellsSp : Tryz.prog.cellsOf 59 = 3 := by kernel_rfl
open Go.ChangeShapes Go.WideShapes Go.ChangeAt Go.Deep
theorem open_sps {H : Type} {enc : TypeId × Value → H} {W : World} {a : Option Addr} {len cap : Nat} {d : DataW H} {p : List MemPlace}
    (h : DataW.Trod enc Tryz.prog W 0 (fun _ => true) true 57 (.slice a len cap) d p) : ∃ l : List Sp, l.length = len ∧ SpsAt W a l := by
  obtain ⟨fuel, hf⟩ := h
  rcases open_slice Tryz.underlying57 hf with ⟨hcs, _⟩ | ⟨x, l', c', m, n, D, Pl, hcs, hb, hl, hm, hmm, _, hx⟩
  · simp [Value.cells] at hcs
    obtain ⟨rfl, rfl, rfl⟩ := hcs
    exact ⟨[], rfl, fun i hi => by simp at hi⟩
  · simp [Value.cells] at hcs
    obtain ⟨rfl, rfl, rfl⟩ := hcs
    simp only [if_true] at hmm
    rw [cellsSp] at hx
    have each : ∀ i, i < len → ∃ q : Sp, ∃ b o, x = ⟨b, o, none⟩ ∧ W.cell? ⟨b, o + i * 3, none⟩ = some (.int .i64 q.bk) ∧ W.cell? ⟨b, o + i * 3 + 1, none⟩ = some (.int .i64 q.at0) ∧ W.cell? ⟨b, o + i * 3 + 2, none⟩ = some (.int .u8 (q.y.toNat : Int)) := by
      intro i hi
      obtain ⟨cs', h1, h2⟩ := hx i (by omega)
      obtain ⟨_, hlen, hcell⟩ := World.cells?_some h1
      obtain ⟨xs, k, hk, hxy, _, hxl, hf⟩ := DataW.trod_struct Tryz.underlying59 h2
      obtain ⟨v0, v1, v2, rfl⟩ := list3 hlen
      have g0 := hf 0 _ rfl
      have g1 := hf 1 _ rfl
      have g2 := hf 2 _ rfl
      have s1 : Tryz.prog.cellsOf 3 = 1 := by kernel_rfl
      have s2 : Tryz.prog.cellsOf 5 = 1 := by kernel_rfl
      simp [s1, s2] at g0 g1 g2
      have q0 : ∃ y, DataW.trod enc Tryz.prog W 0 (fun _ => true) true k 3 [v0] = some y := ⟨_, g0.trans (List.getElem?_eq_getElem (by rw [hxl]; decide))⟩
      have q1 : ∃ y, DataW.trod enc Tryz.prog W 0 (fun _ => true) true k 3 [v1] = some y := ⟨_, g1.trans (List.getElem?_eq_getElem (by rw [hxl]; decide))⟩
      have q2 : ∃ y, DataW.trod enc Tryz.prog W 0 (fun _ => true) true k 5 [v2] = some y := ⟨_, g2.trans (List.getElem?_eq_getElem (by rw [hxl]; decide))⟩
      obtain ⟨y0, q0⟩ := q0
      obtain ⟨y1, q1⟩ := q1
      obtain ⟨y2, q2⟩ := q2
      obtain ⟨i0, e0, _, _⟩ := DataW.trod_int Tryz.underlying3 q0
      obtain ⟨i1, e1, _, _⟩ := DataW.trod_int Tryz.underlying3 q1
      obtain ⟨b, e2, _, hb⟩ := DataW.trod_int Tryz.underlying5 q2
      obtain ⟨b', rfl⟩ := byte_of' hb
      simp only [List.cons.injEq, and_true] at e0 e1 e2
      subst e0 e1 e2
      have c0 := hcell 0 (by omega)
      have c1 := hcell 1 (by omega)
      have c2 := hcell 2 (by omega)
      rw [Deep.add_add] at c0 c1 c2
      obtain ⟨bb, o, spot⟩ := x
      have hspot : spot = none := by
        obtain ⟨cs0, z1, _⟩ := hx 0 (by omega)
        obtain ⟨_, zl, zc⟩ := World.cells?_some z1
        have := (zc 0 (by omega)).trans (List.getElem?_eq_getElem (by omega))
        simpa [Addr.add] using World.cell?_spot this
      subst hspot
      rw [addr_add] at c0 c1 c2
      exact ⟨⟨i0, i1, b'⟩, bb, o, rfl, by simpa using c0, by simpa [Nat.add_assoc] using c1, by simpa [Nat.add_assoc] using c2⟩
    obtain ⟨q, hq⟩ := choose_lt each
    refine ⟨(List.range len).map q, by simp, fun i hi => ?_⟩
    have hi' : i < len := by simpa using hi
    obtain ⟨b, o, e, h0, h1, h2⟩ := hq i hi'
    refine ⟨b, o, by rw [e], ?_, ?_, ?_⟩
    · simpa using h0
    · simpa using h1
    · simpa using h2
theorem inv_uniq {ps : List (List UInt8)} {S G G' P : Nat} {gs gs' : List (List Nat)} (h : LogInv ps S G gs P) (h' : LogInv ps S G' gs' P) : G = G' ∧ gs = gs' := by
  obtain ⟨b, hb, hh⟩ := h.head
  obtain ⟨b', hb', hh'⟩ := h'.head
  rw [hb] at hb'
  cases hb'
  obtain ⟨e1, e2⟩ := hh.uniq hh'
  have h1 := h.len
  have h2 := h.most
  exact ⟨e1, h.groups.uniq (by omega) h'.groups e2⟩
theorem inv_G {ps : List (List UInt8)} {S G P : Nat} {gs : List (List Nat)} (h : LogInv ps S G gs P) : G < 9223372036854775808 := by
  obtain ⟨b, _, hh⟩ := h.head
  rcases hh with ⟨_, h1, _⟩ | ⟨_, h1, _⟩
  · omega
  · exact h1
end Go.Proofs.YthdcjepkehifoaaGreat
