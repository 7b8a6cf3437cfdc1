/- GrantRooms walked. -/
import Derived.Test.YtlkbojgemcjilaaU25
import Derived.Deep.RegionHeld3
namespace Go.Proofs.Ytlkbojgemcjilaa
open Go.RowKit Go.Maps
set_option linter.unusedVariables false
set_option maxRecDepth 20000
/-- string of a row of one byte that was just made -/
theorem conv1U (w : World) (x : Nat) (hx : x < 256) (cap : Nat) : (convert 47 9 (.slice (some ⟨w.heap.size, 0, none⟩) 1 cap)).run Try.prog (w.alloc (.cells #[.int .u8 (x : Int)] 5)) = .ok (.string ⟨#[UInt8.ofNat x]⟩) (w.alloc (.cells #[.int .u8 (x : Int)] 5)) := by
  refine run_convert_bytes_back (P := Try.prog) _ 47 9 5 ⟨w.heap.size, 0, none⟩ cap [UInt8.ofNat x] Try.underlying47 Try.underlying5 Try.underlying9 (fun j hj => ?_)
  have hj0 : j = 0 := by simpa using hj
  subst hj0
  refine (cell_of_rowU _ _ 0 _ _ _ (heap_allocN w _)).trans ?_
  simp
  omega
def nmU (k : Nat) : ByteArray := ⟨#[UInt8.ofNat (97 + k)]⟩
def clK (k : Nat) : Cl := ⟨tU, nmU k, ⟨#[]⟩, 1⟩
def coK (k : Nat) : Co := ⟨tU, uU, nmU k, 1⟩
def stR : Nat → GS
  | 0 => s0U
  | k + 1 => ((stR k).reg (clK k)).alw (coK k)
theorem stR_reg : ∀ k : Fin 7, regEs (stR k.val) (clK k.val) = if k.val < 4 then 0 else 24 := by decide +kernel
theorem stR_alw : ∀ k : Fin 7, allEs ((stR k.val).reg (clK k.val)) (coK k.val) = if k.val < 4 then 0 else 4 := by decide +kernel
theorem stR_len : ∀ k : Fin 8, ((stR k.val).cs.filter (inT tU)).length = consN (stR k.val) tU uU ∧ consN (stR k.val) tU uU ≤ 4 ∧ consN ((stR k.val).dropU tU uU) tU uU = 0 := by decide +kernel
theorem nmU_sz (k : Nat) : (nmU k).size ≤ maxLen := by
  show 1 ≤ maxLen
  unfold maxLen
  omega
theorem clK_in (k : Nat) : ClIn (clK k) := ⟨by show 1 ≤ 9223372036854775807; omega, by show 1 ≤ 9223372036854775807; omega, by show 0 ≤ 9223372036854775807; omega, by show 1 ≤ 255; omega⟩
set_option maxHeartbeats 8000000 in
theorem grantRooms_walk (n : Int) (hn : (Lit.int .u8 n).wf = true) (w : World) :
    Calls Try.prog 5 #[.int .u8 n] w fun e w' => e = .returned (.bool true) ∧ Below w.heap.size w w' := by
  have hn9 : 0 ≤ n ∧ n ≤ 255 := by simpa [Lit.wf, IntKind.min, IntKind.max, IntKind.signed, IntKind.bits] using hn
  have HN := hid (gNew_any w w.heap.size (Nat.le_refl _))
  have HLv := hid liveG_any
  have HR := hid (fun (k : Nat) (hk : k < 7) (V : World) (g : Nat) (X : Nat → Prop) (h : GP V w.heap.size g (stR k) k (2 * k) X) => (show Calls Try.prog 14 #[.pointer (some ⟨g, 0, none⟩), .agg #[.string ⟨#[116]⟩, .string (nmU k), .string ⟨#[]⟩, .int .u8 1]] V fun e w' => e = .returned (.int .i64 ((if k < 4 then 0 else 24 : Nat) : Int)) ∧ Turned V w' w.heap.size g ((stR k).reg (clK k)) (k + 1) (2 * k + 1) X from by
    have h9 := gRegister_any h (by omega) (by omega) (clK k) (clK_in k)
    rw [stR_reg ⟨k, hk⟩] at h9
    exact h9))
  have HA := hid (fun (k : Nat) (hk : k < 7) (V : World) (g : Nat) (X : Nat → Prop) (h : GP V w.heap.size g ((stR k).reg (clK k)) (k + 1) (2 * k + 1) X) => (show Calls Try.prog 15 #[.pointer (some ⟨g, 0, none⟩), .agg #[.string ⟨#[116]⟩, .string ⟨#[117]⟩, .string (nmU k), .int .u8 1]] V fun e w' => e = .returned (.int .i64 ((if k < 4 then 0 else 4 : Nat) : Int)) ∧ Turned V w' w.heap.size g (stR (k + 1)) (k + 1) (2 * (k + 1)) X from by
    have h9 := gAllow_any h (by omega) (by omega) (coK k) sz1 sz2 (nmU_sz k) (by show 1 ≤ 255; omega)
    rw [stR_alw ⟨k, hk⟩] at h9
    exact h9))
  obtain ⟨q, hq⟩ : ∃ q : Nat, q = (n % 8).toNat := ⟨_, rfl⟩
  have hr8 : n % 8 = (q : Int) := by omega
  have hq7 : q ≤ 7 := by omega
  have Hq := hid hr8
  have htm : n.tmod 8 = (q : Int) := by rw [Int.tmod_eq_emod_of_nonneg hn9.1]; exact hr8
  obtain ⟨hn0, hn255⟩ := hn9
  clear hn hq htm
  go_enter Try.func5, Try.ntmps5
  go_wp2_with (first
    | (go_at_call 6; refine HN.out.mono ?_; rintro _ w1 ⟨g, X1, rfl, b1, g1, _⟩; have B1 := hid b1; have G1 := hid g1; clear HN b1 g1)
    | (go_at_call 8; refine (HLv.out _).mono ?_; rintro _ w2 ⟨rfl, b2⟩; have B2 := hid (Below.on' B1.out b2); have G2 := hid (G1.out.below b2); clear HLv b2 G1))
  obtain ⟨W, hW⟩ : ∃ W, W = w2.alloc (.cells #[.string ⟨#[116]⟩, .string ⟨#[117]⟩] 24) := ⟨_, rfl⟩
  have bW : Below w2.heap.size w2 W := by rw [hW]; exact (Below.refl _ w2).alloc (Nat.le_refl _) _
  have xW : W.heap[w2.heap.size]? = some (.cells #[.string ⟨#[116]⟩, .string ⟨#[117]⟩] 24 (0, 0)) := by rw [hW]; exact heap_allocN w2 _
  have G3 := hid (G2.out.below bW)
  have B3 := hid (Below.on' B2.out bW)
  have X3 := hid xW
  rw [← hW]
  clear hW bW xW G2
  go_loopw [5, 6, 7, 8] (fun i _ _ _ wr => ∃ k : Nat, k ≤ q ∧ i = .int .i64 (k : Int) ∧ (∃ X, GP wr w.heap.size g (stR k) k (2 * k) X) ∧ Below w.heap.size w wr ∧ wr.heap[w2.heap.size]? = some (.cells #[.string ⟨#[116]⟩, .string ⟨#[117]⟩] 24 (0, 0))) (fun i _ _ _ _ => q - (intOf i).toNat)
  case atStart => exact ⟨0, Nat.zero_le _, rfl, ⟨_, G3.out⟩, B3.out, X3.out⟩
  case round =>
    obtain ⟨k, hk, rfl, ⟨X, hG⟩, hb, hx⟩ := hrel
    have G := hid hG
    have Hb := hid hb
    have Hx := hid hx
    clear hG hb hx
    by_cases hlt : k < q
    · have d1 : decide ((k : Int) < (q : Int)) = true := by simp; omega
      have hk7 : k < 7 := by omega
      have hcv : (convert 47 9 (.slice (some ⟨wr.heap.size, 0, none⟩) 1 1)).run Try.prog (wr.alloc (.cells #[.int .u8 (97 + (k : Int))] 5)) = .ok (.string (nmU k)) (wr.alloc (.cells #[.int .u8 (97 + (k : Int))] 5)) := by
        have h9 := conv1U wr (97 + k) (by omega) 1
        rw [show ((97 + k : Nat) : Int) = 97 + (k : Int) by omega] at h9
        exact h9
      obtain ⟨Y, hY⟩ : ∃ Y, Y = wr.alloc (.cells #[.int .u8 (97 + (k : Int))] 5) := ⟨_, rfl⟩
      have bY : Below wr.heap.size wr Y := by rw [hY]; exact (Below.refl _ wr).alloc (Nat.le_refl _) _
      have GY := hid (G.out.below bY)
      have BY := hid (Below.on' Hb.out bY)
      have XY := hid ((bY.block _ (heap_lt Hx.out)).trans Hx.out)
      have HY := hid hY.symm
      have HRk := hid (HR.out k hk7 Y g X GY.out)
      have HAk := hid (fun V X' hG => HA.out k hk7 V g X' hG)
      have Hlt := hid hlt
      have hk0 : (0 : Int) ≤ (k : Int) := by omega
      have hk255 : (k : Int) ≤ 7 := by omega
      clear hY bY hlt hk7 hk
      by_cases h4 : k < 4
      · have d4 : decide ((k : Int) < 4) = true := by simp; omega
        rw [if_pos h4] at HRk HAk
        have H4 := hid h4
        clear h4
        go_wp2_with (first
          | (go_at_call 14; rw [HY.out]; refine HRk.out.mono ?_; rintro _ w5 ⟨rfl, t5⟩; have B5 := hid (BY.out.trans (t5.below GY.out)); have x5 := GY.out.keep t5.1 XY.out (by decide) (by decide); obtain ⟨_, X5, g5, _⟩ := t5; have G5 := hid g5; have o0 : w5.cell? ⟨w2.heap.size, 0, none⟩ = some (.string ⟨#[116]⟩) := (cell_of_rowU _ _ 0 _ _ _ x5).trans rfl; have o1 : w5.cell? ⟨w2.heap.size, 1, none⟩ = some (.string ⟨#[117]⟩) := (cell_of_rowU _ _ 1 _ _ _ x5).trans rfl; have X5h := hid x5; clear g5 x5)
          | (go_at_call 15; refine (HAk.out _ _ G5.out).mono ?_; rintro _ w6 ⟨rfl, t6⟩; have B6 := hid (B5.out.trans (t6.below G5.out)); have X6h := hid (G5.out.keep t6.1 X5h.out (by decide) (by decide)); obtain ⟨_, X6, g6, _⟩ := t6; have G6 := hid g6; clear g6 o0 o1)
          | go_in)
        go_roundw
        case rel => exact ⟨k + 1, by have := Hlt.out; omega, by simp, ⟨_, G6.out⟩, B6.out, X6h.out⟩
        case measure => exact measU _ _ _ Hlt.out rfl
      · have d4 : decide ((k : Int) < 4) = false := by simp; omega
        rw [if_neg h4] at HRk HAk
        have H4 := hid h4
        clear h4
        go_wp2_with (first
          | (go_at_call 14; rw [HY.out]; refine HRk.out.mono ?_; rintro _ w5 ⟨rfl, t5⟩; have B5 := hid (BY.out.trans (t5.below GY.out)); have x5 := GY.out.keep t5.1 XY.out (by decide) (by decide); obtain ⟨_, X5, g5, _⟩ := t5; have G5 := hid g5; have o0 : w5.cell? ⟨w2.heap.size, 0, none⟩ = some (.string ⟨#[116]⟩) := (cell_of_rowU _ _ 0 _ _ _ x5).trans rfl; have o1 : w5.cell? ⟨w2.heap.size, 1, none⟩ = some (.string ⟨#[117]⟩) := (cell_of_rowU _ _ 1 _ _ _ x5).trans rfl; have X5h := hid x5; clear g5 x5)
          | (go_at_call 15; refine (HAk.out _ _ G5.out).mono ?_; rintro _ w6 ⟨rfl, t6⟩; have B6 := hid (B5.out.trans (t6.below G5.out)); have X6h := hid (G5.out.keep t6.1 X5h.out (by decide) (by decide)); obtain ⟨_, X6, g6, _⟩ := t6; have G6 := hid g6; clear g6 o0 o1)
          | go_in)
        go_roundw
        case rel => exact ⟨k + 1, by have := Hlt.out; omega, by simp, ⟨_, G6.out⟩, B6.out, X6h.out⟩
        case measure => exact measU _ _ _ Hlt.out rfl
    · obtain rfl : k = q := by omega
      have d1 : decide ((k : Int) < (k : Int)) = false := by simp
      obtain ⟨z1, z2, z3⟩ := stR_len ⟨k, by omega⟩
      obtain ⟨m, hm⟩ : ∃ m, m = consN (stR k) tU uU := ⟨_, rfl⟩
      simp only at z1 z2 z3
      rw [← hm] at z1 z2
      have dm : decide ((m : Int) ≤ 4) = true := by simp; omega
      have o0 : wr.cell? ⟨w2.heap.size, 0, none⟩ = some (.string ⟨#[116]⟩) := (cell_of_rowU _ _ 0 _ _ _ Hx.out).trans rfl
      have o1 : wr.cell? ⟨w2.heap.size, 1, none⟩ = some (.string ⟨#[117]⟩) := (cell_of_rowU _ _ 1 _ _ _ Hx.out).trans rfl
      have HK9 := hid (show k ≤ 7 from by omega)
      have HCl := hid (fun (V : World) (hG : GP V w.heap.size g (stR k) k (2 * k) X) => (show Calls Try.prog 16 #[.pointer (some ⟨g, 0, none⟩), .string ⟨#[116]⟩] V fun e w' => ∃ v c, e = .returned (.slice v m c) ∧ Below V.heap.size V w' from by
        refine (gClients_any hG (by omega) tU sz1).mono ?_
        rintro _ w' ⟨v, S, rfl, p1, p2, p3, p4⟩
        have e1 : S.length = m := p1.length_eq.trans z1
        rw [e1] at p3
        rcases p3.2 with ⟨e2, h2⟩ | ⟨g1, cap, cur, e2, _⟩
        · exact ⟨none, 0, by rw [e2, h2], p4⟩
        · exact ⟨_, cap, by rw [e2], p4⟩))
      have HCo := hid (fun (V : World) (hG : GP V w.heap.size g (stR k) k (2 * k) X) => (show Calls Try.prog 17 #[.pointer (some ⟨g, 0, none⟩), .agg #[.string ⟨#[116]⟩, .string ⟨#[117]⟩]] V fun e w' => ∃ v c, e = .returned (.slice v m c) ∧ Below V.heap.size V w' from by
        refine (gConsents_any hG (by omega) tU uU sz1 sz2).mono ?_
        rintro _ w' ⟨v, S, c, rfl, p1, p2, p3, p4, p5⟩
        have e1 : (consS (stR k) tU uU S).length = m := p5.length_eq.trans hm.symm
        rw [e1]
        exact ⟨v, c, rfl, p4⟩))
      have HDu := hid (fun (V : World) (hG : GP V w.heap.size g (stR k) k (2 * k) X) => (show Calls Try.prog 18 #[.pointer (some ⟨g, 0, none⟩), .agg #[.string ⟨#[116]⟩, .string ⟨#[117]⟩]] V fun e w' => e = .returned (.int .i64 (m : Int)) ∧ Turned V w' w.heap.size g ((stR k).dropU tU uU) k (2 * k) X from by
        have h9 := gDropUser_any hG (by omega) tU uU sz1 sz2
        rw [← hm] at h9
        exact h9))
      have HCo2 := hid (fun (V : World) (X' : Nat → Prop) (hG : GP V w.heap.size g ((stR k).dropU tU uU) k (2 * k) X') => (show Calls Try.prog 17 #[.pointer (some ⟨g, 0, none⟩), .agg #[.string ⟨#[116]⟩, .string ⟨#[117]⟩]] V fun e w' => ∃ v c, e = .returned (.slice v 0 c) ∧ Below V.heap.size V w' from by
        refine (gConsents_any hG (by omega) tU uU sz1 sz2).mono ?_
        rintro _ w' ⟨v, S, c, rfl, p1, p2, p3, p4, p5⟩
        have e1 : (consS ((stR k).dropU tU uU) tU uU S).length = 0 := p5.length_eq.trans z3
        rw [e1]
        exact ⟨v, c, rfl, p4⟩))
      clear hlt hk z1 z2 z3 hm HR HA
      have z : Hid (wr.drew.cell? ⟨w2.heap.size, 0, none⟩ = some (.string ⟨#[116]⟩) ∧ wr.drew.cell? ⟨w2.heap.size, 1, none⟩ = some (.string ⟨#[117]⟩)) := ⟨o0, o1⟩
      have ZX : Hid (wr.drew.heap[w2.heap.size]? = some (.cells #[.string ⟨#[116]⟩, .string ⟨#[117]⟩] 24 (0, 0))) := Hx.out
      have ZG : Hid (GP wr.drew w.heap.size g (stR k) k (2 * k) X) := hid (G.out.below (below_dN _ _ 1))
      have ZB : Hid (Below w.heap.size w wr.drew) := hid (Hb.out.trans (below_dN _ _ 1))
      clear o0 o1 Hx G Hb
      go_wp2_with go_in
      go_region_held3 (fun w9 => w9.cell? ⟨w2.heap.size, 0, none⟩ = some (.string ⟨#[116]⟩) ∧ w9.cell? ⟨w2.heap.size, 1, none⟩ = some (.string ⟨#[117]⟩))
        (exact z.out)
        (first
          | (go_at_call 16; refine (HCl.out _ (by exact ZG.out)).mono ?_; rintro _ w3 ⟨v3, c3, rfl, b3⟩; have ZG := hid (ZG.out.below b3); have ZB := hid (Below.on' ZB.out b3); have ZX := hid ((b3.block _ (heap_lt ZX.out)).trans ZX.out); have z := hid (And.intro ((cell_of_rowU _ _ 0 _ _ _ ZX.out).trans rfl) ((cell_of_rowU _ _ 1 _ _ _ ZX.out).trans rfl)); clear b3 HCl)
          | (go_at_call 17; refine (HCo.out _ (by exact ZG.out)).mono ?_; rintro _ w3 ⟨v4, c4, rfl, b3⟩; have ZG := hid (ZG.out.below b3); have ZB := hid (Below.on' ZB.out b3); have ZX := hid ((b3.block _ (heap_lt ZX.out)).trans ZX.out); have z := hid (And.intro ((cell_of_rowU _ _ 0 _ _ _ ZX.out).trans rfl) ((cell_of_rowU _ _ 1 _ _ _ ZX.out).trans rfl)); clear b3 HCo)
          | (go_at_call 18; refine (HDu.out _ (by exact ZG.out)).mono ?_; rintro _ w3 ⟨rfl, t3⟩; have ZB := hid (ZB.out.trans (t3.below ZG.out)); have ZX := hid (ZG.out.keep t3.1 ZX.out (by decide) (by decide)); obtain ⟨_, X9, g9, _⟩ := t3; have ZG := hid g9; have z := hid (And.intro ((cell_of_rowU _ _ 0 _ _ _ ZX.out).trans rfl) ((cell_of_rowU _ _ 1 _ _ _ ZX.out).trans rfl)); clear g9 HDu)
          | (go_at_call 17; refine (HCo2.out _ _ (by exact ZG.out)).mono ?_; rintro _ w3 ⟨v5, c5, rfl, b3⟩; have ZB := hid (Below.on' ZB.out b3); have ZX := hid ((b3.block _ (heap_lt ZX.out)).trans ZX.out); have z := hid (And.intro ((cell_of_rowU _ _ 0 _ _ _ ZX.out).trans rfl) ((cell_of_rowU _ _ 1 _ _ _ ZX.out).trans rfl)); clear b3 HCo2))
      all_goals go_wp2
      all_goals go_ret
      all_goals exact ⟨rfl, ZB.out⟩
end Go.Proofs.Ytlkbojgemcjilaa
