/- Grants: live of the laws. -/
import Derived.Test.YtlkbojgemcjilaaU24
namespace Go.Proofs.Ytlkbojgemcjilaa
open Go.RowKit Go.Maps
set_option linter.unusedVariables false
set_option maxRecDepth 20000
section
variable {w w' : World} {B g c d c' d' : Nat} {s s' : GS} {X : Nat → Prop}
theorem GP.keep (h : GP w B g s c d X) (ho : OutJ X w w') {k : Nat} {cs : Array Value} {T : TypeId} {fr : Nat × Nat} (hk : w.heap[k]? = some (.cells cs T fr)) (h1 : T ≠ 58) (h2 : T ≠ 71) : w'.heap[k]? = some (.cells cs T fr) := by
  refine (ho.block k (heap_lt hk) (fun hx => ?_)).trans hk
  rcases h.typed k hx with ⟨es, c, e⟩ | ⟨cs', T', fr', e, hT⟩
  · rw [hk] at e; cases e
  · rw [hk] at e
    cases e
    exact hT.elim h1 h2
theorem Turned.below (t : Turned w w' B g s' c' d' X) (h : GP w B g s c d X) : Below B w w' := t.1.below h.base h.ge
end
def tU : ByteArray := ⟨#[116]⟩
def uU : ByteArray := ⟨#[117]⟩
def cU : ByteArray := ⟨#[99]⟩
def rU : ByteArray := ⟨#[114]⟩
def s0U : GS := ⟨[], []⟩
def clU : Cl := ⟨tU, cU, rU, 3⟩
def coU : Co := ⟨tU, uU, cU, 1⟩
def s1U : GS := s0U.reg clU
def s2U : GS := s1U.alw coU
def s3U : GS := s2U.nar tU cU 2
theorem live1 : regEs s0U clU = 0 := by decide +kernel
theorem live2 : allEs s1U coU = 0 := by decide +kernel
theorem live3 : mayRs s2U tU uU cU rU 1 = 0 := by decide +kernel
theorem live4 : narRs s2U tU cU 2 = 2 := by decide +kernel
theorem live5 : noneE (findC s2U tU cU).isSome = 0 := by decide +kernel
theorem live6 : mayRs s3U tU uU cU rU 1 = 14 := by decide +kernel
theorem sz1 : tU.size ≤ maxLen := by decide +kernel
theorem sz2 : uU.size ≤ maxLen := by decide +kernel
theorem sz3 : cU.size ≤ maxLen := by decide +kernel
theorem clU_in : ClIn clU := ⟨by decide +kernel, by decide +kernel, by decide +kernel, by decide +kernel⟩
set_option maxHeartbeats 4000000 in
theorem liveG_any (w : World) : Calls Try.prog 8 #[] w fun e w' => e = .returned (.bool true) ∧ Below w.heap.size w w' := by
  have HN := hid (gNew_any w w.heap.size (Nat.le_refl _))
  have HR := hid (fun (V : World) (g : Nat) (X : Nat → Prop) (h : GP V w.heap.size g s0U 0 0 X) => (show Calls Try.prog 14 #[.pointer (some ⟨g, 0, none⟩), .agg #[.string ⟨#[116]⟩, .string ⟨#[99]⟩, .string ⟨#[114]⟩, .int .u8 3]] V fun e w' => e = .returned (.int .i64 0) ∧ Turned V w' w.heap.size g s1U 1 1 X from by
    have h9 := gRegister_any h (by omega) (by omega) clU clU_in
    rw [live1] at h9
    exact h9))
  have HA := hid (fun (V : World) (g : Nat) (X : Nat → Prop) (h : GP V w.heap.size g s1U 1 1 X) => (show Calls Try.prog 15 #[.pointer (some ⟨g, 0, none⟩), .agg #[.string ⟨#[116]⟩, .string ⟨#[117]⟩, .string ⟨#[99]⟩, .int .u8 1]] V fun e w' => e = .returned (.int .i64 0) ∧ Turned V w' w.heap.size g s2U 1 2 X from by
    have h9 := gAllow_any h (by omega) (by omega) coU sz1 sz2 sz3 (by decide +kernel)
    rw [live2] at h9
    exact h9))
  have HM := hid (fun (V : World) (g : Nat) (X : Nat → Prop) (h : GP V w.heap.size g s2U 1 2 X) => (show Calls Try.prog 12 #[.pointer (some ⟨g, 0, none⟩), .agg #[.string ⟨#[116]⟩, .string ⟨#[117]⟩], .string ⟨#[99]⟩, .string ⟨#[114]⟩, .int .u8 1] V fun e w' => e = .returned (.int .i64 0) ∧ Below V.heap.size V w' from by
    have h9 := gMay_any h tU uU cU rU 1 sz1 sz2 sz3 (by omega)
    rw [live3] at h9
    exact h9))
  have HNr := hid (fun (V : World) (g : Nat) (X : Nat → Prop) (h : GP V w.heap.size g s2U 1 2 X) => (show Calls Try.prog 19 #[.pointer (some ⟨g, 0, none⟩), .string ⟨#[116]⟩, .string ⟨#[99]⟩, .int .u8 2] V fun e w' => e = .returned (.tuple #[.int .u8 2, .int .i64 0]) ∧ Turned V w' w.heap.size g s3U 1 2 X from by
    have h9 := gNarrow_any h (by omega) tU cU 2 sz1 sz3 (by omega)
    rw [live4, live5] at h9
    exact h9))
  have HM2 := hid (fun (V : World) (g : Nat) (X : Nat → Prop) (h : GP V w.heap.size g s3U 1 2 X) => (show Calls Try.prog 12 #[.pointer (some ⟨g, 0, none⟩), .agg #[.string ⟨#[116]⟩, .string ⟨#[117]⟩], .string ⟨#[99]⟩, .string ⟨#[114]⟩, .int .u8 1] V fun e w' => e = .returned (.int .i64 14) ∧ Below V.heap.size V w' from by
    have h9 := gMay_any h tU uU cU rU 1 sz1 sz2 sz3 (by omega)
    rw [live6] at h9
    exact h9))
  go_enter Try.func8, Try.ntmps8
  go_wp2_with (first
    | (go_at_call 6; refine HN.out.mono ?_; rintro _ w1 ⟨g, X1, rfl, b1, g1, _⟩; have B1 := hid b1; clear HN b1; obtain ⟨V1, hV1⟩ : ∃ V1, V1 = w1.alloc (.cells #[.string ⟨#[116]⟩, .string ⟨#[117]⟩] 24) := ⟨_, rfl⟩; have bV1 : Below w1.heap.size w1 V1 := (by rw [hV1]; exact (Below.refl _ w1).alloc (Nat.le_refl _) _); have xV1 : V1.heap[w1.heap.size]? = some (.cells #[.string ⟨#[116]⟩, .string ⟨#[117]⟩] 24 (0, 0)) := (by rw [hV1]; exact heap_allocN w1 _); have G1 := hid (g1.below bV1); have BV1 := hid (Below.on' B1.out bV1); have XV1 := hid xV1; have HV1 := hid hV1.symm; clear g1 hV1 bV1 xV1)
    | (go_at_call 14; rw [HV1.out]; refine (HR.out _ _ _ G1.out).mono ?_; rintro _ w2 ⟨rfl, t2⟩; have B2 := hid (BV1.out.trans (t2.below G1.out)); have x2 := G1.out.keep t2.1 XV1.out (by decide) (by decide); obtain ⟨_, X2, g2, _⟩ := t2; have G2 := hid g2; have o0 : w2.cell? ⟨w1.heap.size, 0, none⟩ = some (.string ⟨#[116]⟩) := (cell_of_rowU _ _ 0 _ _ _ x2).trans rfl; have o1 : w2.cell? ⟨w1.heap.size, 1, none⟩ = some (.string ⟨#[117]⟩) := (cell_of_rowU _ _ 1 _ _ _ x2).trans rfl; have X2h := hid x2; clear g2 HR G1 x2)
    | (go_at_call 15; refine (HA.out _ _ _ G2.out).mono ?_; rintro _ w3 ⟨rfl, t3⟩; have B3 := hid (B2.out.trans (t3.below G2.out)); have x3 := G2.out.keep t3.1 X2h.out (by decide) (by decide); obtain ⟨_, X3, g3, _⟩ := t3; have G3 := hid g3; clear o0 o1; have o0 : w3.cell? ⟨w1.heap.size, 0, none⟩ = some (.string ⟨#[116]⟩) := (cell_of_rowU _ _ 0 _ _ _ x3).trans rfl; have o1 : w3.cell? ⟨w1.heap.size, 1, none⟩ = some (.string ⟨#[117]⟩) := (cell_of_rowU _ _ 1 _ _ _ x3).trans rfl; have X3h := hid x3; clear g3 HA G2 x3)
    | (go_at_call 12; refine (HM.out _ _ _ G3.out).mono ?_; rintro _ w4 ⟨rfl, b4⟩; have B4 := hid (Below.on' B3.out b4); have G4 := hid (G3.out.below b4); have x4 := (b4.block _ (heap_lt X3h.out)).trans X3h.out; have X4h := hid x4; clear b4 HM G3 x4)
    | (go_at_call 19; refine (HNr.out _ _ _ G4.out).mono ?_; rintro _ w5 ⟨rfl, t5⟩; have B5 := hid (B4.out.trans (t5.below G4.out)); have x5 := G4.out.keep t5.1 X4h.out (by decide) (by decide); obtain ⟨_, X5, g5, _⟩ := t5; have G5 := hid g5; clear o0 o1; have o0 : w5.cell? ⟨w1.heap.size, 0, none⟩ = some (.string ⟨#[116]⟩) := (cell_of_rowU _ _ 0 _ _ _ x5).trans rfl; have o1 : w5.cell? ⟨w1.heap.size, 1, none⟩ = some (.string ⟨#[117]⟩) := (cell_of_rowU _ _ 1 _ _ _ x5).trans rfl; clear g5 HNr G4 x5)
    | (go_at_call 12; refine (HM2.out _ _ _ G5.out).mono ?_; rintro _ w6 ⟨rfl, b6⟩; have B6 := hid (Below.on' B5.out b6); clear b6 HM2))
  go_ret
  exact ⟨rfl, B6.out⟩
end Go.Proofs.Ytlkbojgemcjilaa
