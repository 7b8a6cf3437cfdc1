/- live of the laws on sessions; Until of the reference; SessionUntils, walked. -/
import Derived.Test.YtcchlcbonfdhpaaDoorSBegin2
namespace Go.Proofs.YtcchlcbonfdhpaaDoor
open Go.RowKit Go.Maps Go.Sort Go.Shelf
set_option linter.unusedVariables false
set_option maxRecDepth 20000

def bT : ByteArray := ⟨#[116]⟩
def bU : ByteArray := ⟨#[117]⟩
def liveS1 : Sess := ⟨1, bT, bU, 0, 0⟩
def liveS2 : Sess := ⟨1, bT, bU, 0, 199⟩
def liveT1 : Tab := ⟨2, 0, [liveS1]⟩
def liveT2 : Tab := ⟨2, 199, [liveS2]⟩
theorem live_b : tBegin tab0 bT bU 0 = (liveT1, liveS1, 0) := by
  have h : tBeginErr tab0 bT bU 0 = 0 := by decide +kernel
  unfold tBegin
  rw [if_neg (by simp [h])]
  rfl
theorem live_t : tTouch liveT1 1 199 = (liveT2, liveS2, 0) := by
  have h : tGet liveT1 1 199 = (liveS1, 0) := by rfl
  unfold tTouch
  rw [h]
  rfl
theorem live_u : tTouch liveT2 1 399 = (liveT2, sess0, 12) := by
  have h : tGet liveT2 1 399 = (sess0, 12) := by rfl
  unfold tTouch
  rw [h]
  rfl
theorem liveT1_ok : TabOk liveT1 := by have := tBegin_ok tab0_ok bT bU 0; rw [live_b] at this; exact this
theorem liveT2_ok : TabOk liveT2 := by have := tTouch_ok liveT1_ok 1 199; rw [live_t] at this; exact this

set_option maxHeartbeats 1600000 in
theorem lawLive_any (w : World) : Calls Tryd.prog 6 #[] w fun e w' => e = .returned (.bool true) ∧ Below w.heap.size w w' := by
  have HN := hid (new_any w)
  have HB := hid (fun (W : World) (B p mb : Nat) (h : TabAt W B p mb 0 tab0) => by
    have := begin_any h tab0_ok (by omega) (by decide) bT bU 0 (by decide) (by decide)
    rw [live_b] at this
    exact this)
  have HT := hid (fun (W : World) (B p mb : Nat) (h : TabAt W B p mb 1 liveT1) => by
    have := touch_any h liveT1_ok (by omega) 1 199
    rw [live_t] at this
    exact this)
  have HU := hid (fun (W : World) (B p mb : Nat) (h : TabAt W B p mb 2 liveT2) => by
    have := touch_any h liveT2_ok (by omega) 1 399
    rw [live_u] at this
    exact this)
  have Hun := hid (fun W => until_any liveS2 W (by unfold TimesOk; decide))
  have hun : untilOf liveS2 = 399 := by decide
  rw [hun] at Hun
  clear hun
  go_enter Tryd.func6, Tryd.ntmps6
  go_wp2_with (first
    | (go_at_call 4; refine HN.out.mono ?_; rintro e w1 ⟨p, mb, rfl, hT1, hb1⟩)
    | (go_at_call 14; refine (HB.out w1 _ p mb hT1).mono ?_; rintro e w2 ⟨rfl, hT2, ho2⟩; unfold sessV liveS1 bT bU)
    | (go_at_call 15; refine (HU.out _ _ p mb (hT3.below ((Below.refl _ w3).alloc (Nat.le_refl _) _))).mono ?_; rintro e w4 ⟨rfl, hT4, ho4⟩; unfold sessV sess0; obtain ⟨hC, hCf⟩ := ho4.cells w2.heap.size (by simp; omega) (by have := hT2.lts; omega); obtain ⟨hD, hDf⟩ := ho4.cells w3.heap.size (by simp) (by have := hT3.lts; omega); have hz4 : w3.heap.size < w4.heap.size := (by have := ho4.size; simp at this; omega); have hz24 : w2.heap.size < w4.heap.size := (by omega); have m0 : w4.cell? ⟨w2.heap.size, 0, none⟩ = some (.int .i64 1) := (by rw [hC, World.cell?_alloc_past _ _ _ hz3, hA, World.cell?_alloc_at _ _ _ _ rfl]; rfl))
    | (go_at_call 15; refine (HT.out _ _ p mb (hT2.below ((Below.refl _ w2).alloc (Nat.le_refl _) _))).mono ?_; rintro e w3 ⟨rfl, hT3, ho3⟩; unfold sessV liveS2 bT bU; obtain ⟨hA, hAf⟩ := ho3.cells w2.heap.size (by simp) (by have := hT2.lts; omega); have hz3 : w2.heap.size < w3.heap.size := by have := ho3.size; simp at this; omega)
    | (go_at_call 16; refine (Hun.out _).mono ?_; rintro e w5 ⟨rfl, hb5⟩))
  go_ret
  have k2 : Below w.heap.size w w2 := hb1.trans (ho2.below hb1.size (fun k hk => by have := hT1.bp; have := hT1.bm; omega))
  have k3 : Below w.heap.size w w3 := (k2.alloc k2.size _).trans (ho3.below (by have := k2.size; simp; omega) (fun k hk => by have := hT1.bp; have := hT1.bm; omega))
  have k4 : Below w.heap.size w w4 := (k3.alloc k3.size _).trans (ho4.below (by have := k3.size; simp; omega) (fun k hk => by have := hT1.bp; have := hT1.bm; omega))
  exact ⟨rfl, (k4.alloc k4.size _).trans (hb5.mono (by have := k4.size; simp; omega))⟩
end Go.Proofs.YtcchlcbonfdhpaaDoor
