/- live of the laws on tokens. (Printed by gen/klive.py.) -/
import Derived.Test.YtmnhhomkglffcaaGreatDoorKOk
namespace Go.Proofs.YtmnhhomkglffcaaGreatDoor
open Go.RowKit Go.Maps Go.Sort Go.Shelf
set_option linter.unusedVariables false
set_option maxRecDepth 20000

def liveF1 : Fam.Sess := ⟨1, 1, ⟨#[99]⟩, 3, 1⟩
def liveF2 : Fam.Sess := ⟨1, 1, ⟨#[99]⟩, 3, 2⟩
def liveK1 : Tok.Sess := ⟨1, 1, 3, 50⟩
def liveK2 : Tok.Sess := ⟨2, 1, 3, 60⟩
def liveT1 : Sto := ⟨0, 2, [liveF1], 2, [liveK1]⟩
def liveT2 : Sto := ⟨10, 2, [liveF2], 3, [liveK1, liveK2]⟩
def liveT3 : Sto := ⟨11, 2, [], 3, []⟩
theorem live_g : tGrant sto0 1 ⟨#[99]⟩ 3 0 = (liveF1, liveK1, 0, liveT1) := by
  have h : grantErr sto0 1 ⟨#[99]⟩ 0 = 0 := by decide +kernel
  unfold tGrant
  rw [if_neg (by simp [h])]
  rfl
theorem live_r : tRefresh liveT1 1 1 10 = (liveF2, liveK2, 0, liveT2) := by
  have h : fAt liveT1 1 10 = (liveF1, 0) := by rfl
  have h2 : spendErr liveT1 liveF1 1 = 0 := by decide +kernel
  unfold tRefresh
  rw [h, if_neg (by simp), h2, if_neg (by simp)]
  rfl
theorem live_u : tRefresh liveT2 1 1 11 = (Fam.sess0, Tok.sess0, 13, liveT3) := by
  have h : fAt liveT2 1 11 = (liveF2, 0) := by rfl
  have h2 : spendErr liveT2 liveF2 1 = 13 := by decide +kernel
  unfold tRefresh
  rw [h, if_neg (by simp), h2, if_pos (by decide), if_pos rfl]
  rfl
theorem live_a : tAccess liveT3 2 11 = (Tok.sess0, 12) := by rfl
theorem liveT1_ok : StoOk liveT1 := by have := tGrant_ok sto0_ok 1 ⟨#[99]⟩ 3 0 (by decide); rw [live_g] at this; exact this
theorem liveT2_ok : StoOk liveT2 := by have := tRefresh_ok liveT1_ok 1 1 10; rw [live_r] at this; exact this
theorem liveT3_ok : StoOk liveT3 := by have := tRefresh_ok liveT2_ok 1 1 11; rw [live_u] at this; exact this

theorem two_blocks (w : World) (c1 c2 : Array Value) (t1 t2 : Nat) : ((w.alloc (.cells c1 t1)).alloc (.cells c2 t2)).heap[w.heap.size]? = some (.cells c1 t1 (0, 0)) ∧ ((w.alloc (.cells c1 t1)).alloc (.cells c2 t2)).heap[w.heap.size + 1]? = some (.cells c2 t2 (0, 0)) ∧ Below w.heap.size w ((w.alloc (.cells c1 t1)).alloc (.cells c2 t2)) := by
  refine ⟨?_, ?_, ((Below.refl _ w).alloc (Nat.le_refl _) _).alloc (by simp) _⟩
  · rw [Below.heap_alloc _ _ _ (by simp)]; exact (MapKept.heap_alloc w _).1
  · have h9 := (MapKept.heap_alloc (w.alloc (.cells c1 t1)) (.cells c2 t2)).1
    rw [World.size_alloc] at h9
    exact h9

set_option maxHeartbeats 3200000 in
theorem lawLive_any (w : World) : Calls Tryz.prog 6 #[] w fun e w' => e = .returned (.bool true) ∧ Below w.heap.size w w' := by
  have HN := hid (new_any w)
  have HB := hid (fun (W : World) (B p mf mt : Nat) (h : StoAt W B p mf mt 0 0 sto0) => by
    have := grant_any h sto0_ok (by decide) (by omega) (by omega) 1 ⟨#[99]⟩ 3 0 (by decide)
    rw [live_g] at this
    exact this)
  have HT := hid (fun (W : World) (B p mf mt n1 n2 : Nat) (hn1 : n1 ≤ 1) (hn2 : n2 ≤ 1) (h : StoAt W B p mf mt n1 n2 liveT1) => by
    have := refresh_any h liveT1_ok (by decide) (by decide) (by omega) (by omega) 1 1 10
    rw [live_r] at this
    exact this)
  have HU := hid (fun (W : World) (B p mf mt n1 n2 : Nat) (hn1 : n1 ≤ 2) (hn2 : n2 ≤ 2) (h : StoAt W B p mf mt n1 n2 liveT2) => by
    have := refresh_any h liveT2_ok (by decide) (by decide) (by omega) (by omega) 1 1 11
    rw [live_u] at this
    exact this)
  have HA := hid (fun (W : World) (B p mf mt n1 n2 : Nat) (h : StoAt W B p mf mt n1 n2 liveT3) => by
    have := access_any h liveT3_ok 2 11
    rw [live_a] at this
    exact this)
  go_enter Tryz.func6, Tryz.ntmps6
  go_wp2_with (first
    | (go_at_call 4; refine HN.out.mono ?_; rintro e w1 ⟨p, mf, mt, rfl, hT1, hb1⟩; have H1 := hid hT1; have HB1 := hid hb1; clear hT1 hb1)
    | (go_at_call 16; refine (HB.out w1 _ p mf mt H1.out).mono ?_; rintro e w2 ⟨rfl, ⟨n1, n2, hn1, hn2, hT2⟩, ho2⟩; unfold Fam.sessV Tok.sessV liveF1 liveK1; have H2 := hid hT2; have O2 := hid ho2; have N2 : Hid (n1 ≤ 1 ∧ n2 ≤ 1) := ⟨hn1, hn2⟩; have tb := two_blocks w2 #[.int .i64 1, .int .i64 1, .string ⟨#[99]⟩, .int .u8 3, .int .i64 1] #[.int .i64 1, .int .i64 1, .int .u8 3, .int .i64 50] 35 55; have S2 := hid (hT2.below tb.2.2); have TB2 := hid tb; clear hT2 ho2 hn1 hn2 tb)
    | (go_at_call 17; refine (HU.out _ _ p mf mt n3 n4 N3.out.1 N3.out.2 S3.out).mono ?_; rintro e w4 ⟨rfl, ⟨n5, n6, hn5, hn6, hT4⟩, ho4⟩; unfold Fam.sessV Tok.sessV Fam.sess0 Tok.sess0; have H4 := hid hT4; have O4 := hid ho4; have lt3 := S3.out.lts; have l2 := H2.out.lts; have l3 := H3.out.lts; have s3 := H3z.out; have a4 := hid ((ho4.block w2.heap.size (by simp; omega) (by unfold Mine; omega)).trans ((TB3.out.2.2.block w2.heap.size (by omega)).trans A3.out)); have c4 := hid ((ho4.block (w2.heap.size + 1) (by simp; omega) (by unfold Mine; omega)).trans ((TB3.out.2.2.block (w2.heap.size + 1) (by omega)).trans C3.out)); have d4 := hid ((ho4.block w3.heap.size (by simp; omega) (by unfold Mine; omega)).trans TB3.out.1); have e4 := hid ((ho4.block (w3.heap.size + 1) (by simp) (by unfold Mine; omega)).trans TB3.out.2.1); have H4z : Hid (w2.heap.size + 1 < w3.heap.size ∧ w3.heap.size + 1 < w4.heap.size) := ⟨s3, by have := ho4.size; simp at this; omega⟩; have tb := two_blocks w4 #[.int .i64 0, .int .i64 0, .string ⟨#[]⟩, .int .u8 0, .int .i64 0] #[.int .i64 0, .int .i64 0, .int .u8 0, .int .i64 0] 35 55; have S4 := hid (hT4.below tb.2.2); have TB4 := hid tb; clear hT4 ho4 hn5 hn6 tb lt3 l2 l3 s3)
    | (go_at_call 17; refine (HT.out _ _ p mf mt n1 n2 N2.out.1 N2.out.2 S2.out).mono ?_; rintro e w3 ⟨rfl, ⟨n3, n4, hn3, hn4, hT3⟩, ho3⟩; unfold Fam.sessV Tok.sessV liveF2 liveK2; have H3 := hid hT3; have O3 := hid ho3; have N2' := N2.out; have N3 : Hid (n3 ≤ 2 ∧ n4 ≤ 2) := ⟨by omega, by omega⟩; have l2 := H2.out.lts; have A3 := hid ((ho3.block w2.heap.size (by simp; omega) (by unfold Mine; omega)).trans TB2.out.1); have C3 := hid ((ho3.block (w2.heap.size + 1) (by simp) (by unfold Mine; omega)).trans TB2.out.2.1); have H3z : Hid (w2.heap.size + 1 < w3.heap.size) := (by have := ho3.size; simp at this; show _ < _; omega); have tb := two_blocks w3 #[.int .i64 1, .int .i64 1, .string ⟨#[99]⟩, .int .u8 3, .int .i64 2] #[.int .i64 2, .int .i64 1, .int .u8 3, .int .i64 60] 35 55; have S3 := hid (hT3.below tb.2.2); have TB3 := hid tb; clear hT3 ho3 hn3 hn4 tb l2 N2')
    | (go_at_call 18; refine (HA.out _ _ p mf mt n5 n6 S4.out).mono ?_; rintro e w5 ⟨rfl, hb5⟩; unfold Tok.sessV Tok.sess0; have z4 := H4z.out; have HB5 := hid hb5; have z5 := hb5.size; simp only [World.size_alloc] at z5; have a5 := (hb5.block w2.heap.size (by simp; omega)).trans ((TB4.out.2.2.block w2.heap.size (by omega)).trans a4.out); have c5 := (hb5.block (w2.heap.size + 1) (by simp; omega)).trans ((TB4.out.2.2.block (w2.heap.size + 1) (by omega)).trans c4.out); have d5 := (hb5.block w3.heap.size (by simp; omega)).trans ((TB4.out.2.2.block w3.heap.size (by omega)).trans d4.out); have e5 := (hb5.block (w3.heap.size + 1) (by simp; omega)).trans ((TB4.out.2.2.block (w3.heap.size + 1) (by omega)).trans e4.out); have m0 : w5.cell? ⟨w2.heap.size, 0, none⟩ = some (.int .i64 1) := cell_of_row _ _ 0 _ _ _ a5; have m1 : w5.cell? ⟨w2.heap.size + 1, 3, none⟩ = some (.int .i64 50) := cell_of_row _ _ 3 _ _ _ c5; have m2 : w5.cell? ⟨w3.heap.size, 4, none⟩ = some (.int .i64 2) := cell_of_row _ _ 4 _ _ _ d5; have m3 : w5.cell? ⟨w3.heap.size + 1, 0, none⟩ = some (.int .i64 2) := cell_of_row _ _ 0 _ _ _ e5; have y0 := World.block_lt_of_cell? _ _ m0; have y1 := World.block_lt_of_cell? _ _ m1; have y2 := World.block_lt_of_cell? _ _ m2; have y3 := World.block_lt_of_cell? _ _ m3; clear hb5 a5 c5 d5 e5 z4 z5))
  go_ret
  have hm : ∀ k, Mine p mf mt k → w.heap.size ≤ k := fun k hk => by
    have := H1.out.bp
    have := H1.out.bf
    have := H1.out.bt
    unfold Mine at hk
    omega
  have k1 := HB1.out
  have k2 := k1.trans (O2.out.below k1.size hm)
  have k2' := k2.trans (TB2.out.2.2.mono k2.size)
  have k3 := k2'.trans (O3.out.below k2'.size hm)
  have k3' := k3.trans (TB3.out.2.2.mono k3.size)
  have k4 := k3'.trans (O4.out.below k3'.size hm)
  have k4' := k4.trans (TB4.out.2.2.mono k4.size)
  have k5 := k4'.trans (HB5.out.mono k4'.size)
  exact ⟨rfl, k5.alloc k5.size _⟩
end Go.Proofs.YtmnhhomkglffcaaGreatDoor
