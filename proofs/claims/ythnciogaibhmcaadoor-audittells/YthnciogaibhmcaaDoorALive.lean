/- What must be whatever is asked: live of the laws on chains. -/
import Derived.Test.YthnciogaibhmcaaDoorAPrune
namespace Go.Proofs.YthnciogaibhmcaaDoor
open Go.RowKit Go.Shelf
set_option linter.unusedVariables false
set_option maxRecDepth 20000

def buildH : Sem Value := Instr.build 49 #[]
theorem buildH_fold : Instr.build 49 #[] = buildH := rfl
theorem buildH_run (w : World) : buildH.run Tryd.prog w = .ok (.agg (bvs zero32)) w := run_build (P := Tryd.prog) w 49 #[] _ built_hash
theorem storeH_new (w : World) (l m : List UInt8) (hl : l.length = 32) (hm : m.length = 32) : (storeH (.pointer (some ⟨w.heap.size, 0, none⟩)) (.agg (bvs l))).run Tryd.prog (w.alloc (.cells (bvs m) 49)) = .ok () (w.alloc (.cells (bvs l) 49)) :=
  run_storeAt_new w 49 _ (bvs l) (size_hashs l hl) (by rw [bvs_size, bvs_size, hl, hm]) (bvs_one l)
attribute [local go_sem ↓] loadL_fold storeL_fold loadH_fold storeH_fold buildH_fold

abbrev login : ByteArray := ⟨#[108, 111, 103, 105, 110]⟩
abbrev tu : ByteArray := ⟨#[116, 47, 117]⟩
abbrev tick : ByteArray := ⟨#[116, 105, 99, 107]⟩
abbrev none0 : ByteArray := ⟨#[]⟩
def lv1 : Ch := addR ch0 5 login tu
def lv2 : Ch := ancC lv1
def lv3 : Ch := pruR lv2 1
def lv4 : Ch := addR lv3 6 tick none0
theorem lv1_e : addE ch0 5 login tu = 0 := by decide
theorem lv1_v : (eVals (addEv ch0 5 login tu)).toArray = #[.int .i64 1, .int .i64 5, .string login, .string tu] := by unfold addEv; rw [if_pos lv1_e]; rfl
theorem lv1_ok : ChOk lv1 := addR_ok ch0_ok _ _ _
theorem lv2_ok : ChOk lv2 := ancC_ok lv1_ok
theorem lv3_ok : ChOk lv3 := pruR_ok lv2_ok _
theorem lv4_ok : ChOk lv4 := addR_ok lv3_ok _ _ _
theorem lv1_eq : lv1 = addC ch0 5 login tu := by unfold lv1 addR; rw [if_pos lv1_e]
theorem lv1_n : lv1.cnt = 1 := by rw [lv1_eq]; rfl
theorem lv2_e : pruE lv2 1 = 0 := by unfold lv2; rw [lv1_eq]; decide
theorem lv2_n : pruN lv2 1 = 1 := by unfold pruN; rw [if_pos lv2_e]; unfold lv2; rw [lv1_eq]; rfl
theorem lv3_eq : lv3 = pruC lv2 1 := by
  unfold lv3 pruR
  rw [if_pos lv2_e]
  unfold lv2
  rw [lv1_eq]
  rfl
theorem lv3_n : lv3.cnt = 1 := by rw [lv3_eq]; unfold lv2; rw [lv1_eq]; rfl
theorem lv3_e : addE lv3 6 tick none0 = 0 := by
  have h1 : lv3.la = 5 := by rw [lv3_eq]; unfold lv2; rw [lv1_eq]; rfl
  have h2 : lv3.ev.length = 0 := by rw [lv3_eq]; unfold lv2; rw [lv1_eq]; rfl
  unfold addE
  rw [h1, h2]
  decide
theorem lv3_v : (eVals (addEv lv3 6 tick none0)).toArray = #[.int .i64 2, .int .i64 6, .string tick, .string none0] := by
  unfold addEv
  rw [if_pos lv3_e]
  show (eVals ⟨lv3.cnt + 1, 6, tick, none0⟩).toArray = _
  rw [lv3_n]
  rfl
theorem lv4_s : verE lv4 = 0 := Sound.ver (addR_sound lv3_ok (pruR_sound lv2_ok (Sound.anc (addR_sound ch0_ok sound0 _ _ _)) _) _ _ _)
theorem lv4_n : lv4.cnt < 1152921504606846976 := by
  have := addR_cnt lv3 6 tick none0
  rw [lv3_n] at this
  show (addR lv3 6 tick none0).cnt < _
  omega
theorem lv1_h : lv1.hd = sha (zero32 ++ evB ⟨1, 5, login, tu⟩) := by rw [lv1_eq]; rfl
theorem lv1_nz : (lv1.hd == zero32) = false := by
  rw [lv1_h]
  decide +kernel

set_option maxHeartbeats 4000000 in
theorem live_any {w : World} (hT : Tabs w w.heap.size) :
    Calls Tryd.prog 8 #[] w fun e w' => e = .returned (.bool true) ∧ Below w.heap.size w w' := by
  have HT := hid hT
  clear hT
  obtain ⟨B, hB⟩ : ∃ B, B = w.heap.size := ⟨_, rfl⟩
  have HB := hid hB
  obtain ⟨Z, hZ⟩ : ∃ Z, Z = bvs zero32 := ⟨_, rfl⟩
  have zh := (zero_of_info zero_hash).1
  rw [show bvs (List.replicate 32 0) = Z from hZ.symm] at zh
  have hbz : ∀ W, buildH.run Tryd.prog W = .ok (.agg Z) W := by rw [hZ]; exact buildH_run
  have HZ := hid hZ
  clear hB hZ
  go_enter Tryd.func8, Tryd.ntmps8
  go_wp2_with fail
  refine (new_any w).mono ?_
  rintro _ w1 ⟨g, rfl, h1, b1⟩
  rw [← HB.out] at h1 b1
  have H1 := hid h1
  have B1 : Hid (Below B w w1) := b1
  have T1 : Hid (Tabs w1 B) := by
    have := HT.out.keep (HB.out ▸ b1)
    rw [← HB.out] at this
    exact this
  clear h1 b1
  go_wp2_with fail
  have hB1 : B ≤ w1.heap.size := by have := B1.out.size; have := HB.out; omega
  refine (add_any H1.out ch0_ok (by decide) hB1 5 login tu (by decide) (by decide) T1.out).mono ?_
  rintro _ w2 ⟨v2, rfl, h2, o2, _⟩
  have H2 : Hid (ChAt w2 B g v2 lv1) := h2
  have B2 : Hid (Below B w1 w2) := o2.below hB1 H1.out.blk
  have T2 : Hid (Tabs w2 B) := T1.out.keep B2.out
  have hB2 : B ≤ w2.heap.size := Nat.le_trans hB1 B2.out.size
  rw [lv1_v, lv1_e]
  clear h2 o2 H1 T1
  go_wp2_with fail
  obtain ⟨w2a, hw2a⟩ : ∃ W, W = w2.alloc (.cells #[.int .i64 1, .int .i64 5, .string login, .string tu] 60) := ⟨_, rfl⟩
  have B2a : Hid (Below w2.heap.size w2 w2a) := by show Below _ _ _; rw [hw2a]; exact (Below.refl _ w2).alloc (Nat.le_refl _) _
  have E1 : Hid (w2a.heap[w2.heap.size]? = some (.cells #[.int .i64 1, .int .i64 5, .string login, .string tu] 60 (0, 0))) := by show _ = _; rw [hw2a]; exact heap_alloc_new w2 _
  have hge1 : g ≠ w2.heap.size := by have := H2.out.lt; omega
  have hve1 : Hid (∀ k, v2.ownBlock = some k → k < w2.heap.size) := fun k hk => (H2.out.lts k hk).2
  rw [← hw2a]
  clear hw2a
  refine (anchor_any (H2.out.below B2a.out) lv1_ok (by rw [lv1_n]; decide)).mono ?_
  rintro _ w3 ⟨rfl, h3, o3⟩
  have hB2a : B ≤ w2a.heap.size := Nat.le_trans hB2 B2a.out.size
  have H3 : Hid (ChAt w3 B g v2 lv2) := h3
  have b3 : Below B w2a w3 := o3.below hB2a (fun k hk => by rw [hk]; exact H2.out.bg)
  have T3 : Hid (Tabs w3 B) := (T2.out.below hB2 B2a.out).keep b3
  have E1b : Hid (w3.heap[w2.heap.size]? = some (.cells #[.int .i64 1, .int .i64 5, .string login, .string tu] 60 (0, 0))) := (o3.block _ (heap_lt E1.out) (fun x => hge1 x.symm)).trans E1.out
  have B3 : Hid (Below B w w3) := ((B1.out.trans B2.out).trans (B2a.out.mono hB2)).trans b3
  have hB3 : B ≤ w3.heap.size := Nat.le_trans hB2a b3.size
  have hE3 : w2.heap.size < w3.heap.size := heap_lt E1b.out
  rw [lv1_n]
  obtain ⟨O, hO⟩ : ∃ O, O = bvs lv1.hd := ⟨_, rfl⟩
  have hS3 := storeH_new w3 lv1.hd zero32 lv1_ok.lh (by decide)
  rw [← HZ.out, ← hO] at hS3
  rw [← hO]
  have hne : ∀ W, (Op.equalIn 10000 49 (.agg O) (.agg Z)).run Tryd.prog W = .ok false W := fun W => by
    rw [hO, HZ.out, hash_eq (a := lv1.hd) (b := zero32) ⟨rfl, lv1_ok.lh⟩ ⟨rfl, by decide⟩, lv1_nz]
  have HO := hid hO
  clear h3 o3 b3 H2 T2 E1 B2 B2a hO
  go_wp2_with fail
  obtain ⟨w3a, hw3a⟩ : ∃ W, W = w3.alloc (.cells O 49) := ⟨_, rfl⟩
  have B3a : Hid (Below w3.heap.size w3 w3a) := by show Below _ _ _; rw [hw3a]; exact (Below.refl _ w3).alloc (Nat.le_refl _) _
  have F1 : Hid (w3a.heap[w3.heap.size]? = some (.cells O 49 (0, 0))) := by show _ = _; rw [hw3a]; exact heap_alloc_new w3 _
  have E1c : Hid (w3a.heap[w2.heap.size]? = some (.cells #[.int .i64 1, .int .i64 5, .string login, .string tu] 60 (0, 0))) := (B3a.out.block _ hE3).trans E1b.out
  rw [← hw3a]
  clear hw3a hS3 E1b
  have hB3a : B ≤ w3a.heap.size := Nat.le_trans hB3 B3a.out.size
  refine (prune_any (H3.out.below B3a.out) lv2_ok (by show lv1.cnt < _; rw [lv1_n]; decide) (T3.out.below hB3 B3a.out) hB3a 1).mono ?_
  rintro _ w4 ⟨v4, rfl, h4, o4, gr4⟩
  rw [lv2_n, lv2_e]
  have hgl3 : g < w2.heap.size ∨ True := .inr trivial
  have nb4 : ∀ k, w2.heap.size ≤ k → k ≠ g → ¬ CBlk g v2 k := fun k h2 h3 h5 => by
    rcases h5 with h5 | h5
    · exact h3 h5
    · have := hve1.out k h5; omega
  have hgHb : w3.heap.size ≠ g := by have := H3.out.lt; omega
  have H4 : Hid (ChAt w4 B g v4 lv3) := h4
  have b4 : Below B w3a w4 := o4.below hB3a (H3.out.blk)
  have T4 : Hid (Tabs w4 B) := (T3.out.below hB3 B3a.out).keep b4
  have E1d : Hid (w4.heap[w2.heap.size]? = some (.cells #[.int .i64 1, .int .i64 5, .string login, .string tu] 60 (0, 0))) := (o4.block _ (heap_lt E1c.out) (nb4 _ (Nat.le_refl _) (fun x => hge1 x.symm))).trans E1c.out
  have F1d : Hid (w4.heap[w3.heap.size]? = some (.cells O 49 (0, 0))) := (o4.block _ (heap_lt F1.out) (nb4 _ (by omega) hgHb)).trans F1.out
  have hve4 : Hid (∀ k, v4.ownBlock = some k → k < w2.heap.size ∨ w3a.heap.size ≤ k) := fun k hk => (gr4 k hk).imp (hve1.out k) id
  have B4 : Hid (Below B w w4) := (B3.out.trans (B3a.out.mono hB3)).trans b4
  have hB4 : B ≤ w4.heap.size := Nat.le_trans hB3a b4.size
  have hF4 : w3.heap.size < w3a.heap.size := heap_lt F1.out
  clear h4 o4 gr4 b4 E1c F1 T3 B3a hve1 B3 nb4
  go_wp2_with fail
  refine (add_any H4.out lv3_ok (by rw [lv3_n]; decide) hB4 6 tick none0 (by decide) (by decide) T4.out).mono ?_
  rintro _ w5 ⟨v5, rfl, h5, o5, _⟩
  rw [lv3_v, lv3_e]
  have nb5 : ∀ k, w2.heap.size ≤ k → k < w3a.heap.size → k ≠ g → ¬ CBlk g v4 k := fun k h1 h2 h3 h6 => by
    rcases h6 with h6 | h6
    · exact h3 h6
    · have := hve4.out k h6; omega
  have H5 : Hid (ChAt w5 B g v5 lv4) := h5
  have b5 : Below B w4 w5 := o5.below hB4 (H4.out.blk)
  have T5 : Hid (Tabs w5 B) := T4.out.keep b5
  have E1e : Hid (w5.heap[w2.heap.size]? = some (.cells #[.int .i64 1, .int .i64 5, .string login, .string tu] 60 (0, 0))) := (o5.block _ (heap_lt E1d.out) (nb5 _ (Nat.le_refl _) (by omega) (fun x => hge1 x.symm))).trans E1d.out
  have F1e : Hid (w5.heap[w3.heap.size]? = some (.cells O 49 (0, 0))) := (o5.block _ (heap_lt F1d.out) (nb5 _ (by omega) hF4 hgHb)).trans F1d.out
  have B5 : Hid (Below B w w5) := B4.out.trans b5
  have hB5 : B ≤ w5.heap.size := Nat.le_trans hB4 b5.size
  obtain ⟨w6, hw6⟩ : ∃ W, W = w5.alloc (.cells #[.int .i64 2, .int .i64 6, .string tick, .string none0] 60) := ⟨_, rfl⟩
  have b6 : Below w5.heap.size w5 w6 := by rw [hw6]; exact (Below.refl _ w5).alloc (Nat.le_refl _) _
  have E2 : w6.heap[w5.heap.size]? = some (.cells #[.int .i64 2, .int .i64 6, .string tick, .string none0] 60 (0, 0)) := by rw [hw6]; exact heap_alloc_new w5 _
  have k1 : w6.cell? ⟨w2.heap.size, 0, none⟩ = some (.int .i64 1) := cell_of_row _ _ 0 _ _ _ ((b6.block _ (heap_lt E1e.out)).trans E1e.out)
  have k2 : w6.cell? ⟨w5.heap.size, 0, none⟩ = some (.int .i64 2) := cell_of_row _ _ 0 _ _ _ E2
  have f6 := (b6.block _ (heap_lt F1e.out)).trans F1e.out
  have hL6 : (loadH (.pointer (some ⟨w3.heap.size, 0, none⟩))).run Tryd.prog w6 = .ok (.agg O) w6 := loadH_run (l := lv1.hd) ⟨HO.out, lv1_ok.lh⟩ f6
  have HV := hid (verify_any (H5.out.below b6) lv4_ok lv4_n (T5.out.below hB5 b6) (Nat.le_trans hB5 b6.size))
  rw [lv4_s] at HV
  have B6 : Hid (Below B w w6) := B5.out.trans (b6.mono hB5)
  rw [hw6] at k1 k2 hL6
  have HW6 := hid hw6
  clear h5 o5 b5 b6 E2 f6 hw6 H4 H5 T4 T5 E1d F1d E1e F1e hve4 nb5 B4 B5
  go_wp2_with fail
  rw [← HW6.out]
  refine HV.out.mono ?_
  rintro _ w7 ⟨rfl, b7⟩
  have B7 : Hid (Below B w w7) := B6.out.trans (b7.mono (by have := B6.out.size; have := HB.out; omega))
  clear b7
  go_wp2
  go_ret
  exact ⟨rfl, B7.out.mono (Nat.le_of_eq HB.out.symm)⟩
end Go.Proofs.YthnciogaibhmcaaDoor
