/- YthfmpebgmojcaaaDoorALive + YthfmpebgmojcaaaDoorARw1 + YthfmpebgmojcaaaDoorARw2 + YthfmpebgmojcaaaDoorARw3 -/
import Derived.Test.YthfmpebgmojcaaaDoorTkH
import Derived.Test.YthfmpebgmojcaaaDoorARCh
import Derived.Maps.AppendAt
/- What must be whatever is asked: live of the laws on chains. -/
namespace Go.Proofs.YthfmpebgmojcaaaDoor
open Go.RowKit Go.Shelf
set_option linter.unusedVariables false
set_option maxRecDepth 20000
def buildH : Sem Value := Instr.build 69 #[]
theorem buildH_fold : Instr.build 69 #[] = buildH := rfl
theorem buildH_run (w : World) : buildH.run Tryd.prog w = .ok (.agg (bvs zero32)) w := run_build (P := Tryd.prog) w 69 #[] _ built_hash
theorem storeH_new (w : World) (l m : List UInt8) (hl : l.length = 32) (hm : m.length = 32) : (storeH (.pointer (some ⟨w.heap.size, 0, none⟩)) (.agg (bvs l))).run Tryd.prog (w.alloc (.cells (bvs m) 69)) = .ok () (w.alloc (.cells (bvs l) 69)) :=
  run_storeAt_new w 69 _ (bvs l) (size_hashs l hl) (by rw [bvs_size, bvs_size, hl, hm]) (bvs_one l)
attribute [local go_sem ↓] loadL_fold storeL_fold loadH_fold storeH_fold buildH_fold
abbrev login : ByteArray := ⟨#[108, 111, 103, 105, 110]⟩
abbrev tu : ByteArray := ⟨#[116, 47, 117]⟩
abbrev tick : ByteArray := ⟨#[116, 105, 99, 107]⟩
abbrev none0 : ByteArray := ⟨#[]⟩
def lv1 : Ch := addR ch0 5 login tu
def lv2 : Ch := ancC lv1
def lv3 : Ch := pruR lv2 1
def lv4 : Ch := addR lv3 6 tick none0
theorem lv1_e : addE ch0 5 login tu = 0 := by decide
theorem lv1_v : (eVals (addEv ch0 5 login tu)).toArray = #[.int .i64 1, .int .i64 5, .string login, .string tu] := by unfold addEv; rw [if_pos lv1_e]; rfl
theorem lv1_ok : ChOk lv1 := addR_ok ch0_ok _ _ _
theorem lv2_ok : ChOk lv2 := ancC_ok lv1_ok
theorem lv3_ok : ChOk lv3 := pruR_ok lv2_ok _
theorem lv4_ok : ChOk lv4 := addR_ok lv3_ok _ _ _
theorem lv1_eq : lv1 = addC ch0 5 login tu := by unfold lv1 addR; rw [if_pos lv1_e]
theorem lv1_n : lv1.cnt = 1 := by rw [lv1_eq]; rfl
theorem lv2_e : pruE lv2 1 = 0 := by unfold lv2; rw [lv1_eq]; decide
theorem lv2_n : pruN lv2 1 = 1 := by unfold pruN; rw [if_pos lv2_e]; unfold lv2; rw [lv1_eq]; rfl
theorem lv3_eq : lv3 = pruC lv2 1 := by
  unfold lv3 pruR
  rw [if_pos lv2_e]
  unfold lv2
  rw [lv1_eq]
  rfl
theorem lv3_n : lv3.cnt = 1 := by rw [lv3_eq]; unfold lv2; rw [lv1_eq]; rfl
theorem lv3_e : addE lv3 6 tick none0 = 0 := by
  have h1 : lv3.la = 5 := by rw [lv3_eq]; unfold lv2; rw [lv1_eq]; rfl
  have h2 : lv3.ev.length = 0 := by rw [lv3_eq]; unfold lv2; rw [lv1_eq]; rfl
  unfold addE
  rw [h1, h2]
  decide
theorem lv3_v : (eVals (addEv lv3 6 tick none0)).toArray = #[.int .i64 2, .int .i64 6, .string tick, .string none0] := by
  unfold addEv
  rw [if_pos lv3_e]
  show (eVals ⟨lv3.cnt + 1, 6, tick, none0⟩).toArray = _
  rw [lv3_n]
  rfl
theorem lv4_s : verE lv4 = 0 := Sound.ver (addR_sound lv3_ok (pruR_sound lv2_ok (Sound.anc (addR_sound ch0_ok sound0 _ _ _)) _) _ _ _)
theorem lv4_n : lv4.cnt < 1152921504606846976 := by
  have := addR_cnt lv3 6 tick none0
  rw [lv3_n] at this
  show (addR lv3 6 tick none0).cnt < _
  omega
theorem lv1_h : lv1.hd = sha (zero32 ++ evB ⟨1, 5, login, tu⟩) := by rw [lv1_eq]; rfl
theorem lv1_nz : (lv1.hd == zero32) = false := by
  rw [lv1_h]
  decide +kernel
set_option maxHeartbeats 4000000 in
theorem live_any {w : World} (hT : Tabs w w.heap.size) :
    Calls Tryd.prog 8 #[] w fun e w' => e = .returned (.bool true) ∧ Below w.heap.size w w' := by
  have HT := hid hT
  clear hT
  obtain ⟨B, hB⟩ : ∃ B, B = w.heap.size := ⟨_, rfl⟩
  have HB := hid hB
  obtain ⟨Z, hZ⟩ : ∃ Z, Z = bvs zero32 := ⟨_, rfl⟩
  have zh := (zero_of_info zero_hash).1
  rw [show bvs (List.replicate 32 0) = Z from hZ.symm] at zh
  have hbz : ∀ W, buildH.run Tryd.prog W = .ok (.agg Z) W := by rw [hZ]; exact buildH_run
  have HZ := hid hZ
  clear hB hZ
  go_enter Tryd.func8, Tryd.ntmps8
  go_wp2_with fail
  refine (new_any w).mono ?_
  rintro _ w1 ⟨g, rfl, h1, b1⟩
  rw [← HB.out] at h1 b1
  have H1 := hid h1
  have B1 : Hid (Below B w w1) := b1
  have T1 : Hid (Tabs w1 B) := by
    have := HT.out.keep (HB.out ▸ b1)
    rw [← HB.out] at this
    exact this
  clear h1 b1
  go_wp2_with fail
  have hB1 : B ≤ w1.heap.size := by have := B1.out.size; have := HB.out; omega
  refine (add_any H1.out ch0_ok (by decide) hB1 5 login tu (by decide) (by decide) T1.out).mono ?_
  rintro _ w2 ⟨v2, rfl, h2, o2, _⟩
  have H2 : Hid (ChAt w2 B g v2 lv1) := h2
  have B2 : Hid (Below B w1 w2) := o2.below hB1 H1.out.blk
  have T2 : Hid (Tabs w2 B) := T1.out.keep B2.out
  have hB2 : B ≤ w2.heap.size := Nat.le_trans hB1 B2.out.size
  rw [lv1_v, lv1_e]
  clear h2 o2 H1 T1
  go_wp2_with fail
  obtain ⟨w2a, hw2a⟩ : ∃ W, W = w2.alloc (.cells #[.int .i64 1, .int .i64 5, .string login, .string tu] 55) := ⟨_, rfl⟩
  have B2a : Hid (Below w2.heap.size w2 w2a) := by show Below _ _ _; rw [hw2a]; exact (Below.refl _ w2).alloc (Nat.le_refl _) _
  have E1 : Hid (w2a.heap[w2.heap.size]? = some (.cells #[.int .i64 1, .int .i64 5, .string login, .string tu] 55 (0, 0))) := by show _ = _; rw [hw2a]; exact heap_alloc_new w2 _
  have hge1 : g ≠ w2.heap.size := by have := H2.out.lt; omega
  have hve1 : Hid (∀ k, v2.ownBlock = some k → k < w2.heap.size) := fun k hk => (H2.out.lts k hk).2
  rw [← hw2a]
  clear hw2a
  refine (anchor_any (H2.out.below B2a.out) lv1_ok (by rw [lv1_n]; decide)).mono ?_
  rintro _ w3 ⟨rfl, h3, o3⟩
  have hB2a : B ≤ w2a.heap.size := Nat.le_trans hB2 B2a.out.size
  have H3 : Hid (ChAt w3 B g v2 lv2) := h3
  have b3 : Below B w2a w3 := o3.below hB2a (fun k hk => by rw [hk]; exact H2.out.bg)
  have T3 : Hid (Tabs w3 B) := (T2.out.below hB2 B2a.out).keep b3
  have E1b : Hid (w3.heap[w2.heap.size]? = some (.cells #[.int .i64 1, .int .i64 5, .string login, .string tu] 55 (0, 0))) := (o3.block _ (heap_lt E1.out) (fun x => hge1 x.symm)).trans E1.out
  have B3 : Hid (Below B w w3) := ((B1.out.trans B2.out).trans (B2a.out.mono hB2)).trans b3
  have hB3 : B ≤ w3.heap.size := Nat.le_trans hB2a b3.size
  have hE3 : w2.heap.size < w3.heap.size := heap_lt E1b.out
  rw [lv1_n]
  obtain ⟨O, hO⟩ : ∃ O, O = bvs lv1.hd := ⟨_, rfl⟩
  have hS3 := storeH_new w3 lv1.hd zero32 lv1_ok.lh (by decide)
  rw [← HZ.out, ← hO] at hS3
  rw [← hO]
  have hne : ∀ W, (Op.equalIn 10000 69 (.agg O) (.agg Z)).run Tryd.prog W = .ok false W := fun W => by
    rw [hO, HZ.out, hash_eq (a := lv1.hd) (b := zero32) ⟨rfl, lv1_ok.lh⟩ ⟨rfl, by decide⟩, lv1_nz]
  have HO := hid hO
  clear h3 o3 b3 H2 T2 E1 B2 B2a hO
  go_wp2_with fail
  obtain ⟨w3a, hw3a⟩ : ∃ W, W = w3.alloc (.cells O 69) := ⟨_, rfl⟩
  have B3a : Hid (Below w3.heap.size w3 w3a) := by show Below _ _ _; rw [hw3a]; exact (Below.refl _ w3).alloc (Nat.le_refl _) _
  have F1 : Hid (w3a.heap[w3.heap.size]? = some (.cells O 69 (0, 0))) := by show _ = _; rw [hw3a]; exact heap_alloc_new w3 _
  have E1c : Hid (w3a.heap[w2.heap.size]? = some (.cells #[.int .i64 1, .int .i64 5, .string login, .string tu] 55 (0, 0))) := (B3a.out.block _ hE3).trans E1b.out
  rw [← hw3a]
  clear hw3a hS3 E1b
  have hB3a : B ≤ w3a.heap.size := Nat.le_trans hB3 B3a.out.size
  refine (prune_any (H3.out.below B3a.out) lv2_ok (by show lv1.cnt < _; rw [lv1_n]; decide) (T3.out.below hB3 B3a.out) hB3a 1).mono ?_
  rintro _ w4 ⟨v4, rfl, h4, o4, gr4⟩
  rw [lv2_n, lv2_e]
  have hgl3 : g < w2.heap.size ∨ True := .inr trivial
  have nb4 : ∀ k, w2.heap.size ≤ k → k ≠ g → ¬ CBlk g v2 k := fun k h2 h3 h5 => by
    rcases h5 with h5 | h5
    · exact h3 h5
    · have := hve1.out k h5; omega
  have hgHb : w3.heap.size ≠ g := by have := H3.out.lt; omega
  have H4 : Hid (ChAt w4 B g v4 lv3) := h4
  have b4 : Below B w3a w4 := o4.below hB3a (H3.out.blk)
  have T4 : Hid (Tabs w4 B) := (T3.out.below hB3 B3a.out).keep b4
  have E1d : Hid (w4.heap[w2.heap.size]? = some (.cells #[.int .i64 1, .int .i64 5, .string login, .string tu] 55 (0, 0))) := (o4.block _ (heap_lt E1c.out) (nb4 _ (Nat.le_refl _) (fun x => hge1 x.symm))).trans E1c.out
  have F1d : Hid (w4.heap[w3.heap.size]? = some (.cells O 69 (0, 0))) := (o4.block _ (heap_lt F1.out) (nb4 _ (by omega) hgHb)).trans F1.out
  have hve4 : Hid (∀ k, v4.ownBlock = some k → k < w2.heap.size ∨ w3a.heap.size ≤ k) := fun k hk => (gr4 k hk).imp (hve1.out k) id
  have B4 : Hid (Below B w w4) := (B3.out.trans (B3a.out.mono hB3)).trans b4
  have hB4 : B ≤ w4.heap.size := Nat.le_trans hB3a b4.size
  have hF4 : w3.heap.size < w3a.heap.size := heap_lt F1.out
  clear h4 o4 gr4 b4 E1c F1 T3 B3a hve1 B3 nb4
  go_wp2_with fail
  refine (add_any H4.out lv3_ok (by rw [lv3_n]; decide) hB4 6 tick none0 (by decide) (by decide) T4.out).mono ?_
  rintro _ w5 ⟨v5, rfl, h5, o5, _⟩
  rw [lv3_v, lv3_e]
  have nb5 : ∀ k, w2.heap.size ≤ k → k < w3a.heap.size → k ≠ g → ¬ CBlk g v4 k := fun k h1 h2 h3 h6 => by
    rcases h6 with h6 | h6
    · exact h3 h6
    · have := hve4.out k h6; omega
  have H5 : Hid (ChAt w5 B g v5 lv4) := h5
  have b5 : Below B w4 w5 := o5.below hB4 (H4.out.blk)
  have T5 : Hid (Tabs w5 B) := T4.out.keep b5
  have E1e : Hid (w5.heap[w2.heap.size]? = some (.cells #[.int .i64 1, .int .i64 5, .string login, .string tu] 55 (0, 0))) := (o5.block _ (heap_lt E1d.out) (nb5 _ (Nat.le_refl _) (by omega) (fun x => hge1 x.symm))).trans E1d.out
  have F1e : Hid (w5.heap[w3.heap.size]? = some (.cells O 69 (0, 0))) := (o5.block _ (heap_lt F1d.out) (nb5 _ (by omega) hF4 hgHb)).trans F1d.out
  have B5 : Hid (Below B w w5) := B4.out.trans b5
  have hB5 : B ≤ w5.heap.size := Nat.le_trans hB4 b5.size
  obtain ⟨w6, hw6⟩ : ∃ W, W = w5.alloc (.cells #[.int .i64 2, .int .i64 6, .string tick, .string none0] 55) := ⟨_, rfl⟩
  have b6 : Below w5.heap.size w5 w6 := by rw [hw6]; exact (Below.refl _ w5).alloc (Nat.le_refl _) _
  have E2 : w6.heap[w5.heap.size]? = some (.cells #[.int .i64 2, .int .i64 6, .string tick, .string none0] 55 (0, 0)) := by rw [hw6]; exact heap_alloc_new w5 _
  have k1 : w6.cell? ⟨w2.heap.size, 0, none⟩ = some (.int .i64 1) := cell_of_row _ _ 0 _ _ _ ((b6.block _ (heap_lt E1e.out)).trans E1e.out)
  have k2 : w6.cell? ⟨w5.heap.size, 0, none⟩ = some (.int .i64 2) := cell_of_row _ _ 0 _ _ _ E2
  have f6 := (b6.block _ (heap_lt F1e.out)).trans F1e.out
  have hL6 : (loadH (.pointer (some ⟨w3.heap.size, 0, none⟩))).run Tryd.prog w6 = .ok (.agg O) w6 := loadH_run (l := lv1.hd) ⟨HO.out, lv1_ok.lh⟩ f6
  have HV := hid (verify_any (H5.out.below b6) lv4_ok lv4_n (T5.out.below hB5 b6) (Nat.le_trans hB5 b6.size))
  rw [lv4_s] at HV
  have B6 : Hid (Below B w w6) := B5.out.trans (b6.mono hB5)
  rw [hw6] at k1 k2 hL6
  have HW6 := hid hw6
  clear h5 o5 b5 b6 E2 f6 hw6 H4 H5 T4 T5 E1d F1d E1e F1e hve4 nb5 B4 B5
  go_wp2_with fail
  rw [← HW6.out]
  refine HV.out.mono ?_
  rintro _ w7 ⟨rfl, b7⟩
  have B7 : Hid (Below B w w7) := B6.out.trans (b7.mono (by have := B6.out.size; have := HB.out; omega))
  clear b7
  go_wp2
  go_ret
  exact ⟨rfl, B7.out.mono (Nat.le_of_eq HB.out.symm)⟩
end Go.Proofs.YthfmpebgmojcaaaDoor
/- Rows of a chain, their parts: state.Texts, audit.hashRow and eventKey, by contracts. -/
namespace Go.Proofs.YthfmpebgmojcaaaDoor
open Go.RowKit
set_option linter.unusedVariables false
set_option maxRecDepth 20000
theorem Tryd.info9 : (Tryd.prog.info? 9).map (fun i => (i.zero, i.size, i.bytes)) = some (some (.string ⟨#[]⟩), 1, 16) := by kernel_rfl
def strsOf (l : List ByteArray) : List Value := l.map Value.string
theorem strsOf_length (l : List ByteArray) : (strsOf l).length = l.length := by simp [strsOf]
theorem app_text (w : World) {ops : Array Oper} {rest : List Oper} {o : Oper} {a : Act} {Q : Exit → Act → World → Prop} (hgd : o.guard = none) (sl x : Operand)
    (ho : o.op = .call { callee := .builtin .append, args := #[sl, x], argTypes := #[73, 73] }) (base : Nat) (v : Value) (xs : List ByteArray) (hs : a.eval sl = v)
    (hown : w.ownsRow base 9 1 v xs.length (strsOf xs)) (s : ByteArray) (hx : a.eval x = .slice (some ⟨w.heap.size, 0, none⟩) 1 1) (hb : (xs.length + 1) * 16 ≤ 140737488355328) (hbase : base ≤ w.heap.size)
    (h : ∀ v' w', w'.ownsRow base 9 1 v' (xs ++ [s]).length (strsOf (xs ++ [s])) → Below base w w' → (∃ g cap, v' = .slice (some ⟨g, 0, none⟩) (xs ++ [s]).length cap) → wpList Tryd.prog ops Q rest (a.put o.dst v') w') :
    wpList Tryd.prog ops Q (o :: rest) a (w.alloc (.cells #[.string s] 9)) := by
  obtain ⟨i0, hi, hz0, hz1, hz2⟩ := info_parts Tryd.info9
  refine wpList_append_own _ hgd sl x 73 ho base 9 i0 (.string ⟨#[]⟩) 1 16 Tryd.underlying73 hi hz0 hz1 hz2 rfl (by decide) v xs.length (strsOf xs) hs (hown.alloc _) ⟨w.heap.size, 0, none⟩ 1 1 [.string s] hx rfl (cell_one_new _ _ _) (fun u hu => by simp at hu; subst hu; rfl) (by unfold maxLen; omega) (by omega) (by simp; omega) ?_
  intro v' w' h1 h2 h3
  have e : strsOf xs ++ [.string s] = strsOf (xs ++ [s]) := by simp [strsOf]
  have e2 : xs.length + 1 = (xs ++ [s]).length := by simp
  rw [e, e2] at h1
  refine h v' w' h1 (((Below.refl _ _).alloc hbase _).trans ((Below.refl _ _).grown h2 (by simp; omega) (fun k hk => (hown.lt k hk).1))) ?_
  rcases h1.2 with ⟨_, h0⟩ | ⟨g, cap, _, rfl, _⟩
  · simp at h0
  · exact ⟨g, cap, rfl⟩
theorem texts_of_own {w : World} {base : Nat} {v : Value} {xs : List ByteArray} (h : w.ownsRow base 9 1 v xs.length (strsOf xs)) : ∃ a cap, v = .slice a xs.length cap ∧ Texts w a xs ∧ xs.length ≤ cap := by
  rcases h.2 with ⟨rfl, h0⟩ | ⟨g, cap, cur, rfl, _, _, hcap, _⟩
  · exact ⟨none, 0, by rw [h0], fun i hi => by omega, by omega⟩
  · refine ⟨some ⟨g, 0, none⟩, cap, rfl, fun i hi => ⟨g, 0, rfl, ?_⟩, hcap⟩
    have := h.cells (g := g) rfl i (.string xs[i]) (by simp [strsOf, hi])
    rw [addr_add] at this
    exact this
theorem own_onW {w w' : World} {B e s n : Nat} {v : Value} {xs : List Value} (h : w.ownsRow B e s v n xs) (hb : Below w.heap.size w w') : w'.ownsRow B e s v n xs := by
  refine ⟨h.1, ?_⟩
  rcases h.2 with h0 | ⟨g, cap, cur, hv, hg, hgb, r⟩
  · exact .inl h0
  · exact .inr ⟨g, cap, cur, hv, hg, (hb.block _ (heap_lt hgb)).trans hgb, r⟩
theorem txt_size (n : Nat) (h : n ≤ 4611686018427387904) : (txt n).size ≤ 100 := by
  show (numT n).toArray.size ≤ 100
  unfold numT
  split
  · decide
  · rw [List.size_toArray, List.length_cons, lo_length]
    have := (Nat.log2_lt (by omega)).2 (show n < 2 ^ 63 by omega)
    omega
def evKey (n : Nat) : ByteArray := ⟨#[110]⟩ ++ txt n
set_option maxHeartbeats 400000 in
theorem eventKey_any (n : Nat) (h : n ≤ 4611686018427387904) (w : World) (ht : TabAt w) : Calls Tryd.prog 41 #[.int .i64 (n : Int)] w fun e w' => e = .returned (.string (evKey n)) ∧ Below w.heap.size w w' := by
  have HC := hid (text_any n h w ht)
  have hs := txt_size n h
  unfold evKey
  generalize txt n = t at *
  go_enter Tryd.func41, Tryd.ntmps41
  go_wp2_with (go_at_call 42; refine HC.out.mono ?_; rintro e w1 ⟨rfl, hb⟩)
  go_ret
  exact ⟨rfl, hb⟩
def NumsIn (w : World) (b : Nat) (l : List Nat) : Prop := ∀ i (h : i < l.length), w.cell? ⟨b, i, none⟩ = some (.int .i64 (l[i] : Int))
set_option maxHeartbeats 1000000 in
theorem texts_any (w : World) (b cap : Nat) (l : List Nat) (hl : NumsIn w b l) (hsm : ∀ n ∈ l, n ≤ 4611686018427387904) (hlen : l.length ≤ 1000) (ht : TabAt w) :
    Calls Tryd.prog 39 #[.slice (some ⟨b, 0, none⟩) l.length cap] w fun e w' => ∃ v, e = .returned v ∧ w'.ownsRow w.heap.size 9 1 v l.length (strsOf (l.map txt)) ∧ Below w.heap.size w w' := by
  have HL := hid hl
  have HT := hid ht
  have Hsm := hid hsm
  clear hl ht hsm
  go_enter Tryd.func39, Tryd.ntmps39
  go_wp2_with fail
  go_loopw [3, 8] (fun v i wr => ∃ k : Nat, k ≤ l.length ∧ i = .int .i64 (k : Int) ∧ wr.ownsRow w.heap.size 9 1 v ((l.take k).map txt).length (strsOf ((l.take k).map txt)) ∧ Below w.heap.size w wr) (fun _ i _ => l.length - (intOf i).toNat)
  case atStart => exact ⟨0, Nat.zero_le _, rfl, World.ownsRow_nil _ _ _ _, Below.refl _ _⟩
  case round =>
    obtain ⟨k, hk, rfl, hown, hbel⟩ := hrel
    have Hown := hid hown
    have Hbel := hid hbel
    have hle := hbel.size
    clear hown hbel
    by_cases hlt : k < l.length
    · have g1 : (k : Int) < (l.length : Int) := by omega
      have c0 := HL.out k hlt
      have hb1 : b < w.heap.size := World.block_lt_of_cell? _ _ c0
      have c1 := (Hbel.out.cell (p := ⟨b, k, none⟩) hb1).trans c0
      have HC := hid (text_any l[k] (Hsm.out _ (List.getElem_mem hlt)) wr (by have h := HT.out; unfold TabAt at h ⊢; exact (Hbel.out.cell (World.block_lt_of_cell? _ _ h)).trans h))
      have Hst : Hid ((l.take (k + 1)).map txt = (l.take k).map txt ++ [txt l[k]]) := by show _ = _; rw [List.take_succ_eq_append_getElem hlt, List.map_append]; rfl
      have Hlk : Hid (((l.take k).map txt).length ≤ 1000) := by show _ ≤ _; simp; omega
      generalize (l[k]'hlt) = m at *
      generalize txt m = t at *
      generalize (l.take k).map txt = xs at *
      clear c0
      go_wp2_with (first
        | (go_at_call 42; refine HC.out.mono ?_; rintro e w1 ⟨rfl, hb2⟩; have Hown1 := hid (own_onW Hown.out hb2); have Hb2 := hid hb2; clear hb2)
        | (at_builtin; refine app_text _ rfl (.tmp 12) (.tmp 15) rfl w.heap.size _ xs rfl Hown1.out t rfl (by have := Hlk.out; omega) (Nat.le_trans hle Hb2.out.size) ?_; intro v' w' hown' hb' hv'; have Hown' := hid hown'; have Hb' := hid hb'; clear hown' hb' hv'))
      go_roundw
      case rel => exact ⟨k + 1, by omega, by go_num, by rw [Hst.out]; exact Hown'.out, (Below.on' Hbel.out Hb2.out).trans Hb'.out⟩
      case measure => simp [intOf]; omega
    · have hkl : k = l.length := by omega
      have g1 : ¬ (k : Int) < (l.length : Int) := by omega
      have hend := Hown.out
      rw [hkl, List.take_length, List.length_map] at hend
      have Hend := hid hend
      clear hkl Hown hend
      go_wp2
      go_ret
      exact ⟨_, rfl, Hend.out, Hbel.out⟩
end Go.Proofs.YthfmpebgmojcaaaDoor
/- audit.hashRow, by a contract. -/
namespace Go.Proofs.YthfmpebgmojcaaaDoor
open Go.RowKit
set_option linter.unusedVariables false
set_option maxRecDepth 20000
def mkB (l : List UInt8) : ByteArray := ⟨l.toArray⟩
theorem size_row : (Tryd.prog.info? 75).map (·.size) = some 2 := by kernel_rfl
theorem conv_hash {w : World} {g : Nat} {h : List UInt8} (hl : h.length = 32) (hg : w.heap[g]? = some (.cells (bvs h) 69 (0, 0))) : (convert 40 9 (.slice (some ⟨g, 0, none⟩) 32 32)).run Tryd.prog w = .ok (.string (mkB h)) w := by
  have := run_convert_bytes_back (P := Tryd.prog) w 40 9 5 ⟨g, 0, none⟩ 32 h Tryd.underlying40 Tryd.underlying5 Tryd.underlying9 (fun j hj => by
    rw [addr_add, Nat.zero_add, cell_of_row _ _ _ _ _ _ hg, bvs_get h j hj])
  rw [hl] at this
  exact this
def HRowPost (w : World) (key : ByteArray) (h : List UInt8) (e : Ending) (w' : World) : Prop :=
  ∃ g, e = .returned (.agg #[.string key, .slice (some ⟨g, 0, none⟩) 1 1]) ∧ w'.heap[g]? = some (.cells #[.string (mkB h)] 9 (0, 0)) ∧ w.heap.size ≤ g ∧ Below w.heap.size w w'
set_option maxHeartbeats 1000000 in
theorem hashRow_any (w : World) (key : ByteArray) (h : List UInt8) (hl : h.length = 32) :
    Calls Tryd.prog 40 #[.string key, .agg (bvs h)] w (HRowPost w key h) := by
  obtain ⟨O, hO⟩ : ∃ O, O = bvs h := ⟨_, rfl⟩
  have x0 : ((w.alloc (.cells O 69)).alloc (.cells #[.string ⟨#[]⟩, .slice none 0 0] 75)).heap[w.heap.size]? = some (.cells (bvs h) 69 (0, 0)) := by rw [hO]; exact heap_alloc2_old w _ _
  have hcv := conv_hash hl x0
  rw [← hO]
  clear hO x0
  obtain ⟨t, ht⟩ : ∃ t, t = mkB h := ⟨_, rfl⟩
  rw [← ht] at hcv
  have Ht := hid ht
  clear ht
  go_enter Tryd.func40, Tryd.ntmps40
  go_wp2
  obtain ⟨w2, hw2⟩ : ∃ w2, w2 = (w.alloc (.cells O 69)).alloc (.cells #[.string key, .slice (some ⟨w.heap.size + 1 + 1, 0, none⟩) 1 1] 75) := ⟨_, rfl⟩
  have s2 : w2.heap.size = w.heap.size + 1 + 1 := by rw [hw2]; simp
  have r2 : w2.heap[w.heap.size + 1]? = some (.cells #[.string key, .slice (some ⟨w.heap.size + 1 + 1, 0, none⟩) 1 1] 75 (0, 0)) := by rw [hw2]; exact heap_alloc2_new w _ _
  have b2 : Below w.heap.size w w2 := by rw [hw2]; exact ((Below.refl _ w).alloc (Nat.le_refl _) _).alloc (by simp) _
  rw [← hw2]
  have b3 : Below w2.heap.size w2 (w2.alloc (.cells #[.string t] 9)) := (Below.refl _ w2).alloc (Nat.le_refl _) _
  refine bodyPost_ret (results_cell_row rfl _ _ (w.heap.size + 1) 75 #[.string key, .slice (some ⟨w.heap.size + 1 + 1, 0, none⟩) 1 1] (0, 0) _ rfl ((b3.block _ (by omega)).trans r2) Tryd.underlying75 rfl size_row) rfl ?_
  exact ⟨w.heap.size + 1 + 1, rfl, by rw [← s2, ← Ht.out]; exact heap_alloc_new w2 _, by omega, Below.on' b2 b3⟩
end Go.Proofs.YthfmpebgmojcaaaDoor
/- (*Chain).Rows: the region that makes the four first rows, over a frame that is a letter. -/
namespace Go.Proofs.YthfmpebgmojcaaaDoor
open Go.RowKit
set_option linter.unusedVariables false
set_option maxRecDepth 20000
theorem hf_texts : ∀ (args : Array Value) (w : World), (callFunc 39 args).run Tryd.prog w = .ok (.enter 39 args) w := fun args w => by simp [go_sem]
theorem hf_hashRow : ∀ (args : Array Value) (w : World), (callFunc 40 args).run Tryd.prog w = .ok (.enter 40 args) w := fun args w => by simp [go_sem]
theorem nums3 (w : World) (p q s : Nat) : NumsIn (w.alloc (.cells #[.int .i64 (p : Int), .int .i64 (q : Int), .int .i64 (s : Int)] 3)) w.heap.size [p, q, s] := fun i hi => by
  rw [World.cell?_alloc_at _ _ _ _ rfl]
  simp only [List.length_cons, List.length_nil] at hi
  match i, hi with
  | 0, _ => rfl
  | 1, _ => rfl
  | 2, _ => rfl
theorem y_chain4 {ops : Array Oper} {S : World → Prop} {op : Oper} {a : Act} (hw : Region.wanted op (yielded ops a.tmps) = true) (x : Operand) (ho : op.op = .fieldAddr 87 x 4) (g : Nat) (hx : a.eval x = .pointer (some ⟨g, 0, none⟩)) : YieldsIf Tryd.prog ops S op (.pointer (some ⟨g, 99, none⟩)) a := by
  refine .inl ⟨hw, fun w _ => ?_⟩
  unfold execOp
  simp only [ho, hx]
  simp [go_sem]
theorem y_buildR {ops : Array Oper} {S : World → Prop} {op : Oper} {a : Act} (hw : Region.wanted op (yielded ops a.tmps) = true) (x y : Operand) (ho : op.op = .build 75 #[(0, x), (1, y)]) (k : ByteArray) (ad : Option Addr) (n cp : Nat) (hx : a.eval x = .string k) (hy : a.eval y = .slice ad n cp) : YieldsIf Tryd.prog ops S op (.agg #[.string k, .slice ad n cp]) a := by
  refine .inl ⟨hw, fun w _ => ?_⟩
  unfold execOp
  simp only [ho, List.map_toArray, List.map_cons, List.map_nil, hx, hy]
  simp [go_sem]
theorem wp_build3N {o : Oper} {a : Act} {w : World} {K : Act → World → Prop} {Q : Exit → Act → World → Prop} (x y z : Operand) (ho : o.op = .buildSlice 151 3 #[(0, x), (1, y), (2, z)]) (p q s : Nat) (h0 : a.eval x = .int .i64 (p : Int)) (h1 : a.eval y = .int .i64 (q : Int)) (h2 : a.eval z = .int .i64 (s : Int))
    (h : K (a.put o.dst (.slice (some ⟨w.heap.size, 0, none⟩) 3 3)) (w.alloc (.cells #[.int .i64 (p : Int), .int .i64 (q : Int), .int .i64 (s : Int)] 3))) : o.wp Tryd.prog a w K Q := by
  unfold Oper.wp execOp
  simp only [ho, List.map_toArray, List.map_cons, List.map_nil, h0, h1, h2]
  simp [go_sem]
  exact h
theorem wp_build4R {o : Oper} {a : Act} {w : World} {K : Act → World → Prop} {Q : Exit → Act → World → Prop} (x y z u : Operand) (ho : o.op = .buildSlice 22 4 #[(0, x), (1, y), (2, z), (3, u)]) (k0 k1 k2 k3 : ByteArray) (a0 a1 a2 a3 : Option Addr) (n0 n1 n2 n3 c0 c1 c2 c3 : Nat)
    (h0 : a.eval x = .agg #[.string k0, .slice a0 n0 c0]) (h1 : a.eval y = .agg #[.string k1, .slice a1 n1 c1]) (h2 : a.eval z = .agg #[.string k2, .slice a2 n2 c2]) (h3 : a.eval u = .agg #[.string k3, .slice a3 n3 c3])
    (h : K (a.put o.dst (.slice (some ⟨w.heap.size, 0, none⟩) 4 4)) (w.alloc (.cells #[.string k0, .slice a0 n0 c0, .string k1, .slice a1 n1 c1, .string k2, .slice a2 n2 c2, .string k3, .slice a3 n3 c3] 75))) : o.wp Tryd.prog a w K Q := by
  unfold Oper.wp execOp
  simp only [ho, List.map_toArray, List.map_cons, List.map_nil, h0, h1, h2, h3]
  simp [go_sem]
  exact h
theorem own_monoW {w : World} {B B' e s n : Nat} {v : Value} {xs : List Value} (h : w.ownsRow B e s v n xs) (hB : B' ≤ B) : w.ownsRow B' e s v n xs := by
  refine ⟨h.1, ?_⟩
  rcases h.2 with h0 | ⟨k, cap, cur, rfl, hb, r⟩
  · exact .inl h0
  · exact .inr ⟨k, cap, cur, rfl, Nat.le_trans hB hb, r⟩
def RwS (B g : Nat) (v : Value) (c : Ch) (V : World) : Prop := ChAt V B g v c ∧ Tabs V B ∧ B ≤ V.heap.size
theorem RwS.on {B g : Nat} {v : Value} {c : Ch} {V V' : World} (hs : RwS B g v c V) (hb : Below V.heap.size V V') : RwS B g v c V' := ⟨hs.1.below hb, hs.2.1.below hs.2.2 hb, Nat.le_trans hs.2.2 hb.size⟩
noncomputable def codeRw (n : Nat) : Code := ((Tryd.f10.body.bind (regionAt n)).getD .skip)
set_option maxHeartbeats 4000000 in
theorem rows_region3 {V0 W5 : World} {B g : Nat} {v : Value} {c : Ch} {A : Act} (sz : A.tmps.size = 69) (e0 : A.eval (.tmp 0) = .pointer (some ⟨g, 0, none⟩))
    (hV0 : V0 = W5.drew) (hs0 : RwS B g v c V0) (ok : Lens c) (hsm : ∀ n ∈ [c.bn, c.an, c.la], n ≤ 4611686018427387904) :
    (codeRw 3).wp Tryd.prog (fun x a V => x = .normal ∧ ∃ V5 at3 ct3 g3 g4 g5, a = ((((((((((((((((((((((((((((((((((((A.put (some 8) (.pointer (some ⟨g, 0, none⟩))).put (some 9) (.pointer (some ⟨g, 0, none⟩))).put (some 10) (.pointer (some ⟨g, 0, none⟩))).put (some 11) (.pointer (some ⟨g, 0, none⟩))).put (some 12) (.int .i64 (c.bn : Int))).put (some 13) (.pointer (some ⟨g, 0, none⟩))).put (some 14) (.pointer (some ⟨g, 0, none⟩))).put (some 15) (.pointer (some ⟨g, 33, none⟩))).put (some 16) (.pointer (some ⟨g, 33, none⟩))).put (some 17) (.int .i64 (c.an : Int))).put (some 18) (.pointer (some ⟨g, 0, none⟩))).put (some 19) (.pointer (some ⟨g, 0, none⟩))).put (some 20) (.pointer (some ⟨g, 99, none⟩))).put (some 21) (.int .i64 (c.la : Int))).put (some 25) (.pointer (some ⟨g, 0, none⟩))).put (some 26) (.pointer (some ⟨g, 0, none⟩))).put (some 27) (.pointer (some ⟨g, 33, none⟩))).put (some 28) (.pointer (some ⟨g, 34, none⟩))).put (some 29) (.agg (bvs c.ah))).put (some 31) (.pointer (some ⟨g, 0, none⟩))).put (some 32) (.pointer (some ⟨g, 0, none⟩))).put (some 33) (.pointer (some ⟨g, 0, none⟩))).put (some 34) (.pointer (some ⟨g, 1, none⟩))).put (some 35) (.agg (bvs c.bh))).put (some 37) (.pointer (some ⟨g, 0, none⟩))).put (some 38) (.pointer (some ⟨g, 0, none⟩))).put (some 39) (.pointer (some ⟨g, 67, none⟩))).put (some 40) (.agg (bvs c.hd))).put (some 22) (.slice (some ⟨V0.heap.size, 0, none⟩) 3 3)).put (some 23) (.slice at3 3 ct3)).put (some 24) (.agg #[.string ⟨#[35]⟩, .slice at3 3 ct3])).put (some 30) (.agg #[.string ⟨#[97]⟩, .slice (some ⟨g3, 0, none⟩) 1 1])).put (some 36) (.agg #[.string ⟨#[98]⟩, .slice (some ⟨g4, 0, none⟩) 1 1])).put (some 41) (.agg #[.string ⟨#[104]⟩, .slice (some ⟨g5, 0, none⟩) 1 1])).put (some 42) (.slice (some ⟨V5.heap.size, 0, none⟩) 4 4)).put (some 3) (.slice (some ⟨V5.heap.size, 0, none⟩) 4 4)) ∧ V = V5.alloc (.cells #[.string ⟨#[35]⟩, .slice at3 3 ct3, .string ⟨#[97]⟩, .slice (some ⟨g3, 0, none⟩) 1 1, .string ⟨#[98]⟩, .slice (some ⟨g4, 0, none⟩) 1 1, .string ⟨#[104]⟩, .slice (some ⟨g5, 0, none⟩) 1 1] 75) ∧ V5.ownsRow 0 9 1 (.slice at3 3 ct3) 3 (strsOf ([c.bn, c.an, c.la].map txt)) ∧ V5.heap[g3]? = some (.cells #[.string (mkB c.ah)] 9 (0, 0)) ∧ V5.heap[g4]? = some (.cells #[.string (mkB c.bh)] 9 (0, 0)) ∧ V5.heap[g5]? = some (.cells #[.string (mkB c.hd)] 9 (0, 0)) ∧ Below V0.heap.size V0 V5) A W5 := by
  have hm : Tryd.prog.follows .mixedOrders = true := by kernel_rfl
  unfold codeRw
  conv => arg 2; whnf
  refine wp_region_held (S := RwS B g v c) hm ?_
  rw [show ({ W5 with drawn := W5.drawn + 1 } : World) = V0 from hV0.symm]
  refine tkH (i := 0) (d := 8) (v := .pointer (some ⟨g, 0, none⟩)) rfl rfl (yields_move (by simp [Region.wanted]) (.tmp 0) rfl _ e0) hs0 ?_
  refine tkH (i := 1) (d := 9) (v := .pointer (some ⟨g, 0, none⟩)) rfl rfl (y_nil (by simp [Region.wanted]) (.tmp 8) rfl _ (ev_eq _ _ (by simp [sz]))) hs0 ?_
  refine tkH (i := 2) (d := 10) (v := .pointer (some ⟨g, 0, none⟩)) rfl rfl (y_chain0 (by simp [Region.wanted]) (.tmp 9) rfl g (ev_eq _ _ (by simp [put_sz, sz]))) hs0 ?_
  refine tkH (i := 3) (d := 11) (v := .pointer (some ⟨g, 0, none⟩)) rfl rfl (y_link0 (by simp [Region.wanted]) (.tmp 10) rfl g 0 (ev_eq _ _ (by simp [put_sz, sz]))) hs0 ?_
  refine tkH (i := 4) (d := 12) (v := .int .i64 (c.bn : Int)) rfl rfl (y_loadI (by simp [Region.wanted]) (.tmp 11) rfl g 0 _ (ev_eq _ _ (by simp [put_sz, sz])) (fun V hV => hV.1.c0)) hs0 ?_
  refine tkH (i := 5) (d := 13) (v := .pointer (some ⟨g, 0, none⟩)) rfl rfl (yields_move (by simp [Region.wanted]) (.tmp 0) rfl _ (evn (evn (evn (evn (evn e0)))))) hs0 ?_
  refine tkH (i := 6) (d := 14) (v := .pointer (some ⟨g, 0, none⟩)) rfl rfl (y_nil (by simp [Region.wanted]) (.tmp 13) rfl _ (ev_eq _ _ (by simp [put_sz, sz]))) hs0 ?_
  refine tkH (i := 7) (d := 15) (v := .pointer (some ⟨g, 33, none⟩)) rfl rfl (y_chain1 (by simp [Region.wanted]) (.tmp 14) rfl g (ev_eq _ _ (by simp [put_sz, sz]))) hs0 ?_
  refine tkH (i := 8) (d := 16) (v := .pointer (some ⟨g, 33, none⟩)) rfl rfl (y_link0 (by simp [Region.wanted]) (.tmp 15) rfl g 33 (ev_eq _ _ (by simp [put_sz, sz]))) hs0 ?_
  refine tkH (i := 9) (d := 17) (v := .int .i64 (c.an : Int)) rfl rfl (y_loadI (by simp [Region.wanted]) (.tmp 16) rfl g 33 _ (ev_eq _ _ (by simp [put_sz, sz])) (fun V hV => hV.1.c33 ok)) hs0 ?_
  refine tkH (i := 10) (d := 18) (v := .pointer (some ⟨g, 0, none⟩)) rfl rfl (yields_move (by simp [Region.wanted]) (.tmp 0) rfl _ (evn (evn (evn (evn (evn (evn (evn (evn (evn (evn e0))))))))))) hs0 ?_
  refine tkH (i := 11) (d := 19) (v := .pointer (some ⟨g, 0, none⟩)) rfl rfl (y_nil (by simp [Region.wanted]) (.tmp 18) rfl _ (ev_eq _ _ (by simp [put_sz, sz]))) hs0 ?_
  refine tkH (i := 12) (d := 20) (v := .pointer (some ⟨g, 99, none⟩)) rfl rfl (y_chain4 (by simp [Region.wanted]) (.tmp 19) rfl g (ev_eq _ _ (by simp [put_sz, sz]))) hs0 ?_
  refine tkH (i := 13) (d := 21) (v := .int .i64 (c.la : Int)) rfl rfl (y_loadI (by simp [Region.wanted]) (.tmp 20) rfl g 99 _ (ev_eq _ _ (by simp [put_sz, sz])) (fun V hV => hV.1.c99 ok)) hs0 ?_
  obtain ⟨A2, hA2⟩ : ∃ A2, A2 = ((((((((((((((A.put (some 8) (.pointer (some ⟨g, 0, none⟩))).put (some 9) (.pointer (some ⟨g, 0, none⟩))).put (some 10) (.pointer (some ⟨g, 0, none⟩))).put (some 11) (.pointer (some ⟨g, 0, none⟩))).put (some 12) (.int .i64 (c.bn : Int))).put (some 13) (.pointer (some ⟨g, 0, none⟩))).put (some 14) (.pointer (some ⟨g, 0, none⟩))).put (some 15) (.pointer (some ⟨g, 33, none⟩))).put (some 16) (.pointer (some ⟨g, 33, none⟩))).put (some 17) (.int .i64 (c.an : Int))).put (some 18) (.pointer (some ⟨g, 0, none⟩))).put (some 19) (.pointer (some ⟨g, 0, none⟩))).put (some 20) (.pointer (some ⟨g, 99, none⟩))).put (some 21) (.int .i64 (c.la : Int))) := ⟨_, rfl⟩
  have szA2 : A2.tmps.size = 69 := by rw [hA2]; simp [put_sz, sz]
  have eA20 : A2.eval (.tmp 0) = .pointer (some ⟨g, 0, none⟩) := by rw [hA2]; exact (evn (evn (evn (evn (evn (evn (evn (evn (evn (evn (evn (evn (evn (evn e0))))))))))))))
  have eA212 : A2.eval (.tmp 12) = .int .i64 (c.bn : Int) := by rw [hA2]; exact (evn (evn (evn (evn (evn (evn (evn (evn (evn (ev_eq _ _ (by simp [put_sz, sz])))))))))))
  have eA217 : A2.eval (.tmp 17) = .int .i64 (c.an : Int) := by rw [hA2]; exact (evn (evn (evn (evn (ev_eq _ _ (by simp [put_sz, sz]))))))
  have eA221 : A2.eval (.tmp 21) = .int .i64 (c.la : Int) := by rw [hA2]; exact (ev_eq _ _ (by simp [put_sz, sz]))
  rw [← hA2]
  refine tkH (i := 17) (d := 25) (v := .pointer (some ⟨g, 0, none⟩)) rfl rfl (yields_move (by simp [Region.wanted]) (.tmp 0) rfl _ eA20) hs0 ?_
  refine tkH (i := 18) (d := 26) (v := .pointer (some ⟨g, 0, none⟩)) rfl rfl (y_nil (by simp [Region.wanted]) (.tmp 25) rfl _ (ev_eq _ _ (by simp [szA2]))) hs0 ?_
  refine tkH (i := 19) (d := 27) (v := .pointer (some ⟨g, 33, none⟩)) rfl rfl (y_chain1 (by simp [Region.wanted]) (.tmp 26) rfl g (ev_eq _ _ (by simp [put_sz, szA2]))) hs0 ?_
  refine tkH (i := 20) (d := 28) (v := .pointer (some ⟨g, 34, none⟩)) rfl rfl (y_link1 (by simp [Region.wanted]) (.tmp 27) rfl g 33 (ev_eq _ _ (by simp [put_sz, szA2]))) hs0 ?_
  refine tkH (i := 21) (d := 29) (v := .agg (bvs c.ah)) rfl rfl (y_loadH (by simp [Region.wanted]) (.tmp 28) rfl g 34 c.ah ok.lan (ev_eq _ _ (by simp [put_sz, szA2])) (fun V hV => hV.1.ra ok)) hs0 ?_
  refine tkH (i := 23) (d := 31) (v := .pointer (some ⟨g, 0, none⟩)) rfl rfl (yields_move (by simp [Region.wanted]) (.tmp 0) rfl _ (evn (evn (evn (evn (evn eA20)))))) hs0 ?_
  refine tkH (i := 24) (d := 32) (v := .pointer (some ⟨g, 0, none⟩)) rfl rfl (y_nil (by simp [Region.wanted]) (.tmp 31) rfl _ (ev_eq _ _ (by simp [put_sz, szA2]))) hs0 ?_
  refine tkH (i := 25) (d := 33) (v := .pointer (some ⟨g, 0, none⟩)) rfl rfl (y_chain0 (by simp [Region.wanted]) (.tmp 32) rfl g (ev_eq _ _ (by simp [put_sz, szA2]))) hs0 ?_
  refine tkH (i := 26) (d := 34) (v := .pointer (some ⟨g, 1, none⟩)) rfl rfl (y_link1 (by simp [Region.wanted]) (.tmp 33) rfl g 0 (ev_eq _ _ (by simp [put_sz, szA2]))) hs0 ?_
  refine tkH (i := 27) (d := 35) (v := .agg (bvs c.bh)) rfl rfl (y_loadH (by simp [Region.wanted]) (.tmp 34) rfl g 1 c.bh ok.lb (ev_eq _ _ (by simp [put_sz, szA2])) (fun V hV => range_mid (A := [.int .i64 (c.bn : Int)]) hV.1.obj 1 rfl)) hs0 ?_
  refine tkH (i := 29) (d := 37) (v := .pointer (some ⟨g, 0, none⟩)) rfl rfl (yields_move (by simp [Region.wanted]) (.tmp 0) rfl _ (evn (evn (evn (evn (evn (evn (evn (evn (evn (evn eA20))))))))))) hs0 ?_
  refine tkH (i := 30) (d := 38) (v := .pointer (some ⟨g, 0, none⟩)) rfl rfl (y_nil (by simp [Region.wanted]) (.tmp 37) rfl _ (ev_eq _ _ (by simp [put_sz, szA2]))) hs0 ?_
  refine tkH (i := 31) (d := 39) (v := .pointer (some ⟨g, 67, none⟩)) rfl rfl (y_chain3 (by simp [Region.wanted]) (.tmp 38) rfl g (ev_eq _ _ (by simp [put_sz, szA2]))) hs0 ?_
  refine tkH (i := 32) (d := 40) (v := .agg (bvs c.hd)) rfl rfl (y_loadH (by simp [Region.wanted]) (.tmp 39) rfl g 67 c.hd ok.lh (ev_eq _ _ (by simp [put_sz, szA2])) (fun V hV => hV.1.rh ok)) hs0 ?_
  obtain ⟨A3, hA3⟩ : ∃ A3, A3 = ((((((((((((((A2.put (some 25) (.pointer (some ⟨g, 0, none⟩))).put (some 26) (.pointer (some ⟨g, 0, none⟩))).put (some 27) (.pointer (some ⟨g, 33, none⟩))).put (some 28) (.pointer (some ⟨g, 34, none⟩))).put (some 29) (.agg (bvs c.ah))).put (some 31) (.pointer (some ⟨g, 0, none⟩))).put (some 32) (.pointer (some ⟨g, 0, none⟩))).put (some 33) (.pointer (some ⟨g, 0, none⟩))).put (some 34) (.pointer (some ⟨g, 1, none⟩))).put (some 35) (.agg (bvs c.bh))).put (some 37) (.pointer (some ⟨g, 0, none⟩))).put (some 38) (.pointer (some ⟨g, 0, none⟩))).put (some 39) (.pointer (some ⟨g, 67, none⟩))).put (some 40) (.agg (bvs c.hd))) := ⟨_, rfl⟩
  have szA3 : A3.tmps.size = 69 := by rw [hA3]; simp [put_sz, szA2]
  have eA312 : A3.eval (.tmp 12) = .int .i64 (c.bn : Int) := by rw [hA3]; exact (evn (evn (evn (evn (evn (evn (evn (evn (evn (evn (evn (evn (evn (evn eA212))))))))))))))
  have eA317 : A3.eval (.tmp 17) = .int .i64 (c.an : Int) := by rw [hA3]; exact (evn (evn (evn (evn (evn (evn (evn (evn (evn (evn (evn (evn (evn (evn eA217))))))))))))))
  have eA321 : A3.eval (.tmp 21) = .int .i64 (c.la : Int) := by rw [hA3]; exact (evn (evn (evn (evn (evn (evn (evn (evn (evn (evn (evn (evn (evn (evn eA221))))))))))))))
  have eA329 : A3.eval (.tmp 29) = .agg (bvs c.ah) := by rw [hA3]; exact (evn (evn (evn (evn (evn (evn (evn (evn (evn (ev_eq _ _ (by simp [put_sz, szA2])))))))))))
  have eA335 : A3.eval (.tmp 35) = .agg (bvs c.bh) := by rw [hA3]; exact (evn (evn (evn (evn (ev_eq _ _ (by simp [put_sz, szA2]))))))
  have eA340 : A3.eval (.tmp 40) = .agg (bvs c.hd) := by rw [hA3]; exact (ev_eq _ _ (by simp [put_sz, szA2]))
  rw [← hA3]
  refine wpAnyH_all (rs := [14]) (by kernel_rfl) (by simp) fun i1 hm1 => ?_
  obtain rfl : i1 = 14 := by simpa using hm1
  refine wpOp_own rfl rfl fun K1 hK1 => ?_
  refine wp_build3N (.tmp 12) (.tmp 17) (.tmp 21) rfl c.bn c.an c.la eA312 eA317 eA321 ?_
  have b1 : Below V0.heap.size V0 (V0.alloc (.cells #[.int .i64 (c.bn : Int), .int .i64 (c.an : Int), .int .i64 (c.la : Int)] 3)) := (Below.refl _ V0).alloc (Nat.le_refl _) _
  have hs1 := hs0.on b1
  refine hK1 _ _ ⟨hs1, ?_⟩
  clear hK1 K1 hm1
  show wpAnyH _ _ _ _ _ _ _ (A3.put (some 22) (.slice (some ⟨V0.heap.size, 0, none⟩) 3 3)) _
  refine wpAnyH_all (rs := [15]) (by kernel_rfl) (by simp) fun i2 hm2 => ?_
  obtain rfl : i2 = 15 := by simpa using hm2
  refine wpOp_own rfl rfl fun K2 hK2 => ?_
  refine wp_calls1 39 hf_texts (.tmp 22) _ rfl (.slice (some ⟨V0.heap.size, 0, none⟩) 3 3) (ev_eq _ _ (by simp [szA3])) ?_
  refine (texts_any _ V0.heap.size 3 [c.bn, c.an, c.la] (nums3 V0 _ _ _) hsm (by simp) hs1.2.1.tab).mono ?_
  rintro _ V2 ⟨vt, rfl, hown, hb2⟩
  obtain ⟨at3, ct3, rfl, htx, hct⟩ := texts_of_own (xs := [c.bn, c.an, c.la].map txt) hown
  have hs2 := hs1.on hb2
  refine ⟨_, rfl, hK2 _ _ ⟨hs2, ?_⟩⟩
  clear hK2 K2 hm2
  show wpAnyH _ _ _ _ _ _ _ ((A3.put (some 22) (.slice (some ⟨V0.heap.size, 0, none⟩) 3 3)).put (some 23) (.slice at3 3 ct3)) _
  refine tkH (i := 16) (d := 24) (v := .agg #[.string ⟨#[35]⟩, .slice at3 3 ct3]) rfl rfl (y_buildR (by simp [Region.wanted]) (.const (.string ⟨#[35]⟩)) (.tmp 23) rfl _ _ _ _ rfl (ev_eq _ _ (by simp [put_sz, szA3]))) hs2 ?_
  obtain ⟨A4, hA4⟩ : ∃ A4, A4 = (((A3.put (some 22) (.slice (some ⟨V0.heap.size, 0, none⟩) 3 3)).put (some 23) (.slice at3 3 ct3)).put (some 24) (.agg #[.string ⟨#[35]⟩, .slice at3 3 ct3])) := ⟨_, rfl⟩
  have szA4 : A4.tmps.size = 69 := by rw [hA4]; simp [put_sz, szA3]
  have eA424 : A4.eval (.tmp 24) = .agg #[.string ⟨#[35]⟩, .slice at3 3 ct3] := by rw [hA4]; exact (ev_eq _ _ (by simp [put_sz, szA3]))
  have eA429 : A4.eval (.tmp 29) = .agg (bvs c.ah) := by rw [hA4]; exact (evn (evn (evn eA329)))
  have eA435 : A4.eval (.tmp 35) = .agg (bvs c.bh) := by rw [hA4]; exact (evn (evn (evn eA335)))
  have eA440 : A4.eval (.tmp 40) = .agg (bvs c.hd) := by rw [hA4]; exact (evn (evn (evn eA340)))
  rw [← hA4]
  refine wpAnyH_all (rs := [22]) (by kernel_rfl) (by simp) fun i3 hm3 => ?_
  obtain rfl : i3 = 22 := by simpa using hm3
  refine wpOp_own rfl rfl fun K3 hK3 => ?_
  refine wp_calls2 40 hf_hashRow (.const (.string ⟨#[97]⟩)) (.tmp 29) _ rfl (.string ⟨#[97]⟩) (.agg (bvs c.ah)) rfl eA429 ?_
  refine (hashRow_any V2 ⟨#[97]⟩ c.ah ok.lan).mono ?_
  rintro _ V3 ⟨g3, rfl, hg3, hge3, hb3⟩
  have hs3 := hs2.on hb3
  refine ⟨_, rfl, hK3 _ _ ⟨hs3, ?_⟩⟩
  clear hK3 K3 hm3
  show wpAnyH _ _ _ _ _ _ _ (A4.put (some 30) (.agg #[.string ⟨#[97]⟩, .slice (some ⟨g3, 0, none⟩) 1 1])) _
  refine wpAnyH_all (rs := [28]) (by kernel_rfl) (by simp) fun i4 hm4 => ?_
  obtain rfl : i4 = 28 := by simpa using hm4
  refine wpOp_own rfl rfl fun K4 hK4 => ?_
  refine wp_calls2 40 hf_hashRow (.const (.string ⟨#[98]⟩)) (.tmp 35) _ rfl (.string ⟨#[98]⟩) (.agg (bvs c.bh)) rfl (evn eA435) ?_
  refine (hashRow_any V3 ⟨#[98]⟩ c.bh ok.lb).mono ?_
  rintro _ V4 ⟨g4, rfl, hg4, hge4, hb4⟩
  have hs4 := hs3.on hb4
  refine ⟨_, rfl, hK4 _ _ ⟨hs4, ?_⟩⟩
  clear hK4 K4 hm4
  show wpAnyH _ _ _ _ _ _ _ ((A4.put (some 30) (.agg #[.string ⟨#[97]⟩, .slice (some ⟨g3, 0, none⟩) 1 1])).put (some 36) (.agg #[.string ⟨#[98]⟩, .slice (some ⟨g4, 0, none⟩) 1 1])) _
  refine wpAnyH_all (rs := [33]) (by kernel_rfl) (by simp) fun i5 hm5 => ?_
  obtain rfl : i5 = 33 := by simpa using hm5
  refine wpOp_own rfl rfl fun K5 hK5 => ?_
  refine wp_calls2 40 hf_hashRow (.const (.string ⟨#[104]⟩)) (.tmp 40) _ rfl (.string ⟨#[104]⟩) (.agg (bvs c.hd)) rfl (evn (evn eA440)) ?_
  refine (hashRow_any V4 ⟨#[104]⟩ c.hd ok.lh).mono ?_
  rintro _ V5 ⟨g5, rfl, hg5, hge5, hb5⟩
  have hs5 := hs4.on hb5
  refine ⟨_, rfl, hK5 _ _ ⟨hs5, ?_⟩⟩
  clear hK5 K5 hm5
  show wpAnyH _ _ _ _ _ _ _ (((A4.put (some 30) (.agg #[.string ⟨#[97]⟩, .slice (some ⟨g3, 0, none⟩) 1 1])).put (some 36) (.agg #[.string ⟨#[98]⟩, .slice (some ⟨g4, 0, none⟩) 1 1])).put (some 41) (.agg #[.string ⟨#[104]⟩, .slice (some ⟨g5, 0, none⟩) 1 1])) _
  refine wpAnyH_all (rs := [34]) (by kernel_rfl) (by simp) fun i6 hm6 => ?_
  obtain rfl : i6 = 34 := by simpa using hm6
  refine wpOp_own rfl rfl fun K6 hK6 => ?_
  refine wp_build4R (.tmp 24) (.tmp 30) (.tmp 36) (.tmp 41) rfl _ _ _ _ _ _ _ _ _ _ _ _ _ _ _ _ (evn (evn (evn eA424))) (evn (evn (ev_eq _ _ (by simp [szA4])))) (evn (ev_eq _ _ (by simp [put_sz, szA4]))) (ev_eq _ _ (by simp [put_sz, szA4])) ?_
  have b6 : Below V5.heap.size V5 (V5.alloc (.cells #[.string ⟨#[35]⟩, .slice at3 3 ct3, .string ⟨#[97]⟩, .slice (some ⟨g3, 0, none⟩) 1 1, .string ⟨#[98]⟩, .slice (some ⟨g4, 0, none⟩) 1 1, .string ⟨#[104]⟩, .slice (some ⟨g5, 0, none⟩) 1 1] 75)) := (Below.refl _ V5).alloc (Nat.le_refl _) _
  have hs6 := hs5.on b6
  refine hK6 _ _ ⟨hs6, ?_⟩
  clear hK6 K6 hm6
  show wpAnyH _ _ _ _ _ _ _ ((((A4.put (some 30) (.agg #[.string ⟨#[97]⟩, .slice (some ⟨g3, 0, none⟩) 1 1])).put (some 36) (.agg #[.string ⟨#[98]⟩, .slice (some ⟨g4, 0, none⟩) 1 1])).put (some 41) (.agg #[.string ⟨#[104]⟩, .slice (some ⟨g5, 0, none⟩) 1 1])).put (some 42) (.slice (some ⟨V5.heap.size, 0, none⟩) 4 4)) _
  refine tkH (i := 35) (d := 3) (v := .slice (some ⟨V5.heap.size, 0, none⟩) 4 4) rfl rfl (y_assign (by simp [Region.wanted]) (.tmp 42) rfl _ (ev_eq _ _ (by simp [put_sz, szA4]))) hs6 ?_
  refine wpAnyH_done (by kernel_rfl) ⟨rfl, V5, at3, ct3, g3, g4, g5, by rw [hA4, hA3, hA2], rfl, own_monoW (own_onW hown ((hb3.trans (hb4.mono hb3.size)).trans (hb5.mono (Nat.le_trans hb3.size hb4.size)))) (Nat.zero_le _), (hb5.block _ (heap_lt ((hb4.block _ (heap_lt hg3)).trans hg3))).trans ((hb4.block _ (heap_lt hg3)).trans hg3), (hb5.block _ (heap_lt hg4)).trans hg4, hg5, ((((b1.trans (hb2.mono b1.size)).trans (hb3.mono (Nat.le_trans b1.size hb2.size))).trans (hb4.mono (Nat.le_trans (Nat.le_trans b1.size hb2.size) hb3.size))).trans (hb5.mono (Nat.le_trans (Nat.le_trans (Nat.le_trans b1.size hb2.size) hb3.size) hb4.size)))⟩ _
end Go.Proofs.YthfmpebgmojcaaaDoor
