/- note and fits of package wal, each by a contract. -/
import Derived.Test.YthdcjepkehifoaaGreatWNow
import Derived.Deep.RegionWith
namespace Go.Proofs.YthdcjepkehifoaaGreat
open Go.RowKit Go.Maps
set_option linter.unusedVariables false
set_option maxRecDepth 20000

theorem Out.refl (P : Nat → Prop) (w : World) : Out P w w := ⟨rfl, rfl, rfl, Nat.le_refl _, fun _ _ _ => rfl⟩
theorem Out.trans {P Q : Nat → Prop} {a b c : World} (h : Out P a b) (k : Out Q b c) (hq : ∀ i, i < a.heap.size → Q i → P i) : Out P a c :=
  ⟨k.os.trans h.os, k.tape.trans h.tape, k.output.trans h.output, Nat.le_trans h.size k.size, fun i hi hp => (k.block i (Nat.lt_of_lt_of_le hi h.size) (fun q => hp (hq i hi q))).trans (h.block i hi hp)⟩
theorem Out.of_below {P : Nat → Prop} {w w' : World} (h : Below w.heap.size w w') : Out P w w' := ⟨h.os, h.tape, h.output, h.size, fun k hk _ => h.block k hk⟩
theorem Out.of_grown {P : Nat → Prop} {w w' : World} {r : Nat} (h : w.grownBy w' (some r)) (hr : P r) : Out P w w' := ⟨h.os, h.tape, h.output, h.size, fun k hk hp => h.block k hk (fun e => hp (by cases e; exact hr))⟩
theorem Out.imp {P Q : Nat → Prop} {w w' : World} (h : Out P w w') (hq : ∀ i, i < w.heap.size → P i → Q i) : Out Q w w' := ⟨h.os, h.tape, h.output, h.size, fun k hk hp => h.block k hk (fun q => hp (hq k hk q))⟩
theorem Out.undrew {P : Nat → Prop} {w w' : World} (h : Out P w.drew w') : Out P w w' := ⟨h.os, h.tape, h.output, h.size, h.block⟩

theorem LogMem.used {w : World} {B l d g cap mb n : Nat} {v : Value} {S G U : Nat} {pl : Nat → Option Nat} {ps : List (List UInt8)} {ch : List (Nat × List UInt8)} (h : LogMem w B l d g cap mb n v S G U pl ps ch) (U' : Nat) :
    LogMem (w.setCell ⟨l, 1, none⟩ (.int .i64 (U' : Int))) B l d g cap mb n v S G U' pl ps ch ∧ Out (fun k => k = l) w (w.setCell ⟨l, 1, none⟩ (.int .i64 (U' : Int))) := by
  have o : ∀ k, k ≠ l → (w.setCell ⟨l, 1, none⟩ (.int .i64 (U' : Int))).heap[k]? = w.heap[k]? := fun k hk => heap_setCell_other _ _ _ _ hk
  have s : (w.setCell ⟨l, 1, none⟩ (.int .i64 (U' : Int))).heap.size = w.heap.size := by simp [World.setCell]
  refine ⟨⟨?_, h.disk.keep (o d (Ne.symm h.ld)) (o g (Ne.symm h.lg)) (fun k e => o k (fun e' => h.lv (by rw [e, e']))), h.map.keep (o mb h.mne.1), h.bl, h.bm, h.ld, h.lg, h.lv⟩, ⟨rfl, rfl, rfl, Nat.le_of_eq s.symm, fun k hk hp => o k hp⟩⟩
  rw [heap_setCell_same w l 1 _ _ (.int .i64 (U' : Int)) h.obj]
  simp

theorem LogMem.remap {w w' : World} {B l d g cap mb n n' : Nat} {v : Value} {S G U : Nat} {pl pl' : Nat → Option Nat} {ps : List (List UInt8)} {ch : List (Nat × List UInt8)} (h : LogMem w B l d g cap mb n v S G U pl ps ch) (hg : w.grownBy w' (some mb)) (hp : PlAt w' mb n' pl') : LogMem w' B l d g cap mb n' v S G U pl' ps ch := by
  have hk : ∀ k, logBlock l d g mb v k → k ≠ mb → w'.heap[k]? = w.heap[k]? := fun k hk hne => hg.block k (h.lts k hk).2 (fun e => hne (by cases e; rfl))
  have m := h.mne
  exact ⟨(hk l (.inl rfl) (Ne.symm m.1)).trans h.obj, h.disk.keep (hk d (.inr (.inl rfl)) (Ne.symm m.2.1)) (hk g (.inr (.inr (.inl rfl))) (Ne.symm m.2.2.1)) (fun k e => hk k (.inr (.inr (.inr (.inr e)))) (fun e' => m.2.2.2 (by rw [e, e']))), hp, h.bl, h.bm, h.ld, h.lg, h.lv⟩

set_option maxHeartbeats 800000 in
theorem note_any {w : World} {B l d g cap mb n : Nat} {v : Value} {S G U : Nat} {pl : Nat → Option Nat} {ps : List (List UInt8)} {ch : List (Nat × List UInt8)} (h : LogMem w B l d g cap mb n v S G U pl ps ch) (ns : List Nat) (nb no c : Nat) (hns : Nums w (some ⟨nb, no, none⟩) ns) (hnd : ns.Nodup) (hlen : 1 ≤ ns.length ∧ ns.length ≤ 100) (hlt : ∀ x ∈ ns, x < 65536) (hap : nb ≠ l ∧ nb ≠ mb) (hU : U ≤ 65536) (hn : n ≤ 1000000) :
    Calls Tryz.prog 141 #[.pointer (some ⟨l, 0, none⟩), .slice (some ⟨nb, no, none⟩) ns.length c] w fun e w' => e = .returned (.tuple #[]) ∧ LogMem w' B l d g cap mb (n + ns.length) v S G (U + ns.length + 1) (noted pl (U + 2) ns) ps ch ∧ Out (fun k => k = l ∨ k = mb) w w' := by
  have Hnx := hid (next_any h hU)
  have H := hid h
  have Hns := hid hns
  have Hnd := hid hnd
  have Hlt := hid hlt
  have Hap := hid hap
  have Hlen := hid hlen
  clear h hns hnd hlt hap hlen
  go_enter Tryz.func141, Tryz.ntmps141
  go_wp2_with (go_at_call 139; refine Hnx.out.mono ?_; rintro e w1 ⟨rfl, rfl⟩)
  go_loopw [12] (fun i wr => ∃ k : Nat, k ≤ ns.length ∧ i = .int .i64 k ∧ LogMem wr B l d g cap mb (n + k) v S G U (noted pl (U + 2) (ns.take k)) ps ch ∧ Out (fun k => k = mb) w1 wr) (fun i _ => ns.length - (intOf i).toNat)
  case atStart => exact ⟨0, Nat.zero_le _, rfl, by rw [List.take_zero, noted_nil]; exact H.out, Out.refl _ _⟩
  case round =>
    obtain ⟨k, hk, rfl, hM, ho⟩ := hrel
    have HM := hid hM
    have Ho := hid ho
    clear hM ho
    by_cases hkl : k < ns.length
    · obtain ⟨b', o', e', hc⟩ := Hns.out k hkl
      cases e'
      have hc' := (World.cell?_of_block (a := ⟨nb, no + k, none⟩) (Ho.out.block nb (World.block_lt_of_cell? _ _ hc) Hap.out.2)).trans hc
      have hx := Hlt.out _ (List.getElem_mem hkl)
      have HX : Hid (ns.take (k + 1) = ns.take k ++ [ns[k]]) := List.take_succ_eq_append_getElem hkl
      have Hnew : Hid (ns[k] ∉ ns.take k) := fun hm => by
        have h1 := Hnd.out
        rw [← List.take_append_drop (k + 1) ns, HX.out, List.append_assoc] at h1
        have := (List.nodup_append.1 h1).2.2 _ hm ns[k] (List.mem_append_left _ (List.mem_singleton.2 rfl))
        exact this rfl
      have Hsn := hid (noted_snoc pl (U + 2) (ns.take k) ns[k] Hnew.out)
      rw [← HX.out, List.length_take, show min k ns.length = k by omega] at Hsn
      generalize ns[k] = x at *
      have c4 := HM.out.c4
      obtain ⟨D, hown, hh, ha⟩ := HM.out.map
      have Hh := hid hh
      have Ha := hid ha
      have hwf : (Lit.int .i64 (x : Int)).wf = true := WalkArith.wf_i64 (by omega)
      have hkey := keyOf_int_mk (P := Tryz.prog) Tryz.underlying3 (a := (x : Int)) hwf
      have hl3 := Hlen.out.2
      clear hc hh ha
      go_wp2_with (at_mapUpdate; refine wpList_mapUpdate_own _ rfl _ _ _ 99 rfl 3 3 intKeyed Tryz.underlying99 _ mb (n + k) _ rfl hown (by unfold maxLen; omega) _ _ _ rfl rfl hkey _ [] (plainElem_int Tryz.underlying3 (WalkArith.wf_i64 (by omega))) ?_; intro w3 hown3 hgrow3)
      go_roundw
      case rel =>
        have hown4 : w3.ownsMap Tryz.prog 3 (plainElem Tryz.prog 3) mb (n + k + 1) (D.put (.int .i64 (x : Int)) (.lit (.int .i64 ((U + 2 + k : Nat) : Int)))) := by
          first
            | (rw [show ((U + 2 + k : Nat) : Int) = (1 : Int) + (U : Int) + 1 + (k : Int) by omega]; exact hown3)
            | (rw [show ((U + 2 + k : Nat) : Int) = ((1 + U : Nat) : Int) + 1 + (k : Int) by omega]; exact hown3)
        have hp := HM.out.map.put (w' := w3) x (U + 2 + k) Hh.out Ha.out hown.isMap hwf hown4
        refine ⟨k + 1, by omega, by go_num, ?_, Ho.out.trans (Out.of_grown (P := fun k => k = mb) hgrow3 rfl) (fun _ _ e => e)⟩
        rw [Hsn.out]
        exact HM.out.remap hgrow3 hp
      case measure => simp [intOf]; omega
    · have e : k = ns.length := by omega
      subst e
      have HM2 : Hid (LogMem wr B l d g cap mb (n + ns.length) v S G U (noted pl (U + 2) ns) ps ch) := by
        have h := HM.out
        rw [List.take_length] at h
        exact h
      have c1 := HM2.out.c1
      have z1 := HM2.out.z 1
      have Hne : Hid (needOf (ns.length : Int) = (ns.length : Int) + 1) := by show _ = _; unfold needOf; have := Hlen.out; rw [if_neg (by omega)]
      have f1 : IntKind.i64.wrap ((U : Int) + ((ns.length : Int) + 1)) = (U : Int) + ((ns.length : Int) + 1) := by rw [IntKind.wrap_i64]; have := Hlen.out; omega
      clear HM
      go_wp2
      go_region_with (first | ((go_at_call 49; refine (need_any _ _).mono ?_; rw [Hne.out]; rintro e w2 ⟨rfl, rfl⟩)))
      all_goals
        go_end0
        have hE := HM2.out.used (U + ns.length + 1)
        rw [show ((U + ns.length + 1 : Nat) : Int) = (U : Int) + ((ns.length : Int) + 1) by omega] at hE
        refine ⟨rfl, hE.1.keep (fun _ _ => rfl), (Ho.out.imp (fun _ _ e => .inr e)).trans (Out.trans hE.2 (Out.of_below (P := fun _ => False) (below_drewN _ _ 1)) (fun _ _ e => e.elim)) (fun _ _ e => .inl e)⟩

set_option maxHeartbeats 800000 in
theorem fits_ok {w : World} {B l d g cap mb n : Nat} {v : Value} {S G U : Nat} {pl : Nat → Option Nat} {ps : List (List UInt8)} {ch : List (Nat × List UInt8)} (h : LogMem w B l d g cap mb n v S G U pl ps ch) (P : Nat) (hl : ps.length = S + 1 + P) (hm : ps.length ≤ 1024) (ns : List Nat) (nb no c m : Nat) (hns : Nums w (some ⟨nb, no, none⟩) ns) (hlen : 1 ≤ ns.length ∧ ns.length ≤ 100) (hlast : ns[ns.length - 1]? = some m) (hmP : m < P) (room : Int) :
    Calls Tryz.prog 140 #[.pointer (some ⟨l, 0, none⟩), .slice (some ⟨nb, no, none⟩) ns.length c, .int .i64 room] w fun e w' => e = .returned (.bool (decide ((ns.length : Int) + 1 ≤ room))) ∧ Below w.heap.size w w' := by
  have c2 := h.c2
  have c3 := h.c3
  have H := hid h
  have k1 : w.cell? ⟨nb, no + (ns.length - 1), none⟩ = some (.int .i64 (m : Int)) := by
    obtain ⟨b', o', e', hc⟩ := hns (ns.length - 1) (by omega)
    cases e'
    rw [hc]
    have := (List.getElem?_eq_some_iff.1 hlast).2
    rw [this]
  obtain ⟨j, hj⟩ : ∃ j, ns.length = j + 1 := ⟨ns.length - 1, by omega⟩
  rw [hj] at k1 hlen ⊢
  have Hne : Hid (needOf ((j : Int) + 1) = (j : Int) + 2) := by show _ = _; unfold needOf; rw [if_neg (by omega)]; omega
  rw [show j + 1 - 1 = j by omega] at k1
  have g0 : (0 : Int) ≤ (j : Int) := by omega
  have g1 : (j : Int) < (j : Int) + 1 := by omega
  have g4 : ¬ (j : Int) + 1 ≤ (j : Int) := by omega
  have g5 : ¬ (j : Int) < 0 := by omega
  have g6 : IntKind.i64.wrap ((j : Int) + 1 - 1) = (j : Int) := by rw [IntKind.wrap_i64]; omega
  have g7 : IntKind.i64.wrap (j : Int) = (j : Int) := by rw [IntKind.wrap_i64]; omega
  have g3 : j ≤ 99 := by omega
  have Hgoal : Hid (∀ x : Bool, x = decide ((j : Int) + 2 ≤ room) → x = decide (((j + 1 : Nat) : Int) + 1 ≤ room)) := fun x hx => by rw [hx]; exact decide_eq_decide.2 (by omega)
  clear h hns hlast hj hlen
  have hd : decide ((0 : Int) ≤ (m : Int) ∧ (m : Int) < (P : Int)) = true := decide_eq_true (by omega)
  have Hhas : Hid (∀ u, Below w.heap.size w u → Calls Tryz.prog 81 #[.agg #[.pointer (some ⟨d, 0, none⟩), .int .i64 (S : Int)], .int .i64 (m : Int)] u fun e w' => e = .returned (.bool true) ∧ Below u.heap.size u w') := fun u hu => by
    have h := has_any (H.out.below hu).disk S P hl hm (m : Int)
    rw [hd] at h
    exact h
  clear hd
  go_enter Tryz.func140, Tryz.ntmps140
  go_wp2
  go_region_held3 (fun w9 => w9.cell? ⟨l, 2, none⟩ = some (.pointer (some ⟨d, 0, none⟩)) ∧ w9.cell? ⟨l, 3, none⟩ = some (.int .i64 (S : Int)) ∧ w9.cell? ⟨nb, no + j, none⟩ = some (.int .i64 (m : Int))) (first | exact ⟨c2, c3, k1⟩ | exact q.out)
    (first
      | ((go_at_call 81; refine (Hhas.out _ ?_).mono ?_; exact (Below.refl _ w).drew; rintro e w1 ⟨rfl, hb1'⟩; have hb1 := undrew1 hb1'; have Hb1 := hid hb1; have H1 := hid (H.out.below hb1); have q := hid (And.intro H1.out.c2 (And.intro H1.out.c3 ((hb1.cell (World.block_lt_of_cell? _ _ k1)).trans k1))); clear hb1 hb1'))
      | ((go_at_call 49; refine (need_any _ _).mono ?_; rw [Hne.out]; rintro e w2 ⟨rfl, rfl⟩)))
  clear c2 c3 k1 q
  go_wp2
  go_ret
  refine ⟨ret_bool ?_, Hb1.out⟩
  exact (Hgoal.out _ rfl)
end Go.Proofs.YthdcjepkehifoaaGreat
