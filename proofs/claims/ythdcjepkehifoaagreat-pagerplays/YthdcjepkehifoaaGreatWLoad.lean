/- YthdcjepkehifoaaGreatWNow + YthdcjepkehifoaaGreatWNote + YthdcjepkehifoaaGreatWLoad -/
import Derived.Test.YthdcjepkehifoaaGreatWLog
import Derived.Deep.RegionWith
/- now, Read, Disk, note, fits of package wal, each by a contract. -/
namespace Go.Proofs.YthdcjepkehifoaaGreat
open Go.RowKit Go.Maps
set_option linter.unusedVariables false
set_option maxRecDepth 20000

theorem lit_ne {x y : Int} (h : x ≠ y) : (Lit.int .i64 x) ≠ (Lit.int .i64 y) := fun e => h (by injection e)
theorem PlAt.put {w w' : World} {mb n : Nat} {pl : Nat → Option Nat} (h : PlAt w mb n pl) (p q : Nat) {D : DataW Unit} (h1 : ∀ x : Int, Maps.has D (.int .i64 x) = (decide (0 ≤ x) && (pl x.toNat).isSome)) (h2 : ∀ k q, pl k = some q → D.atKey (.int .i64 (k : Int)) (.lit (.int .i64 0)) = .lit (.int .i64 (q : Int)))
    (hD : IsMap D) (hw : (Lit.int .i64 (p : Int)).wf = true) (hown : w'.ownsMap Tryz.prog 3 (plainElem Tryz.prog 3) mb (n + 1) (D.put (.int .i64 (p : Int)) (.lit (.int .i64 (q : Int))))) : PlAt w' mb (n + 1) (fun k => if k = p then some q else pl k) := by
  have hkl : WideAt.IsKeyLit (.int .i64 (p : Int)) := by simp [WideAt.IsKeyLit]
  refine ⟨_, hown, fun x => ?_, fun k q' hk => ?_⟩
  · by_cases e : x = (p : Int)
    · subst e
      rw [has_put_same hD hkl]
      simp
    · rw [has_put_other (lit_ne e), h1 x]
      dsimp only
      by_cases h0 : 0 ≤ x
      · rw [if_neg (by omega)]
      · simp [h0]
  · dsimp only at hk
    by_cases e : k = p
    · subst e
      rw [if_pos rfl] at hk
      cases hk
      exact atKey_put_same hD hkl _ _
    · rw [if_neg e] at hk
      rw [atKey_put_other (lit_ne (by omega))]
      exact h2 k q' hk

theorem at_some {w : World} {B d g cap : Nat} {v : Value} {ps : List (List UInt8)} {ch : List (Nat × List UInt8)} (h : DiskAt w B d g cap v ps ch) (S : Nat) (n : Nat) (x : List UInt8) (hx : ps[n]? = some x) :
    Calls Tryz.prog 133 #[.agg #[.pointer (some ⟨d, 0, none⟩), .int .i64 (S : Int)], .int .i64 (n : Int)] w (GotPage x w) := by
  obtain ⟨hn, rfl⟩ := List.getElem?_eq_some_iff.1 hx
  exact at_any h S n hn

set_option maxHeartbeats 800000 in
theorem now_any {w : World} {B l d g cap mb n : Nat} {v : Value} {S G U : Nat} {pl : Nat → Option Nat} {ps : List (List UInt8)} {ch : List (Nat × List UInt8)} (h : LogMem w B l d g cap mb n v S G U pl ps ch) (p : Nat) (hp : p ≤ 1024) (hS : S ≤ 1024) (x : List UInt8) (hx : ps[(pl p).getD (S + 1 + p)]? = some x) (hm : ps.length ≤ 1024) :
    Calls Tryz.prog 82 #[.pointer (some ⟨l, 0, none⟩), .int .i64 (p : Int)] w (GotPage x w) := by
  have c2 := h.c2
  have c3 := h.c3
  have c4 := h.c4
  obtain ⟨D, hown, hh, ha⟩ := h.map
  have H := hid h
  have hkey := keyOf_int_mk (P := Tryz.prog) Tryz.underlying3 (a := (p : Int)) (WalkArith.wf_i64 (by omega))
  have Hh := hid (hh (p : Int))
  rw [Int.toNat_natCast, decide_eq_true (show (0 : Int) ≤ (p : Int) by omega), Bool.true_and] at Hh
  cases hpl : pl p with
  | some q =>
    rw [hpl] at hx
    have Ha := hid (ha p q hpl)
    rw [hpl] at Hh
    have Hat := hid (at_some h.disk S q x hx)
    clear h hh ha hpl hx
    go_enter Tryz.func82, Tryz.ntmps82
    go_wp2_with (first | (at_lookup; refine wpList_lookup_own_ok_int _ rfl _ _ 99 rfl 3 3 .i64 intKeyed Tryz.underlying99 Tryz.underlying3 (intZero _) mb n D rfl hown _ _ rfl hkey ?_; rw [Hh.out]; intro c hat hwc; rw [Ha.out] at hat; obtain rfl : c = (q : Int) := (by injection hat with e1; injection e1 with e2 e3; exact e3.symm)) | (go_at_call 133; refine Hat.out.mono ?_; rintro e w1 ⟨g1, c1, rfl, ho, hc, hb⟩; have Ho := hid ho; clear ho))
    go_ret
    exact ⟨g1, c1, rfl, Ho.out, hc, hb⟩
  | none =>
    rw [hpl] at hx
    have Hx : Hid (ps[S + 1 + p]? = some x) := hx
    rw [hpl] at Hh
    have Hhm := hid (home_any (.pointer (some ⟨d, 0, none⟩)) S p w hS hp rfl)
    clear h hh ha hpl hx
    go_enter Tryz.func82, Tryz.ntmps82
    go_wp2_with (first | (at_lookup; refine wpList_lookup_own_ok_int _ rfl _ _ 99 rfl 3 3 .i64 intKeyed Tryz.underlying99 Tryz.underlying3 (intZero _) mb n D rfl hown _ _ rfl hkey ?_; rw [Hh.out]; intro c hat hwc; clear hat hwc))
    go_region_held3 (fun w9 => w9.cell? ⟨l, 2, none⟩ = some (.pointer (some ⟨d, 0, none⟩)) ∧ w9.cell? ⟨l, 3, none⟩ = some (.int .i64 (S : Int))) (first | exact ⟨c2, c3⟩ | exact q2.out | exact q.out)
      (first
        | ((go_at_call 104; refine (home_any (.pointer (some ⟨d, 0, none⟩)) S p _ hS hp rfl).mono ?_; rintro e w1 ⟨rfl, hb1'⟩; have hb1 := undrew1 hb1'; have Hb1 := hid hb1; have H1 := hid (H.out.below hb1); have q := hid (And.intro H1.out.c2 H1.out.c3); clear hb1 hb1'))
        | ((go_at_call 133; refine (at_some H1.out.disk S (S + 1 + p) x Hx.out).mono ?_; rintro e w2 ⟨g1, c1, rfl, ho, hc, hb2⟩; have H2 := hid (H1.out.below hb2); have q2 := hid (And.intro H2.out.c2 H2.out.c3); have Ho := hid ho; have Hb2 := hid hb2; clear ho hb2)))
    clear c2 c3 q q2
    go_wp2
    go_ret
    exact ⟨g1, c1, rfl, Ho.out.mono Hb1.out.size, hc, Hb1.out.trans (Hb2.out.mono Hb1.out.size)⟩

set_option maxHeartbeats 400000 in
theorem logRead_nil (n : Int) (w : World) : Calls Tryz.prog 28 #[.pointer none, .int .i64 n] w fun e w' => e = .returned (.tuple #[.slice none 0 0, .int .i64 1]) ∧ w' = w := by
  go_enter Tryz.func28, Tryz.ntmps28
  go_wp2
  go_ret2
  exact ⟨rfl, rfl⟩
set_option maxHeartbeats 800000 in
theorem logRead_far {w : World} {B l d g cap mb n : Nat} {v : Value} {S G U : Nat} {pl : Nat → Option Nat} {ps : List (List UInt8)} {ch : List (Nat × List UInt8)} (h : LogMem w B l d g cap mb n v S G U pl ps ch) (P : Nat) (hl : ps.length = S + 1 + P) (hm : ps.length ≤ 1024) (p : Int) (hp : p < 0 ∨ (P : Int) ≤ p) :
    Calls Tryz.prog 28 #[.pointer (some ⟨l, 0, none⟩), .int .i64 p] w fun e w' => e = .returned (.tuple #[.slice none 0 0, .int .i64 2]) ∧ Below w.heap.size w w' := by
  have c2 := h.c2
  have c3 := h.c3
  have Hh := hid (has_any h.disk S P hl hm p)
  rw [decide_eq_false (show ¬ (0 ≤ p ∧ p < (P : Int)) by omega)] at Hh
  clear h
  go_enter Tryz.func28, Tryz.ntmps28
  go_wp2_with (go_at_call 81; refine Hh.out.mono ?_; rintro e w1 ⟨rfl, hb1⟩)
  go_ret2
  exact ⟨rfl, hb1⟩
set_option maxHeartbeats 800000 in
theorem logRead_ok {w : World} {B l d g cap mb n : Nat} {v : Value} {S G U : Nat} {pl : Nat → Option Nat} {ps : List (List UInt8)} {ch : List (Nat × List UInt8)} (h : LogMem w B l d g cap mb n v S G U pl ps ch) (P : Nat) (hl : ps.length = S + 1 + P) (hm : ps.length ≤ 1024) (p : Nat) (hp : p < P) (x : List UInt8) (hx : ps[(pl p).getD (S + 1 + p)]? = some x) :
    Calls Tryz.prog 28 #[.pointer (some ⟨l, 0, none⟩), .int .i64 (p : Int)] w fun e w' => ∃ g c, e = .returned (.tuple #[.slice (some ⟨g, 0, none⟩) 256 c, .int .i64 0]) ∧ w'.ownsRow w.heap.size 5 1 (.slice (some ⟨g, 0, none⟩) 256 c) 256 (cellsOf x) ∧ 256 ≤ c ∧ Below w.heap.size w w' := by
  have c2 := h.c2
  have c3 := h.c3
  have H := hid h
  have Hx := hid hx
  have Hh := hid (has_any h.disk S P hl hm p)
  rw [decide_eq_true (show (0 : Int) ≤ (p : Int) ∧ (p : Int) < (P : Int) by omega)] at Hh
  clear h hx
  go_enter Tryz.func28, Tryz.ntmps28
  go_wp2_with (first | (go_at_call 81; refine Hh.out.mono ?_; rintro e w1 ⟨rfl, hb1⟩; have Hn := hid (now_any (H.out.below hb1) p (by omega) (by omega) x Hx.out hm); have Hb1 := hid hb1; clear hb1) | (go_at_call 82; refine Hn.out.mono ?_; rintro e w2 ⟨g1, c1, rfl, ho, hc, hb2⟩; have Ho := hid ho; have Hb2 := hid hb2; clear ho hb2))
  go_ret2
  exact ⟨g1, c1, rfl, Ho.out.mono Hb1.out.size, hc, Hb1.out.trans (Hb2.out.mono Hb1.out.size)⟩

set_option maxHeartbeats 400000 in
theorem logDisk_nil (w : World) : Calls Tryz.prog 31 #[.pointer none] w fun e w' => e = .returned (.pointer none) ∧ w' = w := by
  go_enter Tryz.func31, Tryz.ntmps31
  go_wp2
  go_ret
  exact ⟨rfl, rfl⟩
set_option maxHeartbeats 800000 in
theorem logDisk_ok {w : World} {B l d g cap mb n : Nat} {v : Value} {S G U : Nat} {pl : Nat → Option Nat} {ps : List (List UInt8)} {ch : List (Nat × List UInt8)} (h : LogMem w B l d g cap mb n v S G U pl ps ch) (h1 : 1 ≤ ps.length) (hm : ps.length ≤ 1024) (hch : ch.length ≤ 1000000) :
    Calls Tryz.prog 31 #[.pointer (some ⟨l, 0, none⟩)] w fun e w' => ∃ d' g' cap' v', e = .returned (.pointer (some ⟨d', 0, none⟩)) ∧ DiskAt w' w.heap.size d' g' cap' v' ps ch ∧ Below w.heap.size w w' := by
  have c2 := h.c2
  have Hf := hid (fork_ok h.disk h1 hm hch)
  clear h
  go_enter Tryz.func31, Tryz.ntmps31
  go_wp2_with (go_at_call 46; refine Hf.out.mono ?_; rintro e w1 ⟨d', g', cap', v', rfl, hD, hb⟩; have HD := hid hD; have Hb := hid hb; clear hD hb)
  go_ret
  exact ⟨_, _, _, _, rfl, HD.out, Hb.out⟩
end Go.Proofs.YthdcjepkehifoaaGreat

/- note and fits of package wal, each by a contract. -/
namespace Go.Proofs.YthdcjepkehifoaaGreat
open Go.RowKit Go.Maps
set_option linter.unusedVariables false
set_option maxRecDepth 20000

theorem Out.refl (P : Nat → Prop) (w : World) : Out P w w := ⟨rfl, rfl, rfl, Nat.le_refl _, fun _ _ _ => rfl⟩
theorem Out.trans {P Q : Nat → Prop} {a b c : World} (h : Out P a b) (k : Out Q b c) (hq : ∀ i, i < a.heap.size → Q i → P i) : Out P a c :=
  ⟨k.os.trans h.os, k.tape.trans h.tape, k.output.trans h.output, Nat.le_trans h.size k.size, fun i hi hp => (k.block i (Nat.lt_of_lt_of_le hi h.size) (fun q => hp (hq i hi q))).trans (h.block i hi hp)⟩
theorem Out.of_below {P : Nat → Prop} {w w' : World} (h : Below w.heap.size w w') : Out P w w' := ⟨h.os, h.tape, h.output, h.size, fun k hk _ => h.block k hk⟩
theorem Out.of_grown {P : Nat → Prop} {w w' : World} {r : Nat} (h : w.grownBy w' (some r)) (hr : P r) : Out P w w' := ⟨h.os, h.tape, h.output, h.size, fun k hk hp => h.block k hk (fun e => hp (by cases e; exact hr))⟩
theorem Out.imp {P Q : Nat → Prop} {w w' : World} (h : Out P w w') (hq : ∀ i, i < w.heap.size → P i → Q i) : Out Q w w' := ⟨h.os, h.tape, h.output, h.size, fun k hk hp => h.block k hk (fun q => hp (hq k hk q))⟩
theorem Out.undrew {P : Nat → Prop} {w w' : World} (h : Out P w.drew w') : Out P w w' := ⟨h.os, h.tape, h.output, h.size, h.block⟩

theorem LogMem.used {w : World} {B l d g cap mb n : Nat} {v : Value} {S G U : Nat} {pl : Nat → Option Nat} {ps : List (List UInt8)} {ch : List (Nat × List UInt8)} (h : LogMem w B l d g cap mb n v S G U pl ps ch) (U' : Nat) :
    LogMem (w.setCell ⟨l, 1, none⟩ (.int .i64 (U' : Int))) B l d g cap mb n v S G U' pl ps ch ∧ Out (fun k => k = l) w (w.setCell ⟨l, 1, none⟩ (.int .i64 (U' : Int))) := by
  have o : ∀ k, k ≠ l → (w.setCell ⟨l, 1, none⟩ (.int .i64 (U' : Int))).heap[k]? = w.heap[k]? := fun k hk => heap_setCell_other _ _ _ _ hk
  have s : (w.setCell ⟨l, 1, none⟩ (.int .i64 (U' : Int))).heap.size = w.heap.size := by simp [World.setCell]
  refine ⟨⟨?_, h.disk.keep (o d (Ne.symm h.ld)) (o g (Ne.symm h.lg)) (fun k e => o k (fun e' => h.lv (by rw [e, e']))), h.map.keep (o mb h.mne.1), h.bl, h.bm, h.ld, h.lg, h.lv⟩, ⟨rfl, rfl, rfl, Nat.le_of_eq s.symm, fun k hk hp => o k hp⟩⟩
  rw [heap_setCell_same w l 1 _ _ (.int .i64 (U' : Int)) h.obj]
  simp

theorem LogMem.remap {w w' : World} {B l d g cap mb n n' : Nat} {v : Value} {S G U : Nat} {pl pl' : Nat → Option Nat} {ps : List (List UInt8)} {ch : List (Nat × List UInt8)} (h : LogMem w B l d g cap mb n v S G U pl ps ch) (hg : w.grownBy w' (some mb)) (hp : PlAt w' mb n' pl') : LogMem w' B l d g cap mb n' v S G U pl' ps ch := by
  have hk : ∀ k, logBlock l d g mb v k → k ≠ mb → w'.heap[k]? = w.heap[k]? := fun k hk hne => hg.block k (h.lts k hk).2 (fun e => hne (by cases e; rfl))
  have m := h.mne
  exact ⟨(hk l (.inl rfl) (Ne.symm m.1)).trans h.obj, h.disk.keep (hk d (.inr (.inl rfl)) (Ne.symm m.2.1)) (hk g (.inr (.inr (.inl rfl))) (Ne.symm m.2.2.1)) (fun k e => hk k (.inr (.inr (.inr (.inr e)))) (fun e' => m.2.2.2 (by rw [e, e']))), hp, h.bl, h.bm, h.ld, h.lg, h.lv⟩

set_option maxHeartbeats 800000 in
theorem note_any {w : World} {B l d g cap mb n : Nat} {v : Value} {S G U : Nat} {pl : Nat → Option Nat} {ps : List (List UInt8)} {ch : List (Nat × List UInt8)} (h : LogMem w B l d g cap mb n v S G U pl ps ch) (ns : List Nat) (nb no c : Nat) (hns : Nums w (some ⟨nb, no, none⟩) ns) (hnd : ns.Nodup) (hlen : 1 ≤ ns.length ∧ ns.length ≤ 100) (hlt : ∀ x ∈ ns, x < 65536) (hap : nb ≠ l ∧ nb ≠ mb) (hU : U ≤ 65536) (hn : n ≤ 1000000) :
    Calls Tryz.prog 141 #[.pointer (some ⟨l, 0, none⟩), .slice (some ⟨nb, no, none⟩) ns.length c] w fun e w' => e = .returned (.tuple #[]) ∧ LogMem w' B l d g cap mb (n + ns.length) v S G (U + ns.length + 1) (noted pl (U + 2) ns) ps ch ∧ Out (fun k => k = l ∨ k = mb) w w' := by
  have Hnx := hid (next_any h hU)
  have H := hid h
  have Hns := hid hns
  have Hnd := hid hnd
  have Hlt := hid hlt
  have Hap := hid hap
  have Hlen := hid hlen
  clear h hns hnd hlt hap hlen
  go_enter Tryz.func141, Tryz.ntmps141
  go_wp2_with (go_at_call 139; refine Hnx.out.mono ?_; rintro e w1 ⟨rfl, rfl⟩)
  go_loopw [12] (fun i wr => ∃ k : Nat, k ≤ ns.length ∧ i = .int .i64 k ∧ LogMem wr B l d g cap mb (n + k) v S G U (noted pl (U + 2) (ns.take k)) ps ch ∧ Out (fun k => k = mb) w1 wr) (fun i _ => ns.length - (intOf i).toNat)
  case atStart => exact ⟨0, Nat.zero_le _, rfl, by rw [List.take_zero, noted_nil]; exact H.out, Out.refl _ _⟩
  case round =>
    obtain ⟨k, hk, rfl, hM, ho⟩ := hrel
    have HM := hid hM
    have Ho := hid ho
    clear hM ho
    by_cases hkl : k < ns.length
    · obtain ⟨b', o', e', hc⟩ := Hns.out k hkl
      cases e'
      have hc' := (World.cell?_of_block (a := ⟨nb, no + k, none⟩) (Ho.out.block nb (World.block_lt_of_cell? _ _ hc) Hap.out.2)).trans hc
      have hx := Hlt.out _ (List.getElem_mem hkl)
      have HX : Hid (ns.take (k + 1) = ns.take k ++ [ns[k]]) := List.take_succ_eq_append_getElem hkl
      have Hnew : Hid (ns[k] ∉ ns.take k) := fun hm => by
        have h1 := Hnd.out
        rw [← List.take_append_drop (k + 1) ns, HX.out, List.append_assoc] at h1
        have := (List.nodup_append.1 h1).2.2 _ hm ns[k] (List.mem_append_left _ (List.mem_singleton.2 rfl))
        exact this rfl
      have Hsn := hid (noted_snoc pl (U + 2) (ns.take k) ns[k] Hnew.out)
      rw [← HX.out, List.length_take, show min k ns.length = k by omega] at Hsn
      generalize ns[k] = x at *
      have c4 := HM.out.c4
      obtain ⟨D, hown, hh, ha⟩ := HM.out.map
      have Hh := hid hh
      have Ha := hid ha
      have hwf : (Lit.int .i64 (x : Int)).wf = true := WalkArith.wf_i64 (by omega)
      have hkey := keyOf_int_mk (P := Tryz.prog) Tryz.underlying3 (a := (x : Int)) hwf
      have hl3 := Hlen.out.2
      clear hc hh ha
      go_wp2_with (at_mapUpdate; refine wpList_mapUpdate_own _ rfl _ _ _ 99 rfl 3 3 intKeyed Tryz.underlying99 _ mb (n + k) _ rfl hown (by unfold maxLen; omega) _ _ _ rfl rfl hkey _ [] (plainElem_int Tryz.underlying3 (WalkArith.wf_i64 (by omega))) ?_; intro w3 hown3 hgrow3)
      go_roundw
      case rel =>
        have hown4 : w3.ownsMap Tryz.prog 3 (plainElem Tryz.prog 3) mb (n + k + 1) (D.put (.int .i64 (x : Int)) (.lit (.int .i64 ((U + 2 + k : Nat) : Int)))) := by
          first
            | (rw [show ((U + 2 + k : Nat) : Int) = (1 : Int) + (U : Int) + 1 + (k : Int) by omega]; exact hown3)
            | (rw [show ((U + 2 + k : Nat) : Int) = ((1 + U : Nat) : Int) + 1 + (k : Int) by omega]; exact hown3)
        have hp := HM.out.map.put (w' := w3) x (U + 2 + k) Hh.out Ha.out hown.isMap hwf hown4
        refine ⟨k + 1, by omega, by go_num, ?_, Ho.out.trans (Out.of_grown (P := fun k => k = mb) hgrow3 rfl) (fun _ _ e => e)⟩
        rw [Hsn.out]
        exact HM.out.remap hgrow3 hp
      case measure => simp [intOf]; omega
    · have e : k = ns.length := by omega
      subst e
      have HM2 : Hid (LogMem wr B l d g cap mb (n + ns.length) v S G U (noted pl (U + 2) ns) ps ch) := by
        have h := HM.out
        rw [List.take_length] at h
        exact h
      have c1 := HM2.out.c1
      have z1 := HM2.out.z 1
      have Hne : Hid (needOf (ns.length : Int) = (ns.length : Int) + 1) := by show _ = _; unfold needOf; have := Hlen.out; rw [if_neg (by omega)]
      have f1 : IntKind.i64.wrap ((U : Int) + ((ns.length : Int) + 1)) = (U : Int) + ((ns.length : Int) + 1) := by rw [IntKind.wrap_i64]; have := Hlen.out; omega
      clear HM
      go_wp2
      go_region_with (first | ((go_at_call 49; refine (need_any _ _).mono ?_; rw [Hne.out]; rintro e w2 ⟨rfl, rfl⟩)))
      all_goals
        go_end0
        have hE := HM2.out.used (U + ns.length + 1)
        rw [show ((U + ns.length + 1 : Nat) : Int) = (U : Int) + ((ns.length : Int) + 1) by omega] at hE
        refine ⟨rfl, hE.1.keep (fun _ _ => rfl), (Ho.out.imp (fun _ _ e => .inr e)).trans (Out.trans hE.2 (Out.of_below (P := fun _ => False) (below_drewN _ _ 1)) (fun _ _ e => e.elim)) (fun _ _ e => .inl e)⟩

set_option maxHeartbeats 800000 in
theorem fits_ok {w : World} {B l d g cap mb n : Nat} {v : Value} {S G U : Nat} {pl : Nat → Option Nat} {ps : List (List UInt8)} {ch : List (Nat × List UInt8)} (h : LogMem w B l d g cap mb n v S G U pl ps ch) (P : Nat) (hl : ps.length = S + 1 + P) (hm : ps.length ≤ 1024) (ns : List Nat) (nb no c m : Nat) (hns : Nums w (some ⟨nb, no, none⟩) ns) (hlen : 1 ≤ ns.length ∧ ns.length ≤ 100) (hlast : ns[ns.length - 1]? = some m) (hmP : m < P) (room : Int) :
    Calls Tryz.prog 140 #[.pointer (some ⟨l, 0, none⟩), .slice (some ⟨nb, no, none⟩) ns.length c, .int .i64 room] w fun e w' => e = .returned (.bool (decide ((ns.length : Int) + 1 ≤ room))) ∧ Below w.heap.size w w' := by
  have c2 := h.c2
  have c3 := h.c3
  have H := hid h
  have k1 : w.cell? ⟨nb, no + (ns.length - 1), none⟩ = some (.int .i64 (m : Int)) := by
    obtain ⟨b', o', e', hc⟩ := hns (ns.length - 1) (by omega)
    cases e'
    rw [hc]
    have := (List.getElem?_eq_some_iff.1 hlast).2
    rw [this]
  obtain ⟨j, hj⟩ : ∃ j, ns.length = j + 1 := ⟨ns.length - 1, by omega⟩
  rw [hj] at k1 hlen ⊢
  have Hne : Hid (needOf ((j : Int) + 1) = (j : Int) + 2) := by show _ = _; unfold needOf; rw [if_neg (by omega)]; omega
  rw [show j + 1 - 1 = j by omega] at k1
  have g0 : (0 : Int) ≤ (j : Int) := by omega
  have g1 : (j : Int) < (j : Int) + 1 := by omega
  have g4 : ¬ (j : Int) + 1 ≤ (j : Int) := by omega
  have g5 : ¬ (j : Int) < 0 := by omega
  have g6 : IntKind.i64.wrap ((j : Int) + 1 - 1) = (j : Int) := by rw [IntKind.wrap_i64]; omega
  have g7 : IntKind.i64.wrap (j : Int) = (j : Int) := by rw [IntKind.wrap_i64]; omega
  have g3 : j ≤ 99 := by omega
  have Hgoal : Hid (∀ x : Bool, x = decide ((j : Int) + 2 ≤ room) → x = decide (((j + 1 : Nat) : Int) + 1 ≤ room)) := fun x hx => by rw [hx]; exact decide_eq_decide.2 (by omega)
  clear h hns hlast hj hlen
  have hd : decide ((0 : Int) ≤ (m : Int) ∧ (m : Int) < (P : Int)) = true := decide_eq_true (by omega)
  have Hhas : Hid (∀ u, Below w.heap.size w u → Calls Tryz.prog 81 #[.agg #[.pointer (some ⟨d, 0, none⟩), .int .i64 (S : Int)], .int .i64 (m : Int)] u fun e w' => e = .returned (.bool true) ∧ Below u.heap.size u w') := fun u hu => by
    have h := has_any (H.out.below hu).disk S P hl hm (m : Int)
    rw [hd] at h
    exact h
  clear hd
  go_enter Tryz.func140, Tryz.ntmps140
  go_wp2
  go_region_held3 (fun w9 => w9.cell? ⟨l, 2, none⟩ = some (.pointer (some ⟨d, 0, none⟩)) ∧ w9.cell? ⟨l, 3, none⟩ = some (.int .i64 (S : Int)) ∧ w9.cell? ⟨nb, no + j, none⟩ = some (.int .i64 (m : Int))) (first | exact ⟨c2, c3, k1⟩ | exact q.out)
    (first
      | ((go_at_call 81; refine (Hhas.out _ ?_).mono ?_; exact (Below.refl _ w).drew; rintro e w1 ⟨rfl, hb1'⟩; have hb1 := undrew1 hb1'; have Hb1 := hid hb1; have H1 := hid (H.out.below hb1); have q := hid (And.intro H1.out.c2 (And.intro H1.out.c3 ((hb1.cell (World.block_lt_of_cell? _ _ k1)).trans k1))); clear hb1 hb1'))
      | ((go_at_call 49; refine (need_any _ _).mono ?_; rw [Hne.out]; rintro e w2 ⟨rfl, rfl⟩)))
  clear c2 c3 k1 q
  go_wp2
  go_ret
  refine ⟨ret_bool ?_, Hb1.out⟩
  exact (Hgoal.out _ rfl)
end Go.Proofs.YthdcjepkehifoaaGreat

/- load of package wal, where the disk is a log's, by a contract. -/

namespace Go.Proofs.YthdcjepkehifoaaGreat
open Go.RowKit Go.Maps
set_option linter.unusedVariables false
set_option maxRecDepth 20000

/-- what a log's own block says is used -/
def usedIn (l : Nat) (w : World) : Nat := match w.cell? ⟨l, 1, none⟩ with | some (.int _ x) => x.toNat | _ => 0
theorem LogMem.usedIn {w : World} {B l d g cap mb n : Nat} {v : Value} {S G U : Nat} {pl : Nat → Option Nat} {ps : List (List UInt8)} {ch : List (Nat × List UInt8)} (h : LogMem w B l d g cap mb n v S G U pl ps ch) : Go.Proofs.YthdcjepkehifoaaGreat.usedIn l w = U := by
  unfold Go.Proofs.YthdcjepkehifoaaGreat.usedIn
  rw [h.c1]
  simp

theorem hgood {P Q : Nat} {ns : List Nat} (h : GoodIx P ns) (hQ : P ≤ Q) : GoodIx Q ns := ⟨h.pos, h.few, h.up, fun n hn => Nat.lt_of_lt_of_le (h.lt n hn) hQ⟩
theorem parseIndex_good {P : Nat} {ns : List Nat} (hg : GoodIx P ns) (hP : P ≤ 65536) (b o cap : Nat) (w : World) (hB : Bytes w (some ⟨b, o, none⟩) (indexB ns)) (hcap : 256 ≤ cap) :
    Calls Tryz.prog 138 #[.slice (some ⟨b, o, none⟩) 256 cap] w fun e w' => ∃ g c, e = .returned (.tuple #[.slice (some ⟨g, 0, none⟩) ns.length c, .bool true]) ∧ w'.ownsRow w.heap.size 3 1 (.slice (some ⟨g, 0, none⟩) ns.length c) ns.length (nums ns) ∧ Below w.heap.size w w' := by
  refine (parseIndex_any (indexB ns) (indexB_length ns (by have := hg.few; omega)) b o cap w hB hcap).mono ?_
  rintro e w' (⟨ns', g, c, rfl, heq, hg', ho, hb⟩ | ⟨hno, _⟩)
  · obtain rfl := indexB_inj (Nat.le_refl _) (hgood hg hP) hg' heq
    exact ⟨g, c, rfl, ho, hb⟩
  · exact absurd rfl (hno _ (hgood hg hP))
theorem nums_of_row {w : World} {B g c : Nat} {l : List Nat} (h : w.ownsRow B 3 1 (.slice (some ⟨g, 0, none⟩) l.length c) l.length (nums l)) : Nums w (some ⟨g, 0, none⟩) l := fun i hi => by
  refine ⟨g, 0, rfl, ?_⟩
  rw [Nat.zero_add, h.cellAt i (by omega), nums_get l i hi]
theorem at_int {w : World} {B d g cap : Nat} {v : Value} {ps : List (List UInt8)} {ch : List (Nat × List UInt8)} (h : DiskAt w B d g cap v ps ch) (S : Nat) (n : Nat) (x : List UInt8) (hx : ps[n]? = some x) (nI : Int) (hn : nI = (n : Int)) :
    Calls Tryz.prog 133 #[.agg #[.pointer (some ⟨d, 0, none⟩), .int .i64 (S : Int)], .int .i64 nI] w (GotPage x w) := by
  subst hn
  exact at_some h S n x hx
theorem LogMem.setHead {w : World} {B l d g cap mb n : Nat} {v : Value} {S G U : Nat} {pl : Nat → Option Nat} {ps : List (List UInt8)} {ch : List (Nat × List UInt8)} (h : LogMem w B l d g cap mb n v S G U pl ps ch) (G' U' : Nat) :
    LogMem ((w.setCell ⟨l, 0, none⟩ (.int .i64 (G' : Int))).setCell ⟨l, 1, none⟩ (.int .i64 (U' : Int))) B l d g cap mb n v S G' U' pl ps ch ∧ Out (fun k => k = l) w ((w.setCell ⟨l, 0, none⟩ (.int .i64 (G' : Int))).setCell ⟨l, 1, none⟩ (.int .i64 (U' : Int))) := by
  have o : ∀ k, k ≠ l → ((w.setCell ⟨l, 0, none⟩ (.int .i64 (G' : Int))).setCell ⟨l, 1, none⟩ (.int .i64 (U' : Int))).heap[k]? = w.heap[k]? := fun k hk => (heap_setCell_other _ _ _ _ hk).trans (heap_setCell_other _ _ _ _ hk)
  have s : ((w.setCell ⟨l, 0, none⟩ (.int .i64 (G' : Int))).setCell ⟨l, 1, none⟩ (.int .i64 (U' : Int))).heap.size = w.heap.size := by simp [World.setCell]
  refine ⟨⟨?_, h.disk.keep (o d (Ne.symm h.ld)) (o g (Ne.symm h.lg)) (fun k e => o k (fun e' => h.lv (by rw [e, e']))), h.map.keep (o mb h.mne.1), h.bl, h.bm, h.ld, h.lg, h.lv⟩, ⟨rfl, rfl, rfl, Nat.le_of_eq s.symm, fun k hk hp => o k hp⟩⟩
  rw [heap_setCell_same _ l 1 _ _ (.int .i64 (U' : Int)) (heap_setCell_same w l 0 _ _ (.int .i64 (G' : Int)) h.obj)]
  simp

set_option maxHeartbeats 1600000 in
theorem load_ok' {w : World} {B l d g cap mb : Nat} {v : Value} {S G P : Nat} {gs : List (List Nat)} {ps : List (List UInt8)} {ch : List (Nat × List UInt8)} (h : LogMem w B l d g cap mb 0 v S 0 0 (fun _ => none) ps ch) (hi : LogInv ps S G gs P) (hG : G < 9223372036854775808) :
    Calls Tryz.prog 89 #[.pointer (some ⟨l, 0, none⟩)] w fun e w' => e = .returned (.bool true) ∧ ∃ n, n ≤ usedOf gs ∧ LogMem w' B l d g cap mb n v S G (usedOf gs) (plOf gs) ps ch ∧ Out (fun k => k = l ∨ k = mb) w w' := by
  obtain ⟨b0, hb0, hhead⟩ := hi.head
  have hlen := hi.len
  have hmost := hi.most
  have hused := hi.used
  have H := hid h
  have c2 := h.c2
  have c3 := h.c3
  have Hat := hid (at_some h.disk S 0 b0 hb0)
  have hb256 : b0.length = 256 := hi.full _ (List.mem_of_getElem? hb0)
  have Hi := hid hi
  have Hhead := hid hhead
  have Hb256 := hid hb256
  have hltl := (h.lts l (.inl rfl)).2
  clear h hi hhead hb256 hb0
  generalize hUh : usedOf gs = Uh at *
  have HUh := hid hUh
  clear hUh
  go_enter Tryz.func89, Tryz.ntmps89
  go_wp2_with (first | (go_at_call 133; refine Hat.out.mono ?_; rintro e w1 ⟨g1, c1', rfl, ho1, hc1, hb1⟩; have Hph := hid (parseHead_any b0 Hb256.out g1 0 c1' w1 (bytes_of_row ho1 Hb256.out) hc1); have Hb1 := hid hb1; clear ho1 hb1) | (go_at_call 137; refine Hph.out.mono ?_; rintro e w2 ⟨G2, U2, ok, rfl, hok, hb2⟩; obtain ⟨rfl, hin⟩ : ok = true ∧ HeadIn b0 G2 U2 := (hok.resolve_right (fun h => h.2 _ _ Hhead.out)); obtain ⟨rfl, rfl⟩ := hin.uniq Hhead.out; have Hb2 := hid (Hb1.out.trans (hb2.mono Hb1.out.size)); clear hok hb2 hin))
  have Hb3 := hid (Hb2.out.alloc Hb2.out.size (.cells #[.int .i64 (G2 : Int), .int .i64 (U2 : Int)] 96))
  have Hx := hid (heap_alloc_new w2 (.cells #[.int .i64 (G2 : Int), .int .i64 (U2 : Int)] 96))
  have hxs : w.heap.size ≤ w2.heap.size := Hb2.out.size
  generalize w2.alloc (.cells #[.int .i64 (G2 : Int), .int .i64 (U2 : Int)] 96) = W at *
  generalize w2.heap.size = X at *
  have x1 := cell_of_row _ _ 1 _ _ _ Hx.out
  have H3 := hid (H.out.below Hb3.out)
  have k3 := H3.out.c3
  have d1 : ¬ (S : Int) < (U2 : Int) := by omega
  clear c2 c3 Hat
  go_quiet (fail)
  go_wp2
  clear x1 k3
  go_loopw [5, 6] (fun _ _ wr => ∃ pre suf, gs = pre ++ suf ∧ (∃ n, n ≤ usedOf pre ∧ LogMem wr B l d g cap mb n v S 0 (usedOf pre) (plOf pre) ps ch) ∧ wr.heap[X]? = some (.cells #[.int .i64 (G2 : Int), .int .i64 (U2 : Int)] 96 (0, 0)) ∧ Out (fun k => k = l ∨ k = mb) w wr) (fun _ _ wr => U2 - usedIn l wr)
  case atStart =>
    exact ⟨[], gs, rfl, ⟨0, Nat.zero_le _, H3.out.keep (fun _ _ => rfl)⟩, Hx.out, (Out.of_below Hb3.out).trans (Out.of_below (P := fun _ => False) (below_drewN _ _ _)) (fun _ _ e => e.elim)⟩
  case round =>
    obtain ⟨pre, suf, hgs, ⟨n, hn, hM⟩, hX, ho⟩ := hrel
    have HM := hid hM
    have HX := hid hX
    have Ho := hid ho
    have Hgs := hid hgs
    have hup : usedOf pre ≤ U2 := by rw [← HUh.out, hgs, usedOf_append]; omega
    have e1 := hM.c1
    have x1 := cell_of_row _ _ 1 _ _ _ hX
    clear hM hX ho hgs Hx H3 Hb3 Hb1 Hb2
    cases suf with
    | nil =>
      have Heq : Hid (usedOf pre = U2 ∧ gs = pre) := by
        have h := Hgs.out
        rw [List.append_nil] at h
        exact ⟨by rw [← HUh.out, h], h⟩
      have d2 : ¬ ((usedOf pre : Nat) : Int) < (U2 : Int) := by have := Heq.out.1; omega
      have x0 := cell_of_row _ _ 0 _ _ _ HX.out
      have e0 := HM.out.c0
      have z0 := HM.out.z 0
      have z1 := HM.out.z 1
      go_wp2
      go_quiet (fail)
      go_wp2
      go_ret
      refine ⟨rfl, n, by have := Heq.out.1; omega, ?_, ?_⟩
      · rw [Heq.out.2]
        exact ((HM.out.keep (w' := wr.drewN nq) (fun _ _ => rfl)).setHead G2 U2).1
      · exact Ho.out.trans (Out.trans (Out.of_below (P := fun k => k = l) (below_drewN _ _ nq)) ((HM.out.keep (w' := wr.drewN nq) (fun _ _ => rfl)).setHead G2 U2).2 (fun _ _ e => e)) (fun _ _ e => .inl e)
    | cons ns suf =>
      have Hnx : Hid (ps[1 + usedOf pre]? = some (indexB ns) ∧ GoodIx P ns ∧ usedOf pre + ns.length + 1 ≤ U2) := by
        have hgr := Hi.out.groups
        have hg := Hgs.out
        rw [hg] at hgr
        have h3 := hgr.next
        refine ⟨h3.1, h3.2.1, ?_⟩
        rw [← HUh.out, hg, usedOf_append]
        have : usedOf (ns :: suf) = ns.length + 1 + usedOf suf := by
          have := usedOf_append [ns] suf
          have e : usedOf [ns] = ns.length + 1 := by have := usedOf_snoc [] ns; rw [List.nil_append, usedOf_nil] at this; omega
          rw [e] at this
          exact this
        omega
      have d2 : ((usedOf pre : Nat) : Int) < (U2 : Int) := by have := Hnx.out.2.2; omega
      go_wp2
      go_quiet (fail)
      go_wp2
      clear e1 x1 d2
      have HV := hid (HM.out.keep (w' := wr.drewN nq) (fun _ _ => rfl))
      have HXV : Hid ((wr.drewN nq).heap[X]? = some (.cells #[.int .i64 (G2 : Int), .int .i64 (U2 : Int)] 96 (0, 0))) := HX.out
      have HoV := hid (Ho.out.trans (Out.of_below (P := fun _ => False) (below_drewN _ wr nq)) (fun _ _ e => e.elim))
      have Hus := hid HM.out.usedIn
      clear HM HX Ho
      generalize wr.drewN nq = V at *
      have k2 := HV.out.c2
      have k3 := HV.out.c3
      have Hnx1 := hid (next_any (HV.out.keep (w' := V.drew) (fun _ _ => rfl)) (by omega))
      have Hat1 : Hid (∀ nI, nI = ((1 + usedOf pre : Nat) : Int) → Calls Tryz.prog 133 #[.agg #[.pointer (some ⟨d, 0, none⟩), .int .i64 (S : Int)], .int .i64 nI] V.drew (GotPage (indexB ns) V.drew)) := fun nI hn => at_int (HV.out.keep (w' := V.drew) (fun _ _ => rfl)).disk S _ _ Hnx.out.1 nI hn
      have Hl256 := hid (indexB_length ns (by have := Hnx.out.2.1.few; omega))
      go_region_held3 (fun w9 => w9.cell? ⟨l, 2, none⟩ = some (.pointer (some ⟨d, 0, none⟩)) ∧ w9.cell? ⟨l, 3, none⟩ = some (.int .i64 (S : Int))) (first | exact ⟨k2, k3⟩ | exact q5.out | exact q4.out)
        (first
          | ((go_at_call 139; refine Hnx1.out.mono ?_; rintro e w3 ⟨rfl, rfl⟩))
          | ((go_at_call 133; refine (Hat1.out _ (by omega)).mono ?_; rintro e w4 ⟨g4, c4, rfl, ho4, hc4, hb4'⟩; have hb4 := undrew1 hb4'; have H4 := hid (HV.out.below hb4); have q4 := hid (And.intro H4.out.c2 H4.out.c3); have Hpi := hid (parseIndex_good Hnx.out.2.1 (by omega) g4 0 c4 w4 (bytes_of_row ho4 Hl256.out) hc4); have HB4 := hid hb4; clear ho4 hb4 hb4'))
          | ((go_at_call 138; refine Hpi.out.mono ?_; rintro e w5 ⟨g5, c5, rfl, ho5, hb5⟩; have H5 := hid (H4.out.below hb5); have q5 := hid (And.intro H5.out.c2 H5.out.c3); have HB5 := hid (HB4.out.trans (hb5.mono HB4.out.size)); have Ho5 := hid ho5; clear ho5 hb5)))
      clear k2 k3 q4 q5 Hnx1 Hat1 Hpi H4
      go_wp2
      have hXlt : X < V.heap.size := (Array.getElem?_eq_some_iff.1 HXV.out).1
      have HX5 := hid ((HB5.out.block X hXlt).trans HXV.out)
      have x1 := cell_of_row _ _ 1 _ _ _ HX5.out
      have u1 := H5.out.c1
      obtain ⟨m, hm⟩ : ∃ m, ns[ns.length - 1]? = some m := ⟨_, List.getElem?_eq_getElem (by have := Hnx.out.2.1.pos; omega)⟩
      have hmP : m < P := Hnx.out.2.1.lt m (List.mem_of_getElem? hm)
      have hg5 : g5 < w5.heap.size ∧ V.heap.size ≤ g5 := ⟨(Ho5.out.lt g5 rfl).2, Nat.le_trans HB4.out.size (Ho5.out.lt g5 rfl).1⟩
      have Hg5 := hid hg5
      have Hft : Hid (∀ room : Int, ((ns.length : Int) + 1 ≤ room) → Calls Tryz.prog 140 #[.pointer (some ⟨l, 0, none⟩), .slice (some ⟨g5, 0, none⟩) ns.length c5, .int .i64 room] w5.drew fun e w' => e = .returned (.bool true) ∧ Below w5.heap.size w5 w') := fun room hr => by
        have h := fits_ok (H5.out.keep (w' := w5.drew) (fun _ _ => rfl)) P hlen hmost ns g5 0 c5 m (nums_of_row (own_keep (w' := w5.drew) Ho5.out (fun _ _ => rfl))) ⟨Hnx.out.2.1.pos, Hnx.out.2.1.few⟩ hm hmP room
        rw [decide_eq_true hr] at h
        exact h.mono fun e w' hh => ⟨hh.1, undrew1 hh.2⟩
      have Hroom : Hid ((ns.length : Int) + 1 ≤ (U2 : Int) - ((usedOf pre : Nat) : Int)) := by have := Hnx.out.2.2; show _ ≤ _; omega
      have f1 : IntKind.i64.wrap ((U2 : Int) - ((usedOf pre : Nat) : Int)) = (U2 : Int) - ((usedOf pre : Nat) : Int) := by rw [IntKind.wrap_i64]; omega
      clear hm hg5 HB4
      go_region_held3 (fun w9 => w9.cell? ⟨X, 1, none⟩ = some (.int .i64 (U2 : Int)) ∧ w9.cell? ⟨l, 1, none⟩ = some (.int .i64 ((usedOf pre : Nat) : Int))) (first | exact ⟨x1, u1⟩ | exact q6.out)
        (first
          | ((go_at_call 140; refine (Hft.out _ Hroom.out).mono ?_; rintro e w6 ⟨rfl, hb6⟩; have H6 := hid (H5.out.below hb6); have q6 := hid (And.intro ((hb6.cell (World.block_lt_of_cell? _ _ x1)).trans x1) H6.out.c1); have HB6 := hid hb6; clear hb6)))
      clear x1 u1 q6 Hft
      have Hnums6 := hid ((nums_of_row Ho5.out).below HB6.out)
      have hne5 : g5 ≠ l ∧ g5 ≠ mb := by
        have h1 := (HV.out.lts l (.inl rfl)).2
        have h2 := (HV.out.lts mb (.inr (.inr (.inr (.inl rfl))))).2
        have h3 := Hg5.out.2
        omega
      have Hnt := hid (note_any H6.out ns g5 0 c5 Hnums6.out Hnx.out.2.1.nodup ⟨Hnx.out.2.1.pos, Hnx.out.2.1.few⟩ (fun x hx => by have := Hnx.out.2.1.lt x hx; omega) hne5 (by omega) (by omega))
      have HX6 := hid ((HB6.out.block X (Array.getElem?_eq_some_iff.1 HX5.out).1).trans HX5.out)
      have hXne : X ≠ l ∧ X ≠ mb := by
        have h1 := HV.out.obj
        obtain ⟨es, clock, h2⟩ := HV.out.map.isMap
        refine ⟨?_, ?_⟩
        · rintro rfl
          rw [HXV.out] at h1
          cases h1
        · rintro rfl
          rw [HXV.out] at h2
          cases h2
      have HXne := hid hXne
      clear hne5 hXne
      go_wp2_with (go_at_call 141; refine Hnt.out.mono ?_; rintro e w7 ⟨rfl, hM7, ho7⟩; have HM7 := hid hM7; have Ho7 := hid ho7; clear hM7 ho7)
      go_roundw
      case rel =>
        refine ⟨pre ++ [ns], suf, by rw [Hgs.out]; simp, ⟨n + ns.length, by rw [usedOf_snoc]; omega, by rw [usedOf_snoc, plOf_snoc]; exact HM7.out⟩, ?_, ?_⟩
        · exact (Ho7.out.block X (Array.getElem?_eq_some_iff.1 HX6.out).1 (fun h => h.elim HXne.out.1 HXne.out.2)).trans HX6.out
        · exact HoV.out.trans (Out.trans (Out.of_below (P := fun k => k = l ∨ k = mb) (HB5.out.trans (HB6.out.mono HB5.out.size))) Ho7.out (fun _ _ e => e)) (fun _ _ e => e)
      case measure =>
        rw [HM7.out.usedIn, Hus.out]
        have := Hnx.out.2.2
        omega
end Go.Proofs.YthdcjepkehifoaaGreat
