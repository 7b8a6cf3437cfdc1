/- live of the laws of layer 3: it tells true. -/
import Derived.Test.YtcaifnenejjfaaaWDeed

namespace Go.Proofs.Ytcaifnenejjfaaa
open Go.RowKit Go.Maps
set_option linter.unusedVariables false
set_option maxRecDepth 20000

theorem pgs_of_row {w : World} {B g c : Nat} {l : List PgV} (h : w.ownsRow B 48 2 (.slice (some ⟨g, 0, none⟩) l.length c) l.length (pgCells l)) : PgsAt w g 0 l := fun i hi => by
  have h0 := h.cellAt (i * 2 + 0) (by omega)
  have h1 := h.cellAt (i * 2 + 1) (by omega)
  rw [pgCells_get l i hi 0 (by omega)] at h0
  rw [pgCells_get l i hi 1 (by omega)] at h1
  rw [Nat.zero_add]
  exact ⟨h0, h1⟩
/-- the bytes of a deed's page -/
theorem DeedPgs.at {w : World} {H : Nat} {q : List Int} {sh : Bool} {y : UInt8} {l : List PgV} (h : DeedPgs w H q sh y l) (i : Nat) (hi : i < l.length) : bytesAt w l[i] = List.replicate (lenOf sh i) (y + UInt8.ofNat i) := by
  obtain ⟨b, hb, _, _, hB⟩ := h.bytes i hi
  have hL := h.len i hi
  have e : l[i] = (l[i].1, some ⟨b, 0, none⟩, (List.replicate (lenOf sh i) (y + UInt8.ofNat i)).length, l[i].2.2.2) := by
    rw [List.length_replicate, ← hL, ← hb]
  rw [e]
  exact bytesAt_eq hB
theorem DeedPgs.ok {w : World} {H : Nat} {q : List Int} {sh : Bool} {y : UInt8} {l : List PgV} {F : Nat → Prop} (h : DeedPgs w H q sh y l) (hF : ∀ k, F k → k < H) : ∀ p ∈ l, p.2.2.1 = 256 → PgOk w F p := fun p hp h256 => by
  obtain ⟨i, hi, rfl⟩ := List.getElem_of_mem hp
  obtain ⟨b, hb, hH, hlt, hB⟩ := h.bytes i hi
  exact ⟨b, 0, hb, h256, by rw [h.at i hi]; exact hB, fun hf => by have := hF b hf; omega, hlt⟩
theorem chOf_fst (fs : List (List UInt8)) (ls : List (Nat × List UInt8)) : (chOf fs ls).map (·.1) = ls.map (·.1) := by
  induction ls generalizing fs with
  | nil => rfl
  | cons c ls ih => show c.1 :: _ = c.1 :: _; rw [ih]

set_option maxHeartbeats 1600000 in
theorem walLive_any (w : World) : Calls Try.prog 7 #[] w fun e w' => e = .returned (.bool true) ∧ Below w.heap.size w w' := by
  go_enter Try.func7, Try.ntmps7
  go_wp2_with (fail)
  refine (new_ok 8 w (by omega) (by omega)).mono ?_
  rintro e w1 ⟨d0, g0, cap0, rfl, hD, hB1⟩
  have Hop := hid (open_ok hD 3 0 4 [] (inv_new 8 3 4 rfl (by omega) (by omega) (by omega)) (by omega) (by simp))
  have HB1 := hid hB1
  clear hD hB1
  go_wp2_with (fail)
  refine Hop.out.mono ?_
  rintro e w2 ⟨l, d, g, cap, mb, n, rfl, hn, hM, hb2⟩
  rw [usedOf_nil, plOf_nil] at hM
  rw [usedOf_nil] at hn
  have HM := hid hM
  have HB2 := hid (HB1.out.trans (hb2.mono HB1.out.size))
  have hl2 : w.heap.size ≤ w1.heap.size := HB1.out.size
  clear hM hb2 Hop HB1
  go_wp2_with (fail)
  have Hints : Hid (IntsAt (w2.alloc (.cells #[.int .i64 2, .int .i64 0] 3)) (some ⟨w2.heap.size, 0, none⟩) [2, 0]) := fun i hi => by
    refine ⟨w2.heap.size, 0, rfl, ?_⟩
    have hh := heap_alloc_new w2 (.cells #[.int .i64 2, .int .i64 0] 3)
    have c0 := cell_of_row _ _ 0 _ _ _ hh
    have c1 := cell_of_row _ _ 1 _ _ _ hh
    rcases (show i = 0 ∨ i = 1 by simp at hi; omega) with rfl | rfl
    · exact c0
    · exact c1
  have Hpd := hid (pages_deed false false (some ⟨w2.heap.size, 0, none⟩) [2, 0] 2 5 _ Hints.out)
  have HB3 := hid (HB2.out.alloc HB2.out.size (.cells #[.int .i64 2, .int .i64 0] 3))
  have HM3 := hid (HM.out.below ((Below.refl _ w2).alloc (Nat.le_refl _) (.cells #[.int .i64 2, .int .i64 0] 3)))
  clear HM HB2 Hints
  generalize w2.alloc (.cells #[.int .i64 2, .int .i64 0] 3) = w3 at *
  refine Hpd.out.mono ?_
  rintro e w4 ⟨v, pl, rfl, hlen, hdp, hrow, hap, hb4⟩
  have hlen2 : pl.length = 2 := by rw [hlen]; rfl
  rw [hlen2] at hrow
  obtain ⟨gp, cp, rfl, _, _⟩ := hrow.form (by omega)
  have HM4 := hid (HM3.out.below hb4)
  have HB4 := hid (HB3.out.trans (hb4.mono HB3.out.size))
  obtain ⟨p0, p1, rfl⟩ : ∃ p0 p1, pl = [p0, p1] := by
    match pl, hlen2 with
    | [p0, p1], _ => exact ⟨p0, p1, rfl⟩
  have hpgs := pgs_of_row (l := [p0, p1]) hrow
  have n0 : p0.1 = 2 := (hdp.nums 0 (by simp)).2
  have n1 : p1.1 = 0 := (hdp.nums 1 (by simp)).2
  have e0 : p0.2.2.1 = 256 := hdp.len 0 (by simp)
  have e1 : p1.2.2.1 = 256 := hdp.len 1 (by simp)
  have x0 : bytesAt w4 p0 = List.replicate 256 5 := hdp.at 0 (by simp)
  have x1 : bytesAt w4 p1 = List.replicate 256 6 := hdp.at 1 (by simp)
  have hokF := hdp.ok (F := logBlock l d g mb (.slice none 0 0)) (fun k hk => by have := (HM3.out.lts k hk).2; omega)
  have Hcm := hid (commit_any (fs := List.replicate 8 zpage) (ls := []) HM4.out 4 (by rw [List.length_replicate]) (by rw [List.length_replicate]; omega) (by omega) [p0, p1] gp 0 cp hpgs (by simp) (by simp) hokF (by omega) (by simp) (by omega) (by have h1 := HM4.out.bl; have h2 := (HM4.out.lts l (.inl rfl)).2; omega))
  have hnr : ¬ BadRange 4 [p0, p1] := by
    rintro ⟨p, hp, h⟩
    rcases List.mem_cons.1 hp with rfl | hp
    · rw [n0] at h; omega
    · rw [List.mem_singleton.1 hp, n1] at h; omega
  have hnf : ¬ BadForm [p0, p1] := by
    rintro (h | ⟨p, hp, h⟩)
    · apply h; simp [n0, n1]
    · rcases List.mem_cons.1 hp with rfl | hp
      · exact h e0
      · rw [List.mem_singleton.1 hp] at h; exact h e1
  have Hcm2 : Hid (Calls Try.prog 8 #[.pointer (some ⟨l, 0, none⟩), .slice (some ⟨gp, 0, none⟩) 2 cp] w4 fun e w' => e = .returned (.int .i64 0) ∧ ∃ v' n', LogMem w' w1.heap.size l d g cap mb n' v' 3 1 3 (noted (fun _ => none) 2 [0, 2]) (psOf (List.replicate 8 zpage) (commitWs 0 0 [0, 2] [List.replicate 256 6, List.replicate 256 5])) (chOf (List.replicate 8 zpage) (commitWs 0 0 [0, 2] [List.replicate 256 6, List.replicate 256 5])) ∧ Out (logBlock l d g mb (.slice none 0 0)) w4 w') := by
    refine Hcm.out.mono ?_
    rintro e w' (⟨c, _, (⟨_, h⟩ | ⟨_, _, h⟩ | ⟨_, _, _, h⟩), _⟩ | ⟨he, _, _, _, s, v', hp, hs, hM, _, ho⟩)
    · exact absurd h hnr
    · exact absurd h hnf
    · exact absurd h (by show ¬ (3 < 0 + 2 + 1); omega)
    · have es : s = [p1, p0] := by
        have h1 : ([p1, p0] : List PgV).Perm [p0, p1] := List.Perm.swap ..
        have hs2 : ([p1, p0] : List PgV).Pairwise (fun a b => a.1 < b.1) := by simp [n0, n1]
        refine List.Perm.eq_of_pairwise (le := fun a b : PgV => a.1 < b.1) (fun a b _ _ h1 h2 => by omega) hs hs2 (hp.trans h1.symm)
      subst es
      have en : numsP [p1, p0] = [0, 2] := by simp [numsP, n0, n1]
      have ex : [p1, p0].map (bytesAt w4) = [List.replicate 256 6, List.replicate 256 5] := by simp only [List.map_cons, List.map_nil, x0, x1]
      rw [en, ex] at hM
      exact ⟨he, v', _, hM, ho⟩
  clear Hcm hnr hnf hokF hpgs hdp hrow hap hb4 hlen hlen2 n0 n1 e0 e1 x0 x1 HM3 HB3 Hpd
  have Hps : Hid ((psOf (List.replicate 8 zpage) (commitWs 0 0 [0, 2] [List.replicate 256 6, List.replicate 256 5]))[2]? = some (List.replicate 256 6)) := by
    have e : psOf (List.replicate 8 zpage) (commitWs 0 0 [0, 2] [List.replicate 256 6, List.replicate 256 5]) = ((((List.replicate 8 zpage).set 1 (indexB [0, 2])).set 2 (List.replicate 256 6)).set 3 (List.replicate 256 5)).set 0 (headB 1 3) := rfl
    show _ = _
    rw [e, List.getElem?_set_ne (by omega), List.getElem?_set_ne (by omega), List.getElem?_set_self (by rw [List.length_set, List.length_replicate]; omega)]
  have Hch : Hid ((chOf (List.replicate 8 zpage) (commitWs 0 0 [0, 2] [List.replicate 256 6, List.replicate 256 5])).map (·.1) = [1, 2, 3, 0]) := by show _ = _; rw [chOf_fst]; rfl
  have Hpl : Hid ((psOf (List.replicate 8 zpage) (commitWs 0 0 [0, 2] [List.replicate 256 6, List.replicate 256 5])).length = 8) := by show _ = _; rw [psOf_length, List.length_replicate]
  have Hcl : Hid ((chOf (List.replicate 8 zpage) (commitWs 0 0 [0, 2] [List.replicate 256 6, List.replicate 256 5])).length = 4) := by show _ = _; rw [chOf_length]; rfl
  have Hno : Hid (noted (fun _ => none) 2 [0, 2] 0 = some 2) := by show _ = _; unfold noted; rw [if_pos (by simp)]; rfl
  generalize psOf (List.replicate 8 zpage) (commitWs 0 0 [0, 2] [List.replicate 256 6, List.replicate 256 5]) = PS at *
  generalize chOf (List.replicate 8 zpage) (commitWs 0 0 [0, 2] [List.replicate 256 6, List.replicate 256 5]) = CH at *
  generalize noted (fun _ => none) 2 [0, 2] = NP at *
  generalize hx6 : List.replicate 256 (6 : UInt8) = x6 at *
  have Hx6l : Hid (x6.length = 256) := by show _ = _; rw [← hx6, List.length_replicate]
  have Hx6 := hid hx6
  clear hx6
  go_wp2_with (fail)
  refine Hcm2.out.mono ?_
  rintro e w5 ⟨rfl, v5, n5, hM5, ho5⟩
  have HB5 := hid (HB4.out.trans (ho5.below HB4.out.size (fun k hk => Nat.le_trans hl2 (HM4.out.lts k hk).1)))
  have HM5 := hid hM5
  clear hM5 ho5 Hcm2 HB4 HM4
  go_wp2_with (fail)
  refine (logDisk_ok HM5.out (by rw [Hpl.out]; omega) (by rw [Hpl.out]; omega) (by rw [Hcl.out]; omega)).mono ?_
  rintro e w6 ⟨d6, g6, cap6, v6, rfl, hD6, hb6⟩
  have Hwr := hid (writes_ok hD6 (by rw [Hcl.out]; omega))
  rw [Hcl.out, Hch.out] at Hwr
  have HM6 := hid (HM5.out.below hb6)
  have HB6 := hid (HB5.out.trans (hb6.mono HB5.out.size))
  clear hD6 hb6 HM5 HB5
  go_wp2_with (fail)
  refine Hwr.out.mono ?_
  rintro e w7 ⟨b7, rfl, ho7, hb7⟩
  have HM7 := hid (HM6.out.below hb7)
  have HB7 := hid (HB6.out.trans (hb7.mono HB6.out.size))
  have HO7 := hid ho7
  clear ho7 hb7 HM6 HB6 Hwr
  go_wp2_with (fail)
  refine (logRead_ok HM7.out 4 (by rw [Hpl.out]) (by rw [Hpl.out]; omega) 0 (by omega) x6 (by rw [Hno.out]; exact Hps.out)).mono ?_
  rintro e w8 ⟨g8, c8, rfl, ho8, hc8, hb8⟩
  have HM8 := hid (HM7.out.below hb8)
  have HB8 := hid (HB7.out.trans (hb8.mono HB7.out.size))
  have HO8 := hid (own_below HO7.out hb8)
  have HR8 := hid ho8
  clear ho8 hb8 HM7 HB7 HO7
  have Hb8 : Hid (w8.cell? ⟨g8, 0, none⟩ = some (.int .u8 6)) := by
    have h := HR8.out.cellAt 0 (by omega)
    rw [cellsOf_get _ 0 (by rw [Hx6l.out]; omega)] at h
    have e : x6[0]'(by rw [Hx6l.out]; omega) = 6 := by
      have h := Hx6.out
      subst h
      exact List.getElem_replicate ..
    rw [e] at h
    exact h
  have Hint : Hid (∀ ww : World, (ww.alloc (.cells #[.int .i64 1, .int .i64 2, .int .i64 3, .int .i64 0] 3)).ownsRow ww.heap.size 3 1 (.slice (some ⟨ww.heap.size, 0, none⟩) 4 4) 4 (nums [1, 2, 3, 0])) := fun ww => ⟨rfl, .inr ⟨ww.heap.size, 4, #[.int .i64 1, .int .i64 2, .int .i64 3, .int .i64 0], rfl, Nat.le_refl _, heap_alloc_new ww _, Nat.le_refl _, by unfold maxLen; omega, rfl, rfl⟩⟩
  go_wp2_with (fail)
  have HbA := hid ((Below.refl _ w8).alloc (Nat.le_refl _) (.cells #[.int .i64 1, .int .i64 2, .int .i64 3, .int .i64 0] 3))
  have Hsi := hid (sameInts_eq (l := [1, 2, 3, 0]) (own_below HO8.out HbA.out) (Hint.out w8) (by simp))
  refine Hsi.out.mono ?_
  rintro e w9 ⟨rfl, hb9⟩
  have hbb : Below w8.heap.size w8 w9 := HbA.out.trans (hb9.mono HbA.out.size)
  have HB9 := hid (HB8.out.trans (hbb.mono HB8.out.size))
  have HM9 := hid (HM8.out.below hbb)
  have c9 := (hbb.cell (World.block_lt_of_cell? _ _ Hb8.out)).trans Hb8.out
  clear hb9 hbb HM8 HB8 HO8 HR8 Hsi Hint HbA
  have Hus := hid (used_any HM9.out)
  have Hne : Hid (needOf 2 = 3) := rfl
  go_wp2_with (first | (go_at_call 11; refine Hus.out.mono ?_; rintro e w10 ⟨rfl, rfl⟩) | (go_at_call 16; refine (need_any _ _).mono ?_; rw [Hne.out]; rintro e w11 ⟨rfl, rfl⟩))
  go_ret
  exact ⟨ret_bool (by simp), HB9.out⟩
end Go.Proofs.Ytcaifnenejjfaaa
