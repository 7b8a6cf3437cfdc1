/- TokenApart, walked. (Printed by gen/kapart.py.) -/
import Derived.Test.YtnppnkdlmelpaaaKN
import Derived.Test.YtnppnkdlmelpaaaKFork
namespace Go.Proofs.Ytnppnkdlmelpaaa
open Go.RowKit Go.Maps Go.Sort Go.Shelf
set_option linter.unusedVariables false
set_option maxRecDepth 20000

/-- what Family tells ahead of an end and behind it -/
inductive ApCase (T : Sto) (cli : ByteArray) (zs : List Int) (x : Int) : Prop
  | stays (s : Fam.Sess) (h1 : fFind T.nf T.fs x = (s, 0)) (h2 : fFind (tDrop T (inC cli zs)).nf (tDrop T (inC cli zs)).fs x = (s, 0)) (h3 : hasB (Fam.wantedIds T.fs (inC cli zs)) x = false)
  | goes (s : Fam.Sess) (h1 : fFind T.nf T.fs x = (s, 0)) (h2 : fFind (tDrop T (inC cli zs)).nf (tDrop T (inC cli zs)).fs x = (Fam.sess0, 12)) (h3 : hasB (Fam.wantedIds T.fs (inC cli zs)) x = true) (h4 : (s.cli.toList == cli.toList) = true)
  | none (z : Int) (hz : z ≠ 0) (h1 : fFind T.nf T.fs x = (Fam.sess0, z)) (h2 : fFind (tDrop T (inC cli zs)).nf (tDrop T (inC cli zs)).fs x = (Fam.sess0, z)) (h3 : hasB (Fam.wantedIds T.fs (inC cli zs)) x = false)
theorem wanted_iff {T : Sto} {f : Fam.Sess → Bool} {x : Int} : hasB (Fam.wantedIds T.fs f) x = true ↔ ∃ s ∈ T.fs, f s = true ∧ s.id = x := by
  rw [hasB_iff]
  unfold Fam.wantedIds
  rw [List.mem_map]
  constructor
  · rintro ⟨s, hs, e⟩
    exact ⟨s, (List.mem_filter.1 hs).1, (List.mem_filter.1 hs).2, e⟩
  · rintro ⟨s, h1, h2, e⟩
    exact ⟨s, List.mem_filter.2 ⟨h1, h2⟩, e⟩
theorem apCase {T : Sto} (ok : StoOk T) (cli : ByteArray) (zs : List Int) (x : Int) : ApCase T cli zs x := by
  have hno : ∀ (h : ∀ s ∈ T.fs, s.id ≠ x), hasB (Fam.wantedIds T.fs (inC cli zs)) x = false := fun h => by
    rw [Bool.eq_false_iff]
    intro hc
    obtain ⟨s, hs, _, e⟩ := wanted_iff.1 hc
    exact h s hs e
  by_cases hr : x < 1 ∨ T.nf ≤ x
  · refine .none 4 (by decide) (by unfold fFind; rw [if_pos hr]) (by unfold fFind; rw [if_pos (by exact hr)]) (hno fun s hs e => ?_)
    have := ok.idf s hs
    omega
  · cases hfd : T.fs.find? (fun s => s.id == x) with
    | none =>
      have hn : ∀ s ∈ T.fs, s.id ≠ x := fun s hs e => by have := List.find?_eq_none.1 hfd s hs; simp [e] at this
      refine .none 12 (by decide) (by unfold fFind; rw [if_neg hr, hfd]) ?_ (hno hn)
      unfold fFind
      rw [if_neg (by exact hr)]
      have : (tDrop T (inC cli zs)).fs.find? (fun s => s.id == x) = none := List.find?_eq_none.2 fun s hs => by
        have := hn s (List.mem_filter.1 hs).1
        simpa using this
      rw [this]
    | some s =>
      have hs : s ∈ T.fs := List.mem_of_find?_eq_some hfd
      have he : s.id = x := by have := List.find?_some hfd; simpa using this
      have h1 : fFind T.nf T.fs x = (s, 0) := by unfold fFind; rw [if_neg hr, hfd]
      have huniq : ∀ t ∈ T.fs, t.id = x → t = s := fun t ht e => Nums1.eq (num := Fam.Sess.id) (ok.upf.imp (fun h => by omega)) ht hs (e.trans he.symm)
      cases hf : inC cli zs s
      · refine .stays s h1 ?_ ?_
        · have hm : s ∈ (tDrop T (inC cli zs)).fs := List.mem_filter.2 ⟨hs, by simp [hf]⟩
          have := fFind_in (next := (tDrop T (inC cli zs)).nf) (tDrop_ok ok (inC cli zs)).upf hm ((tDrop_ok ok (inC cli zs)).idf s hm)
          rw [he] at this
          exact this
        · rw [Bool.eq_false_iff]
          intro hc
          obtain ⟨t, ht, hft, e⟩ := wanted_iff.1 hc
          rw [huniq t ht e, hf] at hft
          cases hft
      · refine .goes s h1 ?_ (wanted_iff.2 ⟨s, hs, hf, he⟩) ?_
        · unfold fFind
          rw [if_neg (by exact hr)]
          have : (tDrop T (inC cli zs)).fs.find? (fun s => s.id == x) = none := List.find?_eq_none.2 fun t ht => by
            obtain ⟨h1, h2⟩ := List.mem_filter.1 ht
            intro e
            have e' : t.id = x := by simpa using e
            rw [huniq t h1 e', hf] at h2
            cases h2
          rw [this]
        · unfold inC at hf
          rw [Bool.and_eq_true] at hf
          exact hf.1
theorem hasB_take {zs : List Int} {j : Nat} {z x : Int} (h : zs[j]? = some z) : hasB (zs.take (j + 1)) x = (hasB (zs.take j) x || (z == x)) := by
  rw [take_snoc_get h, Bool.eq_iff_iff, hasB_iff, Bool.or_eq_true, hasB_iff, List.mem_append, List.mem_singleton]
  constructor
  · rintro (h | h)
    · exact .inl h
    · exact .inr (by simp [h])
  · rintro (h | h)
    · exact .inl h
    · exact .inr (by have : z = x := by simpa using h
                     exact this.symm)

set_option maxHeartbeats 12800000 in
theorem tokenApart_walk (W : World) {a : Option Addr} {l : List KDeed} (hl : KDs W a l) (cap : Nat) (cli : ByteArray) (hc : cli.size ≤ maxLen) {sa : Option Addr} {zs : List Int} (hs0 : Ints W sa zs) (sc : Nat) (hz0 : zs.length ≤ maxLen) :
    Calls Try.prog 6 #[.slice a l.length cap, .string cli, .slice sa zs.length sc] W fun e w' => e = .returned (.bool true) ∧ Below W.heap.size W w' := by
  have Hl := hid hl
  have Hs0 := hid hs0
  have hN2 : l.length ≤ 9223372036854775807 := by simpa [maxLen] using hl.length
  have HN := hid (new_any W)
  have HR := hid rNew_any
  have HLv := hid lawLive_any
  clear hl hs0
  generalize hN : l.length = N at *
  have HLen := hid hN
  clear hN
  go_enter Try.func6, Try.ntmps6
  go_wp2_with (first
    | (go_at_call 7; refine HN.out.mono ?_; rintro e w1 ⟨p, mf, mt, rfl, hT1, hb1⟩; have H1 := hid hT1; have B1 := hid hb1; clear hT1 hb1)
    | (go_at_call 8; refine (HR.out _).mono ?_; rintro e w2 ⟨r, rfl, hR2, hb2⟩; have H2 := hid hR2; have B2 := hid hb2; clear hR2 hb2)
    | (go_at_call 9; refine (HLv.out _).mono ?_; rintro e w3 ⟨rfl, hb3⟩; have H3 := hid (duo_start H1.out B1.out H2.out B2.out hb3); clear hb3))
  go_loopw [9] (fun i wr => ∃ k : Nat, k ≤ N ∧ k ≤ 60 ∧ i = .int .i64 k ∧ Did W p mf mt r k wr) (fun i _ => N - (intOf i).toNat)
  case atStart => exact ⟨0, Nat.zero_le _, Nat.zero_le _, rfl, sto0, H3.out.1, H3.out.2⟩
  case round =>
    obtain ⟨k, hk, hk8, rfl, T, hD, hb⟩ := hrel
    have HD := hid hD
    have HB := hid hb
    clear hD hb
    have hstop : (k < N ∧ k < 60) ∨ (¬ k < N) ∨ (k < N ∧ k = 60) := by omega
    rcases hstop with ⟨hlt, h8⟩ | hstop
    · have g1 : decide ((k : Int) < (N : Int)) = true := by simpa using hlt
      have g2 : decide ((k : Int) < 60) = true := by simp; omega
      have Hg : Hid (l[k]? = some (l[k]'(by rw [HLen.out]; exact hlt))) := List.getElem?_eq_getElem _
      generalize l[k]'(by rw [HLen.out]; exact hlt) = x at *
      obtain ⟨b, o, ea, c0, c1, c2, c3, c4, c5, c6, hok⟩ := Hl.out.at HB.out Hg.out
      cases ea
      have Hdo := hid (doK_any HD.out (by omega) HB.out.size x hok)
      clear hok
      unfold deedV at Hdo
      go_wp2_with (go_at_call 10; refine Hdo.out.mono ?_; rintro e w4 ⟨⟨bb, rfl⟩, hD4, ho4⟩)
      go_roundw
      case rel => exact ⟨k + 1, by omega, by omega, by go_num, tDo T x, hD4, dout_below HB.out HD.out ho4⟩
      case measure => simp [intOf]; omega
    · obtain ⟨n1, n2, hn1, hn2, hs⟩ := HD.out.sto
      have ok := HD.out.ok
      have lf := HD.out.lf
      have lt := HD.out.lt
      obtain ⟨V, hV⟩ : ∃ V, V = wr := ⟨_, rfl⟩
      rw [← hV] at hs HB HD ⊢
      clear hV
      have HS := hid hs
      have HIs := hid (Hs0.out.below HB.out)
      have HEc := hid (fun (X : World) (hX : StoAt X W.heap.size p mf mt n1 n2 T) (hi : Ints X sa zs) => endClient_any hX ok (by omega) (by omega) cli hi sc hz0)
      obtain ⟨ids, hids⟩ : ∃ ids, ids = Fam.wantedIds T.fs (inC cli zs) := ⟨_, rfl⟩
      have hld : ids.length = (T.fs.filter (inC cli zs)).length := by rw [hids]; simp [Fam.wantedIds]
      rw [← hids] at HEc
      have HLd := hid hld
      have HIds := hid hids
      have hL9 : ids.length ≤ 1000 := by have := List.length_filter_le (inC cli zs) T.fs; omega
      obtain ⟨L, hL⟩ : ∃ L, L = ids.length := ⟨_, rfl⟩
      rw [← hL] at hL9
      have HL5 : Hid (ids.length = L) := hL.symm
      have HLn : Hid (ids.length = L) := hL.symm
      clear hs hids hld hL lf lt
      rcases hstop with h1 | ⟨h1, h2⟩
      · have g1 : decide ((k : Int) < (N : Int)) = false := by simpa using h1
        clear hk hk8
        go_wp2_with (first
          | (go_at_call 17; refine (HEc.out w4 S4.out I4.out).mono ?_; rintro e w5 ⟨v5, rfl, hrow, hst, ho⟩; rw [← HLd.out] at hrow; obtain ⟨a5, c5, ev5, hi5, _⟩ := ints_of_own hrow; subst ev5; have HI5 := hid hi5; have HST := hid hst; have HO5 := hid ho; clear hrow hst ho hi5)
          | (go_at_call 16; refine (fork_any HS.out).mono ?_; rintro e w4 ⟨p2, mf2, mt2, rfl, h4, hb4⟩; have H4 := hid h4; have B4 := hid hb4; have S4 := hid (HS.out.below hb4); have I4 := hid (HIs.out.below hb4); clear h4 hb4))
        have HW5 : Hid (∀ X, Below w5.heap.size w5 X → StoAt X V.heap.size p2 mf2 mt2 n1 n2 T) := fun X hX => by
          have l4 := H4.out.lts
          have lv := HS.out.lts
          have g1 := H4.out.bp
          have g2 := H4.out.bf
          have g3 := H4.out.bt
          exact (H4.out.keep (HO5.out.block p2 l4.1 (by unfold Mine; omega)) (HO5.out.block mf2 l4.2.1 (by unfold Mine; omega)) (HO5.out.block mt2 l4.2.2 (by unfold Mine; omega))).below hX
        have HS5 : Hid (∀ X, Below w5.heap.size w5 X → StoAt X W.heap.size p mf mt n1 n2 (tDrop T (inC cli zs))) := fun X hX => HST.out.below hX
        have HB5 : Hid (Below W.heap.size W w5) := by
          have k4 := HB.out.trans (B4.out.mono HB.out.size)
          have l := HS.out
          exact k4.trans (HO5.out.below k4.size (fun k hk => by have := l.bp; have := l.bf; have := l.bt; unfold Mine at hk; omega))
        rw [HLn.out]
        go_loopw [12] (fun i wr => ∃ k2n : Nat, 1 ≤ k2n ∧ k2n ≤ 20 ∧ i = .int .i64 k2n ∧ Below w5.heap.size w5 wr) (fun i _ => 20 - (intOf i).toNat)
        case atStart => exact ⟨1, Nat.le_refl _, by omega, rfl, Below.refl _ _⟩
        case round =>
          obtain ⟨k2n, hk1, hk2, rfl, hb6⟩ := hrel
          by_cases h20 : k2n < 20
          · have g20 : decide ((k2n : Int) < 20) = true := by simp; omega
            have HF1 := hid (fun (X : World) (hX : StoAt X V.heap.size p2 mf2 mt2 n1 n2 T) => family_any hX ok (k2n : Int))
            have HF2 := hid (fun (X : World) (hX : StoAt X W.heap.size p mf mt n1 n2 (tDrop T (inC cli zs))) => family_any hX (tDrop_ok ok _) (k2n : Int))
            have hap := apCase ok cli zs (k2n : Int)
            cases hap with
            | stays s h1 h2 h3 =>
              rw [← HIds.out] at h3
              have HG3 := hid h3
              rw [h1] at HF1
              rw [h2] at HF2
              obtain ⟨fa, fb, fc, fd, fe⟩ := s
              obtain ⟨⟨ga, gb, gc, gd, ge⟩, hgg⟩ : ∃ g : Fam.Sess, g = ⟨fa, fb, fc, fd, fe⟩ := ⟨_, rfl⟩
              rw [← hgg] at HF2
              unfold Fam.sessV at HF1 HF2
              dsimp only at HF1 HF2
              clear h1 h2 h3 hgg
              go_wp2_with (first
                | (go_at_call 12; refine (HF2.out _ (HS5.out _ (HB6.out.trans (K7.out.mono HB6.out.size)))).mono ?_; rintro e w8 ⟨rfl, hb8⟩; have t8 := (hb8.block w7.heap.size (by simp)).trans (MapKept.heap_alloc w7 (.cells #[.int .i64 fa, .int .i64 fb, .string fc, .int .u8 fd, .int .i64 fe] 39)).1; have d8 : w7.heap.size < w8.heap.size := (Array.getElem?_eq_some_iff.1 t8).1; have q2 : w8.cell? ⟨w7.heap.size, 2, none⟩ = some (.string fc) := cell_of_row _ _ 2 _ _ _ t8; have B8 := hid hb8; clear hb8 t8)
                | (go_at_call 12; refine (HF1.out _ (HW5.out _ hb6)).mono ?_; rintro e w7 ⟨rfl, hb7⟩; have B7 := hid hb7; have HB6 := hid hb6; clear hb6; have n7 := hb7.size; have b7a : Below w7.heap.size w7 (w7.alloc (.cells #[.int .i64 fa, .int .i64 fb, .string fc, .int .u8 fd, .int .i64 fe] 39)) := (Below.refl _ w7).alloc (Nat.le_refl _) _; have k7 := (hb7.trans (b7a.mono hb7.size)); have K7 := hid k7; clear hb7 b7a k7))
              obtain ⟨V8, hV8⟩ : ∃ V8, V8 = w8.alloc (.cells #[.int .i64 ga, .int .i64 gb, .string gc, .int .u8 gd, .int .i64 ge] 39) := ⟨_, rfl⟩
              rw [← hV8]
              have b8 : Below w8.heap.size w8 V8 := by rw [hV8]; exact (Below.refl _ w8).alloc (Nat.le_refl _) _
              have bAll : Below w5.heap.size w5 V8 := (HB6.out.trans (K7.out.mono HB6.out.size)).trans ((B8.out.mono (by have := HB6.out.size; have := K7.out.size; omega)).trans (b8.mono (by have := HB6.out.size; have := K7.out.size; have := B8.out.size; omega)))
              have q2' : V8.cell? ⟨w7.heap.size, 2, none⟩ = some (.string fc) := (b8.cell (p := ⟨w7.heap.size, 2, none⟩) d8).trans q2
              have hi8 := HI5.out.below bAll
              have HI8 := hid hi8
              have BA := hid bAll
              clear hV8 b8 bAll q2 hi8
              go_loop [17, 18] (fun g i => ∃ j : Nat, j ≤ L ∧ g = .bool (hasB (ids.take j) (k2n : Int)) ∧ i = .int .i64 j) (fun _ i => L - (intOf i).toNat)
              case atStart => exact ⟨0, Nat.zero_le _, rfl, rfl⟩
              case round =>
                obtain ⟨j, hj, rfl, rfl⟩ := hrel
                by_cases hjl : j < L
                · obtain ⟨b, o, ea, h0⟩ := HI8.out j (by rw [HL5.out]; exact hjl)
                  cases ea
                  have Hg : Hid (ids[j]? = some (ids[j]'(by rw [HL5.out]; exact hjl))) := List.getElem?_eq_getElem _
                  generalize ids[j]'(by rw [HL5.out]; exact hjl) = zz at *
                  have Hn := hid (hasB_take (x := (k2n : Int)) Hg.out)
                  cases hgn : hasB (ids.take j) (k2n : Int)
                  · rw [hgn, Bool.false_or] at Hn
                    go_wp2
                    go_round
                    case rel => exact ⟨j + 1, by omega, by rw [Hn.out], by go_num⟩
                    case measure => simp [intOf]; omega
                  · rw [hgn, Bool.true_or] at Hn
                    go_wp2
                    go_round
                    case rel => exact ⟨j + 1, by omega, by rw [Hn.out], by go_num⟩
                    case measure => simp [intOf]; omega
                · have e : j = L := by omega
                  have hfull : hasB (ids.take j) (k2n : Int) = false := by rw [e, ← HL5.out, List.take_length]; exact HG3.out
                  rw [hfull]
                  clear hfull
                  subst e
                  go_wp2
                  go_roundw
                  case rel => exact ⟨k2n + 1, by omega, by omega, by go_num, BA.out⟩
                  case measure => simp [intOf]; omega
            | goes s h1 h2 h3 h4 =>
              rw [← HIds.out] at h3
              have HG3 := hid h3
              rw [h1] at HF1
              rw [h2] at HF2
              obtain ⟨fa, fb, fc, fd, fe⟩ := s
              obtain ⟨⟨ga, gb, gc, gd, ge⟩, hgg⟩ : ∃ g : Fam.Sess, g = Fam.sess0 := ⟨_, rfl⟩
              rw [← hgg] at HF2
              clear hgg
              unfold Fam.sessV at HF1 HF2
              dsimp only at HF1 HF2 h4
              clear h1 h2 h3
              go_wp2_with (first
                | (go_at_call 12; refine (HF2.out _ (HS5.out _ (HB6.out.trans (K7.out.mono HB6.out.size)))).mono ?_; rintro e w8 ⟨rfl, hb8⟩; have t8 := (hb8.block w7.heap.size (by simp)).trans (MapKept.heap_alloc w7 (.cells #[.int .i64 fa, .int .i64 fb, .string fc, .int .u8 fd, .int .i64 fe] 39)).1; have d8 : w7.heap.size < w8.heap.size := (Array.getElem?_eq_some_iff.1 t8).1; have q2 : w8.cell? ⟨w7.heap.size, 2, none⟩ = some (.string fc) := cell_of_row _ _ 2 _ _ _ t8; have B8 := hid hb8; clear hb8 t8)
                | (go_at_call 12; refine (HF1.out _ (HW5.out _ hb6)).mono ?_; rintro e w7 ⟨rfl, hb7⟩; have B7 := hid hb7; have HB6 := hid hb6; clear hb6; have n7 := hb7.size; have b7a : Below w7.heap.size w7 (w7.alloc (.cells #[.int .i64 fa, .int .i64 fb, .string fc, .int .u8 fd, .int .i64 fe] 39)) := (Below.refl _ w7).alloc (Nat.le_refl _) _; have k7 := (hb7.trans (b7a.mono hb7.size)); have K7 := hid k7; clear hb7 b7a k7))
              obtain ⟨V8, hV8⟩ : ∃ V8, V8 = w8.alloc (.cells #[.int .i64 ga, .int .i64 gb, .string gc, .int .u8 gd, .int .i64 ge] 39) := ⟨_, rfl⟩
              rw [← hV8]
              have b8 : Below w8.heap.size w8 V8 := by rw [hV8]; exact (Below.refl _ w8).alloc (Nat.le_refl _) _
              have bAll : Below w5.heap.size w5 V8 := (HB6.out.trans (K7.out.mono HB6.out.size)).trans ((B8.out.mono (by have := HB6.out.size; have := K7.out.size; omega)).trans (b8.mono (by have := HB6.out.size; have := K7.out.size; have := B8.out.size; omega)))
              have q2' : V8.cell? ⟨w7.heap.size, 2, none⟩ = some (.string fc) := (b8.cell (p := ⟨w7.heap.size, 2, none⟩) d8).trans q2
              have hi8 := HI5.out.below bAll
              have HI8 := hid hi8
              have BA := hid bAll
              clear hV8 b8 bAll q2 hi8
              go_loop [17, 18] (fun g i => ∃ j : Nat, j ≤ L ∧ g = .bool (hasB (ids.take j) (k2n : Int)) ∧ i = .int .i64 j) (fun _ i => L - (intOf i).toNat)
              case atStart => exact ⟨0, Nat.zero_le _, rfl, rfl⟩
              case round =>
                obtain ⟨j, hj, rfl, rfl⟩ := hrel
                by_cases hjl : j < L
                · obtain ⟨b, o, ea, h0⟩ := HI8.out j (by rw [HL5.out]; exact hjl)
                  cases ea
                  have Hg : Hid (ids[j]? = some (ids[j]'(by rw [HL5.out]; exact hjl))) := List.getElem?_eq_getElem _
                  generalize ids[j]'(by rw [HL5.out]; exact hjl) = zz at *
                  have Hn := hid (hasB_take (x := (k2n : Int)) Hg.out)
                  cases hgn : hasB (ids.take j) (k2n : Int)
                  · rw [hgn, Bool.false_or] at Hn
                    go_wp2
                    go_round
                    case rel => exact ⟨j + 1, by omega, by rw [Hn.out], by go_num⟩
                    case measure => simp [intOf]; omega
                  · rw [hgn, Bool.true_or] at Hn
                    go_wp2
                    go_round
                    case rel => exact ⟨j + 1, by omega, by rw [Hn.out], by go_num⟩
                    case measure => simp [intOf]; omega
                · have e : j = L := by omega
                  have hfull : hasB (ids.take j) (k2n : Int) = true := by rw [e, ← HL5.out, List.take_length]; exact HG3.out
                  rw [hfull]
                  clear hfull
                  subst e
                  go_wp2
                  go_roundw
                  case rel => exact ⟨k2n + 1, by omega, by omega, by go_num, BA.out⟩
                  case measure => simp [intOf]; omega
            | none z hz h1 h2 h3 =>
              rw [← HIds.out] at h3
              have HG3 := hid h3
              rw [h1] at HF1
              rw [h2] at HF2
              obtain ⟨⟨fa, fb, fc, fd, fe⟩, hff⟩ : ∃ g : Fam.Sess, g = Fam.sess0 := ⟨_, rfl⟩
              rw [← hff] at HF1
              obtain ⟨⟨ga, gb, gc, gd, ge⟩, hgg⟩ : ∃ g : Fam.Sess, g = Fam.sess0 := ⟨_, rfl⟩
              rw [← hgg] at HF2
              clear hgg hff
              have qz1 : (z == 0) = false := by simpa using hz
              have qz2 : (z != 0) = true := by simpa using hz
              clear hz
              unfold Fam.sessV at HF1 HF2
              dsimp only at HF1 HF2
              clear h1 h2 h3
              go_wp2_with (first
                | (go_at_call 12; refine (HF2.out _ (HS5.out _ (HB6.out.trans (K7.out.mono HB6.out.size)))).mono ?_; rintro e w8 ⟨rfl, hb8⟩; have t8 := (hb8.block w7.heap.size (by simp)).trans (MapKept.heap_alloc w7 (.cells #[.int .i64 fa, .int .i64 fb, .string fc, .int .u8 fd, .int .i64 fe] 39)).1; have d8 : w7.heap.size < w8.heap.size := (Array.getElem?_eq_some_iff.1 t8).1; have q2 : w8.cell? ⟨w7.heap.size, 2, none⟩ = some (.string fc) := cell_of_row _ _ 2 _ _ _ t8; have B8 := hid hb8; clear hb8 t8)
                | (go_at_call 12; refine (HF1.out _ (HW5.out _ hb6)).mono ?_; rintro e w7 ⟨rfl, hb7⟩; have B7 := hid hb7; have HB6 := hid hb6; clear hb6; have n7 := hb7.size; have b7a : Below w7.heap.size w7 (w7.alloc (.cells #[.int .i64 fa, .int .i64 fb, .string fc, .int .u8 fd, .int .i64 fe] 39)) := (Below.refl _ w7).alloc (Nat.le_refl _) _; have k7 := (hb7.trans (b7a.mono hb7.size)); have K7 := hid k7; clear hb7 b7a k7))
              obtain ⟨V8, hV8⟩ : ∃ V8, V8 = w8.alloc (.cells #[.int .i64 ga, .int .i64 gb, .string gc, .int .u8 gd, .int .i64 ge] 39) := ⟨_, rfl⟩
              rw [← hV8]
              have b8 : Below w8.heap.size w8 V8 := by rw [hV8]; exact (Below.refl _ w8).alloc (Nat.le_refl _) _
              have bAll : Below w5.heap.size w5 V8 := (HB6.out.trans (K7.out.mono HB6.out.size)).trans ((B8.out.mono (by have := HB6.out.size; have := K7.out.size; omega)).trans (b8.mono (by have := HB6.out.size; have := K7.out.size; have := B8.out.size; omega)))
              have q2' : V8.cell? ⟨w7.heap.size, 2, none⟩ = some (.string fc) := (b8.cell (p := ⟨w7.heap.size, 2, none⟩) d8).trans q2
              have hi8 := HI5.out.below bAll
              have HI8 := hid hi8
              have BA := hid bAll
              clear hV8 b8 bAll q2 hi8
              go_loop [17, 18] (fun g i => ∃ j : Nat, j ≤ L ∧ g = .bool (hasB (ids.take j) (k2n : Int)) ∧ i = .int .i64 j) (fun _ i => L - (intOf i).toNat)
              case atStart => exact ⟨0, Nat.zero_le _, rfl, rfl⟩
              case round =>
                obtain ⟨j, hj, rfl, rfl⟩ := hrel
                by_cases hjl : j < L
                · obtain ⟨b, o, ea, h0⟩ := HI8.out j (by rw [HL5.out]; exact hjl)
                  cases ea
                  have Hg : Hid (ids[j]? = some (ids[j]'(by rw [HL5.out]; exact hjl))) := List.getElem?_eq_getElem _
                  generalize ids[j]'(by rw [HL5.out]; exact hjl) = zz at *
                  have Hn := hid (hasB_take (x := (k2n : Int)) Hg.out)
                  cases hgn : hasB (ids.take j) (k2n : Int)
                  · rw [hgn, Bool.false_or] at Hn
                    go_wp2
                    go_round
                    case rel => exact ⟨j + 1, by omega, by rw [Hn.out], by go_num⟩
                    case measure => simp [intOf]; omega
                  · rw [hgn, Bool.true_or] at Hn
                    go_wp2
                    go_round
                    case rel => exact ⟨j + 1, by omega, by rw [Hn.out], by go_num⟩
                    case measure => simp [intOf]; omega
                · have e : j = L := by omega
                  have hfull : hasB (ids.take j) (k2n : Int) = false := by rw [e, ← HL5.out, List.take_length]; exact HG3.out
                  rw [hfull]
                  clear hfull
                  subst e
                  go_wp2
                  go_roundw
                  case rel => exact ⟨k2n + 1, by omega, by omega, by go_num, BA.out⟩
                  case measure => simp [intOf]; omega
          · have e20 : k2n = 20 := by omega
            subst e20
            have HB6 := hid hb6
            clear hb6
            go_wp2
            go_ret
            exact ⟨rfl, HB5.out.trans (HB6.out.mono HB5.out.size)⟩
      · subst h2
        have g1 : decide (((60 : Nat) : Int) < (N : Int)) = true := by simp; omega
        have g2 : decide (((60 : Nat) : Int) < 60) = false := by decide
        go_wp2_with (first
          | (go_at_call 17; refine (HEc.out w4 S4.out I4.out).mono ?_; rintro e w5 ⟨v5, rfl, hrow, hst, ho⟩; rw [← HLd.out] at hrow; obtain ⟨a5, c5, ev5, hi5, _⟩ := ints_of_own hrow; subst ev5; have HI5 := hid hi5; have HST := hid hst; have HO5 := hid ho; clear hrow hst ho hi5)
          | (go_at_call 16; refine (fork_any HS.out).mono ?_; rintro e w4 ⟨p2, mf2, mt2, rfl, h4, hb4⟩; have H4 := hid h4; have B4 := hid hb4; have S4 := hid (HS.out.below hb4); have I4 := hid (HIs.out.below hb4); clear h4 hb4))
        have HW5 : Hid (∀ X, Below w5.heap.size w5 X → StoAt X V.heap.size p2 mf2 mt2 n1 n2 T) := fun X hX => by
          have l4 := H4.out.lts
          have lv := HS.out.lts
          have g1 := H4.out.bp
          have g2 := H4.out.bf
          have g3 := H4.out.bt
          exact (H4.out.keep (HO5.out.block p2 l4.1 (by unfold Mine; omega)) (HO5.out.block mf2 l4.2.1 (by unfold Mine; omega)) (HO5.out.block mt2 l4.2.2 (by unfold Mine; omega))).below hX
        have HS5 : Hid (∀ X, Below w5.heap.size w5 X → StoAt X W.heap.size p mf mt n1 n2 (tDrop T (inC cli zs))) := fun X hX => HST.out.below hX
        have HB5 : Hid (Below W.heap.size W w5) := by
          have k4 := HB.out.trans (B4.out.mono HB.out.size)
          have l := HS.out
          exact k4.trans (HO5.out.below k4.size (fun k hk => by have := l.bp; have := l.bf; have := l.bt; unfold Mine at hk; omega))
        rw [HLn.out]
        go_loopw [12] (fun i wr => ∃ k2n : Nat, 1 ≤ k2n ∧ k2n ≤ 20 ∧ i = .int .i64 k2n ∧ Below w5.heap.size w5 wr) (fun i _ => 20 - (intOf i).toNat)
        case atStart => exact ⟨1, Nat.le_refl _, by omega, rfl, Below.refl _ _⟩
        case round =>
          obtain ⟨k2n, hk1, hk2, rfl, hb6⟩ := hrel
          by_cases h20 : k2n < 20
          · have g20 : decide ((k2n : Int) < 20) = true := by simp; omega
            have HF1 := hid (fun (X : World) (hX : StoAt X V.heap.size p2 mf2 mt2 n1 n2 T) => family_any hX ok (k2n : Int))
            have HF2 := hid (fun (X : World) (hX : StoAt X W.heap.size p mf mt n1 n2 (tDrop T (inC cli zs))) => family_any hX (tDrop_ok ok _) (k2n : Int))
            have hap := apCase ok cli zs (k2n : Int)
            cases hap with
            | stays s h1 h2 h3 =>
              rw [← HIds.out] at h3
              have HG3 := hid h3
              rw [h1] at HF1
              rw [h2] at HF2
              obtain ⟨fa, fb, fc, fd, fe⟩ := s
              obtain ⟨⟨ga, gb, gc, gd, ge⟩, hgg⟩ : ∃ g : Fam.Sess, g = ⟨fa, fb, fc, fd, fe⟩ := ⟨_, rfl⟩
              rw [← hgg] at HF2
              unfold Fam.sessV at HF1 HF2
              dsimp only at HF1 HF2
              clear h1 h2 h3 hgg
              go_wp2_with (first
                | (go_at_call 12; refine (HF2.out _ (HS5.out _ (HB6.out.trans (K7.out.mono HB6.out.size)))).mono ?_; rintro e w8 ⟨rfl, hb8⟩; have t8 := (hb8.block w7.heap.size (by simp)).trans (MapKept.heap_alloc w7 (.cells #[.int .i64 fa, .int .i64 fb, .string fc, .int .u8 fd, .int .i64 fe] 39)).1; have d8 : w7.heap.size < w8.heap.size := (Array.getElem?_eq_some_iff.1 t8).1; have q2 : w8.cell? ⟨w7.heap.size, 2, none⟩ = some (.string fc) := cell_of_row _ _ 2 _ _ _ t8; have B8 := hid hb8; clear hb8 t8)
                | (go_at_call 12; refine (HF1.out _ (HW5.out _ hb6)).mono ?_; rintro e w7 ⟨rfl, hb7⟩; have B7 := hid hb7; have HB6 := hid hb6; clear hb6; have n7 := hb7.size; have b7a : Below w7.heap.size w7 (w7.alloc (.cells #[.int .i64 fa, .int .i64 fb, .string fc, .int .u8 fd, .int .i64 fe] 39)) := (Below.refl _ w7).alloc (Nat.le_refl _) _; have k7 := (hb7.trans (b7a.mono hb7.size)); have K7 := hid k7; clear hb7 b7a k7))
              obtain ⟨V8, hV8⟩ : ∃ V8, V8 = w8.alloc (.cells #[.int .i64 ga, .int .i64 gb, .string gc, .int .u8 gd, .int .i64 ge] 39) := ⟨_, rfl⟩
              rw [← hV8]
              have b8 : Below w8.heap.size w8 V8 := by rw [hV8]; exact (Below.refl _ w8).alloc (Nat.le_refl _) _
              have bAll : Below w5.heap.size w5 V8 := (HB6.out.trans (K7.out.mono HB6.out.size)).trans ((B8.out.mono (by have := HB6.out.size; have := K7.out.size; omega)).trans (b8.mono (by have := HB6.out.size; have := K7.out.size; have := B8.out.size; omega)))
              have q2' : V8.cell? ⟨w7.heap.size, 2, none⟩ = some (.string fc) := (b8.cell (p := ⟨w7.heap.size, 2, none⟩) d8).trans q2
              have hi8 := HI5.out.below bAll
              have HI8 := hid hi8
              have BA := hid bAll
              clear hV8 b8 bAll q2 hi8
              go_loop [17, 18] (fun g i => ∃ j : Nat, j ≤ L ∧ g = .bool (hasB (ids.take j) (k2n : Int)) ∧ i = .int .i64 j) (fun _ i => L - (intOf i).toNat)
              case atStart => exact ⟨0, Nat.zero_le _, rfl, rfl⟩
              case round =>
                obtain ⟨j, hj, rfl, rfl⟩ := hrel
                by_cases hjl : j < L
                · obtain ⟨b, o, ea, h0⟩ := HI8.out j (by rw [HL5.out]; exact hjl)
                  cases ea
                  have Hg : Hid (ids[j]? = some (ids[j]'(by rw [HL5.out]; exact hjl))) := List.getElem?_eq_getElem _
                  generalize ids[j]'(by rw [HL5.out]; exact hjl) = zz at *
                  have Hn := hid (hasB_take (x := (k2n : Int)) Hg.out)
                  cases hgn : hasB (ids.take j) (k2n : Int)
                  · rw [hgn, Bool.false_or] at Hn
                    go_wp2
                    go_round
                    case rel => exact ⟨j + 1, by omega, by rw [Hn.out], by go_num⟩
                    case measure => simp [intOf]; omega
                  · rw [hgn, Bool.true_or] at Hn
                    go_wp2
                    go_round
                    case rel => exact ⟨j + 1, by omega, by rw [Hn.out], by go_num⟩
                    case measure => simp [intOf]; omega
                · have e : j = L := by omega
                  have hfull : hasB (ids.take j) (k2n : Int) = false := by rw [e, ← HL5.out, List.take_length]; exact HG3.out
                  rw [hfull]
                  clear hfull
                  subst e
                  go_wp2
                  go_roundw
                  case rel => exact ⟨k2n + 1, by omega, by omega, by go_num, BA.out⟩
                  case measure => simp [intOf]; omega
            | goes s h1 h2 h3 h4 =>
              rw [← HIds.out] at h3
              have HG3 := hid h3
              rw [h1] at HF1
              rw [h2] at HF2
              obtain ⟨fa, fb, fc, fd, fe⟩ := s
              obtain ⟨⟨ga, gb, gc, gd, ge⟩, hgg⟩ : ∃ g : Fam.Sess, g = Fam.sess0 := ⟨_, rfl⟩
              rw [← hgg] at HF2
              clear hgg
              unfold Fam.sessV at HF1 HF2
              dsimp only at HF1 HF2 h4
              clear h1 h2 h3
              go_wp2_with (first
                | (go_at_call 12; refine (HF2.out _ (HS5.out _ (HB6.out.trans (K7.out.mono HB6.out.size)))).mono ?_; rintro e w8 ⟨rfl, hb8⟩; have t8 := (hb8.block w7.heap.size (by simp)).trans (MapKept.heap_alloc w7 (.cells #[.int .i64 fa, .int .i64 fb, .string fc, .int .u8 fd, .int .i64 fe] 39)).1; have d8 : w7.heap.size < w8.heap.size := (Array.getElem?_eq_some_iff.1 t8).1; have q2 : w8.cell? ⟨w7.heap.size, 2, none⟩ = some (.string fc) := cell_of_row _ _ 2 _ _ _ t8; have B8 := hid hb8; clear hb8 t8)
                | (go_at_call 12; refine (HF1.out _ (HW5.out _ hb6)).mono ?_; rintro e w7 ⟨rfl, hb7⟩; have B7 := hid hb7; have HB6 := hid hb6; clear hb6; have n7 := hb7.size; have b7a : Below w7.heap.size w7 (w7.alloc (.cells #[.int .i64 fa, .int .i64 fb, .string fc, .int .u8 fd, .int .i64 fe] 39)) := (Below.refl _ w7).alloc (Nat.le_refl _) _; have k7 := (hb7.trans (b7a.mono hb7.size)); have K7 := hid k7; clear hb7 b7a k7))
              obtain ⟨V8, hV8⟩ : ∃ V8, V8 = w8.alloc (.cells #[.int .i64 ga, .int .i64 gb, .string gc, .int .u8 gd, .int .i64 ge] 39) := ⟨_, rfl⟩
              rw [← hV8]
              have b8 : Below w8.heap.size w8 V8 := by rw [hV8]; exact (Below.refl _ w8).alloc (Nat.le_refl _) _
              have bAll : Below w5.heap.size w5 V8 := (HB6.out.trans (K7.out.mono HB6.out.size)).trans ((B8.out.mono (by have := HB6.out.size; have := K7.out.size; omega)).trans (b8.mono (by have := HB6.out.size; have := K7.out.size; have := B8.out.size; omega)))
              have q2' : V8.cell? ⟨w7.heap.size, 2, none⟩ = some (.string fc) := (b8.cell (p := ⟨w7.heap.size, 2, none⟩) d8).trans q2
              have hi8 := HI5.out.below bAll
              have HI8 := hid hi8
              have BA := hid bAll
              clear hV8 b8 bAll q2 hi8
              go_loop [17, 18] (fun g i => ∃ j : Nat, j ≤ L ∧ g = .bool (hasB (ids.take j) (k2n : Int)) ∧ i = .int .i64 j) (fun _ i => L - (intOf i).toNat)
              case atStart => exact ⟨0, Nat.zero_le _, rfl, rfl⟩
              case round =>
                obtain ⟨j, hj, rfl, rfl⟩ := hrel
                by_cases hjl : j < L
                · obtain ⟨b, o, ea, h0⟩ := HI8.out j (by rw [HL5.out]; exact hjl)
                  cases ea
                  have Hg : Hid (ids[j]? = some (ids[j]'(by rw [HL5.out]; exact hjl))) := List.getElem?_eq_getElem _
                  generalize ids[j]'(by rw [HL5.out]; exact hjl) = zz at *
                  have Hn := hid (hasB_take (x := (k2n : Int)) Hg.out)
                  cases hgn : hasB (ids.take j) (k2n : Int)
                  · rw [hgn, Bool.false_or] at Hn
                    go_wp2
                    go_round
                    case rel => exact ⟨j + 1, by omega, by rw [Hn.out], by go_num⟩
                    case measure => simp [intOf]; omega
                  · rw [hgn, Bool.true_or] at Hn
                    go_wp2
                    go_round
                    case rel => exact ⟨j + 1, by omega, by rw [Hn.out], by go_num⟩
                    case measure => simp [intOf]; omega
                · have e : j = L := by omega
                  have hfull : hasB (ids.take j) (k2n : Int) = true := by rw [e, ← HL5.out, List.take_length]; exact HG3.out
                  rw [hfull]
                  clear hfull
                  subst e
                  go_wp2
                  go_roundw
                  case rel => exact ⟨k2n + 1, by omega, by omega, by go_num, BA.out⟩
                  case measure => simp [intOf]; omega
            | none z hz h1 h2 h3 =>
              rw [← HIds.out] at h3
              have HG3 := hid h3
              rw [h1] at HF1
              rw [h2] at HF2
              obtain ⟨⟨fa, fb, fc, fd, fe⟩, hff⟩ : ∃ g : Fam.Sess, g = Fam.sess0 := ⟨_, rfl⟩
              rw [← hff] at HF1
              obtain ⟨⟨ga, gb, gc, gd, ge⟩, hgg⟩ : ∃ g : Fam.Sess, g = Fam.sess0 := ⟨_, rfl⟩
              rw [← hgg] at HF2
              clear hgg hff
              have qz1 : (z == 0) = false := by simpa using hz
              have qz2 : (z != 0) = true := by simpa using hz
              clear hz
              unfold Fam.sessV at HF1 HF2
              dsimp only at HF1 HF2
              clear h1 h2 h3
              go_wp2_with (first
                | (go_at_call 12; refine (HF2.out _ (HS5.out _ (HB6.out.trans (K7.out.mono HB6.out.size)))).mono ?_; rintro e w8 ⟨rfl, hb8⟩; have t8 := (hb8.block w7.heap.size (by simp)).trans (MapKept.heap_alloc w7 (.cells #[.int .i64 fa, .int .i64 fb, .string fc, .int .u8 fd, .int .i64 fe] 39)).1; have d8 : w7.heap.size < w8.heap.size := (Array.getElem?_eq_some_iff.1 t8).1; have q2 : w8.cell? ⟨w7.heap.size, 2, none⟩ = some (.string fc) := cell_of_row _ _ 2 _ _ _ t8; have B8 := hid hb8; clear hb8 t8)
                | (go_at_call 12; refine (HF1.out _ (HW5.out _ hb6)).mono ?_; rintro e w7 ⟨rfl, hb7⟩; have B7 := hid hb7; have HB6 := hid hb6; clear hb6; have n7 := hb7.size; have b7a : Below w7.heap.size w7 (w7.alloc (.cells #[.int .i64 fa, .int .i64 fb, .string fc, .int .u8 fd, .int .i64 fe] 39)) := (Below.refl _ w7).alloc (Nat.le_refl _) _; have k7 := (hb7.trans (b7a.mono hb7.size)); have K7 := hid k7; clear hb7 b7a k7))
              obtain ⟨V8, hV8⟩ : ∃ V8, V8 = w8.alloc (.cells #[.int .i64 ga, .int .i64 gb, .string gc, .int .u8 gd, .int .i64 ge] 39) := ⟨_, rfl⟩
              rw [← hV8]
              have b8 : Below w8.heap.size w8 V8 := by rw [hV8]; exact (Below.refl _ w8).alloc (Nat.le_refl _) _
              have bAll : Below w5.heap.size w5 V8 := (HB6.out.trans (K7.out.mono HB6.out.size)).trans ((B8.out.mono (by have := HB6.out.size; have := K7.out.size; omega)).trans (b8.mono (by have := HB6.out.size; have := K7.out.size; have := B8.out.size; omega)))
              have q2' : V8.cell? ⟨w7.heap.size, 2, none⟩ = some (.string fc) := (b8.cell (p := ⟨w7.heap.size, 2, none⟩) d8).trans q2
              have hi8 := HI5.out.below bAll
              have HI8 := hid hi8
              have BA := hid bAll
              clear hV8 b8 bAll q2 hi8
              go_loop [17, 18] (fun g i => ∃ j : Nat, j ≤ L ∧ g = .bool (hasB (ids.take j) (k2n : Int)) ∧ i = .int .i64 j) (fun _ i => L - (intOf i).toNat)
              case atStart => exact ⟨0, Nat.zero_le _, rfl, rfl⟩
              case round =>
                obtain ⟨j, hj, rfl, rfl⟩ := hrel
                by_cases hjl : j < L
                · obtain ⟨b, o, ea, h0⟩ := HI8.out j (by rw [HL5.out]; exact hjl)
                  cases ea
                  have Hg : Hid (ids[j]? = some (ids[j]'(by rw [HL5.out]; exact hjl))) := List.getElem?_eq_getElem _
                  generalize ids[j]'(by rw [HL5.out]; exact hjl) = zz at *
                  have Hn := hid (hasB_take (x := (k2n : Int)) Hg.out)
                  cases hgn : hasB (ids.take j) (k2n : Int)
                  · rw [hgn, Bool.false_or] at Hn
                    go_wp2
                    go_round
                    case rel => exact ⟨j + 1, by omega, by rw [Hn.out], by go_num⟩
                    case measure => simp [intOf]; omega
                  · rw [hgn, Bool.true_or] at Hn
                    go_wp2
                    go_round
                    case rel => exact ⟨j + 1, by omega, by rw [Hn.out], by go_num⟩
                    case measure => simp [intOf]; omega
                · have e : j = L := by omega
                  have hfull : hasB (ids.take j) (k2n : Int) = false := by rw [e, ← HL5.out, List.take_length]; exact HG3.out
                  rw [hfull]
                  clear hfull
                  subst e
                  go_wp2
                  go_roundw
                  case rel => exact ⟨k2n + 1, by omega, by omega, by go_num, BA.out⟩
                  case measure => simp [intOf]; omega
          · have e20 : k2n = 20 := by omega
            subst e20
            have HB6 := hid hb6
            clear hb6
            go_wp2
            go_ret
            exact ⟨rfl, HB5.out.trans (HB6.out.mono HB5.out.size)⟩

end Go.Proofs.Ytnppnkdlmelpaaa
