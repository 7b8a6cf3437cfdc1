/- play of the laws of layer 1, by a contract: disk and reference stand as one log says. -/
import Derived.Test.YtgiifodhofdpaaaBPair
import Derived.Test.YtgiifodhofdpaaaBArgs
namespace Go.Proofs.Ytgiifodhofdpaaa
open Go.RowKit
set_option linter.unusedVariables false

/-- what play leaves: a disk and a reference's disk of one log -/
structure Played (w : World) (B d g cap : Nat) (v : Value) (r : Nat) (F L : Value) (vs us : List Value) (fs : List (List UInt8)) (ls : List (Nat × List UInt8)) : Prop where
  pair : Pair w B d g cap v (psOf fs ls) (chOf fs ls) r F L vs us fs ls
  ok : ∀ c ∈ ls, c.1 < fs.length ∧ c.2.length = 256

theorem undrewO {P : Nat → Prop} {w w' : World} (h : Out P w.drew w') : Out P w w' := ⟨h.os, h.tape, h.output, h.size, h.block⟩
theorem cellsOf_set (l : List UInt8) (k : Nat) (b : UInt8) : (cellsOf l).set k (.int .u8 (b.toNat : Int)) = cellsOf (l.set k b) := by
  unfold cellsOf; rw [List.map_set]

set_option maxHeartbeats 3200000 in
set_option maxRecDepth 20000 in
theorem play_ok (m : Nat) (h1 : 1 ≤ m) (h2 : m ≤ 1024) (w : World) (l : List (Int × Int × UInt8)) (a : Option Addr) (ca : Nat) (hl : DeedsIn w a l) :
    Calls Try.prog 12 #[.int .i64 (m : Int), .slice a l.length ca] w fun e w' => ∃ d g cap v r F L vs us ls, e = .returned (.tuple #[.pointer (some ⟨d, 0, none⟩), .pointer (some ⟨r, 0, none⟩), .bool true]) ∧
      Played w' w.heap.size d g cap v r F L vs us (List.replicate m zpage) ls ∧ ls.length ≤ 40 ∧ Below w.heap.size w w' := by
  have Hl := hid hl
  have hml := hl.length
  unfold maxLen at hml
  clear hl
  go_enter Try.func12, Try.ntmps12
  go_wp2_with (fail)
  refine (new_ok m w h1 h2).mono ?_
  rintro e w1 ⟨d, g, cap, rfl, hD, hB1⟩
  have HD := hid hD
  have HB1 := hid hB1
  clear hD hB1
  go_wp2_with (fail)
  refine (refNew_ok m w1 h1 h2).mono ?_
  rintro e w2 ⟨r, F, vs, rfl, hR, hB2⟩
  have hP : Pair w2 w.heap.size d g cap (.slice none 0 0) (List.replicate m zpage) [] r F (.slice none 0 0) vs [] (List.replicate m zpage) [] := by
    refine ⟨HD.out.below hB2, hR.mono HB1.out.size, fun k hk => ?_⟩
    have dl := HD.out.lts
    have hk' : w1.heap.size ≤ k := by
      rcases hk with rfl | hk
      · exact hR.br
      · exact (hR.lts.2 k hk).1
    exact ⟨by omega, by omega, fun e => by cases e⟩
  have HP := hid hP
  have HB2 := hid (HB1.out.trans (hB2.mono HB1.out.size))
  clear hP hR hB2 HD HB1
  obtain ⟨fs, hfs⟩ : ∃ fs, fs = List.replicate m zpage := ⟨_, rfl⟩
  rw [← hfs] at HP
  have Hfs := hid hfs
  clear hfs
  go_wp2
  go_loopw [11] (fun i wr => ∃ (j : Nat) (v L : Value) (us : List Value) (ls : List (Nat × List UInt8)), j ≤ 40 ∧ j ≤ l.length ∧ i = .int .i64 (j : Int) ∧ Played wr w.heap.size d g cap v r F L vs us fs ls ∧ ls.length ≤ j ∧ Below w.heap.size w wr) (fun i _ => 40 - (intOf i).toNat)
  case atStart => exact ⟨0, _, _, _, [], by omega, by omega, rfl, ⟨HP.out, fun c hc => by cases hc⟩, by simp, HB2.out⟩
  case round =>
    obtain ⟨j, v, L, us, ls, hj, hjl, rfl, hPl, hls, hB⟩ := hrel
    have HPl := hid hPl
    have HB := hid hB
    clear hPl hB HP HB2
    by_cases hlt : j < l.length
    · by_cases hlt2 : j < 40
      · obtain ⟨ba, oa, rfl, q0, q1, q2⟩ := (Hl.out.below HB.out).cells j hlt
        have hba : ba < w.heap.size := by
          obtain ⟨b', o', e', c', _⟩ := Hl.out.cells j hlt
          cases e'
          exact World.block_lt_of_cell? _ _ c'
        generalize l[j].1 = N at *
        generalize l[j].2.1 = Lg at *
        generalize l[j].2.2 = by8 at *
        have f0 : (0 : Int) ≤ (j : Int) := by omega
        have f1 : (j : Int) < (l.length : Int) := by omega
        have f2 : (j : Int) < 40 := by omega
        go_wp2_with (fail)
        refine (bytes_any N Lg by8 wr).mono ?_
        rintro e w3 ⟨vb, rfl, hvb, hb3⟩
        have hxl : (deedOf Lg by8).length ≤ 300 := by unfold deedOf; rw [List.length_replicate]; exact deedLen_le _
        generalize deedOf Lg by8 = x at *
        obtain ⟨ab, cb, rfl, hBy, hcb⟩ := bytes_of_own hvb
        have HV3 := hid hvb
        have HP3 := hid (HPl.out.pair.below hb3)
        have HB3 := hid (HB.out.trans (hb3.mono HB.out.size))
        have hs3 := hb3.size
        have Hlt := hid HPl.out.pair.lts
        have c0 := (hb3.cell (World.block_lt_of_cell? _ _ q0)).trans q0
        have Hw := hid (pair_dwrite (w := w3.drew) (HP3.out.keep (w' := w3.drew) fun _ _ => rfl) N x (own_keep (w' := w3.drew) HV3.out fun _ _ => rfl) (fun k hk => (Hlt.out k hk).2) (by rw [chOf_length]; omega) HB3.out.size)
        rw [psOf_length] at Hw
        obtain ⟨E, hE⟩ : ∃ E, E = (wErr fs.length N x.length : Int) := ⟨_, rfl⟩
        rw [← hE] at Hw
        have HE := hid hE
        clear hvb hb3 hBy q0 q1 q2 hE
        go_wp2
        go_region_held3 (fun w9 => w9.cell? ⟨ba, oa + j * 3, none⟩ = some (.int .i64 N)) (first | exact c0 | exact k.out | exact q.out)
          (first
            | ((go_at_call 34; refine Hw.out.mono ?_; rintro e w4 ⟨rfl, v4, hP4, hk4, ho4⟩; have HP4 := hid hP4; have Hk4 := hid hk4; have Ho4 := hid (undrewO ho4); have k := hid ((((undrewO ho4).below HB3.out.size (fun q hq => (Hlt.out q hq).1)).cell (show (⟨ba, oa + j * 3, none⟩ : Addr).block < w.heap.size from hba)).trans c0); have HV4 := hid (own_keep HV3.out fun q e => Ho4.out.block q (HV3.out.lt q e).2 (fun hp => by have h5 := (HV3.out.lt q e).1; have h6 := (Hlt.out q hp).2; omega)); clear hP4 hk4 ho4))
            | ((go_at_call 39; refine (pair_rwrite HP4.out N x HV4.out (by omega) (Nat.le_trans HB3.out.size Ho4.out.size)).mono ?_; rw [← HE.out]; rintro e w5 ⟨rfl, L5, us5, hP5, hk5, ho5⟩; have HP5 := hid hP5; have Hk5 := hid hk5; have Ho5 := hid ho5; have q := hid (((ho5.below (Nat.le_trans HB3.out.size Ho4.out.size) (fun q hq => (HP4.out.lts q hq).1)).cell (show (⟨ba, oa + j * 3, none⟩ : Addr).block < w.heap.size from hba)).trans k.out); clear hP5 hk5 ho5)))
        have hP6 := HP5.out
        rw [(psOf_step fs ls N x).1, (psOf_step fs ls N x).2] at hP6
        have HP6 := hid hP6
        have Hok := hid (rLs_ok fs ls N x HPl.out.ok)
        have hlen6 := rLs_len fs ls N x
        have HV5 := hid (own_keep HV4.out fun q e => Ho5.out.block q (HV4.out.lt q e).2 (fun hp => by
          rcases Hk4.out q hp with h | h
          · have h5 := (HV4.out.lt q e).1; have h6 := (Hlt.out q h).2; omega
          · have h5 := (HV3.out.lt q e).2; have h6 : w3.heap.size ≤ q := h; omega))
        have hs4 := Ho4.out.size
        have hnp : ∀ q, (Value.slice ab x.length cb).ownBlock = some q → ¬ pairBlock d g v4 r F L5 vs us5 q := fun q e hp => by
          have h5 := HV3.out.lt q e
          rcases Hk5.out q hp with h | h
          · rcases Hk4.out q h with h | h
            · have h6 := (Hlt.out q h).2; omega
            · have h6 : w3.heap.size ≤ q := h; omega
          · omega
        have Hnp := hid hnp
        have HB5 := hid ((HB3.out.trans (Ho4.out.below HB3.out.size (fun q hq => (Hlt.out q hq).1))).trans (Ho5.out.below (Nat.le_trans HB3.out.size Ho4.out.size) (fun q hq => (HP4.out.lts q hq).1)))
        have Hbb : Hid (∀ q, (Value.slice ab x.length cb).ownBlock = some q → w.heap.size ≤ q) := fun q e => Nat.le_trans HB.out.size (HV3.out.lt q e).1
        clear hP6 hnp c0 k q HP3 HP4 HP5 HV3 HV4 Hw Hk4 Hk5 Ho4 Ho5 HB3 hs3 hs4 hcb
        go_wp2
        go_loopw [13] (fun i wq => ∃ (k : Nat) (xs : List UInt8), k ≤ x.length ∧ i = .int .i64 (k : Int) ∧ xs.length = x.length ∧ wq.ownsRow wr.heap.size 5 1 (.slice ab x.length cb) x.length (cellsOf xs) ∧ Pair wq w.heap.size d g cap v4 (psOf fs (rLs fs ls N x)) (chOf fs (rLs fs ls N x)) r F L5 vs us5 fs (rLs fs ls N x) ∧ Below w.heap.size w wq) (fun i _ => x.length - (intOf i).toNat)
        case atStart => exact ⟨0, x, by omega, rfl, rfl, HV5.out, HP6.out, HB5.out⟩
        case round =>
          obtain ⟨k, xs, hk, rfl, hxs, hown, hP, hB⟩ := hrel
          have HP7 := hid hP
          have HB7 := hid hB
          have Hxs := hid hxs
          have Hown := hid hown
          clear hP hB hxs
          by_cases hkl : k < x.length
          · obtain ⟨gb, cb', hab, hgb, hgl⟩ := hown.form (by omega)
            cases hab
            have k1 := (hown.cellAt k (by omega)).trans (cellsOf_get xs k (by rw [Hxs.out]; exact hkl))
            have k2 := hown.frozenAt k
            have Hs := hid (hown.stored k (.int .u8 99))
            have hne := Hnp.out gb rfl
            have hge := Hbb.out gb rfl
            generalize (xs[k]'(by rw [Hxs.out]; exact hkl)).toNat = c7 at k1
            have g0 : (0 : Int) ≤ (k : Int) := by omega
            have g1 : (k : Int) < (x.length : Int) := by omega
            clear hown hlen6
            go_wp2
            go_roundw
            case rel =>
              refine ⟨k + 1, xs.set k 99, by omega, by go_num, by rw [List.length_set]; exact Hxs.out, ?_, ?_, ?_⟩
              · rw [← cellsOf_set]; exact Hs.out.1
              · exact HP7.out.keep fun q hq => heap_setCell_other _ _ _ _ (fun e => hne (by have e' : q = gb := e; rw [← e']; exact hq))
              · exact HB7.out.setCell hge _
            case measure => simp [intOf]; omega
          · clear hown
            have g1 : ¬ (k : Int) < (x.length : Int) := by omega
            go_wp2
            go_roundw
            case rel => exact ⟨j + 1, v4, L5, us5, rLs fs ls N x, by omega, by omega, by go_num, ⟨HP7.out, Hok.out⟩, by omega, HB7.out⟩
            case measure => simp [intOf]; omega
      · have hj40 : j = 40 := by omega
        subst hj40
        go_wp2
        go_ret3
        refine ⟨d, g, cap, v, r, F, L, vs, us, ls, rfl, ?_, hls, HB.out⟩
        rw [← Hfs.out]
        exact HPl.out
    · have f1 : ¬ (j : Int) < (l.length : Int) := by omega
      go_wp2
      go_ret3
      refine ⟨d, g, cap, v, r, rfl, F, L, vs, us, ls, ?_, by omega, HB.out⟩
      rw [← Hfs.out]
      exact HPl.out
end Go.Proofs.Ytgiifodhofdpaaa
