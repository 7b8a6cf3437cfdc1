/- The walk of BlockReplays. -/
import Derived.Test.YtgiifodhofdpaaaBPlay
namespace Go.Proofs.Ytgiifodhofdpaaa
open Go.RowKit
set_option linter.unusedVariables false

theorem lcells_get (ls : List (Nat × List UInt8)) (us : List Value) (h : us.length = ls.length) (i : Nat) (hi : i < ls.length) (hi' : i < us.length) : (lcells ls us)[i * 2]? = some (.int .i64 (ls[i].1 : Int)) ∧ (lcells ls us)[i * 2 + 1]? = some us[i] := by
  induction ls generalizing us i with
  | nil => simp at hi
  | cons c ls ih =>
    cases us with
    | nil => simp at hi'
    | cons u us =>
      cases i with
      | zero => exact ⟨rfl, rfl⟩
      | succ i =>
        have := ih us (by simpa using h) i (by simpa using hi) (by simpa using hi')
        rw [show (i + 1) * 2 = i * 2 + 2 by omega, show i * 2 + 2 + 1 = i * 2 + 1 + 2 by omega]
        simp only [lcells, List.getElem?_cons_succ]
        exact this
theorem psOf_take (fs : List (List UInt8)) (ls : List (Nat × List UInt8)) (i : Nat) (hi : i < ls.length) : psOf fs (ls.take (i + 1)) = (psOf fs (ls.take i)).set ls[i].1 ls[i].2 := by
  rw [List.take_succ_eq_append_getElem hi, psOf_snoc]
theorem Played.below {w w' : World} {B d g cap : Nat} {v : Value} {r : Nat} {F L : Value} {vs us : List Value} {fs : List (List UInt8)} {ls : List (Nat × List UInt8)} (h : Played w B d g cap v r F L vs us fs ls) (hb : Below w.heap.size w w') : Played w' B d g cap v r F L vs us fs ls := ⟨h.pair.below hb, h.ok⟩

set_option maxHeartbeats 3200000 in
set_option maxRecDepth 20000 in
theorem blockReplays_walk (l : List (Int × Int × UInt8)) (a : Option Addr) (ca : Nat) {w : World} (hl : DeedsIn w a l) (k : Int) (hk : (Lit.int .u8 k).wf = true) :
    Calls Try.prog 9 #[.slice a l.length ca, .int .u8 k] w fun e w' => e = .returned (.bool true) ∧ Below w.heap.size w w' := by
  have Hl := hid hl
  clear hl
  obtain ⟨kb, rfl⟩ := byte_of hk
  have hkr : (kb.toNat : Int) ≤ 255 := by have := kb.toNat_lt; omega
  clear hk
  generalize kb.toNat = k at *
  go_enter Try.func9, Try.ntmps9
  go_wp2_with (fail)
  refine (play_ok 5 (by omega) (by omega) w l a ca Hl.out).mono ?_
  rintro e w1 ⟨d, g, cap, v, r, F, L, vs, us, ls, rfl, hP, hls, hB1⟩
  have HP := hid hP
  have HB1 := hid hB1
  clear hP hB1
  go_wp2_with (fail)
  refine (live_any w1).mono ?_
  rintro e w2 ⟨rfl, hB2⟩
  have HP2 := hid (HP.out.below hB2)
  have HB2 := hid (HB1.out.trans (hB2.mono HB1.out.size))
  clear hB2 HP HB1
  have hfl : (List.replicate 5 zpage).length = 5 := List.length_replicate
  have hff : ∀ p ∈ List.replicate 5 zpage, p.length = 256 := fun p hp => by rw [(List.mem_replicate.1 hp).2]; exact zpage_length
  have Hff := hid hff
  clear hff
  generalize List.replicate 5 zpage = fs at *
  have Hfl := hid hfl
  have Hct := hid (count_any HP2.out.pair.disk)
  rw [chOf_length] at Hct
  clear hfl
  go_wp2_with (fail)
  refine Hct.out.mono ?_
  rintro e w' ⟨rfl, rfl⟩
  have t0 : IntKind.i64.wrap ((ls.length : Int) + 1) = (ls.length : Int) + 1 := by rw [IntKind.wrap_i64]; omega
  go_wp2_with (fail)
  obtain ⟨n, hn, hnl⟩ : ∃ n : Nat, (k : Int) % ((ls.length : Int) + 1) = (n : Int) ∧ n ≤ ls.length := by
    refine ⟨k % (ls.length + 1), by rw [Int.natCast_emod]; rfl, ?_⟩
    have := Nat.mod_lt k (show 0 < ls.length + 1 by omega)
    omega
  rw [hn]
  clear hn t0
  have hcl := chOf_length fs ls
  have hpl := psOf_length fs ls
  refine (cut_ok HP2.out.pair.disk n (by omega) (by omega) (by have := Hfl.out; omega) (by have := Hfl.out; omega)).mono ?_
  rintro e w3 ⟨dc, gc, cc, rfl, hC, hB3⟩
  rw [undo_psOf fs ls (fun c hc => (HP2.out.ok c hc).1) n hnl] at hC
  have HC := hid hC
  have HB3 := hid hB3
  have HP3 := hid (HP2.out.below hB3)
  clear hC hB3 hcl hpl
  have hr1 := cell_of_row _ _ 1 _ _ _ HP2.out.pair.ref.obj
  simp only [List.getElem?_toArray, List.getElem?_cons_zero, List.getElem?_cons_succ] at hr1
  obtain ⟨la, lc, rfl⟩ : ∃ la lc, L = .slice la ls.length lc := by
    rcases HP2.out.pair.ref.log.2 with ⟨hv, h0⟩ | ⟨g', cap', cur', hv, _⟩
    · exact ⟨none, 0, by rw [hv, h0]⟩
    · exact ⟨_, _, hv⟩
  have Hr1 := hid hr1
  clear hr1
  obtain ⟨H2, hH2⟩ : ∃ H2, H2 = w'.heap.size := ⟨_, rfl⟩
  rw [← hH2] at HC HB3
  have HH2 := hid hH2
  clear hH2
  go_wp2
  go_loopw [11] (fun i wr => ∃ (j : Nat) (vc : Value) (chc : List (Nat × List UInt8)), n ≤ j ∧ j ≤ ls.length ∧ i = .int .i64 (j : Int) ∧ DiskAt wr H2 dc gc cc vc (psOf fs (ls.take j)) chc ∧ chc.length = j - n ∧ Below H2 w' wr) (fun i _ => ls.length - (intOf i).toNat)
  case atStart => exact ⟨n, _, [], by omega, hnl, rfl, HC.out, by simp, HB3.out⟩
  case round =>
    obtain ⟨j, vc, chc, hnj, hjl, rfl, hD, hcc, hB⟩ := hrel
    have HD := hid hD
    have HB := hid hB
    clear hD hB HC HB3 HP3
    have c1 : wr.cell? ⟨r, 1, none⟩ = some (.slice la ls.length lc) := (HB.out.cell (show (⟨r, 1, none⟩ : Addr).block < H2 by rw [HH2.out]; exact HP2.out.pair.ref.lts.1)).trans Hr1.out
    by_cases hlt : j < ls.length
    · have hR := HP2.out.pair.ref.below (w' := wr) (by rw [← HH2.out]; exact HB.out)
      have hul : j < us.length := by rw [hR.ulen]; exact hlt
      obtain ⟨gl, lc', hla, hglb, hgll⟩ := hR.log.form (by omega)
      cases hla
      have hg2 := lcells_get ls us hR.ulen j hlt hul
      have c2 : wr.cell? ⟨gl, j * 2, none⟩ = some (.int .i64 (ls[j].1 : Int)) := (hR.log.cellAt (j * 2) (by omega)).trans hg2.1
      have hrow := hR.lrows j hlt hul
      have hok := HP2.out.ok _ (List.getElem_mem hlt)
      obtain ⟨bu, cu, hue, hbu, hbub, hbul⟩ := own_form hrow (by omega)
      have c3 : wr.cell? ⟨gl, j * 2 + 1, none⟩ = some (.slice (some ⟨bu, 0, none⟩) 256 cu) := by
        rw [(hR.log.cellAt (j * 2 + 1) (by omega)).trans hg2.2, hue, hok.2]
      have hbu2 : bu < H2 := by
        rw [HH2.out]
        exact (HP2.out.pair.lts bu (.inr (.inr (.inr (.inr (.inr ⟨_, List.getElem_mem hul, by rw [hue]; rfl⟩)))))).2
      have hdl := HD.out.bd
      have hgl2 := (HD.out.pages.lt gc rfl).1
      have hpl := psOf_length fs (ls.take j)
      have Hw : Hid (Calls Try.prog 34 #[.pointer (some ⟨dc, 0, none⟩), .int .i64 (ls[j].1 : Int), .slice (some ⟨bu, 0, none⟩) 256 cu] wr.drew fun e w' => e = .returned (.int .i64 0) ∧ ∃ v' q, DiskAt w' H2 dc gc cc v' ((psOf fs (ls.take j)).set ls[j].1 ls[j].2) (chc ++ [q]) ∧ Only dc gc vc.ownBlock wr.drew w') :=
        (write_ok (w := wr.drew) (HD.out.keep (w' := wr.drew) rfl rfl fun _ _ => rfl) ls[j].1 (by rw [hpl]; exact hok.1) ls[j].2 hok.2 bu 0 cu hbu ⟨by omega, by omega, fun e => by have := (HD.out.chs.lt bu e.symm).1; omega⟩ (by omega) (show H2 ≤ wr.heap.size by have := HB.out.size; rw [← HH2.out] at this; exact this)).mono fun e w' ⟨h1, v', h2, h3, h4⟩ => ⟨h1, v', _, h2, h4⟩
      have Htk := hid (psOf_take fs ls j hlt)
      have f0 : (0 : Int) ≤ (j : Int) := by omega
      have f1 : (j : Int) < (ls.length : Int) := by omega
      have Hcc := hid hcc
      have Hrb := hid (show r < H2 by rw [HH2.out]; exact HP2.out.pair.ref.lts.1)
      have Hglb := hid (show gl < H2 by rw [HH2.out]; exact (HP2.out.pair.ref.log.lt gl rfl).2)
      generalize ls[j].1 = N at *
      generalize ls[j].2 = x at *
      clear hR hg2 hrow hok hue hbu hbub hbul hbu2 hdl hgl2 hpl hcc hglb hgll
      go_wp2
      go_region_held3 (fun w9 => w9.cell? ⟨r, 1, none⟩ = some (.slice (some ⟨gl, 0, none⟩) ls.length lc) ∧ w9.cell? ⟨gl, j * 2, none⟩ = some (.int .i64 (N : Int)) ∧ w9.cell? ⟨gl, j * 2 + 1, none⟩ = some (.slice (some ⟨bu, 0, none⟩) 256 cu)) (first | exact ⟨c1, c2, c3⟩ | exact q.out)
        (first | ((go_at_call 34; refine Hw.out.mono ?_; rintro e w4 ⟨rfl, v4, cq, hD4, ho4⟩; have hb4 := undrew (ho4.below (HD.out.keep (w' := wr.drew) rfl rfl fun _ _ => rfl) H2 (Nat.le_refl _) (show H2 ≤ wr.heap.size by have := HB.out.size; rw [← HH2.out] at this; exact this)); have q := hid (And.intro ((hb4.cell (show (⟨r, 1, none⟩ : Addr).block < H2 from Hrb.out)).trans c1) (And.intro ((hb4.cell (show (⟨gl, j * 2, none⟩ : Addr).block < H2 from Hglb.out)).trans c2) ((hb4.cell (show (⟨gl, j * 2 + 1, none⟩ : Addr).block < H2 from Hglb.out)).trans c3))); have HD4 := hid hD4; have HB4 := hid hb4; clear hD4 ho4 hb4)))
      clear c1 c2 c3 q Hw
      go_wp2
      go_roundw
      case rel => exact ⟨j + 1, v4, _, by omega, by omega, by go_num, by rw [Htk.out]; exact HD4.out, by rw [List.length_append, Hcc.out, List.length_singleton]; omega, HB.out.trans HB4.out⟩
      case measure => simp [intOf]; omega
    · have hj : j = ls.length := by omega
      subst hj
      have hD := HD.out
      rw [List.take_length] at hD
      have hPr := HP2.out.below (w' := wr) (by rw [← HH2.out]; exact HB.out)
      have Hs := hid (same_any hD hPr.pair.disk rfl)
      simp only [decide_true] at Hs
      have HD5 := hid hD
      have HPr := hid hPr
      have Hcc := hid hcc
      have HB9 := hid (HB2.out.trans (HB.out.mono (by rw [HH2.out]; exact HB2.out.size)))
      have f1 : ¬ (ls.length : Int) < (ls.length : Int) := by omega
      clear hD hPr HD HB hcc
      go_wp2_with (fail)
      refine Hs.out.mono ?_
      rintro e w5 ⟨rfl, hB5⟩
      have Hc1 := hid (count_any (HD5.out.below hB5))
      have Hc2 := hid (count_any (HPr.out.below hB5).pair.disk)
      rw [chOf_length] at Hc2
      rw [Hcc.out, show ((ls.length - n : Nat) : Int) = (ls.length : Int) - (n : Int) by omega] at Hc1
      have HB6 := hid (HB9.out.trans (hB5.mono HB9.out.size))
      clear hB5
      go_wp2_with (fail)
      refine Hc1.out.mono ?_
      rintro e w6 ⟨rfl, rfl⟩
      go_wp2_with (fail)
      refine Hc2.out.mono ?_
      rintro e w6 ⟨rfl, rfl⟩
      have t1 : IntKind.i64.wrap ((ls.length : Int) - (n : Int)) = (ls.length : Int) - (n : Int) := by rw [IntKind.wrap_i64]; omega
      go_wp2
      go_ret
      exact ⟨ret_bool (by simp), HB6.out⟩
end Go.Proofs.Ytgiifodhofdpaaa
