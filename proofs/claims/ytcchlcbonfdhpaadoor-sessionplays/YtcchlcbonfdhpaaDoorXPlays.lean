/- SessionPlays: deeds on both tables and their forks, and the rows at the end. (Printed by gen/xplays.py.) -/
import Derived.Test.YtcchlcbonfdhpaaDoorXDeeds
import Derived.Test.YtcchlcbonfdhpaaDoorXTabR
import Derived.Test.YtcchlcbonfdhpaaDoorXRise
namespace Go.Proofs.YtcchlcbonfdhpaaDoor
open Go.RowKit Go.Maps Go.Sort Go.Shelf
set_option linter.unusedVariables false
set_option maxRecDepth 20000

theorem own_below {w w' : World} {B : Nat} {e : TypeId} {size : Nat} {v : Value} {n : Nat} {xs : List Value} (h : w.ownsRow B e size v n xs) (hb : Below w.heap.size w w') : w'.ownsRow B e size v n xs := own_out2 h (Out.of_below (P := fun _ => False) hb) (fun _ e => e.elim)
theorem rowsM_len {T : Tab} (h : T.l.length ≤ 1000) : (rowsM T).length ≤ 1000000000 := by unfold rowsM; simp; omega
theorem rowsM_cols (T : Tab) : ∀ x ∈ rowsM T, x.cols.length ≤ 1000 := by
  intro x hx
  unfold rowsM at hx
  rcases List.mem_cons.1 hx with rfl | hx
  · simp
  · obtain ⟨s, _, rfl⟩ := List.mem_map.1 hx
    simp [sesRow]
/-- what a round of SessionPlays finds -/
def PRel (V : World) (p mb r p2 r2 k : Nat) (wr : World) : Prop := ∃ T U n, Both wr V.heap.size p mb r n T ∧ TabOk T ∧ n ≤ k ∧ T.l.length ≤ k ∧ Forked wr V.heap.size p mb r p2 r2 U ∧ Below V.heap.size V wr

set_option maxHeartbeats 6400000 in
theorem sessionPlays_walk {w : World} (l : List SDeed) (a : Option Addr) (cap : Nat) (hl : DIn w a l) (ht : NTab w) :
    Calls Tryd.prog 3 #[.slice a l.length cap] w fun e w' => e = .returned (.bool true) ∧ Below w.heap.size w w' := by
  have hll := hl.length
  unfold maxLen at hll
  have HL := hid lawLive_any
  have HN := hid new_any
  have HRN := hid rNew_any
  have Hl := hid hl
  have Ht := hid ht
  clear hl ht
  go_enter Tryd.func3, Tryd.ntmps3
  go_wp2_with (first
    | (go_at_call 4; refine (HN.out w).mono ?_; rintro e w1 ⟨p, mb, rfl, hT1, hbl1⟩)
    | (go_at_call 5; refine (HRN.out w1).mono ?_; rintro e w2 ⟨r, rfl, hR2, hbl2⟩)
    | (go_at_call 6; refine (HL.out w2).mono ?_; rintro e w3 ⟨rfl, hbl3⟩; have hT3 := (hT1.below hbl2).below hbl3; have hR3 := (hR2.below hbl3).mono hbl1.size)
    | (go_at_call 7; refine (fork_any hT3).mono ?_; rintro e w4 ⟨p2, mb2, rfl, hT4, hbl4⟩)
    | (go_at_call 8; refine (rFork_any (hR3.below hbl4) (Nat.le_trans hbl1.size (Nat.le_trans hbl2.size (Nat.le_trans hbl3.size hbl4.size)))).mono ?_; rintro e w5 ⟨r2, rfl, hr2, hR5, hbl5⟩))
  have hbV3 : Below w.heap.size w w3 := Below.on' (Below.on' hbl1 hbl2) hbl3
  have HR0 : Hid (PRel w p mb r p2 r2 0 w5) := ⟨tab0, tab0, 0, ⟨(hT3.below hbl4).below hbl5, none, 0, (hR3.below hbl4).below hbl5⟩, tab0_ok, Nat.le_refl _, Nat.le_refl _, forked_mk hT3 hR3 tab0_ok (Nat.zero_le _) hbV3.size hT4 hbl4 hr2 hR5 hbl5, Below.on' (Below.on' hbV3 hbl4) hbl5⟩
  clear hT1 hR2 hbl1 hbl2 hbl3 hT3 hR3 hT4 hbl4 hr2 hR5 hbl5 hbV3
  go_loopw [5, 6, 7] (fun g h i wr => ∃ k p2 r2 : Nat, k ≤ l.length ∧ k ≤ 80 ∧ g = .pointer (some ⟨p2, 0, none⟩) ∧ h = .pointer (some ⟨r2, 0, none⟩) ∧ i = .int .i64 k ∧ PRel w p mb r p2 r2 k wr) (fun _ _ i _ => 80 - (intOf i).toNat)
  case atStart => exact ⟨0, p2, r2, Nat.zero_le _, Nat.zero_le _, rfl, rfl, rfl, HR0.out⟩
  case round =>
    clear HR0
    obtain ⟨k, q2, s2, hk, hk80, rfl, rfl, rfl, T, U, n, hBo, ok, hn, hlen, hF, hb⟩ := hrel
    have HBo := hid hBo
    have Hok := hid ok
    have HF := hid hF
    have Hb := hid hb
    clear hBo ok hF hb
    by_cases hlt : k < l.length
    · have g1 : decide ((k : Int) < (l.length : Int)) = true := by simp; omega
      by_cases hlt2 : k < 80
      · have g2 : decide ((k : Int) < 80) = true := by simp; omega
        have Hc := hid ((Hl.out.below Hb.out).cells k hlt)
        have hxs := Hl.out.sizes _ (List.getElem_mem hlt)
        obtain ⟨x, hx⟩ : ∃ x, l[k] = x := ⟨_, rfl⟩
        rw [hx] at hxs Hc
        by_cases hmid : k = l.length / 2
        · have g3 : ((k : Int) == ((l.length : Int) / 2)) = true := by simp; omega
          clear hmid
          obtain ⟨a0, cap0, hR0⟩ := HBo.out.ref
          have HT0 := hid HBo.out.tab
          have HRf0 := hid hR0
          clear hR0
          have hBr := Hb.out.size
          go_wp2_with (first
            | (go_at_call 7; refine (fork_any HT0.out).mono ?_; rintro e w4 ⟨p3, mb3, rfl, hT4, hbl4⟩)
            | (go_at_call 8; refine (rFork_any (HRf0.out.below hbl4) (Nat.le_trans hBr hbl4.size)).mono ?_; rintro e w5 ⟨r3, rfl, hr3, hR5, hbl5⟩; have hFk := hid (forked_mk HT0.out HRf0.out Hok.out (by omega) hBr hT4 hbl4 hr3 hR5 hbl5); have Hb5 := hid (Below.on' (Below.on' Hb.out hbl4) hbl5); have HBo5 := hid (show Both w5 w.heap.size p mb r n T from ⟨(HT0.out.below hbl4).below hbl5, a0, cap0, (HRf0.out.below hbl4).below hbl5⟩); have hc5 := (Hl.out.below Hb5.out).cells k hlt; rw [hx] at hc5; obtain ⟨b, o, ea, d0, d1, d2, d3, d4⟩ := hc5; cases ea; have Hdo := hid (do_any HBo5.out Hok.out (by omega) (by omega) Hb5.out.size x hxs.1 hxs.2); clear hT4 hbl4 hr3 hR5 hbl5)
            | (go_at_call 9; refine Hdo.out.mono ?_; rintro e w6 ⟨rfl, hBo4, ho4⟩))
          have hlts := HBo5.out.lts
          go_roundw
          case rel => exact ⟨k + 1, p3, r3, by omega, by omega, rfl, rfl, by go_num, tDo T x, T, n + 1, hBo4, tDo_ok Hok.out x, by omega, Nat.le_trans (tDo_len T x) (by omega), hFk.out.out ho4, Hb5.out.trans (ho4.below Hb5.out.size (fun k hk => by rcases hk with e | e | e <;> omega))⟩
          case measure => simp [intOf]; omega
        · have g3 : ((k : Int) == ((l.length : Int) / 2)) = false := by simp; omega
          obtain ⟨b, o, ea, d0, d1, d2, d3, d4⟩ := Hc.out
          cases ea
          have Hdo := hid (do_any HBo.out Hok.out (by omega) (by omega) Hb.out.size x hxs.1 hxs.2)
          go_wp2_with (go_at_call 9; refine Hdo.out.mono ?_; rintro e w4 ⟨rfl, hBo4, ho4⟩)
          have hlts := HBo.out.lts
          go_roundw
          case rel => exact ⟨k + 1, q2, s2, by omega, by omega, rfl, rfl, by go_num, tDo T x, U, n + 1, hBo4, tDo_ok Hok.out x, by omega, Nat.le_trans (tDo_len T x) (by omega), HF.out.out ho4, Hb.out.trans (ho4.below Hb.out.size (fun k hk => by rcases hk with e | e | e <;> omega))⟩
          case measure => simp [intOf]; omega
      · have g2 : decide ((k : Int) < 80) = false := by simp; omega
        obtain ⟨aR, capR, hRr⟩ := HBo.out.ref
        obtain ⟨⟨mb2, n2, aF, capF, hTF, hRF, _⟩, okU, lenU⟩ := HF.out
        have HT := hid HBo.out.tab
        have HRf := hid hRr
        have HT2 := hid hTF
        have HRf2 := hid hRF
        have Hok2 := hid okU
        have HN9 := hid (Ht.out.below Hb.out)
        clear hRr hTF hRF okU HBo HF
        go_wp2_with (first
          | (go_at_call 11; refine (tRows_any HT.out Hok.out (by omega) HN9.out).mono ?_; rintro e w6 ⟨v6, rs6, rfl, ho6, hi6, hb6⟩; have Ho6 := hid ho6; have Hi6 := hid hi6; have Hb6 := hid hb6; clear ho6 hi6 hb6 HT)
          | (go_at_call 12; refine (rRows_all (HRf.out.below Hb6.out) Hok.out (by omega) (by omega)).mono ?_; rintro e w7 ⟨v7, rs7, rfl, ho7, hi7, hb7⟩; have Ho7 := hid ho7; have Hi7 := hid hi7; have Hb7 := hid hb7; clear ho7 hi7 hb7 HRf)
          | (go_at_call 10; refine (sameRows_any (own_below Ho6.out Hb7.out) Ho7.out (Hi6.out.below Hb7.out) Hi7.out (rowsM_len (by omega)) (rowsM_cols T)).mono ?_; rintro e w8 ⟨rfl, hb8⟩; have Hb8 := hid (Below.on' (Below.on' Hb6.out Hb7.out) hb8); clear hb8 Ho6 Ho7 Hi6 Hi7)
          | (go_at_call 11; refine (tRows_any (HT2.out.below Hb8.out) Hok2.out (by omega) (HN9.out.below Hb8.out)).mono ?_; rintro e wA ⟨vA, rsA, rfl, hoA, hiA, hbA⟩; have HoA := hid hoA; have HiA := hid hiA; have HbA := hid hbA; clear hoA hiA hbA)
          | (go_at_call 12; refine (rRows_all ((HRf2.out.below Hb8.out).below HbA.out) Hok2.out (by omega) (by omega)).mono ?_; rintro e wB ⟨vB, rsB, rfl, hoB, hiB, hbB⟩; have HoB := hid hoB; have HiB := hid hiB; have HbB := hid hbB; clear hoB hiB hbB)
          | (go_at_call 10; refine (sameRows_any (own_below HoA.out HbB.out) HoB.out (HiA.out.below HbB.out) HiB.out (rowsM_len (by omega)) (rowsM_cols U)).mono ?_; rintro e wC ⟨rfl, hbC⟩; have HbC := hid (Below.on' (Below.on' HbA.out HbB.out) hbC); clear hbC))
        go_ret
        exact ⟨rfl, Hb.out.trans ((Below.on' Hb8.out HbC.out).mono Hb.out.size)⟩
    · have g1 : decide ((k : Int) < (l.length : Int)) = false := by simp; omega
      obtain ⟨aR, capR, hRr⟩ := HBo.out.ref
      obtain ⟨⟨mb2, n2, aF, capF, hTF, hRF, _⟩, okU, lenU⟩ := HF.out
      have HT := hid HBo.out.tab
      have HRf := hid hRr
      have HT2 := hid hTF
      have HRf2 := hid hRF
      have Hok2 := hid okU
      have HN9 := hid (Ht.out.below Hb.out)
      clear hRr hTF hRF okU HBo HF
      go_wp2_with (first
        | (go_at_call 11; refine (tRows_any HT.out Hok.out (by omega) HN9.out).mono ?_; rintro e w6 ⟨v6, rs6, rfl, ho6, hi6, hb6⟩; have Ho6 := hid ho6; have Hi6 := hid hi6; have Hb6 := hid hb6; clear ho6 hi6 hb6 HT)
        | (go_at_call 12; refine (rRows_all (HRf.out.below Hb6.out) Hok.out (by omega) (by omega)).mono ?_; rintro e w7 ⟨v7, rs7, rfl, ho7, hi7, hb7⟩; have Ho7 := hid ho7; have Hi7 := hid hi7; have Hb7 := hid hb7; clear ho7 hi7 hb7 HRf)
        | (go_at_call 10; refine (sameRows_any (own_below Ho6.out Hb7.out) Ho7.out (Hi6.out.below Hb7.out) Hi7.out (rowsM_len (by omega)) (rowsM_cols T)).mono ?_; rintro e w8 ⟨rfl, hb8⟩; have Hb8 := hid (Below.on' (Below.on' Hb6.out Hb7.out) hb8); clear hb8 Ho6 Ho7 Hi6 Hi7)
        | (go_at_call 11; refine (tRows_any (HT2.out.below Hb8.out) Hok2.out (by omega) (HN9.out.below Hb8.out)).mono ?_; rintro e wA ⟨vA, rsA, rfl, hoA, hiA, hbA⟩; have HoA := hid hoA; have HiA := hid hiA; have HbA := hid hbA; clear hoA hiA hbA)
        | (go_at_call 12; refine (rRows_all ((HRf2.out.below Hb8.out).below HbA.out) Hok2.out (by omega) (by omega)).mono ?_; rintro e wB ⟨vB, rsB, rfl, hoB, hiB, hbB⟩; have HoB := hid hoB; have HiB := hid hiB; have HbB := hid hbB; clear hoB hiB hbB)
        | (go_at_call 10; refine (sameRows_any (own_below HoA.out HbB.out) HoB.out (HiA.out.below HbB.out) HiB.out (rowsM_len (by omega)) (rowsM_cols U)).mono ?_; rintro e wC ⟨rfl, hbC⟩; have HbC := hid (Below.on' (Below.on' HbA.out HbB.out) hbC); clear hbC))
      go_ret
      exact ⟨rfl, Hb.out.trans ((Below.on' Hb8.out HbC.out).mono Hb.out.size)⟩
end Go.Proofs.YtcchlcbonfdhpaaDoor
