/- YthfmpebgmojcaaaDoorALd8 + YthfmpebgmojcaaaDoorQLd5 + YthfmpebgmojcaaaDoorQLd6 + YthfmpebgmojcaaaDoorTC1 -/
import Derived.Test.YthfmpebgmojcaaaDoorTkG
import Derived.Test.YthfmpebgmojcaaaDoorQLd1
import Derived.Test.YthfmpebgmojcaaaDoorQLd3
import Derived.Test.YthfmpebgmojcaaaDoorQLd4
import Derived.Test.YthfmpebgmojcaaaDoorTC2
/- Load of a chain's own rows, by a contract. -/
namespace Go.Proofs.YthfmpebgmojcaaaDoor
open Go.RowKit
set_option linter.unusedVariables false
set_option maxRecDepth 20000
def LoadPost (w : World) (c : Ch) (e : Ending) (w' : World) : Prop := ∃ g v, e = .returned (.tuple #[.pointer (some ⟨g, 0, none⟩), .int .i64 0]) ∧ ChAt w' w.heap.size g v c ∧ Below w.heap.size w w'
set_option maxHeartbeats 4000000 in
theorem load_ok {w : World} (b cap : Nat) (c : Ch) (hR : TxRows w b (rowsOf c)) (hd : Ldable c) (hcap : 4 + c.ev.length ≤ cap) (hT : Tabs w w.heap.size) :
    Calls Tryd.prog 6 #[.slice (some ⟨b, 0, none⟩) (4 + c.ev.length) cap] w (LoadPost w c) := by
  obtain ⟨B, hB⟩ : ∃ B, B = w.heap.size := ⟨_, rfl⟩
  have HB := hid hB
  have hlen := rowsOf_len c
  obtain ⟨a0, p0, u0, v0, s0⟩ := hR 0 (by omega)
  obtain ⟨a1, p1, u1, v1, s1⟩ := hR 1 (by omega)
  obtain ⟨a2, p2, u2, v2, s2⟩ := hR 2 (by omega)
  obtain ⟨a3, p3, u3, v3, s3⟩ := hR 3 (by omega)
  have x0 : w.cell? ⟨b, 0, none⟩ = some (.string ⟨#[35]⟩) := u0
  have y0 : w.cell? ⟨b, 1, none⟩ = some (.slice a0 3 p0) := v0
  have t0 : Texts w a0 ([c.bn, c.an, c.la].map txt) := s0
  have x1 : w.cell? ⟨b, 2, none⟩ = some (.string ⟨#[97]⟩) := u1
  have y1 : w.cell? ⟨b, 3, none⟩ = some (.slice a1 1 p1) := v1
  have t1 : Texts w a1 [mkB c.ah] := s1
  have x2 : w.cell? ⟨b, 4, none⟩ = some (.string ⟨#[98]⟩) := u2
  have y2 : w.cell? ⟨b, 5, none⟩ = some (.slice a2 1 p2) := v2
  have t2 : Texts w a2 [mkB c.bh] := s2
  have x3 : w.cell? ⟨b, 6, none⟩ = some (.string ⟨#[104]⟩) := u3
  have y3 : w.cell? ⟨b, 7, none⟩ = some (.slice a3 1 p3) := v3
  have t3 : Texts w a3 [mkB c.hd] := s3
  have hr6 : w.rangeAt b 2 [.string ⟨#[97]⟩, .slice a1 1 p1, .string ⟨#[98]⟩, .slice a2 1 p2, .string ⟨#[104]⟩, .slice a3 1 p3] := by
    intro j u hj
    match j, hj with
    | 0, hj => cases hj; exact x1
    | 1, hj => cases hj; exact y1
    | 2, hj => cases hj; exact x2
    | 3, hj => cases hj; exact y2
    | 4, hj => cases hj; exact x3
    | 5, hj => cases hj; exact y3
  have hbw : b < w.heap.size := World.block_lt_of_cell? _ _ x0
  obtain ⟨N, hN⟩ : ∃ N, N = c.ev.length := ⟨_, rfl⟩
  have HN := hid hN
  have hN64 : N ≤ 64 := by have := hd.few; omega
  rw [← hN] at hcap ⊢
  have HR := hid hR
  have HD := hid hd
  have HT := hid hT
  have T0 := hid t0
  have T1 := hid t1
  have T2 := hid t2
  have T3 := hid t3
  have Hr6 := hid hr6
  have X0 := hid x0
  have Y0 := hid y0
  clear hR hd hT t0 t1 t2 t3 hr6 u0 v0 s0 u1 v1 s1 u2 v2 s2 u3 v3 s3 x0 y0 x1 y1 x2 y2 x3 y3 hlen hN hB
  obtain ⟨M, hM⟩ : ∃ M, M = 4 + N := ⟨_, rfl⟩
  rw [← hM] at hcap ⊢
  have HM := hid hM
  have n1 : ¬ (M : Int) < 4 := by omega
  have n2 : ¬ (68 : Int) < (M : Int) := by omega
  have m1 : decide ((M : Int) < 4) = false := decide_eq_false n1
  have m2 : decide ((68 : Int) < (M : Int)) = false := decide_eq_false n2
  have k4 : (4 : Int) ≤ (M : Int) := by omega
  have kcap : ¬ cap = 1 := by omega
  have kcap4 : 4 ≤ cap := by omega
  have k0 : (0 : Int) < (M : Int) := by omega
  clear hM
  go_enter Tryd.func6, Tryd.ntmps6
  go_wp2_with fail
  refine (new_any w).mono ?_
  rintro _ w1 ⟨g, rfl, h1, b1⟩
  have H1 := hid h1
  have B1 := hid b1
  have hgw : w.heap.size ≤ g := h1.bg
  have q0 : w1.cell? ⟨b, 0, none⟩ = some (.string ⟨#[35]⟩) := (b1.cell (p := ⟨b, 0, none⟩) hbw).trans X0.out
  have q1 : w1.cell? ⟨b, 1, none⟩ = some (.slice a0 3 p0) := (b1.cell (p := ⟨b, 1, none⟩) hbw).trans Y0.out
  have C1 := hid (takeNumbers_ok H1.out ⟨by decide, by decide, by decide⟩ a0 p0 c.bn c.an c.la (T0.out.below b1) HD.out.bn HD.out.an HD.out.la)
  clear h1 b1
  go_wp2_with (go_at_call 31; refine C1.out.mono ?_; rintro _ w2 ⟨rfl, h2, o2⟩; have H2 := hid h2; have O2 := hid o2; clear h2 o2)
  have bw2 : Below w.heap.size w w2 := B1.out.trans (O2.out.below B1.out.size (fun k hk => by rw [hk]; exact hgw))
  refine (takeHashes_ok H2.out ⟨ch0_ok.lb, ch0_ok.lan, ch0_ok.lh⟩ b 2 (cap - 1) (Nat.lt_of_lt_of_le hbw bw2.size) a1 a2 a3 p1 p2 p3 c.ah c.bh c.hd HD.out.l.lan HD.out.l.lb HD.out.l.lh (fun j u hj => (bw2.cell (p := ⟨b, 2 + j, none⟩) hbw).trans (Hr6.out j u hj)) (T1.out.below bw2) (T2.out.below bw2) (T3.out.below bw2)).mono ?_
  rintro _ w3 ⟨rfl, h3, o3⟩
  have bw3 : Below w.heap.size w w3 := bw2.trans (o3.below bw2.size (fun k hk => by rw [hk]; exact hgw))
  have h3' : ChAt w3 w.heap.size g (.slice none 0 0) (cutE c 0) := h3
  have H3 := hid h3'
  have B3 := hid bw3
  clear h3 h3' o3 bw3 bw2 H2 O2 H1 B1 C1 q0 q1
  have k5 : M - 4 = N := by have := HM.out; omega
  by_cases hc4 : cap = 4
  · go_wp2_with fail
    clear n1 n2 m1 m2 k4 kcap kcap4 k0 k5
    go_loopw [34] (fun i wr => ∃ k : Nat, k ≤ N ∧ i = .int .i64 (k : Int) ∧ ∃ v, ChAt wr w.heap.size g v (cutE c k) ∧ Below w.heap.size w wr) (fun i _ => N - (intOf i).toNat)
    case atStart => exact ⟨0, Nat.zero_le _, rfl, _, H3.out, B3.out⟩
    case round =>
      clear H3 B3
      obtain ⟨k, hk, rfl, v, hch, hbel⟩ := hrel
      have Hch := hid hch
      have Hbel := hid hbel
      clear hch hbel
      by_cases hlt : k < N
      · exfalso
        have := HM.out
        omega
      · have g1 : ¬ (k : Int) < (N : Int) := by omega
        have hall : ChAt wr w.heap.size g v c := by
          have h := Hch.out
          rw [show k = c.ev.length by have := HN.out; omega, cutE_all] at h
          exact h
        have Hall := hid hall
        clear hall Hch hlt
        go_wp2_with fail
        obtain ⟨V0, hV0⟩ : ∃ V0, V0 = wr.drew := ⟨_, rfl⟩
        have b0 : Below wr.heap.size wr V0 := by rw [hV0]; exact (Below.refl _ wr).drew
        refine wp_act _ fun A hA => ?_
        have sz : A.tmps.size = 52 := by rw [hA]; rfl
        have e4 : A.eval (.tmp 4) = .pointer (some ⟨g, 0, none⟩) := by rw [hA]; rfl
        refine wp_split _ (load_region10 sz e4 hV0 (Hall.out.below b0) HD.out.l (by have h1 := HD.out.bn; have h2 := HD.out.few; unfold Ch.cnt; omega) HD.out.anc) ?_
        rintro _ V1 ⟨rfl, h1, b1⟩
        rw [hA]
        simp only [Act.put, List.setIfInBounds_toArray, List.set_cons_succ, List.set_cons_zero]
        have F1 := hid h1
        have F2 := hid (Below.on' (Below.on' Hbel.out b0) b1)
        clear sz e4 hA A h1 b1 b0 hV0
        go_wp2_with fail
        go_ret2
        exact ⟨_, _, rfl, F1.out, F2.out⟩
  · go_wp2_with fail
    clear n1 n2 m1 m2 k4 kcap kcap4 k0 k5
    go_loopw [34] (fun i wr => ∃ k : Nat, k ≤ N ∧ i = .int .i64 (k : Int) ∧ ∃ v, ChAt wr w.heap.size g v (cutE c k) ∧ Below w.heap.size w wr) (fun i _ => N - (intOf i).toNat)
    case atStart => exact ⟨0, Nat.zero_le _, rfl, _, H3.out, B3.out⟩
    case round =>
      clear H3 B3
      obtain ⟨k, hk, rfl, v, hch, hbel⟩ := hrel
      have Hch := hid hch
      have Hbel := hid hbel
      clear hch hbel
      by_cases hlt : k < N
      · have g1 : (k : Int) < (N : Int) := by omega
        have hkl : k < c.ev.length := by have := HN.out; omega
        obtain ⟨a, cp, u1, u2, u3⟩ := HR.out (4 + k) (by rw [rowsOf_len]; omega)
        rw [rowsOf_ev c k hkl] at u1 u2 u3
        have hbb : ∀ bb oo, a = some ⟨bb, oo, none⟩ → bb < w.heap.size := fun bb oo hh => by
          obtain ⟨b9, o9, e9, c9⟩ := u3 0 (by simp [evText])
          rw [hh] at e9
          cases e9
          exact World.block_lt_of_cell? _ _ c9
        have d0 : wr.cell? ⟨b, 8 + k * 2, none⟩ = some (.string (evKey (c.ev[k]).num)) := by rw [show 8 + k * 2 = (4 + k) * 2 by omega]; exact (Hbel.out.cell (p := ⟨b, (4 + k) * 2, none⟩) hbw).trans u1
        have d1 : wr.cell? ⟨b, 8 + k * 2 + 1, none⟩ = some (.slice a 3 cp) := by rw [show 8 + k * 2 + 1 = (4 + k) * 2 + 1 by omega]; exact (Hbel.out.cell (p := ⟨b, (4 + k) * 2 + 1, none⟩) hbw).trans u2
        have hst := cutE_step c k hkl
        have t9 : Texts w a [txt (c.ev[k]).tim, (c.ev[k]).what, (c.ev[k]).who] := u3
        have n9 : (c.ev[k]).num = (cutE c k).cnt + 1 := by rw [cutE_cnt c k (by omega), HD.out.num k hkl]
        have s9 := HD.out.siz _ (List.getElem_mem hkl)
        have l9 := HD.out.last k hkl
        have m9 := HD.out.tim _ (List.getElem_mem hkl)
        have cn9 : (cutE c k).cnt < 1000000000000000000 := by rw [cutE_cnt c k (by omega)]; have := HD.out.bn; omega
        generalize (c.ev[k]'hkl) = e at *
        obtain ⟨W6, hW6⟩ : ∃ W6, W6 = wr.alloc (.cells #[.string (evKey e.num), .slice a 3 cp] 75) := ⟨_, rfl⟩
        have b6 : Below wr.heap.size wr W6 := by rw [hW6]; exact (Below.refl _ wr).alloc (Nat.le_refl _) _
        have bw6 : Below w.heap.size w W6 := Below.on' Hbel.out b6
        have C9 := hid (takeEvent_ok (Hch.out.below b6) (cutE_lens HD.out.l k) cn9 bw6.size (HT.out.below (Nat.le_refl _) bw6) e a cp (t9.below bw6) (fun bb oo hh hx => by
          have h1 := hbb bb oo hh
          have h2 := Hch.out.blk _ hx
          omega) n9 s9.1 s9.2 l9 m9 HD.out.la (by simp [cutE]; have := HD.out.few; omega))
        have HW6 := hid hW6
        have BW6 := hid bw6
        have Hst := hid hst
        have Hblk := hid Hch.out.blk
        clear u1 u2 u3 t9 n9 s9 l9 m9 cn9 hst hW6 bw6 b6 hbb hkl
        go_wp2_with (go_at_call 33; rw [show wr.alloc (.cells #[.string (evKey e.num), .slice a 3 cp] 75) = W6 from HW6.out.symm]; refine C9.out.mono ?_; rintro _ w7 ⟨v7, rfl, h7, o7, gr7⟩; have H7 := hid h7; have O7 := hid o7; clear h7 o7)
        go_roundw
        case rel => exact ⟨k + 1, by omega, by go_num, v7, Hst.out ▸ H7.out, BW6.out.trans (O7.out.below BW6.out.size Hblk.out)⟩
        case measure => simp [intOf]; omega
      · have g1 : ¬ (k : Int) < (N : Int) := by omega
        have hall : ChAt wr w.heap.size g v c := by
          have h := Hch.out
          rw [show k = c.ev.length by have := HN.out; omega, cutE_all] at h
          exact h
        have Hall := hid hall
        clear hall Hch hlt
        go_wp2_with fail
        obtain ⟨V0, hV0⟩ : ∃ V0, V0 = wr.drew := ⟨_, rfl⟩
        have b0 : Below wr.heap.size wr V0 := by rw [hV0]; exact (Below.refl _ wr).drew
        refine wp_act _ fun A hA => ?_
        have sz : A.tmps.size = 52 := by rw [hA]; rfl
        have e4 : A.eval (.tmp 4) = .pointer (some ⟨g, 0, none⟩) := by rw [hA]; rfl
        refine wp_split _ (load_region10 sz e4 hV0 (Hall.out.below b0) HD.out.l (by have h1 := HD.out.bn; have h2 := HD.out.few; unfold Ch.cnt; omega) HD.out.anc) ?_
        rintro _ V1 ⟨rfl, h1, b1⟩
        rw [hA]
        simp only [Act.put, List.setIfInBounds_toArray, List.set_cons_succ, List.set_cons_zero]
        have F1 := hid h1
        have F2 := hid (Below.on' (Below.on' Hbel.out b0) b1)
        clear sz e4 hA A h1 b1 b0 hV0
        go_wp2_with fail
        go_ret2
        exact ⟨_, _, rfl, F1.out, F2.out⟩
end Go.Proofs.YthfmpebgmojcaaaDoor
/- Load of a chain from any rows. -/
namespace Go.Proofs.YthfmpebgmojcaaaDoor
open Go.RowKit
set_option linter.unusedVariables false
set_option maxRecDepth 20000
set_option maxHeartbeats 2000000 in
theorem load_region10T {V0 W5 : World} {B g : Nat} {v : Value} {c : Ch} {A : Act} (sz : A.tmps.size = 52) (e4 : A.eval (.tmp 4) = .pointer (some ⟨g, 0, none⟩)) (hV0 : V0 = W5.drew) (hs0 : ChAt V0 B g v c) (ok : Lens c) (hc : c.cnt < 1152921504606846976) (hle : c.cnt < c.an) :
    (codeLd 10).wp Tryd.prog (fun x a V => x = .normal ∧ a = ((((((((A.put (some 43) (.pointer (some ⟨g, 0, none⟩))).put (some 44) (.pointer (some ⟨g, 0, none⟩))).put (some 45) (.pointer (some ⟨g, 33, none⟩))).put (some 46) (.pointer (some ⟨g, 33, none⟩))).put (some 47) (.int .i64 (c.an : Int))).put (some 48) (.pointer (some ⟨g, 0, none⟩))).put (some 49) (.int .i64 (c.cnt : Int))).put (some 50) (.bool true)) ∧ ChAt V B g v c ∧ Below V0.heap.size V0 V) A W5 := by
  have hm : Tryd.prog.follows .mixedOrders = true := by kernel_rfl
  have hgt2 : ((c.cnt : Int) < (c.an : Int)) := by omega
  unfold codeLd
  conv => arg 2; whnf
  refine wp_region_G (fun _ => false) (fun V => ChAt V B g v c) hm ?_
  rw [show ({ W5 with drawn := W5.drawn + 1 } : World) = V0 from hV0.symm]
  refine tkG (i := 0) (d := 43) (v := .pointer (some ⟨g, 0, none⟩)) rfl rfl (yg_mv (by simp [Region.wanted]) (.tmp 4) rfl e4) hs0 ?_
  refine tkG (i := 1) (d := 44) (v := .pointer (some ⟨g, 0, none⟩)) rfl rfl (yg_nil (by simp [Region.wanted]) (.tmp 43) rfl (ev_eq _ _ (by simp [sz]))) hs0 ?_
  refine tkG (i := 2) (d := 45) (v := .pointer (some ⟨g, 33, none⟩)) rfl rfl (yg_fld (by simp [Region.wanted]) (.tmp 44) rfl (ev_eq _ _ (by simp [put_sz, sz])) (fun w => by simp [go_sem])) hs0 ?_
  refine tkG (i := 3) (d := 46) (v := .pointer (some ⟨g, 33, none⟩)) rfl rfl (yg_fld (by simp [Region.wanted]) (.tmp 45) rfl (ev_eq _ _ (by simp [put_sz, sz])) (fun w => by simp [go_sem])) hs0 ?_
  refine tkG (i := 4) (d := 47) (v := .int .i64 (c.an : Int)) rfl rfl (yg_ld (by simp [Region.wanted]) (.tmp 46) rfl (ev_eq _ _ (by simp [put_sz, sz])) (fun w hw => by have h1 := hw.c33 ok; simp [go_sem, h1])) hs0 ?_
  refine tkG (i := 5) (d := 48) (v := .pointer (some ⟨g, 0, none⟩)) rfl rfl (yg_mv (by simp [Region.wanted]) (.tmp 4) rfl (evn (evn (evn (evn (evn e4)))))) hs0 ?_
  refine wpAnyG_all (rs := [6]) (by kernel_rfl) (by simp) fun i1 hm1 => ?_
  obtain rfl : i1 = 6 := by simpa using hm1
  refine wpOp_own rfl rfl fun K1 hK1 => ?_
  refine wp_calls1 23 hf_countL (.tmp 48) _ rfl (.pointer (some ⟨g, 0, none⟩)) (ev_eq _ _ (by simp [put_sz, sz])) ?_
  refine (count_len hs0 ok hc).mono ?_
  rintro _ V1 ⟨rfl, hb1⟩
  have hs1 := hs0.below hb1
  refine ⟨_, rfl, hK1 _ _ ⟨.inr hs1, ?_⟩⟩
  clear hK1 K1 hm1
  show wpAnyG _ _ _ _ _ _ _ _ (((((((A.put (some 43) (.pointer (some ⟨g, 0, none⟩))).put (some 44) (.pointer (some ⟨g, 0, none⟩))).put (some 45) (.pointer (some ⟨g, 33, none⟩))).put (some 46) (.pointer (some ⟨g, 33, none⟩))).put (some 47) (.int .i64 (c.an : Int))).put (some 48) (.pointer (some ⟨g, 0, none⟩))).put (some 49) (.int .i64 (c.cnt : Int))) _
  refine tkG (i := 7) (d := 50) (v := .bool true) rfl rfl (yg_bin (by simp [Region.wanted]) (.tmp 47) (.tmp 49) rfl (evn (evn (ev_eq _ _ (by simp [put_sz, sz])))) (ev_eq _ _ (by simp [put_sz, sz])) (fun w => by simp [go_sem, hgt2])) hs1 ?_
  refine wpAnyG_done (by kernel_rfl) ⟨rfl, rfl, hs1, hb1⟩ _
theorem evsIn_app : ∀ (l m : List TR) (c : Ch), evsIn c (l ++ m) = (evsIn c l).bind fun d => evsIn d m
  | [], m, c => rfl
  | r :: l, m, c => by
    show (evIn c r).bind (fun e => evsIn _ (l ++ m)) = ((evIn c r).bind fun e => evsIn _ l).bind fun d => evsIn d m
    cases evIn c r with
    | none => rfl
    | some e => exact evsIn_app l m _
theorem evsIn_step {l : List TR} {c d : Ch} {k : Nat} (hk : k < l.length) (h : evsIn c (l.take k) = some d) : evsIn c (l.take (k + 1)) = (evIn d l[k]).map fun e => { d with ev := d.ev ++ [e] } := by
  rw [List.take_succ_eq_append_getElem hk, evsIn_app, h]
  show (evIn d l[k]).bind _ = _
  cases evIn d l[k] <;> rfl
theorem evsIn_no {l : List TR} {c : Ch} {k : Nat} (h : evsIn c (l.take k) = none) : evsIn c l = none := by
  rw [← List.take_append_drop k l, evsIn_app, h]
  rfl
def TxIn (w : World) (b o : Nat) (R : List TR) : Prop := ∀ i (h : i < R.length), ∃ a cp, w.cell? ⟨b, o + i * 2, none⟩ = some (.string R[i].1) ∧ w.cell? ⟨b, o + i * 2 + 1, none⟩ = some (.slice a R[i].2.length cp) ∧ Texts w a R[i].2
def LoadAny (w : World) (x : Option Ch) (e : Ending) (w' : World) : Prop := Below w.heap.size w w' ∧ (x = none → e = .returned (.tuple #[.pointer none, .int .i64 3])) ∧ ∀ c, x = some c → ∃ g v, e = .returned (.tuple #[.pointer (some ⟨g, 0, none⟩), .int .i64 0]) ∧ ChAt w' w.heap.size g v c
theorem LoadAny.no {w w' : World} {x : Option Ch} (hx : x = none) (hb : Below w.heap.size w w') : LoadAny w x (.returned (.tuple #[.pointer none, .int .i64 3])) w' := ⟨hb, fun _ => rfl, fun c e => by rw [hx] at e; cases e⟩
theorem LoadAny.yes {w w' : World} {x : Option Ch} {g : Nat} {v : Value} {c : Ch} (hx : x = some c) (hb : Below w.heap.size w w') (h : ChAt w' w.heap.size g v c) : LoadAny w x (.returned (.tuple #[.pointer (some ⟨g, 0, none⟩), .int .i64 0])) w' := ⟨hb, fun e => (by rw [hx] at e; cases e), fun d e => (by rw [hx] at e; cases e; exact ⟨g, v, rfl, h⟩)⟩
theorem loadC_short {R : List TR} (h : R.length < 4 ∨ 68 < R.length) : loadC R = none := by
  unfold loadC
  split
  · rename_i r0 r1 r2 r3 l
    rw [if_neg (by simp only [List.length_cons] at h; omega)]
  · rfl
set_option maxHeartbeats 2000000 in
theorem load_short {w : World} (a : Option Addr) (cap : Nat) (R : List TR) (h : R.length < 4 ∨ 68 < R.length) : Calls Tryd.prog 6 #[.slice a R.length cap] w (LoadAny w (loadC R)) := by
  rw [loadC_short h]
  generalize R.length = M at *
  rcases h with h | h
  · have n1 : (M : Int) < 4 := by omega
    have m1 : decide ((M : Int) < 4) = true := decide_eq_true n1
    clear h
    go_enter Tryd.func6, Tryd.ntmps6
    go_wp2_with fail
    refine (new_any w).mono ?_
    rintro _ w1 ⟨g, rfl, h1, b1⟩
    have B1 := hid b1
    clear h1 b1
    go_wp2_with fail
    go_ret2
    exact LoadAny.no rfl B1.out
  · have n1 : ¬ (M : Int) < 4 := by omega
    have n2 : (68 : Int) < (M : Int) := by omega
    have m1 : decide ((M : Int) < 4) = false := decide_eq_false n1
    have m2 : decide ((68 : Int) < (M : Int)) = true := decide_eq_true n2
    clear h
    go_enter Tryd.func6, Tryd.ntmps6
    go_wp2_with fail
    refine (new_any w).mono ?_
    rintro _ w1 ⟨g, rfl, h1, b1⟩
    have B1 := hid b1
    clear h1 b1
    go_wp2_with fail
    go_ret2
    exact LoadAny.no rfl B1.out
end Go.Proofs.YthfmpebgmojcaaaDoor
/- Load of a chain from any rows: the walk. -/
namespace Go.Proofs.YthfmpebgmojcaaaDoor
open Go.RowKit
set_option linter.unusedVariables false
set_option maxRecDepth 20000
theorem evsIn_facts {c d : Ch} {l : List TR} (h : evsIn c l = some d) (hc : c.ev = []) (ok : Lens c) : Lens d ∧ d.bn = c.bn ∧ d.an = c.an ∧ d.la = c.la ∧ d.ev.length = l.length := by
  obtain ⟨es, rfl, rfl, _⟩ := evsIn_some h
  exact ⟨⟨ok.lb, ok.lan, ok.lh⟩, rfl, rfl, rfl, by simp [hc]⟩
set_option maxHeartbeats 8000000 in
theorem load_long {w : World} (b o cap : Nat) (r0 r1 r2 r3 : TR) (l : List TR) (hR : TxIn w b o (r0 :: r1 :: r2 :: r3 :: l)) (hS : ∀ r ∈ r0 :: r1 :: r2 :: r3 :: l, ∀ x ∈ r.2, x.size ≤ maxLen) (hl : l.length ≤ 64) (hcap : 4 + l.length ≤ cap) (hT : Tabs w w.heap.size) :
    Calls Tryd.prog 6 #[.slice (some ⟨b, o, none⟩) (4 + l.length) cap] w (LoadAny w (loadC (r0 :: r1 :: r2 :: r3 :: l))) := by
  obtain ⟨a0, p0, u0, v0, s0⟩ := hR 0 (by simp)
  obtain ⟨a1, p1, u1, v1, s1⟩ := hR 1 (by simp)
  obtain ⟨a2, p2, u2, v2, s2⟩ := hR 2 (by simp)
  obtain ⟨a3, p3, u3, v3, s3⟩ := hR 3 (by simp)
  have x0 : w.cell? ⟨b, o, none⟩ = some (.string r0.1) := u0
  have y0 : w.cell? ⟨b, o + 1, none⟩ = some (.slice a0 r0.2.length p0) := v0
  have t0 : Texts w a0 r0.2 := s0
  have x1 : w.cell? ⟨b, o + 2, none⟩ = some (.string r1.1) := u1
  have y1 : w.cell? ⟨b, o + 2 + 1, none⟩ = some (.slice a1 r1.2.length p1) := v1
  have t1 : Texts w a1 r1.2 := s1
  have x2 : w.cell? ⟨b, o + 2 + 2, none⟩ = some (.string r2.1) := u2
  have y2 : w.cell? ⟨b, o + 2 + 3, none⟩ = some (.slice a2 r2.2.length p2) := v2
  have t2 : Texts w a2 r2.2 := s2
  have x3 : w.cell? ⟨b, o + 2 + 4, none⟩ = some (.string r3.1) := u3
  have y3 : w.cell? ⟨b, o + 2 + 5, none⟩ = some (.slice a3 r3.2.length p3) := v3
  have t3 : Texts w a3 r3.2 := s3
  have hr6 : w.rangeAt b (o + 2) [.string r1.1, .slice a1 r1.2.length p1, .string r2.1, .slice a2 r2.2.length p2, .string r3.1, .slice a3 r3.2.length p3] := by
    intro j u hj
    match j, hj with
    | 0, hj => cases hj; exact x1
    | 1, hj => cases hj; exact y1
    | 2, hj => cases hj; exact x2
    | 3, hj => cases hj; exact y2
    | 4, hj => cases hj; exact x3
    | 5, hj => cases hj; exact y3
  have z0 := hS r0 (by simp)
  have z1 := hS r1 (by simp)
  have z2 := hS r2 (by simp)
  have z3 := hS r3 (by simp)
  have zl : ∀ r ∈ l, ∀ x ∈ r.2, x.size ≤ maxLen := fun r hr => hS r (by simp [hr])
  have hRl : ∀ k (h : k < l.length), ∃ a cp, w.cell? ⟨b, o + 8 + k * 2, none⟩ = some (.string l[k].1) ∧ w.cell? ⟨b, o + 8 + k * 2 + 1, none⟩ = some (.slice a l[k].2.length cp) ∧ Texts w a l[k].2 := fun k h => by
    obtain ⟨a, cp, c1, c2, c3⟩ := hR (4 + k) (by simp; omega)
    have e : (r0 :: r1 :: r2 :: r3 :: l)[4 + k]'(by simp; omega) = l[k] := by
      have e1 : (r0 :: r1 :: r2 :: r3 :: l)[4 + k]? = l[k]? := by rw [show 4 + k = k + 1 + 1 + 1 + 1 by omega]; simp
      rw [List.getElem?_eq_getElem (by simp; omega), List.getElem?_eq_getElem h] at e1
      exact Option.some.inj e1
    rw [e] at c1 c2 c3
    rw [show o + (4 + k) * 2 = o + 8 + k * 2 by omega] at c1 c2
    exact ⟨a, cp, c1, c2, c3⟩
  have hbw : b < w.heap.size := World.block_lt_of_cell? _ _ x0
  have hX : loadC (r0 :: r1 :: r2 :: r3 :: l) = (numsOf r0).bind fun n => (hashIn ⟨#[97]⟩ r1).bind fun ha => (hashIn ⟨#[98]⟩ r2).bind fun hb => (hashIn ⟨#[104]⟩ r3).bind fun hh => (evsIn ⟨n.1, hb, n.2.1, ha, [], hh, n.2.2⟩ l).bind fun c => if c.an ≤ c.cnt then some c else none := if_pos hl
  obtain ⟨X, hXX⟩ : ∃ X, X = loadC (r0 :: r1 :: r2 :: r3 :: l) := ⟨_, rfl⟩
  rw [← hXX]
  rw [← hXX] at hX
  have HX := hid hX
  obtain ⟨N, hN⟩ : ∃ N, N = l.length := ⟨_, rfl⟩
  have HN := hid hN
  rw [← hN] at hcap hl ⊢
  have HT := hid hT
  have T0 := hid t0
  have T1 := hid t1
  have T2 := hid t2
  have T3 := hid t3
  have Z0 := hid z0
  have Z1 := hid z1
  have Z2 := hid z2
  have Z3 := hid z3
  have Zl := hid zl
  have Rl := hid hRl
  have Hr6 := hid hr6
  have X0 := hid x0
  have Y0 := hid y0
  have HL := hid hl
  obtain ⟨M, hM⟩ : ∃ M, M = 4 + N := ⟨_, rfl⟩
  rw [← hM] at hcap ⊢
  have HM := hid hM
  have n1 : ¬ (M : Int) < 4 := by omega
  have n2 : ¬ (68 : Int) < (M : Int) := by omega
  have m1 : decide ((M : Int) < 4) = false := decide_eq_false n1
  have m2 : decide ((68 : Int) < (M : Int)) = false := decide_eq_false n2
  have k4 : (4 : Int) ≤ (M : Int) := by omega
  have kcap : ¬ cap = 1 := by omega
  have kcap4 : 4 ≤ cap := by omega
  have k0 : (0 : Int) < (M : Int) := by omega
  clear hM hN hl hXX hX hS hR hT t0 t1 t2 t3 hr6 u0 v0 s0 u1 v1 s1 u2 v2 s2 u3 v3 s3 x0 y0 x1 y1 x2 y2 x3 y3 z0 z1 z2 z3 zl hRl
  go_enter Tryd.func6, Tryd.ntmps6
  go_wp2_with fail
  refine (new_any w).mono ?_
  rintro _ w1 ⟨g, rfl, h1, b1⟩
  have H1 := hid h1
  have B1 := hid b1
  have hgw : w.heap.size ≤ g := h1.bg
  have q0 : w1.cell? ⟨b, o, none⟩ = some (.string r0.1) := (b1.cell (p := ⟨b, o, none⟩) hbw).trans X0.out
  have q1 : w1.cell? ⟨b, o + 1, none⟩ = some (.slice a0 r0.2.length p0) := (b1.cell (p := ⟨b, o + 1, none⟩) hbw).trans Y0.out
  have C1 := takeNumbers_any H1.out ⟨by decide, by decide, by decide⟩ r0 a0 p0 (T0.out.below b1) Z0.out
  clear h1 b1
  cases hn : numsOf r0 with
  | none =>
    have hX0 : Hid (X = none) := by show X = none; rw [HX.out, hn]; rfl
    rw [hn] at C1
    have C1 := hid C1
    clear hn
    go_wp2_with (go_at_call 31; refine C1.out.mono ?_; rintro _ w2 ⟨rfl, h2, o2⟩; have O2 := hid o2; clear h2 o2)
    go_ret2
    exact LoadAny.no hX0.out (B1.out.trans (O2.out.below B1.out.size (fun k hk => by rw [hk]; exact hgw)))
  | some n =>
    rw [hn] at C1
    have C1 := hid C1
    have Hn := hid hn
    obtain ⟨hp1, hp2, hp3⟩ := hid (show n.1 ≤ 1099511627776 ∧ n.2.1 ≤ 1099511627776 ∧ n.2.2 ≤ 1099511627776 from (numsOf_some (p := n.1) (q := n.2.1) (s := n.2.2) hn).2) |>.out
    have Hp := hid (And.intro hp1 (And.intro hp2 hp3))
    clear hn hp1 hp2 hp3
    go_wp2_with (go_at_call 31; refine C1.out.mono ?_; rintro _ w2 ⟨rfl, h2, o2⟩; have H2 := hid (h2 n rfl); have O2 := hid o2; clear h2 o2)
    have bw2 : Below w.heap.size w w2 := B1.out.trans (O2.out.below B1.out.size (fun k hk => by rw [hk]; exact hgw))
    refine (takeHashes_any H2.out ⟨ch0_ok.lb, ch0_ok.lan, ch0_ok.lh⟩ b (o + 2) (cap - 1) (Nat.lt_of_lt_of_le hbw bw2.size) r1 r2 r3 a1 a2 a3 p1 p2 p3 (fun j u hj => (bw2.cell (p := ⟨b, o + 2 + j, none⟩) hbw).trans (Hr6.out j u hj)) (T1.out.below bw2) (T2.out.below bw2) (T3.out.below bw2) Z1.out Z2.out Z3.out).mono ?_
    rintro _ w3 ⟨rfl, h3, o3⟩
    have bw3 : Below w.heap.size w w3 := bw2.trans (o3.below bw2.size (fun k hk => by rw [hk]; exact hgw))
    have B3 := hid bw3
    by_cases hF : ((hashIn ⟨#[97]⟩ r1).isSome && (hashIn ⟨#[98]⟩ r2).isSome && (hashIn ⟨#[104]⟩ r3).isSome) = true
    · simp only [Bool.and_eq_true] at hF
      obtain ⟨ha, e1⟩ := Option.isSome_iff_exists.1 hF.1.1
      obtain ⟨hb, e2⟩ := Option.isSome_iff_exists.1 hF.1.2
      obtain ⟨hh, e3⟩ := Option.isSome_iff_exists.1 hF.2
      have l1 := (hashIn_some e1).2
      have l2 := (hashIn_some e2).2
      have l3 := (hashIn_some e3).2
      obtain ⟨c0, hc0⟩ : ∃ c0 : Ch, c0 = ⟨n.1, hb, n.2.1, ha, [], hh, n.2.2⟩ := ⟨_, rfl⟩
      have hX1 : X = (evsIn c0 l).bind fun c => if c.an ≤ c.cnt then some c else none := by
        rw [HX.out, Hn.out, e1, e2, e3, hc0]
        rfl
      have h3' : ChAt w3 w.heap.size g (.slice none 0 0) c0 := by
        have h9 := h3
        rw [e1, e2, e3] at h9
        rw [hc0]
        exact h9
      have HX1 := hid hX1
      have OK0 := hid (show Lens c0 by rw [hc0]; exact ⟨l2, l1, l3⟩)
      have Hb0 := hid (show c0.bn ≤ 1099511627776 ∧ c0.an ≤ 1099511627776 ∧ c0.la ≤ 1099511627776 by rw [hc0]; exact Hp.out)
      have He0 := hid (show c0.ev = [] by rw [hc0])
      have H3 := hid h3'
      rw [show ((hashIn ⟨#[97]⟩ r1).isSome && (hashIn ⟨#[98]⟩ r2).isSome && (hashIn ⟨#[104]⟩ r3).isSome) = true by rw [e1, e2, e3]; rfl]
      have k5 : M - 4 = N := by have := HM.out; omega
      clear hF e1 e2 e3 l1 l2 l3 hc0 hX1 h3' h3 o3 bw3 bw2 H2 O2 H1 B1 C1 q0 q1
      by_cases hc4 : cap = 4
      · go_wp2_with fail
        clear n1 n2 m1 m2 k4 kcap kcap4 k0 k5
        go_loopw [34] (fun i wr => ∃ k : Nat, k ≤ N ∧ i = .int .i64 (k : Int) ∧ ∃ ck v, evsIn c0 (l.take k) = some ck ∧ ChAt wr w.heap.size g v ck ∧ Below w.heap.size w wr) (fun i _ => N - (intOf i).toNat)
        case atStart => exact ⟨0, Nat.zero_le _, rfl, _, _, rfl, H3.out, B3.out⟩
        case round =>
          clear H3 B3
          obtain ⟨k, hk, rfl, ck, v, hev, hch, hbel⟩ := hrel
          have Hch := hid hch
          have Hbel := hid hbel
          clear hch hbel
          by_cases hlt : k < N
          · exfalso
            have := HM.out
            omega
          · have g1 : ¬ (k : Int) < (N : Int) := by omega
            have hall : evsIn c0 l = some ck := by
              have h := hev
              rw [show k = l.length by have := HN.out; omega, List.take_length] at h
              exact h
            have F := evsIn_facts hev He0.out OK0.out
            have hcl : ck.ev.length ≤ 64 := by
              have := F.2.2.2.2
              rw [List.length_take] at this
              have := HL.out
              have := HN.out
              omega
            have hcn : ck.cnt < 1152921504606846976 := by
              have h1 := F.2.1
              have h2 := Hb0.out.1
              unfold Ch.cnt
              omega
            have okk := hid F.1
            have hcn := hid hcn
            clear F hcl
            go_wp2_with fail
            obtain ⟨V0, hV0⟩ : ∃ V0, V0 = wr.drew := ⟨_, rfl⟩
            have b0 : Below wr.heap.size wr V0 := by rw [hV0]; exact (Below.refl _ wr).drew
            refine wp_act _ fun A hA => ?_
            have sz : A.tmps.size = 52 := by rw [hA]; rfl
            have e4 : A.eval (.tmp 4) = .pointer (some ⟨g, 0, none⟩) := by rw [hA]; rfl
            by_cases hle : ck.an ≤ ck.cnt
            · have hXc : Hid (X = some ck) := by show X = _; rw [HX1.out, hall]; exact if_pos hle
              refine wp_split _ (load_region10 sz e4 hV0 (Hch.out.below b0) okk.out hcn.out hle) ?_
              rintro _ V1 ⟨rfl, h1, b1⟩
              rw [hA]
              simp only [Act.put, List.setIfInBounds_toArray, List.set_cons_succ, List.set_cons_zero]
              have F1 := hid h1
              have F2 := hid (Below.on' (Below.on' Hbel.out b0) b1)
              clear sz e4 hA A h1 b1 b0 hV0 hle hall hev
              go_wp2_with fail
              go_ret2
              exact LoadAny.yes hXc.out F2.out F1.out
            · have hXc : Hid (X = none) := by show X = _; rw [HX1.out, hall]; exact if_neg hle
              refine wp_split _ (load_region10T sz e4 hV0 (Hch.out.below b0) okk.out hcn.out (by omega)) ?_
              rintro _ V1 ⟨rfl, h1, b1⟩
              rw [hA]
              simp only [Act.put, List.setIfInBounds_toArray, List.set_cons_succ, List.set_cons_zero]
              have F2 := hid (Below.on' (Below.on' Hbel.out b0) b1)
              clear sz e4 hA A h1 b1 b0 hV0 hle hall hev
              go_wp2_with fail
              go_ret2
              exact LoadAny.no hXc.out F2.out
      · go_wp2_with fail
        clear n1 n2 m1 m2 k4 kcap kcap4 k0 k5
        go_loopw [34] (fun i wr => ∃ k : Nat, k ≤ N ∧ i = .int .i64 (k : Int) ∧ ∃ ck v, evsIn c0 (l.take k) = some ck ∧ ChAt wr w.heap.size g v ck ∧ Below w.heap.size w wr) (fun i _ => N - (intOf i).toNat)
        case atStart => exact ⟨0, Nat.zero_le _, rfl, _, _, rfl, H3.out, B3.out⟩
        case round =>
          clear H3 B3
          obtain ⟨k, hk, rfl, ck, v, hev, hch, hbel⟩ := hrel
          have Hch := hid hch
          have Hbel := hid hbel
          clear hch hbel
          by_cases hlt : k < N
          · have g1 : (k : Int) < (N : Int) := by omega
            have hk64 : k ≤ 64 := by have := HL.out; omega
            have hkl : k < l.length := by have := HN.out; omega
            obtain ⟨a, cp, u1, u2, u3⟩ := Rl.out k hkl
            have hbb : ∀ bb oo, a = some ⟨bb, oo, none⟩ → 0 < l[k].2.length → bb < w.heap.size := fun bb oo hh h0 => by
              obtain ⟨b9, o9, e9, c9⟩ := u3 0 h0
              rw [hh] at e9
              cases e9
              exact World.block_lt_of_cell? _ _ c9
            have F := evsIn_facts hev He0.out OK0.out
            have hcl : ck.ev.length ≤ 1000 := by
              have := F.2.2.2.2
              rw [List.length_take] at this
              have := HL.out
              omega
            have hcn : ck.cnt < 1000000000000000000 := by
              have h1 := F.2.1
              have h2 := Hb0.out.1
              unfold Ch.cnt
              omega
            have hla : ck.la ≤ 1099511627776 := by rw [F.2.2.2.1]; exact Hb0.out.2.2
            have okk := F.1
            have hst := evsIn_step hkl hev
            have zz := Zl.out l[k] (List.getElem_mem hkl)
            have f0 := (Hbel.out.cell (p := ⟨b, o + 8 + k * 2, none⟩) hbw).trans u1
            have f1 := (Hbel.out.cell (p := ⟨b, o + 8 + k * 2 + 1, none⟩) hbw).trans u2
            cases hev2 : evIn ck l[k] with
            | some e =>
              rw [hev2] at hst
              obtain ⟨hre, n9, s9, s8, l9, m9⟩ := evIn_some hev2
              rw [hre] at f0 f1 u3 hbb
              have d0 : wr.cell? ⟨b, o + 8 + k * 2, none⟩ = some (.string (evKey e.num)) := f0
              have d1 : wr.cell? ⟨b, o + 8 + k * 2 + 1, none⟩ = some (.slice a 3 cp) := f1
              have t9 : Texts w a [txt e.tim, e.what, e.who] := u3
              obtain ⟨W6, hW6⟩ : ∃ W6, W6 = wr.alloc (.cells #[.string (evKey e.num), .slice a 3 cp] 75) := ⟨_, rfl⟩
              have b6 : Below wr.heap.size wr W6 := by rw [hW6]; exact (Below.refl _ wr).alloc (Nat.le_refl _) _
              have bw6 : Below w.heap.size w W6 := Below.on' Hbel.out b6
              have C9 := hid (takeEvent_ok (Hch.out.below b6) okk hcn bw6.size (HT.out.below (Nat.le_refl _) bw6) e a cp (t9.below bw6) (fun bb oo hh hx => by
                have h1 := hbb bb oo hh (by show 0 < 3; decide)
                have h2 := Hch.out.blk _ hx
                omega) n9 s9 s8 l9 m9 hla hcl)
              have HW6 := hid hW6
              have BW6 := hid bw6
              have Hst := hid hst
              have Hblk := hid Hch.out.blk
              clear u1 u2 u3 t9 n9 s9 s8 l9 m9 hcn hst hW6 bw6 b6 hbb hkl F hcl hla okk zz f0 f1 hev2 hre hev
              go_wp2_with (go_at_call 33; rw [show wr.alloc (.cells #[.string (evKey e.num), .slice a 3 cp] 75) = W6 from HW6.out.symm]; refine C9.out.mono ?_; rintro _ w7 ⟨v7, rfl, h7, o7, gr7⟩; have H7 := hid h7; have O7 := hid o7; clear h7 o7)
              go_roundw
              case rel => exact ⟨k + 1, by omega, by go_num, _, v7, Hst.out, H7.out, BW6.out.trans (O7.out.below BW6.out.size Hblk.out)⟩
              case measure => simp [intOf]; omega
            | none =>
              have hXc : Hid (X = none) := by
                show X = none
                rw [hev2] at hst
                rw [HX1.out, evsIn_no hst]
                rfl
              obtain ⟨r9, hr9⟩ : ∃ r9 : TR, r9 = l[k] := ⟨_, rfl⟩
              rw [← hr9] at f0 f1 u3 hev2 zz
              obtain ⟨W6, hW6⟩ : ∃ W6, W6 = wr.alloc (.cells #[.string r9.1, .slice a r9.2.length cp] 75) := ⟨_, rfl⟩
              have b6 : Below wr.heap.size wr W6 := by rw [hW6]; exact (Below.refl _ wr).alloc (Nat.le_refl _) _
              have bw6 : Below w.heap.size w W6 := Below.on' Hbel.out b6
              have C9 := hid (takeEvent_no (Hch.out.below b6) okk hcn bw6.size (HT.out.below (Nat.le_refl _) bw6) r9 a cp (u3.below bw6) zz hcl hev2)
              have HW6 := hid hW6
              have BW6 := hid bw6
              clear u1 u2 u3 hcn hst hW6 bw6 b6 hbb hkl F hcl hla okk zz hev2 hev hr9
              go_wp2_with (go_at_call 33; rw [show wr.alloc (.cells #[.string r9.1, .slice a r9.2.length cp] 75) = W6 from HW6.out.symm]; refine C9.out.mono ?_; rintro _ w7 ⟨rfl, b7⟩; have B7 := hid b7; clear b7)
              go_ret2
              exact LoadAny.no hXc.out (Below.on' BW6.out B7.out)
          · have g1 : ¬ (k : Int) < (N : Int) := by omega
            have hall : evsIn c0 l = some ck := by
              have h := hev
              rw [show k = l.length by have := HN.out; omega, List.take_length] at h
              exact h
            have F := evsIn_facts hev He0.out OK0.out
            have hcl : ck.ev.length ≤ 64 := by
              have := F.2.2.2.2
              rw [List.length_take] at this
              have := HL.out
              have := HN.out
              omega
            have hcn : ck.cnt < 1152921504606846976 := by
              have h1 := F.2.1
              have h2 := Hb0.out.1
              unfold Ch.cnt
              omega
            have okk := hid F.1
            have hcn := hid hcn
            clear F hcl
            go_wp2_with fail
            obtain ⟨V0, hV0⟩ : ∃ V0, V0 = wr.drew := ⟨_, rfl⟩
            have b0 : Below wr.heap.size wr V0 := by rw [hV0]; exact (Below.refl _ wr).drew
            refine wp_act _ fun A hA => ?_
            have sz : A.tmps.size = 52 := by rw [hA]; rfl
            have e4 : A.eval (.tmp 4) = .pointer (some ⟨g, 0, none⟩) := by rw [hA]; rfl
            by_cases hle : ck.an ≤ ck.cnt
            · have hXc : Hid (X = some ck) := by show X = _; rw [HX1.out, hall]; exact if_pos hle
              refine wp_split _ (load_region10 sz e4 hV0 (Hch.out.below b0) okk.out hcn.out hle) ?_
              rintro _ V1 ⟨rfl, h1, b1⟩
              rw [hA]
              simp only [Act.put, List.setIfInBounds_toArray, List.set_cons_succ, List.set_cons_zero]
              have F1 := hid h1
              have F2 := hid (Below.on' (Below.on' Hbel.out b0) b1)
              clear sz e4 hA A h1 b1 b0 hV0 hle hall hev
              go_wp2_with fail
              go_ret2
              exact LoadAny.yes hXc.out F2.out F1.out
            · have hXc : Hid (X = none) := by show X = _; rw [HX1.out, hall]; exact if_neg hle
              refine wp_split _ (load_region10T sz e4 hV0 (Hch.out.below b0) okk.out hcn.out (by omega)) ?_
              rintro _ V1 ⟨rfl, h1, b1⟩
              rw [hA]
              simp only [Act.put, List.setIfInBounds_toArray, List.set_cons_succ, List.set_cons_zero]
              have F2 := hid (Below.on' (Below.on' Hbel.out b0) b1)
              clear sz e4 hA A h1 b1 b0 hV0 hle hall hev
              go_wp2_with fail
              go_ret2
              exact LoadAny.no hXc.out F2.out
    · have hF' : ((hashIn ⟨#[97]⟩ r1).isSome && (hashIn ⟨#[98]⟩ r2).isSome && (hashIn ⟨#[104]⟩ r3).isSome) = false := by simpa using hF
      have hX0 : Hid (X = none) := by
        show X = none
        rw [HX.out, Hn.out]
        cases e1 : hashIn ⟨#[97]⟩ r1 with
        | none => rfl
        | some ha =>
          cases e2 : hashIn ⟨#[98]⟩ r2 with
          | none => rfl
          | some hb =>
            cases e3 : hashIn ⟨#[104]⟩ r3 with
            | none => rfl
            | some hh => rw [e1, e2, e3] at hF'; cases hF'
      rw [hF']
      clear hF hF' h3 o3 bw3 bw2 H2 O2 H1 B1 C1 q0 q1
      go_wp2_with fail
      go_ret2
      exact LoadAny.no hX0.out B3.out
end Go.Proofs.YthfmpebgmojcaaaDoor
/- A chain's rows without one of them are no chain's. -/
namespace Go.Proofs.YthfmpebgmojcaaaDoor
open Go.RowKit
set_option linter.unusedVariables false
set_option maxRecDepth 20000
theorem txt_inj {m n : Nat} (hm : m ≤ 4611686018427387904) (hn : n ≤ 4611686018427387904) (h : txt m = txt n) : m = n := by
  have e : (txt m).data.toList = (txt n).data.toList := by rw [h]
  have e1 : toNum (txt m).data.toList = (m, 0) := toNum_numT m hm
  have e2 : toNum (txt n).data.toList = (n, 0) := toNum_numT n hn
  rw [e, e2] at e1
  exact (Prod.ext_iff.1 e1).1.symm
theorem loadC_less (c : Ch) (hd : Ldable c) (hb : c.bn = 0) (ha : c.an = c.ev.length) (k : Nat) (hk : k < (rowsOf c).length) : loadC ((rowsOf c).take k ++ (rowsOf c).drop (k + 1)) = none := by
  cases h : loadC ((rowsOf c).take k ++ (rowsOf c).drop (k + 1)) with
  | none => rfl
  | some d =>
    exfalso
    obtain ⟨e, hl⟩ := loadC_some h
    clear h
    rw [rowsOf_len] at hk
    simp only [rowsOf, headRows, List.cons_append, List.nil_append] at e
    match k, hk with
    | 0, _ =>
      simp only [List.take_zero, List.nil_append, List.drop_succ_cons, List.drop_zero, List.cons.injEq, Prod.mk.injEq] at e
      exact absurd e.1.1 (by decide)
    | 1, _ =>
      simp only [List.take_succ_cons, List.take_zero, List.cons_append, List.nil_append, List.drop_succ_cons, List.drop_zero, List.cons.injEq, Prod.mk.injEq] at e
      exact absurd e.2.1.1 (by decide)
    | 2, _ =>
      simp only [List.take_succ_cons, List.take_zero, List.cons_append, List.nil_append, List.drop_succ_cons, List.drop_zero, List.cons.injEq, Prod.mk.injEq] at e
      exact absurd e.2.2.1.1 (by decide)
    | 3, _ =>
      simp only [List.take_succ_cons, List.take_zero, List.cons_append, List.nil_append, List.drop_succ_cons, List.drop_zero, List.cons.injEq, Prod.mk.injEq] at e
      have e4 := e.2.2.2
      cases hv : c.ev with
      | nil => rw [hv] at e4; cases e4
      | cons x l =>
        rw [hv] at e4
        simp only [List.map_cons, List.cons.injEq] at e4
        have h1 : evKey x.num = ⟨#[104]⟩ := congrArg Prod.fst e4.1
        have h2 := evKey_list x.num
        rw [h1] at h2
        have h3 : (⟨#[104]⟩ : ByteArray).toList = [104] := by rw [Lib.toList_data]
        rw [h3] at h2
        exact absurd (List.cons.inj h2).1 (by decide)
    | j + 4, hk =>
      simp only [List.take_succ_cons, List.cons_append, List.drop_succ_cons, List.cons.injEq, Prod.mk.injEq, List.map_cons, List.map_nil, and_true] at e
      obtain ⟨⟨_, e1, e2, e3⟩, _, _, _, e5⟩ := e
      have q1 := hd.bn
      have q2 := hd.an
      have q3 := hl.bn
      have q4 := hl.an
      have r1 := txt_inj (by omega) (by omega) e1
      have r2 := txt_inj (by omega) (by omega) e2
      have r3 := congrArg List.length e5
      simp only [List.length_append, List.length_take, List.length_drop, List.length_map] at r3
      have r4 := hl.anc
      unfold Ch.cnt at r4
      omega
end Go.Proofs.YthfmpebgmojcaaaDoor
