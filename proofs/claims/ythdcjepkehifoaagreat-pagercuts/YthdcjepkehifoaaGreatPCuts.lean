/- YthdcjepkehifoaaGreatPCutM + YthdcjepkehifoaaGreatPCutA + YthdcjepkehifoaaGreatPCuts -/
import Derived.Test.YthdcjepkehifoaaGreatPAborts
/- Behind a cut within a commit of a cache. -/
namespace Go.Proofs.YthdcjepkehifoaaGreat
open Go.RowKit Go.Maps Go.Sort Go.Shelf
set_option linter.unusedVariables false
set_option maxRecDepth 20000
/-- the log opens, and holds these pages or those -/
def OpensAs (S P T : Nat) (ps : List (List UInt8)) (f1 f2 : Nat → List UInt8) : Prop := ∃ G gs, LogInv ps S G gs P ∧ G ≤ T ∧ ((∀ q, q < P → pageNow ps S gs q = f1 q) ∨ (∀ q, q < P → pageNow ps S gs q = f2 q))
section
variable {s : PS}
def baseOf (s : PS) : List (List UInt8) := psOf (fresh s.S s.P) s.ls
theorem good_ix (ok : CaOk s) (h0 : 0 < s.dl.length) : GoodIx s.P (dNs s) := by
  refine ⟨by simp [dNs]; omega, by simp [dNs]; exact ok.dlen, keys_up ok.dup, fun n hn => ?_⟩
  obtain ⟨c, hc, rfl⟩ := List.mem_map.1 hn
  exact (ok.dlt c hc).1
theorem com_cut (hi : LogInv (baseOf s) s.S s.G s.gs s.P) (ok : CaOk s) (h0 : 0 < s.dl.length) (hf : fits s) (hG : s.G + 1 < 2 ^ 63) (i : Nat) : OpensAs s.S s.P (s.G + 1) (psOf (baseOf s) ((commitWs (usedOf s.gs) s.G (dNs s) (dXs s)).take i)) s.page (cmS s).page := by
  have hg := good_ix ok h0
  have hl : (dXs s).length = (dNs s).length := by simp [dXs, dNs]
  have hx : ∀ x ∈ dXs s, x.length = 256 := fun x hx => by
    obtain ⟨c, hc, rfl⟩ := List.mem_map.1 hx
    exact (ok.dlt c hc).2
  have hU : usedOf s.gs + (dNs s).length + 1 ≤ s.S := by rw [show (dNs s).length = s.dl.length by simp [dNs]]; exact hf
  by_cases hi' : i ≤ (dXs s).length + 1
  · obtain ⟨h1, h2⟩ := hi.commit_part (dNs s) (dXs s) hg hl hx hU i hi'
    exact ⟨s.G, s.gs, h1, Nat.le_succ _, .inl h2⟩
  · rw [List.take_of_length_le (by rw [commitWs_length]; omega)]
    refine ⟨s.G + 1, s.gs ++ [dNs s], hi.commit (dNs s) (dXs s) hg hl hx hU hG, Nat.le_refl _, .inr fun q hq => ?_⟩
    show _ = pageNow (psOf (fresh s.S s.P) (s.ls ++ commitWs (usedOf s.gs) s.G (dNs s) (dXs s))) s.S (s.gs ++ [dNs s]) q
    rw [psOf_append]
    rfl
theorem ck_cut (hi : LogInv (baseOf s) s.S s.G s.gs s.P) (hG : s.G < 2 ^ 63) (i : Nat) (f : Nat → List UInt8) : OpensAs s.S s.P s.G (psOf (baseOf s) ((cpWs s.S s.P s.G s.gs s.ls).take i)) s.page f := by
  unfold cpWs
  by_cases hu : usedOf s.gs = 0
  · rw [if_pos hu, List.take_nil]
    exact ⟨s.G, s.gs, hi, Nat.le_refl _, .inl fun q hq => rfl⟩
  · rw [if_neg hu]
    show OpensAs s.S s.P s.G (psOf (baseOf s) ((checkWs (baseOf s) s.S s.G s.gs s.P).take i)) s.page f
    by_cases hi' : i ≤ (touchedOf s.P s.gs).length
    · rw [homeWs_part _ _ _ _ _ _ hi']
      obtain ⟨h1, h2⟩ := hi.home_part ((touchedOf s.P s.gs).take i) (fun n hn => touched_lt (List.mem_of_mem_take hn))
      exact ⟨s.G, s.gs, h1, Nat.le_refl _, .inl h2⟩
    · rw [List.take_of_length_le (by rw [checkWs_length]; omega)]
      obtain ⟨h1, h2⟩ := hi.check hG
      exact ⟨s.G, [], h1, Nat.le_refl _, .inl h2⟩
theorem ck_inv (hi : LogInv (baseOf s) s.S s.G s.gs s.P) (hG : s.G < 2 ^ 63) : LogInv (baseOf (ckS s)) s.S s.G [] s.P := by
  show LogInv (psOf (fresh s.S s.P) (s.ls ++ cpWs s.S s.P s.G s.gs s.ls)) s.S s.G [] s.P
  unfold cpWs
  by_cases hu : usedOf s.gs = 0
  · rw [if_pos hu, List.append_nil, ← gs_nil hu]
    exact hi
  · rw [if_neg hu, psOf_append]
    exact (hi.check hG).1
theorem take_split {α : Type} (a b : List α) (j : Nat) (hj : a.length ≤ j) : (a ++ b).take j = a ++ b.take (j - a.length) := by
  rw [List.take_append, List.take_of_length_le hj]
theorem commit_cut (hi : LogInv (baseOf s) s.S s.G s.gs s.P) (ok : CaOk s) (hG : s.G + 1 < 2 ^ 63) (hc : comOk s) (j : Nat) (hj : s.ls.length ≤ j) : OpensAs s.S s.P (s.G + 1) (psOf (fresh s.S s.P) ((commitS s).ls.take j)) s.page (commitS s).page := by
  unfold commitS
  by_cases h0 : s.dl.length = 0
  · rw [if_pos h0]
    show OpensAs s.S s.P (s.G + 1) (psOf (fresh s.S s.P) (s.ls.take j)) s.page _
    rw [List.take_of_length_le hj]
    exact ⟨s.G, s.gs, hi, Nat.le_succ _, .inl fun q hq => rfl⟩
  · rw [if_neg h0]
    by_cases hf : fits s
    · rw [if_pos hf]
      show OpensAs s.S s.P (s.G + 1) (psOf (fresh s.S s.P) ((s.ls ++ commitWs (usedOf s.gs) s.G (dNs s) (dXs s)).take j)) s.page (cmS s).page
      rw [take_split _ _ _ hj, psOf_append]
      exact com_cut hi ok (by omega) hf hG _
    · rw [if_neg hf]
      show OpensAs s.S s.P (s.G + 1) (psOf (fresh s.S s.P) (((s.ls ++ cpWs s.S s.P s.G s.gs s.ls) ++ commitWs (usedOf []) s.G (dNs s) (dXs s)).take j)) s.page (cmS (ckS s)).page
      by_cases hjc : (s.ls ++ cpWs s.S s.P s.G s.gs s.ls).length ≤ j
      · rw [take_split _ _ _ hjc, psOf_append]
        have hf2 : fits (ckS s) := by
          rcases hc with hc | hc
          · omega
          · show 0 + s.dl.length + 1 ≤ s.S; omega
        obtain ⟨G, gs, h1, h2, h3⟩ := com_cut (s := ckS s) (ck_inv hi (by omega)) ⟨ok.nd, ok.olt, ok.ol, ok.mo1, ok.mo2, ok.dup, ok.dlt, ok.dlen, ok.hit, ok.mit⟩ (by show 0 < s.dl.length; omega) hf2 hG (j - (s.ls ++ cpWs s.S s.P s.G s.gs s.ls).length)
        exact ⟨G, gs, h1, h2, h3.imp (fun h q hq => (h q hq).trans (page_ck hi (by omega) q hq)) (fun h q hq => h q hq)⟩
      · rw [List.take_append_of_le_length (by omega), take_split _ _ _ hj, psOf_append]
        obtain ⟨G, gs, h1, h2, h3⟩ := ck_cut hi (by omega) (j - s.ls.length) (cmS (ckS s)).page
        exact ⟨G, gs, h1, Nat.le_succ_of_le h2, h3⟩
theorem full_cut (hi : LogInv (baseOf s) s.S s.G s.gs s.P) (hG : s.G + 1 < 2 ^ 63) (j : Nat) (hj : s.ls.length ≤ j) : OpensAs s.S s.P (s.G + 1) (psOf (fresh s.S s.P) ((fullS s).ls.take j)) s.page (fullS s).page := by
  show OpensAs s.S s.P (s.G + 1) (psOf (fresh s.S s.P) ((s.ls ++ cpWs s.S s.P s.G s.gs s.ls).take j)) s.page _
  rw [take_split _ _ _ hj, psOf_append]
  obtain ⟨G, gs, h1, h2, h3⟩ := ck_cut hi (by omega) (j - s.ls.length) (fullS s).page
  exact ⟨G, gs, h1, Nat.le_succ_of_le h2, h3⟩
end
end Go.Proofs.YthdcjepkehifoaaGreat

/- SameAll of pages that may differ; all pages of any log; a disk's count and cut. -/
namespace Go.Proofs.YthdcjepkehifoaaGreat
open Go.RowKit Go.Maps Go.Sort Go.Shelf
set_option linter.unusedVariables false
set_option maxRecDepth 20000
def SamePost (w : World) (ps qs : List (List UInt8)) (e : Ending) (w' : World) : Prop := ∃ b, e = .returned (.bool b) ∧ (ps = qs → b = true) ∧ Below w.heap.size w w'
set_option maxHeartbeats 1600000 in
theorem sameAll_bool {w : World} {B1 b1 c1 B2 b2 c2 n : Nat} {vs1 vs2 : List Value} {ps qs : List (List UInt8)} (hn : n = ps.length) (hq : n = qs.length) (h1 : ImgAt w B1 (.slice (some ⟨b1, 0, none⟩) n c1) vs1 ps) (h2 : ImgAt w B2 (.slice (some ⟨b2, 0, none⟩) n c2) vs2 qs) (hl : n ≤ 1024) (hf : ∀ p ∈ ps, p.length = 256) (hg : ∀ p ∈ qs, p.length = 256) :
    Calls Tryz.prog 35 #[.slice (some ⟨b1, 0, none⟩) n c1, .slice (some ⟨b2, 0, none⟩) n c2] w (SamePost w ps qs) := by
  by_cases heq : ps = qs
  · subst heq
    refine (sameAll_eq hn h1 h2 (by omega) (fun p hp => by rw [hf p hp]; omega)).mono ?_
    rintro _ w' ⟨rfl, hb⟩
    exact ⟨true, rfl, fun _ => rfl, hb⟩
  have Hne : Hid (∀ b : Bool, ps = qs → b = true) := fun b h => absurd h heq
  have H1 := hid h1
  have H2 := hid h2
  have Hf := hid hf
  have Hg := hid hg
  have Hn := hid hn
  have Hq := hid hq
  clear h1 h2 hf hg heq hn hq
  go_enter Tryz.func35, Tryz.ntmps35
  go_wp2
  go_loopw [5] (fun i wr => ∃ k : Nat, k ≤ n ∧ i = .int .i64 (k : Int) ∧ Below w.heap.size w wr) (fun i _ => n - (intOf i).toNat)
  case atStart => exact ⟨0, by omega, rfl, Below.refl _ _⟩
  case round =>
    obtain ⟨k, hk, rfl, hB⟩ := hrel
    have HB := hid hB
    clear hB
    by_cases hlt : k < n
    · have hlp : k < ps.length := by have := Hn.out; omega
      have hlq : k < qs.length := by have := Hq.out; omega
      obtain ⟨a1, e1, k1, hb1, _⟩ := (H1.out.below HB.out).cell (by rw [Hn.out]) k hlp
      obtain ⟨a2, e2, k2, hb2, _⟩ := (H2.out.below HB.out).cell (by rw [Hq.out]) k hlq
      have hfk := Hf.out _ (List.getElem_mem hlp)
      have hgk := Hg.out _ (List.getElem_mem hlq)
      rw [hfk] at k1
      rw [hgk] at k2
      obtain ⟨r, hr⟩ : ∃ r, r = decide (ps[k] = qs[k]) := ⟨_, rfl⟩
      have Hs : Hid (Calls Tryz.prog 30 #[.slice a1 256 e1, .slice a2 256 e2] wr.drew fun e w' => e = .returned (.bool r) ∧ Below wr.drew.heap.size wr.drew w') := by
        have h := sameBytes_any ps[k] qs[k] a1 a2 e1 e2 wr.drew hb1 hb2 (by omega) (by omega)
        rw [hfk, hgk, ← hr] at h
        exact h
      have f0 : (0 : Int) ≤ (k : Int) := by omega
      have f1 : (k : Int) < (n : Int) := by omega
      clear hb1 hb2 hfk hgk hr
      cases r
      all_goals
        go_wp2
        go_region_held3 (fun w9 => w9.cell? ⟨b1, k, none⟩ = some (.slice a1 256 e1) ∧ w9.cell? ⟨b2, k, none⟩ = some (.slice a2 256 e2)) (first | exact ⟨k1, k2⟩ | exact q.out)
          (first | ((go_at_call 30; refine Hs.out.mono ?_; rintro e w4 ⟨rfl, hb4'⟩; have hb4 := undrew hb4'; have q := hid (And.intro ((hb4.cell (World.block_lt_of_cell? _ _ k1)).trans k1) ((hb4.cell (World.block_lt_of_cell? _ _ k2)).trans k2)); have Hb4 := hid hb4; clear hb4 hb4')))
        have HB4 := hid (HB.out.trans (Hb4.out.mono HB.out.size))
        clear k1 k2 q Hb4 Hs
        go_wp2
      · go_ret
        exact ⟨false, rfl, Hne.out false, HB4.out⟩
      · go_roundw
        case rel => exact ⟨k + 1, by omega, by go_num, HB4.out⟩
        case measure => simp [intOf]; omega
    · have f1 : ¬ (k : Int) < (n : Int) := by omega
      go_wp2
      go_ret
      exact ⟨true, rfl, fun _ => rfl, HB.out⟩
end Go.Proofs.YthdcjepkehifoaaGreat

/- PagerCuts' walk. -/
namespace Go.Proofs.YthdcjepkehifoaaGreat
open Go.RowKit Go.Maps Go.Sort Go.Shelf
set_option linter.unusedVariables false
set_option maxRecDepth 20000
noncomputable def codeCt (n : Nat) : Code := ((Tryz.f10.body.bind (regionAt n)).getD .skip)
set_option maxHeartbeats 1000000 in
theorem ct_region13 {V0 W5 : World} {p X : Nat} {kd : Int} {qa : Option Addr} {qq : List Int} {qc : Nat} {y : UInt8} {sh : Bool} {s : PS} {F : Nat → Prop} {A : Act} (sz : A.tmps.size = 161) (e8 : A.eval (.tmp 8) = .pointer (some ⟨p, 0, none⟩)) (e12 : A.eval (.tmp 12) = .pointer (some ⟨X, 0, none⟩)) (hV0 : V0 = W5.drew) (hs0 : DdCells X 0 kd qa qq qc y sh V0) (hD : DdOk V0 ⟨kd, qa, qq, qc, y, sh⟩) (hC : Cache V0 p s F) (ht : s.t ≤ 100000) (hq : -9223372036854775808 ≤ firstOf qq ∧ firstOf qq ≤ 9223372036854775807) :
    (codeCt 13).wp Tryz.prog (fun x a V => x = .normal ∧ ∃ g gc e s', a = ((((((A.put (some 92) (.pointer (some ⟨p, 0, none⟩))).put (some 93) (.agg #[.int .i64 kd, .slice qa qq.length qc, .int .u8 (y.toNat : Int), .bool sh])).put (some 95) (.agg #[.int .i64 kd, .slice qa qq.length qc, .int .u8 (y.toNat : Int), .bool sh])).put (some 94) (.int .i64 (firstOf qq))).put (some 96) (.slice (some ⟨g, 0, none⟩) (dLen sh) gc)).put (some 97) (.int .i64 e)) ∧ wrOr s s' (firstOf qq) (List.replicate (dLen sh) y) e ∧ Cache V p s' F ∧ Kept F V0 V) A W5 := by
  have hm : Tryz.prog.follows .mixedOrders = true := by kernel_rfl
  unfold codeCt
  conv => arg 2; whnf
  refine wp_region_G (fun i => i == 5) (DdCells X 0 kd qa qq qc y sh) hm ?_
  rw [show ({ W5 with drawn := W5.drawn + 1 } : World) = V0 from hV0.symm]
  refine wpAnyG_take (i := 0) (v := .pointer (some ⟨p, 0, none⟩)) rfl (by kernel_rfl) (by kernel_rfl) (by kernel_rfl) (fun _ _ _ h => nomatch h.1) (yg_mv (by simp [Region.wanted]) (.tmp 8) rfl e8) hs0 ?_
  show wpAnyG _ _ _ _ _ _ _ _ (A.put (some 92) (.pointer (some ⟨p, 0, none⟩))) _
  refine wpAnyG_take (i := 1) (v := .agg #[.int .i64 kd, .slice qa qq.length qc, .int .u8 (y.toNat : Int), .bool sh]) rfl (by kernel_rfl) (by kernel_rfl) (by kernel_rfl) (fun _ _ _ h => nomatch h.1) (y_ldD (by simp [Region.wanted]) (.tmp 12) rfl ((ev_ne _ _ (by decide)).trans e12)) hs0 ?_
  show wpAnyG _ _ _ _ _ _ _ _ ((A.put (some 92) (.pointer (some ⟨p, 0, none⟩))).put (some 93) (.agg #[.int .i64 kd, .slice qa qq.length qc, .int .u8 (y.toNat : Int), .bool sh])) _
  refine wpAnyG_take (i := 3) (v := .agg #[.int .i64 kd, .slice qa qq.length qc, .int .u8 (y.toNat : Int), .bool sh]) rfl (by kernel_rfl) (by kernel_rfl) (by kernel_rfl) (fun _ _ _ h => nomatch h.1) (y_ldD (by simp [Region.wanted]) (.tmp 12) rfl ((ev_ne _ _ (by decide)).trans ((ev_ne _ _ (by decide)).trans e12))) hs0 ?_
  show wpAnyG _ _ _ _ _ _ _ _ (((A.put (some 92) (.pointer (some ⟨p, 0, none⟩))).put (some 93) (.agg #[.int .i64 kd, .slice qa qq.length qc, .int .u8 (y.toNat : Int), .bool sh])).put (some 95) (.agg #[.int .i64 kd, .slice qa qq.length qc, .int .u8 (y.toNat : Int), .bool sh])) _
  refine wpAnyG_all (rs := [2]) (by kernel_rfl) (by simp) fun i1 hm1 => ?_
  obtain rfl : i1 = 2 := by simpa using hm1
  refine wpOp_own rfl rfl fun K1 hK1 => ?_
  refine wp_calls1 65 hf_first (.tmp 93) _ rfl (.agg #[.int .i64 kd, .slice qa qq.length qc, .int .u8 (y.toNat : Int), .bool sh]) ((ev_ne _ _ (by decide)).trans (ev_eq _ _ (by simp [put_sz, sz]))) ?_
  refine (first4_any kd qa qq qc y sh V0 hD.ints hD.len).mono ?_
  rintro _ V1 ⟨rfl, b1⟩
  have hs1 := hs0.below b1
  have C1 := hC.below b1
  refine ⟨_, rfl, hK1 _ _ ⟨.inr hs1, ?_⟩⟩
  clear hK1 K1 hm1
  show wpAnyG _ _ _ _ _ _ _ _ ((((A.put (some 92) (.pointer (some ⟨p, 0, none⟩))).put (some 93) (.agg #[.int .i64 kd, .slice qa qq.length qc, .int .u8 (y.toNat : Int), .bool sh])).put (some 95) (.agg #[.int .i64 kd, .slice qa qq.length qc, .int .u8 (y.toNat : Int), .bool sh])).put (some 94) (.int .i64 (firstOf qq))) _
  refine wpAnyG_all (rs := [4]) (by kernel_rfl) (by simp) fun i2 hm2 => ?_
  obtain rfl : i2 = 4 := by simpa using hm2
  refine wpOp_own rfl rfl fun K2 hK2 => ?_
  refine wp_calls1 67 hf_bytes4 (.tmp 95) _ rfl (.agg #[.int .i64 kd, .slice qa qq.length qc, .int .u8 (y.toNat : Int), .bool sh]) ((ev_ne _ _ (by decide)).trans (ev_eq _ _ (by simp [put_sz, sz]))) ?_
  refine (bytes4_any kd (.slice qa qq.length qc) y sh V1 rfl).mono ?_
  rintro _ V2 ⟨g, gc, rfl, r2, hg2, b2⟩
  have hs2 := hs1.below b2
  have C2 := C1.below b2
  refine ⟨_, rfl, hK2 _ _ ⟨.inr hs2, ?_⟩⟩
  clear hK2 K2 hm2
  show wpAnyG _ _ _ _ _ _ _ _ (((((A.put (some 92) (.pointer (some ⟨p, 0, none⟩))).put (some 93) (.agg #[.int .i64 kd, .slice qa qq.length qc, .int .u8 (y.toNat : Int), .bool sh])).put (some 95) (.agg #[.int .i64 kd, .slice qa qq.length qc, .int .u8 (y.toNat : Int), .bool sh])).put (some 94) (.int .i64 (firstOf qq))).put (some 96) (.slice (some ⟨g, 0, none⟩) (dLen sh) gc)) _
  refine wpAnyG_all (rs := [5]) (by kernel_rfl) (by simp) fun i3 hm3 => ?_
  obtain rfl : i3 = 5 := by simpa using hm3
  refine wpOp_own rfl rfl fun K3 hK3 => ?_
  refine wp_calls3 66 hf_pgw (.tmp 92) (.tmp 94) (.tmp 96) _ rfl (.pointer (some ⟨p, 0, none⟩)) (.int .i64 (firstOf qq)) (.slice (some ⟨g, 0, none⟩) (dLen sh) gc) ((ev_ne _ _ (by decide)).trans ((ev_ne _ _ (by decide)).trans ((ev_ne _ _ (by decide)).trans ((ev_ne _ _ (by decide)).trans (ev_eq _ _ (by simp [sz])))))) ((ev_ne _ _ (by decide)).trans (ev_eq _ _ (by simp [put_sz, sz]))) (ev_eq _ _ (by simp [put_sz, sz])) ?_
  refine (write_d C2 ht (firstOf qq) hq (List.replicate (dLen sh) y) (some ⟨g, 0, none⟩) gc (bytes_of_row r2 List.length_replicate) (dLen sh) List.length_replicate.symm).mono ?_
  rintro _ V3 ⟨e, s', rfl, hor, C3, o3⟩
  have oF := ((Kept.of_below b1).to (Kept.of_below b2)).to o3
  refine ⟨_, rfl, hK3 _ _ ⟨.inl rfl, ?_⟩⟩
  clear hK3 K3 hm3
  show wpAnyG _ _ _ _ _ _ _ _ ((((((A.put (some 92) (.pointer (some ⟨p, 0, none⟩))).put (some 93) (.agg #[.int .i64 kd, .slice qa qq.length qc, .int .u8 (y.toNat : Int), .bool sh])).put (some 95) (.agg #[.int .i64 kd, .slice qa qq.length qc, .int .u8 (y.toNat : Int), .bool sh])).put (some 94) (.int .i64 (firstOf qq))).put (some 96) (.slice (some ⟨g, 0, none⟩) (dLen sh) gc)).put (some 97) (.int .i64 e)) _
  refine wpAnyG_done (by kernel_rfl) ⟨rfl, g, gc, e, s', rfl, hor, C3, oF⟩ _
/-- the disk of a cache's log -/
theorem logd_c {w : World} {p : Nat} {s : PS} {F : Nat → Prop} (h : Cache w p s F) (ht : s.t ≤ 7000) : Calls Tryz.prog 62 #[.pointer (some ⟨p, 0, none⟩)] w fun r w' => w' = w ∧ ∃ l0, r = .returned (.pointer (some ⟨l0, 0, none⟩)) ∧
    Calls Tryz.prog 31 #[.pointer (some ⟨l0, 0, none⟩)] w fun r1 w1 => Below w.heap.size w w1 ∧ ∃ d0 g cap v, r1 = .returned (.pointer (some ⟨d0, 0, none⟩)) ∧ DiskAt w1 w.heap.size d0 g cap v (psOf (fresh s.S s.P) s.ls) (chOf (fresh s.S s.P) s.ls) := by
  obtain ⟨m1, h1, h2, h3⟩ := h
  refine (pgLog_any h1).mono ?_
  rintro _ w' ⟨rfl, rfl⟩
  refine ⟨rfl, _, rfl, ?_⟩
  have hlen : (psOf (fresh s.S s.P) s.ls).length = s.S + 1 + s.P := h1.log.inv.len
  have hmost := h1.log.inv.most
  have hls := h1.log.lsl
  refine (logDisk_ok h1.log.mem (by omega) hmost (by rw [chOf_length]; omega)).mono ?_
  rintro _ w1 ⟨d', g', cap', v', rfl, hD, hb⟩
  exact ⟨hb, d', g', cap', v', rfl, hD⟩
theorem ls_lt {w : World} {B d g cap S P : Nat} {v : Value} {ls : List (Nat × List UInt8)} (hD : DiskAt w B d g cap v (psOf (fresh S P) ls) (chOf (fresh S P) ls)) (hl : (psOf (fresh S P) ls).length = (fresh S P).length) : ∀ c ∈ ls, c.1 < (fresh S P).length := fun c hc => by
  have h1 : c.1 ∈ ls.map (·.1) := List.mem_map_of_mem hc
  rw [← chOf_fst (fresh S P) ls] at h1
  obtain ⟨c', hc', e⟩ := List.mem_map.1 h1
  have := (hD.chin c' hc').1
  rw [← e, ← hl]
  exact this
theorem commitS_ls (s : PS) : s.ls.length ≤ (commitS s).ls.length := by
  unfold commitS
  split
  · exact Nat.le_refl _
  · split
    · show _ ≤ (s.ls ++ _).length; rw [List.length_append]; omega
    · show _ ≤ ((s.ls ++ _) ++ _).length; rw [List.length_append, List.length_append]; omega
theorem fullS_ls (s : PS) : s.ls.length ≤ (fullS s).ls.length := by show _ ≤ (s.ls ++ _).length; rw [List.length_append]; omega
/-- Commit, both ways at once, with what a cut finds -/
def CutC (w : World) (p : Nat) (s : PS) (F : Nat → Prop) (r : Ending) (w' : World) : Prop :=
  ∃ (e : Int) (s' : PS), r = .returned (.int .i64 e) ∧ (e = 0 ∨ (e = 7 ∧ pagesOf s = pagesOf s')) ∧ (s'.S = s.S ∧ s'.P = s.P ∧ s'.t ≤ s.t + 3 ∧ s.ls.length ≤ s'.ls.length) ∧ (∀ j, s.ls.length ≤ j → OpensAs s.S s.P (s.G + 1) (psOf (fresh s.S s.P) (s'.ls.take j)) s.page s'.page) ∧ Cache w' p s' F ∧ Kept F w w'
theorem com_cutc {w : World} {p : Nat} {s : PS} {F : Nat → Prop} (h : Cache w p s F) (ht : s.t ≤ 7000) (hP : s.P ≤ 100) : Calls Tryz.prog 68 #[.pointer (some ⟨p, 0, none⟩)] w (CutC w p s F) := by
  have hm : ∃ m, PgMem w p m s := by obtain ⟨m, h1, _⟩ := h; exact ⟨m, h1⟩
  obtain ⟨m, h1⟩ := hm
  have hgr := h1.log.gr
  refine (com_c h ht hP).mono ?_
  rintro _ w' (⟨hc, rfl, C, o⟩ | ⟨hc, rfl, C, o⟩)
  · obtain ⟨q1, q2, q3, q4, q5, _⟩ := commitS_same (s := s)
    exact ⟨0, _, rfl, .inl rfl, ⟨q3, q4, Nat.le_of_eq q5, commitS_ls s⟩, fun j hj => commit_cut h1.log.inv h1.ok (by omega) hc j hj, C, o⟩
  · exact ⟨7, _, rfl, .inr ⟨rfl, (pagesOf_congr (s := s) (s' := fullS s) rfl (fun q hq => fullS_page h1.log.inv (by omega) q hq)).symm⟩, ⟨rfl, rfl, Nat.le_refl _, fullS_ls s⟩, fun j hj => full_cut h1.log.inv (by omega) j hj, C, o⟩
theorem img_slice {w : World} {B : Nat} {v : Value} {vs : List Value} {ps : List (List UInt8)} {n : Nat} (h : ImgAt w B v vs ps) (hn : ps.length = n) (h0 : 0 < n) : ∃ b c, v = .slice (some ⟨b, 0, none⟩) n c := by
  rcases h.row.2 with ⟨_, e⟩ | ⟨g, c, _, e, _⟩
  · omega
  · exact ⟨g, c, by rw [e, hn]⟩
theorem pages_256 {w : World} {p : Nat} {s : PS} {F : Nat → Prop} (h : Cache w p s F) : ∀ x ∈ pagesOf s, x.length = 256 := by
  obtain ⟨m, h1, _⟩ := h
  intro x hx
  unfold pagesOf at hx
  obtain ⟨q, hq, rfl⟩ := List.mem_map.1 hx
  exact page_len h1 (List.mem_range.1 hq)
set_option maxHeartbeats 4000000 in
theorem pagerCuts_walk (za k16 : Nat) (hza : za < 256) (hk16 : k16 < 65536) (a : Option Addr) (l : List Dd) (cap : Nat) (w : World) (hl : DdsAt w a l) (hll : l.length ≤ 9223372036854775807) : Calls Tryz.prog 10 #[.int .u8 (za : Int), .slice a l.length cap, .int .u16 (k16 : Int)] w fun e w' => e = .returned (.bool true) ∧ Below w.heap.size w w' := by
  obtain ⟨N, hN⟩ : ∃ N, N = l.length := ⟨_, rfl⟩
  have HL := hid hl
  have HN := hid hN
  rw [← hN] at hll ⊢
  obtain ⟨F, hF⟩ : ∃ F : Nat → Prop, F = fun k => k < w.heap.size := ⟨_, rfl⟩
  have HF : Hid (∀ k, k < w.heap.size → F k) := by rw [hF]; exact fun k hk => hk
  have HFe : Hid (∀ k, F k → k < w.heap.size) := by rw [hF]; exact fun k hk => hk
  clear hl hN hF
  go_enter Tryz.func10, Tryz.ntmps10
  go_wp2_with fail
  generalize hSz : (za : Int) % 12 + 2 = Sz
  obtain ⟨S, rfl, hS2, hS3⟩ : ∃ S : Nat, Sz = (S : Int) ∧ 2 ≤ S ∧ S ≤ 13 := ⟨Sz.toNat, by omega, by omega, by omega⟩
  clear hSz
  refine (open_c w S 4 hS2 (by omega) (by omega) (by omega) F HFe.out).mono ?_
  rintro _ w1 ⟨p, q, rfl, C1, b1⟩
  have HC1 := hid C1
  have HB1 := hid b1
  clear C1 b1
  go_wp2_with fail
  refine (pgLive_any _).mono ?_
  rintro _ w2 ⟨rfl, b2⟩
  have HC2 := hid (HC1.out.below b2)
  have HB2 := hid (Below.on' HB1.out b2)
  clear b2 HC1 HB1
  go_wp2_with fail
  go_loopw [11] (fun i wr => ∃ (k : Nat) (s : PS), k ≤ N ∧ k ≤ 60 ∧ i = .int .i64 (k : Int) ∧ (s.S = S ∧ s.P = 11) ∧ s.t ≤ 3 * k ∧ Cache wr p s F ∧ Below w.heap.size w wr) (fun i _ => 60 - (intOf i).toNat)
  case atStart => exact ⟨0, newS S 11 0 0 [] [] 4, Nat.zero_le _, Nat.zero_le _, rfl, ⟨rfl, rfl⟩, Nat.zero_le _, HC2.out, HB2.out⟩
  case round =>
    obtain ⟨k, s, hkN, hk60, rfl, hsS, hst, hC, hB⟩ := hrel
    have HC := hid hC
    have HB := hid hB
    have Hs := hid hsS
    clear hC hB hsS HC2 HB2
    by_cases hlt : k < N ∧ k < 60
    · obtain ⟨hlt1, hlt2⟩ := hlt
      have f1 : (k : Int) < (N : Int) := by omega
      have f2 : (k : Int) < 60 := by omega
      have hkl : k < l.length := by have := HN.out; omega
      obtain ⟨b, o, ha, d0, d1, d2, d3, hok⟩ := (HL.out.keep HB.out) k hkl
      subst ha
      generalize hdd : l[k] = dd at *
      obtain ⟨kd, qa, qq, qc, y, sh⟩ := dd
      dsimp only at d0 d1 d2 d3
      have hq := first_wf hok
      dsimp only at hq
      have HD := hid hok
      clear hdd hok
      obtain ⟨w3, hw3⟩ : ∃ w3, w3 = wr.alloc (.cells #[.int .i64 kd, .slice qa qq.length qc, .int .u8 (y.toNat : Int), .bool sh] 79) := ⟨_, rfl⟩
      have b3 : Below wr.heap.size wr w3 := by rw [hw3]; exact (Below.refl _ wr).alloc (Nat.le_refl _) _
      have x3 : w3.heap[wr.heap.size]? = some (.cells #[.int .i64 kd, .slice qa qq.length qc, .int .u8 (y.toNat : Int), .bool sh] 79 (0, 0)) := by rw [hw3]; exact heap_alloc_new _ _
      have HB3 := hid (Below.on' HB.out b3)
      have HC3 := hid (HC.out.below b3)
      have HD3 := hid (HD.out.below b3)
      have hdc : DdCells wr.heap.size 0 kd qa qq qc y sh w3 := ⟨cell_of_row _ _ 0 _ _ _ x3, cell_of_row _ _ 1 _ _ _ x3, cell_of_row _ _ 2 _ _ _ x3, cell_of_row _ _ 3 _ _ _ x3⟩
      have Hdc := hid hdc
      have HW3 := hid hw3
      clear b3 x3 hdc hw3
      by_cases hk0 : kd = 0
      · subst hk0
        have Hfi := hid (first4_any 0 qa qq qc y sh w3 HD3.out.ints HD3.out.len)
        go_wp2_with fail
        rw [show wr.alloc (.cells #[.int .i64 0, .slice qa qq.length qc, .int .u8 (y.toNat : Int), .bool sh] 79) = w3 from HW3.out.symm]
        refine Hfi.out.mono ?_
        rintro _ w4 ⟨rfl, b4⟩
        have HB4 := hid (Below.on' HB3.out b4)
        have HRd := hid (read_c (HC3.out.below b4) (by omega) (firstOf qq) hq)
        clear b4 Hfi d0 d1 d2 d3
        go_wp2_with fail
        refine HRd.out.mono ?_
        rintro _ w5 (⟨hbad, rfl, C5, b5⟩ | ⟨hgood, bx, cx, rfl, rx, C5, o5, hbx⟩)
        · have HB5 := hid (Below.on' HB4.out b5)
          have HC5 := hid C5
          clear C5 b5 HRd
          go_wp2
          go_roundw
          case rel => exact ⟨k + 1, s, by omega, by omega, by go_num, Hs.out, by omega, HC5.out, HB5.out⟩
          case measure => simp [intOf]; omega
        · have HB5 := hid (HB4.out.trans (o5.below HB4.out.size HF.out))
          have HC5 := hid (C5.mono (F' := F) (fun k hk => .inl hk))
          clear C5 o5 rx HRd
          go_wp2
          go_roundw
          case rel =>
            obtain ⟨q1, q2, q3, q4, _⟩ := readS_same (s := s) (firstOf qq).toNat
            exact ⟨k + 1, readS s (firstOf qq).toNat, by omega, by omega, by go_num, ⟨q1.trans Hs.out.1, q2.trans Hs.out.2⟩, by omega, HC5.out, HB5.out⟩
          case measure => simp [intOf]; omega
      by_cases hk1 : kd = 1
      · subst hk1
        go_wp2_with fail
        rw [show wr.alloc (.cells #[.int .i64 1, .slice qa qq.length qc, .int .u8 (y.toNat : Int), .bool sh] 79) = w3 from HW3.out.symm]
        obtain ⟨V0, hV0⟩ : ∃ V0, V0 = w3.drew := ⟨_, rfl⟩
        have b10 : Below w3.heap.size w3 V0 := by rw [hV0]; exact (Below.refl _ w3).drew
        refine wp_act _ fun A hA => ?_
        have sz : A.tmps.size = 161 := by rw [hA]; rfl
        have e8 : A.eval (.tmp 8) = .pointer (some ⟨p, 0, none⟩) := by rw [hA]; rfl
        have e12 : A.eval (.tmp 12) = .pointer (some ⟨wr.heap.size, 0, none⟩) := by rw [hA]; rfl
        refine wp_split _ (ct_region13 sz e8 e12 hV0 (Hdc.out.below b10) (HD3.out.below b10) (HC3.out.below b10) (by omega) hq) ?_
        rintro _ V3 ⟨g, gc, e, s', rfl, hor, C4, o4⟩
        rw [hA]
        simp only [Act.put, List.setIfInBounds_toArray, List.set_cons_succ, List.set_cons_zero]
        have HC4 := hid C4
        have HB4 := hid ((Below.on' HB3.out b10).trans (o4.below (Below.on' HB3.out b10).size HF.out))
        have Hs' : Hid (s'.S = S ∧ s'.P = 11 ∧ s'.t ≤ s.t + 1) := by
          rcases hor with ⟨_, _, rfl⟩ | ⟨_, _, rfl⟩
          · exact ⟨Hs.out.1, Hs.out.2, Nat.le_succ _⟩
          · exact ⟨Hs.out.1, Hs.out.2, Nat.le_refl _⟩
        clear C4 o4 hor hA sz e8 e12 b10 hV0 d0 d1 d2 d3
        go_wp2
        go_roundw
        case rel => exact ⟨k + 1, s', by omega, by omega, by go_num, ⟨Hs'.out.1, Hs'.out.2.1⟩, by have := Hs'.out.2.2; omega, HC4.out, HB4.out⟩
        case measure => simp [intOf]; omega
      by_cases hk2 : kd = 2
      · subst hk2
        have f3 : IntKind.i64.wrap ((k : Int) + 1) = (k : Int) + 1 := by rw [IntKind.wrap_i64]; omega
        by_cases hlast : k + 1 < N
        · have f4 : (k : Int) + 1 < (N : Int) := by omega
          have HCo := hid (com_c HC3.out (by omega) (by have := Hs.out.2; omega))
          go_wp2_with fail
          rw [show wr.alloc (.cells #[.int .i64 2, .slice qa qq.length qc, .int .u8 (y.toNat : Int), .bool sh] 79) = w3 from HW3.out.symm]
          refine HCo.out.mono ?_
          rintro _ w5 (⟨_, rfl, C5, o5⟩ | ⟨_, rfl, C5, o5⟩)
          · have HB5 := hid (HB3.out.trans (o5.below HB3.out.size HF.out))
            have HC5 := hid C5
            clear C5 o5 HCo d0 d1 d2 d3
            go_wp2
            go_roundw
            case rel =>
              obtain ⟨q1, q2, q3, q4, q5, _⟩ := commitS_same (s := s)
              exact ⟨k + 1, commitS s, by omega, by omega, by go_num, ⟨q3.trans Hs.out.1, q4.trans Hs.out.2⟩, by omega, HC5.out, HB5.out⟩
            case measure => simp [intOf]; omega
          · have HB5 := hid (HB3.out.trans (o5.below HB3.out.size HF.out))
            have HC5 := hid C5
            clear C5 o5 HCo d0 d1 d2 d3
            go_wp2
            go_roundw
            case rel => exact ⟨k + 1, fullS s, by omega, by omega, by go_num, Hs.out, by show s.t + 3 ≤ _; omega, HC5.out, HB5.out⟩
            case measure => simp [intOf]; omega
        · have f4 : ¬ (k : Int) + 1 < (N : Int) := by omega
          go_wp2
          go_roundw
          case rel => exact ⟨k + 1, s, by omega, by omega, by go_num, Hs.out, by omega, HC.out, HB.out⟩
          case measure => simp [intOf]; omega
      · have n0 : (kd == 0) = false := beq_eq_false_iff_ne.2 hk0
        have n1 : (kd == 1) = false := beq_eq_false_iff_ne.2 hk1
        have n2 : (kd == 2) = false := beq_eq_false_iff_ne.2 hk2
        go_wp2_with fail
        go_roundw
        case rel => exact ⟨k + 1, s, by omega, by omega, by go_num, Hs.out, by omega, HC.out, HB.out⟩
        case measure => simp [intOf]; omega
    · have HLg := hid (log_c HC.out (by have := Hs.out.2; omega))
      rcases (show (¬ (k : Int) < (N : Int)) ∨ ((k : Int) < (N : Int) ∧ ¬ (k : Int) < 60) by omega) with f1 | ⟨f1, f2⟩
      all_goals
        go_wp2_with fail
        refine HLg.out.mono ?_
        rintro _ w' ⟨l0, rfl, e0, hall⟩
        subst w'
        have Hall := hid hall
        clear hall HLg
        go_wp2_with fail
        refine Hall.out.mono ?_
        rintro _ w3 ⟨v1, vs1, rfl, hI, b3⟩
        have hW := Was.of (B := w.heap.size) HC.out HF.out hI b3 HB.out.size
        have HB3 := hid (Below.on' HB.out b3)
        obtain ⟨a1, c1, hv1⟩ := img_slice hI (pagesOf_len s) (by have := Hs.out.2; omega)
        rw [Hs.out.2] at hv1
        obtain ⟨vs1', hI1, hC1⟩ := hW
        obtain ⟨F1, hF1⟩ : ∃ F1 : Nat → Prop, F1 = fun k => k < w.heap.size ∨ imgB v1 vs1' k := ⟨_, rfl⟩
        rw [← hF1] at hC1
        have HF1 : Hid (∀ k, k < w.heap.size → F1 k) := by rw [hF1]; exact fun k hk => .inl hk
        have HF2 : Hid (∀ k, imgB v1 vs1' k → F1 k) := by rw [hF1]; exact fun k hk => .inr hk
        subst hv1
        have HI1 := hid hI1
        have HC1 := hid hC1
        have HLd := hid (logd_c hC1 (by omega))
        clear hI hI1 hC1 hF1 b3 Hall HC
        go_wp2_with fail
        refine HLd.out.mono ?_
        rintro _ w' ⟨e0, l1, rfl, hdk⟩
        subst w'
        have Hdk := hid hdk
        clear hdk HLd
        go_wp2_with fail
        refine Hdk.out.mono ?_
        rintro _ w4 ⟨b4, d4, g4, cap4, v4, rfl, hD4⟩
        have hcnt := count_any hD4
        rw [chOf_length] at hcnt
        have Hcnt := hid hcnt
        have HC4 := hid (HC1.out.below b4)
        have HI4 := hid (HI1.out.below b4)
        have HB4 := hid (Below.on' HB3.out b4)
        clear b4 hD4 hcnt Hdk HC1 HI1 HB3
        go_wp2_with fail
        refine Hcnt.out.mono ?_
        rintro _ w' ⟨rfl, e0⟩
        subst w'
        have HCc := hid (com_cutc HC4.out (by omega) (by have := Hs.out.2; omega))
        have hgr : s.G ≤ 100000 := by
          obtain ⟨m, h1, _⟩ := HC4.out
          have := h1.log.gr
          omega
        have H256 := hid (pages_256 HC4.out)
        clear Hcnt
        go_wp2_with fail
        refine HCc.out.mono ?_
        rintro _ w5 ⟨e, s', rfl, he, ⟨hS', hP', ht', hls⟩, hop, hC5, o5⟩
        have HI5 := hid (HI4.out.keepB (w' := w5) (fun k hk => o5.get (HF2.out k hk) (HI4.out.ge hk).2))
        have HB5 := hid (HB4.out.trans (o5.below HB4.out.size HF1.out))
        have HLg := hid (log_c hC5 (by have := Hs.out.2; omega))
        have H256' := hid (pages_256 hC5)
        have HC5 := hid hC5
        have Hop := hid hop
        have He := hid he
        have Hs' : Hid (s'.S = S ∧ s'.P = 11 ∧ s'.t ≤ 183) := ⟨hS'.trans Hs.out.1, hP'.trans Hs.out.2, by omega⟩
        clear hop he hC5 o5 HCc HC4 HI4 HB4 hS' hP' ht'
        go_wp2_with fail
        refine HLg.out.mono ?_
        rintro _ w' ⟨l2, rfl, e0, hall⟩
        subst w'
        have Hall := hid hall
        clear hall HLg
        go_wp2_with fail
        refine Hall.out.mono ?_
        rintro _ w6 ⟨v2, vs2, rfl, hI, b6⟩
        obtain ⟨a2, c2, hv2⟩ := img_slice hI (pagesOf_len s') (by have := Hs'.out.2.1; omega)
        rw [Hs'.out.2.1] at hv2
        subst hv2
        have HJ6 := hid hI
        have HI6 := hid (HI5.out.below b6)
        have HC6 := hid (HC5.out.below b6)
        have HB6 := hid (Below.on' HB5.out b6)
        have HLd := hid (logd_c HC6.out (by have := Hs'.out.2.2; omega))
        clear hI b6 Hall HC5 HI5 HB5
        go_wp2_with fail
        refine HLd.out.mono ?_
        rintro _ w' ⟨e0, l3, rfl, hdk⟩
        subst w'
        have Hdk := hid hdk
        clear hdk HLd
        go_wp2_with fail
        refine Hdk.out.mono ?_
        rintro _ w7 ⟨b7, d7, g7, cap7, v7, rfl, hD7⟩
        have hcnt := count_any hD7
        rw [chOf_length] at hcnt
        have Hcnt := hid hcnt
        have HD7 := hid hD7
        have HC7 := hid (HC6.out.below b7)
        have HI7 := hid (HI6.out.below b7)
        have HJ7 := hid (HJ6.out.below b7)
        have HB7 := hid (Below.on' HB6.out b7)
        clear b7 hD7 hcnt Hdk HC6 HI6 HJ6 HB6
        go_wp2_with fail
        refine Hcnt.out.mono ?_
        rintro _ w' ⟨rfl, e0⟩
        subst w'
        clear Hcnt
        have hbig : s'.ls.length ≤ 1000000 := by
          obtain ⟨m, h1, _⟩ := HC7.out
          have := h1.log.lsl
          have := Hs'.out.2.2
          omega
        go_wp2_with fail
        obtain ⟨jz, hjz⟩ : ∃ jz : Int, jz = (k16 : Int) % ((s'.ls.length : Int) - (s.ls.length : Int) + 1) := ⟨_, rfl⟩
        rw [← hjz]
        have hj0 : 0 ≤ jz ∧ jz < (s'.ls.length : Int) - (s.ls.length : Int) + 1 := by
          rw [hjz]
          exact ⟨Int.emod_nonneg _ (by omega), Int.emod_lt_of_pos _ (by omega)⟩
        obtain ⟨j, hj, hj1, hj2⟩ : ∃ j : Nat, wrap64 ((s.ls.length : Int) + jz) = (j : Int) ∧ s.ls.length ≤ j ∧ j ≤ s'.ls.length := ⟨s.ls.length + jz.toNat, by unfold wrap64; omega, by omega, by omega⟩
        rw [hj]
        clear hj hj0 hjz
        have hlen7 : (psOf (fresh s'.S s'.P) s'.ls).length = s'.S + 1 + s'.P := by obtain ⟨m, h1, _⟩ := HC7.out; exact h1.log.inv.len
        have hfl : (fresh s'.S s'.P).length = s'.S + 1 + s'.P := by rw [← hlen7, psOf_length]
        have hlt7 := ls_lt HD7.out (hlen7.trans hfl.symm)
        have hcut := cut_ok HD7.out j (by rw [chOf_length]; exact hj2) (by rw [chOf_length]; exact hbig) (by omega) (by rw [hlen7, Hs'.out.1, Hs'.out.2.1]; omega)
        rw [undo_psOf _ _ hlt7 j hj2] at hcut
        have Hcut := hid hcut
        clear hcut hlt7 hfl hlen7
        refine Hcut.out.mono ?_
        rintro _ w8 ⟨d8, g8, cap8, rfl, hD8, b8⟩
        have hopj := Hop.out j hj1
        obtain ⟨G, gs, hInv, hGT, hpg⟩ := hopj
        rw [Hs'.out.1, Hs'.out.2.1] at hD8
        rw [Hs.out.1, Hs.out.2] at hInv hpg
        have hopen := open_ok hD8 S G 11 gs hInv (by omega) (by simp)
        have Hopen := hid hopen
        have HI8 := hid (HI7.out.below b8)
        have HJ8 := hid (HJ7.out.below b8)
        have HB8 := hid (Below.on' HB7.out b8)
        have Hpg := hid hpg
        have HInv := hid hInv
        clear hopen hD8 b8 hInv hpg Hcut HD7 HC7 HI7 HJ7 HB7 Hop hgr hGT
        go_wp2_with fail
        refine Hopen.out.mono ?_
        rintro _ w9 ⟨l9, d9, g9, cap9, mb9, n9, rfl, _, hM, b9⟩
        have Hall := hid (all_log hM HInv.out (by omega))
        have HI9 := hid (HI8.out.below b9)
        have HJ9 := hid (HJ8.out.below b9)
        have HB9 := hid (Below.on' HB8.out b9)
        clear hM b9 Hopen HI8 HJ8 HB8
        go_wp2_with fail
        refine Hall.out.mono ?_
        rintro _ w10 ⟨v3, rfl, ⟨vs3, hI3, _⟩, b10⟩
        obtain ⟨now, hnow⟩ : ∃ now, now = (List.range 11).map (pageNow (psOf (fresh S 11) (s'.ls.take j)) S gs) := ⟨_, rfl⟩
        have hnl : now.length = 11 := by rw [hnow]; simp
        have hn256 : ∀ x ∈ now, x.length = 256 := by
          rw [hnow]
          intro x hx
          obtain ⟨q, hq, rfl⟩ := List.mem_map.1 hx
          exact pageNow_length HInv.out q (List.mem_range.1 hq)
        have hor : now = pagesOf s ∨ now = pagesOf s' := by
          rcases Hpg.out with h | h
          · left
            rw [hnow]
            unfold pagesOf
            rw [Hs.out.2]
            exact List.map_congr_left (fun q hq => h q (List.mem_range.1 hq))
          · right
            rw [hnow]
            unfold pagesOf
            rw [Hs'.out.2.1]
            exact List.map_congr_left (fun q hq => h q (List.mem_range.1 hq))
        rw [← hnow] at hI3
        obtain ⟨a3, c3, hv3⟩ := img_slice hI3 hnl (by omega)
        subst hv3
        have h256 := H256.out
        have h256' := H256'.out
        have HI10 := hid (HI9.out.below b10)
        have HJ10 := hid (HJ9.out.below b10)
        have HB10 := hid (Below.on' HB9.out b10)
        have HK10 := hid hI3
        have HS1 : Hid (∀ w', Below w10.heap.size w10 w' → Calls Tryz.prog 35 #[.slice (some ⟨a1, 0, none⟩) 11 c1, .slice (some ⟨a2, 0, none⟩) 11 c2] w' (SamePost w' (pagesOf s) (pagesOf s'))) := fun w' hb => sameAll_bool (by rw [pagesOf_len, Hs.out.2]) (by rw [pagesOf_len, Hs'.out.2.1]) (HI10.out.below hb) (HJ10.out.below hb) (by omega) h256 h256'
        have HS2 : Hid (∀ w', Below w10.heap.size w10 w' → Calls Tryz.prog 35 #[.slice (some ⟨a3, 0, none⟩) 11 c3, .slice (some ⟨a1, 0, none⟩) 11 c1] w' (SamePost w' now (pagesOf s))) := fun w' hb => sameAll_bool hnl.symm (by rw [pagesOf_len, Hs.out.2]) (HK10.out.below hb) (HI10.out.below hb) (by omega) hn256 h256
        have HS3 : Hid (∀ w', Below w10.heap.size w10 w' → Calls Tryz.prog 35 #[.slice (some ⟨a3, 0, none⟩) 11 c3, .slice (some ⟨a2, 0, none⟩) 11 c2] w' (SamePost w' now (pagesOf s'))) := fun w' hb => sameAll_bool hnl.symm (by rw [pagesOf_len, Hs'.out.2.1]) (HK10.out.below hb) (HJ10.out.below hb) (by omega) hn256 h256'
        have Hor := hid hor
        clear hnow hnl hn256 hor h256 h256' hI3 b10 Hall HI9 HJ9 HB9 HI10 HJ10 HK10 HInv Hpg
        obtain ⟨pa, hpa⟩ : ∃ pa, pa = pagesOf s := ⟨_, rfl⟩
        obtain ⟨pb, hpb⟩ : ∃ pb, pb = pagesOf s' := ⟨_, rfl⟩
        rw [← hpa, ← hpb] at HS1 Hor He
        rw [← hpa] at HS2
        rw [← hpb] at HS3
        clear hpa hpb
        rcases He.out with he | ⟨he, hpp⟩
        · subst he
          clear HS1 He
          go_wp2_with fail
          refine (HS2.out _ (Below.refl _ _)).mono ?_
          rintro _ w11 ⟨b1, rfl, hb1, b11⟩
          have HB11 := hid (Below.on' HB10.out b11)
          have Hb1 := hid hb1
          have HS3' := hid (HS3.out _ b11)
          clear hb1 b11 HS2 HS3
          cases b1
          · go_wp2_with fail
            refine HS3'.out.mono ?_
            rintro _ w12 ⟨b2, rfl, hb2, b12⟩
            have HB12 := hid (Below.on' HB11.out b12)
            have hb2' : b2 = true := by
              rcases Hor.out with h | h
              · have := Hb1.out h; simp at this
              · exact hb2 h
            subst hb2'
            clear hb2 b12 HS3' Hb1
            go_wp2
            go_ret
            exact ⟨rfl, HB12.out⟩
          · go_wp2
            go_ret
            exact ⟨rfl, HB11.out⟩
        · subst he
          have Hpp := hid hpp
          clear He hpp
          go_wp2_with fail
          refine (HS1.out _ (Below.refl _ _)).mono ?_
          rintro _ w11 ⟨b0, rfl, hb0, b11⟩
          have hb0' := hb0 Hpp.out
          subst hb0'
          have HB11 := hid (Below.on' HB10.out b11)
          have HS2' := hid (HS2.out _ b11)
          have B11 := hid b11
          clear b11 hb0 HS1 HS2
          go_wp2_with fail
          refine HS2'.out.mono ?_
          rintro _ w12 ⟨b1, rfl, hb1, b12⟩
          have hb1' : b1 = true := by
            rcases Hor.out with h | h
            · exact hb1 h
            · exact hb1 (h.trans Hpp.out.symm)
          subst hb1'
          have HB12 := hid (Below.on' HB11.out b12)
          clear b12 hb1 HS2' HS3
          go_wp2
          go_ret
          exact ⟨rfl, HB12.out⟩

end Go.Proofs.YthdcjepkehifoaaGreat
