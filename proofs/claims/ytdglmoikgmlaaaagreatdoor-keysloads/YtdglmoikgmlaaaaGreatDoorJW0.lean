/- YtdglmoikgmlaaaaGreatDoorJP3 + YtdglmoikgmlaaaaGreatDoorJW0 -/
import Derived.Test.YtdglmoikgmlaaaaGreatDoorJP2
import Derived.OrdersHeld
import Derived.Deep.RegionHeld3
import Derived.Test.YtdglmoikgmlaaaaGreatDoorJ16
import Derived.Test.YtdglmoikgmlaaaaGreatDoorJToNum
/- play of the laws on keys: both trees do the same. (Printed by gen/jplay.py.) -/
namespace Go.Proofs.YtdglmoikgmlaaaaGreatDoor
open Go.RowKit Go.Maps
set_option linter.unusedVariables false
set_option maxRecDepth 20000
def PRel (w0 : World) (B g mv mg gr : Nat) (root : List UInt8) (d0 n0 k : Nat) (last : Value) (w : World) : Prop := ∃ s L, KP w0 w B g mv mg gr root s s (d0 + k) ∧ (s.n ≤ n0 + k ∧ s.n ≤ 1099511627776) ∧ w.ownsRow B 5 1 last L.length (cellsOf L) ∧ L.length ≤ 2000
def PlayP (w0 : World) (B g mv mg gr : Nat) (root : List UInt8) (d0 n0 : Nat) (e : Ending) (w' : World) : Prop := e = .returned (.bool true) ∧ ∃ s, KP w0 w' B g mv mg gr root s s (d0 + 60) ∧ s.n ≤ n0 + 60 ∧ s.n ≤ 1099511627776
theorem own_ofst {w : World} {B : Nat} {v : Value} {L : List UInt8} (h : w.ownsRow B 5 1 v L.length (cellsOf L)) : ∃ a cap, v = .slice a L.length cap ∧ Bytes w a L ∧ L.length ≤ cap ∧ (a = none → cap = 0) ∧ (L ≠ [] → ∃ gs, a = some ⟨gs, 0, none⟩) := by
  obtain ⟨a, cap, rfl, h1, h2, h3⟩ := bytes_of_own0 h
  refine ⟨a, cap, rfl, h1, h2, h3, fun h4 => ?_⟩
  rcases h.2 with ⟨e, h5⟩ | ⟨g, c, cur, e, _⟩
  · exact absurd (List.eq_nil_of_length_eq_zero h5) h4
  · injection e with e1; exact ⟨g, e1⟩
theorem KDs.at {w : World} {a : Option Addr} {l : List KD} (h : KDs w a l) {k : Nat} (hk : k < l.length) : ∃ b o, a = some ⟨b, o, none⟩ ∧ w.cell? ⟨b, o + k * 6, none⟩ = some (.int .i64 l[k].kd) ∧ w.cell? ⟨b, o + k * 6 + 1, none⟩ = some (.string l[k].ten) ∧ w.cell? ⟨b, o + k * 6 + 2, none⟩ = some (.string l[k].pur) ∧ w.cell? ⟨b, o + k * 6 + 3, none⟩ = some (.slice l[k].a l[k].bs.length l[k].c) ∧ w.cell? ⟨b, o + k * 6 + 4, none⟩ = some (.int .i64 l[k].n) ∧ w.cell? ⟨b, o + k * 6 + 5, none⟩ = some (.bool l[k].last) := by
  obtain ⟨b, o, e, _, hr⟩ := h.cells k hk
  exact ⟨b, o, e, by simpa using hr 0 _ rfl, hr 1 _ rfl, hr 2 _ rfl, hr 3 _ rfl, hr 4 _ rfl, hr 5 _ rfl⟩
theorem hf_desJ : ∀ (args : Array Value) (w : World), (callFunc 22 args).run Tryz.prog w = .ok (.enter 22 args) w := fun args w => by simp [go_sem]
theorem hf_rdesJ : ∀ (args : Array Value) (w : World), (callFunc 23 args).run Tryz.prog w = .ok (.enter 23 args) w := fun args w => by simp [go_sem]
noncomputable def codePlay (n : Nat) : Code := ((Tryz.f9.body.bind (regionAt n)).getD .skip)
set_option maxHeartbeats 4000000 in
theorem play_region22 {V0 W5 : World} {g gr x : Nat} {q : KD} {er : Int} {P1 P2 : World → Prop} {A : Act} (sz : A.tmps.size = 267) (e0 : A.eval (.tmp 0) = .pointer (some ⟨g, 0, none⟩)) (e1 : A.eval (.tmp 1) = .pointer (some ⟨gr, 0, none⟩)) (e9 : A.eval (.tmp 9) = .pointer (some ⟨x, 0, none⟩))
    (hp : Calls Tryz.prog 22 #[.pointer (some ⟨g, 0, none⟩), .string q.ten] V0 fun e w' => e = .returned (.int .i64 er) ∧ P1 w') (hr : ∀ W, P1 W → Calls Tryz.prog 23 #[.pointer (some ⟨gr, 0, none⟩), .string q.ten] W fun e w' => e = .returned (.int .i64 er) ∧ P2 w') (x1 : ∀ W, P1 W → XAt W x q) (x2 : ∀ W, P2 W → XAt W x q) (hV0 : V0 = W5.drew) (hs0 : (fun V => XAt V x q) V0) :
    (codePlay 22).wp Tryz.prog (fun ex b V => ex = .normal ∧ b = (((((((((A.put (some 150) (.pointer (some ⟨g, 0, none⟩))).put (some 151) (.pointer (some ⟨x, 1, none⟩))).put (some 152) (.string q.ten)).put (some 154) (.pointer (some ⟨gr, 0, none⟩))).put (some 155) (.pointer (some ⟨x, 1, none⟩))).put (some 156) (.string q.ten)).put (some 153) (.int .i64 er)).put (some 157) (.int .i64 er)).put (some 158) (.bool false)) ∧ P2 V) A W5 := by
  have hm : Tryz.prog.follows .mixedOrders = true := by kernel_rfl
  unfold codePlay
  conv => arg 2; whnf
  refine wp_region_G (fun _ => false) ((fun V => XAt V x q)) hm ?_
  rw [show ({ W5 with drawn := W5.drawn + 1 } : World) = V0 from hV0.symm]
  refine wpAnyG_take (i := 0) (v := .pointer (some ⟨g, 0, none⟩)) rfl (by kernel_rfl) (by kernel_rfl) (by kernel_rfl) (fun _ _ _ h => nomatch h.1) (yg_mv (by simp [Region.wanted]) (.tmp 0) rfl e0) hs0 ?_
  show wpAnyG _ _ _ _ _ _ _ _ (A.put (some 150) (.pointer (some ⟨g, 0, none⟩))) _
  refine wpAnyG_take (i := 1) (v := .pointer (some ⟨x, 1, none⟩)) rfl (by kernel_rfl) (by kernel_rfl) (by kernel_rfl) (fun _ _ _ h => nomatch h.1) (yg_fld (by simp [Region.wanted]) (.tmp 9) rfl ((ev_ne _ _ (by decide)).trans e9) (fun w => by simp [go_sem])) hs0 ?_
  show wpAnyG _ _ _ _ _ _ _ _ ((A.put (some 150) (.pointer (some ⟨g, 0, none⟩))).put (some 151) (.pointer (some ⟨x, 1, none⟩))) _
  refine wpAnyG_take (i := 2) (v := .string q.ten) rfl (by kernel_rfl) (by kernel_rfl) (by kernel_rfl) (fun _ _ _ h => nomatch h.1) (yg_ld (by simp [Region.wanted]) (.tmp 151) rfl (ev_eq _ _ (by simp [put_sz, sz])) (fun w hw => by have h1 := hw.c.2.1; simp [go_sem, h1])) hs0 ?_
  show wpAnyG _ _ _ _ _ _ _ _ (((A.put (some 150) (.pointer (some ⟨g, 0, none⟩))).put (some 151) (.pointer (some ⟨x, 1, none⟩))).put (some 152) (.string q.ten)) _
  refine wpAnyG_take (i := 4) (v := .pointer (some ⟨gr, 0, none⟩)) rfl (by kernel_rfl) (by kernel_rfl) (by kernel_rfl) (fun _ _ _ h => nomatch h.1) (yg_mv (by simp [Region.wanted]) (.tmp 1) rfl ((ev_ne _ _ (by decide)).trans ((ev_ne _ _ (by decide)).trans ((ev_ne _ _ (by decide)).trans e1)))) hs0 ?_
  show wpAnyG _ _ _ _ _ _ _ _ ((((A.put (some 150) (.pointer (some ⟨g, 0, none⟩))).put (some 151) (.pointer (some ⟨x, 1, none⟩))).put (some 152) (.string q.ten)).put (some 154) (.pointer (some ⟨gr, 0, none⟩))) _
  refine wpAnyG_take (i := 5) (v := .pointer (some ⟨x, 1, none⟩)) rfl (by kernel_rfl) (by kernel_rfl) (by kernel_rfl) (fun _ _ _ h => nomatch h.1) (yg_fld (by simp [Region.wanted]) (.tmp 9) rfl ((ev_ne _ _ (by decide)).trans ((ev_ne _ _ (by decide)).trans ((ev_ne _ _ (by decide)).trans ((ev_ne _ _ (by decide)).trans e9)))) (fun w => by simp [go_sem])) hs0 ?_
  show wpAnyG _ _ _ _ _ _ _ _ (((((A.put (some 150) (.pointer (some ⟨g, 0, none⟩))).put (some 151) (.pointer (some ⟨x, 1, none⟩))).put (some 152) (.string q.ten)).put (some 154) (.pointer (some ⟨gr, 0, none⟩))).put (some 155) (.pointer (some ⟨x, 1, none⟩))) _
  refine wpAnyG_take (i := 6) (v := .string q.ten) rfl (by kernel_rfl) (by kernel_rfl) (by kernel_rfl) (fun _ _ _ h => nomatch h.1) (yg_ld (by simp [Region.wanted]) (.tmp 155) rfl (ev_eq _ _ (by simp [put_sz, sz])) (fun w hw => by have h1 := hw.c.2.1; simp [go_sem, h1])) hs0 ?_
  show wpAnyG _ _ _ _ _ _ _ _ ((((((A.put (some 150) (.pointer (some ⟨g, 0, none⟩))).put (some 151) (.pointer (some ⟨x, 1, none⟩))).put (some 152) (.string q.ten)).put (some 154) (.pointer (some ⟨gr, 0, none⟩))).put (some 155) (.pointer (some ⟨x, 1, none⟩))).put (some 156) (.string q.ten)) _
  refine wpAnyG_all (rs := [3]) (by kernel_rfl) (by simp) fun i1 hm1 => ?_
  obtain rfl : i1 = 3 := by simpa using hm1
  refine wpOp_own rfl rfl fun K1 hK1 => ?_
  refine wp_calls2 22 hf_desJ (.tmp 150) (.tmp 152) _ rfl (.pointer (some ⟨g, 0, none⟩)) (.string q.ten) ((ev_ne _ _ (by decide)).trans ((ev_ne _ _ (by decide)).trans ((ev_ne _ _ (by decide)).trans ((ev_ne _ _ (by decide)).trans ((ev_ne _ _ (by decide)).trans (ev_eq _ _ (by simp [sz]))))))) ((ev_ne _ _ (by decide)).trans ((ev_ne _ _ (by decide)).trans ((ev_ne _ _ (by decide)).trans (ev_eq _ _ (by simp [put_sz, sz]))))) ?_
  refine (hp).mono ?_
  rintro _ V1 ⟨rfl, hP1⟩
  have hs1 := x1 V1 hP1
  refine ⟨_, rfl, hK1 _ _ ⟨.inr hs1, ?_⟩⟩
  clear hK1 K1 hm1
  show wpAnyG _ _ _ _ _ _ _ _ (((((((A.put (some 150) (.pointer (some ⟨g, 0, none⟩))).put (some 151) (.pointer (some ⟨x, 1, none⟩))).put (some 152) (.string q.ten)).put (some 154) (.pointer (some ⟨gr, 0, none⟩))).put (some 155) (.pointer (some ⟨x, 1, none⟩))).put (some 156) (.string q.ten)).put (some 153) (.int .i64 er)) _
  refine wpAnyG_all (rs := [7]) (by kernel_rfl) (by simp) fun i2 hm2 => ?_
  obtain rfl : i2 = 7 := by simpa using hm2
  refine wpOp_own rfl rfl fun K2 hK2 => ?_
  refine wp_calls2 23 hf_rdesJ (.tmp 154) (.tmp 156) _ rfl (.pointer (some ⟨gr, 0, none⟩)) (.string q.ten) ((ev_ne _ _ (by decide)).trans ((ev_ne _ _ (by decide)).trans ((ev_ne _ _ (by decide)).trans (ev_eq _ _ (by simp [put_sz, sz]))))) ((ev_ne _ _ (by decide)).trans (ev_eq _ _ (by simp [put_sz, sz]))) ?_
  refine (hr V1 hP1).mono ?_
  rintro _ V2 ⟨rfl, hP2⟩
  have hs2 := x2 V2 hP2
  refine ⟨_, rfl, hK2 _ _ ⟨.inr hs2, ?_⟩⟩
  clear hK2 K2 hm2
  show wpAnyG _ _ _ _ _ _ _ _ ((((((((A.put (some 150) (.pointer (some ⟨g, 0, none⟩))).put (some 151) (.pointer (some ⟨x, 1, none⟩))).put (some 152) (.string q.ten)).put (some 154) (.pointer (some ⟨gr, 0, none⟩))).put (some 155) (.pointer (some ⟨x, 1, none⟩))).put (some 156) (.string q.ten)).put (some 153) (.int .i64 er)).put (some 157) (.int .i64 er)) _
  refine wpAnyG_take (i := 8) (v := .bool false) rfl (by kernel_rfl) (by kernel_rfl) (by kernel_rfl) (fun _ _ _ h => nomatch h.1) (yg_bin (by simp [Region.wanted]) (.tmp 153) (.tmp 157) rfl ((ev_ne _ _ (by decide)).trans (ev_eq _ _ (by simp [put_sz, sz]))) (ev_eq _ _ (by simp [put_sz, sz])) (fun w => by simp [go_sem])) hs2 ?_
  show wpAnyG _ _ _ _ _ _ _ _ (((((((((A.put (some 150) (.pointer (some ⟨g, 0, none⟩))).put (some 151) (.pointer (some ⟨x, 1, none⟩))).put (some 152) (.string q.ten)).put (some 154) (.pointer (some ⟨gr, 0, none⟩))).put (some 155) (.pointer (some ⟨x, 1, none⟩))).put (some 156) (.string q.ten)).put (some 153) (.int .i64 er)).put (some 157) (.int .i64 er)).put (some 158) (.bool false)) _
  obtain ⟨Az1, hAz1⟩ : ∃ Az1, Az1 = (((((((((A.put (some 150) (.pointer (some ⟨g, 0, none⟩))).put (some 151) (.pointer (some ⟨x, 1, none⟩))).put (some 152) (.string q.ten)).put (some 154) (.pointer (some ⟨gr, 0, none⟩))).put (some 155) (.pointer (some ⟨x, 1, none⟩))).put (some 156) (.string q.ten)).put (some 153) (.int .i64 er)).put (some 157) (.int .i64 er)).put (some 158) (.bool false)) := ⟨_, rfl⟩
  have szAz1 : Az1.tmps.size = 267 := by rw [hAz1]; simp [put_sz, sz]
  rw [← hAz1]
  refine wpAnyG_done (by kernel_rfl) ⟨rfl, ?_, hP2⟩ _
  show Az1 = _
  rw [hAz1]
section
attribute [local go_sem ↓] loadH_fold
set_option maxHeartbeats 16000000 in
theorem play_any {w0 w : World} {B g mv mg gr : Nat} {root : List UInt8} {s0 : TS} {d0 n0 : Nat} (h : KP w0 w B g mv mg gr root s0 s0 d0) (hBe : B = w0.heap.size) (hd : d0 ≤ 800) (hn0 : s0.n ≤ n0) (hn9 : s0.n ≤ 1099511627776) (l : List KD) (a : Option Addr) (N cap : Nat) (hN : N = l.length) (hl : KDs w0 a l) (hT : TabsJ w0) :
    Calls Tryz.prog 9 #[.pointer (some ⟨g, 0, none⟩), .pointer (some ⟨gr, 0, none⟩), .slice a N cap] w (PlayP w0 B g mv mg gr root d0 n0) := by
  have HN := hid hN
  have HL := hid (fun (W : World) (hW : Below B w0 W) => hl.below (by rw [← hBe]; exact hW))
  have HT := hid (fun (W : World) (hW : Below B w0 W) => (show TabsJ W from ⟨TabAt.belowJ hT.1 (by rw [← hBe]; exact hW), hT.2.below (by rw [← hBe]; exact hW)⟩))
  have hN9 : N ≤ 9223372036854775807 := by rw [hN]; exact hl.len
  have H0 : Hid (PRel w0 B g mv mg gr root d0 n0 0 (.slice none 0 0) w) := ⟨s0, [], h, ⟨hn0, hn9⟩, World.ownsRow_nil _ _ _ _, by simp⟩
  obtain ⟨Z, hZ⟩ : ∃ Z, Z = bvs (List.replicate 32 0) := ⟨_, rfl⟩
  have zh := (zero_of_info zero_hash).1
  rw [← hZ] at zh
  have hz : Hid (HV Z (List.replicate 32 0)) := by
    show HV _ _
    rw [hZ]; exact hv_zero
  have Zh := hid zh
  clear h hN hl hT hn0 hBe hn9 zh hZ
  go_enter Tryz.func9, Tryz.ntmps9
  go_wp2_with fail
  go_loopw [7, 8] (fun v i wr => ∃ k : Nat, k ≤ N ∧ k ≤ 60 ∧ i = .int .i64 (k : Int) ∧ PRel w0 B g mv mg gr root d0 n0 k v wr) (fun _ i _ => N - (intOf i).toNat)
  case atStart => exact ⟨0, Nat.zero_le _, Nat.zero_le _, rfl, H0.out⟩
  case round =>
    clear H0
    obtain ⟨k, hk, hk60, rfl, s, L, hKP, hsn, hlast, hL9⟩ := hrel
    have HK := hid hKP
    have Hsn := hid hsn
    by_cases hlt : k < N ∧ k < 60
    · obtain ⟨hlt, hlt6⟩ := hlt
      have g1 : decide ((k : Int) < (N : Int)) = true := by simp; omega
      have g2 : decide ((k : Int) < 60) = true := by simp; omega
      have hkl : k < l.length := by have := HN.out; omega
      have hds := HL.out wr hKP.b
      obtain ⟨bb, oo, rfl, d0', d1, d2, d3, d4, d5⟩ := hds.at hkl
      have HQ := hid (hds.oks l[k] (List.getElem_mem hkl))
      obtain ⟨q, hq⟩ : ∃ q, q = l[k] := ⟨_, rfl⟩
      rw [← hq] at d0' d1 d2 d3 d4 d5 HQ
      clear hq hds
      obtain ⟨a7, c7, rfl, hb7, hc7, hz7, ho7⟩ := own_ofst hlast
      have HLa := hid hlast
      have HB7 := hid hb7
      have Hc7 := hid hc7
      have Hz7 := hid hz7
      have hwB : B ≤ wr.heap.size := hKP.low
      have HwB := hid hwB
      obtain ⟨W1, hW1⟩ : ∃ W1, W1 = wr.alloc (.cells q.vals.toArray 61) := ⟨_, rfl⟩
      have b1 : Below wr.heap.size wr W1 := by rw [hW1]; exact (Below.refl _ wr).alloc (Nat.le_refl _) _
      have x1 : XAt W1 wr.heap.size q := by rw [hW1]; exact heap_alloc_new wr _
      have HW1 : Hid (wr.alloc (.cells #[.int .i64 q.kd, .string q.ten, .string q.pur, .slice q.a q.bs.length q.c, .int .i64 q.n, .bool q.last] 61) = W1) := hW1.symm
      have K1 := hid (hKP.below b1)
      have X1 := hid x1
      obtain ⟨x10, x11, x12, x13, x14, x15⟩ := x1.c
      have HCp := hid (copy_any q.bs q.a q.bs.length q.c W1 rfl (HQ.out.bytes.bytes.below b1) HQ.out.bytes.nilcap (by have := HQ.out.bytes.length; omega))
      have La1 := hid (own_on hlast b1)
      have B71 := hid (hb7.below b1)
      obtain ⟨lb, hlb⟩ : ∃ lb, lb = q.bs.length := ⟨_, rfl⟩
      have Hlb := hid hlb
      have HL9 := hid hL9
      have H1B : Hid (B ≤ W1.heap.size) := Nat.le_trans hwB b1.size
      clear hW1 b1 x1 hlast hb7 hc7 hz7 hKP hsn ho7 hlb hL9 hwB
      cases hla : q.last
      · rw [hla] at HW1
        by_cases k0 : q.kd = 0
        · skip
          as_aux_lemma =>
            have e0 : (q.kd == 0) = true := by simpa using k0
            clear k0
            go_wp2_with (first
              | (go_at_call 20; rw [HW1.out]; refine HCp.out.mono ?_; rintro _ w2 ⟨v2, rfl, o2, b2⟩; obtain ⟨a2, c2, rfl, _, _, _, _⟩ := own_ofst o2; have S2 : St w0 w2 B g mv mg gr root s s (d0 + k) wr.heap.size q (.slice a7 L.length c7) L (.slice a2 q.bs.length c2) q.bs := ⟨K1.out.below b2, X1.out.below b2, own_on La1.out b2, own_mono o2 H1B.out⟩; obtain ⟨x20, x21, x22, x23, x24, x25⟩ := S2.x.c; have HS2 := hid S2; clear o2 b2 HCp; obtain ⟨sr, nr, er, hn, hp, hr⟩ := st_rot S2 (by omega) q.ten q.pur HQ.out.ten HQ.out.pur; have HP := hid hp; have HR := hid hr; have Hn := hid hn; clear hp hr hn; clear S2)
              | (go_at_call 16; refine HP.out.mono ?_; rintro _ w4 ⟨rfl, S4⟩; have HS4 := hid S4; obtain ⟨x40, x41, x42, x43, x44, x45⟩ := S4.x.c; clear S4 HP)
              | (go_at_call 21; refine (HR.out w4 HS4.out).mono ?_; rintro _ w5 ⟨rfl, S5⟩; have HS5 := hid S5; clear S5 HR))
            go_roundw
            case rel => exact ⟨k + 1, by omega, by omega, by go_num, sr, L, HS5.out.k, by rw [Hn.out]; have := Hsn.out; omega, HS5.out.l, HL9.out⟩
            case measure => simp [intOf]; omega
        · skip
          by_cases k1 : q.kd = 1
          · skip
            as_aux_lemma =>
              have e0 : (q.kd == 0) = false := by simpa using k0
              have e1 : (q.kd == 1) = true := by simpa using k1
              clear k0 k1
              go_wp2_with (first
                | (go_at_call 20; rw [HW1.out]; refine HCp.out.mono ?_; rintro _ w2 ⟨v2, rfl, o2, b2⟩; obtain ⟨a2, c2, rfl, _, _, _, _⟩ := own_ofst o2; have S2 : St w0 w2 B g mv mg gr root s s (d0 + k) wr.heap.size q (.slice a7 L.length c7) L (.slice a2 q.bs.length c2) q.bs := ⟨K1.out.below b2, X1.out.below b2, own_on La1.out b2, own_mono o2 H1B.out⟩; obtain ⟨x20, x21, x22, x23, x24, x25⟩ := S2.x.c; have HS2 := hid S2; clear o2 b2 HCp; obtain ⟨sr, er, hn, hp, hr⟩ := st_des S2.drew (by omega) q.ten HQ.out.ten; have HP := hid hp; have HR := hid hr; have Hn := hid hn; clear hp hr hn; clear S2))
              obtain ⟨V0, hV0⟩ : ∃ V0, V0 = w2.drew := ⟨_, rfl⟩
              refine wp_act _ fun A hA => ?_
              have sz : A.tmps.size = 267 := by rw [hA]; rfl
              have e0 : A.eval (.tmp 0) = .pointer (some ⟨g, 0, none⟩) := by rw [hA]; rfl
              have e1 : A.eval (.tmp 1) = .pointer (some ⟨gr, 0, none⟩) := by rw [hA]; rfl
              have e9 : A.eval (.tmp 9) = .pointer (some ⟨wr.heap.size, 0, none⟩) := by rw [hA]; rfl
              refine wp_split _ (play_region22 (x := wr.heap.size) (q := q) sz e0 e1 e9 (by rw [hV0]; exact HP.out) HR.out (fun W h => h.x) (fun W h => h.x) hV0 (by rw [hV0]; exact HS2.out.drew.x)) ?_
              rintro _ w5 ⟨rfl, S5⟩
              rw [hA]
              simp only [Act.put, List.setIfInBounds_toArray, List.set_cons_succ, List.set_cons_zero]
              have HS5 := hid S5
              clear S5 sz e0 e1 e9 hA A hV0 V0 HP HR
              go_wp2
              go_roundw
              case rel => exact ⟨k + 1, by omega, by omega, by go_num, sr, L, HS5.out.k, by rw [Hn.out]; have := Hsn.out; omega, HS5.out.l, HL9.out⟩
              case measure => simp [intOf]; omega
          · skip
            by_cases k2 : q.kd = 2
            · skip
              as_aux_lemma =>
                have e0 : (q.kd == 0) = false := by simpa using k0
                have e1 : (q.kd == 1) = false := by simpa using k1
                have e2 : (q.kd == 2) = true := by simpa using k2
                clear k0 k1 k2
                go_wp2_with (first
                  | (go_at_call 20; rw [HW1.out]; refine HCp.out.mono ?_; rintro _ w2 ⟨v2, rfl, o2, b2⟩; obtain ⟨a2, c2, rfl, _, _, _, _⟩ := own_ofst o2; have S2 : St w0 w2 B g mv mg gr root s s (d0 + k) wr.heap.size q (.slice a7 L.length c7) L (.slice a2 q.bs.length c2) q.bs := ⟨K1.out.below b2, X1.out.below b2, own_on La1.out b2, own_mono o2 H1B.out⟩; obtain ⟨x20, x21, x22, x23, x24, x25⟩ := S2.x.c; have HS2 := hid S2; clear o2 b2 HCp; obtain ⟨sr, er, pl, hn, hpl, hp, hr⟩ := st_seal S2 (by have := Hsn.out; omega) q.ten q.pur HQ.out.ten HQ.out.pur (HT.out w2 S2.k.b) a2 _ c2 rfl rfl; have HP := hid hp; have HR := hid hr; have Hn := hid hn; have Hpl := hid hpl; clear hp hr hn hpl; clear S2)
                  | (go_at_call 15; refine HP.out.mono ?_; rintro _ w4 ⟨v4, rfl, o4, S4⟩; obtain ⟨a4, c4, rfl, _, _⟩ := bytes_of_own0 o4; have HS4 := hid S4; have HO4 := hid o4; obtain ⟨x40, x41, x42, x43, x44, x45⟩ := S4.x.c; clear S4 HP o4)
                  | (go_at_call 24; refine (HR.out w4 _ HS4.out HO4.out).mono ?_; rintro _ w5 ⟨v5, rfl, o5, p5, S5⟩; obtain ⟨a5, c5, rfl, hb5, _⟩ := bytes_of_own0 o5; obtain ⟨_, _, e4, hb4, _⟩ := bytes_of_own0 p5; injection e4 with e41 e42 e43; subst e41; subst e43; have HSm := hid (same_self pl a4 a5 c4 c5 w5 hb4 hb5 (by have := Hpl.out; omega)); have HS5 := hid S5; have HO5 := hid o5; clear S5 HR o5 p5 hb4 hb5 e42)
                  | (go_at_call 19; refine HSm.out.mono ?_; rintro _ w6 ⟨rfl, b6⟩; have HS6 := hid (HS5.out.below b6); have HO6 := hid (own_on HO5.out b6); clear b6 HSm))
                go_roundw
                case rel => exact ⟨k + 1, by omega, by omega, by go_num, sr, pl, HS6.out.k.up (by omega), by have := Hn.out; have := Hsn.out; omega, HO6.out, by have := Hpl.out; omega⟩
                case measure => simp [intOf]; omega
            · skip
              by_cases k3 : q.kd = 3
              · skip
                as_aux_lemma =>
                  have e0 : (q.kd == 0) = false := by simpa using k0
                  have e1 : (q.kd == 1) = false := by simpa using k1
                  have e2 : (q.kd == 2) = false := by simpa using k2
                  have e3 : (q.kd == 3) = true := by simpa using k3
                  clear k0 k1 k2 k3
                  go_wp2_with (first
                    | (go_at_call 20; rw [HW1.out]; refine HCp.out.mono ?_; rintro _ w2 ⟨v2, rfl, o2, b2⟩; obtain ⟨a2, c2, rfl, _, _, _, _⟩ := own_ofst o2; have S2 : St w0 w2 B g mv mg gr root s s (d0 + k) wr.heap.size q (.slice a7 L.length c7) L (.slice a2 q.bs.length c2) q.bs := ⟨K1.out.below b2, X1.out.below b2, own_on La1.out b2, own_mono o2 H1B.out⟩; obtain ⟨x20, x21, x22, x23, x24, x25⟩ := S2.x.c; have HS2 := hid S2; clear o2 b2 HCp; obtain ⟨nr, er, pl, hpl, hp, hr⟩ := st_open S2 q.ten q.pur HQ.out.ten HQ.out.pur (HT.out w2 S2.k.b) a2 _ c2 rfl HQ.out.bytes.length rfl; have HP := hid hp; have HR := hid hr; have Hpl := hid hpl; clear hp hr hpl; clear S2)
                    | (go_at_call 17; refine HP.out.mono ?_; rintro _ w4 ⟨v4, rfl, o4, S4⟩; obtain ⟨a4, c4, rfl, _, _⟩ := bytes_of_own0 o4; have HS4 := hid S4; have HO4 := hid o4; obtain ⟨x40, x41, x42, x43, x44, x45⟩ := S4.x.c; clear S4 HP o4)
                    | (go_at_call 25; refine (HR.out w4 _ HS4.out HO4.out).mono ?_; rintro _ w5 ⟨v5, rfl, ⟨a5, c5, rfl, hb5⟩, p5, S5⟩; obtain ⟨_, _, e4, hb4, _⟩ := bytes_of_own0 p5; injection e4 with e41 e42 e43; subst e41; subst e43; have HSm := hid (same_self pl a4 a5 c4 c5 w5 hb4 hb5 (by have := Hpl.out; have := HQ.out.bytes.length; have := HL9.out; omega)); have HS5 := hid S5; clear S5 HR p5 hb4 hb5 e42)
                    | (go_at_call 19; refine HSm.out.mono ?_; rintro _ w6 ⟨rfl, b6⟩; have HS6 := hid (HS5.out.below b6); clear b6 HSm))
                  go_roundw
                  case rel => exact ⟨k + 1, by omega, by omega, by go_num, s, L, HS6.out.k.up (by omega), by have := Hsn.out; omega, HS6.out.l, HL9.out⟩
                  case measure => simp [intOf]; omega
              · skip
                by_cases k4 : q.kd = 4
                · skip
                  as_aux_lemma =>
                    have e0 : (q.kd == 0) = false := by simpa using k0
                    have e1 : (q.kd == 1) = false := by simpa using k1
                    have e2 : (q.kd == 2) = false := by simpa using k2
                    have e3 : (q.kd == 3) = false := by simpa using k3
                    have e4 : (q.kd == 4) = true := by simpa using k4
                    clear k0 k1 k2 k3 k4
                    go_wp2_with (first
                      | (go_at_call 20; rw [HW1.out]; refine HCp.out.mono ?_; rintro _ w2 ⟨v2, rfl, o2, b2⟩; obtain ⟨a2, c2, rfl, _, _, _, _⟩ := own_ofst o2; have S2 : St w0 w2 B g mv mg gr root s s (d0 + k) wr.heap.size q (.slice a7 L.length c7) L (.slice a2 q.bs.length c2) q.bs := ⟨K1.out.below b2, X1.out.below b2, own_on La1.out b2, own_mono o2 H1B.out⟩; obtain ⟨x20, x21, x22, x23, x24, x25⟩ := S2.x.c; have HS2 := hid S2; clear o2 b2 HCp; obtain ⟨sr, br, er, pl, hn, hpl, hp, hr⟩ := st_reseal S2 (by have := Hsn.out; omega) q.ten q.pur HQ.out.ten HQ.out.pur (HT.out w2 S2.k.b) a2 _ c2 rfl HQ.out.bytes.length rfl; have HP := hid hp; have HR := hid hr; have Hn := hid hn; have Hpl := hid hpl; clear hp hr hn hpl; clear S2)
                      | (go_at_call 18; refine HP.out.mono ?_; rintro _ w4 ⟨v4, rfl, o4, S4⟩; obtain ⟨a4, c4, rfl, _, _⟩ := bytes_of_own0 o4; have HS4 := hid S4; have HO4 := hid o4; obtain ⟨x40, x41, x42, x43, x44, x45⟩ := S4.x.c; clear S4 HP o4)
                      | (go_at_call 26; refine (HR.out w4 _ HS4.out HO4.out).mono ?_; rintro _ w5 ⟨v5, rfl, o5, p5, S5⟩; obtain ⟨a5, c5, rfl, hb5, _⟩ := bytes_of_own0 o5; obtain ⟨_, _, e4, hb4, _⟩ := bytes_of_own0 p5; injection e4 with e41 e42 e43; subst e41; subst e43; have HSm := hid (same_self pl a4 a5 c4 c5 w5 hb4 hb5 (by have := Hpl.out; omega)); have HS5 := hid S5; have HO5 := hid o5; clear S5 HR o5 p5 hb4 hb5 e42)
                      | (go_at_call 19; refine HSm.out.mono ?_; rintro _ w6 ⟨rfl, b6⟩; have HS6 := hid (HS5.out.below b6); have HO6 := hid (own_on HO5.out b6); clear b6 HSm))
                    go_roundw
                    case rel => exact ⟨k + 1, by omega, by omega, by go_num, sr, L, HS6.out.k.up (by omega), by have := Hn.out; have := Hsn.out; omega, HS6.out.l, HL9.out⟩
                    case measure => simp [intOf]; omega
                · skip
                  as_aux_lemma =>
                    have e0 : (q.kd == 0) = false := by simpa using k0
                    have e1 : (q.kd == 1) = false := by simpa using k1
                    have e2 : (q.kd == 2) = false := by simpa using k2
                    have e3 : (q.kd == 3) = false := by simpa using k3
                    have e4 : (q.kd == 4) = false := by simpa using k4
                    clear k0 k1 k2 k3 k4
                    go_wp2_with (first
                      | (go_at_call 20; rw [HW1.out]; refine HCp.out.mono ?_; rintro _ w2 ⟨v2, rfl, o2, b2⟩; obtain ⟨a2, c2, rfl, _, _, _, _⟩ := own_ofst o2; have S2 : St w0 w2 B g mv mg gr root s s (d0 + k) wr.heap.size q (.slice a7 L.length c7) L (.slice a2 q.bs.length c2) q.bs := ⟨K1.out.below b2, X1.out.below b2, own_on La1.out b2, own_mono o2 H1B.out⟩; obtain ⟨x20, x21, x22, x23, x24, x25⟩ := S2.x.c; have HS2 := hid S2; clear o2 b2 HCp; obtain ⟨er, key, nr, ec, hp1, hp2, hp3, hp4⟩ := st_key S2 q.ten q.pur HQ.out.ten HQ.out.pur q.n; have HP1 := hid (hp1 w2 (HT.out w2 S2.k.b) S2); have HP2 := hid hp2; have HP3 := hid hp3; have HP4 := hid hp4; clear hp1 hp2 hp3 hp4; clear S2)
                      | (go_at_call 27; refine HP1.out.mono ?_; rintro _ w4 ⟨O4, rfl, hO4, b4⟩; obtain rfl := hO4.eq; have HO4 := hid hO4; have S4 := HS2.out.below b4; have b5 : Below w4.heap.size w4 ((w4.alloc (.cells Z 23)).setRow w4.heap.size (bvs key)) := ((Below.refl _ w4).alloc (Nat.le_refl _) _).setRow (Nat.le_refl _) _; have HX4 : Hid ((w4.alloc (.cells Z 23)).heap[w4.heap.size]? = some (.cells Z 23 (0, 0))) := heap_alloc_new w4 _; have HX5 : Hid (((w4.alloc (.cells Z 23)).setRow w4.heap.size (bvs key)).heap[w4.heap.size]? = some (.cells (bvs key) 23 (0, 0))) := setRow_heap _ _ _ _ _ _ HX4.out; have S5 := S4.below b5; have HS5 := hid S5; obtain ⟨x50, x51, x52, x53, x54, x55⟩ := S5.x.c; clear S4 b4 b5 S5 hO4 HP1)
                      | (go_at_call 28; refine (HP2.out _ HS5.out).mono ?_; rintro _ w6 ⟨O6, rfl, hO6, b6⟩; obtain rfl := hO6.eq; have S6 := HS5.out.below b6; have b7 : Below w6.heap.size w6 ((w6.alloc (.cells Z 23)).setRow w6.heap.size (bvs key)) := ((Below.refl _ w6).alloc (Nat.le_refl _) _).setRow (Nat.le_refl _) _; have HX6 : Hid ((w6.alloc (.cells Z 23)).heap[w6.heap.size]? = some (.cells Z 23 (0, 0))) := heap_alloc_new w6 _; have HX7 : Hid (((w6.alloc (.cells Z 23)).setRow w6.heap.size (bvs key)).heap[w6.heap.size]? = some (.cells (bvs key) 23 (0, 0))) := setRow_heap _ _ _ _ _ _ HX6.out; have HY7 := hid ((b7.block _ (Nat.lt_of_lt_of_le (heap_lt HX5.out) b6.size)).trans ((b6.block _ (heap_lt HX5.out)).trans HX5.out)); have S7 := S6.below b7; have HS7 := hid S7; obtain ⟨x70, x71, x72, x73, x74, x75⟩ := S7.x.c; clear S6 b6 b7 S7 hO6 HP2)
                      | (go_at_call 29; refine (HP3.out _ HS7.out).mono ?_; rintro _ w8 ⟨rfl, b8⟩; have S8 := HS7.out.below b8; have HS8 := hid S8; have HX8 := hid ((b8.block _ (heap_lt HX7.out)).trans HX7.out); have HY8 := hid ((b8.block _ (heap_lt HY7.out)).trans HY7.out); obtain ⟨x80, x81, x82, x83, x84, x85⟩ := S8.x.c; clear S8 b8 HP3)
                      | (go_at_call 30; refine (HP4.out _ HS8.out).mono ?_; rintro _ w9 ⟨rfl, b9⟩; have HS9 := hid (HS8.out.below b9); have hl1 := loadH_run HO4.out ((b9.block _ (heap_lt HY8.out)).trans HY8.out); have hl2 := loadH_run HO4.out ((b9.block _ (heap_lt HX8.out)).trans HX8.out); have hq := hash_same HO4.out HO4.out; clear b9 HP4)
                      | (with_reducible show Go.wpList _ _ _ _ _ _; refine wpList_alloc_row rfl 23 rfl Z Zh.out ?_)
                      | (with_reducible show Go.wpList _ _ _ _ _ _; first | refine wpList_store_row rfl 23 _ _ rfl w6.heap.size (bvs key) rfl rfl 23 Z HX6.out HO4.out.info (hz.out.size.trans HO4.out.size.symm) HO4.out.one ?_ | refine wpList_store_row rfl 23 _ _ rfl w4.heap.size (bvs key) rfl rfl 23 Z HX4.out HO4.out.info (hz.out.size.trans HO4.out.size.symm) HO4.out.one ?_))
                    go_roundw
                    case rel => exact ⟨k + 1, by omega, by omega, by go_num, s, L, HS9.out.k.up (by omega), by have := Hsn.out; omega, HS9.out.l, HL9.out⟩
                    case measure => simp [intOf]; omega
      · rw [hla] at HW1
        by_cases k0 : q.kd = 0
        · skip
          as_aux_lemma =>
            have e0 : (q.kd == 0) = true := by simpa using k0
            clear k0
            go_wp2_with (first
              | (go_at_call 20; refine HCq.out.mono ?_; rintro _ w3 ⟨v3, rfl, o3, b3⟩; obtain ⟨a3, c3, rfl, _, _, _, _⟩ := own_ofst o3; have S3 : St w0 w3 B g mv mg gr root s s (d0 + k) wr.heap.size q (.slice a7 L.length c7) L (.slice a3 L.length c3) L := ⟨HS2.out.k.below b3, HS2.out.x.below b3, own_on HS2.out.l b3, own_mono o3 HS2.out.k.low⟩; obtain ⟨x30, x31, x32, x33, x34, x35⟩ := S3.x.c; have HS3 := hid S3; obtain ⟨sr, nr, er, hn, hp, hr⟩ := st_rot S3 (by omega) q.ten q.pur HQ.out.ten HQ.out.pur; have HP := hid hp; have HR := hid hr; have Hn := hid hn; clear hp hr hn; clear o3 b3 HCq S3)
              | (go_at_call 20; rw [HW1.out]; refine HCp.out.mono ?_; rintro _ w2 ⟨v2, rfl, o2, b2⟩; obtain ⟨a2, c2, rfl, _, _, _, _⟩ := own_ofst o2; have S2 : St w0 w2 B g mv mg gr root s s (d0 + k) wr.heap.size q (.slice a7 L.length c7) L (.slice a2 q.bs.length c2) q.bs := ⟨K1.out.below b2, X1.out.below b2, own_on La1.out b2, own_mono o2 H1B.out⟩; obtain ⟨x20, x21, x22, x23, x24, x25⟩ := S2.x.c; have HS2 := hid S2; clear o2 b2 HCp; obtain ⟨_, _, e7, hb7, _, hz7, _⟩ := own_ofst S2.l; injection e7 with e71 e72 e73; subst e71; subst e73; have HCq := hid (copy_any L a7 L.length c7 w2 rfl hb7 hz7 (by have := HL9.out; omega)); clear e72 hb7 hz7 S2)
              | (go_at_call 16; refine HP.out.mono ?_; rintro _ w4 ⟨rfl, S4⟩; have HS4 := hid S4; obtain ⟨x40, x41, x42, x43, x44, x45⟩ := S4.x.c; clear S4 HP)
              | (go_at_call 21; refine (HR.out w4 HS4.out).mono ?_; rintro _ w5 ⟨rfl, S5⟩; have HS5 := hid S5; clear S5 HR))
            go_roundw
            case rel => exact ⟨k + 1, by omega, by omega, by go_num, sr, L, HS5.out.k, by rw [Hn.out]; have := Hsn.out; omega, HS5.out.l, HL9.out⟩
            case measure => simp [intOf]; omega
        · skip
          by_cases k1 : q.kd = 1
          · skip
            as_aux_lemma =>
              have e0 : (q.kd == 0) = false := by simpa using k0
              have e1 : (q.kd == 1) = true := by simpa using k1
              clear k0 k1
              go_wp2_with (first
                | (go_at_call 20; refine HCq.out.mono ?_; rintro _ w3 ⟨v3, rfl, o3, b3⟩; obtain ⟨a3, c3, rfl, _, _, _, _⟩ := own_ofst o3; have S3 : St w0 w3 B g mv mg gr root s s (d0 + k) wr.heap.size q (.slice a7 L.length c7) L (.slice a3 L.length c3) L := ⟨HS2.out.k.below b3, HS2.out.x.below b3, own_on HS2.out.l b3, own_mono o3 HS2.out.k.low⟩; obtain ⟨x30, x31, x32, x33, x34, x35⟩ := S3.x.c; have HS3 := hid S3; obtain ⟨sr, er, hn, hp, hr⟩ := st_des S3.drew (by omega) q.ten HQ.out.ten; have HP := hid hp; have HR := hid hr; have Hn := hid hn; clear hp hr hn; clear o3 b3 HCq S3)
                | (go_at_call 20; rw [HW1.out]; refine HCp.out.mono ?_; rintro _ w2 ⟨v2, rfl, o2, b2⟩; obtain ⟨a2, c2, rfl, _, _, _, _⟩ := own_ofst o2; have S2 : St w0 w2 B g mv mg gr root s s (d0 + k) wr.heap.size q (.slice a7 L.length c7) L (.slice a2 q.bs.length c2) q.bs := ⟨K1.out.below b2, X1.out.below b2, own_on La1.out b2, own_mono o2 H1B.out⟩; obtain ⟨x20, x21, x22, x23, x24, x25⟩ := S2.x.c; have HS2 := hid S2; clear o2 b2 HCp; obtain ⟨_, _, e7, hb7, _, hz7, _⟩ := own_ofst S2.l; injection e7 with e71 e72 e73; subst e71; subst e73; have HCq := hid (copy_any L a7 L.length c7 w2 rfl hb7 hz7 (by have := HL9.out; omega)); clear e72 hb7 hz7 S2))
              obtain ⟨V0, hV0⟩ : ∃ V0, V0 = w3.drew := ⟨_, rfl⟩
              refine wp_act _ fun A hA => ?_
              have sz : A.tmps.size = 267 := by rw [hA]; rfl
              have e0 : A.eval (.tmp 0) = .pointer (some ⟨g, 0, none⟩) := by rw [hA]; rfl
              have e1 : A.eval (.tmp 1) = .pointer (some ⟨gr, 0, none⟩) := by rw [hA]; rfl
              have e9 : A.eval (.tmp 9) = .pointer (some ⟨wr.heap.size, 0, none⟩) := by rw [hA]; rfl
              refine wp_split _ (play_region22 (x := wr.heap.size) (q := q) sz e0 e1 e9 (by rw [hV0]; exact HP.out) HR.out (fun W h => h.x) (fun W h => h.x) hV0 (by rw [hV0]; exact HS3.out.drew.x)) ?_
              rintro _ w5 ⟨rfl, S5⟩
              rw [hA]
              simp only [Act.put, List.setIfInBounds_toArray, List.set_cons_succ, List.set_cons_zero]
              have HS5 := hid S5
              clear S5 sz e0 e1 e9 hA A hV0 V0 HP HR
              go_wp2
              go_roundw
              case rel => exact ⟨k + 1, by omega, by omega, by go_num, sr, L, HS5.out.k, by rw [Hn.out]; have := Hsn.out; omega, HS5.out.l, HL9.out⟩
              case measure => simp [intOf]; omega
          · skip
            by_cases k2 : q.kd = 2
            · skip
              as_aux_lemma =>
                have e0 : (q.kd == 0) = false := by simpa using k0
                have e1 : (q.kd == 1) = false := by simpa using k1
                have e2 : (q.kd == 2) = true := by simpa using k2
                clear k0 k1 k2
                go_wp2_with (first
                  | (go_at_call 20; refine HCq.out.mono ?_; rintro _ w3 ⟨v3, rfl, o3, b3⟩; obtain ⟨a3, c3, rfl, _, _, _, _⟩ := own_ofst o3; have S3 : St w0 w3 B g mv mg gr root s s (d0 + k) wr.heap.size q (.slice a7 L.length c7) L (.slice a3 L.length c3) L := ⟨HS2.out.k.below b3, HS2.out.x.below b3, own_on HS2.out.l b3, own_mono o3 HS2.out.k.low⟩; obtain ⟨x30, x31, x32, x33, x34, x35⟩ := S3.x.c; have HS3 := hid S3; obtain ⟨sr, er, pl, hn, hpl, hp, hr⟩ := st_seal S3 (by have := Hsn.out; omega) q.ten q.pur HQ.out.ten HQ.out.pur (HT.out w3 S3.k.b) a3 _ c3 rfl rfl; have HP := hid hp; have HR := hid hr; have Hn := hid hn; have Hpl := hid hpl; clear hp hr hn hpl; clear o3 b3 HCq S3)
                  | (go_at_call 20; rw [HW1.out]; refine HCp.out.mono ?_; rintro _ w2 ⟨v2, rfl, o2, b2⟩; obtain ⟨a2, c2, rfl, _, _, _, _⟩ := own_ofst o2; have S2 : St w0 w2 B g mv mg gr root s s (d0 + k) wr.heap.size q (.slice a7 L.length c7) L (.slice a2 q.bs.length c2) q.bs := ⟨K1.out.below b2, X1.out.below b2, own_on La1.out b2, own_mono o2 H1B.out⟩; obtain ⟨x20, x21, x22, x23, x24, x25⟩ := S2.x.c; have HS2 := hid S2; clear o2 b2 HCp; obtain ⟨_, _, e7, hb7, _, hz7, _⟩ := own_ofst S2.l; injection e7 with e71 e72 e73; subst e71; subst e73; have HCq := hid (copy_any L a7 L.length c7 w2 rfl hb7 hz7 (by have := HL9.out; omega)); clear e72 hb7 hz7 S2)
                  | (go_at_call 15; refine HP.out.mono ?_; rintro _ w4 ⟨v4, rfl, o4, S4⟩; obtain ⟨a4, c4, rfl, _, _⟩ := bytes_of_own0 o4; have HS4 := hid S4; have HO4 := hid o4; obtain ⟨x40, x41, x42, x43, x44, x45⟩ := S4.x.c; clear S4 HP o4)
                  | (go_at_call 24; refine (HR.out w4 _ HS4.out HO4.out).mono ?_; rintro _ w5 ⟨v5, rfl, o5, p5, S5⟩; obtain ⟨a5, c5, rfl, hb5, _⟩ := bytes_of_own0 o5; obtain ⟨_, _, e4, hb4, _⟩ := bytes_of_own0 p5; injection e4 with e41 e42 e43; subst e41; subst e43; have HSm := hid (same_self pl a4 a5 c4 c5 w5 hb4 hb5 (by have := Hpl.out; omega)); have HS5 := hid S5; have HO5 := hid o5; clear S5 HR o5 p5 hb4 hb5 e42)
                  | (go_at_call 19; refine HSm.out.mono ?_; rintro _ w6 ⟨rfl, b6⟩; have HS6 := hid (HS5.out.below b6); have HO6 := hid (own_on HO5.out b6); clear b6 HSm))
                go_roundw
                case rel => exact ⟨k + 1, by omega, by omega, by go_num, sr, pl, HS6.out.k.up (by omega), by have := Hn.out; have := Hsn.out; omega, HO6.out, by have := Hpl.out; omega⟩
                case measure => simp [intOf]; omega
            · skip
              by_cases k3 : q.kd = 3
              · skip
                as_aux_lemma =>
                  have e0 : (q.kd == 0) = false := by simpa using k0
                  have e1 : (q.kd == 1) = false := by simpa using k1
                  have e2 : (q.kd == 2) = false := by simpa using k2
                  have e3 : (q.kd == 3) = true := by simpa using k3
                  clear k0 k1 k2 k3
                  go_wp2_with (first
                    | (go_at_call 20; refine HCq.out.mono ?_; rintro _ w3 ⟨v3, rfl, o3, b3⟩; obtain ⟨a3, c3, rfl, _, _, _, _⟩ := own_ofst o3; have S3 : St w0 w3 B g mv mg gr root s s (d0 + k) wr.heap.size q (.slice a7 L.length c7) L (.slice a3 L.length c3) L := ⟨HS2.out.k.below b3, HS2.out.x.below b3, own_on HS2.out.l b3, own_mono o3 HS2.out.k.low⟩; obtain ⟨x30, x31, x32, x33, x34, x35⟩ := S3.x.c; have HS3 := hid S3; obtain ⟨nr, er, pl, hpl, hp, hr⟩ := st_open S3 q.ten q.pur HQ.out.ten HQ.out.pur (HT.out w3 S3.k.b) a3 _ c3 rfl (by have := HL9.out; omega) rfl; have HP := hid hp; have HR := hid hr; have Hpl := hid hpl; clear hp hr hpl; clear o3 b3 HCq S3)
                    | (go_at_call 20; rw [HW1.out]; refine HCp.out.mono ?_; rintro _ w2 ⟨v2, rfl, o2, b2⟩; obtain ⟨a2, c2, rfl, _, _, _, _⟩ := own_ofst o2; have S2 : St w0 w2 B g mv mg gr root s s (d0 + k) wr.heap.size q (.slice a7 L.length c7) L (.slice a2 q.bs.length c2) q.bs := ⟨K1.out.below b2, X1.out.below b2, own_on La1.out b2, own_mono o2 H1B.out⟩; obtain ⟨x20, x21, x22, x23, x24, x25⟩ := S2.x.c; have HS2 := hid S2; clear o2 b2 HCp; obtain ⟨_, _, e7, hb7, _, hz7, _⟩ := own_ofst S2.l; injection e7 with e71 e72 e73; subst e71; subst e73; have HCq := hid (copy_any L a7 L.length c7 w2 rfl hb7 hz7 (by have := HL9.out; omega)); clear e72 hb7 hz7 S2)
                    | (go_at_call 17; refine HP.out.mono ?_; rintro _ w4 ⟨v4, rfl, o4, S4⟩; obtain ⟨a4, c4, rfl, _, _⟩ := bytes_of_own0 o4; have HS4 := hid S4; have HO4 := hid o4; obtain ⟨x40, x41, x42, x43, x44, x45⟩ := S4.x.c; clear S4 HP o4)
                    | (go_at_call 25; refine (HR.out w4 _ HS4.out HO4.out).mono ?_; rintro _ w5 ⟨v5, rfl, ⟨a5, c5, rfl, hb5⟩, p5, S5⟩; obtain ⟨_, _, e4, hb4, _⟩ := bytes_of_own0 p5; injection e4 with e41 e42 e43; subst e41; subst e43; have HSm := hid (same_self pl a4 a5 c4 c5 w5 hb4 hb5 (by have := Hpl.out; have := HQ.out.bytes.length; have := HL9.out; omega)); have HS5 := hid S5; clear S5 HR p5 hb4 hb5 e42)
                    | (go_at_call 19; refine HSm.out.mono ?_; rintro _ w6 ⟨rfl, b6⟩; have HS6 := hid (HS5.out.below b6); clear b6 HSm))
                  go_roundw
                  case rel => exact ⟨k + 1, by omega, by omega, by go_num, s, L, HS6.out.k.up (by omega), by have := Hsn.out; omega, HS6.out.l, HL9.out⟩
                  case measure => simp [intOf]; omega
              · skip
                by_cases k4 : q.kd = 4
                · skip
                  as_aux_lemma =>
                    have e0 : (q.kd == 0) = false := by simpa using k0
                    have e1 : (q.kd == 1) = false := by simpa using k1
                    have e2 : (q.kd == 2) = false := by simpa using k2
                    have e3 : (q.kd == 3) = false := by simpa using k3
                    have e4 : (q.kd == 4) = true := by simpa using k4
                    clear k0 k1 k2 k3 k4
                    go_wp2_with (first
                      | (go_at_call 20; refine HCq.out.mono ?_; rintro _ w3 ⟨v3, rfl, o3, b3⟩; obtain ⟨a3, c3, rfl, _, _, _, _⟩ := own_ofst o3; have S3 : St w0 w3 B g mv mg gr root s s (d0 + k) wr.heap.size q (.slice a7 L.length c7) L (.slice a3 L.length c3) L := ⟨HS2.out.k.below b3, HS2.out.x.below b3, own_on HS2.out.l b3, own_mono o3 HS2.out.k.low⟩; obtain ⟨x30, x31, x32, x33, x34, x35⟩ := S3.x.c; have HS3 := hid S3; obtain ⟨sr, br, er, pl, hn, hpl, hp, hr⟩ := st_reseal S3 (by have := Hsn.out; omega) q.ten q.pur HQ.out.ten HQ.out.pur (HT.out w3 S3.k.b) a3 _ c3 rfl (by have := HL9.out; omega) rfl; have HP := hid hp; have HR := hid hr; have Hn := hid hn; have Hpl := hid hpl; clear hp hr hn hpl; clear o3 b3 HCq S3)
                      | (go_at_call 20; rw [HW1.out]; refine HCp.out.mono ?_; rintro _ w2 ⟨v2, rfl, o2, b2⟩; obtain ⟨a2, c2, rfl, _, _, _, _⟩ := own_ofst o2; have S2 : St w0 w2 B g mv mg gr root s s (d0 + k) wr.heap.size q (.slice a7 L.length c7) L (.slice a2 q.bs.length c2) q.bs := ⟨K1.out.below b2, X1.out.below b2, own_on La1.out b2, own_mono o2 H1B.out⟩; obtain ⟨x20, x21, x22, x23, x24, x25⟩ := S2.x.c; have HS2 := hid S2; clear o2 b2 HCp; obtain ⟨_, _, e7, hb7, _, hz7, _⟩ := own_ofst S2.l; injection e7 with e71 e72 e73; subst e71; subst e73; have HCq := hid (copy_any L a7 L.length c7 w2 rfl hb7 hz7 (by have := HL9.out; omega)); clear e72 hb7 hz7 S2)
                      | (go_at_call 18; refine HP.out.mono ?_; rintro _ w4 ⟨v4, rfl, o4, S4⟩; obtain ⟨a4, c4, rfl, _, _⟩ := bytes_of_own0 o4; have HS4 := hid S4; have HO4 := hid o4; obtain ⟨x40, x41, x42, x43, x44, x45⟩ := S4.x.c; clear S4 HP o4)
                      | (go_at_call 26; refine (HR.out w4 _ HS4.out HO4.out).mono ?_; rintro _ w5 ⟨v5, rfl, o5, p5, S5⟩; obtain ⟨a5, c5, rfl, hb5, _⟩ := bytes_of_own0 o5; obtain ⟨_, _, e4, hb4, _⟩ := bytes_of_own0 p5; injection e4 with e41 e42 e43; subst e41; subst e43; have HSm := hid (same_self pl a4 a5 c4 c5 w5 hb4 hb5 (by have := Hpl.out; omega)); have HS5 := hid S5; have HO5 := hid o5; clear S5 HR o5 p5 hb4 hb5 e42)
                      | (go_at_call 19; refine HSm.out.mono ?_; rintro _ w6 ⟨rfl, b6⟩; have HS6 := hid (HS5.out.below b6); have HO6 := hid (own_on HO5.out b6); clear b6 HSm))
                    go_roundw
                    case rel => exact ⟨k + 1, by omega, by omega, by go_num, sr, L, HS6.out.k.up (by omega), by have := Hn.out; have := Hsn.out; omega, HS6.out.l, HL9.out⟩
                    case measure => simp [intOf]; omega
                · skip
                  as_aux_lemma =>
                    have e0 : (q.kd == 0) = false := by simpa using k0
                    have e1 : (q.kd == 1) = false := by simpa using k1
                    have e2 : (q.kd == 2) = false := by simpa using k2
                    have e3 : (q.kd == 3) = false := by simpa using k3
                    have e4 : (q.kd == 4) = false := by simpa using k4
                    clear k0 k1 k2 k3 k4
                    go_wp2_with (first
                      | (go_at_call 20; refine HCq.out.mono ?_; rintro _ w3 ⟨v3, rfl, o3, b3⟩; obtain ⟨a3, c3, rfl, _, _, _, _⟩ := own_ofst o3; have S3 : St w0 w3 B g mv mg gr root s s (d0 + k) wr.heap.size q (.slice a7 L.length c7) L (.slice a3 L.length c3) L := ⟨HS2.out.k.below b3, HS2.out.x.below b3, own_on HS2.out.l b3, own_mono o3 HS2.out.k.low⟩; obtain ⟨x30, x31, x32, x33, x34, x35⟩ := S3.x.c; have HS3 := hid S3; obtain ⟨er, key, nr, ec, hp1, hp2, hp3, hp4⟩ := st_key S3 q.ten q.pur HQ.out.ten HQ.out.pur q.n; have HP1 := hid (hp1 w3 (HT.out w3 S3.k.b) S3); have HP2 := hid hp2; have HP3 := hid hp3; have HP4 := hid hp4; clear hp1 hp2 hp3 hp4; clear o3 b3 HCq S3)
                      | (go_at_call 20; rw [HW1.out]; refine HCp.out.mono ?_; rintro _ w2 ⟨v2, rfl, o2, b2⟩; obtain ⟨a2, c2, rfl, _, _, _, _⟩ := own_ofst o2; have S2 : St w0 w2 B g mv mg gr root s s (d0 + k) wr.heap.size q (.slice a7 L.length c7) L (.slice a2 q.bs.length c2) q.bs := ⟨K1.out.below b2, X1.out.below b2, own_on La1.out b2, own_mono o2 H1B.out⟩; obtain ⟨x20, x21, x22, x23, x24, x25⟩ := S2.x.c; have HS2 := hid S2; clear o2 b2 HCp; obtain ⟨_, _, e7, hb7, _, hz7, _⟩ := own_ofst S2.l; injection e7 with e71 e72 e73; subst e71; subst e73; have HCq := hid (copy_any L a7 L.length c7 w2 rfl hb7 hz7 (by have := HL9.out; omega)); clear e72 hb7 hz7 S2)
                      | (go_at_call 27; refine HP1.out.mono ?_; rintro _ w4 ⟨O4, rfl, hO4, b4⟩; obtain rfl := hO4.eq; have HO4 := hid hO4; have S4 := HS3.out.below b4; have b5 : Below w4.heap.size w4 ((w4.alloc (.cells Z 23)).setRow w4.heap.size (bvs key)) := ((Below.refl _ w4).alloc (Nat.le_refl _) _).setRow (Nat.le_refl _) _; have HX4 : Hid ((w4.alloc (.cells Z 23)).heap[w4.heap.size]? = some (.cells Z 23 (0, 0))) := heap_alloc_new w4 _; have HX5 : Hid (((w4.alloc (.cells Z 23)).setRow w4.heap.size (bvs key)).heap[w4.heap.size]? = some (.cells (bvs key) 23 (0, 0))) := setRow_heap _ _ _ _ _ _ HX4.out; have S5 := S4.below b5; have HS5 := hid S5; obtain ⟨x50, x51, x52, x53, x54, x55⟩ := S5.x.c; clear S4 b4 b5 S5 hO4 HP1)
                      | (go_at_call 28; refine (HP2.out _ HS5.out).mono ?_; rintro _ w6 ⟨O6, rfl, hO6, b6⟩; obtain rfl := hO6.eq; have S6 := HS5.out.below b6; have b7 : Below w6.heap.size w6 ((w6.alloc (.cells Z 23)).setRow w6.heap.size (bvs key)) := ((Below.refl _ w6).alloc (Nat.le_refl _) _).setRow (Nat.le_refl _) _; have HX6 : Hid ((w6.alloc (.cells Z 23)).heap[w6.heap.size]? = some (.cells Z 23 (0, 0))) := heap_alloc_new w6 _; have HX7 : Hid (((w6.alloc (.cells Z 23)).setRow w6.heap.size (bvs key)).heap[w6.heap.size]? = some (.cells (bvs key) 23 (0, 0))) := setRow_heap _ _ _ _ _ _ HX6.out; have HY7 := hid ((b7.block _ (Nat.lt_of_lt_of_le (heap_lt HX5.out) b6.size)).trans ((b6.block _ (heap_lt HX5.out)).trans HX5.out)); have S7 := S6.below b7; have HS7 := hid S7; obtain ⟨x70, x71, x72, x73, x74, x75⟩ := S7.x.c; clear S6 b6 b7 S7 hO6 HP2)
                      | (go_at_call 29; refine (HP3.out _ HS7.out).mono ?_; rintro _ w8 ⟨rfl, b8⟩; have S8 := HS7.out.below b8; have HS8 := hid S8; have HX8 := hid ((b8.block _ (heap_lt HX7.out)).trans HX7.out); have HY8 := hid ((b8.block _ (heap_lt HY7.out)).trans HY7.out); obtain ⟨x80, x81, x82, x83, x84, x85⟩ := S8.x.c; clear S8 b8 HP3)
                      | (go_at_call 30; refine (HP4.out _ HS8.out).mono ?_; rintro _ w9 ⟨rfl, b9⟩; have HS9 := hid (HS8.out.below b9); have hl1 := loadH_run HO4.out ((b9.block _ (heap_lt HY8.out)).trans HY8.out); have hl2 := loadH_run HO4.out ((b9.block _ (heap_lt HX8.out)).trans HX8.out); have hq := hash_same HO4.out HO4.out; clear b9 HP4)
                      | (with_reducible show Go.wpList _ _ _ _ _ _; refine wpList_alloc_row rfl 23 rfl Z Zh.out ?_)
                      | (with_reducible show Go.wpList _ _ _ _ _ _; first | refine wpList_store_row rfl 23 _ _ rfl w6.heap.size (bvs key) rfl rfl 23 Z HX6.out HO4.out.info (hz.out.size.trans HO4.out.size.symm) HO4.out.one ?_ | refine wpList_store_row rfl 23 _ _ rfl w4.heap.size (bvs key) rfl rfl 23 Z HX4.out HO4.out.info (hz.out.size.trans HO4.out.size.symm) HO4.out.one ?_))
                    go_roundw
                    case rel => exact ⟨k + 1, by omega, by omega, by go_num, s, L, HS9.out.k.up (by omega), by have := Hsn.out; omega, HS9.out.l, HL9.out⟩
                    case measure => simp [intOf]; omega
    · have HKe := hid (hKP.up (show d0 + k ≤ d0 + 60 by omega))
      have Hse : Hid (s.n ≤ n0 + 60 ∧ s.n ≤ 1099511627776) := by
        show s.n ≤ n0 + 60 ∧ s.n ≤ 1099511627776
        omega
      clear hKP hsn hlast HK Hsn
      by_cases h1 : k < N
      · have h2 : ¬ k < 60 := fun h2 => hlt ⟨h1, h2⟩
        clear hlt
        have g1 : decide ((k : Int) < (N : Int)) = true := by simp; omega
        have g2 : decide ((k : Int) < 60) = false := by simp; omega
        go_wp2
        go_ret
        exact ⟨rfl, s, HKe.out, Hse.out⟩
      · clear hlt
        have g1 : decide ((k : Int) < (N : Int)) = false := by simp; omega
        go_wp2
        go_ret
        exact ⟨rfl, s, HKe.out, Hse.out⟩
end
end Go.Proofs.YtdglmoikgmlaaaaGreatDoor
/- What the laws on keys that play share: new trees, and what rotating and destroying leave of another purpose. -/
namespace Go.Proofs.YtdglmoikgmlaaaaGreatDoor
open Go.RowKit Go.Maps
set_option linter.unusedVariables false
set_option maxRecDepth 20000
end Go.Proofs.YtdglmoikgmlaaaaGreatDoor
