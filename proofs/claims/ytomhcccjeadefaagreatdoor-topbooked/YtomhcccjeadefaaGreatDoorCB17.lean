/- YtomhcccjeadefaaGreatDoorCB14 + YtomhcccjeadefaaGreatDoorCB15 + YtomhcccjeadefaaGreatDoorCB16 + YtomhcccjeadefaaGreatDoorCB17 -/
import Derived.Test.YtomhcccjeadefaaGreatDoorCB13
import Derived.Test.YtomhcccjeadefaaGreatDoorJToNum
import Derived.Test.YtomhcccjeadefaaGreatDoorJ9
/- A book of passwords: Check of the right one. -/
namespace Go.Proofs.YtomhcccjeadefaaGreatDoor
open Go.RowKit Go.Maps
set_option linter.unusedVariables false
set_option maxRecDepth 20000
set_option maxHeartbeats 2000000 in
theorem check_ok {w : World} {B g mb n r tr un : Nat} {p : ByteArray} (hp : p.size ≤ 64) (hb : BookAt w B g mb n (some r)) (hr : RecAt w r tr un (iterN p.data.toList saltB.data.toList 2)) (hB : B ≤ w.heap.size) (hBr : B ≤ r) (hK : KAt w) (hT : TabAt w) :
    Calls Tryz.prog 15 #[.pointer (some ⟨g, 0, none⟩), .agg #[.string oT, .string oU], .string p, .int .i64 0] w fun e w' => e = .returned (.int .i64 0) ∧ BookAt w' B g mb n (some r) ∧ RecAt w' r 0 0 (iterN p.data.toList saltB.data.toList 2) ∧ Below B w w' := by
  obtain ⟨W0, hW0⟩ : ∃ W0, W0 = w.alloc (.cells #[.string oT, .string oU] 31) := ⟨_, rfl⟩
  have b0 : Below w.heap.size w W0 := by rw [hW0]; exact (Below.refl _ w).alloc (Nat.le_refl _) _
  have x0 : W0.heap[w.heap.size]? = some (.cells #[.string oT, .string oU] 31 (0, 0)) := by rw [hW0]; exact heap_alloc_new w _
  obtain ⟨Z, hZ⟩ : ∃ Z, Z = bvs (List.replicate 32 0) := ⟨_, rfl⟩
  have zh := (zero_of_info zero_hash).1
  rw [← hZ] at zh
  have hz : Hid (HV Z (List.replicate 32 0)) := by
    show HV _ _
    rw [hZ]; exact hv_zero
  have Zh := hid zh
  have hl := iterN_length p.data.toList saltB.data.toList 2
  obtain ⟨h, hh⟩ : ∃ h, h = iterN p.data.toList saltB.data.toList 2 := ⟨_, rfl⟩
  rw [← hh] at hl hr ⊢
  have Hh := hid hh
  have Hl := hid hl
  have HF := hid (findAt_ok (hb.below b0))
  have B0 := hid b0
  have Hb := hid hb
  have Hr := hid hr
  have Hck : Hid (CK r tr un h w) := ⟨⟨hr, hT⟩, hK⟩
  have HW := hid hW0
  have y0 : W0.cell? ⟨w.heap.size, 0, none⟩ = some (.string oT) := cell_of_row _ _ 0 _ _ _ x0
  have y1 : W0.cell? ⟨w.heap.size, 1, none⟩ = some (.string oU) := cell_of_row _ _ 1 _ _ _ x0
  clear hb b0 x0 hW0 hr zh hZ hl hh hK hT
  go_enter Tryz.func15, Tryz.ntmps15
  go_wp2_with fail
  rw [show w.alloc (.cells #[.string oT, .string oU] 31) = W0 from HW.out.symm]
  go_wp2_with (go_at_call 31; refine HF.out.mono ?_; rintro _ w1 ⟨rfl, b1⟩; have B1 := hid (Below.on' B0.out b1); clear b1)
  obtain ⟨V0, hV0⟩ : ∃ V0, V0 = w1.drew := ⟨_, rfl⟩
  have b0 : Below w1.heap.size w1 V0 := by rw [hV0]; exact (Below.refl _ w1).drew
  refine wp_act _ fun A hA => ?_
  have sz : A.tmps.size = 50 := by rw [hA]; rfl
  have e2 : A.eval (.tmp 2) = .string p := by rw [hA]; rfl
  have e9 : A.eval (.tmp 9) = .pointer (some ⟨r, 0, none⟩) := by rw [hA]; rfl
  refine wp_split _ (ck_region4 sz e2 e9 Hl.out hp Zh.out hz.out hV0 ((Hck.out.below B1.out).below b0)) ?_
  rintro _ V ⟨q, O, ha, hO, hq, hb⟩
  rw [← Hh.out] at hO
  have B2 := hid (Below.on' b0 hb)
  have HO := hid hO
  have Hq := hid hq
  have hqr : q ≠ r := fun e => by
    subst e
    have h1 := (Hr.out.below B1.out).below B2.out
    rw [RecAt, Hq.out] at h1
    injection h1 with h1
    injection h1 with h1
    have h2 := congrArg Array.size h1
    rw [HO.out.size] at h2
    simp [recC, cellsOf_length, Hl.out] at h2
  have Hqr := hid hqr
  clear b0 hb hO hq hqr hV0
  have K : ∀ a : Act, a.tmps.size = 50 → a.eval (.tmp 3) = .int .i64 0 → a.eval (.tmp 9) = .pointer (some ⟨r, 0, none⟩) → a.eval (.tmp 10) = .int .i64 0 → a.eval (.tmp 11) = .pointer (some ⟨q, 0, none⟩) → True := fun _ _ _ _ _ _ => trivial
  rcases ha with rfl | rfl
  all_goals
    rw [hA]
    simp only [Act.put, List.setIfInBounds_toArray, List.set_cons_succ, List.set_cons_zero]
    clear sz e2 e9 hA A K
  all_goals
    go_wp2_with fail
    obtain ⟨V0, hV0⟩ : ∃ V0, V0 = V.drew := ⟨_, rfl⟩
    have b0 : Below V.heap.size V V0 := by rw [hV0]; exact (Below.refl _ V).drew
    refine wp_act _ fun A hA => ?_
    have sz : A.tmps.size = 50 := by rw [hA]; rfl
    have e3 : A.eval (.tmp 3) = .int .i64 0 := by rw [hA]; rfl
    have e9 : A.eval (.tmp 9) = .pointer (some ⟨r, 0, none⟩) := by rw [hA]; rfl
    have e10 : A.eval (.tmp 10) = .int .i64 0 := by rw [hA]; rfl
    have e11 : A.eval (.tmp 11) = .pointer (some ⟨q, 0, none⟩) := by rw [hA]; rfl
    refine wp_split _ (ck_region5 sz e3 e9 e10 e11 Hl.out HO.out Hqr.out hV0 (CS.below ⟨⟨tr, un, (Hr.out.below B1.out).below B2.out⟩, Hq.out⟩ b0)) ?_
    rintro _ V2 ⟨rfl, V1, b3, hV2⟩
    have B3 := hid (Below.on' b0 b3)
    have HV2 := hid hV2
    rw [hA]
    simp only [Act.put, List.setIfInBounds_toArray, List.set_cons_succ, List.set_cons_zero]
    clear b0 b3 hV2 hV0 sz e3 e9 e10 e11 hA A
    go_wp2_with fail
    go_ret
    have bb := Below.on' (Below.on' B1.out B2.out) B3.out
    have r1 := Hr.out.below bb
    have h1 := Hb.out.below bb
    obtain ⟨a1, a2⟩ := apart_rec h1 r1
    rw [HV2.out]
    exact ⟨rfl, mp_other h1 (fun k hk => (heap_setCell_other _ _ _ _ hk).trans (heap_setCell_other _ _ _ _ hk)) a1 a2, r1.set2 0 0, ((bb.mono hB).setCell hBr _).setCell hBr _⟩
end Go.Proofs.YtomhcccjeadefaaGreatDoor
/- What TopBooked asks of the keys, as mathematics: a tree with one key, which was rotated k times. (JBM's, with other names.) -/
namespace Go.Proofs.YtomhcccjeadefaaGreatDoor.Bk
open Go.RowKit Go.Maps
set_option linter.unusedVariables false
set_option maxRecDepth 20000
theorem openS_seal (key : List UInt8) (once : Nat) (ho : once < 2 ^ 64) (plain : List UInt8) (hl : plain.length ≤ 1024) : openS key (sealB key once plain) = (plain, 0) := by
  have h1 := sealB_len key once plain
  unfold openS
  rw [if_neg (by omega), if_neg (by omega), if_pos (by rw [seal_take, seal_drop])]
  rw [seal_take, seal_eight, numB_be8 once ho, head_drop, cross_back]
theorem openR_seal {s : TS} (ok : s.Ok) {root : List UInt8} {t u : ByteArray} (h : (s.cur t u).2 = 0) (v : Nat) (h1 : 1 ≤ v) (h2 : v ≤ (s.cur t u).1) (once : Nat) (ho : once < 2 ^ 64) (plain : List UInt8) (hl : plain.length ≤ 1024) : s.openR root t u (UInt8.ofNat v :: sealB (derRes root [t, u, txtJ v]) once plain) = (plain, (v, 0)) := by
  obtain ⟨_, _, _, hc⟩ := cur_ok h
  obtain ⟨v1, v2⟩ := verOf_ok ok t u
  have hv : (UInt8.ofNat v).toNat = v := by simp; omega
  show s.openB root t u _ _ = _
  unfold TS.openB
  have hk : s.keyR root t u (((UInt8.ofNat v).toNat : Nat) : Int) = (derRes root [t, u, txtJ v], 0) := by
    unfold TS.keyR
    rw [hv, if_neg (by omega), if_neg (by omega)]
    rfl
  rw [if_neg (by omega), hk, if_neg (by simp), openS_seal _ once ho plain hl, hv]
  rfl
theorem sealR_mk {s : TS} {root : List UInt8} {t u : ByteArray} {p : List UInt8} (h : (s.cur t u).2 = 0) (hl : p.length ≤ 1024) (hn : s.n ≠ 1099511627776) : s.sealR root t u p = ({ s with n := s.n + 1 }, (UInt8.ofNat (s.cur t u).1 :: sealB (derRes root [t, u, txtJ (s.cur t u).1]) s.n p, 0)) := by
  unfold TS.sealR
  rw [if_neg (by omega), if_neg (by omega), if_neg hn]
theorem resealR_eq (s : TS) (root : List UInt8) (t u : ByteArray) (S : List UInt8) : s.resealR root t u S = if (s.openR root t u S).2.2 ≠ 0 then (s, ([], (false, (s.openR root t u S).2.2))) else if (s.openR root t u S).2.1 = verOf s.vs t u then (s, (S, (false, 0))) else ((s.sealR root t u (s.openR root t u S).1).1, ((s.sealR root t u (s.openR root t u S).1).2.1, (decide ((s.sealR root t u (s.openR root t u S).1).2.2 = 0), (s.sealR root t u (s.openR root t u S).1).2.2))) := by
  cases S with
  | nil =>
    rw [openR_nil, if_pos]
    · rfl
    · show (if (s.cur t u).2 ≠ 0 then (s.cur t u).2 else 3) ≠ 0
      split <;> omega
  | cons b S => rfl
theorem reseal_now {s : TS} (ok : s.Ok) {root : List UInt8} {t u : ByteArray} (h : (s.cur t u).2 = 0) (once : Nat) (ho : once < 2 ^ 64) (plain : List UInt8) (hl : plain.length ≤ 1024) : s.resealR root t u (UInt8.ofNat (s.cur t u).1 :: sealB (derRes root [t, u, txtJ (s.cur t u).1]) once plain) = (s, (UInt8.ofNat (s.cur t u).1 :: sealB (derRes root [t, u, txtJ (s.cur t u).1]) once plain, (false, 0))) := by
  obtain ⟨_, _, _, hc⟩ := cur_ok h
  obtain ⟨v1, v2⟩ := verOf_ok ok t u
  rw [resealR_eq, openR_seal ok h _ (by omega) (Nat.le_refl _) once ho plain hl, if_neg (by simp), if_pos (by simpa using hc)]
theorem reseal_old {s : TS} (ok : s.Ok) {root : List UInt8} {t u : ByteArray} (h : (s.cur t u).2 = 0) (v : Nat) (h1 : 1 ≤ v) (h2 : v < (s.cur t u).1) (once : Nat) (ho : once < 2 ^ 64) (plain : List UInt8) (hl : plain.length ≤ 1024) (hn : s.n ≠ 1099511627776) : s.resealR root t u (UInt8.ofNat v :: sealB (derRes root [t, u, txtJ v]) once plain) = ({ s with n := s.n + 1 }, (UInt8.ofNat (s.cur t u).1 :: sealB (derRes root [t, u, txtJ (s.cur t u).1]) s.n plain, (true, 0))) := by
  obtain ⟨_, _, _, hc⟩ := cur_ok h
  rw [resealR_eq, openR_seal ok h v h1 (by omega) once ho plain hl, if_neg (by simp), if_neg (by simp only; omega), sealR_mk h hl hn]
  rfl
def nR : ByteArray := ⟨#[114, 111, 119, 115]⟩
theorem szR : nR.size ≤ maxLen := by unfold maxLen nR; decide
theorem szT : oT.size ≤ maxLen := by unfold maxLen oT; decide
def bs (k n : Nat) : TS := ⟨if k = 0 then [] else [((oT, nR), k + 1)], [], n⟩
theorem okT : okN oT = true := by decide +kernel
theorem okR : okN nR = true := by decide +kernel
theorem bs_ok (k n : Nat) (hk : k ≤ 15) : (bs k n).Ok := by
  by_cases h0 : k = 0
  · subst h0
    exact ⟨(fun p hp => nomatch hp), List.nodup_nil, (fun p hp => nomatch hp), List.nodup_nil, by simp [bs], by simp [bs]⟩
  · refine ⟨fun p hp => ?_, ?_, (fun p hp => nomatch hp), List.nodup_nil, ?_, by simp [bs]⟩
    · simp [bs, h0] at hp
      subst hp
      exact ⟨okT, okR, by simp only; omega, by simp only; omega, by simp [bs]⟩
    · simp [bs, h0]
    · simp [bs, h0]
theorem bs_ver (k n : Nat) : verOf (bs k n).vs oT nR = k + 1 := by
  unfold verOf bs
  by_cases h0 : k = 0
  · subst h0; rfl
  · simp [h0, isAt]
theorem bs_cur (k n : Nat) : (bs k n).cur oT nR = (k + 1, 0) := by
  unfold TS.cur
  rw [if_pos (by rw [okT, okR]; rfl), if_neg (by simp [bs, isIn]), bs_ver]
theorem bs_rot (k n : Nat) (hk : k < 15) : (bs k n).rotR oT nR = (bs (k + 1) n, (k + 2, 0)) := by
  unfold TS.rotR
  rw [bs_cur]
  have hl : (bs k n).vs.length ≤ 1 := by unfold bs; simp only; split <;> simp
  rw [if_neg (by simp), if_neg (by simp only; omega)]
  have e : (bs k n).rot oT nR (k + 1 + 1) = bs (k + 1) n := by
    unfold TS.rot bs rotV
    by_cases h0 : k = 0
    · subst h0; rfl
    · simp [h0, isAt]
  rw [e]
theorem bs_rot15 (n : Nat) : (bs 15 n).rotR oT nR = (bs 15 n, (0, 7)) := by
  unfold TS.rotR
  rw [bs_cur]
  rw [if_neg (by simp), if_pos (by simp)]
def stepK (k : Nat) : Nat := if k < 15 then k + 1 else k
theorem stepK_le {k : Nat} (h : k ≤ 15) : stepK k ≤ 15 ∧ k ≤ stepK k := by unfold stepK; split <;> omega
theorem bs_step (k n : Nat) (hk : k ≤ 15) : ((bs k n).rotR oT nR).1 = bs (stepK k) n := by
  unfold stepK
  by_cases h : k < 15
  · rw [if_pos h, bs_rot k n h]
  · obtain rfl : k = 15 := by omega
    rw [if_neg h, bs_rot15]
def sealK (root : List UInt8) (k n : Nat) (c : List UInt8) : List UInt8 := UInt8.ofNat (k + 1) :: sealB (derRes root [oT, nR, txtJ (k + 1)]) n c
theorem seal_k (root plain : List UInt8) (hl : plain.length ≤ 1024) (k n : Nat) (hn : n ≤ 1000) : (bs k n).sealR root oT nR plain = (bs k (n + 1), (sealK root k n plain, 0)) := by
  rw [sealR_mk (by rw [bs_cur]) hl (by show n ≠ _; omega), bs_cur]
  rfl
theorem open_k (root plain : List UInt8) (hl : plain.length ≤ 1024) (k k0 n o : Nat) (hk : k ≤ 15) (h0 : k0 ≤ k) (ho : o < 2 ^ 64) : (bs k n).openR root oT nR (sealK root k0 o plain) = (plain, (k0 + 1, 0)) :=
  openR_seal (bs_ok k n hk) (by rw [bs_cur]) (k0 + 1) (by omega) (by rw [bs_cur]; simp only; omega) o ho plain hl
theorem reseal_k (root plain : List UInt8) (hl : plain.length ≤ 1024) (k k0 n o : Nat) (hk : k ≤ 15) (h0 : k0 ≤ k) (ho : o < 2 ^ 64) (hn : n ≤ 1000) : ∃ n' k1 o' b, (bs k n).resealR root oT nR (sealK root k0 o plain) = (bs k n', (sealK root k1 o' plain, (b, 0))) ∧ n ≤ n' ∧ n' ≤ n + 1 ∧ k1 ≤ k ∧ o' < 2 ^ 64 := by
  by_cases e : k0 = k
  · subst e
    refine ⟨n, k0, o, false, ?_, Nat.le_refl _, by omega, h0, ho⟩
    have := reseal_now (bs_ok k0 n hk) (root := root) (t := oT) (u := nR) (by rw [bs_cur]) o ho plain hl
    rw [bs_cur] at this
    exact this
  · refine ⟨n + 1, k, n, true, ?_, by omega, by omega, Nat.le_refl _, by omega⟩
    have := reseal_old (bs_ok k n hk) (root := root) (t := oT) (u := nR) (by rw [bs_cur]) (k0 + 1) (by omega) (by rw [bs_cur]; simp only; omega) o ho plain hl (by show n ≠ _; omega)
    rw [bs_cur] at this
    exact this
theorem sealK_len (root : List UInt8) (k n : Nat) (c : List UInt8) : (sealK root k n c).length = c.length + 25 := by
  unfold sealK
  rw [List.length_cons, sealB_len]
end Go.Proofs.YtomhcccjeadefaaGreatDoor.Bk
/- What TopBooked asks of the keys: sealing a column, rotating, sealing anew, opening. -/
namespace Go.Proofs.YtomhcccjeadefaaGreatDoor.Bk
open Go.RowKit Go.Maps
set_option linter.unusedVariables false
set_option maxRecDepth 20000
variable {w : World} {B g mv mg : Nat} {root : List UInt8} {k n d : Nat}
theorem tlt {s : TS} (h : TreeM w B g mv mg root s d) : ∀ j, Mine g mv mg j → j < w.heap.size := by
  obtain ⟨_, _, nv, ng, V, G, h1, _⟩ := h
  have h2 := h1.mlt
  have h3 := heap_lt h1.obj
  rintro j (rfl | rfl | rfl)
  · exact h3
  · exact h2.1
  · exact h2.2
theorem seal_c (h : TreeM w B g mv mg root (bs k n) d) (hn : n ≤ 1000) (c : List UInt8) (hc : c.length ≤ 100) (a : Option Addr) (m cap : Nat) (hm : m = c.length) (hB : Bytes w a c) (hT : TabAt w) (hK : KAt w) :
    Calls Tryz.prog 9 #[.pointer (some ⟨g, 0, none⟩), .string oT, .string nR, .slice a m cap] w fun e w' => ∃ gs cp, e = .returned (.tuple #[.slice (some ⟨gs, 0, none⟩) (c.length + 25) cp, .int .i64 0]) ∧ c.length + 25 ≤ cp ∧ Bytes w' (some ⟨gs, 0, none⟩) (sealK root k n c) ∧ w.heap.size ≤ gs ∧ TreeM w' B g mv mg root (bs k (n + 1)) d ∧ OutJ (Mine g mv mg) w w' := by
  refine (seal_m h (by show n ≤ _; omega) oT nR szT szR c a m cap hm hB hT hK).mono ?_
  rw [seal_k root c (by omega) k n hn]
  rintro _ w' ⟨v, rfl, ho, ht, hx⟩
  simp only at ho ht ⊢
  have hl := sealK_len root k n c
  obtain ⟨gs, cp, rfl, h1, h2, h3⟩ := own_some ho (by omega)
  rw [hl] at h2 ⊢
  exact ⟨gs, cp, rfl, h2, h1, h3, ht, hx⟩
theorem rot_c (h : TreeM w B g mv mg root (bs k n) d) (hk : k ≤ 15) (hd : d ≤ 900) :
    Calls Tryz.prog 10 #[.pointer (some ⟨g, 0, none⟩), .string oT, .string nR] w fun e w' => (∃ v, e = .returned v) ∧ TreeM w' B g mv mg root (bs (stepK k) n) (d + 1) ∧ OutJ (Mine g mv mg) w w' := by
  refine (rotate_m h hd oT nR szT szR).mono ?_
  rw [bs_step k n hk]
  rintro _ w' ⟨rfl, ht, hx⟩
  exact ⟨⟨_, rfl⟩, ht, hx⟩
theorem reseal_c (h : TreeM w B g mv mg root (bs k n) d) (hk : k ≤ 15) (hn : n ≤ 1000) (c : List UInt8) (hc : c.length ≤ 100) (k0 o : Nat) (h0 : k0 ≤ k) (ho : o < 2 ^ 64) (gs cap : Nat) (hcap : c.length + 25 ≤ cap) (hB : Bytes w (some ⟨gs, 0, none⟩) (sealK root k0 o c)) (hT : TabAt w) (hK : KAt w) :
    Calls Tryz.prog 11 #[.pointer (some ⟨g, 0, none⟩), .string oT, .string nR, .slice (some ⟨gs, 0, none⟩) (c.length + 25) cap] w fun e w' => ∃ gn cp b n' k1 o', e = .returned (.tuple #[.slice (some ⟨gn, 0, none⟩) (c.length + 25) cp, .bool b, .int .i64 0]) ∧ c.length + 25 ≤ cp ∧ Bytes w' (some ⟨gn, 0, none⟩) (sealK root k1 o' c) ∧ w.heap.size ≤ gn ∧ TreeM w' B g mv mg root (bs k n') d ∧ n ≤ n' ∧ n' ≤ n + 1 ∧ k1 ≤ k ∧ o' < 2 ^ 64 ∧ OutJ (Mine g mv mg) w w' := by
  have hl := sealK_len root k0 o c
  obtain ⟨n', k1, o', b, hr, q1, q2, q3, q4⟩ := reseal_k root c (by omega) k k0 n o hk h0 ho hn
  refine (reseal_l h (by show n ≤ _; omega) oT nR szT szR (sealK root k0 o c) (some ⟨gs, 0, none⟩) (c.length + 25) cap hl.symm (by omega) hcap (fun _ => ⟨gs, rfl⟩) hB hT hK).mono ?_
  rw [hr]
  rintro _ w' ⟨v, rfl, hw, ht, hx⟩
  simp only at hw ht ⊢
  have hl' := sealK_len root k1 o' c
  obtain ⟨gn, cp, rfl, h1, h2, h3⟩ := own_some hw (by omega)
  rw [hl'] at h2 ⊢
  exact ⟨gn, cp, b, n', k1, o', rfl, h2, h1, h3, ht, q1, q2, q3, q4, hx⟩
theorem open_c (h : TreeM w B g mv mg root (bs k n) d) (hk : k ≤ 15) (c : List UInt8) (hc : c.length ≤ 100) (hc0 : 0 < c.length) (k0 o : Nat) (h0 : k0 ≤ k) (ho : o < 2 ^ 64) (gs cap : Nat) (hcap : c.length + 25 ≤ cap) (hB : Bytes w (some ⟨gs, 0, none⟩) (sealK root k0 o c)) (hT : TabAt w) (hK : KAt w) :
    Calls Tryz.prog 12 #[.pointer (some ⟨g, 0, none⟩), .string oT, .string nR, .slice (some ⟨gs, 0, none⟩) (c.length + 25) cap] w fun e w' => ∃ v, e = .returned (.tuple #[v, .int .i64 ((k0 + 1 : Nat) : Int), .int .i64 0]) ∧ (convert 29 9 v).run Tryz.prog w'.drew = .ok (.string ⟨c.toArray⟩) w'.drew ∧ Below w.heap.size w w' := by
  have hl := sealK_len root k0 o c
  refine (open_l h oT nR szT szR (sealK root k0 o c) (some ⟨gs, 0, none⟩) (c.length + 25) cap hl.symm (by omega) hcap (fun _ => ⟨gs, rfl⟩) hB hT hK).mono ?_
  rw [open_k root c (by omega) k k0 n o hk h0 ho]
  rintro _ w' ⟨v, rfl, hw, hx⟩
  exact ⟨v, rfl, conv_own (w := w'.drew) hw hc0, hx⟩
end Go.Proofs.YtomhcccjeadefaaGreatDoor.Bk
/- TopBooked: what stands while it walks. -/
namespace Go.Proofs.YtomhcccjeadefaaGreatDoor
open Go.RowKit Go.Maps
set_option linter.unusedVariables false
set_option maxRecDepth 20000
theorem map_outJB {P : Nat → Prop} {w w' : World} {p : Program} {k : TypeId} {R : Value → Option (DataW Unit × List MemPlace)} {b n : Nat} {D : DataW Unit} (h : w.ownsMap p k R b n D) (ho : OutJ P w w') (hp : ¬ P b) : w'.ownsMap p k R b n D := by
  have hlt := h.lt
  obtain ⟨es, clock, hb, rest⟩ := h
  exact ⟨es, clock, (ho.block b hlt hp).trans hb, rest⟩
section
variable {w w' : World} {B g mv mg : Nat} {root : List UInt8} {s : TS} {d : Nat}
theorem TreeM.outB {P : Nat → Prop} (h : TreeM w B g mv mg root s d) (ho : OutJ P w w') (h1 : ∀ j, Mine g mv mg j → ¬ P j) : TreeM w' B g mv mg root s d := by
  obtain ⟨ok, hne, nv, ng, V, G, t, rest⟩ := h
  exact ⟨ok, hne, nv, ng, V, G, ⟨(ho.block g t.lt (h1 _ (.inl rfl))).trans t.obj, map_outJB t.vm ho (h1 _ (.inr (.inl rfl))), map_outJB t.gm ho (h1 _ (.inr (.inr rfl))), t.len, t.bg, t.bv, t.bm⟩, rest⟩
theorem TreeM.bgs (h : TreeM w B g mv mg root s d) : ∀ j, Mine g mv mg j → B ≤ j := by
  obtain ⟨ok, hne, nv, ng, V, G, t, rest⟩ := h
  rintro j (rfl | rfl | rfl)
  · exact t.bg
  · exact t.bv
  · exact t.bm
end
theorem new_tB (w : World) (root : List UInt8) (hl : root.length = 32) : Calls Tryz.prog 5 #[.agg (bvs root)] w fun e w' => ∃ g mv mg, e = .returned (.pointer (some ⟨g, 0, none⟩)) ∧ TreeM w' w.heap.size g mv mg root (Bk.bs 0 0) 0 ∧ Below w.heap.size w w' := by
  refine (new_any w root hl).mono fun e w' ⟨g, mv, mg, h1, h2, h3, h4⟩ => ?_
  exact ⟨g, mv, mg, h1, treeM_new h2 h4 (Nat.le_refl _), h3⟩
theorem tab_kat {w w' : World} (h : TabAt w ∧ KAt w) (hb : Below w.heap.size w w') : TabAt w' ∧ KAt w' := ⟨TabAt.belowJ h.1 hb, h.2.below hb⟩
def colsB (h : List UInt8) : List ByteArray := [mkH h, saltB, txtJ 2, txtJ 0, txtJ 0]
theorem colsB_len (h : List UInt8) : (colsB h).length = 5 := rfl
theorem colsB_size {h : List UInt8} (hl : h.length = 32) : ∀ c ∈ colsB h, 0 < c.data.toList.length ∧ c.data.toList.length ≤ 100 ∧ c.size ≤ 100 := by
  have h1 : (mkH h).data.toList = h := rfl
  have h2 : (mkH h).size = 32 := by show h.toArray.size = 32; simpa using hl
  have h3 : (txtJ 2).data.toList.length = 2 ∧ (txtJ 2).size = 2 := by decide +kernel
  have h4 : (txtJ 0).data.toList.length = 1 ∧ (txtJ 0).size = 1 := by decide +kernel
  have h5 : saltB.data.toList.length = 4 ∧ saltB.size = 4 := by decide +kernel
  intro c hc
  unfold colsB at hc
  rcases List.mem_cons.1 hc with rfl | hc
  · rw [h1, h2]; omega
  rcases List.mem_cons.1 hc with rfl | hc
  · omega
  rcases List.mem_cons.1 hc with rfl | hc
  · omega
  rcases List.mem_cons.1 hc with rfl | hc
  · omega
  rcases List.mem_cons.1 hc with rfl | hc
  · omega
  · cases hc
theorem RowC.col {w : World} {B g : Nat} {key : ByteArray} {h : List UInt8} (o : RowC w B g key 0 0 2 h) : ∃ q, w.cell? ⟨g, 1, none⟩ = some (.slice (some ⟨q, 0, none⟩) 5 5) ∧ B ≤ q ∧ q < w.heap.size ∧ w.heap[q]? = some (.cells ((colsB h).map Value.string).toArray 9 (0, 0)) ∧ (∀ j (hj : j < 5), w.cell? ⟨q, j, none⟩ = some (.string ((colsB h)[j]'(by rw [colsB_len]; exact hj)))) ∧ ∀ o, w.frozen? ⟨q, o, none⟩ = false := by
  obtain ⟨q, cur, h1, h2, h3, h4, h5, h6⟩ := o
  refine ⟨q, (cell_of_row _ _ 1 _ _ _ h1).trans h3, h6, heap_lt h4, h4, fun j hj => ?_, fun o => frozen_of_row _ _ _ _ _ h4⟩
  rw [cell_of_row _ _ _ _ _ _ h4]
  match j, hj with
  | 0, _ => rfl
  | 1, _ => rfl
  | 2, _ => rfl
  | 3, _ => rfl
  | 4, _ => rfl
theorem RowC.outJ {P : Nat → Prop} {w w' : World} {B g : Nat} {key : ByteArray} {tr un k : Nat} {h : List UInt8} (o : RowC w B g key tr un k h) (ho : OutJ P w w') (hP : ∀ j, P j → j < B) : RowC w' B g key tr un k h := by
  obtain ⟨q, cur, h1, h2, h3, h4, h5, h6⟩ := o
  exact ⟨q, cur, (ho.block _ (heap_lt h1) (fun e => by have := hP _ e; omega)).trans h1, h2, h3, (ho.block _ (heap_lt h4) (fun e => by have := hP _ e; omega)).trans h4, h5, h6⟩
theorem setCell_same {w : World} {q j : Nat} {t : TypeId} {cur : List Value} {v : Value} (hq : w.heap[q]? = some (.cells cur.toArray t (0, 0))) (hc : cur[j]? = some v) (k : Nat) : (w.setCell ⟨q, j, none⟩ v).heap[k]? = w.heap[k]? := by
  by_cases e : k = q
  · subst e
    have hj := (List.getElem?_eq_some_iff.1 hc).1
    have hv := (List.getElem?_eq_some_iff.1 hc).2
    have h1 := heap_setCells_same k t [v] j w cur hq (by simp; omega)
    have h2 : splice cur j [v] = cur := by
      unfold splice
      have h3 := List.drop_eq_getElem_cons hj
      rw [hv] at h3
      simp only [List.length_cons, List.length_nil, Nat.zero_add]
      calc _ = cur.take j ++ (v :: cur.drop (j + 1)) := by simp
        _ = cur := by rw [← h3, List.take_append_drop]
    rw [h2] at h1
    exact h1.trans hq.symm
  · exact heap_setCell_other _ _ _ _ e
theorem RowC.eqv {w w' : World} {B g : Nat} {key : ByteArray} {tr un k : Nat} {h : List UInt8} (o : RowC w B g key tr un k h) (he : ∀ i : Nat, w'.heap[i]? = w.heap[i]?) : RowC w' B g key tr un k h := by
  obtain ⟨q, cur, h1, h2, h3, h4, h5, h6⟩ := o
  exact ⟨q, cur, (he _).trans h1, h2, h3, (he _).trans h4, h5, h6⟩
def TB (W w : World) (B2 B5 o g mv mg gr j : Nat) (root h : List UInt8) : Prop := ∃ k n d, k ≤ 15 ∧ n ≤ 2 * j ∧ d ≤ 14 * j ∧ TreeM w B2 g mv mg root (Bk.bs k n) d ∧ RowC w B5 gr kTU 0 0 2 h ∧ Below W.heap.size W w ∧ w.heap[o]? = some (.cells #[.string oT, .string oU] 31 (0, 0))
theorem TB.eqv {W w : World} {B2 B5 o g mv mg gr j : Nat} {root h : List UInt8} (hT : TB W w B2 B5 o g mv mg gr j root h) {q x : Nat} {t : TypeId} {cur : List Value} {v : Value} (hq : w.heap[q]? = some (.cells cur.toArray t (0, 0))) (hc : cur[x]? = some v) : TB W (w.setCell ⟨q, x, none⟩ v).drew B2 B5 o g mv mg gr j root h := by
  obtain ⟨k, n, d, h1, h2, h3, ht, hrow, hbw, hox⟩ := hT
  have he : ∀ i : Nat, (w.setCell ⟨q, x, none⟩ v).drew.heap[i]? = w.heap[i]? := fun i => setCell_same hq hc i
  have hs : w.heap.size ≤ (w.setCell ⟨q, x, none⟩ v).drew.heap.size := by
    have : (w.setCell ⟨q, x, none⟩ v).drew.heap.size = w.heap.size := by show (w.setCell ⟨q, x, none⟩ v).heap.size = _; simp [World.setCell]
    exact Nat.le_of_eq this.symm
  have ho : OutJ (fun _ => False) w (w.setCell ⟨q, x, none⟩ v).drew := ⟨rfl, rfl, rfl, hs, fun i _ _ => he i⟩
  exact ⟨k, n, d, h1, h2, h3, ht.outB ho (fun _ _ h => h), hrow.eqv he, hbw.trans ⟨rfl, rfl, rfl, hs, fun i _ => he i⟩, (he o).trans hox⟩
end Go.Proofs.YtomhcccjeadefaaGreatDoor
