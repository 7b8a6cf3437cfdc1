/- What KeysBack asks, of trees as mathematics: a tree with one key, which was rotated k times. -/
import Derived.Test.YtdglmoikgmlaaaaGreatDoorJRows
import Derived.Test.YtdglmoikgmlaaaaGreatDoorJLM
import Derived.Test.YtdglmoikgmlaaaaGreatDoorJ15
namespace Go.Proofs.YtdglmoikgmlaaaaGreatDoor.Bk
open Go.RowKit Go.Maps
set_option linter.unusedVariables false
set_option maxRecDepth 20000
theorem openS_seal (key : List UInt8) (once : Nat) (ho : once < 2 ^ 64) (plain : List UInt8) (hl : plain.length ≤ 1024) : openS key (sealB key once plain) = (plain, 0) := by
  have h1 := sealB_len key once plain
  unfold openS
  rw [if_neg (by omega), if_neg (by omega), if_pos (by rw [seal_take, seal_drop])]
  rw [seal_take, seal_eight, numB_be8 once ho, head_drop, cross_back]
theorem openR_seal {s : TS} (ok : s.Ok) {root : List UInt8} {t u : ByteArray} (h : (s.cur t u).2 = 0) (v : Nat) (h1 : 1 ≤ v) (h2 : v ≤ (s.cur t u).1) (once : Nat) (ho : once < 2 ^ 64) (plain : List UInt8) (hl : plain.length ≤ 1024) : s.openR root t u (UInt8.ofNat v :: sealB (derRes root [t, u, txtJ v]) once plain) = (plain, (v, 0)) := by
  obtain ⟨_, _, _, hc⟩ := cur_ok h
  obtain ⟨v1, v2⟩ := verOf_ok ok t u
  have hv : (UInt8.ofNat v).toNat = v := by simp; omega
  show s.openB root t u _ _ = _
  unfold TS.openB
  have hk : s.keyR root t u (((UInt8.ofNat v).toNat : Nat) : Int) = (derRes root [t, u, txtJ v], 0) := by
    unfold TS.keyR
    rw [hv, if_neg (by omega), if_neg (by omega)]
    rfl
  rw [if_neg (by omega), hk, if_neg (by simp), openS_seal _ once ho plain hl, hv]
  rfl
theorem sealR_mk {s : TS} {root : List UInt8} {t u : ByteArray} {p : List UInt8} (h : (s.cur t u).2 = 0) (hl : p.length ≤ 1024) : s.sealR root t u p = ({ s with n := s.n + 1 }, (UInt8.ofNat (s.cur t u).1 :: sealB (derRes root [t, u, txtJ (s.cur t u).1]) s.n p, 0)) := by
  unfold TS.sealR
  rw [if_neg (by omega), if_neg (by omega)]
theorem resealR_eq (s : TS) (root : List UInt8) (t u : ByteArray) (S : List UInt8) : s.resealR root t u S = if (s.openR root t u S).2.2 ≠ 0 then (s, ([], (false, (s.openR root t u S).2.2))) else if (s.openR root t u S).2.1 = verOf s.vs t u then (s, (S, (false, 0))) else ((s.sealR root t u (s.openR root t u S).1).1, ((s.sealR root t u (s.openR root t u S).1).2.1, (decide ((s.sealR root t u (s.openR root t u S).1).2.2 = 0), (s.sealR root t u (s.openR root t u S).1).2.2))) := by
  cases S with
  | nil =>
    rw [openR_nil, if_pos]
    · rfl
    · show (if (s.cur t u).2 ≠ 0 then (s.cur t u).2 else 3) ≠ 0
      split <;> omega
  | cons b S => rfl
theorem reseal_now {s : TS} (ok : s.Ok) {root : List UInt8} {t u : ByteArray} (h : (s.cur t u).2 = 0) (once : Nat) (ho : once < 2 ^ 64) (plain : List UInt8) (hl : plain.length ≤ 1024) : s.resealR root t u (UInt8.ofNat (s.cur t u).1 :: sealB (derRes root [t, u, txtJ (s.cur t u).1]) once plain) = (s, (UInt8.ofNat (s.cur t u).1 :: sealB (derRes root [t, u, txtJ (s.cur t u).1]) once plain, (false, 0))) := by
  obtain ⟨_, _, _, hc⟩ := cur_ok h
  obtain ⟨v1, v2⟩ := verOf_ok ok t u
  rw [resealR_eq, openR_seal ok h _ (by omega) (Nat.le_refl _) once ho plain hl, if_neg (by simp), if_pos (by simpa using hc)]
theorem reseal_old {s : TS} (ok : s.Ok) {root : List UInt8} {t u : ByteArray} (h : (s.cur t u).2 = 0) (v : Nat) (h1 : 1 ≤ v) (h2 : v < (s.cur t u).1) (once : Nat) (ho : once < 2 ^ 64) (plain : List UInt8) (hl : plain.length ≤ 1024) : s.resealR root t u (UInt8.ofNat v :: sealB (derRes root [t, u, txtJ v]) once plain) = ({ s with n := s.n + 1 }, (UInt8.ofNat (s.cur t u).1 :: sealB (derRes root [t, u, txtJ (s.cur t u).1]) s.n plain, (true, 0))) := by
  obtain ⟨_, _, _, hc⟩ := cur_ok h
  rw [resealR_eq, openR_seal ok h v h1 (by omega) once ho plain hl, if_neg (by simp), if_neg (by simp only; omega), sealR_mk h hl]
  rfl
def nA : ByteArray := ⟨#[97]⟩
def nM : ByteArray := ⟨#[109, 97, 105, 108]⟩
theorem szA : nA.size ≤ maxLen := by unfold maxLen nA; decide
theorem szM : nM.size ≤ maxLen := by unfold maxLen nM; decide
/-- one key, rotated k times; n texts were sealed -/
def bs (k n : Nat) : TS := ⟨if k = 0 then [] else [((nA, nM), k + 1)], [], n⟩
theorem okA : okN nA = true := by decide +kernel
theorem okM : okN nM = true := by decide +kernel
theorem bs_ok (k n : Nat) (hk : k ≤ 15) : (bs k n).Ok := by
  by_cases h0 : k = 0
  · subst h0
    exact ⟨(fun p hp => nomatch hp), List.nodup_nil, (fun p hp => nomatch hp), List.nodup_nil, by simp [bs], by simp [bs]⟩
  · refine ⟨fun p hp => ?_, ?_, (fun p hp => nomatch hp), List.nodup_nil, ?_, by simp [bs]⟩
    · simp [bs, h0] at hp
      subst hp
      exact ⟨okA, okM, by simp only; omega, by simp only; omega, by simp [bs]⟩
    · simp [bs, h0]
    · simp [bs, h0]
theorem bs_ver (k n : Nat) : verOf (bs k n).vs nA nM = k + 1 := by
  unfold verOf bs
  by_cases h0 : k = 0
  · subst h0; rfl
  · simp [h0, isAt]
theorem bs_cur (k n : Nat) : (bs k n).cur nA nM = (k + 1, 0) := by
  unfold TS.cur
  rw [if_pos (by rw [okA, okM]; rfl), if_neg (by simp [bs, isIn]), bs_ver]
theorem bs_rot (k n : Nat) (hk : k < 15) : (bs k n).rotR nA nM = (bs (k + 1) n, (k + 2, 0)) := by
  unfold TS.rotR
  rw [bs_cur]
  have hl : (bs k n).vs.length ≤ 1 := by unfold bs; simp only; split <;> simp
  rw [if_neg (by simp), if_neg (by simp only; omega)]
  have e : (bs k n).rot nA nM (k + 1 + 1) = bs (k + 1) n := by
    unfold TS.rot bs rotV
    by_cases h0 : k = 0
    · subst h0; rfl
    · simp [h0, isAt]
  rw [e]
theorem bs_setN (k n m : Nat) : ({ bs k n with n := m } : TS) = bs k m := rfl
theorem ts0 : TS0 = bs 0 0 := rfl
theorem seal0 (root plain : List UInt8) (hl : plain.length ≤ 1024) : TS0.sealR root nA nM plain = (bs 0 1, (UInt8.ofNat 1 :: sealB (derRes root [nA, nM, txtJ 1]) 0 plain, 0)) := by
  rw [sealR_mk (by rw [ts0, bs_cur]) hl, ts0, bs_cur]
  rfl
theorem seal0_long (root plain : List UInt8) (hl : ¬ plain.length ≤ 1024) : TS0.sealR root nA nM plain = (TS0, ([], 6)) := by
  unfold TS.sealR
  rw [ts0, bs_cur, if_neg (by simp), if_pos (by omega)]
theorem open_k (root plain : List UInt8) (hl : plain.length ≤ 1024) (k : Nat) (hk : k ≤ 15) : (bs k 1).openR root nA nM (UInt8.ofNat 1 :: sealB (derRes root [nA, nM, txtJ 1]) 0 plain) = (plain, (1, 0)) :=
  openR_seal (bs_ok k 1 hk) (by rw [bs_cur]) 1 (by omega) (by rw [bs_cur]; simp only; omega) 0 (by omega) plain hl
/-- Reseal, and the opening of what it gave -/
theorem reseal_k (root plain : List UInt8) (hl : plain.length ≤ 1024) (k : Nat) (hk : k ≤ 15) : ∃ n C, (bs k 1).resealR root nA nM (UInt8.ofNat 1 :: sealB (derRes root [nA, nM, txtJ 1]) 0 plain) = (bs k n, (C, (decide (0 < k), 0))) ∧ n ≤ 2 ∧ 0 < C.length ∧ C.length ≤ 1049 ∧ (bs k n).openR root nA nM C = (plain, (k + 1, 0)) := by
  have hlen : ∀ key o, (sealB key o plain).length ≤ 1048 := fun key o => by have := sealB_len key o plain; omega
  by_cases h0 : k = 0
  · subst h0
    refine ⟨1, _, ?_, by omega, ?_, ?_, open_k root plain hl 0 (by omega)⟩
    · have := reseal_now (bs_ok 0 1 (by omega)) (root := root) (t := nA) (u := nM) (by rw [bs_cur]) 0 (by omega) plain hl
      rw [bs_cur] at this
      exact this
    · simp
    · simp only [List.length_cons]; have := hlen (derRes root [nA, nM, txtJ 1]) 0; omega
  · have h1 := reseal_old (bs_ok k 1 hk) (root := root) (t := nA) (u := nM) (by rw [bs_cur]) 1 (by omega) (by rw [bs_cur]; simp only; omega) 0 (by omega) plain hl
    rw [bs_cur] at h1
    refine ⟨2, _, ?_, by omega, ?_, ?_, openR_seal (bs_ok k 2 hk) (by rw [bs_cur]) (k + 1) (by omega) (by rw [bs_cur]; simp) 1 (by omega) plain hl⟩
    · rw [h1, decide_eq_true (by omega : 0 < k)]
      rfl
    · simp
    · simp only [List.length_cons]; have := hlen (derRes root [nA, nM, txtJ (k + 1)]) 1; omega
open Xr
theorem cut_AM : cutS (nA ++ ⟨#[47]⟩ ++ nM) = some (nA, nM) := by decide +kernel
theorem key_AM : (nA ++ ⟨#[47]⟩ ++ nM) ≠ headK := by decide +kernel
theorem less_AM : headK.toList < (nA ++ ⟨#[47]⟩ ++ nM).toList := by decide +kernel
/-- the rows of such a tree, in order, are loaded as that tree -/
theorem load_back (k n : Nat) (hk : k ≤ 15) (hn : n ≤ 2) {m : List Rw} (hp : m.Perm (mOf (bs k n))) (ho : InOrder keyR m) : loadR m = some (bs k n) ∧ m.length ≤ 2 ∧ ∀ r ∈ m, r.key.size ≤ 10 ∧ r.cols.length ≤ 10 ∧ ∀ c ∈ r.cols, c.size ≤ 20 := by
  have htx : ∀ n, n ≤ 4611686018427387904 → (txtJ n).size ≤ 20 := fun n h => by
    show (numT n).toArray.size ≤ 20
    unfold numT
    split
    · decide
    · rw [List.size_toArray, List.length_cons, lo_length]
      have := (Nat.log2_lt (by omega)).2 (show n < 2 ^ 63 by omega)
      omega
  have h1 : takeR TS0 (hRow n) = some (bs 0 n) := by
    unfold takeR hRow
    rw [if_pos (show (Rw.mk ⟨#[35]⟩ [txtJ n]).key = headK from rfl)]
    simp only
    rw [oneN_txt n 0 1099511627776 (by omega) (by omega) (by omega)]
    rfl
  by_cases h0 : k = 0
  · subst h0
    have e : mOf (bs 0 n) = [hRow n] := rfl
    rw [e] at hp
    obtain rfl := List.perm_singleton.1 hp
    refine ⟨?_, by simp, fun r hr => ?_⟩
    · unfold loadR
      rw [if_pos ⟨⟨_, [], rfl, rfl⟩, List.pairwise_singleton _ _⟩]
      simp only [loadF, h1, Option.bind_some]
    · simp at hr
      subst hr
      exact ⟨by unfold hRow; show (⟨#[35]⟩ : ByteArray).size ≤ 10; decide, by simp [hRow], fun c hc => by simp [hRow] at hc; subst hc; exact htx n (by omega)⟩
  · have e : mOf (bs k n) = [hRow n, vRow ((nA, nM), k + 1)] := by unfold mOf bs; simp [h0]
    have hk2 : ∀ p, (vRow ((nA, nM), p)).key = nA ++ ⟨#[47]⟩ ++ nM := fun p => rfl
    rw [e] at hp
    have hr : Rise [hRow n, vRow ((nA, nM), k + 1)] := by
      unfold Rise
      rw [List.pairwise_cons]
      refine ⟨fun r hr => ?_, List.pairwise_singleton _ _⟩
      simp at hr
      subst hr
      exact less_AM
    have em : m = [hRow n, vRow ((nA, nM), k + 1)] := by
      refine uniq (key := keyR) hp ho ?_ ?_
      · refine List.Pairwise.imp ?_ hr
        intro a b hab
        exact List.lt_asymm hab
      · intro a ha b hb hab
        have ha' := hp.mem_iff.1 ha
        have hb' := hp.mem_iff.1 hb
        simp at ha' hb'
        rcases ha' with rfl | rfl <;> rcases hb' with rfl | rfl
        · rfl
        · exact absurd (less_AM) (by have h9 : headK.toList = (nA ++ ⟨#[47]⟩ ++ nM).toList := hab; rw [h9]; exact List.lt_irrefl _)
        · exact absurd (less_AM) (by have h9 : (nA ++ ⟨#[47]⟩ ++ nM).toList = headK.toList := hab; rw [h9]; exact List.lt_irrefl _)
        · rfl
    subst em
    refine ⟨?_, by simp, fun r hr => ?_⟩
    · unfold loadR
      rw [if_pos ⟨⟨_, _, rfl, rfl⟩, hr⟩]
      simp only [loadF, h1, Option.bind_some]
      have h2 : takeR (bs 0 n) (vRow ((nA, nM), k + 1)) = some (bs k n) := by
        unfold takeR
        rw [if_neg (by rw [hk2]; exact key_AM), hk2, cut_AM]
        simp only [vRow]
        rw [oneN_txt (k + 1) 2 16 (by omega) (by omega) (by omega)]
        simp only [Option.bind_some]
        rw [bs_cur, if_pos ⟨rfl, by simp [bs]⟩]
        unfold TS.rot rotV bs
        simp [h0]
      rw [h2]
      rfl
    · simp at hr
      rcases hr with rfl | rfl
      · exact ⟨by unfold hRow; show (⟨#[35]⟩ : ByteArray).size ≤ 10; decide, by simp [hRow], fun c hc => by simp [hRow] at hc; subst hc; exact htx n (by omega)⟩
      · exact ⟨by rw [hk2]; decide +kernel, by simp [vRow], fun c hc => by simp [vRow] at hc; subst hc; exact htx _ (by omega)⟩
end Go.Proofs.YtdglmoikgmlaaaaGreatDoor.Bk
