/- What the deeds do to a cache between calls. -/
import Derived.Test.YtdieafkmnckhaaaGreatPDeed
namespace Go.Proofs.YtdieafkmnckhaaaGreat
open Go.RowKit Go.Maps Go.Sort Go.Shelf
set_option linter.unusedVariables false
set_option maxRecDepth 20000
section
variable {s : PS}
theorem firstUn_mem (hex : ∃ x ∈ s.ord, s.pin x = false) : firstUn s ∈ s.ord := by
  unfold firstUn
  cases hf : s.ord.find? (fun x => !s.pin x) with
  | some y => exact List.mem_of_find?_eq_some hf
  | none =>
    obtain ⟨x, hx, hp⟩ := hex
    have := (List.find?_eq_none.1 hf) x hx
    simp [hp] at this
theorem drop_len (hn : s.ord.Nodup) {q : Nat} (hq : q ∈ s.ord) : (dropS s q).ord.length + 1 = s.ord.length := filter_len hn hq
theorem useS_ext (ok : CaOk s) (he : Ext s) {q : Nat} (hqP : q < s.P) (hd : (s.dl.lookup q).isSome = false) : Ext (useS s q) := by
  have hnd : ∀ c ∈ s.dl, c.1 ≠ q := lookup_none (by cases h : s.dl.lookup q with | none => rfl | some y => rw [h] at hd; cases hd)
  unfold useS
  by_cases hq : q ∈ s.ord
  · rw [if_pos hq]
    refine ⟨?_, fun c hc => ?_⟩
    · have h1 := filter_len ok.nd hq
      have h2 := he.full
      show (s.ord.filter (fun x => x != q) ++ [q]).length ≤ s.mo
      rw [List.length_append, List.length_singleton]
      omega
    · show c.1 ∉ s.ord.filter (fun x => x != q) ++ [q]
      intro hm
      rcases List.mem_append.1 hm with hm | hm
      · exact he.apart c hc (List.mem_filter.1 hm).1
      · exact hnd c hc (by simpa using hm)
  · rw [if_neg hq]
    have hap : ∀ c ∈ s.dl, c.1 ∉ s.ord ++ [q] := fun c hc hm => by
      rcases List.mem_append.1 hm with hm | hm
      · exact he.apart c hc hm
      · exact hnd c hc (by simpa using hm)
    have hl : (missS s q).ord.length = s.ord.length + 1 := by show (s.ord ++ [q]).length = _; simp
    by_cases hm : s.mo < (missS s q).ord.length
    · rw [if_pos hm]
      have hmem : firstUn (missS s q) ∈ (missS s q).ord := firstUn_mem ⟨q, by show q ∈ s.ord ++ [q]; simp, upd_same _ _ _⟩
      have hok : CaOk (pushS { s with mi := s.mi + 1, t := s.t + 1 } q false) := CaOk.push (s := { s with mi := s.mi + 1, t := s.t + 1 }) ⟨ok.nd, ok.olt, ok.ol, ok.mo1, ok.mo2, ok.dup, ok.dlt, ok.dlen, Nat.le_succ_of_le ok.hit, Nat.succ_le_succ ok.mit⟩ hq hqP he.full false
      have h1 := drop_len (s := missS s q) hok.nd hmem
      refine ⟨?_, fun c hc hm' => hap c hc (List.mem_filter.1 hm').1⟩
      have h2 := he.full
      show (dropS (missS s q) _).ord.length ≤ s.mo
      omega
    · rw [if_neg hm]
      exact ⟨by show (missS s q).ord.length ≤ s.mo; omega, fun c hc => hap c hc⟩
theorem readS_ext (ok : CaOk s) (he : Ext s) {q : Nat} (hqP : q < s.P) : Ext (readS s q) := by
  unfold readS
  by_cases h : (s.dl.lookup q).isSome = true
  · rw [if_pos h]; exact he
  · rw [if_neg h]; exact useS_ext ok he hqP (Bool.eq_false_iff.2 h)
theorem writeS_ext (he : Ext s) (q : Nat) (y : List UInt8) : Ext (writeS s q y) := by
  refine ⟨Nat.le_trans (List.length_filter_le _ _) he.full, fun c hc hm => ?_⟩
  have hm' := List.mem_filter.1 hm
  rcases dIns_mem (show c ∈ dIns q y s.dl from hc) with e | e
  · subst e; simp at hm'
  · exact he.apart c e hm'.1
theorem commitS_dl : (commitS s).dl = [] := by
  unfold commitS
  by_cases h0 : s.dl.length = 0
  · rw [if_pos h0]; exact List.length_eq_zero_iff.1 h0
  · rw [if_neg h0]; split <;> rfl
theorem commitS_same : (commitS s).ord = s.ord ∧ (commitS s).mo = s.mo ∧ (commitS s).S = s.S ∧ (commitS s).P = s.P ∧ (commitS s).t = s.t + 3 ∧ (commitS s).hi = s.hi ∧ (commitS s).mi = s.mi := by
  unfold commitS
  split
  · exact ⟨rfl, rfl, rfl, rfl, rfl, rfl, rfl⟩
  · split <;> exact ⟨rfl, rfl, rfl, rfl, rfl, rfl, rfl⟩
theorem commitS_ext (he : Ext s) : Ext (commitS s) := by
  obtain ⟨h1, h2, _⟩ := commitS_same (s := s)
  refine ⟨by rw [h1, h2]; exact he.full, fun c hc => ?_⟩
  rw [commitS_dl] at hc
  cases hc
theorem fullS_ext (he : Ext s) : Ext (fullS s) := ⟨he.full, he.apart⟩
theorem abortS_ext (he : Ext s) : Ext (abortS s) := ⟨he.full, fun c hc => by cases hc⟩
/-- what does not change -/
theorem useS_same (q : Nat) : (useS s q).S = s.S ∧ (useS s q).P = s.P ∧ (useS s q).mo = s.mo ∧ (useS s q).t = s.t + 1 ∧ (useS s q).dl = s.dl ∧ (useS s q).gs = s.gs ∧ (useS s q).ls = s.ls ∧ (useS s q).G = s.G := by
  unfold useS
  split
  · exact ⟨rfl, rfl, rfl, rfl, rfl, rfl, rfl, rfl⟩
  · split <;> exact ⟨rfl, rfl, rfl, rfl, rfl, rfl, rfl, rfl⟩
theorem readS_same (q : Nat) : (readS s q).S = s.S ∧ (readS s q).P = s.P ∧ (readS s q).mo = s.mo ∧ (readS s q).t ≤ s.t + 1 ∧ (readS s q).dl = s.dl ∧ (readS s q).gs = s.gs ∧ (readS s q).ls = s.ls ∧ (readS s q).G = s.G := by
  unfold readS
  split
  · exact ⟨rfl, rfl, rfl, Nat.le_succ _, rfl, rfl, rfl, rfl⟩
  · obtain ⟨h1, h2, h3, h4, h5, h6, h7, h8⟩ := useS_same (s := s) q
    exact ⟨h1, h2, h3, Nat.le_of_eq h4, h5, h6, h7, h8⟩
theorem page_congr {s s' : PS} (h1 : s'.S = s.S) (h2 : s'.P = s.P) (h3 : s'.gs = s.gs) (h4 : s'.ls = s.ls) (q : Nat) : s'.page q = s.page q := by unfold PS.page; rw [h1, h2, h3, h4]
theorem readS_now (q x : Nat) : (readS s q).now x = s.now x := by
  obtain ⟨h1, h2, h3, h4, h5, h6, h7, h8⟩ := readS_same (s := s) q
  unfold PS.now
  rw [h5, page_congr h1 h2 h6 h7]
theorem readS_page (q x : Nat) : (readS s q).page x = s.page x := by
  obtain ⟨h1, h2, h3, h4, h5, h6, h7, h8⟩ := readS_same (s := s) q
  exact page_congr h1 h2 h6 h7 x
theorem writeS_now (ok : CaOk s) (q : Nat) (y : List UInt8) (x : Nat) : (writeS s q y).now x = if x = q then y else s.now x := by
  show ((dIns q y s.dl).lookup x).getD (s.page x) = _
  rw [dIns_lookup ok.dup]
  by_cases hx : x = q
  · rw [if_pos hx, if_pos hx]; rfl
  · rw [if_neg hx, if_neg hx]; rfl
theorem writeS_page (q : Nat) (y : List UInt8) (x : Nat) : (writeS s q y).page x = s.page x := rfl
theorem abortS_now (x : Nat) : (abortS s).now x = s.page x := rfl
theorem fullS_page (hi : LogInv (psOf (fresh s.S s.P) s.ls) s.S s.G s.gs s.P) (hG : s.G < 2 ^ 63) (q : Nat) (hq : q < s.P) : (fullS s).page q = s.page q := page_ck hi hG q hq
theorem fullS_now (hi : LogInv (psOf (fresh s.S s.P) s.ls) s.S s.G s.gs s.P) (hG : s.G < 2 ^ 63) (q : Nat) (hq : q < s.P) : (fullS s).now q = s.now q := by
  show (s.dl.lookup q).getD ((fullS s).page q) = _
  rw [fullS_page hi hG q hq]; rfl
theorem commitS_page {w : World} {p : Nat} {m : PM} (h : PgMem w p m s) (hG : s.G < 2 ^ 63) (hc : comOk s) (q : Nat) (hq : q < s.P) : (commitS s).page q = s.now q := by
  unfold commitS
  by_cases h0 : s.dl.length = 0
  · rw [if_pos h0]
    have e := List.length_eq_zero_iff.1 h0
    unfold PS.now
    rw [e]; rfl
  · rw [if_neg h0]
    by_cases hf : fits s
    · rw [if_pos hf]
      exact page_cm h.log.inv h.ok (by omega) hf q hq
    · rw [if_neg hf]
      have hi2 : LogInv (psOf (fresh (ckS s).S (ckS s).P) (ckS s).ls) (ckS s).S (ckS s).G (ckS s).gs (ckS s).P := by
        show LogInv (psOf (fresh s.S s.P) (s.ls ++ cpWs s.S s.P s.G s.gs s.ls)) s.S s.G [] s.P
        unfold cpWs
        by_cases hu : usedOf s.gs = 0
        · rw [if_pos hu, List.append_nil, ← gs_nil hu]
          exact h.log.inv
        · rw [if_neg hu, psOf_append]
          exact (h.log.inv.check hG).1
      have hf2 : fits (ckS s) := by
        rcases hc with hc | hc
        · omega
        · show 0 + s.dl.length + 1 ≤ s.S; omega
      have e1 := page_cm (s := ckS s) hi2 ⟨h.ok.nd, h.ok.olt, h.ok.ol, h.ok.mo1, h.ok.mo2, h.ok.dup, h.ok.dlt, h.ok.dlen, h.ok.hit, h.ok.mit⟩ (by show 0 < s.dl.length; omega) hf2 q hq
      refine Eq.trans (show _ = (cmS (ckS s)).page q from rfl) (e1.trans ?_)
      show (s.dl.lookup q).getD ((ckS s).page q) = _
      rw [page_ck h.log.inv hG q hq]; rfl
theorem commitS_now {w : World} {p : Nat} {m : PM} (h : PgMem w p m s) (hG : s.G < 2 ^ 63) (hc : comOk s) (q : Nat) (hq : q < s.P) : (commitS s).now q = s.now q := by
  show ((commitS s).dl.lookup q).getD ((commitS s).page q) = _
  rw [commitS_dl, commitS_page h hG hc q hq]; rfl
end
end Go.Proofs.YtdieafkmnckhaaaGreat
