/- YthfmpebgmojcaaaDoorQNum + YthfmpebgmojcaaaDoorQMath + YthfmpebgmojcaaaDoorQLd2 + YthfmpebgmojcaaaDoorQRh -/
import Derived.Test.YthfmpebgmojcaaaDoorZRows
import Derived.WalkKit
import Derived.WalkSpells
import Derived.WalkLawsBesides
import Derived.Test.YthfmpebgmojcaaaDoorZHash
import Derived.Test.YthfmpebgmojcaaaDoorARw3
/- Any text as a number, on a seat with chains of events (AToNum's names). -/
namespace Go.Proofs.YthfmpebgmojcaaaDoor
open Go.RowKit
open Go.Op (bytesLess)
set_option linter.unusedVariables false
set_option maxRecDepth 20000
def numR (l : List UInt8) (lo hi : Nat) : Option Nat := if (toNum l).2 = 0 ∧ lo ≤ (toNum l).1 ∧ (toNum l).1 ≤ hi then some (toNum l).1 else none
set_option maxHeartbeats 400000 in
theorem numberJ_any (s : ByteArray) (hs : s.size ≤ maxLen) (lo hi : Nat) (w : World) :
    Calls Tryd.prog 71 #[.string s, .int .i64 (lo : Int), .int .i64 (hi : Int)] w fun e w' => e = .returned (.tuple #[.int .i64 (((numR s.data.toList lo hi).getD 0 : Nat) : Int), .bool (numR s.data.toList lo hi).isSome]) ∧ w' = w := by
  have HC := hid (toNumber_any s w hs)
  obtain ⟨n, c, hr⟩ : ∃ n c, toNum s.data.toList = (n, c) := ⟨_, _, rfl⟩
  unfold numR
  rw [hr] at HC ⊢
  simp only at HC ⊢
  clear hr hs
  by_cases h0 : c = 0
  · subst h0
    by_cases h1 : lo ≤ n
    · by_cases h2 : n ≤ hi
      · rw [if_pos ⟨rfl, h1, h2⟩]
        have d1 : decide ((n : Int) < (lo : Int)) = false := decide_eq_false (by omega)
        have d2 : decide ((hi : Int) < (n : Int)) = false := decide_eq_false (by omega)
        have d3 : ¬ (n : Int) < (lo : Int) := by omega
        have d4 : ¬ (hi : Int) < (n : Int) := by omega
        clear h1 h2
        go_enter Tryd.func71, Tryd.ntmps71
        go_wp2_with (go_at_call 99; refine HC.out.mono ?_; rintro e w1 ⟨rfl, e9⟩; subst w1)
        go_ret2
        exact ⟨rfl, rfl⟩
      · rw [if_neg (fun h => h2 h.2.2)]
        have d1 : decide ((n : Int) < (lo : Int)) = false := decide_eq_false (by omega)
        have d2 : decide ((hi : Int) < (n : Int)) = true := decide_eq_true (by omega)
        have d3 : ¬ (n : Int) < (lo : Int) := by omega
        have d4 : (hi : Int) < (n : Int) := by omega
        clear h1 h2
        go_enter Tryd.func71, Tryd.ntmps71
        go_wp2_with (go_at_call 99; refine HC.out.mono ?_; rintro e w1 ⟨rfl, e9⟩; subst w1)
        go_ret2
        exact ⟨rfl, rfl⟩
    · rw [if_neg (fun h => h1 h.2.1)]
      have d1 : decide ((n : Int) < (lo : Int)) = true := decide_eq_true (by omega)
      have d3 : (n : Int) < (lo : Int) := by omega
      clear h1
      go_enter Tryd.func71, Tryd.ntmps71
      go_wp2_with (go_at_call 99; refine HC.out.mono ?_; rintro e w1 ⟨rfl, e9⟩; subst w1)
      go_ret2
      exact ⟨rfl, rfl⟩
  · rw [if_neg (fun h => h0 h.1)]
    have d1 : ((c : Int) != 0) = true := by simp; omega
    clear h0
    go_enter Tryd.func71, Tryd.ntmps71
    go_wp2_with (go_at_call 99; refine HC.out.mono ?_; rintro e w1 ⟨rfl, e9⟩; subst w1)
    go_ret2
    exact ⟨rfl, rfl⟩
theorem hexc_dv : ∀ c : Fin 256, hexB (UInt8.ofNat c.val) = true → hexc ((dv c.val).getD 0) = UInt8.ofNat c.val := by decide +kernel
theorem hexc_of {c : UInt8} (h : hexB c = true) : hexc ((dv c.toNat).getD 0) = c := by
  have h1 := hexc_dv ⟨c.toNat, c.toNat_lt⟩
  have h2 : UInt8.ofNat c.toNat = c := by simp
  simp only [h2] at h1
  exact h1 h
theorem digV_split (m : Nat) (r : List UInt8) : digV m r = m * 16 ^ r.length + digV 0 r := by
  induction r generalizing m with
  | nil => simp [digV]
  | cons c r ih =>
    have e1 : digV m (c :: r) = digV (m * 16 + (dv c.toNat).getD 0) r := rfl
    have e2 : digV 0 (c :: r) = digV ((dv c.toNat).getD 0) r := by simp [digV]
    rw [e1, e2, ih (m * 16 + _), ih ((dv c.toNat).getD 0), List.length_cons, Nat.pow_succ, Nat.add_mul, Nat.mul_assoc m 16, Nat.mul_comm 16]
    omega
theorem lo_digV (r : List UInt8) (h : r.all hexB = true) (m : Nat) : lo r.length (digV m r) = r := by
  induction r generalizing m with
  | nil => rfl
  | cons c r ih =>
    simp only [List.all_cons, Bool.and_eq_true] at h
    have e1 : digV m (c :: r) = digV (m * 16 + (dv c.toNat).getD 0) r := rfl
    rw [e1, List.length_cons, lo, ih h.2]
    have e2 := digV_split (m * 16 + (dv c.toNat).getD 0) r
    have e3 := digV_lt r
    have e4 : digV (m * 16 + (dv c.toNat).getD 0) r / 16 ^ r.length = m * 16 + (dv c.toNat).getD 0 := by
      rw [e2, Nat.mul_comm, Nat.mul_add_div (Nat.pow_pos (by omega)), Nat.div_eq_of_lt e3, Nat.add_zero]
    have e5 := dv_lt c.toNat
    rw [e4, Nat.mul_comm m 16, Nat.mul_add_mod, Nat.mod_eq_of_lt e5, hexc_of h.1]
theorem toNum_inv {l : List UInt8} {n : Nat} (h : toNum l = (n, 0)) : l = numT n ∧ n ≤ 4611686018427387904 := by
  unfold toNum at h
  split at h
  · cases h
  · rename_i h1
    split at h
    · cases h
    · rename_i h2
      split at h
      · cases h
      · rename_i h3
        split at h
        · cases h
        · rename_i h4
          obtain rfl : digV 0 (l.drop 1) = n := (Prod.mk.inj h).1
          refine ⟨?_, by omega⟩
          have h3' : (l.drop 1).all hexB = true := by simpa using h3
          cases l with
          | nil => simp at h1
          | cons c r =>
            simp only [List.drop_succ_cons, List.drop_zero, List.headD_cons, List.length_cons] at *
            obtain ⟨h5, h6⟩ : c.toNat = 96 + (r.length + 1) ∧ r.head? ≠ some 48 := ⟨Classical.byContradiction fun h => h2 (.inl h), fun h => h2 (.inr h)⟩
            have hlo := lo_digV r h3' 0
            have hlt := digV_lt r
            cases r with
            | nil =>
              have : c = 97 := by rw [← UInt8.toNat_inj]; simpa using h5
              subst this
              rfl
            | cons b r =>
              have hb : hexB b = true := by simp only [List.all_cons, Bool.and_eq_true] at h3'; exact h3'.1
              have hb0 : (dv b.toNat).getD 0 ≠ 0 := fun e => by
                have := hexc_of hb
                rw [e] at this
                exact h6 (by rw [← this]; rfl)
              have hge : 16 ^ r.length ≤ digV 0 (b :: r) := by
                have e1 : digV 0 (b :: r) = digV ((dv b.toNat).getD 0) r := by simp [digV]
                rw [e1, digV_split]
                have : 1 * 16 ^ r.length ≤ (dv b.toNat).getD 0 * 16 ^ r.length := Nat.mul_le_mul_right _ (by omega)
                omega
              have hp : 0 < 16 ^ r.length := Nat.pow_pos (by omega)
              generalize hn : digV 0 (b :: r) = n at *
              have hn0 : n ≠ 0 := by omega
              have hb2 := log_bounds n hn0
              have hk : n.log2 / 4 = r.length := by
                have q1 : 16 ^ (n.log2 / 4) < 16 ^ (r.length + 1) := Nat.lt_of_le_of_lt hb2.1 (by simpa using hlt)
                have q2 : 16 ^ r.length < 16 ^ (n.log2 / 4 + 1) := Nat.lt_of_le_of_lt hge hb2.2
                have := (Nat.pow_lt_pow_iff_right (a := 16) (by omega)).1 q1
                have := (Nat.pow_lt_pow_iff_right (a := 16) (by omega)).1 q2
                omega
              unfold numT
              rw [if_neg hn0, hk]
              have : c = letr r.length := by
                rw [← UInt8.toNat_inj, h5, letr_toNat _ (by simp at h1; omega)]
                simp
                omega
              rw [this]
              simpa using hlo.symm
end Go.Proofs.YthfmpebgmojcaaaDoor
/- A chain out of any rows, as mathematics: what Load takes. -/
namespace Go.Proofs.YthfmpebgmojcaaaDoor
open Go.RowKit
set_option linter.unusedVariables false
set_option maxRecDepth 20000
abbrev TR := ByteArray × List ByteArray
theorem str_eqQ (s t : ByteArray) : s = t ↔ s.toList = t.toList := by
  constructor
  · intro h; rw [h]
  · intro h
    rw [Lib.toList_data, Lib.toList_data] at h
    rw [← Lib.mk_data s, ← Lib.mk_data t, h]
theorem eqQ (a b : ByteArray) : (a.toList == b.toList) = decide (a = b) := by
  by_cases e : a = b
  · subst e; simp
  · rw [decide_eq_false e, beq_eq_false_iff_ne]; exact fun e' => e ((str_eqQ _ _).2 e')
theorem numR_someQ {l : List UInt8} {lo hi n : Nat} (h : numR l lo hi = some n) : l = numT n ∧ lo ≤ n ∧ n ≤ hi := by
  unfold numR at h
  split at h
  · rename_i h1
    cases h
    exact ⟨(toNum_inv (Prod.ext rfl h1.1)).1, h1.2⟩
  · cases h
theorem txt_of {p : ByteArray} {lo hi n : Nat} (h : numR p.data.toList lo hi = some n) : p = txt n := by
  have := (numR_someQ h).1
  apply ByteArray.ext
  apply Array.ext'
  simpa [txt] using this
def numsOf (r : TR) : Option (Nat × Nat × Nat) := match r.2 with
  | [p, q, s] => if r.1 = ⟨#[35]⟩ then (numR p.data.toList 0 1099511627776).bind fun a => (numR q.data.toList 0 1099511627776).bind fun b => (numR s.data.toList 0 1099511627776).map fun c => (a, b, c) else none
  | _ => none
def hashIn (k : ByteArray) (r : TR) : Option (List UInt8) := match r.2 with
  | [h] => if r.1 = k ∧ h.size = 32 then some h.data.toList else none
  | _ => none
def evIn (c : Ch) (r : TR) : Option Ev := match r.2 with
  | [t, p, q] => if r.1 = evKey (c.cnt + 1) ∧ p.size ≤ 12 ∧ q.size ≤ 30 then (numR t.data.toList (lastT c) c.la).map fun n => ⟨c.cnt + 1, n, p, q⟩ else none
  | _ => none
def evsIn : Ch → List TR → Option Ch
  | c, [] => some c
  | c, r :: l => (evIn c r).bind fun e => evsIn { c with ev := c.ev ++ [e] } l
def loadC (R : List TR) : Option Ch := match R with
  | r0 :: r1 :: r2 :: r3 :: l => if l.length ≤ 64 then (numsOf r0).bind fun n => (hashIn ⟨#[97]⟩ r1).bind fun ha => (hashIn ⟨#[98]⟩ r2).bind fun hb => (hashIn ⟨#[104]⟩ r3).bind fun hh => (evsIn ⟨n.1, hb, n.2.1, ha, [], hh, n.2.2⟩ l).bind fun c => if c.an ≤ c.cnt then some c else none else none
  | _ => none
theorem numsOf_some {r : TR} {p q s : Nat} (h : numsOf r = some (p, q, s)) : r = (⟨#[35]⟩, [p, q, s].map txt) ∧ p ≤ 1099511627776 ∧ q ≤ 1099511627776 ∧ s ≤ 1099511627776 := by
  obtain ⟨k, l⟩ := r
  unfold numsOf at h
  split at h
  · rename_i a b d he
    simp only at he h
    subst he
    split at h
    · rename_i hk
      cases h1 : numR a.data.toList 0 1099511627776 with
      | none => rw [h1] at h; cases h
      | some a' =>
        cases h2 : numR b.data.toList 0 1099511627776 with
        | none => rw [h1, h2] at h; cases h
        | some b' =>
          cases h3 : numR d.data.toList 0 1099511627776 with
          | none => rw [h1, h2, h3] at h; cases h
          | some d' =>
            rw [h1, h2, h3] at h
            simp only [Option.bind_some, Option.map_some, Option.some.injEq, Prod.mk.injEq] at h
            obtain ⟨rfl, rfl, rfl⟩ := h
            rw [txt_of h1, txt_of h2, txt_of h3, hk]
            exact ⟨rfl, (numR_someQ h1).2.2, (numR_someQ h2).2.2, (numR_someQ h3).2.2⟩
    · cases h
  · cases h
theorem hashIn_some {k : ByteArray} {r : TR} {h : List UInt8} (e : hashIn k r = some h) : r = (k, [mkB h]) ∧ h.length = 32 := by
  obtain ⟨k', l⟩ := r
  unfold hashIn at e
  split at e
  · rename_i x he
    simp only at he e
    subst he
    split at e
    · rename_i hk
      cases e
      rw [hk.1]
      exact ⟨rfl, by have := hk.2; simpa using this⟩
    · cases e
  · cases e
theorem evIn_some {c : Ch} {r : TR} {e : Ev} (h : evIn c r = some e) : r = evText e ∧ e.num = c.cnt + 1 ∧ e.what.size ≤ 12 ∧ e.who.size ≤ 30 ∧ lastT c ≤ e.tim ∧ e.tim ≤ c.la := by
  obtain ⟨k, l⟩ := r
  unfold evIn at h
  split at h
  · rename_i a b d he
    simp only at he h
    subst he
    split at h
    · rename_i hk
      cases h1 : numR a.data.toList (lastT c) c.la with
      | none => rw [h1] at h; cases h
      | some n =>
        rw [h1] at h
        cases h
        rw [txt_of h1, hk.1]
        exact ⟨rfl, rfl, hk.2.1, hk.2.2, (numR_someQ h1).2⟩
    · cases h
  · cases h
theorem evsIn_some : ∀ {l : List TR} {c d : Ch}, evsIn c l = some d → ∃ es : List Ev, d = { c with ev := c.ev ++ es } ∧ l = es.map evText ∧ (∀ i (h : i < es.length), es[i].num = c.cnt + 1 + i) ∧ (∀ e ∈ es, e.what.size ≤ 12 ∧ e.who.size ≤ 30 ∧ lastT c ≤ e.tim ∧ e.tim ≤ c.la) ∧ (∀ i (h : i + 1 < es.length), (es[i]'(by omega)).tim ≤ es[i + 1].tim)
  | [], c, d, h => by
    cases h
    exact ⟨[], by simp, rfl, fun i h => by simp at h, fun e h => by simp at h, fun i h => by simp at h⟩
  | r :: l, c, d, h => by
    unfold evsIn at h
    cases h1 : evIn c r with
    | none => rw [h1] at h; cases h
    | some e =>
      rw [h1] at h
      obtain ⟨es, rfl, rfl, h4, h5, h6⟩ := evsIn_some (c := { c with ev := c.ev ++ [e] }) h
      obtain ⟨rfl, k2, k3, k4, k5, k6⟩ := evIn_some h1
      have hl : lastT { c with ev := c.ev ++ [e] } = e.tim := by simp [lastT]
      have hc : ({ c with ev := c.ev ++ [e] } : Ch).cnt = c.cnt + 1 := by simp [Ch.cnt]; omega
      rw [hl] at h5
      rw [hc] at h4
      refine ⟨e :: es, by simp, rfl, fun i hi => ?_, fun x hx => ?_, fun i hi => ?_⟩
      · cases i with
        | zero => simpa using k2
        | succ i =>
          rw [List.getElem_cons_succ, h4 i (by simpa using hi)]
          omega
      · rcases List.mem_cons.1 hx with rfl | hx
        · exact ⟨k3, k4, k5, k6⟩
        · have := h5 x hx
          exact ⟨this.1, this.2.1, by have := this.2.2.1; omega, this.2.2.2⟩
      · cases i with
        | zero =>
          rw [List.getElem_cons_zero, List.getElem_cons_succ]
          exact (h5 _ (List.getElem_mem _)).2.2.1
        | succ i =>
          rw [List.getElem_cons_succ, List.getElem_cons_succ]
          exact h6 i (by simpa using hi)
theorem loadC_some {R : List TR} {c : Ch} (h : loadC R = some c) : R = rowsOf c ∧ Ldable c := by
  unfold loadC at h
  split at h
  · rename_i r0 r1 r2 r3 l
    split at h
    · rename_i hl
      cases h0 : numsOf r0 with
      | none => rw [h0] at h; cases h
      | some n =>
        obtain ⟨p, q, s⟩ := n
        cases h1 : hashIn ⟨#[97]⟩ r1 with
        | none => rw [h0, h1] at h; cases h
        | some ha =>
          cases h2 : hashIn ⟨#[98]⟩ r2 with
          | none => rw [h0, h1, h2] at h; cases h
          | some hb =>
            cases h3 : hashIn ⟨#[104]⟩ r3 with
            | none => rw [h0, h1, h2, h3] at h; cases h
            | some hh =>
              rw [h0, h1, h2, h3] at h
              simp only [Option.bind_some] at h
              cases h4 : evsIn ⟨p, hb, q, ha, [], hh, s⟩ l with
              | none => rw [h4] at h; cases h
              | some d =>
                rw [h4] at h
                simp only [Option.bind_some] at h
                split at h
                · rename_i h5
                  cases h
                  obtain ⟨es, rfl, rfl, k4, k5, k6⟩ := evsIn_some h4
                  obtain ⟨rfl, n1, n2, n3⟩ := numsOf_some h0
                  obtain ⟨rfl, l1⟩ := hashIn_some h1
                  obtain ⟨rfl, l2⟩ := hashIn_some h2
                  obtain ⟨rfl, l3⟩ := hashIn_some h3
                  simp only [List.nil_append] at *
                  refine ⟨rfl, ⟨⟨l2, l1, l3⟩, n1, n2, n3, by simpa using hl, h5, fun i hi => ?_, fun e he => ?_, fun e he => ?_, k6⟩⟩
                  · have : es[i].num = p + 0 + 1 + i := k4 i hi
                    show es[i].num = p + i + 1
                    omega
                  · exact ⟨(k5 e he).1, (k5 e he).2.1⟩
                  · exact (k5 e he).2.2.2
                · cases h
    · cases h
  · cases h
end Go.Proofs.YthfmpebgmojcaaaDoor
/- Loading a chain from any rows: state.Hash and toHash. -/
namespace Go.Proofs.YthfmpebgmojcaaaDoor
open Go.RowKit
set_option linter.unusedVariables false
set_option maxRecDepth 20000
theorem zeroHQ : ∀ w, (zeroValue 69).run Tryd.prog w = .ok (.agg (bvs zero32)) w := (zero_of_info zero_hash).1
theorem hashIn_len (k : ByteArray) (r : TR) : ((hashIn k r).getD zero32).length = 32 := by
  cases h : hashIn k r with
  | none => rfl
  | some l => exact (hashIn_some h).2
section
attribute [local go_sem ↓] loadL_fold storeL_fold loadH_fold storeH_fold buildH_fold
set_option maxHeartbeats 1000000 in
theorem hashOf_no (w : World) (s : ByteArray) (hs : s.size ≠ 32) (hm : s.size ≤ maxLen) :
    Calls Tryd.prog 100 #[.string s] w fun e w' => e = .returned (.tuple #[.agg (bvs zero32), .bool false]) ∧ Below w.heap.size w w' := by
  have hS := storeH_new w zero32 zero32 (by decide) (by decide)
  have hz := zeroHQ
  have hb := buildH_run
  have hi := hid (size_hashs zero32 (by decide))
  have g1 : ((s.size : Int) == 32) = false := by rw [beq_eq_false_iff_ne]; omega
  have g2 : ((s.size : Int) != 32) = true := by rw [bne, g1]; rfl
  have g3 : ¬ (s.size : Int) = 32 := by omega
  generalize bvs zero32 = Z at *
  clear hs hm
  go_enter Tryd.func100, Tryd.ntmps100
  go_wp2
  refine bodyPost_ret (results_row_tmp rfl _ _ w.heap.size 69 Z (0, 0) _ rfl (heap_alloc_new w _) Tryd.underlying69 rfl hi.out) rfl ?_
  exact ⟨rfl, (Below.refl _ w).alloc (Nat.le_refl _) _⟩
end
theorem hashIn_none {k key : ByteArray} {l : List ByteArray} (h : hashIn k (key, l) = none) : key ≠ k ∨ l.length ≠ 1 ∨ ∃ x, l = [x] ∧ x.size ≠ 32 := by
  by_cases h1 : key = k
  · by_cases h2 : l.length = 1
    · match l, h2 with
      | [x], _ =>
        refine .inr (.inr ⟨x, rfl, fun hx => ?_⟩)
        have : hashIn k (key, [x]) = some x.data.toList := if_pos ⟨h1, hx⟩
        rw [this] at h
        cases h
    · exact .inr (.inl h2)
  · exact .inl h1
set_option maxHeartbeats 4000000 in
theorem toHash_size (w : World) (k x : ByteArray) (hx : x.size ≠ 32) (hs : x.size ≤ maxLen) (ad : Option Addr) (cp : Nat) (ht : Texts w ad [x]) :
    Calls Tryd.prog 72 #[.agg #[.string k, .slice ad 1 cp], .string k] w fun e w' => e = .returned (.tuple #[.agg (bvs zero32), .bool false]) ∧ Below w.heap.size w w' := by
  have hz := zeroHQ
  have m0 := cell_of_row _ _ 0 _ _ _ (heap_alloc2_old w (.cells #[.string k, .slice ad 1 cp] 75) (.cells (bvs zero32) 69))
  have m1 := cell_of_row _ _ 1 _ _ _ (heap_alloc2_old w (.cells #[.string k, .slice ad 1 cp] 75) (.cells (bvs zero32) 69))
  have b1 : Below w.heap.size w ((w.alloc (.cells #[.string k, .slice ad 1 cp] 75)).alloc (.cells (bvs zero32) 69)) := ((Below.refl _ w).alloc (Nat.le_refl _) _).alloc (by simp) _
  have r1 : ((w.alloc (.cells #[.string k, .slice ad 1 cp] 75)).alloc (.cells (bvs zero32) 69)).heap[w.heap.size + 1]? = some (.cells (bvs zero32) 69 (0, 0)) := heap_alloc2_new w _ _
  obtain ⟨b, o, rfl, j0⟩ := ht 0 (by simp)
  have k0 : ((w.alloc (.cells #[.string k, .slice (some ⟨b, o, none⟩) 1 cp] 75)).alloc (.cells (bvs zero32) 69)).cell? ⟨b, o, none⟩ = some (.string x) := (b1.cell (p := ⟨b, o, none⟩) (World.block_lt_of_cell? _ _ j0)).trans j0
  have B1 := hid b1
  have R1 := hid r1
  have C := hid (fun W => hashOf_no W x hx hs)
  have sh := hid (size_hashs zero32 (by decide))
  have one := hid (bvs_one zero32)
  have Hz := hid hz
  clear ht b1 r1 j0 hz hx hs
  generalize bvs zero32 = Z at *
  go_enter Tryd.func72, Tryd.ntmps72
  go_wp2_with (first
    | (with_reducible show Go.wpList _ _ _ _ _ _; refine wpList_alloc_row rfl 69 rfl Z Hz.out ?_)
    | (go_at_call 100; refine (C.out _).mono ?_; rintro e w1 ⟨rfl, hb1⟩; have R2 := hid ((hb1.block _ (heap_lt R1.out)).trans R1.out); have B2 := hid (Below.on' B1.out hb1); clear hb1)
    | (with_reducible show Go.wpList _ _ _ _ _ _; refine wpList_store_row rfl 69 (.tmp 4) (.tmp 22) rfl (w.heap.size + 1) Z rfl rfl 69 Z R2.out sh.out rfl one.out ?_))
  refine bodyPost_ret (results_row_tmp rfl _ _ (w.heap.size + 1) 69 Z (0, 0) _ rfl (setRow_heap _ _ _ _ _ _ R2.out) Tryd.underlying69 rfl sh.out) rfl ?_
  exact ⟨rfl, B2.out.setRow (by omega) _⟩
section
attribute [local go_sem ↓] loadL_fold storeL_fold loadH_fold storeH_fold buildH_fold
set_option maxHeartbeats 4000000 in
theorem toHash_any (w : World) (key : ByteArray) (hks : key.size ≤ 1000) (r : TR) (ad : Option Addr) (cp : Nat) (ht : Texts w ad r.2) (hs : ∀ x ∈ r.2, x.size ≤ maxLen) :
    Calls Tryd.prog 72 #[.agg #[.string r.1, .slice ad r.2.length cp], .string key] w fun e w' => e = .returned (.tuple #[.agg (bvs ((hashIn key r).getD zero32)), .bool (hashIn key r).isSome]) ∧ Below w.heap.size w w' := by
  cases hr : hashIn key r with
  | some h =>
    obtain ⟨rfl, hl⟩ := hashIn_some hr
    exact toHash_ok w key hks ad cp h hl ht
  | none =>
    obtain ⟨k, l⟩ := r
    simp only [Option.getD_none, Option.isSome_none] at ht hs ⊢
    obtain ⟨m, hm⟩ : ∃ m, m = l.length := ⟨_, rfl⟩
    rw [← hm]
    have b0 : Below w.heap.size w (w.alloc (.cells #[.string k, .slice ad m cp] 75)) := (Below.refl _ w).alloc (Nat.le_refl _) _
    have hS := storeH_new (w.alloc (.cells #[.string k, .slice ad m cp] 75)) zero32 zero32 (by decide) (by decide)
    rw [show (w.alloc (.cells #[.string k, .slice ad m cp] 75)).heap.size = w.heap.size + 1 by simp] at hS
    have hz := zeroHQ
    have hb := buildH_run
    have hi := hid (size_hashs zero32 (by decide))
    have m0 := cell_of_row _ _ 0 _ _ _ (heap_alloc2_old w (.cells #[.string k, .slice ad m cp] 75) (.cells (bvs zero32) 69))
    have m1 := cell_of_row _ _ 1 _ _ _ (heap_alloc2_old w (.cells #[.string k, .slice ad m cp] 75) (.cells (bvs zero32) 69))
    have b1 : Below w.heap.size w ((w.alloc (.cells #[.string k, .slice ad m cp] 75)).alloc (.cells (bvs zero32) 69)) := ((Below.refl _ w).alloc (Nat.le_refl _) _).alloc (by simp) _
    have r1 : ((w.alloc (.cells #[.string k, .slice ad m cp] 75)).alloc (.cells (bvs zero32) 69)).heap[w.heap.size + 1]? = some (.cells (bvs zero32) 69 (0, 0)) := heap_alloc2_new w _ _
    rcases hashIn_none hr with h1 | h1 | ⟨x, rfl, hx⟩
    · have g1 : (k.toList == key.toList) = false := by rw [eqQ]; exact decide_eq_false h1
      have B1 := hid b1
      have R1 := hid r1
      clear hr h1 ht hs b0 b1 r1 hks hm
      generalize bvs zero32 = Z at *
      go_enter Tryd.func72, Tryd.ntmps72
      go_wp2
      refine bodyPost_ret (results_row_tmp rfl _ _ (w.heap.size + 1) 69 Z (0, 0) _ rfl R1.out Tryd.underlying69 rfl hi.out) rfl ?_
      exact ⟨rfl, B1.out⟩
    · have g1 : ((m : Int) == 1) = false := by rw [beq_eq_false_iff_ne]; omega
      have g2 : ((m : Int) != 1) = true := by rw [bne, g1]; rfl
      have g3 : ¬ (m : Int) = 1 := by omega
      have B1 := hid b1
      have R1 := hid r1
      clear hr h1 ht hs b0 b1 r1 hks hm
      generalize bvs zero32 = Z at *
      go_enter Tryd.func72, Tryd.ntmps72
      by_cases hk : k = key
      · have g4 : (k.toList == key.toList) = true := by rw [eqQ]; exact decide_eq_true hk
        clear hk
        go_wp2
        refine bodyPost_ret (results_row_tmp rfl _ _ (w.heap.size + 1) 69 Z (0, 0) _ rfl R1.out Tryd.underlying69 rfl hi.out) rfl ?_
        exact ⟨rfl, B1.out⟩
      · have g4 : (k.toList == key.toList) = false := by rw [eqQ]; exact decide_eq_false hk
        clear hk
        go_wp2
        refine bodyPost_ret (results_row_tmp rfl _ _ (w.heap.size + 1) 69 Z (0, 0) _ rfl R1.out Tryd.underlying69 rfl hi.out) rfl ?_
        exact ⟨rfl, B1.out⟩
    · obtain rfl : m = 1 := hm
      by_cases hk : k = key
      · subst hk
        exact toHash_size w k x hx (hs x (by simp)) ad cp ht
      · have g1 : (k.toList == key.toList) = false := by rw [eqQ]; exact decide_eq_false hk
        have B1 := hid b1
        have R1 := hid r1
        clear hr hk ht hs b0 b1 r1 hks
        generalize bvs zero32 = Z at *
        go_enter Tryd.func72, Tryd.ntmps72
        go_wp2
        refine bodyPost_ret (results_row_tmp rfl _ _ (w.heap.size + 1) 69 Z (0, 0) _ rfl R1.out Tryd.underlying69 rfl hi.out) rfl ?_
        exact ⟨rfl, B1.out⟩
end
end Go.Proofs.YthfmpebgmojcaaaDoor
/- The reference's hash of any row. -/
namespace Go.Proofs.YthfmpebgmojcaaaDoor
open Go.RowKit
set_option linter.unusedVariables false
set_option maxRecDepth 20000
set_option maxHeartbeats 4000000 in
theorem rhash_no (w : World) (key : ByteArray) (r : TR) (ad : Option Addr) (cp : Nat) (ht : Texts w ad r.2) (hs : ∀ x ∈ r.2, x.size ≤ maxLen) (hr : hashIn key r = none) :
    Calls Tryd.prog 35 #[.agg #[.string r.1, .slice ad r.2.length cp], .string key] w fun e w' => e = .returned (.tuple #[.agg (bvs zero32), .bool false]) ∧ Below w.heap.size w w' := by
  obtain ⟨k, l⟩ := r
  simp only at ht hs ⊢
  obtain ⟨m, hm⟩ : ∃ m, m = l.length := ⟨_, rfl⟩
  rw [← hm]
  obtain ⟨Z, hZ⟩ : ∃ Z, Z = bvs zero32 := ⟨_, rfl⟩
  have zh := (zero_of_info zero_hash).1
  rw [show bvs (List.replicate 32 0) = Z from hZ.symm] at zh
  rw [← hZ]
  obtain ⟨W, hW⟩ : ∃ W, W = ((w.alloc (.cells #[.string k, .slice ad m cp] 75)).alloc (.cells Z 69)).alloc (.cells Z 69) := ⟨_, rfl⟩
  have b1 : Below w.heap.size w (w.alloc (.cells #[.string k, .slice ad m cp] 75)) := (Below.refl _ w).alloc (Nat.le_refl _) _
  have bW : Below w.heap.size w W := by rw [hW]; exact (b1.alloc (by simp) _).alloc (by simp; omega) _
  have x0 : W.heap[w.heap.size]? = some (.cells #[.string k, .slice ad m cp] 75 (0, 0)) := by
    rw [hW, (MapKept.heap_alloc _ _).2 _ (by simp; omega), (MapKept.heap_alloc _ _).2 _ (by simp)]
    exact heap_alloc_new w _
  have x1 : W.heap[w.heap.size + 1]? = some (.cells Z 69 (0, 0)) := by
    rw [hW, (MapKept.heap_alloc _ _).2 _ (by simp)]
    have := heap_alloc_new (w.alloc (.cells #[.string k, .slice ad m cp] 75)) (.cells Z 69)
    rw [show (w.alloc (.cells #[.string k, .slice ad m cp] 75)).heap.size = w.heap.size + 1 by simp] at this
    exact this
  have x2 : W.heap[w.heap.size + 1 + 1]? = some (.cells Z 69 (0, 0)) := by
    rw [hW]
    have := heap_alloc_new ((w.alloc (.cells #[.string k, .slice ad m cp] 75)).alloc (.cells Z 69)) (.cells Z 69)
    rw [show ((w.alloc (.cells #[.string k, .slice ad m cp] 75)).alloc (.cells Z 69)).heap.size = w.heap.size + 1 + 1 by simp] at this
    exact this
  have k0 : W.cell? ⟨w.heap.size, 0, none⟩ = some (.string k) := cell_of_row _ _ 0 _ _ _ x0
  have k1 : W.cell? ⟨w.heap.size, 1, none⟩ = some (.slice ad m cp) := cell_of_row _ _ 1 _ _ _ x0
  have hz32 : zero32.length = 32 := by decide
  have sh := hid (size_hashs zero32 (by decide))
  have one := hid (bvs_one zero32)
  rw [← hZ] at sh one
  have zh := hid zh
  have HW := hid hW
  have BW := hid bW
  have X1 := hid x1
  have X2 := hid x2
  have hr' := hashIn_none hr
  by_cases hk : k = key
  · have g1 : (k.toList == key.toList) = true := by rw [eqQ]; exact decide_eq_true hk
    rcases hr' with h1 | h1 | ⟨x, rfl, hx⟩
    · exact absurd hk h1
    · have g2 : ((m : Int) == 1) = false := by rw [beq_eq_false_iff_ne]; omega
      have g3 : ((m : Int) != 1) = true := by rw [bne, g2]; rfl
      clear hr hk h1 ht hs hW bW b1 x0 x1 x2 hm hZ hz32 g2
      go_enter Tryd.func35, Tryd.ntmps35
      go_wp2_with (first
        | (with_reducible show Go.wpList _ _ _ _ _ _; refine wpList_alloc_row rfl 69 rfl Z zh.out ?_; rw [← HW.out])
        | (with_reducible show Go.wpList _ _ _ _ _ _; refine wpList_alloc_row rfl 69 rfl Z zh.out ?_)
        | (with_reducible show Go.wpList _ _ _ _ _ _; refine wpList_load_row rfl 69 _ rfl (w.heap.size + 1 + 1) rfl _ _ _ _ X2.out Tryd.underlying69 rfl sh.out ?_)
        | (with_reducible show Go.wpList _ _ _ _ _ _; refine wpList_store_row rfl 69 _ _ rfl (w.heap.size + 1) Z rfl rfl 69 Z X1.out sh.out rfl one.out ?_))
      refine bodyPost_ret (results_row_tmp rfl _ _ (w.heap.size + 1) 69 Z (0, 0) _ rfl (setRow_heap _ _ _ _ _ _ X1.out) Tryd.underlying69 rfl sh.out) rfl ?_
      exact ⟨rfl, BW.out.setRow (by omega) _⟩
    · obtain rfl : m = 1 := hm
      obtain ⟨b, o, rfl, j0⟩ := ht 0 (by simp)
      have cW : W.cell? ⟨b, o, none⟩ = some (.string x) := (bW.cell (p := ⟨b, o, none⟩) (World.block_lt_of_cell? _ _ j0)).trans j0
      have g2 : ((x.size : Int) == 32) = false := by rw [beq_eq_false_iff_ne]; omega
      have g3 : ((x.size : Int) != 32) = true := by rw [bne, g2]; rfl
      clear hr hk ht hs hW bW b1 x0 x1 x2 hZ hz32 g2 j0 hx
      go_enter Tryd.func35, Tryd.ntmps35
      go_wp2_with (first
        | (with_reducible show Go.wpList _ _ _ _ _ _; refine wpList_alloc_row rfl 69 rfl Z zh.out ?_; rw [← HW.out])
        | (with_reducible show Go.wpList _ _ _ _ _ _; refine wpList_alloc_row rfl 69 rfl Z zh.out ?_)
        | (with_reducible show Go.wpList _ _ _ _ _ _; refine wpList_load_row rfl 69 _ rfl (w.heap.size + 1 + 1) rfl _ _ _ _ X2.out Tryd.underlying69 rfl sh.out ?_)
        | (with_reducible show Go.wpList _ _ _ _ _ _; refine wpList_store_row rfl 69 _ _ rfl (w.heap.size + 1) Z rfl rfl 69 Z X1.out sh.out rfl one.out ?_))
      refine bodyPost_ret (results_row_tmp rfl _ _ (w.heap.size + 1) 69 Z (0, 0) _ rfl (setRow_heap _ _ _ _ _ _ X1.out) Tryd.underlying69 rfl sh.out) rfl ?_
      exact ⟨rfl, BW.out.setRow (by omega) _⟩
  · have g1 : (k.toList == key.toList) = false := by rw [eqQ]; exact decide_eq_false hk
    clear hr hr' hk ht hs hW bW b1 x0 x1 x2 hm hZ hz32
    go_enter Tryd.func35, Tryd.ntmps35
    go_wp2_with (first
      | (with_reducible show Go.wpList _ _ _ _ _ _; refine wpList_alloc_row rfl 69 rfl Z zh.out ?_; rw [← HW.out])
      | (with_reducible show Go.wpList _ _ _ _ _ _; refine wpList_alloc_row rfl 69 rfl Z zh.out ?_)
      | (with_reducible show Go.wpList _ _ _ _ _ _; refine wpList_load_row rfl 69 _ rfl (w.heap.size + 1 + 1) rfl _ _ _ _ X2.out Tryd.underlying69 rfl sh.out ?_)
      | (with_reducible show Go.wpList _ _ _ _ _ _; refine wpList_store_row rfl 69 _ _ rfl (w.heap.size + 1) Z rfl rfl 69 Z X1.out sh.out rfl one.out ?_))
    refine bodyPost_ret (results_row_tmp rfl _ _ (w.heap.size + 1) 69 Z (0, 0) _ rfl (setRow_heap _ _ _ _ _ _ X1.out) Tryd.underlying69 rfl sh.out) rfl ?_
    exact ⟨rfl, BW.out.setRow (by omega) _⟩
theorem rhash_any (w : World) (key : ByteArray) (r : TR) (ad : Option Addr) (cp : Nat) (ht : Texts w ad r.2) (hs : ∀ x ∈ r.2, x.size ≤ maxLen) :
    Calls Tryd.prog 35 #[.agg #[.string r.1, .slice ad r.2.length cp], .string key] w fun e w' => e = .returned (.tuple #[.agg (bvs ((hashIn key r).getD zero32)), .bool (hashIn key r).isSome]) ∧ Below w.heap.size w w' := by
  cases hr : hashIn key r with
  | some h =>
    obtain ⟨rfl, hl⟩ := hashIn_some hr
    exact rhash_ok w key h hl ad cp ht
  | none => exact rhash_no w key r ad cp ht hs hr
end Go.Proofs.YthfmpebgmojcaaaDoor
