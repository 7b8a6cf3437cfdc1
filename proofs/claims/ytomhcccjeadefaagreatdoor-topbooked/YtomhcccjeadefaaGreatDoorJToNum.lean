/- YtomhcccjeadefaaGreatDoorJ25 + YtomhcccjeadefaaGreatDoorJT0 + YtomhcccjeadefaaGreatDoorJToNum -/
import Derived.Test.YtomhcccjeadefaaGreatDoorJ24
import Derived.WalkKit
import Derived.WalkSpells
import Derived.WalkLawsBesides
/- Open and Reseal of any bytes, none too, over a tree as mathematics. -/
namespace Go.Proofs.YtomhcccjeadefaaGreatDoor
open Go.RowKit Go.Maps
set_option linter.unusedVariables false
set_option maxRecDepth 20000
section
variable {w : World} {B g mv mg : Nat} {root : List UInt8} {s : TS} {d : Nat}
theorem openR_nil (s : TS) (root : List UInt8) (t u : ByteArray) : s.openR root t u [] = ([], (0, if (s.cur t u).2 ≠ 0 then (s.cur t u).2 else 3)) := rfl
theorem open_none (h : TreeM w B g mv mg root s d) (t u : ByteArray) (ht : t.size ≤ maxLen) (hu : u.size ≤ maxLen) (a : Option Addr) (cap : Nat) :
    Calls Tryz.prog 12 #[.pointer (some ⟨g, 0, none⟩), .string t, .string u, .slice a 0 cap] w fun e w' => e = .returned (.tuple #[.slice none 0 0, .int .i64 0, .int .i64 ((if (s.cur t u).2 ≠ 0 then (s.cur t u).2 else 3 : Nat) : Int)]) ∧ Below w.heap.size w w' := by
  have HC := current_m h t u ht hu
  by_cases he : (s.cur t u).2 ≠ 0
  · rw [if_pos he]
    exact open_err t u _ _ _ (by omega) HC
  · rw [if_neg he]
    have he0 : (s.cur t u).2 = 0 := by omega
    rw [he0] at HC
    exact open_empty t u a cap _ HC
theorem open_l (h : TreeM w B g mv mg root s d) (t u : ByteArray) (ht : t.size ≤ maxLen) (hu : u.size ≤ maxLen) (S : List UInt8) (a : Option Addr) (m cap : Nat) (hm : m = S.length) (hm9 : m ≤ 140737488351232) (hmc : m ≤ cap) (ha : S ≠ [] → ∃ gs, a = some ⟨gs, 0, none⟩) (hB : Bytes w a S) (hT : TabAt w) (hKA : KAt w) :
    Calls Tryz.prog 12 #[.pointer (some ⟨g, 0, none⟩), .string t, .string u, .slice a m cap] w fun e w' => ∃ v, e = .returned (.tuple #[v, .int .i64 ((s.openR root t u S).2.1 : Int), .int .i64 ((s.openR root t u S).2.2 : Int)]) ∧ w'.ownsRow w.heap.size 5 1 v (s.openR root t u S).1.length (cellsOf (s.openR root t u S).1) ∧ Below w.heap.size w w' := by
  cases S with
  | nil =>
    subst hm
    refine (open_none h t u ht hu a cap).mono fun e w' h9 => ?_
    rw [openR_nil]
    exact ⟨_, h9.1, nilJ _ _, h9.2⟩
  | cons b S =>
    obtain ⟨gs, rfl⟩ := ha (by simp)
    exact open_m h t u ht hu b S gs m cap (by simpa using hm) hm9 hmc hB hT hKA
def TS.resealR (s : TS) (root : List UInt8) (t u : ByteArray) : List UInt8 → TS × (List UInt8 × (Bool × Nat))
  | [] => (s, ([], (false, if (s.cur t u).2 ≠ 0 then (s.cur t u).2 else 3)))
  | b :: S => s.resealB root t u b S
set_option maxHeartbeats 1000000 in
theorem reseal_none (h : TreeM w B g mv mg root s d) (t u : ByteArray) (ht : t.size ≤ maxLen) (hu : u.size ≤ maxLen) (a : Option Addr) (cap : Nat) :
    Calls Tryz.prog 11 #[.pointer (some ⟨g, 0, none⟩), .string t, .string u, .slice a 0 cap] w (ResP w B g mv mg root d (s.resealR root t u [])) := by
  obtain ⟨eo, heo⟩ : ∃ eo : Nat, eo = if (s.cur t u).2 ≠ 0 then (s.cur t u).2 else 3 := ⟨_, rfl⟩
  have hne : eo ≠ 0 := by rw [heo]; split <;> omega
  have HO := hid (by have := open_none h t u ht hu a cap; rw [← heo] at this; exact this)
  have HR : Hid (s.resealR root t u [] = (s, ([], (false, eo)))) := by
    show _ = _
    rw [heo]; rfl
  obtain ⟨R, hR⟩ : ∃ R, R = s.resealR root t u [] := ⟨_, rfl⟩
  rw [← hR] at HR ⊢
  have H := hid h
  have q1 : ((eo : Int) != 0) = true := by simp; omega
  clear h hne heo hR
  go_enter Tryz.func11, Tryz.ntmps11
  go_wp2_with (go_at_call 12; refine HO.out.mono ?_; rintro _ w1 ⟨rfl, b1⟩; have B1 := hid b1; clear b1)
  go_ret3
  rw [HR.out]
  exact ⟨_, rfl, nilJ _ _, H.out.below B1.out, OutJ.of_below B1.out⟩
theorem reseal_l (h : TreeM w B g mv mg root s d) (hsn : s.n ≤ 1099511627776) (t u : ByteArray) (ht : t.size ≤ maxLen) (hu : u.size ≤ maxLen) (S : List UInt8) (a : Option Addr) (m cap : Nat) (hm : m = S.length) (hm9 : m ≤ 140737488351232) (hmc : m ≤ cap) (ha : S ≠ [] → ∃ gs, a = some ⟨gs, 0, none⟩) (hB : Bytes w a S) (hT : TabAt w) (hKA : KAt w) :
    Calls Tryz.prog 11 #[.pointer (some ⟨g, 0, none⟩), .string t, .string u, .slice a m cap] w (ResP w B g mv mg root d (s.resealR root t u S)) := by
  cases S with
  | nil =>
    subst hm
    exact reseal_none h t u ht hu a cap
  | cons b S =>
    obtain ⟨gs, rfl⟩ := ha (by simp)
    exact reseal_m h hsn t u ht hu b S gs m cap (by simpa using hm) hm9 hmc hB hT hKA
end
end Go.Proofs.YtomhcccjeadefaaGreatDoor
/- A new tree of keys, as mathematics. -/
namespace Go.Proofs.YtomhcccjeadefaaGreatDoor
open Go.RowKit Go.Maps
set_option linter.unusedVariables false
set_option maxRecDepth 20000
def TS0 : TS := ⟨[], [], 0⟩
theorem TS0_ok : TS0.Ok := ⟨(fun p hp => nomatch hp), List.nodup_nil, (fun p hp => nomatch hp), List.nodup_nil, by decide, by decide⟩
theorem treeM_new {w : World} {B B' g mv mg : Nat} {root : List UInt8} (h : TreeAt w B' g root mv mg 0 0 (.map []) (.map []) 0) (hne : mv ≠ mg) (hB : B ≤ B') : TreeM w B g mv mg root TS0 0 :=
  ⟨TS0_ok, hne, 0, 0, _, _, ⟨h.obj, h.vm, h.gm, h.len, Nat.le_trans hB h.bg, Nat.le_trans hB h.bv, Nat.le_trans hB h.bm⟩, vrel_new, grel_new, Nat.le_refl _, Nat.le_refl _⟩
end Go.Proofs.YtomhcccjeadefaaGreatDoor
/- Numbers read back: codec.ToNumber, state.Number of any text (AToNum over the keys' texts). -/
namespace Go.Proofs.YtomhcccjeadefaaGreatDoor
open Go.RowKit
set_option linter.unusedVariables false
set_option maxRecDepth 20000
def dv (c : Nat) : Option Nat := if 48 ≤ c ∧ c ≤ 57 then some (c - 48) else if 97 ≤ c ∧ c ≤ 102 then some (c - 87) else none
set_option maxHeartbeats 400000 in
theorem digitValue_any (c : Nat) (hc : c ≤ 255) (w : World) :
    Calls Tryz.prog 152 #[.int .u8 (c : Int)] w fun e w' => e = .returned (.tuple #[.int .u64 (((dv c).getD 0 : Nat) : Int), .bool (dv c).isSome]) ∧ w' = w := by
  go_enter Tryz.func152, Tryz.ntmps152
  go_wp2
  all_goals go_ret2
  all_goals refine ⟨ret_two (congrArg (Value.int .u64) ?_) (congrArg Value.bool ?_), rfl⟩
  all_goals
    unfold dv
    repeat' split
    all_goals first | rfl | (simp; done) | (simp; omega) | omega
set_option maxHeartbeats 400000 in
theorem hasPrefix_any (s : ByteArray) (w : World) (hs : s.size ≤ maxLen) :
    Calls Tryz.prog 151 #[.string s, .string ⟨#[48]⟩] w fun e w' => e = .returned (.bool (s.data.toList.head? == some 48)) ∧ w' = w := by
  unfold maxLen at hs
  go_enter Tryz.func151, Tryz.ntmps151
  go_wp2
  all_goals go_ret
  all_goals refine ⟨ret_bool ?_, rfl⟩
  · rw [List.head?_eq_getElem?]
    have h1 : 1 ≤ s.size := by omega
    have e : (s.extract 0 1).toList = s.data.toList.take 1 := by
      rw [ByteArray.toList_eq]; simp
    rw [e]
    cases hl : s.data.toList with
    | nil => have h2 := Lib.size_eq s; rw [hl] at h2; simp only [List.length_nil] at h2; omega
    | cons c r => simp
  · have h1 : s.data.toList = [] := List.length_eq_zero_iff.1 (by have h2 := Lib.size_eq s; omega)
    rw [h1]; rfl
open Go.RowKit
def hexB (c : UInt8) : Bool := (dv c.toNat).isSome
def digV (n : Nat) (l : List UInt8) : Nat := l.foldl (fun n c => n * 16 + (dv c.toNat).getD 0) n
def toNum (l : List UInt8) : Nat × Nat :=
  if l.length = 0 ∨ 17 < l.length then (0, 3)
  else if (l.headD 0).toNat ≠ 96 + l.length ∨ (l.drop 1).head? = some 48 then (0, 3)
  else if (l.drop 1).all hexB = false then (0, 3)
  else if 4611686018427387904 < digV 0 (l.drop 1) then (0, 2) else (digV 0 (l.drop 1), 0)
theorem dv_lt (c : Nat) : (dv c).getD 0 < 16 := by
  unfold dv
  repeat' split
  all_goals simp
  all_goals omega
theorem digV_lt (l : List UInt8) : digV 0 l < 16 ^ l.length := by
  suffices h : ∀ n k, n < 16 ^ k → digV n l < 16 ^ (k + l.length) by simpa using h 0 0 (by simp)
  induction l with
  | nil => intro n k h; simpa [digV] using h
  | cons c l ih =>
    intro n k h
    have := ih (n * 16 + (dv c.toNat).getD 0) (k + 1) (by have := dv_lt c.toNat; rw [Nat.pow_succ]; omega)
    simpa [digV, Nat.add_assoc, Nat.add_comm 1] using this
theorem digV_snoc (l : List UInt8) (c : UInt8) : digV 0 (l ++ [c]) = digV 0 l * 16 + (dv c.toNat).getD 0 := by simp [digV]
theorem or_nat (n v : Nat) (hv : v < 16) : n * 16 ||| v = n * 16 + v := by
  have := Nat.shiftLeft_add_eq_or_of_lt (i := 4) (b := v) (by simpa using hv) n
  rw [Nat.shiftLeft_eq] at this
  simpa using this.symm
theorem or_u64 (n v : Nat) (hn : n < 1152921504606846976) (hv : v < 16) : bits BinOp.or IntKind.u64 ((n : Int) * 16) (v : Int) = ((n * 16 + v : Nat) : Int) := by
  have h := bits_or_u64_nat (n * 16) v (by omega) (by omega)
  rw [or_nat n v hv] at h
  simpa using h
set_option maxHeartbeats 1000000 in
theorem toNumber_any (s : ByteArray) (w : World) (hs : s.size ≤ maxLen) :
    Calls Tryz.prog 133 #[.string s] w fun e w' => e = .returned (.tuple #[.int .i64 ((toNum s.data.toList).1 : Int), .int .i64 ((toNum s.data.toList).2 : Int)]) ∧ w' = w := by
  unfold maxLen at hs
  have hlen : s.data.toList.length = s.size := (Lib.size_eq s).symm
  by_cases h0 : s.size = 0
  · have e : toNum s.data.toList = (0, 3) := by unfold toNum; rw [hlen, if_pos (.inl h0)]
    rw [e]
    have d1 : (((s.size : Nat) : Int) == 0) = true := by rw [beq_iff_eq]; omega
    clear e hlen h0
    go_enter Tryz.func133, Tryz.ntmps133
    go_wp2
    go_ret2
    exact ⟨rfl, rfl⟩
  have d1 : (((s.size : Nat) : Int) == 0) = false := by rw [beq_eq_false_iff_ne]; omega
  by_cases h17 : 17 < s.size
  · have e : toNum s.data.toList = (0, 3) := by unfold toNum; rw [hlen, if_pos (.inr h17)]
    rw [e]
    have d2 : decide (17 < ((s.size : Nat) : Int)) = true := by simp; omega
    clear e hlen
    go_enter Tryz.func133, Tryz.ntmps133
    go_wp2
    go_ret2
    exact ⟨rfl, rfl⟩
  have d2 : decide (17 < ((s.size : Nat) : Int)) = false := by simp; omega
  have hpos : 0 < s.size := Nat.pos_of_ne_zero h0
  obtain ⟨d, hd⟩ : ∃ d, d = s.extract 1 s.size := ⟨_, rfl⟩
  have hdl : d.data.toList = s.data.toList.drop 1 := by rw [hd, Lib.extract_data, List.take_of_length_le (by simp)]
  have hdsz : d.size = s.size - 1 := by rw [Lib.size_eq, hdl, List.length_drop, hlen]
  have hs0 : s.data.toList.headD 0 = s[0]'hpos := by
    cases hh : s.data.toList with
    | nil => rw [hh] at hlen; simp at hlen; omega
    | cons c r =>
      have : s[0]'hpos = s.data.toList[0]'(by omega) := rfl
      rw [this]
      simp [hh]
  obtain ⟨c0, hc0⟩ : ∃ c0, c0 = s[0]'hpos := ⟨_, rfl⟩
  have E : Hid (toNum s.data.toList = if c0.toNat ≠ 96 + s.size ∨ d.data.toList.head? = some 48 then (0, 3) else if d.data.toList.all hexB = false then (0, 3) else if 4611686018427387904 < digV 0 d.data.toList then (0, 2) else (digV 0 d.data.toList, 0)) := by
    unfold toNum Hid
    rw [hlen, if_neg (by omega), hs0, ← hdl, hc0]
  generalize toNum s.data.toList = p at E ⊢
  have hd' : s.extract 1 s.size = d := hd.symm
  have hc0' : s[0]'hpos = c0 := hc0.symm
  have Hdsz := hid hdsz
  have hd16 : d.size ≤ 16 := by omega
  clear hdl hs0 hd hlen hc0 hdsz
  have hc255 : c0.toNat < 256 := c0.toNat_lt
  by_cases hA : c0.toNat ≠ 96 + s.size
  · have e : Hid (p = (0, 3)) := by rw [Hid, E.out, if_pos (.inl hA)]
    have dA : ((c0.toNat : Int) != 97 + (d.size : Int)) = true := by rw [bne_iff_ne]; have := Hdsz.out; omega
    clear hA E
    go_enter Tryz.func133, Tryz.ntmps133
    go_wp2_with (go_at_call 151; refine (hasPrefix_any _ _ (by unfold maxLen; omega)).mono ?_; rintro e w' ⟨rfl, rfl⟩)
    all_goals go_ret2
    exact ⟨by rw [e.out]; rfl, rfl⟩
  have dA : ((c0.toNat : Int) != 97 + (d.size : Int)) = false := by rw [bne_eq_false_iff_eq]; have := Hdsz.out; omega
  by_cases hB : d.data.toList.head? = some 48
  · have e : Hid (p = (0, 3)) := by rw [Hid, E.out, if_pos (.inr hB)]
    have dB : (d.data.toList.head? == some 48) = true := by rw [hB]; rfl
    clear hB E
    go_enter Tryz.func133, Tryz.ntmps133
    go_wp2_with (go_at_call 151; refine (hasPrefix_any _ _ (by unfold maxLen; omega)).mono ?_; rintro e w' ⟨rfl, rfl⟩)
    all_goals go_ret2
    exact ⟨by rw [e.out]; rfl, rfl⟩
  have dB : (d.data.toList.head? == some 48) = false := by simpa using hB
  have e : Hid (p = if d.data.toList.all hexB = false then (0, 3) else if 4611686018427387904 < digV 0 d.data.toList then (0, 2) else (digV 0 d.data.toList, 0)) := by rw [Hid, E.out, if_neg (fun h => h.elim hA hB)]
  clear hA hB E
  go_enter Tryz.func133, Tryz.ntmps133
  go_wp2_with (go_at_call 151; refine (hasPrefix_any _ _ (by unfold maxLen; omega)).mono ?_; rintro e w' ⟨rfl, rfl⟩)
  go_loop [5, 32] (fun n i => ∃ k : Nat, k ≤ d.size ∧ i = .int .i64 k ∧ n = .int .u64 (digV 0 (d.data.toList.take k) : Int) ∧ (d.data.toList.take k).all hexB = true) (fun _ i => d.size - (intOf i).toNat)
  case atStart => exact ⟨0, Nat.zero_le _, rfl, rfl, rfl⟩
  case round =>
    obtain ⟨k, hk, rfl, rfl, hall⟩ := hrel
    have Hall := hid hall
    clear hall
    obtain ⟨n, hn⟩ : ∃ n, n = digV 0 (d.data.toList.take k) := ⟨_, rfl⟩
    rw [← hn]
    have Hn := hid hn
    clear hn
    by_cases hlt : k < d.size
    · have hn60 : n < 1152921504606846976 := by
        have h1 := digV_lt (d.data.toList.take k)
        rw [← Hn.out] at h1
        have h2 : 16 ^ (d.data.toList.take k).length ≤ 16 ^ 15 := Nat.pow_le_pow_right (by omega) (by simp; omega)
        exact Nat.lt_of_lt_of_le h1 h2
      cases hdv : dv (d[k]'hlt).toNat with
      | none =>
        have Hdv := hid hdv
        have h1 : ((dv (d[k]'hlt).toNat).getD 0) = 0 := by rw [hdv]; rfl
        have h2 : (dv (d[k]'hlt).toNat).isSome = false := by rw [hdv]; rfl
        clear hdv
        go_wp2_with (go_at_call 152; refine (digitValue_any _ (by have := (d[k]'hlt).toNat_lt; omega) _).mono ?_; rintro e w' ⟨rfl, rfl⟩)
        go_ret2
        refine ⟨?_, rfl⟩
        rw [e.out, if_pos (all_of_prefix d hexB k hlt (by unfold hexB; rw [Hdv.out]; rfl))]
        rfl
      | some v =>
        have Hdv := hid hdv
        have h1 : ((dv (d[k]'hlt).toNat).getD 0) = v := by rw [hdv]; rfl
        have h2 : (dv (d[k]'hlt).toNat).isSome = true := by rw [hdv]; rfl
        clear hdv
        have hv := dv_lt (d[k]'hlt).toNat
        rw [h1] at hv
        go_wp2_with (go_at_call 152; refine (digitValue_any _ (by have := (d[k]'hlt).toNat_lt; omega) _).mono ?_; rintro e w' ⟨rfl, rfl⟩)
        go_round
        case rel =>
          refine ⟨k + 1, by omega, by go_num, ?_, ?_⟩
          · rw [take_snoc d k hlt, digV_snoc, ← Hn.out, h1]
            exact congrArg (Value.int .u64) (or_u64 n v hn60 hv)
          · rw [take_snoc d k hlt, List.all_append, Hall.out]
            simp [hexB, h2]
        case measure => simp [intOf]; omega
    · have hk' : k = d.size := by omega
      have H1 : Hid (d.data.toList.all hexB = true) := by
        have h := Hall.out
        rw [hk', take_all] at h
        exact h
      have H2 : Hid (digV 0 d.data.toList = n) := by
        rw [Hid, Hn.out, hk', take_all]
      clear hk'
      go_wp2
      · have hgt : 4611686018427387904 < (n : Int) := by assumption
        go_ret2
        refine ⟨?_, rfl⟩
        rw [e.out, H1.out, H2.out, if_neg (by simp), if_pos (by omega)]
        rfl
      · have hgt : (n : Int) ≤ 4611686018427387904 := by assumption
        go_ret2
        refine ⟨?_, rfl⟩
        rw [e.out, H1.out, H2.out, if_neg (by simp), if_neg (by omega)]
        rfl
open Go.Op (bytesLess)
theorem log_bounds (n : Nat) (h : n ≠ 0) : 16 ^ (n.log2 / 4) ≤ n ∧ n < 16 ^ (n.log2 / 4 + 1) := by
  have e1 : ∀ k, (16 : Nat) ^ k = 2 ^ (4 * k) := fun k => by rw [Nat.pow_mul]
  rw [e1, e1]
  constructor
  · exact Nat.le_trans (Nat.pow_le_pow_right (by omega) (by omega)) ((Nat.le_log2 h).1 (Nat.le_refl _))
  · exact Nat.lt_of_lt_of_le ((Nat.log2_lt h).1 (Nat.lt_succ_self _)) (Nat.pow_le_pow_right (by omega) (by omega))
theorem log_le (n : Nat) (h : n ≠ 0) (hn : n ≤ 4611686018427387904) : n.log2 / 4 ≤ 15 := by
  have h1 := (log_bounds n h).1
  have h2 : 16 ^ (n.log2 / 4) < 16 ^ 16 := Nat.lt_of_le_of_lt (Nat.le_trans h1 hn) (by decide)
  have := (Nat.pow_lt_pow_iff_right (a := 16) (by omega)).1 h2
  omega
theorem letr_toNat (k : Nat) (hk : k ≤ 15) : (letr k).toNat = 98 + k := by
  unfold letr
  rw [UInt8.toNat_ofNat']
  omega
theorem dv_hexc : ∀ d : Fin 16, dv (hexc d.val).toNat = some d.val := by decide +kernel
theorem hexc_ne : ∀ d : Fin 16, d.val ≠ 0 → hexc d.val ≠ 48 := by decide +kernel
theorem lo_hex (k n : Nat) : (lo k n).all hexB = true := by
  induction k with
  | zero => rfl
  | succ k ih =>
    have := dv_hexc ⟨n / 16 ^ k % 16, Nat.mod_lt _ (by omega)⟩
    simp only at this
    simp [lo, ih, hexB, this]
theorem digV_lo (k n m : Nat) : digV m (lo k n) = m * 16 ^ k + n % 16 ^ k := by
  induction k generalizing m with
  | zero => simp [lo, digV, Nat.mod_one]
  | succ k ih =>
    have h := dv_hexc ⟨n / 16 ^ k % 16, Nat.mod_lt _ (by omega)⟩
    simp only at h
    have e : digV m (lo (k + 1) n) = digV (m * 16 + n / 16 ^ k % 16) (lo k n) := by
      simp [digV, lo, h]
    rw [e, ih, mod_succ, Nat.add_mul, Nat.pow_succ, Nat.mul_assoc, Nat.mul_comm 16]
    omega
theorem toNum_numT (n : Nat) (hn : n ≤ 4611686018427387904) : toNum (numT n) = (n, 0) := by
  by_cases n0 : n = 0
  · subst n0; decide
  · have hl := log_le n n0 hn
    have hb := log_bounds n n0
    have e : numT n = letr (n.log2 / 4) :: lo (n.log2 / 4 + 1) n := by unfold numT; rw [if_neg n0]
    rw [e]
    generalize n.log2 / 4 = k at *
    have hd : digV 0 (lo (k + 1) n) = n := by rw [digV_lo, Nat.mod_eq_of_lt hb.2]; omega
    have hh : (lo (k + 1) n).head? ≠ some 48 := by
      simp only [lo, List.head?_cons, ne_eq, Option.some.injEq]
      have h1 : n / 16 ^ k < 16 := by
        rw [Nat.div_lt_iff_lt_mul (Nat.pow_pos (by omega)), Nat.mul_comm, ← Nat.pow_succ]
        exact hb.2
      have h2 : 0 < n / 16 ^ k := Nat.div_pos hb.1 (Nat.pow_pos (by omega))
      rw [Nat.mod_eq_of_lt h1]
      exact hexc_ne ⟨n / 16 ^ k, h1⟩ (by simp only; omega)
    unfold toNum
    simp only [List.length_cons, lo_length, List.headD_cons, letr_toNat k hl, List.drop_succ_cons, List.drop_zero, hd, lo_hex]
    rw [if_neg (by omega), if_neg (by rintro (h | h); omega; exact hh h), if_neg (by simp), if_neg (by omega)]
theorem txtJ_len (n : Nat) (h : n ≤ 4611686018427387904) : (txtJ n).size ≤ maxLen := by
  show (numT n).toArray.size ≤ maxLen
  have : maxLen = 9223372036854775807 := by decide
  unfold numT
  split
  · rw [this]; decide
  · rw [List.size_toArray, List.length_cons, lo_length]
    have := (Nat.log2_lt (by omega)).2 (show n < 2 ^ 63 by omega)
    omega
set_option maxHeartbeats 400000 in
theorem number_back (n lo hi : Nat) (h1 : lo ≤ n) (h2 : n ≤ hi) (h3 : hi ≤ 4611686018427387904) (w : World) :
    Calls Tryz.prog 101 #[.string (txtJ n), .int .i64 (lo : Int), .int .i64 (hi : Int)] w fun e w' => e = .returned (.tuple #[.int .i64 (n : Int), .bool true]) ∧ w' = w := by
  have HC := hid (toNumber_any (txtJ n) w (txtJ_len n (by omega)))
  have e1 : (txtJ n).data.toList = numT n := rfl
  rw [e1, toNum_numT n (by omega)] at HC
  clear e1
  generalize txtJ n = t at *
  have d1 : decide ((n : Int) < (lo : Int)) = false := decide_eq_false (by omega)
  have d2 : decide ((hi : Int) < (n : Int)) = false := decide_eq_false (by omega)
  have d3 : ¬ (n : Int) < (lo : Int) := by omega
  have d4 : ¬ (hi : Int) < (n : Int) := by omega
  go_enter Tryz.func101, Tryz.ntmps101
  go_wp2_with (go_at_call 133; refine HC.out.mono ?_; rintro e w1 ⟨rfl, e9⟩; subst w1)
  go_ret2
  exact ⟨rfl, rfl⟩
end Go.Proofs.YtomhcccjeadefaaGreatDoor
