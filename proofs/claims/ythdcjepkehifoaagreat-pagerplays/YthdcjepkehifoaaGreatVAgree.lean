/- YthdcjepkehifoaaGreatVNums + YthdcjepkehifoaaGreatVAgree -/
import Derived.Test.YthdcjepkehifoaaGreatVDds
import Derived.Lib.SlicesCompact
import Derived.Lib.RowBridge
/- Numbers without doubles: what sorting and compacting leaves. -/
namespace Go.Proofs.YthdcjepkehifoaaGreat
set_option linter.unusedVariables false
set_option maxRecDepth 20000
theorem up_get {zs : List Int} (h : zs.Pairwise (· ≤ ·)) {i j : Nat} (hij : i ≤ j) (hj : j < zs.length) : zs.toArray[i]! ≤ zs.toArray[j]! := by
  have hi : i < zs.length := by omega
  rw [getElem!_pos zs.toArray i (by simpa using hi), getElem!_pos zs.toArray j (by simpa using hj)]
  simp only [List.getElem_toArray]
  rcases Nat.lt_or_eq_of_le hij with h1 | h1
  · exact List.pairwise_iff_getElem.1 h i j hi hj h1
  · subst h1; exact Int.le_refl _
theorem compUp {zs : List Int} (h : zs.Pairwise (· ≤ ·)) (m : Nat) (hm : m ≤ zs.length) : (Lib.compactUpTo zs.toArray m).Pairwise (· < ·) ∧ (∀ x, x ∈ Lib.compactUpTo zs.toArray m ↔ ∃ j, j < m ∧ zs.toArray[j]! = x) := by
  induction m with
  | zero => exact ⟨by simp [Lib.compactUpTo], fun x => by simp [Lib.compactUpTo]⟩
  | succ m ih =>
    obtain ⟨h1, h2⟩ := ih (by omega)
    rw [Lib.compactUpTo_succ]
    cases hk : Lib.keeps zs.toArray m with
    | true =>
      rw [if_pos rfl]
      refine ⟨List.pairwise_append.2 ⟨h1, by simp, fun a ha b hb => ?_⟩, fun x => ?_⟩
      · rw [List.mem_singleton.1 hb]
        obtain ⟨j, hj, rfl⟩ := (h2 a).1 ha
        have hm0 : m ≠ 0 := by omega
        have hne : zs.toArray[m]! ≠ zs.toArray[m - 1]! := by
          unfold Lib.keeps at hk
          have := of_decide_eq_true hk
          rcases this with h | h
          · exact absurd h hm0
          · exact h
        have a1 := up_get h (i := j) (j := m - 1) (by omega) (by omega)
        have a2 := up_get h (i := m - 1) (j := m) (by omega) (by omega)
        omega
      · rw [List.mem_append, h2, List.mem_singleton]
        constructor
        · rintro (⟨j, hj, e⟩ | e)
          · exact ⟨j, by omega, e⟩
          · exact ⟨m, by omega, e.symm⟩
        · rintro ⟨j, hj, e⟩
          by_cases hjm : j = m
          · subst hjm; exact .inr e.symm
          · exact .inl ⟨j, by omega, e⟩
    | false =>
      rw [if_neg (by simp), List.append_nil]
      refine ⟨h1, fun x => ?_⟩
      rw [h2]
      have hne : m ≠ 0 ∧ zs.toArray[m]! = zs.toArray[m - 1]! := by
        unfold Lib.keeps at hk
        have := of_decide_eq_false hk
        constructor
        · exact fun e => this (.inl e)
        · exact Classical.byContradiction fun e => this (.inr e)
      constructor
      · rintro ⟨j, hj, e⟩; exact ⟨j, by omega, e⟩
      · rintro ⟨j, hj, e⟩
        by_cases hjm : j = m
        · subst hjm; exact ⟨j - 1, by omega, by rw [← hne.2]; exact e⟩
        · exact ⟨j, by omega, e⟩
theorem nodup_len {α : Type} [BEq α] [LawfulBEq α] {l l' : List α} (h : l.Nodup) (h' : l'.Nodup) (hm : ∀ x, x ∈ l ↔ x ∈ l') : l.length = l'.length := ((List.perm_ext_iff_of_nodup h h').2 hm).length_eq
/-- a list of whole numbers, sorted and compacted -/
def dist (zs : List Int) : List Int := Lib.compact (zs.mergeSort fun x y => decide (x ≤ y))
theorem dist_mem (zs : List Int) : (dist zs).Nodup ∧ ∀ x, x ∈ dist zs ↔ x ∈ zs := by
  have hs : (zs.mergeSort fun x y => decide (x ≤ y)).Pairwise (· ≤ ·) := by
    have := List.pairwise_mergeSort (le := fun x y : Int => decide (x ≤ y)) (fun a b c h1 h2 => by simp at *; omega) (fun a b => by simp; omega) zs
    exact this.imp (fun h => by simpa using h)
  have hp := List.mergeSort_perm zs (fun x y => decide (x ≤ y))
  unfold dist
  generalize zs.mergeSort (fun x y => decide (x ≤ y)) = ts at hs hp
  obtain ⟨h1, h2⟩ := compUp hs ts.length (Nat.le_refl _)
  refine ⟨h1.imp (fun h => by omega), fun x => ?_⟩
  show x ∈ Lib.compactUpTo ts.toArray ts.length ↔ _
  rw [h2, ← hp.mem_iff]
  constructor
  · rintro ⟨j, hj, e⟩
    rw [getElem!_pos ts.toArray j (by simpa using hj)] at e
    simp only [List.getElem_toArray] at e
    rw [← e]; exact List.getElem_mem hj
  · intro hx
    obtain ⟨j, hj, e⟩ := List.getElem_of_mem hx
    refine ⟨j, hj, ?_⟩
    rw [getElem!_pos ts.toArray j (by simpa using hj)]
    simpa using e
theorem dist_le (zs : List Int) : (dist zs).length ≤ zs.length := by
  unfold dist
  refine Nat.le_trans (Lib.compact_length_le _) ?_
  rw [List.length_mergeSort]; exact Nat.le_refl _
theorem dist_full (zs : List Int) : (dist zs).length = zs.length ↔ zs.Nodup := by
  obtain ⟨h1, h2⟩ := dist_mem zs
  constructor
  · intro h
    have hp := List.mergeSort_perm zs (fun x y => decide (x ≤ y))
    unfold dist at h h1
    rw [← hp.length_eq] at h
    refine hp.nodup_iff.1 ?_
    generalize zs.mergeSort (fun x y => decide (x ≤ y)) = ts at h h1
    have hall : ∀ j, j < ts.length → Lib.keeps ts.toArray j = true := by
      unfold Lib.compact Lib.compactUpTo at h
      rw [List.length_map] at h
      have h3 : ((List.range ts.length).filter (Lib.keeps ts.toArray)).length = (List.range ts.length).length := by rw [h, List.length_range]
      intro j hj
      exact List.length_filter_eq_length_iff.1 h3 j (List.mem_range.2 hj)
    rw [Lib.compact_all ts hall] at h1
    exact h1
  · intro h; exact nodup_len h1 h h2
end Go.Proofs.YthdcjepkehifoaaGreat

/- The reference's cache as mathematics; how it goes with the program's. -/
namespace Go.Proofs.YthdcjepkehifoaaGreat
set_option linter.unusedVariables false
set_option maxRecDepth 20000
/-- what a reference's cache holds: a log, the dirty pages as they were written, the clean ones in their order, the pinned ones, hits and misses -/
structure RS where
  S : Nat
  P : Nat
  G : Nat
  gs : List (List Nat)
  ls : List (Nat × List UInt8)
  mo : Nat
  dd : List (Nat × List UInt8)
  ord : List Nat
  pins : List Nat
  hi : Nat
  mi : Nat
def rPush (l : List Nat) (n : Nat) : List Nat := l.filter (fun y => y != n) ++ [n]
def rEv (mo : Nat) (pins o : List Nat) : List Nat := if o.length ≤ mo then o else match o.find? (fun x => decide (x ∉ pins)) with
  | some y => o.filter (fun x => x != y)
  | none => o
def useR (r : RS) (n : Nat) : RS := { r with hi := if n ∈ r.ord then r.hi + 1 else r.hi, mi := if n ∈ r.ord then r.mi else r.mi + 1, ord := rEv r.mo r.pins (rPush r.ord n) }
def readR (r : RS) (n : Nat) : RS := if (r.dd.lookup n).isSome then r else useR r n
def writeR (r : RS) (n : Nat) (y : List UInt8) : RS := { r with dd := r.dd.filter (fun c => c.1 != n) ++ [(n, y)], ord := r.ord.filter (fun y => y != n), pins := r.pins.filter (fun y => y != n) }
def pinR (r : RS) (n : Nat) : RS := useR { r with pins := rPush r.pins n } n
def pin1 (s : PS) (q : Nat) : PS := { useS s q with pin := upd (useS s q).pin q true }
/-- the same cache, told twice -/
structure Agree (s : PS) (r : RS) : Prop where
  S : r.S = s.S
  P : r.P = s.P
  G : r.G = s.G
  gs : r.gs = s.gs
  ls : r.ls = s.ls
  mo : r.mo = s.mo
  ord : r.ord = s.ord
  hi : r.hi = s.hi
  mi : r.mi = s.mi
  dd : r.dd.Perm s.dl
  pn : r.pins.Nodup
  pm : ∀ x, x ∈ r.pins ↔ x ∈ s.ord ∧ s.pin x = true
theorem mem_rPush {l : List Nat} {n x : Nat} : x ∈ rPush l n ↔ x ∈ l ∨ x = n := by
  unfold rPush
  rw [List.mem_append, List.mem_filter, List.mem_singleton]
  by_cases h : x = n <;> simp [h]
theorem nodup_rPush {l : List Nat} (h : l.Nodup) (n : Nat) : (rPush l n).Nodup := by
  unfold rPush
  rw [List.nodup_append]
  refine ⟨h.filter _, by simp, fun a ha b hb => ?_⟩
  rw [List.mem_singleton.1 hb]
  intro e
  subst e
  simp at ha
theorem find_congr {p q : Nat → Bool} {l : List Nat} (h : ∀ x ∈ l, p x = q x) : l.find? p = l.find? q := by
  induction l with
  | nil => rfl
  | cons a l ih =>
    rw [List.find?_cons, List.find?_cons, h a (by simp), ih (fun x hx => h x (by simp [hx]))]
section
variable {s : PS} {r : RS}
theorem filter_out {l : List Nat} {n : Nat} (h : n ∉ l) : l.filter (fun y => y != n) = l := List.filter_eq_self.2 (fun x hx => by simp; exact fun e => h (e ▸ hx))
theorem rPush_len (ok : CaOk s) {n : Nat} (h : n ∈ s.ord) : (rPush s.ord n).length = s.ord.length := by
  unfold rPush
  have := filter_len ok.nd h
  rw [List.length_append, List.length_singleton]
  omega
theorem use_ord (ok : CaOk s) (he : Ext s) (n : Nat) (π : List Nat) (hπ : ∀ x ∈ s.ord, x ≠ n → (x ∈ π ↔ s.pin x = true)) (hn : n ∉ s.ord → n ∉ π ∨ ∃ x ∈ s.ord, s.pin x = false) : (useS s n).ord = rEv s.mo π (rPush s.ord n) := by
  unfold useS
  by_cases h : n ∈ s.ord
  · rw [if_pos h]
    unfold rEv
    rw [if_pos (by rw [rPush_len ok h]; exact he.full)]
    rfl
  · rw [if_neg h]
    have e0 : rPush s.ord n = s.ord ++ [n] := by unfold rPush; rw [filter_out h]
    have e1 : (missS s n).ord = s.ord ++ [n] := rfl
    rw [e0]
    unfold rEv
    by_cases hl : s.mo < (missS s n).ord.length
    · rw [if_pos hl, if_neg (by rw [← e1]; omega)]
      have hc : s.ord.find? (fun x => decide (x ∉ π)) = s.ord.find? (fun x => !(missS s n).pin x) := find_congr fun x hx => by
        have hxn : x ≠ n := fun e => h (e ▸ hx)
        have e2 : (missS s n).pin x = s.pin x := upd_ne _ _ hxn
        rw [e2]
        have := hπ x hx hxn
        by_cases hp : s.pin x = true
        · simp [this.2 hp, hp]
        · have hnp : x ∉ π := fun hm => hp (this.1 hm)
          simp [hnp, hp]
      have en : (missS s n).pin n = false := upd_same _ _ _
      have ef : (s.ord ++ [n]).find? (fun x => decide (x ∉ π)) = some (firstUn (missS s n)) := by
        have e3 : firstUn (missS s n) = ((s.ord ++ [n]).find? (fun x => !(missS s n).pin x)).getD 0 := rfl
        rw [e3, List.find?_append, List.find?_append, hc]
        cases hf : s.ord.find? (fun x => !(missS s n).pin x) with
        | some y => rfl
        | none =>
          have hnn : n ∉ π := by
            rcases hn h with h1 | ⟨x, hx, hp⟩
            · exact h1
            · exfalso
              have := List.find?_eq_none.1 hf x hx
              have e2 : (missS s n).pin x = s.pin x := upd_ne _ _ (fun e => h (e ▸ hx))
              rw [e2, hp] at this
              simp at this
          simp [hnn, en]
      rw [ef]
      rfl
    · rw [if_neg hl, if_pos (by rw [← e1]; omega)]
      rfl
theorem firstUn_pin (hex : ∃ x ∈ s.ord, s.pin x = false) : s.pin (firstUn s) = false := by
  unfold firstUn
  cases hf : s.ord.find? (fun x => !s.pin x) with
  | some y => have := List.find?_some hf; simpa using this
  | none =>
    obtain ⟨x, hx, hp⟩ := hex
    have := (List.find?_eq_none.1 hf) x hx
    simp [hp] at this
theorem use_pins (n x : Nat) : (x ∈ (useS s n).ord ∧ (useS s n).pin x = true) ↔ (x ∈ s.ord ∧ s.pin x = true) := by
  unfold useS
  by_cases h : n ∈ s.ord
  · rw [if_pos h]
    have e1 : (hitS s n).ord = rPush s.ord n := rfl
    have e2 : (hitS s n).pin x = s.pin x := by
      show upd s.pin n (s.pin n) x = s.pin x
      by_cases e : x = n
      · subst e; exact upd_same _ _ _
      · exact upd_ne _ _ e
    rw [e1, e2, mem_rPush]
    constructor
    · rintro ⟨h1 | h1, h2⟩
      · exact ⟨h1, h2⟩
      · exact ⟨h1 ▸ h, h2⟩
    · rintro ⟨h1, h2⟩; exact ⟨.inl h1, h2⟩
  · rw [if_neg h]
    have hm : (x ∈ (missS s n).ord ∧ (missS s n).pin x = true) ↔ (x ∈ s.ord ∧ s.pin x = true) := by
      have e1 : (missS s n).ord = s.ord ++ [n] := rfl
      rw [e1, List.mem_append, List.mem_singleton]
      by_cases e : x = n
      · subst e
        have e2 : (missS s x).pin x = false := upd_same _ _ _
        rw [e2]
        constructor
        · rintro ⟨_, h2⟩; cases h2
        · rintro ⟨h1, _⟩; exact absurd h1 h
      · have e2 : (missS s n).pin x = s.pin x := upd_ne _ _ e
        rw [e2]
        constructor
        · rintro ⟨h1 | h1, h2⟩
          · exact ⟨h1, h2⟩
          · exact absurd h1 e
        · rintro ⟨h1, h2⟩; exact ⟨.inl h1, h2⟩
    split
    · rw [← hm]
      have hf := firstUn_pin (s := missS s n) ⟨n, by show n ∈ s.ord ++ [n]; simp, upd_same _ _ _⟩
      have e1 : (dropS (missS s n) (firstUn (missS s n))).ord = (missS s n).ord.filter (fun x => x != firstUn (missS s n)) := rfl
      rw [e1, List.mem_filter]
      constructor
      · rintro ⟨⟨h1, _⟩, h2⟩; exact ⟨h1, h2⟩
      · rintro ⟨h1, h2⟩
        refine ⟨⟨h1, ?_⟩, h2⟩
        rw [bne_iff_ne]
        intro e
        rw [e, hf] at h2
        cases h2
    · exact hm
theorem use_in' (n : Nat) (he : Ext s) (hx : n ∈ s.ord ∨ s.ord.length < s.mo ∨ ∃ x ∈ s.ord, s.pin x = false) : n ∈ (useS s n).ord := by
  unfold useS
  by_cases h : n ∈ s.ord
  · rw [if_pos h]
    show n ∈ rPush s.ord n
    rw [mem_rPush]; exact .inr rfl
  · rw [if_neg h]
    split
    · rename_i hl
      have e1 : (missS s n).ord = s.ord ++ [n] := rfl
      have hex : ∃ x ∈ s.ord, s.pin x = false := by
        rcases hx with h1 | h1 | h1
        · exact absurd h1 h
        · rw [e1, List.length_append, List.length_singleton] at hl; omega
        · exact h1
      show n ∈ (missS s n).ord.filter (fun x => x != firstUn (missS s n))
      rw [List.mem_filter]
      refine ⟨by rw [e1]; simp, ?_⟩
      rw [bne_iff_ne]
      intro e
      obtain ⟨x, hx, hp⟩ := hex
      have hxn : ∀ z ∈ s.ord, (missS s n).pin z = s.pin z := fun z hz => upd_ne _ _ (fun e => h (e ▸ hz))
      have ef : firstUn (missS s n) = ((s.ord ++ [n]).find? (fun x => !(missS s n).pin x)).getD 0 := rfl
      rw [List.find?_append] at ef
      cases hf : s.ord.find? (fun x => !(missS s n).pin x) with
      | some y =>
        rw [hf] at ef
        have := List.mem_of_find?_eq_some hf
        rw [e, ef] at h
        exact h this
      | none =>
        have := List.find?_eq_none.1 hf x hx
        rw [hxn x hx, hp] at this
        simp at this
    · show n ∈ s.ord ++ [n]
      simp
theorem useS_log (n : Nat) : (useS s n).S = s.S ∧ (useS s n).P = s.P ∧ (useS s n).G = s.G ∧ (useS s n).gs = s.gs ∧ (useS s n).ls = s.ls ∧ (useS s n).mo = s.mo ∧ (useS s n).dl = s.dl ∧ (useS s n).hi = (if n ∈ s.ord then s.hi + 1 else s.hi) ∧ (useS s n).mi = (if n ∈ s.ord then s.mi else s.mi + 1) ∧ (useS s n).t = s.t := by
  unfold useS
  by_cases h : n ∈ s.ord
  · rw [if_pos h, if_pos h, if_pos h]; exact ⟨rfl, rfl, rfl, rfl, rfl, rfl, rfl, rfl, rfl, rfl⟩
  · rw [if_neg h, if_neg h, if_neg h]; split <;> exact ⟨rfl, rfl, rfl, rfl, rfl, rfl, rfl, rfl, rfl, rfl⟩
theorem Agree.use (h : Agree s r) (ok : CaOk s) (he : Ext s) (n : Nat) : Agree (useS s n) (useR r n) := by
  obtain ⟨a1, a2, a3, a4, a5, a6, a7, a8, a9, _⟩ := useS_log (s := s) n
  refine ⟨by rw [a1]; exact h.S, by rw [a2]; exact h.P, by rw [a3]; exact h.G, by rw [a4]; exact h.gs, by rw [a5]; exact h.ls, by rw [a6]; exact h.mo, ?_, ?_, ?_, by rw [a7]; exact h.dd, h.pn, fun x => ?_⟩
  · show rEv r.mo r.pins (rPush r.ord n) = _
    rw [use_ord ok he n r.pins (fun x hx _ => by rw [h.pm]; simp [hx]) (fun hn => .inl (fun hm => hn ((h.pm n).1 hm).1)), h.mo, h.ord]
  · rw [a8]; show (if n ∈ r.ord then r.hi + 1 else r.hi) = _; rw [h.ord, h.hi]
  · rw [a9]; show (if n ∈ r.ord then r.mi else r.mi + 1) = _; rw [h.ord, h.mi]
  · rw [use_pins]; exact h.pm x
theorem Agree.pin (h : Agree s r) (ok : CaOk s) (he : Ext s) (n : Nat) (hl : (rPush r.pins n).length ≤ s.mo) : Agree (pin1 s n) (pinR r n) ∧ n ∈ (useS s n).ord := by
  have hfree : n ∉ s.ord → s.ord.length < s.mo ∨ ∃ x ∈ s.ord, s.pin x = false := fun hn => by
    by_cases hlt : s.ord.length < s.mo
    · exact .inl hlt
    · right
      refine Classical.byContradiction fun hno => ?_
      have hall : ∀ x, x ∈ s.ord ↔ x ∈ r.pins := fun x => by
        rw [h.pm]
        constructor
        · intro hx
          refine ⟨hx, ?_⟩
          cases hp : s.pin x with
          | true => rfl
          | false => exact absurd ⟨x, hx, hp⟩ hno
        · exact fun hx => hx.1
      have hlen := nodup_len ok.nd h.pn hall
      have hnp : n ∉ r.pins := fun hm => hn ((hall n).2 hm)
      have e : rPush r.pins n = r.pins ++ [n] := by unfold rPush; rw [filter_out hnp]
      rw [e, List.length_append, List.length_singleton] at hl
      omega
  have hin : n ∈ (useS s n).ord := use_in' n he (by
    by_cases hn : n ∈ s.ord
    · exact .inl hn
    · exact .inr (hfree hn))
  obtain ⟨a1, a2, a3, a4, a5, a6, a7, a8, a9, _⟩ := useS_log (s := s) n
  refine ⟨⟨h.S.trans a1.symm, h.P.trans a2.symm, h.G.trans a3.symm, h.gs.trans a4.symm, h.ls.trans a5.symm, h.mo.trans a6.symm, ?_, ?_, ?_, ?_, nodup_rPush h.pn n, fun x => ?_⟩, hin⟩
  · show rEv r.mo (rPush r.pins n) (rPush r.ord n) = (useS s n).ord
    by_cases hn : n ∈ s.ord
    · rw [use_ord ok he n (rPush r.pins n) (fun x hx hxn => by rw [mem_rPush, h.pm]; simp [hx, hxn]) (fun h => absurd hn h), h.mo, h.ord]
    · rcases hfree hn with hf | hf
      · have e0 : rPush s.ord n = s.ord ++ [n] := by unfold rPush; rw [filter_out hn]
        have hle : (rPush s.ord n).length ≤ s.mo := by rw [e0, List.length_append, List.length_singleton]; omega
        rw [use_ord ok he n r.pins (fun x hx _ => by rw [h.pm]; simp [hx]) (fun hn => .inl (fun hm => hn ((h.pm n).1 hm).1)), h.mo, h.ord]
        unfold rEv
        rw [if_pos hle, if_pos hle]
      · rw [use_ord ok he n (rPush r.pins n) (fun x hx hxn => by rw [mem_rPush, h.pm]; simp [hx, hxn]) (fun _ => .inr hf), h.mo, h.ord]
  · show (if n ∈ r.ord then r.hi + 1 else r.hi) = (useS s n).hi; rw [a8, h.ord, h.hi]
  · show (if n ∈ r.ord then r.mi else r.mi + 1) = (useS s n).mi; rw [a9, h.ord, h.mi]
  · show r.dd.Perm (useS s n).dl; rw [a7]; exact h.dd
  · show x ∈ rPush r.pins n ↔ x ∈ (useS s n).ord ∧ upd (useS s n).pin n true x = true
    rw [mem_rPush, h.pm]
    by_cases e : x = n
    · subst e
      rw [upd_same]
      simp [hin]
    · rw [upd_ne _ _ e, use_pins]
      simp [e]
theorem dIns_perm {q : Nat} {y : List UInt8} {l : List (Nat × List UInt8)} (h : l.Pairwise (fun a b => a.1 < b.1)) : (dIns q y l).Perm (l.filter (fun c => c.1 != q) ++ [(q, y)]) := by
  induction l with
  | nil => exact List.Perm.refl _
  | cons a l ih =>
    rw [List.pairwise_cons] at h
    unfold dIns
    by_cases h1 : q < a.1
    · rw [if_pos h1]
      have e : (a :: l).filter (fun c => c.1 != q) = a :: l := List.filter_eq_self.2 (fun x hx => by
        rw [bne_iff_ne]
        rcases List.mem_cons.1 hx with rfl | hx
        · omega
        · have := h.1 x hx; omega)
      rw [e]
      exact (List.perm_append_singleton _ _).symm
    · rw [if_neg h1]
      by_cases h2 : q = a.1
      · rw [if_pos h2, List.filter_cons_of_neg (by simp [h2])]
        have e : l.filter (fun c => c.1 != q) = l := List.filter_eq_self.2 (fun x hx => by
          rw [bne_iff_ne]; have := h.1 x hx; omega)
        rw [e]
        exact (List.perm_append_singleton _ _).symm
      · rw [if_neg h2, List.filter_cons_of_pos (by rw [bne_iff_ne]; omega)]
        exact (ih h.2).cons a
theorem Agree.write (h : Agree s r) (ok : CaOk s) (n : Nat) (y : List UInt8) : Agree (writeS s n y) (writeR r n y) := by
  refine ⟨h.S, h.P, h.G, h.gs, h.ls, h.mo, ?_, h.hi, h.mi, ?_, h.pn.filter _, fun x => ?_⟩
  · show r.ord.filter _ = s.ord.filter _; rw [h.ord]
  · exact ((h.dd.filter _).append_right _).trans (dIns_perm ok.dup).symm
  · show x ∈ r.pins.filter (fun y => y != n) ↔ x ∈ s.ord.filter (fun y => y != n) ∧ s.pin x = true
    rw [List.mem_filter, List.mem_filter, h.pm]
    constructor
    · rintro ⟨⟨h1, h2⟩, h3⟩; exact ⟨⟨h1, h3⟩, h2⟩
    · rintro ⟨⟨h1, h3⟩, h2⟩; exact ⟨⟨h1, h2⟩, h3⟩
theorem lookup_none' {l : List (Nat × List UInt8)} {x : Nat} (h : ∀ c ∈ l, c.1 ≠ x) : l.lookup x = none := by
  induction l with
  | nil => rfl
  | cons a l ih =>
    have h1 : (x == a.1) = false := by
      rw [beq_eq_false_iff_ne]; exact fun e => h a (by simp) e.symm
    rw [List.lookup_cons, h1]
    exact ih (fun c hc => h c (by simp [hc]))
theorem lookup_some' {l : List (Nat × List UInt8)} (h : (l.map (·.1)).Nodup) {x : Nat} {y : List UInt8} (hm : (x, y) ∈ l) : l.lookup x = some y := by
  induction l with
  | nil => cases hm
  | cons a l ih =>
    rw [List.map_cons, List.nodup_cons] at h
    rw [List.lookup_cons]
    rcases List.mem_cons.1 hm with e | e
    · subst e; simp
    · have hne : (x == a.1) = false := by
        rw [beq_eq_false_iff_ne]
        intro e2
        exact h.1 (e2 ▸ List.mem_map.2 ⟨(x, y), e, rfl⟩)
      rw [hne]
      exact ih h.2 e
theorem lookup_mem' {l : List (Nat × List UInt8)} {x : Nat} {y : List UInt8} (h : l.lookup x = some y) : (x, y) ∈ l := by
  induction l with
  | nil => cases h
  | cons a l ih =>
    rw [List.lookup_cons] at h
    cases hb : x == a.1 with
    | true => rw [hb] at h; cases h; have := beq_iff_eq.1 hb; subst this; simp
    | false => rw [hb] at h; exact List.mem_cons_of_mem _ (ih h)
theorem lookup_perm {l l' : List (Nat × List UInt8)} (h : l.Perm l') (hn : (l'.map (·.1)).Nodup) (x : Nat) : l.lookup x = l'.lookup x := by
  have hn2 : (l.map (·.1)).Nodup := ((h.map _).nodup_iff).2 hn
  cases e : l'.lookup x with
  | some y => exact lookup_some' hn2 (h.mem_iff.2 (lookup_mem' e))
  | none =>
    cases e2 : l.lookup x with
    | none => rfl
    | some y =>
      have := lookup_some' hn (h.mem_iff.1 (lookup_mem' e2))
      rw [e] at this
      cases this
theorem CaOk.dn (ok : CaOk s) : (s.dl.map (·.1)).Nodup := by
  unfold List.Nodup
  rw [List.pairwise_map]
  exact ok.dup.imp (fun h => by omega)
theorem Agree.look (h : Agree s r) (ok : CaOk s) (x : Nat) : r.dd.lookup x = s.dl.lookup x := lookup_perm h.dd ok.dn x
theorem Agree.read (h : Agree s r) (ok : CaOk s) (he : Ext s) (n : Nat) : Agree (readS s n) (readR r n) := by
  unfold readS readR
  rw [h.look ok]
  split
  · exact h
  · exact h.use ok he n
/-- pins with others -/
def pinL (pins l : List Nat) : List Nat := l.foldl rPush pins
theorem pinL_spec {pins : List Nat} (h : pins.Nodup) (l : List Nat) : (pinL pins l).Nodup ∧ ∀ x, x ∈ pinL pins l ↔ x ∈ pins ∨ x ∈ l := by
  induction l generalizing pins with
  | nil => exact ⟨h, fun x => by simp [pinL]⟩
  | cons a l ih =>
    obtain ⟨h1, h2⟩ := ih (nodup_rPush h a)
    refine ⟨h1, fun x => ?_⟩
    show x ∈ pinL (rPush pins a) l ↔ _
    rw [h2, mem_rPush, List.mem_cons, or_assoc]
theorem len_of_sub {l l' : List Nat} (h : l.Nodup) (h' : l'.Nodup) (hs : ∀ x ∈ l, x ∈ l') : l.length ≤ l'.length := by
  have e := nodup_len h (h'.filter (fun x => decide (x ∈ l))) (fun x => by
    rw [List.mem_filter]
    constructor
    · exact fun hx => ⟨hs x hx, by simpa using hx⟩
    · exact fun hx => by simpa using hx.2)
  rw [e]
  exact List.length_filter_le _ _
theorem pinL_first {pins : List Nat} (h : pins.Nodup) (a : Nat) (l : List Nat) : (rPush pins a).length ≤ (pinL pins (a :: l)).length :=
  len_of_sub (nodup_rPush h a) (pinL_spec h (a :: l)).1 (fun x hx => ((pinL_spec h (a :: l)).2 x).2 (by
    rcases mem_rPush.1 hx with h1 | h1
    · exact .inl h1
    · exact .inr (by simp [h1])))
/-- pins let go, one by one; none: one of them was no pin -/
def unpL : List Nat → List Int → Option (List Nat)
  | pins, [] => some pins
  | pins, x :: l => if ∃ y ∈ pins, (y : Int) = x then unpL (pins.filter (fun y : Nat => (y : Int) != x)) l else none
theorem unpL_spec (pins : List Nat) (l : List Int) : (l.Nodup ∧ ∀ x ∈ l, ∃ y ∈ pins, (y : Int) = x) ∧ unpL pins l = some (pins.filter (fun y : Nat => !l.contains (y : Int))) ∨ ¬ (l.Nodup ∧ ∀ x ∈ l, ∃ y ∈ pins, (y : Int) = x) ∧ unpL pins l = none := by
  induction l generalizing pins with
  | nil =>
    left
    refine ⟨⟨List.nodup_nil, fun x hx => by cases hx⟩, ?_⟩
    show some pins = _
    rw [List.filter_eq_self.2 (fun x _ => by simp)]
  | cons a l ih =>
    unfold unpL
    by_cases h : ∃ y ∈ pins, (y : Int) = a
    · rw [if_pos h]
      have key : (l.Nodup ∧ ∀ x ∈ l, ∃ y ∈ pins.filter (fun y : Nat => (y : Int) != a), (y : Int) = x) ↔ ((a :: l).Nodup ∧ ∀ x ∈ a :: l, ∃ y ∈ pins, (y : Int) = x) := by
        rw [List.nodup_cons]
        constructor
        · rintro ⟨h1, h2⟩
          refine ⟨⟨fun hm => ?_, h1⟩, fun x hx => ?_⟩
          · obtain ⟨y, hy, e⟩ := h2 a hm
            have := (List.mem_filter.1 hy).2
            simp [e] at this
          · rcases List.mem_cons.1 hx with rfl | hx
            · exact h
            · obtain ⟨y, hy, e⟩ := h2 x hx
              exact ⟨y, (List.mem_filter.1 hy).1, e⟩
        · rintro ⟨⟨h1, h2⟩, h3⟩
          refine ⟨h2, fun x hx => ?_⟩
          obtain ⟨y, hy, e⟩ := h3 x (List.mem_cons_of_mem _ hx)
          refine ⟨y, List.mem_filter.2 ⟨hy, ?_⟩, e⟩
          rw [bne_iff_ne, e]
          exact fun e2 => h1 (e2 ▸ hx)
      rcases ih (pins.filter (fun y : Nat => (y : Int) != a)) with ⟨h1, h2⟩ | ⟨h1, h2⟩
      · left
        refine ⟨key.1 h1, ?_⟩
        rw [h2, List.filter_filter]
        congr 1
        apply List.filter_congr
        intro y hy
        rw [List.contains_cons]
        cases l.contains (y : Int) <;> simp [bne]
      · right
        exact ⟨fun hk => h1 (key.2 hk), h2⟩
    · right
      rw [if_neg h]
      exact ⟨fun hk => h (hk.2 a (by simp)), rfl⟩
/-- pins are taken off -/
def unpS (s : PS) (l : List Int) : PS := { s with pin := fun x => s.pin x && !l.contains (x : Int) }
theorem Agree.unpin (h : Agree s r) (l : List Int) : Agree (unpS s l) { r with pins := r.pins.filter (fun y : Nat => !l.contains (y : Int)) } := by
  refine ⟨h.S, h.P, h.G, h.gs, h.ls, h.mo, h.ord, h.hi, h.mi, h.dd, h.pn.filter _, fun x => ?_⟩
  show x ∈ r.pins.filter _ ↔ x ∈ s.ord ∧ (s.pin x && !l.contains (x : Int)) = true
  rw [List.mem_filter, h.pm, Bool.and_eq_true, and_assoc]
theorem Agree.abort (h : Agree s r) : Agree { s with dl := [] } { r with dd := [] } := ⟨h.S, h.P, h.G, h.gs, h.ls, h.mo, h.ord, h.hi, h.mi, List.Perm.refl _, h.pn, h.pm⟩
end
end Go.Proofs.YthdcjepkehifoaaGreat
