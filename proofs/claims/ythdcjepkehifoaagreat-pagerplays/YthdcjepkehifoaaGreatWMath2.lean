/- What a group, and a checkpoint, leave of a log's disk. -/
import Derived.Test.YthdcjepkehifoaaGreatWMath

namespace Go.Proofs.YthdcjepkehifoaaGreat
set_option linter.unusedVariables false
set_option maxRecDepth 20000

theorem psOf_append (fs : List (List UInt8)) (a b : List (Nat × List UInt8)) : psOf fs (a ++ b) = psOf (psOf fs a) b := by
  induction a generalizing fs with
  | nil => rfl
  | cons c a ih => exact ih _
theorem psOf_far (fs : List (List UInt8)) (ls : List (Nat × List UInt8)) (k : Nat) (h : ∀ c ∈ ls, c.1 ≠ k) : (psOf fs ls)[k]? = fs[k]? := by
  induction ls generalizing fs with
  | nil => rfl
  | cons c ls ih =>
    rw [psOf, ih _ (fun c hc => h c (List.mem_cons_of_mem _ hc)), List.getElem?_set_ne (h c List.mem_cons_self)]
theorem psOf_full2 (fs : List (List UInt8)) (ls : List (Nat × List UInt8)) (hf : ∀ p ∈ fs, p.length = 256) (h : ∀ c ∈ ls, c.2.length = 256) : ∀ p ∈ psOf fs ls, p.length = 256 := by
  induction ls generalizing fs with
  | nil => exact hf
  | cons c ls ih =>
    refine ih _ (fun p hp => ?_) (fun c hc => h c (List.mem_cons_of_mem _ hc))
    rcases List.mem_or_eq_of_mem_set hp with h1 | h1
    · exact hf p h1
    · rw [h1]; exact h c List.mem_cons_self

/-- blocks one behind the other -/
def putAt : Nat → List (List UInt8) → List (Nat × List UInt8)
  | _, [] => []
  | u, x :: xs => (u, x) :: putAt (u + 1) xs
theorem putAt_length (u : Nat) (xs : List (List UInt8)) : (putAt u xs).length = xs.length := by
  induction xs generalizing u with
  | nil => rfl
  | cons x xs ih => simp [putAt, ih]
theorem putAt_snoc (u : Nat) (xs : List (List UInt8)) (x : List UInt8) : putAt u (xs ++ [x]) = putAt u xs ++ [(u + xs.length, x)] := by
  induction xs generalizing u with
  | nil => rfl
  | cons y xs ih => simp [putAt, ih]; omega
theorem putAt_mem (u : Nat) (xs : List (List UInt8)) (c : Nat × List UInt8) (h : c ∈ putAt u xs) : u ≤ c.1 ∧ c.1 < u + xs.length ∧ c.2 ∈ xs := by
  induction xs generalizing u with
  | nil => cases h
  | cons x xs ih =>
    rcases List.mem_cons.1 h with rfl | h
    · simp
    · have := ih (u + 1) h
      refine ⟨by omega, by rw [List.length_cons]; omega, List.mem_cons_of_mem _ this.2.2⟩
theorem psOf_putAt (fs : List (List UInt8)) (u : Nat) (xs : List (List UInt8)) (i : Nat) (hi : i < xs.length) (h : u + xs.length ≤ fs.length) : (psOf fs (putAt u xs))[u + i]? = some xs[i] := by
  induction xs generalizing fs u i with
  | nil => simp at hi
  | cons x xs ih =>
    rw [List.length_cons] at h
    cases i with
    | zero =>
      show (psOf (fs.set u x) (putAt (u + 1) xs))[u]? = _
      rw [psOf_far _ _ _ (fun c hc => by have := putAt_mem _ _ _ hc; omega), List.getElem?_set_self (by omega)]
      rfl
    | succ i =>
      have := ih (fs.set u x) (u + 1) i (by simpa using hi) (by rw [List.length_set]; omega)
      rw [show u + (i + 1) = u + 1 + i by omega]
      exact this

/-- the log and its disk -/
structure LogInv (ps : List (List UInt8)) (S G : Nat) (gs : List (List Nat)) (P : Nat) : Prop where
  len : ps.length = S + 1 + P
  two : 2 ≤ S
  one : 1 ≤ P
  most : ps.length ≤ 1024
  full : ∀ p ∈ ps, p.length = 256
  head : ∃ b, ps[0]? = some b ∧ HeadIn b G (usedOf gs)
  used : usedOf gs ≤ S
  groups : GroupsAt ps P gs

/-- the block of a page as it is now; the page -/
def placeOf (S : Nat) (gs : List (List Nat)) (p : Nat) : Nat := (plOf gs p).getD (S + 1 + p)
def pageNow (ps : List (List UInt8)) (S : Nat) (gs : List (List Nat)) (p : Nat) : List UInt8 := ps.getD (placeOf S gs p) []

/-- what a group writes -/
def commitWs (U G : Nat) (ns : List Nat) (xs : List (List UInt8)) : List (Nat × List UInt8) := (U + 1, indexB ns) :: (putAt (U + 2) xs ++ [(0, headB (G + 1) (U + ns.length + 1))])
theorem commitWs_length (U G : Nat) (ns : List Nat) (xs : List (List UInt8)) : (commitWs U G ns xs).length = xs.length + 2 := by simp [commitWs, putAt_length]
theorem commitWs_ok {P : Nat} (U G M : Nat) (ns : List Nat) (xs : List (List UInt8)) (hn : GoodIx P ns) (hl : xs.length = ns.length) (hx : ∀ x ∈ xs, x.length = 256) (hM : U + ns.length + 1 < M) : ∀ c ∈ commitWs U G ns xs, c.1 < M ∧ c.2.length = 256 := by
  intro c hc
  rcases List.mem_cons.1 hc with rfl | hc
  · exact ⟨by show U + 1 < M; omega, indexB_length _ (by have := hn.few; omega)⟩
  · rcases List.mem_append.1 hc with hc | hc
    · have := putAt_mem _ _ _ hc
      exact ⟨by omega, hx _ this.2.2⟩
    · rw [List.mem_singleton.1 hc]; exact ⟨by show 0 < M; omega, headB_length _ _⟩

theorem LogInv.commit {ps : List (List UInt8)} {S G : Nat} {gs : List (List Nat)} {P : Nat} (h : LogInv ps S G gs P) (ns : List Nat) (xs : List (List UInt8)) (hn : GoodIx P ns) (hl : xs.length = ns.length) (hx : ∀ x ∈ xs, x.length = 256) (hU : usedOf gs + ns.length + 1 ≤ S) (hG : G + 1 < 2 ^ 63) :
    LogInv (psOf ps (commitWs (usedOf gs) G ns xs)) S (G + 1) (gs ++ [ns]) P := by
  have hlen := h.len
  have hmost := h.most
  have hok := commitWs_ok (usedOf gs) G ps.length ns xs hn hl hx (by omega)
  have e : psOf ps (commitWs (usedOf gs) G ns xs) = (psOf (ps.set (usedOf gs + 1) (indexB ns)) (putAt (usedOf gs + 2) xs)).set 0 (headB (G + 1) (usedOf gs + ns.length + 1)) := by
    show psOf (ps.set (usedOf gs + 1) (indexB ns)) (putAt (usedOf gs + 2) xs ++ _) = _
    rw [psOf_append]; rfl
  have hU0 : ∀ k, 1 ≤ k → k ≤ usedOf gs → (psOf ps (commitWs (usedOf gs) G ns xs))[k]? = ps[k]? := by
    intro k h1 h2
    refine psOf_far _ _ _ fun c hc => ?_
    rcases List.mem_cons.1 hc with rfl | hc
    · show usedOf gs + 1 ≠ k; omega
    · rcases List.mem_append.1 hc with hc | hc
      · have := putAt_mem _ _ _ hc; omega
      · rw [List.mem_singleton.1 hc]; show 0 ≠ k; omega
  refine ⟨by rw [psOf_length]; exact h.len, h.two, h.one, by rw [psOf_length]; exact h.most, psOf_full2 _ _ h.full (fun c hc => (hok c hc).2), ?_, by rw [usedOf_snoc]; exact hU, ?_⟩
  · refine ⟨headB (G + 1) (usedOf gs + ns.length + 1), ?_, .inr ⟨by rw [usedOf_snoc], by omega, by rw [usedOf_snoc]; omega⟩⟩
    rw [e, List.getElem?_set_self]
    rw [psOf_length, List.length_set]; omega
  · refine .snoc (h.groups.keep hU0) ?_ hn
    rw [e, List.getElem?_set_ne (by omega), psOf_far _ _ _ (fun c hc => by have := putAt_mem _ _ _ hc; omega), show 1 + usedOf gs = usedOf gs + 1 by omega, List.getElem?_set_self (by omega)]

theorem getD_eq {ps ps' : List (List UInt8)} {k : Nat} (h : ps'[k]? = ps[k]?) : ps'.getD k [] = ps.getD k [] := by simp [List.getD, h]

theorem LogInv.commit_page {ps : List (List UInt8)} {S G : Nat} {gs : List (List Nat)} {P : Nat} (h : LogInv ps S G gs P) (ns : List Nat) (xs : List (List UInt8)) (hn : GoodIx P ns) (hl : xs.length = ns.length) (hU : usedOf gs + ns.length + 1 ≤ S) (p : Nat) (hp : p < P) :
    pageNow (psOf ps (commitWs (usedOf gs) G ns xs)) S (gs ++ [ns]) p = if p ∈ ns then xs.getD (ns.idxOf p) [] else pageNow ps S gs p := by
  have hlen := h.len
  have e : psOf ps (commitWs (usedOf gs) G ns xs) = (psOf (ps.set (usedOf gs + 1) (indexB ns)) (putAt (usedOf gs + 2) xs)).set 0 (headB (G + 1) (usedOf gs + ns.length + 1)) := by
    show psOf (ps.set (usedOf gs + 1) (indexB ns)) (putAt (usedOf gs + 2) xs ++ _) = _
    rw [psOf_append]; rfl
  unfold pageNow placeOf
  rw [plOf_snoc]
  unfold noted
  by_cases hm : p ∈ ns
  · rw [if_pos hm, if_pos hm]
    have hi := List.idxOf_lt_length_of_mem hm
    show (psOf ps (commitWs (usedOf gs) G ns xs)).getD (usedOf gs + 2 + ns.idxOf p) [] = _
    unfold List.getD
    rw [e, List.getElem?_set_ne (by omega), psOf_putAt _ _ _ _ (by omega) (by rw [List.length_set]; omega), List.getElem?_eq_getElem (by omega)]
  · rw [if_neg hm, if_neg hm]
    apply getD_eq
    have hq : (plOf gs p).getD (S + 1 + p) ≠ 0 ∧ ((plOf gs p).getD (S + 1 + p) ≤ usedOf gs ∨ S + 1 ≤ (plOf gs p).getD (S + 1 + p)) := by
      cases hq : plOf gs p with
      | none => exact ⟨by show S + 1 + p ≠ 0; omega, .inr (by show S + 1 ≤ S + 1 + p; omega)⟩
      | some q => have := plOf_le gs p q hq; exact ⟨by show q ≠ 0; omega, .inl this.2⟩
    refine psOf_far _ _ _ fun c hc => ?_
    rcases List.mem_cons.1 hc with rfl | hc
    · show usedOf gs + 1 ≠ _; omega
    · rcases List.mem_append.1 hc with hc | hc
      · have := putAt_mem _ _ _ hc; omega
      · rw [List.mem_singleton.1 hc]; exact fun e => hq.1 e.symm

/-- a part of a group's writes, its head not among them, changes nothing that counts -/
theorem LogInv.commit_part {ps : List (List UInt8)} {S G : Nat} {gs : List (List Nat)} {P : Nat} (h : LogInv ps S G gs P) (ns : List Nat) (xs : List (List UInt8)) (hn : GoodIx P ns) (hl : xs.length = ns.length) (hx : ∀ x ∈ xs, x.length = 256) (hU : usedOf gs + ns.length + 1 ≤ S) (k : Nat) (hk : k ≤ xs.length + 1) :
    LogInv (psOf ps ((commitWs (usedOf gs) G ns xs).take k)) S G gs P ∧ ∀ p, p < P → pageNow (psOf ps ((commitWs (usedOf gs) G ns xs).take k)) S gs p = pageNow ps S gs p := by
  have hlen := h.len
  have hok := commitWs_ok (usedOf gs) G ps.length ns xs hn hl hx (by omega)
  have e : commitWs (usedOf gs) G ns xs = ((usedOf gs + 1, indexB ns) :: putAt (usedOf gs + 2) xs) ++ [(0, headB (G + 1) (usedOf gs + ns.length + 1))] := rfl
  have ht : (commitWs (usedOf gs) G ns xs).take k = ((usedOf gs + 1, indexB ns) :: putAt (usedOf gs + 2) xs).take k := by
    rw [e, List.take_append_of_le_length (by simp [putAt_length]; exact hk)]
  have hin : ∀ c ∈ (commitWs (usedOf gs) G ns xs).take k, usedOf gs < c.1 ∧ c.1 ≤ S := by
    intro c hc
    rw [ht] at hc
    rcases List.mem_cons.1 (List.mem_of_mem_take hc) with rfl | hc
    · exact ⟨by show usedOf gs < usedOf gs + 1; omega, by show usedOf gs + 1 ≤ S; omega⟩
    · have := putAt_mem _ _ _ hc; omega
  refine ⟨⟨by rw [psOf_length]; exact h.len, h.two, h.one, by rw [psOf_length]; exact h.most, psOf_full2 _ _ h.full (fun c hc => (hok c (List.mem_of_mem_take hc)).2), ?_, h.used, ?_⟩, ?_⟩
  · obtain ⟨b, hb, hh⟩ := h.head
    exact ⟨b, (psOf_far _ _ _ fun c hc => by have := hin c hc; omega).trans hb, hh⟩
  · exact h.groups.keep fun q h1 h2 => psOf_far _ _ _ fun c hc => by have := hin c hc; omega
  · intro p hp
    apply getD_eq
    refine psOf_far _ _ _ fun c hc => ?_
    have := hin c hc
    unfold placeOf
    cases hq : plOf gs p with
    | none => show c.1 ≠ S + 1 + p; omega
    | some q => have := plOf_le gs p q hq; show c.1 ≠ q; omega

/-- the pages that groups have, rising -/
def touchedOf (P : Nat) (gs : List (List Nat)) : List Nat := (List.range P).filter fun p => (plOf gs p).isSome
/-- what a checkpoint writes to the pages' own blocks -/
def homeWs (S : Nat) (f : Nat → List UInt8) (t : List Nat) : List (Nat × List UInt8) := t.map fun n => (S + 1 + n, f n)
def checkWs (ps : List (List UInt8)) (S G : Nat) (gs : List (List Nat)) (P : Nat) : List (Nat × List UInt8) := homeWs S (pageNow ps S gs) (touchedOf P gs) ++ [(0, headB G 0)]
theorem touched_lt {P : Nat} {gs : List (List Nat)} {p : Nat} (h : p ∈ touchedOf P gs) : p < P ∧ (plOf gs p).isSome := by
  have := List.mem_filter.1 h
  exact ⟨List.mem_range.1 this.1, this.2⟩
theorem homeWs_mem {S : Nat} {f : Nat → List UInt8} {t : List Nat} {c : Nat × List UInt8} (h : c ∈ homeWs S f t) : ∃ n ∈ t, c = (S + 1 + n, f n) := by
  obtain ⟨n, hn, rfl⟩ := List.mem_map.1 h
  exact ⟨n, hn, rfl⟩
theorem placeOf_lt {ps : List (List UInt8)} {S G : Nat} {gs : List (List Nat)} {P : Nat} (h : LogInv ps S G gs P) (p : Nat) (hp : p < P) : placeOf S gs p < ps.length := by
  have := h.len
  have := h.used
  unfold placeOf
  cases hq : plOf gs p with
  | none => show S + 1 + p < _; omega
  | some q => have := plOf_le gs p q hq; show q < _; omega
theorem pageNow_length {ps : List (List UInt8)} {S G : Nat} {gs : List (List Nat)} {P : Nat} (h : LogInv ps S G gs P) (p : Nat) (hp : p < P) : (pageNow ps S gs p).length = 256 := by
  have := placeOf_lt h p hp
  unfold pageNow List.getD
  rw [List.getElem?_eq_getElem this]
  exact h.full _ (List.getElem_mem _)
theorem checkWs_ok {ps : List (List UInt8)} {S G : Nat} {gs : List (List Nat)} {P : Nat} (h : LogInv ps S G gs P) : ∀ c ∈ checkWs ps S G gs P, c.1 < ps.length ∧ c.2.length = 256 := by
  intro c hc
  have := h.len
  rcases List.mem_append.1 hc with hc | hc
  · obtain ⟨n, hn, rfl⟩ := homeWs_mem hc
    have := touched_lt hn
    exact ⟨by show S + 1 + n < _; omega, pageNow_length h n this.1⟩
  · rw [List.mem_singleton.1 hc]; exact ⟨by show 0 < _; omega, headB_length _ _⟩

/-- the pages' own blocks, written as far as one likes -/
theorem LogInv.home_part {ps : List (List UInt8)} {S G : Nat} {gs : List (List Nat)} {P : Nat} (h : LogInv ps S G gs P) (t : List Nat) (ht : ∀ n ∈ t, n < P ∧ (plOf gs n).isSome) :
    LogInv (psOf ps (homeWs S (pageNow ps S gs) t)) S G gs P ∧ ∀ p, p < P → pageNow (psOf ps (homeWs S (pageNow ps S gs) t)) S gs p = pageNow ps S gs p := by
  have hlen := h.len
  have hu := h.used
  have hin : ∀ c ∈ homeWs S (pageNow ps S gs) t, S < c.1 := by
    intro c hc
    obtain ⟨n, hn, rfl⟩ := homeWs_mem hc
    show S < S + 1 + n; omega
  refine ⟨⟨by rw [psOf_length]; exact h.len, h.two, h.one, by rw [psOf_length]; exact h.most, psOf_full2 _ _ h.full (fun c hc => ?_), ?_, h.used, ?_⟩, ?_⟩
  · obtain ⟨n, hn, rfl⟩ := homeWs_mem hc
    exact pageNow_length h n (ht n hn).1
  · obtain ⟨b, hb, hh⟩ := h.head
    exact ⟨b, (psOf_far _ _ _ fun c hc => by have := hin c hc; omega).trans hb, hh⟩
  · exact h.groups.keep fun q h1 h2 => psOf_far _ _ _ fun c hc => by have := hin c hc; omega
  · intro p hp
    apply getD_eq
    refine psOf_far _ _ _ fun c hc => ?_
    have := hin c hc
    unfold placeOf
    cases hq : plOf gs p with
    | none =>
      obtain ⟨n, hn, rfl⟩ := homeWs_mem hc
      have hs := (ht n hn).2
      show S + 1 + n ≠ S + 1 + p
      intro e
      obtain rfl : n = p := by omega
      rw [hq] at hs
      cases hs
    | some q => have := plOf_le gs p q hq; show c.1 ≠ q; omega
theorem psOf_home (ps : List (List UInt8)) (S : Nat) (f : Nat → List UInt8) (t : List Nat) (ht : ∀ n ∈ t, S + 1 + n < ps.length) (p : Nat) (hp : p ∈ t) : (psOf ps (homeWs S f t))[S + 1 + p]? = some (f p) := by
  induction t using snoc_ind with
  | h0 => cases hp
  | h1 t n ih =>
    have e : homeWs S f (t ++ [n]) = homeWs S f t ++ [(S + 1 + n, f n)] := by simp [homeWs]
    rw [e, psOf_snoc]
    by_cases h : p = n
    · subst h
      rw [List.getElem?_set_self (by rw [psOf_length]; exact ht p (by simp))]
    · rw [List.getElem?_set_ne (by show S + 1 + n ≠ _; omega)]
      exact ih (fun n hn => ht n (by simp [hn])) (by simpa [h] using hp)
theorem LogInv.check {ps : List (List UInt8)} {S G : Nat} {gs : List (List Nat)} {P : Nat} (h : LogInv ps S G gs P) (hG : G < 2 ^ 63) :
    LogInv (psOf ps (checkWs ps S G gs P)) S G [] P ∧ ∀ p, p < P → pageNow (psOf ps (checkWs ps S G gs P)) S [] p = pageNow ps S gs p := by
  have hlen := h.len
  have hp1 := h.home_part (touchedOf P gs) fun n hn => touched_lt hn
  have e : psOf ps (checkWs ps S G gs P) = (psOf ps (homeWs S (pageNow ps S gs) (touchedOf P gs))).set 0 (headB G 0) := by unfold checkWs; rw [psOf_snoc]
  refine ⟨⟨by rw [psOf_length]; exact h.len, h.two, h.one, by rw [psOf_length]; exact h.most, psOf_full2 _ _ h.full (fun c hc => (checkWs_ok h c hc).2), ?_, by rw [usedOf_nil]; omega, .nil⟩, ?_⟩
  · refine ⟨headB G 0, ?_, .inr ⟨rfl, hG, by rw [usedOf_nil]; omega⟩⟩
    rw [e, List.getElem?_set_self]
    rw [psOf_length]; omega
  · intro p hp
    show (psOf ps (checkWs ps S G gs P)).getD (S + 1 + p) [] = _
    unfold List.getD
    rw [e, List.getElem?_set_ne (by omega)]
    by_cases ht : (plOf gs p).isSome = true
    · have hm : p ∈ touchedOf P gs := List.mem_filter.2 ⟨List.mem_range.2 hp, ht⟩
      rw [psOf_home ps S (pageNow ps S gs) (touchedOf P gs) (fun n hn => by have := (touched_lt hn).1; omega) p hm]
      rfl
    · have hq : plOf gs p = none := by
        cases hq : plOf gs p with
        | none => rfl
        | some q => rw [hq] at ht; exact absurd rfl ht
      rw [psOf_far]
      · unfold pageNow placeOf List.getD; rw [hq]; rfl
      · intro c hc
        obtain ⟨n, hn, rfl⟩ := homeWs_mem hc
        have hs := (touched_lt hn).2
        show S + 1 + n ≠ S + 1 + p
        intro e
        obtain rfl : n = p := by omega
        exact ht hs
theorem homeWs_part (ps : List (List UInt8)) (S G : Nat) (gs : List (List Nat)) (P k : Nat) (hk : k ≤ (touchedOf P gs).length) : (checkWs ps S G gs P).take k = homeWs S (pageNow ps S gs) ((touchedOf P gs).take k) := by
  unfold checkWs
  rw [List.take_append_of_le_length (by simp [homeWs]; exact hk)]
  unfold homeWs
  rw [List.map_take]
theorem checkWs_length (ps : List (List UInt8)) (S G : Nat) (gs : List (List Nat)) (P : Nat) : (checkWs ps S G gs P).length = (touchedOf P gs).length + 1 := by simp [checkWs, homeWs]

/-- two lists of the same pairs, with rising numbers, are one -/
theorem sorted_uniq {α : Type} (f : α → Nat) : ∀ (l m : List α), l.Perm m → l.Pairwise (fun a b => f a < f b) → m.Pairwise (fun a b => f a < f b) → l = m := by
  intro l
  induction l with
  | nil => intro m h _ _; exact (List.nil_perm.1 h).symm
  | cons a l ih =>
    intro m h hl hm
    cases m with
    | nil => exact absurd h.length_eq (by simp)
    | cons b m =>
      have hab : a = b := by
        have ha : a ∈ b :: m := h.mem_iff.1 List.mem_cons_self
        have hb : b ∈ a :: l := h.mem_iff.2 List.mem_cons_self
        rcases List.mem_cons.1 ha with e | ha
        · exact e
        · rcases List.mem_cons.1 hb with e | hb
          · exact e.symm
          · have h1 := (List.pairwise_cons.1 hl).1 b hb
            have h2 := (List.pairwise_cons.1 hm).1 a ha
            omega
      subst hab
      rw [ih m (List.perm_cons a |>.1 h) (List.pairwise_cons.1 hl).2 (List.pairwise_cons.1 hm).2]
theorem touchedOf_up (P : Nat) (gs : List (List Nat)) : (touchedOf P gs).Pairwise (· < ·) := List.Pairwise.filter _ List.pairwise_lt_range
end Go.Proofs.YthdcjepkehifoaaGreat
