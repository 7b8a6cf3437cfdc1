/- YthdcjepkehifoaaGreatWMath + YthdcjepkehifoaaGreatWMath2 + YthdcjepkehifoaaGreatWNum -/
import Derived.Test.YthdcjepkehifoaaGreatBFork
import Derived.Laws.Bits64b
/- A log's head and its groups as plain lists of bytes and numbers. -/
namespace Go.Proofs.YthdcjepkehifoaaGreat
set_option linter.unusedVariables false
set_option maxRecDepth 20000

/-- a number in so many bytes, the highest one first -/
def be : Nat → Nat → List UInt8
  | 0, _ => []
  | m + 1, n => be m (n / 256) ++ [UInt8.ofNat n]
theorem be_length (m n : Nat) : (be m n).length = m := by
  induction m generalizing n with
  | zero => rfl
  | succ m ih => rw [be, List.length_append, ih]; rfl
/-- the number that bytes are -/
def num (l : List UInt8) : Nat := l.foldl (fun n c => n * 256 + c.toNat) 0
theorem num_snoc (l : List UInt8) (c : UInt8) : num (l ++ [c]) = num l * 256 + c.toNat := by unfold num; rw [List.foldl_append]; rfl
theorem num_nil : num [] = 0 := rfl
theorem num_lt (l : List UInt8) : num l < 256 ^ l.length := by
  rw [← List.reverse_reverse l]
  induction l.reverse with
  | nil => decide
  | cons c r ih =>
    rw [List.reverse_cons, num_snoc, List.length_append, List.length_singleton, Nat.pow_succ]
    have := c.toNat_lt
    omega
theorem num_be (m n : Nat) (h : n < 256 ^ m) : num (be m n) = n := by
  induction m generalizing n with
  | zero => simp at h; rw [h]; rfl
  | succ m ih =>
    rw [be, num_snoc, ih _ (by rw [Nat.pow_succ] at h; omega), UInt8.toNat_ofNat']
    omega
theorem be_num (l : List UInt8) : be l.length (num l) = l := by
  rw [← List.reverse_reverse l]
  induction l.reverse with
  | nil => rfl
  | cons c r ih =>
    have hc := c.toNat_lt
    rw [List.reverse_cons, num_snoc, List.length_append, List.length_singleton, be]
    rw [show (num r.reverse * 256 + c.toNat) / 256 = num r.reverse by omega, ih]
    congr 2
    apply UInt8.toNat_inj.1
    rw [UInt8.toNat_ofNat']
    omega

/-- bytes laid over others from a place on -/
def splice (l : List UInt8) (o : Nat) (x : List UInt8) : List UInt8 := l.take o ++ (x ++ l.drop (o + x.length))
theorem splice_length (l : List UInt8) (o : Nat) (x : List UInt8) (h : o + x.length ≤ l.length) : (splice l o x).length = l.length := by
  unfold splice; rw [List.length_append, List.length_append, List.length_take, List.length_drop]; omega
theorem splice_mid (a b c x : List UInt8) (h : x.length = b.length) : splice (a ++ (b ++ c)) a.length x = a ++ (x ++ c) := by
  unfold splice
  rw [List.take_left, h, ← List.drop_drop, List.drop_left, List.drop_left]

/-- a head's block; an index block -/
def headB (G U : Nat) : List UInt8 := [72, 70] ++ (be 8 G ++ (be 2 U ++ List.replicate 244 0))
def ixB (len : Nat) (ns : List Nat) : List UInt8 := be 2 len ++ (ns.flatMap (be 2) ++ List.replicate (254 - 2 * ns.length) 0)
def indexB (ns : List Nat) : List UInt8 := ixB ns.length ns
theorem headB_length (G U : Nat) : (headB G U).length = 256 := by unfold headB; rw [List.length_append, List.length_append, List.length_append, be_length, be_length, List.length_replicate]; rfl
theorem flat_be_length (ns : List Nat) : (ns.flatMap (be 2)).length = 2 * ns.length := by
  induction ns with
  | nil => rfl
  | cons n ns ih => rw [List.flatMap_cons, List.length_append, be_length, ih, List.length_cons]; omega
theorem ixB_length (len : Nat) (ns : List Nat) (h : ns.length ≤ 127) : (ixB len ns).length = 256 := by
  unfold ixB
  rw [List.length_append, List.length_append, be_length, flat_be_length, List.length_replicate]; omega
theorem indexB_length (ns : List Nat) (h : ns.length ≤ 127) : (indexB ns).length = 256 := ixB_length _ _ h
theorem ixB_nil (len : Nat) : splice (List.replicate 256 0) 0 (be 2 len) = ixB len [] := by
  have := splice_mid [] (List.replicate 2 0) (List.replicate 254 0) (be 2 len) (by rw [be_length, List.length_replicate])
  rw [List.replicate_append_replicate] at this
  exact this
theorem ixB_snoc (len : Nat) (ns : List Nat) (n : Nat) (h : ns.length < 127) : splice (ixB len ns) (2 * (ns.length + 1)) (be 2 n) = ixB len (ns ++ [n]) := by
  have e : List.replicate (254 - 2 * ns.length) (0 : UInt8) = List.replicate 2 0 ++ List.replicate (254 - 2 * (ns.length + 1)) 0 := by
    rw [List.replicate_append_replicate]; congr 1; omega
  have := splice_mid (be 2 len ++ ns.flatMap (be 2)) (List.replicate 2 0) (List.replicate (254 - 2 * (ns.length + 1)) 0) (be 2 n) (by simp [be_length])
  rw [List.length_append, be_length, flat_be_length, ← e, show 2 + 2 * ns.length = 2 * (ns.length + 1) by omega] at this
  unfold ixB
  rw [← List.append_assoc, this]
  simp [List.flatMap_append]
/-- the numbers of an index block, as they are read -/
def numAt (b : List UInt8) (o : Nat) : Nat := num ((b.drop o).take 2)
theorem ixB_count (len : Nat) (ns : List Nat) (h : len < 65536) : numAt (ixB len ns) 0 = len := by
  unfold numAt ixB
  rw [List.drop_zero, List.take_append_of_le_length (by rw [be_length]; omega), List.take_of_length_le (by rw [be_length]; omega), num_be _ _ (by omega)]
theorem flat_be_at (ns : List Nat) (r : List UInt8) (i : Nat) (h : i < ns.length) : ((ns.flatMap (be 2) ++ r).drop (2 * i)).take 2 = be 2 ns[i] := by
  induction ns generalizing i with
  | nil => simp at h
  | cons n ns ih =>
    rw [List.flatMap_cons, List.append_assoc]
    cases i with
    | zero =>
      rw [Nat.mul_zero, List.drop_zero, List.take_append_of_le_length (by rw [be_length]; omega), List.take_of_length_le (by rw [be_length]; omega)]
      rfl
    | succ i =>
      rw [show 2 * (i + 1) = (be 2 n).length + 2 * i by rw [be_length]; omega, ← List.drop_drop, List.drop_left]
      exact ih i (by simpa using h)
theorem ixB_at (len : Nat) (ns : List Nat) (i : Nat) (h : i < ns.length) (hn : ns[i] < 65536) : numAt (ixB len ns) (2 * (i + 1)) = ns[i] := by
  unfold numAt ixB
  rw [show 2 * (i + 1) = (be 2 len).length + 2 * i by rw [be_length]; omega, ← List.drop_drop, List.drop_left, flat_be_at ns _ i h, num_be _ _ (by omega)]
theorem headB_groups (G U : Nat) (h : G < 256 ^ 8) : num (((headB G U).drop 2).take 8) = G := by
  have e : headB G U = [72, 70] ++ (be 8 G ++ (be 2 U ++ List.replicate 244 0)) := rfl
  rw [e, show (2 : Nat) = [(72 : UInt8), 70].length from rfl, List.drop_left, List.take_append_of_le_length (by rw [be_length]; omega), List.take_of_length_le (by rw [be_length]; omega), num_be _ _ h]
theorem headB_used (G U : Nat) (h : U < 65536) : numAt (headB G U) 10 = U := by
  have e : headB G U = ([72, 70] ++ be 8 G) ++ (be 2 U ++ List.replicate 244 0) := by unfold headB; rw [List.append_assoc]
  unfold numAt
  rw [e, show (10 : Nat) = ([(72 : UInt8), 70] ++ be 8 G).length by rw [List.length_append, be_length]; rfl, List.drop_left, List.take_append_of_le_length (by rw [be_length]; omega), List.take_of_length_le (by rw [be_length]; omega), num_be _ _ (by omega)]
theorem headB_zero (G U : Nat) : headB G U ≠ List.replicate 256 0 := by
  intro h
  have h1 : (headB G U).head? = some 72 := rfl
  rw [h] at h1
  cases h1

/-- a head as it lies in block 0: groups and used blocks -/
def HeadIn (b : List UInt8) (G U : Nat) : Prop := (b = List.replicate 256 0 ∧ G = 0 ∧ U = 0) ∨ (b = headB G U ∧ G < 2 ^ 63 ∧ U < 65536)
theorem HeadIn.uniq {b : List UInt8} {G U G' U' : Nat} (h : HeadIn b G U) (h' : HeadIn b G' U') : G = G' ∧ U = U' := by
  rcases h with ⟨rfl, rfl, rfl⟩ | ⟨rfl, h1, h2⟩
  · rcases h' with ⟨_, rfl, rfl⟩ | ⟨e, _, _⟩
    · exact ⟨rfl, rfl⟩
    · exact absurd e.symm (headB_zero _ _)
  · rcases h' with ⟨e, _, _⟩ | ⟨e, h3, h4⟩
    · exact absurd e (headB_zero _ _)
    · have e1 := headB_groups G U (by omega)
      rw [e, headB_groups G' U' (by omega)] at e1
      have e2 := headB_used G U h2
      rw [e, headB_used G' U' h4] at e2
      exact ⟨e1.symm, e2.symm⟩

/-- the numbers of a group -/
structure GoodIx (P : Nat) (ns : List Nat) : Prop where
  pos : 1 ≤ ns.length
  few : ns.length ≤ 100
  up : ns.Pairwise (· < ·)
  lt : ∀ n ∈ ns, n < P
theorem GoodIx.nodup {P : Nat} {ns : List Nat} (h : GoodIx P ns) : ns.Nodup := h.up.imp (fun h => by omega)

/-- where a group's pages lie -/
def noted (f : Nat → Option Nat) (first : Nat) (ns : List Nat) : Nat → Option Nat := fun p => if p ∈ ns then some (first + ns.idxOf p) else f p
theorem noted_nil (f : Nat → Option Nat) (first : Nat) : noted f first [] = f := by funext p; simp [noted]
theorem noted_snoc (f : Nat → Option Nat) (first : Nat) (ns : List Nat) (n : Nat) (h : n ∉ ns) : noted f first (ns ++ [n]) = fun p => if p = n then some (first + ns.length) else noted f first ns p := by
  funext p
  unfold noted
  by_cases e : p = n
  · subst e
    rw [if_pos (by simp), if_pos rfl, List.idxOf_append, if_neg h]
    simp
  · rw [if_neg e]
    by_cases hp : p ∈ ns
    · rw [if_pos (by simp [hp]), if_pos hp, List.idxOf_append, if_pos hp]
    · rw [if_neg (by simp [hp, e]), if_neg hp]

/-- behind groups: how many blocks are used, and where the pages are -/
def gstep (s : Nat × (Nat → Option Nat)) (ns : List Nat) : Nat × (Nat → Option Nat) := (s.1 + ns.length + 1, noted s.2 (s.1 + 2) ns)
def stOf (gs : List (List Nat)) : Nat × (Nat → Option Nat) := gs.foldl gstep (0, fun _ => none)
def usedOf (gs : List (List Nat)) : Nat := (stOf gs).1
def plOf (gs : List (List Nat)) : Nat → Option Nat := (stOf gs).2
theorem usedOf_nil : usedOf [] = 0 := rfl
theorem plOf_nil : plOf [] = fun _ => none := rfl
theorem usedOf_snoc (gs : List (List Nat)) (ns : List Nat) : usedOf (gs ++ [ns]) = usedOf gs + ns.length + 1 := by unfold usedOf stOf; rw [List.foldl_append]; rfl
theorem plOf_snoc (gs : List (List Nat)) (ns : List Nat) : plOf (gs ++ [ns]) = noted (plOf gs) (usedOf gs + 2) ns := by unfold plOf usedOf stOf; rw [List.foldl_append]; rfl
theorem snoc_ind {α : Type} {p : List α → Prop} (h0 : p []) (h1 : ∀ l a, p l → p (l ++ [a])) (l : List α) : p l := by
  rw [← List.reverse_reverse l]
  induction l.reverse with
  | nil => exact h0
  | cons a r ih => rw [List.reverse_cons]; exact h1 _ _ ih
theorem plOf_le (gs : List (List Nat)) (p q : Nat) (h : plOf gs p = some q) : 2 ≤ q ∧ q ≤ usedOf gs := by
  induction gs using snoc_ind generalizing q with
  | h0 => cases h
  | h1 gs ns ih =>
    rw [plOf_snoc] at h
    rw [usedOf_snoc]
    unfold noted at h
    split at h
    · next hp =>
      have := List.idxOf_lt_length_of_mem hp
      cases h
      omega
    · have := ih q h
      omega
theorem plOf_mem (gs : List (List Nat)) (p : Nat) : (plOf gs p).isSome = true ↔ ∃ ns ∈ gs, p ∈ ns := by
  induction gs using snoc_ind with
  | h0 => simp [plOf_nil]
  | h1 gs ns ih =>
    rw [plOf_snoc]
    unfold noted
    by_cases hp : p ∈ ns
    · rw [if_pos hp]; simp; exact .inr hp
    · rw [if_neg hp, ih]; simp [hp]

/-- groups that lie in blocks from 1 on -/
inductive GroupsAt (ps : List (List UInt8)) (P : Nat) : List (List Nat) → Prop
  | nil : GroupsAt ps P []
  | snoc {gs : List (List Nat)} {ns : List Nat} : GroupsAt ps P gs → ps[1 + usedOf gs]? = some (indexB ns) → GoodIx P ns → GroupsAt ps P (gs ++ [ns])
theorem GroupsAt.good {ps : List (List UInt8)} {P : Nat} {gs : List (List Nat)} (h : GroupsAt ps P gs) : ∀ ns ∈ gs, GoodIx P ns := by
  induction h with
  | nil => intro ns h; cases h
  | snoc _ _ hg ih =>
    intro ns hn
    rcases List.mem_append.1 hn with h | h
    · exact ih ns h
    · rw [List.mem_singleton.1 h]; exact hg
theorem GroupsAt.keep {ps ps' : List (List UInt8)} {P : Nat} {gs : List (List Nat)} (h : GroupsAt ps P gs) (hk : ∀ k, 1 ≤ k → k ≤ usedOf gs → ps'[k]? = ps[k]?) : GroupsAt ps' P gs := by
  induction h with
  | nil => exact .nil
  | snoc _ hb hg ih =>
    rw [usedOf_snoc] at hk
    exact .snoc (ih fun k h1 h2 => hk k h1 (by omega)) ((hk _ (by omega) (by have := hg.pos; omega)).trans hb) hg
theorem GroupsAt.inv {ps : List (List UInt8)} {P : Nat} {gs : List (List Nat)} {ns : List Nat} (h : GroupsAt ps P (gs ++ [ns])) : GroupsAt ps P gs ∧ ps[1 + usedOf gs]? = some (indexB ns) ∧ GoodIx P ns := by
  generalize e : gs ++ [ns] = l at h
  cases h with
  | nil => simp at e
  | snoc h1 h2 h3 =>
    have := List.append_inj' e rfl
    obtain ⟨rfl, e2⟩ := this
    cases e2
    exact ⟨h1, h2, h3⟩
theorem usedOf_append (gs hs : List (List Nat)) : usedOf (gs ++ hs) = usedOf gs + usedOf hs := by
  induction hs using snoc_ind with
  | h0 => simp [usedOf_nil]
  | h1 hs ns ih => rw [← List.append_assoc, usedOf_snoc, usedOf_snoc, ih]; omega
theorem GroupsAt.pre {ps : List (List UInt8)} {P : Nat} (gs hs : List (List Nat)) (h : GroupsAt ps P (gs ++ hs)) : GroupsAt ps P gs := by
  induction hs using snoc_ind with
  | h0 => simpa using h
  | h1 hs ns ih => rw [← List.append_assoc] at h; exact ih h.inv.1
theorem usedOf_pos (gs : List (List Nat)) (h : gs ≠ []) : 1 ≤ usedOf gs := by
  induction gs using snoc_ind with
  | h0 => exact absurd rfl h
  | h1 gs ns _ => rw [usedOf_snoc]; omega
theorem GroupsAt.next {ps : List (List UInt8)} {P : Nat} {gs hs : List (List Nat)} {ns : List Nat} (h : GroupsAt ps P (gs ++ (ns :: hs))) : ps[1 + usedOf gs]? = some (indexB ns) ∧ GoodIx P ns ∧ GroupsAt ps P (gs ++ [ns]) := by
  have h1 : GroupsAt ps P (gs ++ [ns]) := GroupsAt.pre (gs ++ [ns]) hs (by simpa using h)
  exact ⟨h1.inv.2.1, h1.inv.2.2, h1⟩
theorem indexB_inj {P : Nat} {ns ms : List Nat} (hP : P ≤ 65536) (hn : GoodIx P ns) (hm : GoodIx P ms) (h : indexB ns = indexB ms) : ns = ms := by
  have e1 := ixB_count ns.length ns (by have := hn.few; omega)
  have e2 := ixB_count ms.length ms (by have := hm.few; omega)
  unfold indexB at h
  rw [h, e2] at e1
  apply List.ext_getElem e1.symm
  intro i h1 h2
  have a1 := ixB_at ns.length ns i h1 (by have := hn.lt _ (List.getElem_mem h1); omega)
  have a2 := ixB_at ms.length ms i h2 (by have := hm.lt _ (List.getElem_mem h2); omega)
  rw [h, a2] at a1
  exact a1.symm
/-- the groups up to one number of used blocks are just one list -/
theorem GroupsAt.uniq {ps : List (List UInt8)} {P : Nat} (hP : P ≤ 65536) {gs hs : List (List Nat)} (h : GroupsAt ps P gs) (h' : GroupsAt ps P hs) (e : usedOf gs = usedOf hs) : gs = hs := by
  suffices H : ∀ (n : Nat) (a b c : List (List Nat)), a.length ≤ n → GroupsAt ps P (c ++ a) → GroupsAt ps P (c ++ b) → usedOf (c ++ a) = usedOf (c ++ b) → a = b by
    exact H gs.length gs hs [] (Nat.le_refl _) h h' e
  intro n
  induction n with
  | zero =>
    intro a b c ha h1 h2 e
    obtain rfl : a = [] := List.length_eq_zero_iff.1 (by omega)
    rw [List.append_nil, usedOf_append] at e
    cases b with
    | nil => rfl
    | cons x b => have := usedOf_pos (x :: b) (by simp); omega
  | succ n ih =>
    intro a b c ha h1 h2 e
    cases a with
    | nil =>
      rw [List.append_nil, usedOf_append] at e
      cases b with
      | nil => rfl
      | cons x b => have := usedOf_pos (x :: b) (by simp); omega
    | cons x a =>
      cases b with
      | nil =>
        rw [List.append_nil, usedOf_append] at e
        have := usedOf_pos (x :: a) (by simp); omega
      | cons y b =>
        have n1 := h1.next
        have n2 := h2.next
        have hb := n1.1.symm.trans n2.1
        obtain rfl : x = y := indexB_inj hP n1.2.1 n2.2.1 (Option.some.inj hb)
        have := ih a b (c ++ [x]) (by simpa using ha) (by simpa using h1) (by simpa using h2) (by simpa using e)
        rw [this]
end Go.Proofs.YthdcjepkehifoaaGreat

/- What a group, and a checkpoint, leave of a log's disk. -/

namespace Go.Proofs.YthdcjepkehifoaaGreat
set_option linter.unusedVariables false
set_option maxRecDepth 20000

theorem psOf_append (fs : List (List UInt8)) (a b : List (Nat × List UInt8)) : psOf fs (a ++ b) = psOf (psOf fs a) b := by
  induction a generalizing fs with
  | nil => rfl
  | cons c a ih => exact ih _
theorem psOf_far (fs : List (List UInt8)) (ls : List (Nat × List UInt8)) (k : Nat) (h : ∀ c ∈ ls, c.1 ≠ k) : (psOf fs ls)[k]? = fs[k]? := by
  induction ls generalizing fs with
  | nil => rfl
  | cons c ls ih =>
    rw [psOf, ih _ (fun c hc => h c (List.mem_cons_of_mem _ hc)), List.getElem?_set_ne (h c List.mem_cons_self)]
theorem psOf_full2 (fs : List (List UInt8)) (ls : List (Nat × List UInt8)) (hf : ∀ p ∈ fs, p.length = 256) (h : ∀ c ∈ ls, c.2.length = 256) : ∀ p ∈ psOf fs ls, p.length = 256 := by
  induction ls generalizing fs with
  | nil => exact hf
  | cons c ls ih =>
    refine ih _ (fun p hp => ?_) (fun c hc => h c (List.mem_cons_of_mem _ hc))
    rcases List.mem_or_eq_of_mem_set hp with h1 | h1
    · exact hf p h1
    · rw [h1]; exact h c List.mem_cons_self

/-- blocks one behind the other -/
def putAt : Nat → List (List UInt8) → List (Nat × List UInt8)
  | _, [] => []
  | u, x :: xs => (u, x) :: putAt (u + 1) xs
theorem putAt_length (u : Nat) (xs : List (List UInt8)) : (putAt u xs).length = xs.length := by
  induction xs generalizing u with
  | nil => rfl
  | cons x xs ih => simp [putAt, ih]
theorem putAt_snoc (u : Nat) (xs : List (List UInt8)) (x : List UInt8) : putAt u (xs ++ [x]) = putAt u xs ++ [(u + xs.length, x)] := by
  induction xs generalizing u with
  | nil => rfl
  | cons y xs ih => simp [putAt, ih]; omega
theorem putAt_mem (u : Nat) (xs : List (List UInt8)) (c : Nat × List UInt8) (h : c ∈ putAt u xs) : u ≤ c.1 ∧ c.1 < u + xs.length ∧ c.2 ∈ xs := by
  induction xs generalizing u with
  | nil => cases h
  | cons x xs ih =>
    rcases List.mem_cons.1 h with rfl | h
    · simp
    · have := ih (u + 1) h
      refine ⟨by omega, by rw [List.length_cons]; omega, List.mem_cons_of_mem _ this.2.2⟩
theorem psOf_putAt (fs : List (List UInt8)) (u : Nat) (xs : List (List UInt8)) (i : Nat) (hi : i < xs.length) (h : u + xs.length ≤ fs.length) : (psOf fs (putAt u xs))[u + i]? = some xs[i] := by
  induction xs generalizing fs u i with
  | nil => simp at hi
  | cons x xs ih =>
    rw [List.length_cons] at h
    cases i with
    | zero =>
      show (psOf (fs.set u x) (putAt (u + 1) xs))[u]? = _
      rw [psOf_far _ _ _ (fun c hc => by have := putAt_mem _ _ _ hc; omega), List.getElem?_set_self (by omega)]
      rfl
    | succ i =>
      have := ih (fs.set u x) (u + 1) i (by simpa using hi) (by rw [List.length_set]; omega)
      rw [show u + (i + 1) = u + 1 + i by omega]
      exact this

/-- the log and its disk -/
structure LogInv (ps : List (List UInt8)) (S G : Nat) (gs : List (List Nat)) (P : Nat) : Prop where
  len : ps.length = S + 1 + P
  two : 2 ≤ S
  one : 1 ≤ P
  most : ps.length ≤ 1024
  full : ∀ p ∈ ps, p.length = 256
  head : ∃ b, ps[0]? = some b ∧ HeadIn b G (usedOf gs)
  used : usedOf gs ≤ S
  groups : GroupsAt ps P gs

/-- the block of a page as it is now; the page -/
def placeOf (S : Nat) (gs : List (List Nat)) (p : Nat) : Nat := (plOf gs p).getD (S + 1 + p)
def pageNow (ps : List (List UInt8)) (S : Nat) (gs : List (List Nat)) (p : Nat) : List UInt8 := ps.getD (placeOf S gs p) []

/-- what a group writes -/
def commitWs (U G : Nat) (ns : List Nat) (xs : List (List UInt8)) : List (Nat × List UInt8) := (U + 1, indexB ns) :: (putAt (U + 2) xs ++ [(0, headB (G + 1) (U + ns.length + 1))])
theorem commitWs_length (U G : Nat) (ns : List Nat) (xs : List (List UInt8)) : (commitWs U G ns xs).length = xs.length + 2 := by simp [commitWs, putAt_length]
theorem commitWs_ok {P : Nat} (U G M : Nat) (ns : List Nat) (xs : List (List UInt8)) (hn : GoodIx P ns) (hl : xs.length = ns.length) (hx : ∀ x ∈ xs, x.length = 256) (hM : U + ns.length + 1 < M) : ∀ c ∈ commitWs U G ns xs, c.1 < M ∧ c.2.length = 256 := by
  intro c hc
  rcases List.mem_cons.1 hc with rfl | hc
  · exact ⟨by show U + 1 < M; omega, indexB_length _ (by have := hn.few; omega)⟩
  · rcases List.mem_append.1 hc with hc | hc
    · have := putAt_mem _ _ _ hc
      exact ⟨by omega, hx _ this.2.2⟩
    · rw [List.mem_singleton.1 hc]; exact ⟨by show 0 < M; omega, headB_length _ _⟩

theorem LogInv.commit {ps : List (List UInt8)} {S G : Nat} {gs : List (List Nat)} {P : Nat} (h : LogInv ps S G gs P) (ns : List Nat) (xs : List (List UInt8)) (hn : GoodIx P ns) (hl : xs.length = ns.length) (hx : ∀ x ∈ xs, x.length = 256) (hU : usedOf gs + ns.length + 1 ≤ S) (hG : G + 1 < 2 ^ 63) :
    LogInv (psOf ps (commitWs (usedOf gs) G ns xs)) S (G + 1) (gs ++ [ns]) P := by
  have hlen := h.len
  have hmost := h.most
  have hok := commitWs_ok (usedOf gs) G ps.length ns xs hn hl hx (by omega)
  have e : psOf ps (commitWs (usedOf gs) G ns xs) = (psOf (ps.set (usedOf gs + 1) (indexB ns)) (putAt (usedOf gs + 2) xs)).set 0 (headB (G + 1) (usedOf gs + ns.length + 1)) := by
    show psOf (ps.set (usedOf gs + 1) (indexB ns)) (putAt (usedOf gs + 2) xs ++ _) = _
    rw [psOf_append]; rfl
  have hU0 : ∀ k, 1 ≤ k → k ≤ usedOf gs → (psOf ps (commitWs (usedOf gs) G ns xs))[k]? = ps[k]? := by
    intro k h1 h2
    refine psOf_far _ _ _ fun c hc => ?_
    rcases List.mem_cons.1 hc with rfl | hc
    · show usedOf gs + 1 ≠ k; omega
    · rcases List.mem_append.1 hc with hc | hc
      · have := putAt_mem _ _ _ hc; omega
      · rw [List.mem_singleton.1 hc]; show 0 ≠ k; omega
  refine ⟨by rw [psOf_length]; exact h.len, h.two, h.one, by rw [psOf_length]; exact h.most, psOf_full2 _ _ h.full (fun c hc => (hok c hc).2), ?_, by rw [usedOf_snoc]; exact hU, ?_⟩
  · refine ⟨headB (G + 1) (usedOf gs + ns.length + 1), ?_, .inr ⟨by rw [usedOf_snoc], by omega, by rw [usedOf_snoc]; omega⟩⟩
    rw [e, List.getElem?_set_self]
    rw [psOf_length, List.length_set]; omega
  · refine .snoc (h.groups.keep hU0) ?_ hn
    rw [e, List.getElem?_set_ne (by omega), psOf_far _ _ _ (fun c hc => by have := putAt_mem _ _ _ hc; omega), show 1 + usedOf gs = usedOf gs + 1 by omega, List.getElem?_set_self (by omega)]

theorem getD_eq {ps ps' : List (List UInt8)} {k : Nat} (h : ps'[k]? = ps[k]?) : ps'.getD k [] = ps.getD k [] := by simp [List.getD, h]

theorem LogInv.commit_page {ps : List (List UInt8)} {S G : Nat} {gs : List (List Nat)} {P : Nat} (h : LogInv ps S G gs P) (ns : List Nat) (xs : List (List UInt8)) (hn : GoodIx P ns) (hl : xs.length = ns.length) (hU : usedOf gs + ns.length + 1 ≤ S) (p : Nat) (hp : p < P) :
    pageNow (psOf ps (commitWs (usedOf gs) G ns xs)) S (gs ++ [ns]) p = if p ∈ ns then xs.getD (ns.idxOf p) [] else pageNow ps S gs p := by
  have hlen := h.len
  have e : psOf ps (commitWs (usedOf gs) G ns xs) = (psOf (ps.set (usedOf gs + 1) (indexB ns)) (putAt (usedOf gs + 2) xs)).set 0 (headB (G + 1) (usedOf gs + ns.length + 1)) := by
    show psOf (ps.set (usedOf gs + 1) (indexB ns)) (putAt (usedOf gs + 2) xs ++ _) = _
    rw [psOf_append]; rfl
  unfold pageNow placeOf
  rw [plOf_snoc]
  unfold noted
  by_cases hm : p ∈ ns
  · rw [if_pos hm, if_pos hm]
    have hi := List.idxOf_lt_length_of_mem hm
    show (psOf ps (commitWs (usedOf gs) G ns xs)).getD (usedOf gs + 2 + ns.idxOf p) [] = _
    unfold List.getD
    rw [e, List.getElem?_set_ne (by omega), psOf_putAt _ _ _ _ (by omega) (by rw [List.length_set]; omega), List.getElem?_eq_getElem (by omega)]
  · rw [if_neg hm, if_neg hm]
    apply getD_eq
    have hq : (plOf gs p).getD (S + 1 + p) ≠ 0 ∧ ((plOf gs p).getD (S + 1 + p) ≤ usedOf gs ∨ S + 1 ≤ (plOf gs p).getD (S + 1 + p)) := by
      cases hq : plOf gs p with
      | none => exact ⟨by show S + 1 + p ≠ 0; omega, .inr (by show S + 1 ≤ S + 1 + p; omega)⟩
      | some q => have := plOf_le gs p q hq; exact ⟨by show q ≠ 0; omega, .inl this.2⟩
    refine psOf_far _ _ _ fun c hc => ?_
    rcases List.mem_cons.1 hc with rfl | hc
    · show usedOf gs + 1 ≠ _; omega
    · rcases List.mem_append.1 hc with hc | hc
      · have := putAt_mem _ _ _ hc; omega
      · rw [List.mem_singleton.1 hc]; exact fun e => hq.1 e.symm

/-- a part of a group's writes, its head not among them, changes nothing that counts -/
theorem LogInv.commit_part {ps : List (List UInt8)} {S G : Nat} {gs : List (List Nat)} {P : Nat} (h : LogInv ps S G gs P) (ns : List Nat) (xs : List (List UInt8)) (hn : GoodIx P ns) (hl : xs.length = ns.length) (hx : ∀ x ∈ xs, x.length = 256) (hU : usedOf gs + ns.length + 1 ≤ S) (k : Nat) (hk : k ≤ xs.length + 1) :
    LogInv (psOf ps ((commitWs (usedOf gs) G ns xs).take k)) S G gs P ∧ ∀ p, p < P → pageNow (psOf ps ((commitWs (usedOf gs) G ns xs).take k)) S gs p = pageNow ps S gs p := by
  have hlen := h.len
  have hok := commitWs_ok (usedOf gs) G ps.length ns xs hn hl hx (by omega)
  have e : commitWs (usedOf gs) G ns xs = ((usedOf gs + 1, indexB ns) :: putAt (usedOf gs + 2) xs) ++ [(0, headB (G + 1) (usedOf gs + ns.length + 1))] := rfl
  have ht : (commitWs (usedOf gs) G ns xs).take k = ((usedOf gs + 1, indexB ns) :: putAt (usedOf gs + 2) xs).take k := by
    rw [e, List.take_append_of_le_length (by simp [putAt_length]; exact hk)]
  have hin : ∀ c ∈ (commitWs (usedOf gs) G ns xs).take k, usedOf gs < c.1 ∧ c.1 ≤ S := by
    intro c hc
    rw [ht] at hc
    rcases List.mem_cons.1 (List.mem_of_mem_take hc) with rfl | hc
    · exact ⟨by show usedOf gs < usedOf gs + 1; omega, by show usedOf gs + 1 ≤ S; omega⟩
    · have := putAt_mem _ _ _ hc; omega
  refine ⟨⟨by rw [psOf_length]; exact h.len, h.two, h.one, by rw [psOf_length]; exact h.most, psOf_full2 _ _ h.full (fun c hc => (hok c (List.mem_of_mem_take hc)).2), ?_, h.used, ?_⟩, ?_⟩
  · obtain ⟨b, hb, hh⟩ := h.head
    exact ⟨b, (psOf_far _ _ _ fun c hc => by have := hin c hc; omega).trans hb, hh⟩
  · exact h.groups.keep fun q h1 h2 => psOf_far _ _ _ fun c hc => by have := hin c hc; omega
  · intro p hp
    apply getD_eq
    refine psOf_far _ _ _ fun c hc => ?_
    have := hin c hc
    unfold placeOf
    cases hq : plOf gs p with
    | none => show c.1 ≠ S + 1 + p; omega
    | some q => have := plOf_le gs p q hq; show c.1 ≠ q; omega

/-- the pages that groups have, rising -/
def touchedOf (P : Nat) (gs : List (List Nat)) : List Nat := (List.range P).filter fun p => (plOf gs p).isSome
/-- what a checkpoint writes to the pages' own blocks -/
def homeWs (S : Nat) (f : Nat → List UInt8) (t : List Nat) : List (Nat × List UInt8) := t.map fun n => (S + 1 + n, f n)
def checkWs (ps : List (List UInt8)) (S G : Nat) (gs : List (List Nat)) (P : Nat) : List (Nat × List UInt8) := homeWs S (pageNow ps S gs) (touchedOf P gs) ++ [(0, headB G 0)]
theorem touched_lt {P : Nat} {gs : List (List Nat)} {p : Nat} (h : p ∈ touchedOf P gs) : p < P ∧ (plOf gs p).isSome := by
  have := List.mem_filter.1 h
  exact ⟨List.mem_range.1 this.1, this.2⟩
theorem homeWs_mem {S : Nat} {f : Nat → List UInt8} {t : List Nat} {c : Nat × List UInt8} (h : c ∈ homeWs S f t) : ∃ n ∈ t, c = (S + 1 + n, f n) := by
  obtain ⟨n, hn, rfl⟩ := List.mem_map.1 h
  exact ⟨n, hn, rfl⟩
theorem placeOf_lt {ps : List (List UInt8)} {S G : Nat} {gs : List (List Nat)} {P : Nat} (h : LogInv ps S G gs P) (p : Nat) (hp : p < P) : placeOf S gs p < ps.length := by
  have := h.len
  have := h.used
  unfold placeOf
  cases hq : plOf gs p with
  | none => show S + 1 + p < _; omega
  | some q => have := plOf_le gs p q hq; show q < _; omega
theorem pageNow_length {ps : List (List UInt8)} {S G : Nat} {gs : List (List Nat)} {P : Nat} (h : LogInv ps S G gs P) (p : Nat) (hp : p < P) : (pageNow ps S gs p).length = 256 := by
  have := placeOf_lt h p hp
  unfold pageNow List.getD
  rw [List.getElem?_eq_getElem this]
  exact h.full _ (List.getElem_mem _)
theorem checkWs_ok {ps : List (List UInt8)} {S G : Nat} {gs : List (List Nat)} {P : Nat} (h : LogInv ps S G gs P) : ∀ c ∈ checkWs ps S G gs P, c.1 < ps.length ∧ c.2.length = 256 := by
  intro c hc
  have := h.len
  rcases List.mem_append.1 hc with hc | hc
  · obtain ⟨n, hn, rfl⟩ := homeWs_mem hc
    have := touched_lt hn
    exact ⟨by show S + 1 + n < _; omega, pageNow_length h n this.1⟩
  · rw [List.mem_singleton.1 hc]; exact ⟨by show 0 < _; omega, headB_length _ _⟩

/-- the pages' own blocks, written as far as one likes -/
theorem LogInv.home_part {ps : List (List UInt8)} {S G : Nat} {gs : List (List Nat)} {P : Nat} (h : LogInv ps S G gs P) (t : List Nat) (ht : ∀ n ∈ t, n < P ∧ (plOf gs n).isSome) :
    LogInv (psOf ps (homeWs S (pageNow ps S gs) t)) S G gs P ∧ ∀ p, p < P → pageNow (psOf ps (homeWs S (pageNow ps S gs) t)) S gs p = pageNow ps S gs p := by
  have hlen := h.len
  have hu := h.used
  have hin : ∀ c ∈ homeWs S (pageNow ps S gs) t, S < c.1 := by
    intro c hc
    obtain ⟨n, hn, rfl⟩ := homeWs_mem hc
    show S < S + 1 + n; omega
  refine ⟨⟨by rw [psOf_length]; exact h.len, h.two, h.one, by rw [psOf_length]; exact h.most, psOf_full2 _ _ h.full (fun c hc => ?_), ?_, h.used, ?_⟩, ?_⟩
  · obtain ⟨n, hn, rfl⟩ := homeWs_mem hc
    exact pageNow_length h n (ht n hn).1
  · obtain ⟨b, hb, hh⟩ := h.head
    exact ⟨b, (psOf_far _ _ _ fun c hc => by have := hin c hc; omega).trans hb, hh⟩
  · exact h.groups.keep fun q h1 h2 => psOf_far _ _ _ fun c hc => by have := hin c hc; omega
  · intro p hp
    apply getD_eq
    refine psOf_far _ _ _ fun c hc => ?_
    have := hin c hc
    unfold placeOf
    cases hq : plOf gs p with
    | none =>
      obtain ⟨n, hn, rfl⟩ := homeWs_mem hc
      have hs := (ht n hn).2
      show S + 1 + n ≠ S + 1 + p
      intro e
      obtain rfl : n = p := by omega
      rw [hq] at hs
      cases hs
    | some q => have := plOf_le gs p q hq; show c.1 ≠ q; omega
theorem psOf_home (ps : List (List UInt8)) (S : Nat) (f : Nat → List UInt8) (t : List Nat) (ht : ∀ n ∈ t, S + 1 + n < ps.length) (p : Nat) (hp : p ∈ t) : (psOf ps (homeWs S f t))[S + 1 + p]? = some (f p) := by
  induction t using snoc_ind with
  | h0 => cases hp
  | h1 t n ih =>
    have e : homeWs S f (t ++ [n]) = homeWs S f t ++ [(S + 1 + n, f n)] := by simp [homeWs]
    rw [e, psOf_snoc]
    by_cases h : p = n
    · subst h
      rw [List.getElem?_set_self (by rw [psOf_length]; exact ht p (by simp))]
    · rw [List.getElem?_set_ne (by show S + 1 + n ≠ _; omega)]
      exact ih (fun n hn => ht n (by simp [hn])) (by simpa [h] using hp)
theorem LogInv.check {ps : List (List UInt8)} {S G : Nat} {gs : List (List Nat)} {P : Nat} (h : LogInv ps S G gs P) (hG : G < 2 ^ 63) :
    LogInv (psOf ps (checkWs ps S G gs P)) S G [] P ∧ ∀ p, p < P → pageNow (psOf ps (checkWs ps S G gs P)) S [] p = pageNow ps S gs p := by
  have hlen := h.len
  have hp1 := h.home_part (touchedOf P gs) fun n hn => touched_lt hn
  have e : psOf ps (checkWs ps S G gs P) = (psOf ps (homeWs S (pageNow ps S gs) (touchedOf P gs))).set 0 (headB G 0) := by unfold checkWs; rw [psOf_snoc]
  refine ⟨⟨by rw [psOf_length]; exact h.len, h.two, h.one, by rw [psOf_length]; exact h.most, psOf_full2 _ _ h.full (fun c hc => (checkWs_ok h c hc).2), ?_, by rw [usedOf_nil]; omega, .nil⟩, ?_⟩
  · refine ⟨headB G 0, ?_, .inr ⟨rfl, hG, by rw [usedOf_nil]; omega⟩⟩
    rw [e, List.getElem?_set_self]
    rw [psOf_length]; omega
  · intro p hp
    show (psOf ps (checkWs ps S G gs P)).getD (S + 1 + p) [] = _
    unfold List.getD
    rw [e, List.getElem?_set_ne (by omega)]
    by_cases ht : (plOf gs p).isSome = true
    · have hm : p ∈ touchedOf P gs := List.mem_filter.2 ⟨List.mem_range.2 hp, ht⟩
      rw [psOf_home ps S (pageNow ps S gs) (touchedOf P gs) (fun n hn => by have := (touched_lt hn).1; omega) p hm]
      rfl
    · have hq : plOf gs p = none := by
        cases hq : plOf gs p with
        | none => rfl
        | some q => rw [hq] at ht; exact absurd rfl ht
      rw [psOf_far]
      · unfold pageNow placeOf List.getD; rw [hq]; rfl
      · intro c hc
        obtain ⟨n, hn, rfl⟩ := homeWs_mem hc
        have hs := (touched_lt hn).2
        show S + 1 + n ≠ S + 1 + p
        intro e
        obtain rfl : n = p := by omega
        exact ht hs
theorem homeWs_part (ps : List (List UInt8)) (S G : Nat) (gs : List (List Nat)) (P k : Nat) (hk : k ≤ (touchedOf P gs).length) : (checkWs ps S G gs P).take k = homeWs S (pageNow ps S gs) ((touchedOf P gs).take k) := by
  unfold checkWs
  rw [List.take_append_of_le_length (by simp [homeWs]; exact hk)]
  unfold homeWs
  rw [List.map_take]
theorem checkWs_length (ps : List (List UInt8)) (S G : Nat) (gs : List (List Nat)) (P : Nat) : (checkWs ps S G gs P).length = (touchedOf P gs).length + 1 := by simp [checkWs, homeWs]

/-- two lists of the same pairs, with rising numbers, are one -/
theorem sorted_uniq {α : Type} (f : α → Nat) : ∀ (l m : List α), l.Perm m → l.Pairwise (fun a b => f a < f b) → m.Pairwise (fun a b => f a < f b) → l = m := by
  intro l
  induction l with
  | nil => intro m h _ _; exact (List.nil_perm.1 h).symm
  | cons a l ih =>
    intro m h hl hm
    cases m with
    | nil => exact absurd h.length_eq (by simp)
    | cons b m =>
      have hab : a = b := by
        have ha : a ∈ b :: m := h.mem_iff.1 List.mem_cons_self
        have hb : b ∈ a :: l := h.mem_iff.2 List.mem_cons_self
        rcases List.mem_cons.1 ha with e | ha
        · exact e
        · rcases List.mem_cons.1 hb with e | hb
          · exact e.symm
          · have h1 := (List.pairwise_cons.1 hl).1 b hb
            have h2 := (List.pairwise_cons.1 hm).1 a ha
            omega
      subst hab
      rw [ih m (List.perm_cons a |>.1 h) (List.pairwise_cons.1 hl).2 (List.pairwise_cons.1 hm).2]
theorem touchedOf_up (P : Nat) (gs : List (List Nat)) : (touchedOf P gs).Pairwise (· < ·) := List.Pairwise.filter _ List.pairwise_lt_range
end Go.Proofs.YthdcjepkehifoaaGreat

/- Numbers in bytes, read and written: isZero, number, putNumber, slot of package wal, each by a contract. -/
namespace Go.Proofs.YthdcjepkehifoaaGreat
open Go.RowKit
set_option linter.unusedVariables false
set_option maxRecDepth 20000

theorem or_byte (n : Nat) (c : UInt8) (hn : n < 72057594037927936) : bits .or .u64 (IntKind.u64.wrap ((n : Int) * 256)) (IntKind.u64.wrap (c.toNat : Int)) = ((n * 256 + c.toNat : Nat) : Int) := by
  have hc := c.toNat_lt
  rw [IntKind.wrap_u64, IntKind.wrap_u64, show ((n : Int) * 256 % 18446744073709551616) = ((n * 256 : Nat) : Int) by omega, show ((c.toNat : Int) % 18446744073709551616) = ((c.toNat : Nat) : Int) by omega, bits_or_u64_nat _ _ (by omega) (by omega)]
  have := Nat.two_pow_add_eq_or_of_lt (i := 8) (b := c.toNat) (by omega) n
  rw [Nat.mul_comm n 256]
  exact congrArg _ this.symm
theorem ret_bool' {a b : Bool} (h : a = b) : Ending.returned (.bool a) = .returned (.bool b) := by rw [h]

set_option maxHeartbeats 400000 in
theorem isZero_any (x : List UInt8) (b o cap : Nat) (w : World) (hx : Bytes w (some ⟨b, o, none⟩) x) (lx : x.length ≤ 140737488351232) :
    Calls Tryz.prog 164 #[.slice (some ⟨b, o, none⟩) x.length cap] w fun e w' => e = .returned (.bool (decide (x = List.replicate x.length 0))) ∧ w' = w := by
  have Hx := hid hx
  clear hx
  go_enter Tryz.func164, Tryz.ntmps164
  go_wp2
  go_loopw [7] (fun i wr => ∃ k : Nat, k ≤ x.length ∧ i = .int .i64 k ∧ x.take k = List.replicate k 0 ∧ wr = w) (fun i _ => x.length - (intOf i).toNat)
  case atStart => exact ⟨0, Nat.zero_le _, rfl, rfl, rfl⟩
  case round =>
    obtain ⟨k, hk, rfl, hpre, rfl⟩ := hrel
    have Hpre := hid hpre
    clear hpre
    by_cases hlt : k < x.length
    · obtain ⟨b1, o1, ha, hc1⟩ := Hx.out k hlt
      cases ha
      have HX : Hid (x.take (k + 1) = x.take k ++ [x[k]]) := List.take_succ_eq_append_getElem hlt
      have HN : Hid (x[k] ≠ 0 → x ≠ List.replicate x.length 0) := fun h e => h (by rw [List.eq_replicate_iff] at e; exact e.2 _ (List.getElem_mem _))
      generalize x[k] = c1 at *
      by_cases hc : c1 = 0
      · have e1 : ((c1.toNat : Int) != 0) = false := by rw [hc]; rfl
        have H12 := hid hc
        clear hc
        go_wp2
        go_roundw
        case rel => exact ⟨k + 1, by omega, by go_num, by rw [HX.out, Hpre.out, H12.out, ← List.replicate_succ'], trivial⟩
        case measure => simp [intOf]; omega
      · have e1 : ((c1.toNat : Int) != 0) = true := by
          rw [bne_iff_ne]
          intro e
          exact hc (UInt8.toNat_inj.1 (by simpa using e))
        have Hne := hid (HN.out hc)
        clear hc
        go_wp2
        go_ret
        exact ⟨ret_bool' (by simp [Hne.out]), rfl⟩
    · go_wp2
      go_ret
      refine ⟨ret_bool' ?_, rfl⟩
      have h := Hpre.out
      have e : k = x.length := by omega
      rw [List.take_of_length_le (by omega), e] at h
      simp [← h]

set_option maxHeartbeats 400000 in
theorem number_any (x : List UInt8) (b o cap : Nat) (w : World) (hx : Bytes w (some ⟨b, o, none⟩) x) (lx : x.length ≤ 8) :
    Calls Tryz.prog 165 #[.slice (some ⟨b, o, none⟩) x.length cap] w fun e w' => e = .returned (.int .u64 (num x : Int)) ∧ w' = w := by
  have Hx := hid hx
  clear hx
  go_enter Tryz.func165, Tryz.ntmps165
  go_wp2
  go_loopw [3, 8] (fun m i wr => ∃ k : Nat, k ≤ x.length ∧ i = .int .i64 k ∧ m = .int .u64 (num (x.take k) : Int) ∧ wr = w) (fun _ i _ => x.length - (intOf i).toNat)
  case atStart => exact ⟨0, Nat.zero_le _, rfl, rfl, rfl⟩
  case round =>
    obtain ⟨k, hk, rfl, rfl, rfl⟩ := hrel
    by_cases hlt : k < x.length
    · obtain ⟨b1, o1, ha, hc1⟩ := Hx.out k hlt
      cases ha
      have HX : Hid (x.take (k + 1) = x.take k ++ [x[k]]) := List.take_succ_eq_append_getElem hlt
      have hn := num_lt (x.take k)
      generalize hnn : num (x.take k) = n at *
      have Hn := hid hnn
      clear hnn
      generalize x[k] = c1 at *
      have hn' : n < 72057594037927936 := by
        rw [List.length_take] at hn
        exact Nat.lt_of_lt_of_le hn (Nat.le_trans (Nat.pow_le_pow_right (by omega) (show min k x.length ≤ 7 by omega)) (by decide))
      have Ho := hid (or_byte n c1 hn')
      clear hn hn'
      go_wp2
      go_roundw
      case rel => exact ⟨k + 1, by omega, by go_num, by rw [HX.out, num_snoc, Hn.out, Ho.out], trivial⟩
      case measure => simp [intOf]; omega
    · go_wp2
      go_ret
      have e : k = x.length := by omega
      rw [List.take_of_length_le (by omega)]
      exact ⟨rfl, rfl⟩

/-- a byte of the row that bytes lie in -/
theorem put_step (l t : List UInt8) (o k : Nat) (c : UInt8) (r : List UInt8) (h : o + k + 1 ≤ l.length) : (l.take (o + (k + 1)) ++ (t ++ r)).set (o + k) c = l.take (o + k) ++ ((c :: t) ++ r) := by
  rw [List.set_append_left _ _ (by rw [List.length_take]; omega), show o + (k + 1) = o + k + 1 by omega, List.take_succ_eq_append_getElem (by omega), List.set_append_right _ _ (by rw [List.length_take]; omega)]
  simp only [List.length_take]
  rw [show o + k - min (o + k) l.length = 0 by omega]
  simp
theorem cellsOf_put (l : List UInt8) (k : Nat) (c : UInt8) : (cellsOf l).set k (.int .u8 (c.toNat : Int)) = cellsOf (l.set k c) := by
  unfold cellsOf
  rw [List.map_set]
theorem byte_wrap (n : Nat) : ((n : Int) % 256) = ((UInt8.ofNat n).toNat : Int) := by
  rw [UInt8.toNat_ofNat']
  omega
theorem grown_trans {a b c : World} {row : Option Nat} (h : a.grownBy b row) (k : b.grownBy c row) : a.grownBy c row :=
  ⟨k.os.trans h.os, k.tape.trans h.tape, k.output.trans h.output, Nat.le_trans h.size k.size, fun i hi hr => (k.block i (Nat.lt_of_lt_of_le hi h.size) hr).trans (h.block i hi hr)⟩

set_option maxHeartbeats 800000 in
theorem putNumber_any (l : List UInt8) (B g cap o m c x : Nat) (w : World) (hown : w.ownsRow B 5 1 (.slice (some ⟨g, 0, none⟩) l.length cap) l.length (cellsOf l)) (ho : o + m ≤ l.length) (hx : x < 18446744073709551616) :
    Calls Tryz.prog 178 #[.slice (some ⟨g, o, none⟩) m c, .int .u64 (x : Int)] w fun e w' => e = .returned (.tuple #[]) ∧ w'.ownsRow B 5 1 (.slice (some ⟨g, 0, none⟩) l.length cap) l.length (cellsOf (splice l o (be m x))) ∧ w.grownBy w' (some g) := by
  have Hown := hid hown
  have hml : l.length ≤ maxLen := by
    rcases hown.2 with ⟨h, _⟩ | ⟨_, _, _, hv, _, _, h1, h2, _⟩
    · cases h
    · cases hv; omega
  unfold maxLen at hml
  clear hown
  have Hfin : Hid (∀ (t : List UInt8) (n : Nat), be m x = be 0 n ++ t → splice l o (be m x) = l.take (o + 0) ++ (t ++ l.drop (o + m))) := fun t n e => by
    unfold splice
    rw [be_length, e]
    rfl
  go_enter Tryz.func178, Tryz.ntmps178
  go_wp2
  go_loopw [1, 4] (fun nv i wr => ∃ (k n : Nat) (t : List UInt8), k ≤ m ∧ t.length = m - k ∧ n < 18446744073709551616 ∧ nv = .int .u64 (n : Int) ∧ i = .int .i64 ((k : Int) - 1) ∧ be m x = be k n ++ t ∧ wr.ownsRow B 5 1 (.slice (some ⟨g, 0, none⟩) l.length cap) l.length (cellsOf (l.take (o + k) ++ (t ++ l.drop (o + m)))) ∧ w.grownBy wr (some g)) (fun _ i _ => (intOf i + 1).toNat)
  case atStart =>
    refine ⟨m, x, [], Nat.le_refl _, by simp, hx, rfl, rfl, by simp, ?_, World.grownBy.refl _ _⟩
    rw [List.nil_append, List.take_append_drop]
    exact Hown.out
  case round =>
    obtain ⟨k, n, t, hk, ht, hn, rfl, rfl, hbe, hown, hgr⟩ := hrel
    have Hbe := hid hbe
    have Hgr := hid hgr
    have Ht := hid ht
    clear hbe hgr ht
    by_cases hlt : 0 < k
    · obtain ⟨j, rfl⟩ : ∃ j, k = j + 1 := ⟨k - 1, by omega⟩
      have ej : ((j + 1 : Nat) : Int) - 1 = (j : Int) := by omega
      rw [ej]
      have hL : (l.take (o + (j + 1)) ++ (t ++ l.drop (o + m))).length = l.length := by
        rw [List.length_append, List.length_append, List.length_take, List.length_drop, Ht.out]; omega
      have c2 := (hown.cellAt (o + j) (by omega)).trans (cellsOf_get _ (o + j) (by rw [hL]; omega))
      have c3 := hown.frozenAt (o + j)
      have Hs := hid (hown.stored (o + j) (.int .u8 ((UInt8.ofNat n).toNat : Int)))
      rw [cellsOf_put, put_step l t o j _ _ (by omega)] at Hs
      have Hw := hid (byte_wrap n)
      clear hown
      generalize ((l.take (o + (j + 1)) ++ (t ++ l.drop (o + m)))[o + j]'(by rw [hL]; omega)).toNat = c0 at c2
      clear hL
      go_wp2
      go_roundw
      case rel =>
        refine ⟨j, n / 256, UInt8.ofNat n :: t, by omega, by rw [List.length_cons, Ht.out]; omega, by omega, ?_, by go_num, ?_, ?_, ?_⟩
        · first | rfl | (congr 1) | go_num
        · rw [Hbe.out, be, List.append_assoc]; rfl
        · rw [Hw.out]; exact Hs.out.1
        · exact grown_trans Hgr.out (by rw [Hw.out]; exact Hs.out.2)
      case measure => simp [intOf] <;> omega
    · have hk0 : k = 0 := by omega
      subst hk0
      have Hown2 := hid hown
      clear hown
      go_wp2
      go_end0
      refine ⟨rfl, ?_, Hgr.out⟩
      rw [Hfin.out t n Hbe.out]
      exact Hown2.out
end Go.Proofs.YthdcjepkehifoaaGreat
