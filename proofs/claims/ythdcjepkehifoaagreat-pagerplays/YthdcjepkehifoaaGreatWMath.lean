/- A log's head and its groups as plain lists of bytes and numbers. -/
import Derived.Test.YthdcjepkehifoaaGreatBFork
namespace Go.Proofs.YthdcjepkehifoaaGreat
set_option linter.unusedVariables false
set_option maxRecDepth 20000

/-- a number in so many bytes, the highest one first -/
def be : Nat → Nat → List UInt8
  | 0, _ => []
  | m + 1, n => be m (n / 256) ++ [UInt8.ofNat n]
theorem be_length (m n : Nat) : (be m n).length = m := by
  induction m generalizing n with
  | zero => rfl
  | succ m ih => rw [be, List.length_append, ih]; rfl
/-- the number that bytes are -/
def num (l : List UInt8) : Nat := l.foldl (fun n c => n * 256 + c.toNat) 0
theorem num_snoc (l : List UInt8) (c : UInt8) : num (l ++ [c]) = num l * 256 + c.toNat := by unfold num; rw [List.foldl_append]; rfl
theorem num_nil : num [] = 0 := rfl
theorem num_lt (l : List UInt8) : num l < 256 ^ l.length := by
  rw [← List.reverse_reverse l]
  induction l.reverse with
  | nil => decide
  | cons c r ih =>
    rw [List.reverse_cons, num_snoc, List.length_append, List.length_singleton, Nat.pow_succ]
    have := c.toNat_lt
    omega
theorem num_be (m n : Nat) (h : n < 256 ^ m) : num (be m n) = n := by
  induction m generalizing n with
  | zero => simp at h; rw [h]; rfl
  | succ m ih =>
    rw [be, num_snoc, ih _ (by rw [Nat.pow_succ] at h; omega), UInt8.toNat_ofNat']
    omega
theorem be_num (l : List UInt8) : be l.length (num l) = l := by
  rw [← List.reverse_reverse l]
  induction l.reverse with
  | nil => rfl
  | cons c r ih =>
    have hc := c.toNat_lt
    rw [List.reverse_cons, num_snoc, List.length_append, List.length_singleton, be]
    rw [show (num r.reverse * 256 + c.toNat) / 256 = num r.reverse by omega, ih]
    congr 2
    apply UInt8.toNat_inj.1
    rw [UInt8.toNat_ofNat']
    omega

/-- bytes laid over others from a place on -/
def splice (l : List UInt8) (o : Nat) (x : List UInt8) : List UInt8 := l.take o ++ (x ++ l.drop (o + x.length))
theorem splice_length (l : List UInt8) (o : Nat) (x : List UInt8) (h : o + x.length ≤ l.length) : (splice l o x).length = l.length := by
  unfold splice; rw [List.length_append, List.length_append, List.length_take, List.length_drop]; omega
theorem splice_mid (a b c x : List UInt8) (h : x.length = b.length) : splice (a ++ (b ++ c)) a.length x = a ++ (x ++ c) := by
  unfold splice
  rw [List.take_left, h, ← List.drop_drop, List.drop_left, List.drop_left]

/-- a head's block; an index block -/
def headB (G U : Nat) : List UInt8 := [72, 70] ++ (be 8 G ++ (be 2 U ++ List.replicate 244 0))
def ixB (len : Nat) (ns : List Nat) : List UInt8 := be 2 len ++ (ns.flatMap (be 2) ++ List.replicate (254 - 2 * ns.length) 0)
def indexB (ns : List Nat) : List UInt8 := ixB ns.length ns
theorem headB_length (G U : Nat) : (headB G U).length = 256 := by unfold headB; rw [List.length_append, List.length_append, List.length_append, be_length, be_length, List.length_replicate]; rfl
theorem flat_be_length (ns : List Nat) : (ns.flatMap (be 2)).length = 2 * ns.length := by
  induction ns with
  | nil => rfl
  | cons n ns ih => rw [List.flatMap_cons, List.length_append, be_length, ih, List.length_cons]; omega
theorem ixB_length (len : Nat) (ns : List Nat) (h : ns.length ≤ 127) : (ixB len ns).length = 256 := by
  unfold ixB
  rw [List.length_append, List.length_append, be_length, flat_be_length, List.length_replicate]; omega
theorem indexB_length (ns : List Nat) (h : ns.length ≤ 127) : (indexB ns).length = 256 := ixB_length _ _ h
theorem ixB_nil (len : Nat) : splice (List.replicate 256 0) 0 (be 2 len) = ixB len [] := by
  have := splice_mid [] (List.replicate 2 0) (List.replicate 254 0) (be 2 len) (by rw [be_length, List.length_replicate])
  rw [List.replicate_append_replicate] at this
  exact this
theorem ixB_snoc (len : Nat) (ns : List Nat) (n : Nat) (h : ns.length < 127) : splice (ixB len ns) (2 * (ns.length + 1)) (be 2 n) = ixB len (ns ++ [n]) := by
  have e : List.replicate (254 - 2 * ns.length) (0 : UInt8) = List.replicate 2 0 ++ List.replicate (254 - 2 * (ns.length + 1)) 0 := by
    rw [List.replicate_append_replicate]; congr 1; omega
  have := splice_mid (be 2 len ++ ns.flatMap (be 2)) (List.replicate 2 0) (List.replicate (254 - 2 * (ns.length + 1)) 0) (be 2 n) (by simp [be_length])
  rw [List.length_append, be_length, flat_be_length, ← e, show 2 + 2 * ns.length = 2 * (ns.length + 1) by omega] at this
  unfold ixB
  rw [← List.append_assoc, this]
  simp [List.flatMap_append]
/-- the numbers of an index block, as they are read -/
def numAt (b : List UInt8) (o : Nat) : Nat := num ((b.drop o).take 2)
theorem ixB_count (len : Nat) (ns : List Nat) (h : len < 65536) : numAt (ixB len ns) 0 = len := by
  unfold numAt ixB
  rw [List.drop_zero, List.take_append_of_le_length (by rw [be_length]; omega), List.take_of_length_le (by rw [be_length]; omega), num_be _ _ (by omega)]
theorem flat_be_at (ns : List Nat) (r : List UInt8) (i : Nat) (h : i < ns.length) : ((ns.flatMap (be 2) ++ r).drop (2 * i)).take 2 = be 2 ns[i] := by
  induction ns generalizing i with
  | nil => simp at h
  | cons n ns ih =>
    rw [List.flatMap_cons, List.append_assoc]
    cases i with
    | zero =>
      rw [Nat.mul_zero, List.drop_zero, List.take_append_of_le_length (by rw [be_length]; omega), List.take_of_length_le (by rw [be_length]; omega)]
      rfl
    | succ i =>
      rw [show 2 * (i + 1) = (be 2 n).length + 2 * i by rw [be_length]; omega, ← List.drop_drop, List.drop_left]
      exact ih i (by simpa using h)
theorem ixB_at (len : Nat) (ns : List Nat) (i : Nat) (h : i < ns.length) (hn : ns[i] < 65536) : numAt (ixB len ns) (2 * (i + 1)) = ns[i] := by
  unfold numAt ixB
  rw [show 2 * (i + 1) = (be 2 len).length + 2 * i by rw [be_length]; omega, ← List.drop_drop, List.drop_left, flat_be_at ns _ i h, num_be _ _ (by omega)]
theorem headB_groups (G U : Nat) (h : G < 256 ^ 8) : num (((headB G U).drop 2).take 8) = G := by
  have e : headB G U = [72, 70] ++ (be 8 G ++ (be 2 U ++ List.replicate 244 0)) := rfl
  rw [e, show (2 : Nat) = [(72 : UInt8), 70].length from rfl, List.drop_left, List.take_append_of_le_length (by rw [be_length]; omega), List.take_of_length_le (by rw [be_length]; omega), num_be _ _ h]
theorem headB_used (G U : Nat) (h : U < 65536) : numAt (headB G U) 10 = U := by
  have e : headB G U = ([72, 70] ++ be 8 G) ++ (be 2 U ++ List.replicate 244 0) := by unfold headB; rw [List.append_assoc]
  unfold numAt
  rw [e, show (10 : Nat) = ([(72 : UInt8), 70] ++ be 8 G).length by rw [List.length_append, be_length]; rfl, List.drop_left, List.take_append_of_le_length (by rw [be_length]; omega), List.take_of_length_le (by rw [be_length]; omega), num_be _ _ (by omega)]
theorem headB_zero (G U : Nat) : headB G U ≠ List.replicate 256 0 := by
  intro h
  have h1 : (headB G U).head? = some 72 := rfl
  rw [h] at h1
  cases h1

/-- a head as it lies in block 0: groups and used blocks -/
def HeadIn (b : List UInt8) (G U : Nat) : Prop := (b = List.replicate 256 0 ∧ G = 0 ∧ U = 0) ∨ (b = headB G U ∧ G < 2 ^ 63 ∧ U < 65536)
theorem HeadIn.uniq {b : List UInt8} {G U G' U' : Nat} (h : HeadIn b G U) (h' : HeadIn b G' U') : G = G' ∧ U = U' := by
  rcases h with ⟨rfl, rfl, rfl⟩ | ⟨rfl, h1, h2⟩
  · rcases h' with ⟨_, rfl, rfl⟩ | ⟨e, _, _⟩
    · exact ⟨rfl, rfl⟩
    · exact absurd e.symm (headB_zero _ _)
  · rcases h' with ⟨e, _, _⟩ | ⟨e, h3, h4⟩
    · exact absurd e (headB_zero _ _)
    · have e1 := headB_groups G U (by omega)
      rw [e, headB_groups G' U' (by omega)] at e1
      have e2 := headB_used G U h2
      rw [e, headB_used G' U' h4] at e2
      exact ⟨e1.symm, e2.symm⟩

/-- the numbers of a group -/
structure GoodIx (P : Nat) (ns : List Nat) : Prop where
  pos : 1 ≤ ns.length
  few : ns.length ≤ 100
  up : ns.Pairwise (· < ·)
  lt : ∀ n ∈ ns, n < P
theorem GoodIx.nodup {P : Nat} {ns : List Nat} (h : GoodIx P ns) : ns.Nodup := h.up.imp (fun h => by omega)

/-- where a group's pages lie -/
def noted (f : Nat → Option Nat) (first : Nat) (ns : List Nat) : Nat → Option Nat := fun p => if p ∈ ns then some (first + ns.idxOf p) else f p
theorem noted_nil (f : Nat → Option Nat) (first : Nat) : noted f first [] = f := by funext p; simp [noted]
theorem noted_snoc (f : Nat → Option Nat) (first : Nat) (ns : List Nat) (n : Nat) (h : n ∉ ns) : noted f first (ns ++ [n]) = fun p => if p = n then some (first + ns.length) else noted f first ns p := by
  funext p
  unfold noted
  by_cases e : p = n
  · subst e
    rw [if_pos (by simp), if_pos rfl, List.idxOf_append, if_neg h]
    simp
  · rw [if_neg e]
    by_cases hp : p ∈ ns
    · rw [if_pos (by simp [hp]), if_pos hp, List.idxOf_append, if_pos hp]
    · rw [if_neg (by simp [hp, e]), if_neg hp]

/-- behind groups: how many blocks are used, and where the pages are -/
def gstep (s : Nat × (Nat → Option Nat)) (ns : List Nat) : Nat × (Nat → Option Nat) := (s.1 + ns.length + 1, noted s.2 (s.1 + 2) ns)
def stOf (gs : List (List Nat)) : Nat × (Nat → Option Nat) := gs.foldl gstep (0, fun _ => none)
def usedOf (gs : List (List Nat)) : Nat := (stOf gs).1
def plOf (gs : List (List Nat)) : Nat → Option Nat := (stOf gs).2
theorem usedOf_nil : usedOf [] = 0 := rfl
theorem plOf_nil : plOf [] = fun _ => none := rfl
theorem usedOf_snoc (gs : List (List Nat)) (ns : List Nat) : usedOf (gs ++ [ns]) = usedOf gs + ns.length + 1 := by unfold usedOf stOf; rw [List.foldl_append]; rfl
theorem plOf_snoc (gs : List (List Nat)) (ns : List Nat) : plOf (gs ++ [ns]) = noted (plOf gs) (usedOf gs + 2) ns := by unfold plOf usedOf stOf; rw [List.foldl_append]; rfl
theorem snoc_ind {α : Type} {p : List α → Prop} (h0 : p []) (h1 : ∀ l a, p l → p (l ++ [a])) (l : List α) : p l := by
  rw [← List.reverse_reverse l]
  induction l.reverse with
  | nil => exact h0
  | cons a r ih => rw [List.reverse_cons]; exact h1 _ _ ih
theorem plOf_le (gs : List (List Nat)) (p q : Nat) (h : plOf gs p = some q) : 2 ≤ q ∧ q ≤ usedOf gs := by
  induction gs using snoc_ind generalizing q with
  | h0 => cases h
  | h1 gs ns ih =>
    rw [plOf_snoc] at h
    rw [usedOf_snoc]
    unfold noted at h
    split at h
    · next hp =>
      have := List.idxOf_lt_length_of_mem hp
      cases h
      omega
    · have := ih q h
      omega
theorem plOf_mem (gs : List (List Nat)) (p : Nat) : (plOf gs p).isSome = true ↔ ∃ ns ∈ gs, p ∈ ns := by
  induction gs using snoc_ind with
  | h0 => simp [plOf_nil]
  | h1 gs ns ih =>
    rw [plOf_snoc]
    unfold noted
    by_cases hp : p ∈ ns
    · rw [if_pos hp]; simp; exact .inr hp
    · rw [if_neg hp, ih]; simp [hp]

/-- groups that lie in blocks from 1 on -/
inductive GroupsAt (ps : List (List UInt8)) (P : Nat) : List (List Nat) → Prop
  | nil : GroupsAt ps P []
  | snoc {gs : List (List Nat)} {ns : List Nat} : GroupsAt ps P gs → ps[1 + usedOf gs]? = some (indexB ns) → GoodIx P ns → GroupsAt ps P (gs ++ [ns])
theorem GroupsAt.good {ps : List (List UInt8)} {P : Nat} {gs : List (List Nat)} (h : GroupsAt ps P gs) : ∀ ns ∈ gs, GoodIx P ns := by
  induction h with
  | nil => intro ns h; cases h
  | snoc _ _ hg ih =>
    intro ns hn
    rcases List.mem_append.1 hn with h | h
    · exact ih ns h
    · rw [List.mem_singleton.1 h]; exact hg
theorem GroupsAt.keep {ps ps' : List (List UInt8)} {P : Nat} {gs : List (List Nat)} (h : GroupsAt ps P gs) (hk : ∀ k, 1 ≤ k → k ≤ usedOf gs → ps'[k]? = ps[k]?) : GroupsAt ps' P gs := by
  induction h with
  | nil => exact .nil
  | snoc _ hb hg ih =>
    rw [usedOf_snoc] at hk
    exact .snoc (ih fun k h1 h2 => hk k h1 (by omega)) ((hk _ (by omega) (by have := hg.pos; omega)).trans hb) hg
theorem GroupsAt.inv {ps : List (List UInt8)} {P : Nat} {gs : List (List Nat)} {ns : List Nat} (h : GroupsAt ps P (gs ++ [ns])) : GroupsAt ps P gs ∧ ps[1 + usedOf gs]? = some (indexB ns) ∧ GoodIx P ns := by
  generalize e : gs ++ [ns] = l at h
  cases h with
  | nil => simp at e
  | snoc h1 h2 h3 =>
    have := List.append_inj' e rfl
    obtain ⟨rfl, e2⟩ := this
    cases e2
    exact ⟨h1, h2, h3⟩
theorem usedOf_append (gs hs : List (List Nat)) : usedOf (gs ++ hs) = usedOf gs + usedOf hs := by
  induction hs using snoc_ind with
  | h0 => simp [usedOf_nil]
  | h1 hs ns ih => rw [← List.append_assoc, usedOf_snoc, usedOf_snoc, ih]; omega
theorem GroupsAt.pre {ps : List (List UInt8)} {P : Nat} (gs hs : List (List Nat)) (h : GroupsAt ps P (gs ++ hs)) : GroupsAt ps P gs := by
  induction hs using snoc_ind with
  | h0 => simpa using h
  | h1 hs ns ih => rw [← List.append_assoc] at h; exact ih h.inv.1
theorem usedOf_pos (gs : List (List Nat)) (h : gs ≠ []) : 1 ≤ usedOf gs := by
  induction gs using snoc_ind with
  | h0 => exact absurd rfl h
  | h1 gs ns _ => rw [usedOf_snoc]; omega
theorem GroupsAt.next {ps : List (List UInt8)} {P : Nat} {gs hs : List (List Nat)} {ns : List Nat} (h : GroupsAt ps P (gs ++ (ns :: hs))) : ps[1 + usedOf gs]? = some (indexB ns) ∧ GoodIx P ns ∧ GroupsAt ps P (gs ++ [ns]) := by
  have h1 : GroupsAt ps P (gs ++ [ns]) := GroupsAt.pre (gs ++ [ns]) hs (by simpa using h)
  exact ⟨h1.inv.2.1, h1.inv.2.2, h1⟩
theorem indexB_inj {P : Nat} {ns ms : List Nat} (hP : P ≤ 65536) (hn : GoodIx P ns) (hm : GoodIx P ms) (h : indexB ns = indexB ms) : ns = ms := by
  have e1 := ixB_count ns.length ns (by have := hn.few; omega)
  have e2 := ixB_count ms.length ms (by have := hm.few; omega)
  unfold indexB at h
  rw [h, e2] at e1
  apply List.ext_getElem e1.symm
  intro i h1 h2
  have a1 := ixB_at ns.length ns i h1 (by have := hn.lt _ (List.getElem_mem h1); omega)
  have a2 := ixB_at ms.length ms i h2 (by have := hm.lt _ (List.getElem_mem h2); omega)
  rw [h, a2] at a1
  exact a1.symm
/-- the groups up to one number of used blocks are just one list -/
theorem GroupsAt.uniq {ps : List (List UInt8)} {P : Nat} (hP : P ≤ 65536) {gs hs : List (List Nat)} (h : GroupsAt ps P gs) (h' : GroupsAt ps P hs) (e : usedOf gs = usedOf hs) : gs = hs := by
  suffices H : ∀ (n : Nat) (a b c : List (List Nat)), a.length ≤ n → GroupsAt ps P (c ++ a) → GroupsAt ps P (c ++ b) → usedOf (c ++ a) = usedOf (c ++ b) → a = b by
    exact H gs.length gs hs [] (Nat.le_refl _) h h' e
  intro n
  induction n with
  | zero =>
    intro a b c ha h1 h2 e
    obtain rfl : a = [] := List.length_eq_zero_iff.1 (by omega)
    rw [List.append_nil, usedOf_append] at e
    cases b with
    | nil => rfl
    | cons x b => have := usedOf_pos (x :: b) (by simp); omega
  | succ n ih =>
    intro a b c ha h1 h2 e
    cases a with
    | nil =>
      rw [List.append_nil, usedOf_append] at e
      cases b with
      | nil => rfl
      | cons x b => have := usedOf_pos (x :: b) (by simp); omega
    | cons x a =>
      cases b with
      | nil =>
        rw [List.append_nil, usedOf_append] at e
        have := usedOf_pos (x :: a) (by simp); omega
      | cons y b =>
        have n1 := h1.next
        have n2 := h2.next
        have hb := n1.1.symm.trans n2.1
        obtain rfl : x = y := indexB_inj hP n1.2.1 n2.2.1 (Option.some.inj hb)
        have := ih a b (c ++ [x]) (by simpa using ha) (by simpa using h1) (by simpa using h2) (by simpa using e)
        rw [this]
end Go.Proofs.YthdcjepkehifoaaGreat
