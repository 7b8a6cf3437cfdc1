/- Grants: Narrow, the mathematics. -/
import Derived.Test.YtlkbojgemcjilaaU13
namespace Go.Proofs.Ytlkbojgemcjilaa
open Go.RowKit Go.Maps
set_option linter.unusedVariables false
set_option maxRecDepth 20000
theorem ARel.put {D : DataW Unit} {l : List Co} (h : ARel D l) (a : Co) (hn : ∀ b ∈ l, ¬ b.u = a.u) : ARel (D.put (.string a.u.data.toList) (.lit (.int .u8 (a.sc : Int)))) (a :: l) := by
  refine ⟨h.tidy.put (str_lit _) _, fun v => ?_, fun b hb z => ?_, ?_⟩
  · rw [List.any_cons]
    by_cases e : v = a.u
    · subst e
      rw [has_put_same h.tidy.isMap (str_lit _)]
      simp
    · rw [has_put_other (fun e' => e (str_inj e')), h.has]
      have : ¬ a.u = v := fun e' => e e'.symm
      simp [this]
  · rcases List.mem_cons.1 hb with rfl | hb
    · rw [atKey_put_same h.tidy.isMap (str_lit _)]
    · rw [atKey_put_other (fun e' => hn b hb (str_inj e')), h.at' b hb]
  · rw [size_put h.tidy, h.has, h.size]
    have : (l.any fun b => decide (b.u = a.u)) = false := by
      rw [List.any_eq_false]
      intro b hb
      simpa using hn b hb
    rw [this]
    rfl
theorem ARel.perm {D : DataW Unit} {l l' : List Co} (h : ARel D l) (hp : l.Perm l') : ARel D l' :=
  ⟨h.tidy, fun u => by rw [h.has]; exact hp.any_eq, fun a ha => h.at' a (hp.mem_iff.2 ha), by rw [h.size, hp.length_eq]⟩
/-- a client's, a consent's scopes narrowed -/
def narC (m : Nat) (c : Cl) : Cl := ⟨c.t, c.n, c.r, c.sc &&& m⟩
def narA (m : Nat) (a : Co) : Co := ⟨a.t, a.u, a.n, a.sc &&& m⟩
def narCs (t n : ByteArray) (m : Nat) (c : Cl) : Cl := if isC t n c = true then narC m c else c
def narAs (t n : ByteArray) (m : Nat) (a : Co) : Co := if ofC t n a = true then narA m a else a
def narP (t n : ByteArray) (m b : Nat) (q : Reg) : Reg := if isC t n q.c = true then ⟨narC m q.c, q.r, b⟩ else q
def GS.nar (s : GS) (t n : ByteArray) (m : Nat) : GS := ⟨s.cs.map (narCs t n m), s.al.map (narAs t n m)⟩
theorem narCs_key (t n : ByteArray) (m : Nat) (c : Cl) : (narCs t n m c).t = c.t ∧ (narCs t n m c).n = c.n ∧ (narCs t n m c).r = c.r := by
  unfold narCs
  split <;> exact ⟨rfl, rfl, rfl⟩
theorem narAs_key (t n : ByteArray) (m : Nat) (a : Co) : (narAs t n m a).t = a.t ∧ (narAs t n m a).u = a.u ∧ (narAs t n m a).n = a.n := by
  unfold narAs
  split <;> exact ⟨rfl, rfl, rfl⟩
theorem ofC_narAs (t n : ByteArray) (m : Nat) (t' n' : ByteArray) (a : Co) : ofC t' n' (narAs t n m a) = ofC t' n' a := by
  obtain ⟨e1, _, e2⟩ := narAs_key t n m a
  unfold ofC
  rw [e1, e2]
theorem narCs_sc (t n : ByteArray) (m : Nat) (c : Cl) : (narCs t n m c).sc ≤ c.sc := by
  unfold narCs
  split
  · exact Nat.and_le_left
  · exact Nat.le_refl _
theorem narAs_sc (t n : ByteArray) (m : Nat) (a : Co) : (narAs t n m a).sc ≤ a.sc := by
  unfold narAs
  split
  · exact Nat.and_le_left
  · exact Nat.le_refl _
theorem GS.Ok.nar {s : GS} (h : s.Ok) (t n : ByteArray) (m : Nat) : (s.nar t n m).Ok := by
  refine ⟨fun c hc => ?_, ?_, fun a ha => ?_, ?_⟩
  · obtain ⟨x, hx, rfl⟩ := List.mem_map.1 hc
    obtain ⟨e1, e2, e3⟩ := narCs_key t n m x
    obtain ⟨h1, h2, h3, h4⟩ := h.names x hx
    have := narCs_sc t n m x
    rw [e1, e2, e3]
    exact ⟨h1, h2, h3, by omega⟩
  · refine List.pairwise_map.2 (h.keys.imp fun {a b} hne => ?_)
    rw [(narCs_key t n m a).1, (narCs_key t n m a).2.1, (narCs_key t n m b).1, (narCs_key t n m b).2.1]
    exact hne
  · obtain ⟨x, hx, rfl⟩ := List.mem_map.1 ha
    obtain ⟨e1, e2, e3⟩ := narAs_key t n m x
    obtain ⟨h1, h2, h3, c, hc, h4, h5, h6⟩ := h.anames x hx
    have := narAs_sc t n m x
    rw [e1, e2, e3]
    refine ⟨h1, h2, by omega, narCs t n m c, List.mem_map.2 ⟨c, hc, rfl⟩, by rw [(narCs_key t n m c).1, h4], by rw [(narCs_key t n m c).2.1, h5], ?_⟩
    have e : isC t n c = ofC t n x := by unfold isC ofC; rw [h4, h5]
    unfold narAs narCs
    rw [e]
    cases ofC t n x with
    | false => exact h6
    | true =>
      show (x.sc &&& m) &&& (c.sc &&& m) = x.sc &&& m
      rw [Nat.and_comm c.sc m, ← Nat.and_assoc, Nat.and_assoc x.sc m m, Nat.and_self, Nat.and_assoc x.sc m, Nat.and_comm m c.sc, ← Nat.and_assoc, h6]
  · refine List.pairwise_map.2 (h.akeys.imp fun {a b} hne => ?_)
    rw [(narAs_key t n m a).1, (narAs_key t n m a).2.1, (narAs_key t n m a).2.2, (narAs_key t n m b).1, (narAs_key t n m b).2.1, (narAs_key t n m b).2.2]
    exact hne
theorem nar_filter (l : List Co) (t n : ByteArray) (m : Nat) (t' n' : ByteArray) : (l.map (narAs t n m)).filter (ofC t' n') = (l.filter (ofC t' n')).map (narAs t n m) := by
  rw [List.filter_map]
  congr 1
  congr 1
  funext a
  exact ofC_narAs t n m t' n' a
theorem nar_same (l : List Co) (t n : ByteArray) (m : Nat) : (l.filter (ofC t n)).map (narAs t n m) = (l.filter (ofC t n)).map (narA m) :=
  List.map_congr_left fun a ha => by unfold narAs; rw [if_pos (List.mem_filter.1 ha).2]
theorem more_al {l L' : List Co} (hn : l.Pairwise fun a b => ¬ a.u = b.u) {left : Lit → Bool} {a : Co} (ha : a ∈ l) (hl : left (.string a.u.data.toList) = true) (hL : L'.Perm (l.filter fun y => !left (.string y.u.data.toList))) :
    (a :: L').Perm (l.filter fun y => !(left (.string y.u.data.toList) && !(Lit.string y.u.data.toList).sameKey (.string a.u.data.toList))) := by
  have hinj : ∀ y ∈ l, y.u = a.u → y = a := fun y hy e => by
    rcases Classical.em (y = a) with h9 | h9
    · exact h9
    · have : ∀ (l : List Co), l.Pairwise (fun a b => ¬ a.u = b.u) → y ∈ l → a ∈ l → False := fun l hl => by
        induction l with
        | nil => exact fun h _ => nomatch h
        | cons x l ih =>
          obtain ⟨h1, h2⟩ := List.pairwise_cons.1 hl
          intro hp hq
          rcases List.mem_cons.1 hp with rfl | hp' <;> rcases List.mem_cons.1 hq with rfl | hq'
          · exact h9 rfl
          · exact h1 a hq' e
          · exact h1 y hp' e.symm
          · exact ih h2 hp' hq'
      exact (this l hn hy ha).elim
  have hnd : l.Nodup := hn.imp fun {x y} hne e => hne (by rw [e])
  refine (hL.cons a).trans (filter_moreU hnd ha ?_ ?_ ?_).symm
  · rw [hl]; rfl
  · rw [WideAt.sameKey_self (str_lit _)]; simp
  · intro y hy hne
    rw [sameKey_ne (fun e => hne (hinj y hy (str_inj e)))]
    simp
section
variable {w w' : World} {B g mc d : Nat} {L : List Reg} {s : GS}
theorem SAt.nar (h : SAt w B g mc L s d) {p : Reg} (hp : p ∈ L) (m b k : Nat) (D : DataW Unit) {d' : Nat} (hd : d ≤ d') (hk : k ≤ d') (hb : w.heap.size ≤ b) (hB : B ≤ w.heap.size) (ho : OutJ (fun j => j = p.r) w w')
    (hr : w'.heap[p.r]? = some (.cells #[.string p.c.r, .int .u8 ((p.c.sc &&& m : Nat) : Int), .map (some b)] 71 (0, 0)))
    (hm : w'.ownsMap Try.prog 9 (plainElem Try.prog 25) b k D) (hD : ARel D ((s.al.filter (ofC p.c.t p.c.n)).map (narA m))) :
    SAt w' B g mc (L.map (narP p.c.t p.c.n m b)) (s.nar p.c.t p.c.n m) d' := by
  have hg : w.grownBy w' (some p.r) := ⟨ho.os, ho.tape, ho.output, ho.size, fun k hk hne => ho.block k hk (fun e => hne (by rw [e]))⟩
  have hone : ∀ q ∈ L, isC p.c.t p.c.n q.c = true → q = p := fun q hq e => by
    obtain ⟨e1, e2⟩ := isC_iff.1 e
    exact h.key_inj hq hp (by rw [e1, e2])
  have hself : isC p.c.t p.c.n p.c = true := isC_iff.2 ⟨rfl, rfl⟩
  have hrr : (L.map (narP p.c.t p.c.n m b)).map (·.r) = L.map (·.r) := by
    rw [List.map_map]
    refine List.map_congr_left fun q hq => ?_
    show (narP p.c.t p.c.n m b q).r = q.r
    unfold narP
    split <;> rfl
  obtain ⟨n, V, h1, h2, h3⟩ := h.cm
  have hmcr : mc ≠ p.r := (cells_ne_map h1 (h.regs p hp).2.2.1).symm
  refine ⟨h.ok.nar _ _ _, ?_, ?_, ⟨n, V, h1.kept hg (fun e => hmcr (Option.some.inj e)), by omega, ⟨h3.tidy, fun t u ht hu => ?_, fun q hq z => ?_, by rw [h3.size, List.length_map]⟩⟩, fun q hq => ?_, by rw [hrr]; exact h.ndr, ?_, h.bg, h.bm⟩
  · unfold GS.nar
    rw [← h.cs, List.map_map, List.map_map]
    refine List.map_congr_left fun q hq => ?_
    show (narP p.c.t p.c.n m b q).c = narCs p.c.t p.c.n m q.c
    unfold narP narCs
    split <;> rfl
  · refine (ho.block g h.lt (fun e => ?_)).trans h.obj
    have h9 := h.obj
    rw [e, (h.regs p hp).2.2.1] at h9
    injection h9 with h9
    injection h9 with _ h9
    exact absurd h9 (by decide)
  · rw [h3.has t u ht hu, List.any_map]
    congr 1
    funext q
    show isC t u q.c = isC t u (narP p.c.t p.c.n m b q).c
    unfold narP
    split <;> rfl
  · obtain ⟨q0, hq0, rfl⟩ := List.mem_map.1 hq
    have e1 : (narP p.c.t p.c.n m b q0).c.t = q0.c.t ∧ (narP p.c.t p.c.n m b q0).c.n = q0.c.n ∧ (narP p.c.t p.c.n m b q0).r = q0.r := by unfold narP; split <;> exact ⟨rfl, rfl, rfl⟩
    rw [e1.1, e1.2.1, e1.2.2]
    exact h3.at' q0 hq0 z
  · obtain ⟨q0, hq0, rfl⟩ := List.mem_map.1 hq
    obtain ⟨k1, k2, k3, n9, D9, k4, k5, k6⟩ := h.regs q0 hq0
    unfold narP
    by_cases e : isC p.c.t p.c.n q0.c = true
    · rw [if_pos e]
      obtain rfl := hone q0 hq0 e
      refine ⟨k1, by show B ≤ b; omega, hr, k, D, hm, hk, ?_⟩
      show ARel D ((s.nar q0.c.t q0.c.n m).al.filter (ofC q0.c.t q0.c.n))
      unfold GS.nar
      rw [nar_filter, nar_same]
      exact hD
    · rw [if_neg e]
      have hqp : q0.r ≠ p.r := fun e9 => by
        have hnd := h.ndr
        unfold List.Nodup at hnd
        rw [List.pairwise_map] at hnd
        have hne : q0 ≠ p := fun e8 => e (by rw [e8]; exact hself)
        have : ∀ (l : List Reg), l.Pairwise (fun a b => a.r ≠ b.r) → q0 ∈ l → p ∈ l → False := fun l hl => by
          induction l with
          | nil => exact fun h _ => nomatch h
          | cons x l ih =>
            obtain ⟨h1, h2⟩ := List.pairwise_cons.1 hl
            intro hp hq
            rcases List.mem_cons.1 hp with rfl | hp' <;> rcases List.mem_cons.1 hq with rfl | hq'
            · exact hne rfl
            · exact h1 p hq' e9
            · exact h1 q0 hp' e9.symm
            · exact ih h2 hp' hq'
        exact this L hnd hq0 hp
      refine ⟨k1, k2, (ho.block _ (heap_lt k3) hqp).trans k3, n9, D9, k4.kept hg (fun e9 => h.r_ne hp hq0 (Option.some.inj e9).symm), by omega, ?_⟩
      have e2 : (s.nar p.c.t p.c.n m).al.filter (ofC q0.c.t q0.c.n) = s.al.filter (ofC q0.c.t q0.c.n) := by
        unfold GS.nar
        rw [nar_filter]
        have : ∀ a ∈ s.al.filter (ofC q0.c.t q0.c.n), narAs p.c.t p.c.n m a = a := fun a ha => by
          obtain ⟨e3, e4⟩ := ofC_iff.1 (List.mem_filter.1 ha).2
          unfold narAs
          rw [if_neg (fun e5 => e (by
            obtain ⟨e6, e7⟩ := ofC_iff.1 e5
            exact isC_iff.2 ⟨by rw [← e3, e6], by rw [← e4, e7]⟩))]
        rw [List.map_congr_left this, List.map_id']
      rw [e2]
      exact k6
  · have hb9 : ∀ q ∈ L, q.m < w.heap.size := fun q hq => by
      obtain ⟨_, _, _, _, _, h4, _⟩ := h.regs q hq
      exact map_new_ne h4
    have hmc9 : mc < w.heap.size := map_new_ne h1
    have hnd := (List.nodup_cons.1 h.ndm).2
    refine List.nodup_cons.2 ⟨fun hm9 => ?_, ?_⟩
    · obtain ⟨q, hq, e⟩ := List.mem_map.1 hm9
      obtain ⟨q0, hq0, rfl⟩ := List.mem_map.1 hq
      unfold narP at e
      split at e
      · have : b = mc := e
        omega
      · exact h.m_ne hq0 e
    · rw [List.map_map]
      unfold List.Nodup at hnd ⊢
      rw [List.pairwise_map] at hnd ⊢
      have hLn := h.nodup
      refine (hnd.and hLn).imp_of_mem fun {x y} hx hy hne e => ?_
      obtain ⟨hne1, hne2⟩ := hne
      have e' : (narP p.c.t p.c.n m b x).m = (narP p.c.t p.c.n m b y).m := e
      unfold narP at e'
      have bx := hb9 x hx
      have by' := hb9 y hy
      split at e' <;> split at e'
      · rename_i c1 c2
        exact hne2 ((hone x hx c1).trans (hone y hy c2).symm)
      · have : b = y.m := e'
        omega
      · have : x.m = b := e'
        omega
      · exact hne1 e'
end
end Go.Proofs.Ytlkbojgemcjilaa
