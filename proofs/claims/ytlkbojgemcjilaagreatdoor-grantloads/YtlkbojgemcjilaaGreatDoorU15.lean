/- YtlkbojgemcjilaaGreatDoorU14 + YtlkbojgemcjilaaGreatDoorU15 -/
import Derived.Test.YtlkbojgemcjilaaGreatDoorU13
/- Grants: Narrow, the mathematics. -/
namespace Go.Proofs.YtlkbojgemcjilaaGreatDoor
open Go.RowKit Go.Maps
set_option linter.unusedVariables false
set_option maxRecDepth 20000
theorem ARel.put {D : DataW Unit} {l : List Co} (h : ARel D l) (a : Co) (hn : ∀ b ∈ l, ¬ b.u = a.u) : ARel (D.put (.string a.u.data.toList) (.lit (.int .u8 (a.sc : Int)))) (a :: l) := by
  refine ⟨h.tidy.put (str_lit _) _, fun v => ?_, fun b hb z => ?_, ?_⟩
  · rw [List.any_cons]
    by_cases e : v = a.u
    · subst e
      rw [has_put_same h.tidy.isMap (str_lit _)]
      simp
    · rw [has_put_other (fun e' => e (str_inj e')), h.has]
      have : ¬ a.u = v := fun e' => e e'.symm
      simp [this]
  · rcases List.mem_cons.1 hb with rfl | hb
    · rw [atKey_put_same h.tidy.isMap (str_lit _)]
    · rw [atKey_put_other (fun e' => hn b hb (str_inj e')), h.at' b hb]
  · rw [size_put h.tidy, h.has, h.size]
    have : (l.any fun b => decide (b.u = a.u)) = false := by
      rw [List.any_eq_false]
      intro b hb
      simpa using hn b hb
    rw [this]
    rfl
theorem ARel.perm {D : DataW Unit} {l l' : List Co} (h : ARel D l) (hp : l.Perm l') : ARel D l' :=
  ⟨h.tidy, fun u => by rw [h.has]; exact hp.any_eq, fun a ha => h.at' a (hp.mem_iff.2 ha), by rw [h.size, hp.length_eq]⟩
/-- a client's, a consent's scopes narrowed -/
def narC (m : Nat) (c : Cl) : Cl := ⟨c.t, c.n, c.r, c.sc &&& m⟩
def narA (m : Nat) (a : Co) : Co := ⟨a.t, a.u, a.n, a.sc &&& m⟩
def narCs (t n : ByteArray) (m : Nat) (c : Cl) : Cl := if isC t n c = true then narC m c else c
def narAs (t n : ByteArray) (m : Nat) (a : Co) : Co := if ofC t n a = true then narA m a else a
def narP (t n : ByteArray) (m b : Nat) (q : Reg) : Reg := if isC t n q.c = true then ⟨narC m q.c, q.r, b⟩ else q
def GS.nar (s : GS) (t n : ByteArray) (m : Nat) : GS := ⟨s.cs.map (narCs t n m), s.al.map (narAs t n m)⟩
theorem narCs_key (t n : ByteArray) (m : Nat) (c : Cl) : (narCs t n m c).t = c.t ∧ (narCs t n m c).n = c.n ∧ (narCs t n m c).r = c.r := by
  unfold narCs
  split <;> exact ⟨rfl, rfl, rfl⟩
theorem narAs_key (t n : ByteArray) (m : Nat) (a : Co) : (narAs t n m a).t = a.t ∧ (narAs t n m a).u = a.u ∧ (narAs t n m a).n = a.n := by
  unfold narAs
  split <;> exact ⟨rfl, rfl, rfl⟩
theorem ofC_narAs (t n : ByteArray) (m : Nat) (t' n' : ByteArray) (a : Co) : ofC t' n' (narAs t n m a) = ofC t' n' a := by
  obtain ⟨e1, _, e2⟩ := narAs_key t n m a
  unfold ofC
  rw [e1, e2]
theorem narCs_sc (t n : ByteArray) (m : Nat) (c : Cl) : (narCs t n m c).sc ≤ c.sc := by
  unfold narCs
  split
  · exact Nat.and_le_left
  · exact Nat.le_refl _
theorem narAs_sc (t n : ByteArray) (m : Nat) (a : Co) : (narAs t n m a).sc ≤ a.sc := by
  unfold narAs
  split
  · exact Nat.and_le_left
  · exact Nat.le_refl _
theorem GS.Ok.nar {s : GS} (h : s.Ok) (t n : ByteArray) (m : Nat) : (s.nar t n m).Ok := by
  refine ⟨fun c hc => ?_, ?_, fun a ha => ?_, ?_⟩
  · obtain ⟨x, hx, rfl⟩ := List.mem_map.1 hc
    obtain ⟨e1, e2, e3⟩ := narCs_key t n m x
    obtain ⟨h1, h2, h3, h4⟩ := h.names x hx
    have := narCs_sc t n m x
    rw [e1, e2, e3]
    exact ⟨h1, h2, h3, by omega⟩
  · refine List.pairwise_map.2 (h.keys.imp fun {a b} hne => ?_)
    rw [(narCs_key t n m a).1, (narCs_key t n m a).2.1, (narCs_key t n m b).1, (narCs_key t n m b).2.1]
    exact hne
  · obtain ⟨x, hx, rfl⟩ := List.mem_map.1 ha
    obtain ⟨e1, e2, e3⟩ := narAs_key t n m x
    obtain ⟨h1, h2, h3, c, hc, h4, h5, h6⟩ := h.anames x hx
    have := narAs_sc t n m x
    rw [e1, e2, e3]
    refine ⟨h1, h2, by omega, narCs t n m c, List.mem_map.2 ⟨c, hc, rfl⟩, by rw [(narCs_key t n m c).1, h4], by rw [(narCs_key t n m c).2.1, h5], ?_⟩
    have e : isC t n c = ofC t n x := by unfold isC ofC; rw [h4, h5]
    unfold narAs narCs
    rw [e]
    cases ofC t n x with
    | false => exact h6
    | true =>
      show (x.sc &&& m) &&& (c.sc &&& m) = x.sc &&& m
      rw [Nat.and_comm c.sc m, ← Nat.and_assoc, Nat.and_assoc x.sc m m, Nat.and_self, Nat.and_assoc x.sc m, Nat.and_comm m c.sc, ← Nat.and_assoc, h6]
  · refine List.pairwise_map.2 (h.akeys.imp fun {a b} hne => ?_)
    rw [(narAs_key t n m a).1, (narAs_key t n m a).2.1, (narAs_key t n m a).2.2, (narAs_key t n m b).1, (narAs_key t n m b).2.1, (narAs_key t n m b).2.2]
    exact hne
theorem nar_filter (l : List Co) (t n : ByteArray) (m : Nat) (t' n' : ByteArray) : (l.map (narAs t n m)).filter (ofC t' n') = (l.filter (ofC t' n')).map (narAs t n m) := by
  rw [List.filter_map]
  congr 1
  congr 1
  funext a
  exact ofC_narAs t n m t' n' a
theorem nar_same (l : List Co) (t n : ByteArray) (m : Nat) : (l.filter (ofC t n)).map (narAs t n m) = (l.filter (ofC t n)).map (narA m) :=
  List.map_congr_left fun a ha => by unfold narAs; rw [if_pos (List.mem_filter.1 ha).2]
theorem more_al {l L' : List Co} (hn : l.Pairwise fun a b => ¬ a.u = b.u) {left : Lit → Bool} {a : Co} (ha : a ∈ l) (hl : left (.string a.u.data.toList) = true) (hL : L'.Perm (l.filter fun y => !left (.string y.u.data.toList))) :
    (a :: L').Perm (l.filter fun y => !(left (.string y.u.data.toList) && !(Lit.string y.u.data.toList).sameKey (.string a.u.data.toList))) := by
  have hinj : ∀ y ∈ l, y.u = a.u → y = a := fun y hy e => by
    rcases Classical.em (y = a) with h9 | h9
    · exact h9
    · have : ∀ (l : List Co), l.Pairwise (fun a b => ¬ a.u = b.u) → y ∈ l → a ∈ l → False := fun l hl => by
        induction l with
        | nil => exact fun h _ => nomatch h
        | cons x l ih =>
          obtain ⟨h1, h2⟩ := List.pairwise_cons.1 hl
          intro hp hq
          rcases List.mem_cons.1 hp with rfl | hp' <;> rcases List.mem_cons.1 hq with rfl | hq'
          · exact h9 rfl
          · exact h1 a hq' e
          · exact h1 y hp' e.symm
          · exact ih h2 hp' hq'
      exact (this l hn hy ha).elim
  have hnd : l.Nodup := hn.imp fun {x y} hne e => hne (by rw [e])
  refine (hL.cons a).trans (filter_moreU hnd ha ?_ ?_ ?_).symm
  · rw [hl]; rfl
  · rw [WideAt.sameKey_self (str_lit _)]; simp
  · intro y hy hne
    rw [sameKey_ne (fun e => hne (hinj y hy (str_inj e)))]
    simp
section
variable {w w' : World} {B g mc d : Nat} {L : List Reg} {s : GS}
theorem SAt.nar (h : SAt w B g mc L s d) {p : Reg} (hp : p ∈ L) (m b k : Nat) (D : DataW Unit) {d' : Nat} (hd : d ≤ d') (hk : k ≤ d') (hb : w.heap.size ≤ b) (hB : B ≤ w.heap.size) (ho : OutJ (fun j => j = p.r) w w')
    (hr : w'.heap[p.r]? = some (.cells #[.string p.c.r, .int .u8 ((p.c.sc &&& m : Nat) : Int), .map (some b)] 66 (0, 0)))
    (hm : w'.ownsMap Tryz.prog 9 (plainElem Tryz.prog 31) b k D) (hD : ARel D ((s.al.filter (ofC p.c.t p.c.n)).map (narA m))) :
    SAt w' B g mc (L.map (narP p.c.t p.c.n m b)) (s.nar p.c.t p.c.n m) d' := by
  have hg : w.grownBy w' (some p.r) := ⟨ho.os, ho.tape, ho.output, ho.size, fun k hk hne => ho.block k hk (fun e => hne (by rw [e]))⟩
  have hone : ∀ q ∈ L, isC p.c.t p.c.n q.c = true → q = p := fun q hq e => by
    obtain ⟨e1, e2⟩ := isC_iff.1 e
    exact h.key_inj hq hp (by rw [e1, e2])
  have hself : isC p.c.t p.c.n p.c = true := isC_iff.2 ⟨rfl, rfl⟩
  have hrr : (L.map (narP p.c.t p.c.n m b)).map (·.r) = L.map (·.r) := by
    rw [List.map_map]
    refine List.map_congr_left fun q hq => ?_
    show (narP p.c.t p.c.n m b q).r = q.r
    unfold narP
    split <;> rfl
  obtain ⟨n, V, h1, h2, h3⟩ := h.cm
  have hmcr : mc ≠ p.r := (cells_ne_map h1 (h.regs p hp).2.2.1).symm
  refine ⟨h.ok.nar _ _ _, ?_, ?_, ⟨n, V, h1.kept hg (fun e => hmcr (Option.some.inj e)), by omega, ⟨h3.tidy, fun t u ht hu => ?_, fun q hq z => ?_, by rw [h3.size, List.length_map]⟩⟩, fun q hq => ?_, by rw [hrr]; exact h.ndr, ?_, h.bg, h.bm⟩
  · unfold GS.nar
    rw [← h.cs, List.map_map, List.map_map]
    refine List.map_congr_left fun q hq => ?_
    show (narP p.c.t p.c.n m b q).c = narCs p.c.t p.c.n m q.c
    unfold narP narCs
    split <;> rfl
  · refine (ho.block g h.lt (fun e => ?_)).trans h.obj
    have h9 := h.obj
    rw [e, (h.regs p hp).2.2.1] at h9
    injection h9 with h9
    injection h9 with _ h9
    exact absurd h9 (by decide)
  · rw [h3.has t u ht hu, List.any_map]
    congr 1
    funext q
    show isC t u q.c = isC t u (narP p.c.t p.c.n m b q).c
    unfold narP
    split <;> rfl
  · obtain ⟨q0, hq0, rfl⟩ := List.mem_map.1 hq
    have e1 : (narP p.c.t p.c.n m b q0).c.t = q0.c.t ∧ (narP p.c.t p.c.n m b q0).c.n = q0.c.n ∧ (narP p.c.t p.c.n m b q0).r = q0.r := by unfold narP; split <;> exact ⟨rfl, rfl, rfl⟩
    rw [e1.1, e1.2.1, e1.2.2]
    exact h3.at' q0 hq0 z
  · obtain ⟨q0, hq0, rfl⟩ := List.mem_map.1 hq
    obtain ⟨k1, k2, k3, n9, D9, k4, k5, k6⟩ := h.regs q0 hq0
    unfold narP
    by_cases e : isC p.c.t p.c.n q0.c = true
    · rw [if_pos e]
      obtain rfl := hone q0 hq0 e
      refine ⟨k1, by show B ≤ b; omega, hr, k, D, hm, hk, ?_⟩
      show ARel D ((s.nar q0.c.t q0.c.n m).al.filter (ofC q0.c.t q0.c.n))
      unfold GS.nar
      rw [nar_filter, nar_same]
      exact hD
    · rw [if_neg e]
      have hqp : q0.r ≠ p.r := fun e9 => by
        have hnd := h.ndr
        unfold List.Nodup at hnd
        rw [List.pairwise_map] at hnd
        have hne : q0 ≠ p := fun e8 => e (by rw [e8]; exact hself)
        have : ∀ (l : List Reg), l.Pairwise (fun a b => a.r ≠ b.r) → q0 ∈ l → p ∈ l → False := fun l hl => by
          induction l with
          | nil => exact fun h _ => nomatch h
          | cons x l ih =>
            obtain ⟨h1, h2⟩ := List.pairwise_cons.1 hl
            intro hp hq
            rcases List.mem_cons.1 hp with rfl | hp' <;> rcases List.mem_cons.1 hq with rfl | hq'
            · exact hne rfl
            · exact h1 p hq' e9
            · exact h1 q0 hp' e9.symm
            · exact ih h2 hp' hq'
        exact this L hnd hq0 hp
      refine ⟨k1, k2, (ho.block _ (heap_lt k3) hqp).trans k3, n9, D9, k4.kept hg (fun e9 => h.r_ne hp hq0 (Option.some.inj e9).symm), by omega, ?_⟩
      have e2 : (s.nar p.c.t p.c.n m).al.filter (ofC q0.c.t q0.c.n) = s.al.filter (ofC q0.c.t q0.c.n) := by
        unfold GS.nar
        rw [nar_filter]
        have : ∀ a ∈ s.al.filter (ofC q0.c.t q0.c.n), narAs p.c.t p.c.n m a = a := fun a ha => by
          obtain ⟨e3, e4⟩ := ofC_iff.1 (List.mem_filter.1 ha).2
          unfold narAs
          rw [if_neg (fun e5 => e (by
            obtain ⟨e6, e7⟩ := ofC_iff.1 e5
            exact isC_iff.2 ⟨by rw [← e3, e6], by rw [← e4, e7]⟩))]
        rw [List.map_congr_left this, List.map_id']
      rw [e2]
      exact k6
  · have hb9 : ∀ q ∈ L, q.m < w.heap.size := fun q hq => by
      obtain ⟨_, _, _, _, _, h4, _⟩ := h.regs q hq
      exact map_new_ne h4
    have hmc9 : mc < w.heap.size := map_new_ne h1
    have hnd := (List.nodup_cons.1 h.ndm).2
    refine List.nodup_cons.2 ⟨fun hm9 => ?_, ?_⟩
    · obtain ⟨q, hq, e⟩ := List.mem_map.1 hm9
      obtain ⟨q0, hq0, rfl⟩ := List.mem_map.1 hq
      unfold narP at e
      split at e
      · have : b = mc := e
        omega
      · exact h.m_ne hq0 e
    · rw [List.map_map]
      unfold List.Nodup at hnd ⊢
      rw [List.pairwise_map] at hnd ⊢
      have hLn := h.nodup
      refine (hnd.and hLn).imp_of_mem fun {x y} hx hy hne e => ?_
      obtain ⟨hne1, hne2⟩ := hne
      have e' : (narP p.c.t p.c.n m b x).m = (narP p.c.t p.c.n m b y).m := e
      unfold narP at e'
      have bx := hb9 x hx
      have by' := hb9 y hy
      split at e' <;> split at e'
      · rename_i c1 c2
        exact hne2 ((hone x hx c1).trans (hone y hy c2).symm)
      · have : b = y.m := e'
        omega
      · have : x.m = b := e'
        omega
      · exact hne1 e'
end
end Go.Proofs.YtlkbojgemcjilaaGreatDoor

/- Grants: Narrow, the walk. -/
namespace Go.Proofs.YtlkbojgemcjilaaGreatDoor
open Go.RowKit Go.Maps
set_option linter.unusedVariables false
set_option maxRecDepth 20000
def narR (L : List Reg) (t n : ByteArray) (m : Nat) : Nat := ((fC L t n).map fun p => p.c.sc &&& m).getD 0
section
variable {w : World} {B g mc d : Nat} {L : List Reg} {s : GS}
theorem nar_none (h : SAt w B g mc L s d) {t n : ByteArray} (hf : fC L t n = none) (m : Nat) : s.nar t n m = s := by
  have h2 : ∀ c ∈ s.cs, isC t n c = false := fun c hc => by
    cases h9 : isC t n c with
    | false => rfl
    | true => exact absurd (isC_iff.1 h9) (fC_none_cs h hf c hc)
  have h3 : ∀ a ∈ s.al, ofC t n a = false := fun a ha => by
    obtain ⟨_, _, _, c, hc, e1, e2, _⟩ := h.ok.anames a ha
    have e : ofC t n a = isC t n c := by unfold isC ofC; rw [e1, e2]
    rw [e, h2 c hc]
  have e1 : s.cs.map (narCs t n m) = s.cs := by
    have := List.map_congr_left (f := narCs t n m) (g := id) (l := s.cs) fun c hc => by unfold narCs; rw [h2 c hc]; rfl
    rw [this, List.map_id]
  have e2 : s.al.map (narAs t n m) = s.al := by
    have := List.map_congr_left (f := narAs t n m) (g := id) (l := s.al) fun a ha => by unfold narAs; rw [h3 a ha]; rfl
    rw [this, List.map_id]
  show (⟨s.cs.map (narCs t n m), s.al.map (narAs t n m)⟩ : GS) = s
  rw [e1, e2]
set_option maxHeartbeats 4000000 in
theorem narrow_any (h : SAt w B g mc L s d) (hd : d ≤ 17592186044416) (hB : B ≤ w.heap.size) (hal : s.al.length ≤ 17592186044416) (t n : ByteArray) (m : Nat) (ht : t.size ≤ maxLen) (hn : n.size ≤ maxLen) (hm : m ≤ 255) :
    Calls Tryz.prog 18 #[.pointer (some ⟨g, 0, none⟩), .string t, .string n, .int .u8 (m : Int)] w fun e w' => ∃ L' d', e = .returned (.tuple #[.int .u8 (narR L t n m : Nat), .int .i64 (noneE (fC L t n).isSome)]) ∧ OutJ (MineU g mc L) w w' ∧ d ≤ d' ∧ d' ≤ max d s.al.length ∧ SAt w' B g mc L' (s.nar t n m) d' ∧ (∀ k, MineU g mc L' k → MineU g mc L k ∨ w.heap.size ≤ k) := by
  have HF := hid (find_any h t n ht hn)
  have H := hid h
  unfold narR
  cases hf : fC L t n with
  | none =>
    rw [hf] at HF
    have He := hid (nar_none h hf m)
    rw [He.out]
    clear h hf He
    go_enter Tryz.func18, Tryz.ntmps18
    go_wp2_with (go_at_call 52; refine HF.out.mono ?_; rintro _ w1 ⟨rfl, e1⟩; subst w1; unfold noneE; simp only [Option.isSome_none, Bool.false_eq_true, if_false])
    go_ret2
    exact ⟨L, d, rfl, OutJ.of_below (Below.refl _ _), Nat.le_refl _, Nat.le_max_left _ _, H.out, fun k hk => .inl hk⟩
  | some p =>
    rw [hf] at HF
    obtain ⟨hp, rfl, rfl⟩ := fC_some hf
    simp only [Option.map_some, Option.getD_some, Option.isSome_some] at HF ⊢
    obtain ⟨r0, r1, r2⟩ := (h.regs p hp).c
    obtain ⟨_, _, hrow, k, D0, hm0, hk, hD0⟩ := h.regs p hp
    have f1 : w.frozen? ⟨p.r, 1, none⟩ = false := frozen_of_row _ _ _ _ _ hrow
    obtain ⟨q, hq⟩ : ∃ q, q = p.c.sc &&& m := ⟨_, rfl⟩
    have hb0 : bits BinOp.and IntKind.u8 (p.c.sc : Int) (m : Int) = (q : Int) := by rw [hq]; exact and_bits _ _ (by have := (h.ok.names _ (h.mem_cs hp)).2.2.2; omega) (by omega)
    obtain ⟨W1, hW1⟩ : ∃ W1, W1 = w.setCell ⟨p.r, 1, none⟩ (.int .u8 (q : Int)) := ⟨_, rfl⟩
    obtain ⟨W, hW⟩ : ∃ W, W = W1.alloc (.map #[] 0) := ⟨_, rfl⟩
    have s1 : W1.heap.size = w.heap.size := by rw [hW1]; simp
    have sW : W.heap.size = w.heap.size + 1 := by rw [hW]; simp [s1]
    have o1 : OutJ (fun j => j = p.r) w W1 := by rw [hW1]; exact OutJ.setCell w _ _ rfl
    have bW : Below W1.heap.size W1 W := by rw [hW]; exact (Below.refl _ W1).alloc (Nat.le_refl _) _
    have oW : OutJ (fun j => j = p.r) w W := o1.trans (OutJ.of_below bW)
    have hrow1 : W1.heap[p.r]? = some (.cells #[.string p.c.r, .int .u8 (q : Int), .map (some p.m)] 66 (0, 0)) := by rw [hW1, heap_setCell_same _ _ _ _ _ _ hrow]; rfl
    have hrowW := (bW.block _ (heap_lt hrow1)).trans hrow1
    have hg1 : w.grownBy W1 (some p.r) := ⟨o1.os, o1.tape, o1.output, o1.size, fun k hk hne => o1.block k hk (fun e => hne (by rw [e]))⟩
    have hmW1 : W1.ownsMap Tryz.prog 9 (plainElem Tryz.prog 31) p.m k D0 := hm0.kept hg1 (fun e => h.r_ne hp hp (Option.some.inj e).symm)
    have hmW : W.ownsMap Tryz.prog 9 (plainElem Tryz.prog 31) p.m k D0 := by rw [hW]; exact hmW1.alloc _
    have hnW : W.ownsMap Tryz.prog 9 (plainElem (H := Unit) Tryz.prog 31) w.heap.size 0 (.map []) := by rw [hW, ← s1]; exact World.ownsMap_made W1 _ _ _
    have c2 : W.cell? ⟨p.r, 2, none⟩ = some (.map (some p.m)) := (cell_of_rowU _ _ 2 _ _ _ hrowW).trans rfl
    have hpm : p.m ≠ w.heap.size := by have := map_new_ne hm0; omega
    have HW : Hid ((w.setCell ⟨p.r, 1, none⟩ (.int .u8 (q : Int))).alloc (.map #[] 0) = W) := by rw [Hid, hW, hW1]
    have HM := hid hmW
    have HNW := hid hnW
    have HD := hid hD0
    have HO := hid oW
    have HR := hid hrowW
    have SW := hid sW
    have Hpm := hid hpm
    have Hq := hid hq
    have Hp := hid hp
    have HB := hid (And.intro hd (And.intro hB (And.intro hal hk)))
    have hmm := @run_makeMap Tryz.prog
    rw [← HW.out] at c2
    clear h hf hrow hm0 hk hD0 hp s1 sW o1 bW oW hrow1 hrowW hg1 hmW1 hmW hnW hpm hq hd hB hal r0 hW hW1
    go_enter Tryz.func18, Tryz.ntmps18
    go_wp2_with (first
      | (go_at_call 52; refine HF.out.mono ?_; rintro _ w1 ⟨rfl, e1⟩; subst w1; unfold noneE; simp only [if_true])
      | (at_range; rw [HW.out]; refine wpList_range_own _ rfl _ 64 rfl 9 31 lawStr Tryz.underlying64 _ p.m k _ rfl HM.out ?_; intro w3 hrg3 hg3 hs3)
      | go_in)
    go_frame
    clear c2
    go_loopw [13, 14] (fun v9 v8 wr => ∃ (left : Lit → Bool) (cnt : Nat) (L' : List Co) (D : DataW Unit), wr.ranges Tryz.prog 9 (plainElem Tryz.prog 31) p.m W.heap.size k D0 left cnt ∧ wr.ownsMap Tryz.prog 9 (plainElem Tryz.prog 31) w.heap.size L'.length D ∧ ARel D (L'.map (narA m)) ∧ L'.Perm ((s.al.filter (ofC p.c.t p.c.n)).filter fun a => !left (.string a.u.data.toList)) ∧ OutJ (fun j => j = p.r) w wr ∧ wr.heap[p.r]? = W.heap[p.r]?) (fun _ _ wr => wr.rangeLeft p.m W.heap.size)
    case atStart =>
      refine ⟨_, _, [], .map [], hrg3, HNW.out.kept hg3 (by simp), ⟨tidy_empty, fun _ => rfl, (fun a ha => nomatch ha), rfl⟩, ?_, HO.out.trans ⟨hg3.os, hg3.tape, hg3.output, hg3.size, fun j hj _ => hg3.block j hj (by simp)⟩, hg3.block _ (heap_lt HR.out) (by simp)⟩
      rw [List.filter_eq_nil_iff.2 fun a ha => ?_]
      rw [HD.out.has, List.any_eq_true.2 ⟨a, ha, decide_eq_true rfl⟩]
      simp
    case round =>
      obtain ⟨left, cnt, L', D, hrg, hmp, hcn, hpm, ho, hrr⟩ := hrel
      have HL := hid hrg.left_eq
      have Hmp := hid hmp
      have Hcn := hid hcn
      have Hpr := hid hpm
      have Ho := hid ho
      have Hrr := hid hrr
      clear hmp hcn hpm ho hrr hrg3 hg3 hs3
      go_wp2_with (first
        | (at_next; refine wpList_next_ranges (α := ByteArray) (β := Int) _ rfl _ rfl 9 lawStr (plainElem Tryz.prog 31) (fun x => .string x) (fun x => .int .u8 x) (fun key kl hk => by obtain ⟨a, rfl, _⟩ := Go.WideMaps.string_of_keyOf Tryz.underlying9 hk; exact ⟨a, rfl⟩) (fun v y hv => by obtain ⟨c, rfl, _⟩ := plainElem_int_inv Tryz.underlying31 hv; exact ⟨c, rfl⟩) p.m W.heap.size k _ _ _ rfl hrg ?_ ?_)
        | go_in)
      · intro _ hl0
        have hLp : L'.Perm (s.al.filter (ofC p.c.t p.c.n)) := by
          have h1 := Hpr.out
          rw [List.filter_eq_self.2 (fun a _ => by rw [hl0]; rfl)] at h1
          exact h1
        have hrow := Hrr.out.trans HR.out
        have e1 : wr.cell? ⟨p.r, 1, none⟩ = some (.int .u8 (q : Int)) := (cell_of_rowU _ _ 1 _ _ _ hrow).trans rfl
        have e2 : wr.cell? ⟨p.r, 2, none⟩ = some (.map (some p.m)) := (cell_of_rowU _ _ 2 _ _ _ hrow).trans rfl
        have f2 : wr.frozen? ⟨p.r, 2, none⟩ = false := frozen_of_row _ _ _ _ _ hrow
        have hlen : L'.length ≤ s.al.length := by
          rw [hLp.length_eq]
          exact List.length_filter_le _ _
        have hpr : p.r < w.heap.size := heap_lt (H.out.regs p Hp.out).2.2.1
        have hS := H.out.nar Hp.out m w.heap.size L'.length D (w' := wr.setCell ⟨p.r, 2, none⟩ (.map (some w.heap.size))) (d' := max d L'.length) (Nat.le_max_left _ _) (Nat.le_max_right _ _) (Nat.le_refl _) HB.out.2.1 (Ho.out.trans (OutJ.setCell wr _ _ rfl)) (by rw [heap_setCell_same _ _ _ _ _ _ hrow, Hq.out]; rfl) (Hmp.out.setCell (a := ⟨p.r, 2, none⟩) (by show w.heap.size ≠ p.r; omega) _) (Hcn.out.perm (hLp.map _))
        have HS := hid hS
        have Hlen := hid hlen
        have O9 := hid ((Ho.out.trans (OutJ.setCell wr ⟨p.r, 2, none⟩ (.map (some w.heap.size)) rfl)).mono (fun k9 (e : k9 = p.r) => (show MineU g mc L k9 from .inr (.inr ⟨p, Hp.out, .inl e⟩))))
        clear hl0 hLp hrow hlen hpr hS hrg
        go_wp2_with go_in
        go_ret2
        refine ⟨_, _, by rw [Hq.out]; rfl, O9.out, Nat.le_max_left _ _, by have := Hlen.out; omega, HS.out, ?_⟩
        rintro k9 (h9 | h9 | ⟨p9, hp9, h9⟩)
        · exact .inl (.inl h9)
        · exact .inl (.inr (.inl h9))
        · obtain ⟨q0, hq0, rfl⟩ := List.mem_map.1 hp9
          unfold narP at h9
          split at h9
          · rcases h9 with h9 | h9
            · exact .inl (.inr (.inr ⟨q0, hq0, .inl h9⟩))
            · exact .inr (by rw [h9]; exact Nat.le_refl _)
          · exact .inl (.inr (.inr ⟨q0, hq0, h9⟩))
      · intro t2 c kl y1 y2 w6 cnt' hk hl hv hat hrg6 hlt hg6 hs6 hen
        obtain ⟨t9, e9, rfl, l1⟩ := Go.WideMaps.string_of_keyOf Tryz.underlying9 hk
        obtain rfl : t2 = t9 := by simpa using e9
        clear e9
        obtain ⟨c9, ec, ez, hwf9⟩ := plainElem_int_inv Tryz.underlying31 hv
        obtain rfl : c = c9 := by simpa using ec
        obtain ⟨rfl, _⟩ := Prod.mk.inj ez
        clear ec ez
        obtain ⟨a, ha, rfl⟩ : ∃ a ∈ s.al.filter (ofC p.c.t p.c.n), a.u = t2 := by
          have h2 := Maps.has_true_of_atKey hat
          rw [HD.out.has] at h2
          obtain ⟨a, ha1, ha2⟩ := List.any_eq_true.1 h2
          exact ⟨a, ha1, of_decide_eq_true ha2⟩
        obtain rfl : (a.sc : Int) = c := by
          have h3 := hat .nil
          rw [HD.out.at' a ha] at h3
          injection h3 with h3
          injection h3
        have hmore := hid (more_al (users_apart H.out.ok p.c.t p.c.n) ha hl Hpr.out)
        have hno := hid (fun (b : Co) (hb : b ∈ L'.map (narA m)) => (show ¬ b.u = (narA m a).u from fun e => by
          obtain ⟨x, hx, rfl⟩ := List.mem_map.1 hb
          have h3 := (List.mem_filter.1 (Hpr.out.mem_iff.1 hx)).2
          have h4 : x.u = a.u := e
          rw [h4, hl] at h3
          cases h3))
        have hsc : a.sc ≤ 255 := (H.out.ok.anames a (List.mem_filter.1 ha).1).2.2.1
        have hlen : L'.length ≤ 17592186044416 := by
          have h3 := Hpr.out.length_eq
          have h4 := List.length_filter_le (fun a : Co => !left (.string a.u.data.toList)) (s.al.filter (ofC p.c.t p.c.n))
          have h5 := List.length_filter_le (ofC p.c.t p.c.n) s.al
          have := HB.out.2.2.1
          omega
        obtain ⟨x, hx⟩ : ∃ x, x = a.sc &&& m := ⟨_, rfl⟩
        have hx9 : x ≤ 255 := by rw [hx]; exact Nat.le_trans Nat.and_le_left hsc
        have hb1 : bits BinOp.and IntKind.u8 (a.sc : Int) (m : Int) = (x : Int) := by rw [hx]; exact and_bits _ _ (by omega) (by omega)
        have hwf : (Lit.int .u8 (x : Int)).wf = true := by simp [Lit.wf, IntKind.min, IntKind.max, IntKind.signed, IntKind.bits]; omega
        have Hwf := hid hwf
        have Hx := hid hx
        have Hkl := hid (Go.WideMaps.keyOf_string_mk Tryz.underlying9 (s := a.u) l1)
        have O6 := hid (Hmp.out.kept hg6 (fun e => map_ne hrg Hmp.out (Option.some.inj e)))
        have hwW : w.heap.size < W.heap.size := by have := SW.out; omega
        have hpr : p.r < w.heap.size := heap_lt (H.out.regs p Hp.out).2.2.1
        have ho6 : Hid (OutJ (fun j => j = p.r) w w6) := ⟨hg6.os.trans Ho.out.os, hg6.tape.trans Ho.out.tape, hg6.output.trans Ho.out.output, Nat.le_trans Ho.out.size hg6.size, fun j hj hp9 => (hg6.block j (Nat.lt_of_lt_of_le hj Ho.out.size) (fun e => by have e9 := Option.some.inj e; omega)).trans (Ho.out.block j hj hp9)⟩
        have hr6 : Hid (w6.heap[p.r]? = W.heap[p.r]?) := (hg6.block p.r (Nat.lt_of_lt_of_le hpr Ho.out.size) (fun e => by have e9 := Option.some.inj e; omega)).trans Hrr.out
        have Hrg6 := hid hrg6
        have Hlt := hid hlt
        have HL9 := hid hlen
        have HwW := hid (And.intro hwW hpr)
        clear hk hl hv hat hrg6 hlt hg6 hs6 hrg ha hsc hlen hx hwf hwf9 l1 hwW hpr
        go_wp2_with (first
          | (at_mapUpdate; refine wpList_mapUpdate_own _ rfl _ _ _ 64 rfl 9 31 lawStr Tryz.underlying64 _ w.heap.size L'.length D rfl O6.out (by unfold maxLen; have := HL9.out; omega) _ _ _ rfl rfl Hkl.out _ [] (plainElem_int Tryz.underlying31 Hwf.out) ?_; intro w8 hown8 hg8)
          | go_in)
        have nr := map_ne Hrg6.out O6.out
        have R8 := Hrg6.out.kept hg8 (fun e => Hpm.out (Option.some.inj e)) (fun e => nr (Option.some.inj e).symm)
        simp only [Act.put]
        go_roundw
        case rel =>
          refine ⟨_, _, a :: L', _, R8, hown8, ?_, hmore.out, ?_, ?_⟩
          · have h9 := Hcn.out.put (narA m a) hno.out
            have e9 : (narA m a).sc = x := Hx.out.symm
            rw [e9] at h9
            exact h9
          · exact ⟨hg8.os.trans ho6.out.os, hg8.tape.trans ho6.out.tape, hg8.output.trans ho6.out.output, Nat.le_trans ho6.out.size hg8.size, fun j hj hp9 => (hg8.block j (Nat.lt_of_lt_of_le hj ho6.out.size) (fun e => by have e9 := Option.some.inj e; omega)).trans (ho6.out.block j hj hp9)⟩
          · exact (hg8.block p.r (Nat.lt_of_lt_of_le HwW.out.2 ho6.out.size) (fun e => by have e9 := Option.some.inj e; have := HwW.out.2; omega)).trans hr6.out
        case measure =>
          rw [R8.left_eq, HL.out]
          exact Hlt.out
end
end Go.Proofs.YtlkbojgemcjilaaGreatDoor
