/- Grants: the calls by the store's state alone. -/
import Derived.Test.YtlkbojgemcjilaaU23
namespace Go.Proofs.Ytlkbojgemcjilaa
open Go.RowKit Go.Maps
set_option linter.unusedVariables false
set_option maxRecDepth 20000
def findC (s : GS) (t n : ByteArray) : Option Cl := s.cs.find? (isC t n)
theorem fC_map {L : List Reg} {s : GS} (h : L.map (·.c) = s.cs) (t n : ByteArray) : (fC L t n).map (·.c) = findC s t n := by
  unfold findC fC
  rw [← h, List.find?_map]
  rfl
theorem fC_isSome {L : List Reg} {s : GS} (h : L.map (·.c) = s.cs) (t n : ByteArray) : (fC L t n).isSome = (findC s t n).isSome := by
  rw [← fC_map h, Option.isSome_map]
def regEs (s : GS) (c : Cl) : Nat :=
  if (okN c.t && okN c.n) = false then 8 else if 24 < c.r.size then 6 else if (findC s c.t c.n).isSome = true then 5 else if roomR (s.cs.map (·.t)) c.t = false then 24 else 0
def GS.reg (s : GS) (c : Cl) : GS := if regEs s c = 0 then s.addC c else s
def narRs (s : GS) (t n : ByteArray) (m : Nat) : Nat := ((findC s t n).map fun c => c.sc &&& m).getD 0
def allEs (s : GS) (a : Co) : Nat :=
  if (okN a.t && okN a.u) = false then 8 else match findC s a.t a.n with
    | none => 4
    | some c => if nar a.sc c.sc = false then 14 else if (fA s a.t a.u a.n).isSome = false ∧ 4 ≤ consN s a.t a.u then 25 else 0
def GS.alw (s : GS) (a : Co) : GS := if allEs s a = 0 then s.putA a else s
def mayRs (s : GS) (t u n r : ByteArray) (sc : Nat) : Nat := match findC s t n, fA s t u n with
  | some c, some a => if r = c.r then (if nar sc a.sc then 0 else 14) else 10
  | _, _ => 4
section
variable {L : List Reg} {s : GS}
theorem regE_s (h : L.map (·.c) = s.cs) (c : Cl) : regE L c = regEs s c := by
  unfold regE regEs
  rw [fC_isSome h, ← h, List.map_map]
  rfl
theorem regS_s (h : L.map (·.c) = s.cs) (c : Cl) : regS L s c = s.reg c := by
  unfold regS GS.reg
  rw [regE_s h]
theorem narR_s (h : L.map (·.c) = s.cs) (t n : ByteArray) (m : Nat) : narR L t n m = narRs s t n m := by
  unfold narR narRs
  rw [← fC_map h, Option.map_map]
  rfl
theorem allE_s (h : L.map (·.c) = s.cs) (a : Co) : allE L s a = allEs s a := by
  unfold allE allEs
  rw [← fC_map h]
  cases fC L a.t a.n with
  | none => rfl
  | some p => rfl
theorem alw_s (h : L.map (·.c) = s.cs) (a : Co) : s.allow L a = s.alw a := by
  unfold GS.allow GS.alw
  rw [allE_s h]
theorem mayR_s (h : L.map (·.c) = s.cs) (t u n r : ByteArray) (sc : Nat) : mayR L s t u n r sc = mayRs s t u n r sc := by
  unfold mayR mayRs fB
  rw [← fC_map h]
  cases fC L t n with
  | none => rfl
  | some p =>
    cases fA s t u n with
    | none => rfl
    | some a => rfl
end
/-- the kinds of block that a store is made of -/
def PT (w : World) (k : Nat) : Prop := (∃ es c, w.heap[k]? = some (.map es c)) ∨ ∃ cs T fr, w.heap[k]? = some (.cells cs T fr) ∧ (T = 58 ∨ T = 71)
/-- a store in memory, its inside hidden; X: a set of blocks that its calls may change -/
structure GP (w : World) (B g : Nat) (s : GS) (c d : Nat) (X : Nat → Prop) : Prop where
  at' : ∃ mc L, SAt w B g mc L s d ∧ ∀ k, X k ↔ MineU g mc L k
  cl : s.cs.length ≤ c
  al : s.al.length ≤ d
  base : B ≤ w.heap.size
section
variable {w w' : World} {B g c d : Nat} {s : GS} {X : Nat → Prop}
theorem SAt.mine_lt {mc : Nat} {L : List Reg} (h : SAt w B g mc L s d) : ∀ k, MineU g mc L k → k < w.heap.size := fun k hk => by
  rcases hk with rfl | rfl | ⟨p, hp, rfl | rfl⟩
  · exact h.lt
  · obtain ⟨_, _, h9, _⟩ := h.cm; exact map_new_ne h9
  · exact heap_lt (h.regs p hp).2.2.1
  · obtain ⟨_, _, _, _, _, h9, _⟩ := h.regs p hp; exact map_new_ne h9
theorem SAt.mine_typed {mc : Nat} {L : List Reg} (h : SAt w B g mc L s d) : ∀ k, MineU g mc L k → PT w k := fun k hk => by
  rcases hk with rfl | rfl | ⟨p, hp, rfl | rfl⟩
  · exact .inr ⟨_, _, _, h.obj, .inl rfl⟩
  · obtain ⟨_, _, h9, _⟩ := h.cm; exact .inl (mapObj h9)
  · exact .inr ⟨_, _, _, (h.regs p hp).2.2.1, .inr rfl⟩
  · obtain ⟨_, _, _, _, _, h9, _⟩ := h.regs p hp; exact .inl (mapObj h9)
theorem GP.lt (h : GP w B g s c d X) : ∀ k, X k → k < w.heap.size := by
  obtain ⟨mc, L, h1, h2⟩ := h.at'
  exact fun k hk => h1.mine_lt k ((h2 k).1 hk)
theorem GP.ge (h : GP w B g s c d X) : ∀ k, X k → B ≤ k := by
  obtain ⟨mc, L, h1, h2⟩ := h.at'
  exact fun k hk => h1.mine_ge k ((h2 k).1 hk)
theorem GP.typed (h : GP w B g s c d X) : ∀ k, X k → PT w k := by
  obtain ⟨mc, L, h1, h2⟩ := h.at'
  exact fun k hk => h1.mine_typed k ((h2 k).1 hk)
theorem GP.ok (h : GP w B g s c d X) : s.Ok := by
  obtain ⟨mc, L, h1, h2⟩ := h.at'
  exact h1.ok
theorem GP.below (h : GP w B g s c d X) (hb : Below w.heap.size w w') : GP w' B g s c d X := by
  obtain ⟨mc, L, h1, h2⟩ := h.at'
  exact ⟨⟨mc, L, h1.below hb, h2⟩, h.cl, h.al, Nat.le_trans h.base hb.size⟩
theorem SAt.outJ {P : Nat → Prop} {mc : Nat} {L : List Reg} (h : SAt w B g mc L s d) (ho : OutJ P w w') (hp : ∀ k, MineU g mc L k → ¬ P k) : SAt w' B g mc L s d := by
  have hm : ∀ {H : Type} {k : TypeId} {R : Value → Option (DataW H × List MemPlace)} {b n : Nat} {D : DataW H}, w.ownsMap Try.prog k R b n D → ¬ P b → w'.ownsMap Try.prog k R b n D := fun {H k R b n D} h1 h2 => by
    have hlt := map_new_ne h1
    obtain ⟨es, clock, hb, rest⟩ := h1
    exact ⟨es, clock, (ho.block b hlt h2).trans hb, rest⟩
  obtain ⟨n, V, h1, h2⟩ := h.cm
  refine ⟨h.ok, h.cs, (ho.block g h.lt (hp g (.inl rfl))).trans h.obj, ⟨n, V, hm h1 (hp mc (.inr (.inl rfl))), h2⟩, fun p hq => ?_, h.ndr, h.ndm, h.bg, h.bm⟩
  obtain ⟨k1, k2, k3, n9, D9, k4, k5⟩ := h.regs p hq
  exact ⟨k1, k2, (ho.block _ (heap_lt k3) (hp _ (.inr (.inr ⟨p, hq, .inl rfl⟩)))).trans k3, n9, D9, hm k4 (hp _ (.inr (.inr ⟨p, hq, .inr rfl⟩))), k5⟩
theorem GP.outJ {P : Nat → Prop} (h : GP w B g s c d X) (ho : OutJ P w w') (hp : ∀ k, X k → ¬ P k) : GP w' B g s c d X := by
  obtain ⟨mc, L, h1, h2⟩ := h.at'
  exact ⟨⟨mc, L, h1.outJ ho (fun k hk => hp k ((h2 k).2 hk)), h2⟩, h.cl, h.al, Nat.le_trans h.base ho.size⟩
/-- what a call that changes a store leaves: the set of blocks may have grown by new ones -/
def Turned (w w' : World) (B g : Nat) (s' : GS) (c' d' : Nat) (X : Nat → Prop) : Prop := OutJ X w w' ∧ ∃ X', GP w' B g s' c' d' X' ∧ ∀ k, X' k → X k ∨ w.heap.size ≤ k
theorem GP.mk' {mc : Nat} {L : List Reg} (h : SAt w B g mc L s d) (hc : s.cs.length ≤ c) (ha : s.al.length ≤ d) (hB : B ≤ w.heap.size) : GP w B g s c d (MineU g mc L) := ⟨⟨mc, L, h, fun _ => Iff.rfl⟩, hc, ha, hB⟩
theorem OutJ.iff {P Q : Nat → Prop} (h : OutJ P w w') (e : ∀ k, Q k ↔ P k) : OutJ Q w w' := h.mono fun k hk => (e k).2 hk
theorem gNew_any (w : World) (B : Nat) (hB : B ≤ w.heap.size) :
    Calls Try.prog 6 #[] w fun e w' => ∃ g X, e = .returned (.pointer (some ⟨g, 0, none⟩)) ∧ Below w.heap.size w w' ∧ GP w' B g ⟨[], []⟩ 0 0 X ∧ ∀ k, X k → w.heap.size ≤ k := by
  refine (new_any w B hB).mono ?_
  rintro _ w' ⟨g, mc, rfl, h1, h2, h3, h4⟩
  refine ⟨g, _, rfl, h3, GP.mk' h4 (Nat.le_refl _) (Nat.le_refl _) (Nat.le_trans hB h3.size), ?_⟩
  rintro k (rfl | rfl | ⟨p, hp, _⟩)
  · exact h1
  · exact h2
  · exact nomatch hp
theorem gRegister_any (h : GP w B g s c d X) (hc9 : c ≤ 100000) (hd : d ≤ 17592186044415) (x : Cl) (hc : ClIn x) :
    Calls Try.prog 14 #[.pointer (some ⟨g, 0, none⟩), .agg (clC x)] w fun e w' => e = .returned (.int .i64 (regEs s x : Nat)) ∧ Turned w w' B g (s.reg x) (c + 1) (d + 1) X := by
  obtain ⟨mc, L, h1, h2⟩ := h.at'
  have hcl := h.cl
  refine (register_any h1 hd (by rw [← List.length_map (f := (·.c)), h1.cs]; omega) h.base x hc).mono ?_
  rintro _ w' ⟨L', rfl, h3, h4, h5⟩
  rw [regE_s h1.cs]
  rw [regS_s h1.cs] at h4
  refine ⟨rfl, h3.iff h2, _, GP.mk' h4 ?_ ?_ (Nat.le_trans h.base h3.size), fun k hk => (h5 k hk).imp_left (h2 k).2⟩
  · unfold GS.reg
    split
    · show (s.cs ++ [x]).length ≤ _
      rw [List.length_append, List.length_singleton]
      omega
    · omega
  · have := h.al
    unfold GS.reg
    split
    · show s.al.length ≤ _
      omega
    · omega
theorem gNarrow_any (h : GP w B g s c d X) (hd : d ≤ 17592186044416) (t n : ByteArray) (m : Nat) (ht : t.size ≤ maxLen) (hn : n.size ≤ maxLen) (hm : m ≤ 255) :
    Calls Try.prog 19 #[.pointer (some ⟨g, 0, none⟩), .string t, .string n, .int .u8 (m : Int)] w fun e w' => e = .returned (.tuple #[.int .u8 (narRs s t n m : Nat), .int .i64 (noneE (findC s t n).isSome)]) ∧ Turned w w' B g (s.nar t n m) c d X := by
  obtain ⟨mc, L, h1, h2⟩ := h.at'
  have hal := h.al
  refine (narrow_any h1 hd h.base (by omega) t n m ht hn hm).mono ?_
  rintro _ w' ⟨L', d', rfl, h3, h4, h5, h6, h7⟩
  rw [narR_s h1.cs, fC_isSome h1.cs]
  have hd' : d' = d := by rw [Nat.max_eq_left hal] at h5; omega
  subst hd'
  refine ⟨rfl, h3.iff h2, _, GP.mk' h6 ?_ ?_ (Nat.le_trans h.base h3.size), fun k hk => (h7 k hk).imp_left (h2 k).2⟩
  · show (s.cs.map _).length ≤ _
    rw [List.length_map]
    exact h.cl
  · show (s.al.map _).length ≤ _
    rw [List.length_map]
    exact h.al
theorem gDrop_any (h : GP w B g s c d X) (t n : ByteArray) (ht : t.size ≤ maxLen) (hn : n.size ≤ maxLen) :
    Calls Try.prog 13 #[.pointer (some ⟨g, 0, none⟩), .string t, .string n] w fun e w' => e = .returned (.int .i64 (noneE (findC s t n).isSome)) ∧ Turned w w' B g (s.dropC t n) c d X := by
  obtain ⟨mc, L, h1, h2⟩ := h.at'
  refine (drop_any h1 t n ht hn).mono ?_
  rintro _ w' ⟨rfl, h3, h4⟩
  rw [fC_isSome h1.cs]
  refine ⟨rfl, h3.iff h2, _, GP.mk' h4 (Nat.le_trans (List.length_filter_le _ _) h.cl) (Nat.le_trans (List.length_filter_le _ _) h.al) (Nat.le_trans h.base h3.size), fun k hk => .inl ((h2 k).2 ?_)⟩
  rcases hk with h9 | h9 | ⟨p, hp, h9⟩
  · exact .inl h9
  · exact .inr (.inl h9)
  · exact .inr (.inr ⟨p, (List.mem_filter.1 hp).1, h9⟩)
theorem gAllow_any (h : GP w B g s c d X) (hc9 : c ≤ 100000) (hd : d ≤ 17592186044415) (a : Co) (ht : a.t.size ≤ maxLen) (hu : a.u.size ≤ maxLen) (hn : a.n.size ≤ maxLen) (hsc : a.sc ≤ 255) :
    Calls Try.prog 15 #[.pointer (some ⟨g, 0, none⟩), .agg (coC a)] w fun e w' => e = .returned (.int .i64 (allEs s a : Nat)) ∧ Turned w w' B g (s.alw a) c (d + 1) X := by
  obtain ⟨mc, L, h1, h2⟩ := h.at'
  have hcl := h.cl
  have hal := h.al
  refine (allow_any h1 (by omega) (by rw [← List.length_map (f := (·.c)), h1.cs]; omega) h.base a ht hu hn hsc).mono ?_
  rintro _ w' ⟨rfl, h3, h4⟩
  rw [allE_s h1.cs]
  rw [alw_s h1.cs] at h4
  refine ⟨rfl, h3.iff h2, _, GP.mk' h4 ?_ ?_ (Nat.le_trans h.base h3.size), fun k hk => .inl ((h2 k).2 hk)⟩
  · unfold GS.alw
    split
    · show s.cs.length ≤ _
      omega
    · omega
  · unfold GS.alw
    split
    · show (s.al.filter _ ++ [a]).length ≤ _
      have := List.length_filter_le (fun x => !isA a.t a.u a.n x) s.al
      rw [List.length_append, List.length_singleton]
      omega
    · omega
theorem fB_isSome {mc : Nat} {L : List Reg} (h : SAt w B g mc L s d) (t u n : ByteArray) : (fB L s t u n).isSome = (fA s t u n).isSome := by
  rw [← h.fB_eq, Option.isSome_map]
theorem gWithdraw_any (h : GP w B g s c d X) (t u n : ByteArray) (ht : t.size ≤ maxLen) (hu : u.size ≤ maxLen) (hn : n.size ≤ maxLen) :
    Calls Try.prog 24 #[.pointer (some ⟨g, 0, none⟩), .agg #[.string t, .string u], .string n] w fun e w' => e = .returned (.int .i64 (noneE (fA s t u n).isSome)) ∧ Turned w w' B g (s.dropA t u n) c d X := by
  obtain ⟨mc, L, h1, h2⟩ := h.at'
  refine (withdraw_any h1 t u n ht hu hn).mono ?_
  rintro _ w' ⟨rfl, h3, h4⟩
  rw [fB_isSome h1]
  exact ⟨rfl, h3.iff h2, _, GP.mk' h4 h.cl (Nat.le_trans (List.length_filter_le _ _) h.al) (Nat.le_trans h.base h3.size), fun k hk => .inl ((h2 k).2 hk)⟩
theorem gDropUser_any (h : GP w B g s c d X) (hc9 : c ≤ 100000) (t u : ByteArray) (ht : t.size ≤ maxLen) (hu : u.size ≤ maxLen) :
    Calls Try.prog 18 #[.pointer (some ⟨g, 0, none⟩), .agg #[.string t, .string u]] w fun e w' => e = .returned (.int .i64 (consN s t u : Nat)) ∧ Turned w w' B g (s.dropU t u) c d X := by
  obtain ⟨mc, L, h1, h2⟩ := h.at'
  have hcl := h.cl
  refine (dropUser_any h1 (by rw [← List.length_map (f := (·.c)), h1.cs]; omega) t u ht hu).mono ?_
  rintro _ w' ⟨rfl, h3, h4⟩
  exact ⟨rfl, h3.iff h2, _, GP.mk' h4 h.cl (Nat.le_trans (List.length_filter_le _ _) h.al) (Nat.le_trans h.base h3.size), fun k hk => .inl ((h2 k).2 hk)⟩
theorem gMay_any (h : GP w B g s c d X) (t u n r : ByteArray) (sc : Nat) (ht : t.size ≤ maxLen) (hu : u.size ≤ maxLen) (hn : n.size ≤ maxLen) (hsc : sc ≤ 255) :
    Calls Try.prog 12 #[.pointer (some ⟨g, 0, none⟩), .agg #[.string t, .string u], .string n, .string r, .int .u8 (sc : Int)] w fun e w' => e = .returned (.int .i64 (mayRs s t u n r sc : Nat)) ∧ Below w.heap.size w w' := by
  obtain ⟨mc, L, h1, h2⟩ := h.at'
  rw [← mayR_s h1.cs]
  exact may_any h1 t u n r sc ht hu hn hsc
theorem gClient_any (h : GP w B g s c d X) (t n : ByteArray) (ht : t.size ≤ maxLen) (hn : n.size ≤ maxLen) :
    Calls Try.prog 11 #[.pointer (some ⟨g, 0, none⟩), .string t, .string n] w fun e w' => e = .returned (.tuple #[.agg (((findC s t n).map clC).getD clC0), .int .i64 (noneE (findC s t n).isSome)]) ∧ Below w.heap.size w w' := by
  obtain ⟨mc, L, h1, h2⟩ := h.at'
  rw [← fC_map h1.cs, Option.isSome_map, Option.map_map]
  exact client_any h1 t n ht hn
theorem gConsent_any (h : GP w B g s c d X) (t u n : ByteArray) (ht : t.size ≤ maxLen) (hu : u.size ≤ maxLen) (hn : n.size ≤ maxLen) :
    Calls Try.prog 10 #[.pointer (some ⟨g, 0, none⟩), .agg #[.string t, .string u], .string n] w fun e w' => e = .returned (.tuple #[.agg (((fA s t u n).map coC).getD clC0), .int .i64 (noneE (fA s t u n).isSome)]) ∧ Below w.heap.size w w' := by
  obtain ⟨mc, L, h1, h2⟩ := h.at'
  rw [← h1.fB_eq, Option.isSome_map, Option.map_map]
  exact consent_any h1 t u n ht hu hn
/-- a row in the order of clients' names -/
theorem gClients_any (h : GP w B g s c d X) (hc9 : c ≤ 100000) (t : ByteArray) (ht : t.size ≤ maxLen) :
    Calls Try.prog 16 #[.pointer (some ⟨g, 0, none⟩), .string t] w fun e w' => ∃ v S, e = .returned v ∧ S.Perm (s.cs.filter (inT t)) ∧ NameOrder S ∧ w'.ownsRow w.heap.size 40 4 v S.length (clCells S) ∧ Below w.heap.size w w' := by
  obtain ⟨mc, L, h1, h2⟩ := h.at'
  have hcl := h.cl
  exact clients_any h1 (by rw [← List.length_map (f := (·.c)), h1.cs]; omega) t ht
def consS (s : GS) (t u : ByteArray) (S : List Cl) : List Co := S.filterMap fun c => fA s t u c.n
theorem gConsents_any (h : GP w B g s c d X) (hc9 : c ≤ 100000) (t u : ByteArray) (ht : t.size ≤ maxLen) (hu : u.size ≤ maxLen) :
    Calls Try.prog 17 #[.pointer (some ⟨g, 0, none⟩), .agg #[.string t, .string u]] w fun e w' => ∃ v S c, e = .returned (.slice v (consS s t u S).length c) ∧ S.Perm (s.cs.filter (inT t)) ∧ NameOrder S ∧ w'.ownsRow w.heap.size 35 4 (.slice v (consS s t u S).length c) (consS s t u S).length (coCells (consS s t u S)) ∧ Below w.heap.size w w' ∧ (consS s t u S).Perm (s.al.filter (isU t u)) := by
  obtain ⟨mc, L, h1, h2⟩ := h.at'
  have hcl := h.cl
  refine (consents_any h1 (by rw [← List.length_map (f := (·.c)), h1.cs]; omega) t u ht hu).mono ?_
  rintro _ w' ⟨v, S, c, rfl, p1, p2, p3, p4⟩
  have e : consF L s t u S = consS s t u S := h1.consF_eq t u S
  have p5 := consF_perm h1 t u p1
  rw [e] at p3 p5 ⊢
  exact ⟨v, S, c, rfl, p1, p2, p3, p4, p5⟩
end
end Go.Proofs.Ytlkbojgemcjilaa
