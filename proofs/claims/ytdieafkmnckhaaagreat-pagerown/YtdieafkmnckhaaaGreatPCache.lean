/- A cache between calls: its deeds, by contracts that keep what is not its own. -/
import Derived.Test.YtdieafkmnckhaaaGreatPState
namespace Go.Proofs.YtdieafkmnckhaaaGreat
open Go.RowKit Go.Maps Go.Sort Go.Shelf
set_option linter.unusedVariables false
set_option maxRecDepth 20000
/-- a cache, and blocks that are not its own -/
def Cache (w : World) (p : Nat) (s : PS) (F : Nat → Prop) : Prop := ∃ m, PgMem w p m s ∧ Ext s ∧ ∀ k, F k → k < w.heap.size ∧ ¬ allB p m s k
/-- those blocks are as they were -/
abbrev Kept (F : Nat → Prop) (w w' : World) : Prop := Out (fun k => ¬ F k) w w'
section
variable {w w' : World} {p : Nat} {s : PS} {F : Nat → Prop}
theorem Cache.mono {F' : Nat → Prop} (h : Cache w p s F) (hF : ∀ k, F' k → F k) : Cache w p s F' := by
  obtain ⟨m, h1, h2, h3⟩ := h
  exact ⟨m, h1, h2, fun k hk => h3 k (hF k hk)⟩
theorem Cache.below (h : Cache w p s F) (hb : Below w.heap.size w w') : Cache w' p s F := by
  obtain ⟨m, h1, h2, h3⟩ := h
  exact ⟨m, h1.below hb, h2, fun k hk => ⟨Nat.lt_of_lt_of_le (h3 k hk).1 hb.size, (h3 k hk).2⟩⟩
/-- what is new is not its own -/
theorem Cache.add (h : Cache w p s F) (hb : Below w.heap.size w w') : Cache w' p s (fun k => F k ∨ (w.heap.size ≤ k ∧ k < w'.heap.size)) := by
  obtain ⟨m, h1, h2, h3⟩ := h
  refine ⟨m, h1.below hb, h2, fun k hk => ?_⟩
  rcases hk with hk | hk
  · exact ⟨Nat.lt_of_lt_of_le (h3 k hk).1 hb.size, (h3 k hk).2⟩
  · exact ⟨hk.2, fun ha => by have := h1.lts k ha; omega⟩
theorem Kept.of_below (hb : Below w.heap.size w w') : Kept F w w' := ⟨hb.os, hb.tape, hb.output, hb.size, fun k hk _ => hb.block k hk⟩
theorem Kept.get (h : Kept F w w') {k : Nat} (hk : F k) (hl : k < w.heap.size) : w'.heap[k]? = w.heap[k]? := h.block k hl (fun h => h hk)
theorem Kept.to {w'' : World} (h : Kept F w w') (h' : Kept F w' w'') : Kept F w w'' := Out.trans h h' (fun _ _ x => x)
theorem Kept.mono {F' : Nat → Prop} (h : Kept F w w') (hF : ∀ k, F' k → F k) : Kept F' w w' := ⟨h.os, h.tape, h.output, h.size, fun k hk hn => h.block k hk (fun hf => hn (fun hf' => hf (hF k hf')))⟩
theorem Kept.below {B : Nat} (h : Kept F w w') (hB : B ≤ w.heap.size) (hF : ∀ k, k < B → F k) : Below B w w' := ⟨h.os, h.tape, h.output, h.size, fun k hk => h.block k (by omega) (fun x => x (hF k hk))⟩
/-- other blocks of another memory are kept as well -/
theorem kept_of {m m' : PM} {s' : PS} {Q : Nat → Prop} (h : PgMem w p m s) (he : Ext s) (h3 : ∀ k, F k → k < w.heap.size ∧ ¬ allB p m s k) (hm : PgMem w' p m' s') (he' : Ext s') (ho : Out Q w w') (hQ : ∀ k, Q k → allB p m s k) (hf : Fresh w p m s m' s') : Cache w' p s' F ∧ Kept F w w' := by
  refine ⟨⟨m', hm, he', fun k hk => ⟨Nat.lt_of_lt_of_le (h3 k hk).1 ho.size, fun ha => ?_⟩⟩, ⟨ho.os, ho.tape, ho.output, ho.size, fun k hk hn => ho.block k hk (fun hq => hn (fun hfk => (h3 k hfk).2 (hQ k hq)))⟩⟩
  rcases hf k ha with h5 | h5
  · exact (h3 k hk).2 h5
  · have := (h3 k hk).1; omega
/-- Read -/
def ReadC (w : World) (p : Nat) (s : PS) (F : Nat → Prop) (x : Int) (e : Ending) (w' : World) : Prop :=
  (badP s x ∧ e = .returned (.tuple #[.slice none 0 0, .int .i64 2]) ∧ Cache w' p s F ∧ Below w.heap.size w w') ∨
  (¬ badP s x ∧ ∃ b c, e = .returned (.tuple #[.slice (some ⟨b, 0, none⟩) 256 c, .int .i64 0]) ∧ w'.ownsRow w.heap.size 5 1 (.slice (some ⟨b, 0, none⟩) 256 c) 256 (cellsOf (s.now x.toNat)) ∧ Cache w' p (readS s x.toNat) (fun k => F k ∨ k = b) ∧ Kept F w w' ∧ w.heap.size ≤ b)
theorem read_c (h : Cache w p s F) (ht : s.t ≤ 100000) (x : Int) (hx : -9223372036854775808 ≤ x ∧ x ≤ 9223372036854775807) :
    Calls Tryz.prog 32 #[.pointer (some ⟨p, 0, none⟩), .int .i64 x] w (ReadC w p s F x) := by
  have hC := h
  obtain ⟨m, h1, h2, h3⟩ := h
  refine (read_any h1 h2.full ht x hx).mono ?_
  rintro e w' (⟨hb, rfl, hbl⟩ | ⟨hb, b, c, m', rfl, hr, hm, ho, hf, hnb⟩)
  · exact .inl ⟨hb, rfl, hC.below hbl, hbl⟩
  · have hlt : x.toNat < s.P := by unfold badP at hb; omega
    obtain ⟨⟨m2, hm2, he2, h32⟩, hk⟩ := kept_of h1 h2 h3 hm (readS_ext h1.ok h2 hlt) ho (fun k hq => by
      rcases hq with e | e | e
      · exact .inl (.inl e)
      · exact .inl (.inr (.inr (.inr (.inl e))))
      · exact .inl (.inr (.inr (.inl e)))) hf
    have hbl := (hr.lt b rfl)
    refine .inr ⟨hb, b, c, rfl, hr, ⟨m', hm, he2, fun k hk' => ?_⟩, hk, hbl.1⟩
    rcases hk' with hk' | rfl
    · refine ⟨(h32 k hk').1, fun ha => ?_⟩
      rcases hf k ha with h5 | h5
      · exact (h3 k hk').2 h5
      · have := (h3 k hk').1; omega
    · exact ⟨hbl.2, hnb⟩
/-- Write -/
def WriteC (w : World) (p : Nat) (s : PS) (F : Nat → Prop) (x : Int) (y : List UInt8) (e : Ending) (w' : World) : Prop :=
  (writeE s x y.length ≠ 0 ∧ e = .returned (.int .i64 (writeE s x y.length)) ∧ Cache w' p s F ∧ Kept F w w') ∨
  (writeE s x y.length = 0 ∧ e = .returned (.int .i64 0) ∧ Cache w' p (writeS s x.toNat y) F ∧ Kept F w w')
theorem write_c (h : Cache w p s F) (ht : s.t ≤ 100000) (x : Int) (hx : -9223372036854775808 ≤ x ∧ x ≤ 9223372036854775807) (y : List UInt8) (a : Option Addr) (c : Nat) (hy : Bytes w a y) (n : Nat) (hn : n = y.length) :
    Calls Tryz.prog 35 #[.pointer (some ⟨p, 0, none⟩), .int .i64 x, .slice a n c] w (WriteC w p s F x y) := by
  subst hn
  have hC := h
  obtain ⟨m, h1, h2, h3⟩ := h
  refine (pgWrite_any h1 ht x hx y a c hy).mono ?_
  rintro e w' (⟨hb, rfl, hbl⟩ | ⟨hb, rfl, m', hm, ho, hf⟩)
  · exact .inl ⟨hb, rfl, hC.below hbl, Kept.of_below hbl⟩
  · exact .inr ⟨hb, rfl, kept_of h1 h2 h3 hm (writeS_ext h2 _ _) ho (fun k hq => by
      rcases hq with (e | e | e) | e
      · exact .inl (.inl e)
      · exact .inl (.inr (.inr (.inr (.inl e))))
      · exact .inl (.inr (.inr (.inl e)))
      · exact .inl (.inr (.inr (.inr (.inr (.inl e)))))) hf⟩
/-- Commit -/
def ComC (w : World) (p : Nat) (s : PS) (F : Nat → Prop) (e : Ending) (w' : World) : Prop :=
  (comOk s ∧ e = .returned (.int .i64 0) ∧ Cache w' p (commitS s) F ∧ Kept F w w') ∨
  (¬ comOk s ∧ e = .returned (.int .i64 7) ∧ Cache w' p (fullS s) F ∧ Kept F w w')
theorem com_c (h : Cache w p s F) (ht : s.t ≤ 7000) (hP : s.P ≤ 100) :
    Calls Tryz.prog 37 #[.pointer (some ⟨p, 0, none⟩)] w (ComC w p s F) := by
  obtain ⟨m, h1, h2, h3⟩ := h
  have hQ : ∀ k, cmB p m k → allB p m s k := fun k hq => by
    rcases hq with e | e | e
    · exact .inl (.inl e)
    · exact .inl (.inr (.inr (.inr (.inr (.inl e)))))
    · exact .inl (.inr (.inl e))
  refine (com_any h1 h2 ht hP).mono ?_
  rintro e w' (⟨hb, rfl, m', hm, ho, hf⟩ | ⟨hb, rfl, m', hm, ho, hf⟩)
  · exact .inl ⟨hb, rfl, kept_of h1 h2 h3 hm (commitS_ext h2) ho hQ hf⟩
  · exact .inr ⟨hb, rfl, kept_of h1 h2 h3 hm (fullS_ext h2) ho hQ hf⟩
/-- Abort -/
theorem abort_c (h : Cache w p s F) : Calls Tryz.prog 38 #[.pointer (some ⟨p, 0, none⟩)] w fun e w' => e = .returned (.int .i64 (s.dl.length : Int)) ∧ Cache w' p (abortS s) F ∧ Kept F w w' := by
  obtain ⟨m, h1, h2, h3⟩ := h
  refine (pgAbort_any h1).mono ?_
  rintro e w' ⟨rfl, hm, ho, hf⟩
  exact ⟨rfl, kept_of h1 h2 h3 hm (abortS_ext h2) ho (fun k e => .inl (.inr (.inr (.inr (.inr (.inl e)))))) hf⟩
theorem cached_c (h : Cache w p s F) : Calls Tryz.prog 16 #[.pointer (some ⟨p, 0, none⟩)] w fun e w' => ∃ v, e = .returned v ∧ w'.ownsRow w.heap.size 3 1 v s.ord.length (natCells s.ord) ∧ Below w.heap.size w w' := by
  obtain ⟨m, h1, h2, h3⟩ := h
  exact cached_any h1
theorem dirty_c (h : Cache w p s F) (ht : s.t ≤ 1000000) : Calls Tryz.prog 18 #[.pointer (some ⟨p, 0, none⟩)] w fun e w' => ∃ v, e = .returned v ∧ w'.ownsRow w.heap.size 3 1 v s.dl.length (natCells (s.dl.map (·.1))) ∧ Below w.heap.size w w' := by
  obtain ⟨m, h1, h2, h3⟩ := h
  exact dirty_any h1 (Nat.le_trans h1.dnt ht)
theorem hits_c (h : Cache w p s F) : Calls Tryz.prog 20 #[.pointer (some ⟨p, 0, none⟩)] w fun e w' => e = .returned (.int .i64 (s.hi : Int)) ∧ w' = w := by
  obtain ⟨m, h1, h2, h3⟩ := h
  exact hits_any h1
theorem misses_c (h : Cache w p s F) : Calls Tryz.prog 22 #[.pointer (some ⟨p, 0, none⟩)] w fun e w' => e = .returned (.int .i64 (s.mi : Int)) ∧ w' = w := by
  obtain ⟨m, h1, h2, h3⟩ := h
  exact misses_any h1
/-- open -/
theorem open_c (w : World) (S mo : Nat) (hS : 2 ≤ S) (h2 : S + 12 ≤ 1024) (hm1 : 1 ≤ mo) (hm2 : mo ≤ 64) (F : Nat → Prop) (hF : ∀ k, F k → k < w.heap.size) :
    Calls Tryz.prog 12 #[.int .i64 (S : Int), .int .i64 (mo : Int)] w fun e w' => ∃ p q, e = .returned (.tuple #[.pointer (some ⟨p, 0, none⟩), .pointer (some ⟨q, 0, none⟩), .bool true]) ∧ Cache w' p (newS S 11 0 0 [] [] mo) F ∧ Below w.heap.size w w' := by
  refine (lawOpen04 w S mo hS h2 hm1 hm2).mono ?_
  rintro e w' ⟨p, m, q, rfl, hm, hb, hlo⟩
  exact ⟨p, q, rfl, ⟨m, hm, newS_ext _ _ _ _ _ _ _, fun k hk => ⟨Nat.lt_of_lt_of_le (hF k hk) hb.size, fun ha => by have h1 := hlo k ha; have h2 := hF k hk; omega⟩⟩, hb⟩
end
end Go.Proofs.YtdieafkmnckhaaaGreat
