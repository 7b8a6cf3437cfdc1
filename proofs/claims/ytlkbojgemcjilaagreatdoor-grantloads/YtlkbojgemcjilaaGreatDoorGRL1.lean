/- Load of grants by the reference: what it makes of each row. -/
import Derived.Test.YtlkbojgemcjilaaGreatDoorGLd4
import Derived.Test.YtlkbojgemcjilaaGreatDoorUR10
namespace Go.Proofs.YtlkbojgemcjilaaGreatDoor.Xr
open Go.RowKit Go.Maps
set_option linter.unusedVariables false
set_option maxRecDepth 20000
theorem regEs_zero {s : GS} {c : Cl} (h : regEs s c = 0) : okN c.t = true ∧ okN c.n = true ∧ c.r.size ≤ 24 ∧ findC s c.t c.n = none := by
  unfold regEs at h
  by_cases h1 : (okN c.t && okN c.n) = false
  · rw [if_pos h1] at h; cases h
  · rw [if_neg h1] at h
    by_cases h2 : 24 < c.r.size
    · rw [if_pos h2] at h; cases h
    · rw [if_neg h2] at h
      by_cases h3 : (findC s c.t c.n).isSome = true
      · rw [if_pos h3] at h; cases h
      · simp at h1 h3
        exact ⟨h1.1, h1.2, by omega, h3⟩
theorem allEs_zero {s : GS} {a : Co} (h : allEs s a = 0) : okN a.t = true ∧ okN a.u = true ∧ ∃ c, findC s a.t a.n = some c ∧ a.sc &&& c.sc = a.sc := by
  unfold allEs at h
  by_cases h1 : (okN a.t && okN a.u) = false
  · rw [if_pos h1] at h; cases h
  · rw [if_neg h1] at h
    cases hf : findC s a.t a.n with
    | none => rw [hf] at h; cases h
    | some c =>
      rw [hf] at h
      dsimp only at h
      by_cases h2 : nar a.sc c.sc = false
      · rw [if_pos h2] at h; cases h
      · simp at h1 h2
        unfold nar at h2
        exact ⟨h1.1, h1.2, c, rfl, of_decide_eq_true h2⟩
theorem findC_some {s : GS} {t n : ByteArray} {c : Cl} (h : findC s t n = some c) : c ∈ s.cs ∧ c.t = t ∧ c.n = n := ⟨List.mem_of_find?_eq_some h, isC_iff.1 (List.find?_some h)⟩
theorem findC_none' {s : GS} {t n : ByteArray} (h : findC s t n = none) : ∀ c ∈ s.cs, ¬ (c.t = t ∧ c.n = n) := fun c hc e => by
  have := List.find?_eq_none.1 h c hc
  exact this (isC_iff.2 e)
theorem reg_ok {s : GS} (ok : s.Ok) (c : Cl) (h : c.sc ≤ 255) : (s.reg c).Ok := by
  unfold GS.reg
  split
  · rename_i e
    obtain ⟨h1, h2, h3, h4⟩ := regEs_zero e
    exact ok.addC c h1 h2 h3 h (findC_none' h4)
  · exact ok
theorem alw_ok {s : GS} (ok : s.Ok) (a : Co) (h : a.sc ≤ 255) : (s.alw a).Ok := by
  unfold GS.alw
  split
  · rename_i e
    obtain ⟨h1, h2, c, h3, h4⟩ := allEs_zero e
    obtain ⟨q1, q2, q3⟩ := findC_some h3
    exact ok.putA h1 h2 h q1 q2 q3 h4
  · exact ok
def lastC (cols : List ByteArray) : ByteArray := cols.getLast?.getD ⟨#[]⟩
/-- what every row must be; then: its names, whether there are three, its number -/
def chk (r : Rw) : Option (ByteArray × (ByteArray × ByteArray) × Bool × Nat) := (cutS r.key).bind fun p => if r.cols.length ≠ 0 ∧ (toNum (lastC r.cols).data.toList).2 = 0 ∧ (toNum (lastC r.cols).data.toList).1 ≤ 255 then some (p.1, cutP p.2, (cutS p.2).isSome, (toNum (lastC r.cols).data.toList).1) else none
def rT0 (s : GS) (r : Rw) : Option GS := (chk r).bind fun x => if x.2.2.1 = true then some s else if r.cols.length = 2 ∧ regEs s ⟨x.1, x.2.1.1, r.cols.headD ⟨#[]⟩, x.2.2.2⟩ = 0 then some (s.reg ⟨x.1, x.2.1.1, r.cols.headD ⟨#[]⟩, x.2.2.2⟩) else none
def rT1 (s : GS) (r : Rw) : Option GS := (chk r).bind fun x => if x.2.2.1 = true then (if r.cols.length = 1 ∧ allEs s ⟨x.1, x.2.1.1, x.2.1.2, x.2.2.2⟩ = 0 then some (s.alw ⟨x.1, x.2.1.1, x.2.1.2, x.2.2.2⟩) else none) else some s
def loadR (m : List Rw) : Option GS := if riseB m = true then (foldO rT0 s0U m).bind fun s => foldO rT1 s m else none
theorem loadR_fail0 {m : List Rw} (h : riseB m = false) : loadR m = none := by
  unfold loadR
  rw [if_neg (by rw [h]; decide)]
theorem loadR_fail1 {m : List Rw} {k : Nat} (h : foldO rT0 s0U (m.take k) = none) : loadR m = none := by
  unfold loadR
  split
  · rw [foldO_fail h]
    rfl
  · rfl
theorem loadR_fail2 {m : List Rw} {k : Nat} {s : GS} (h1 : foldO rT0 s0U m = some s) (h : foldO rT1 s (m.take k) = none) : loadR m = none := by
  unfold loadR
  split
  · rw [h1]
    exact foldO_fail h
  · rfl
theorem loadR_ok {m : List Rw} {s s' : GS} (hr : riseB m = true) (h1 : foldO rT0 s0U m = some s) (h2 : foldO rT1 s m = some s') : loadR m = some s' := by
  unfold loadR
  rw [if_pos hr, h1]
  exact h2
/-- the store as the reference's loops keep it -/
structure RdI (w wr : World) (g d : Nat) (s : GS) : Prop where
  rg : RG wr w.heap.size g s
  be : Below w.heap.size w wr
  ok : s.Ok
  few : FewT s
  al : s.al.length ≤ d
theorem RdI.below {w wr w' : World} {g d : Nat} {s : GS} (h : RdI w wr g d s) (hb : Below wr.heap.size wr w') : RdI w w' g d s := ⟨h.rg.below hb, Below.on' h.be hb, h.ok, h.few, h.al⟩
theorem RdI.mono {w wr : World} {g d d' : Nat} {s : GS} (h : RdI w wr g d s) (hd : d ≤ d') : RdI w wr g d' s := ⟨h.rg, h.be, h.ok, h.few, Nat.le_trans h.al hd⟩
theorem alw_len (s : GS) (a : Co) : (s.alw a).al.length ≤ s.al.length + 1 := by
  unfold GS.alw
  split
  · show (s.al.filter _ ++ [a]).length ≤ _
    have := List.length_filter_le (fun x => !isA a.t a.u a.n x) s.al
    rw [List.length_append, List.length_singleton]
    omega
  · omega
theorem reg_al (s : GS) (c : Cl) : (s.reg c).al = s.al := by
  unfold GS.reg
  split
  · rfl
  · rfl
theorem RdI.register {w wr : World} {g d : Nat} {s : GS} (h : RdI w wr g d s) (c : Cl) (hc : ClIn c) :
    Calls Tryz.prog 23 #[.pointer (some ⟨g, 0, none⟩), .agg (clC c)] wr fun e w' => e = .returned (.int .i64 (regEs s c : Nat)) ∧ RdI w w' g d (s.reg c) ∧ OutJ (fun k => k = g) wr w' := by
  refine (rregister_any h.rg h.be.size (by have := few_len h.few; omega) c hc).mono ?_
  rintro e w' ⟨rfl, ho, hr⟩
  refine ⟨rfl, ⟨hr, h.be.trans (ho.below h.be.size (fun k hk => ?_)), reg_ok h.ok c hc.sc, few_reg h.few c, by rw [reg_al]; exact h.al⟩, ho⟩
  rw [hk]
  obtain ⟨_, _, q⟩ := h.rg
  exact q.bg
theorem RdI.allow {w wr : World} {g d : Nat} {s : GS} (h : RdI w wr g d s) (hd : d ≤ 100000000) (a : Co) (ht : a.t.size ≤ 9223372036854775807) (hu : a.u.size ≤ 9223372036854775807) (hs : a.sc ≤ 255) :
    Calls Tryz.prog 27 #[.pointer (some ⟨g, 0, none⟩), .agg (coC a)] wr fun e w' => e = .returned (.int .i64 (allEs s a : Nat)) ∧ RdI w w' g (d + 1) (s.alw a) ∧ OutJ (fun k => k = g) wr w' := by
  refine (rallow_any h.rg h.ok h.be.size (by have := few_len h.few; omega) (by have := h.al; omega) a.t a.u a.n a.sc ht hu hs).mono ?_
  rintro e w' ⟨rfl, ho, hr⟩
  refine ⟨rfl, ⟨hr, h.be.trans (ho.below h.be.size (fun k hk => ?_)), alw_ok h.ok a hs, few_alw h.few a, ?_⟩, ho⟩
  · rw [hk]
    obtain ⟨_, _, q⟩ := h.rg
    exact q.bg
  · have := alw_len s a
    have := h.al
    omega
def RLPost (w : World) (n : Nat) (o : Option GS) (e : Ending) (w' : World) : Prop := Below w.heap.size w w' ∧ match o with
  | none => e = .returned (.tuple #[.pointer none, .int .i64 3])
  | some s => ∃ g, e = .returned (.tuple #[.pointer (some ⟨g, 0, none⟩), .int .i64 0]) ∧ RG w' w.heap.size g s
theorem last_snoc {cols : List ByteArray} {q : Nat} (h : cols.length = q + 1) : cols[q]? = some (lastC cols) := by
  unfold lastC
  rw [List.getLast?_eq_getElem?, h, Nat.add_sub_cancel]
  rw [List.getElem?_eq_getElem (by omega)]
  rfl
end Go.Proofs.YtlkbojgemcjilaaGreatDoor.Xr
