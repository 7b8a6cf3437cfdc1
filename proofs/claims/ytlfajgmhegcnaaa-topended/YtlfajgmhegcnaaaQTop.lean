/- Sessions and tokens side by side; TopEnded, walked. -/
import Derived.Test.YtlfajgmhegcnaaaKP
import Derived.Test.YtlfajgmhegcnaaaQSEnd
namespace Go.Proofs.Ytlfajgmhegcnaaa
open Go.RowKit Go.Maps Go.Sort Go.Shelf
set_option linter.unusedVariables false
set_option maxRecDepth 20000

theorem out_of_ses {P : Nat → Prop} {w w' : World} (h : Ses.Out P w w') : Out P w w' := ⟨h.os, h.tape, h.output, h.size, h.block⟩
/-- a table of sessions and a store of tokens -/
structure Pair (w : World) (B p mb q mf mt n : Nat) (S : Ses.Tab) (T : Sto) : Prop where
  ses : ∃ m, m ≤ n ∧ Ses.TabAt w B p mb m S
  sok : Ses.TabOk S
  tok : ∃ n1 n2, n1 ≤ n ∧ n2 ≤ n ∧ StoAt w B q mf mt n1 n2 T
  ok : StoOk T
  ls : S.l.length ≤ n
  lf : T.fs.length ≤ n
  lt : T.ts.length ≤ n
  ne : mb ≠ mf ∧ mb ≠ mt
def PO (p mb q mf mt k : Nat) : Prop := k = p ∨ k = mb ∨ k = q ∨ k = mf ∨ k = mt
section
variable {w w' : World} {B p mb q mf mt n m n1 n2 : Nat} {S S' : Ses.Tab} {T T' : Sto}
theorem psep (h : Ses.TabAt w B p mb m S) (h' : StoAt w B q mf mt n1 n2 T) : p ≠ q ∧ p ≠ mf ∧ p ≠ mt ∧ mb ≠ q := by
  have e1 := h.obj
  have e2 := h'.obj
  obtain ⟨a1, b1, e3⟩ := h'.mapf.isMap
  obtain ⟨a2, b2, e4⟩ := h'.mapt.isMap
  obtain ⟨a3, b3, e5⟩ := h.map.isMap
  refine ⟨?_, ?_, ?_, ?_⟩
  · rintro rfl; rw [e1] at e2; injection e2 with e2; injection e2 with _ e2 _; exact absurd e2 (by decide)
  · rintro rfl; rw [e1] at e3; cases e3
  · rintro rfl; rw [e1] at e4; cases e4
  · rintro rfl; rw [e5] at e2; cases e2
theorem Pair.below (h : Pair w B p mb q mf mt n S T) (hb : Below w.heap.size w w') : Pair w' B p mb q mf mt n S T := by
  obtain ⟨⟨m, hm, hs⟩, sok, ⟨n1, n2, h1, h2, ht⟩, ok, ls, lf, lt, ne⟩ := h
  exact ⟨⟨m, hm, hs.below hb⟩, sok, ⟨n1, n2, h1, h2, ht.below hb⟩, ok, ls, lf, lt, ne⟩
theorem Pair.more {k : Nat} (h : Pair w B p mb q mf mt n S T) (hk : n ≤ k) : Pair w B p mb q mf mt k S T := by
  obtain ⟨⟨m, hm, hs⟩, sok, ⟨n1, n2, h1, h2, ht⟩, ok, ls, lf, lt, ne⟩ := h
  exact ⟨⟨m, by omega, hs⟩, sok, ⟨n1, n2, by omega, by omega, ht⟩, ok, by omega, by omega, by omega, ne⟩
theorem Pair.lts (h : Pair w B p mb q mf mt n S T) : (p < w.heap.size ∧ mb < w.heap.size ∧ q < w.heap.size ∧ mf < w.heap.size ∧ mt < w.heap.size) ∧ B ≤ p ∧ B ≤ mb ∧ B ≤ q ∧ B ≤ mf ∧ B ≤ mt := by
  obtain ⟨⟨m, hm, hs⟩, sok, ⟨n1, n2, h1, h2, ht⟩, ok, ls, lf, lt, ne⟩ := h
  exact ⟨⟨hs.lts.1, hs.lts.2, ht.lts.1, ht.lts.2.1, ht.lts.2.2⟩, hs.bp, hs.bm, ht.bp, ht.bf, ht.bt⟩
theorem Pair.stepS (h : Pair w B p mb q mf mt n S T) (hs' : Ses.TabAt w' B p mb m S') (hm : m ≤ n + 1) (sok' : Ses.TabOk S') (hl : S'.l.length ≤ n + 1) (o : Ses.Out (fun k => k = p ∨ k = mb) w w') : Pair w' B p mb q mf mt (n + 1) S' T ∧ Out (PO p mb q mf mt) w w' := by
  obtain ⟨⟨m0, hm0, hs⟩, sok, ⟨n1, n2, h1, h2, ht⟩, ok, ls, lf, lt, ne⟩ := h
  have sp := psep hs ht
  refine ⟨⟨⟨m, hm, hs'⟩, sok', ⟨n1, n2, by omega, by omega, ht.keep (o.block q ht.lts.1 (by omega)) (o.block mf ht.lts.2.1 (by omega)) (o.block mt ht.lts.2.2 (by omega))⟩, ok, hl, by omega, by omega, ne⟩, (out_of_ses o).imp (fun i _ e => by unfold PO; omega)⟩
theorem Pair.stepT (h : Pair w B p mb q mf mt n S T) (ht' : StoAt w' B q mf mt n1 n2 T') (hn1 : n1 ≤ n + 1) (hn2 : n2 ≤ n + 1) (ok' : StoOk T') (hf : T'.fs.length ≤ n + 1) (hl : T'.ts.length ≤ n + 1) (o : Out (Mine q mf mt) w w') : Pair w' B p mb q mf mt (n + 1) S T' ∧ Out (PO p mb q mf mt) w w' := by
  obtain ⟨⟨m0, hm0, hs⟩, sok, ⟨k1, k2, h1, h2, ht⟩, ok, ls, lf, lt, ne⟩ := h
  have sp := psep hs ht
  refine ⟨⟨⟨m0, by omega, hs.keep (o.block p hs.lts.1 (by unfold Mine; omega)) (o.block mb hs.lts.2 (by unfold Mine; omega))⟩, sok, ⟨n1, n2, hn1, hn2, ht'⟩, ok', by omega, hf, hl, ne⟩, o.imp (fun i _ e => by unfold Mine at e; unfold PO; omega)⟩
end
/-- each family's session is there -/
def Fits (S : Ses.Tab) (T : Sto) : Prop := ∀ f ∈ T.fs, ∃ s ∈ S.l, s.id = f.ses
/-- all sessions are live -/
def AllLive (S : Ses.Tab) (now : Int) : Prop := ∀ s ∈ S.l, Ses.overB s now = false
theorem te_ok {now noted : Int} (h1 : 0 ≤ now) (h2 : now ≤ 1099511627776) (h3 : noted ≤ now) : Ses.timeErr now noted = 0 := by
  unfold Ses.timeErr
  rw [if_neg (by omega), if_neg (by omega)]
theorem fits_sweep {S : Ses.Tab} {T : Sto} (h : Fits S T) (now : Int) (ht : Ses.timeErr now S.noted = 0) : Fits (Ses.tSweep S now) (tDrop T (inS (Ses.sweepIds S now))) ∧ AllLive (Ses.tSweep S now) now ∧ (Ses.tSweep S now).noted = now := by
  have e1 : Ses.tSweep S now = ⟨S.next, now, S.l.filter fun s => !Ses.overB s now⟩ := by unfold Ses.tSweep; rw [if_neg (by simp [ht])]
  have e2 : Ses.sweepIds S now = Ses.wantedIds S.l (fun s => Ses.overB s now) := by unfold Ses.sweepIds; rw [if_neg (by simp [ht])]
  rw [e1, e2]
  refine ⟨fun f hf => ?_, fun s hs => ?_, rfl⟩
  · obtain ⟨f1, f2⟩ := List.mem_filter.1 hf
    obtain ⟨s, hs, e⟩ := h f f1
    refine ⟨s, List.mem_filter.2 ⟨hs, ?_⟩, e⟩
    cases hov : Ses.overB s now
    · rfl
    · have : inS (Ses.wantedIds S.l (fun s => Ses.overB s now)) f = true := by
        unfold inS
        rw [hasB_iff, ← e]
        unfold Ses.wantedIds
        exact List.mem_map.2 ⟨s, List.mem_filter.2 ⟨hs, hov⟩, rfl⟩
      rw [this] at f2
      cases f2
  · have := (List.mem_filter.1 hs).2
    simpa using this
theorem over_no {s : Ses.Sess} {now : Int} (h1 : now < s.used + 200) (h2 : now < s.since + 1000) (h3 : now < 1099511627776) : Ses.overB s now = false := by
  unfold Ses.overB Ses.untilOf
  simp
  omega
theorem over_iff {s : Ses.Sess} {now : Int} (h : Ses.overB s now = false) : now < s.used + 200 ∧ now < s.since + 1000 ∧ now < 1099511627776 := by
  unfold Ses.overB Ses.untilOf at h
  simp at h
  omega
theorem fits_begin {S : Ses.Tab} {T : Sto} (h : Fits S T) {now : Int} (hl : AllLive S now) (t u : ByteArray) (hn : now ≤ 100000) : Fits (Ses.tBegin S t u now).1 T ∧ AllLive (Ses.tBegin S t u now).1 now := by
  unfold Ses.tBegin
  split
  · exact ⟨h, hl⟩
  · refine ⟨fun f hf => ?_, fun s hs => ?_⟩
    · obtain ⟨s, hs, e⟩ := h f hf
      exact ⟨s, List.mem_append_left _ hs, e⟩
    · rcases List.mem_append.1 hs with hs | hs
      · exact hl s hs
      · rw [List.mem_singleton] at hs
        subst hs
        exact over_no (by show now < now + 200; omega) (by show now < now + 1000; omega) (by omega)
theorem fits_touch {S : Ses.Tab} {T : Sto} (ok : Ses.TabOk S) (h : Fits S T) {now : Int} (hl : AllLive S now) (id : Int) (hn : S.noted ≤ now) : Fits (Ses.tTouch S id now).1 T ∧ AllLive (Ses.tTouch S id now).1 now := by
  unfold Ses.tTouch
  split
  · exact ⟨h, hl⟩
  · rename_i h0
    have h0' : (Ses.tGet S id now).2 = 0 := by simpa using h0
    obtain ⟨g1, g2, g3, g4⟩ := Ses.tGet_ok h0'
    obtain ⟨x, hx⟩ : ∃ x, x = (Ses.tGet S id now).1 := ⟨_, rfl⟩
    rw [← hx] at g1 g2 g4 ⊢
    refine ⟨fun f hf => ?_, fun s hs => ?_⟩
    · obtain ⟨s, hs, e⟩ := h f hf
      refine ⟨_, List.mem_map.2 ⟨s, hs, rfl⟩, ?_⟩
      split
      · rename_i h1; show x.id = f.ses; omega
      · exact e
    · obtain ⟨s', hs', e⟩ := List.mem_map.1 hs
      split at e
      · subst e
        have := over_iff g4
        have := ok.tm x g1
        exact over_no (by show now < now + 200; omega) (by show now < x.since + 1000; omega) (by omega)
      · subst e; exact hl s' hs'
theorem fits_grant {S : Ses.Tab} {T : Sto} (h : Fits S T) {s : Ses.Sess} (hs : s ∈ S.l) (cli : ByteArray) (sco now : Int) : Fits S (tGrant T s.id cli sco now).2.2.2 := by
  unfold tGrant
  split
  · exact h
  · intro f hf
    rcases List.mem_append.1 hf with hf | hf
    · exact h f hf
    · rw [List.mem_singleton] at hf
      subst hf
      exact ⟨s, hs, rfl⟩
theorem tAccess_mem {T : Sto} {id now : Int} {a : Tok.Sess} (h : tAccess T id now = (a, 0)) : a ∈ T.ts := by
  unfold tAccess at h
  split at h
  · rename_i h1; injection h with _ h2; exact absurd h2 h1
  · split at h
    · rename_i h1; injection h with _ h2; exact absurd h2 h1
    · rename_i h1
      split at h
      · injection h with h3 _
        rw [← h3]
        exact (kFind_ok (by simpa using h1)).1
      · injection h with _ h2; cases h2
/-- what the law asks for of a good token -/
theorem good_live {S : Ses.Tab} {T : Sto} (sok : Ses.TabOk S) (ok : StoOk T) (h : Fits S T) {now : Int} (hl : AllLive S now) (ht : Ses.timeErr now S.noted = 0) {id : Int} {a : Tok.Sess} (ha : tAccess T id now = (a, 0)) :
    ∃ f s, fFind T.nf T.fs a.fam = (f, 0) ∧ Ses.tGet S f.ses now = (s, 0) := by
  obtain ⟨f, hf, e, _⟩ := ok.tk a (tAccess_mem ha)
  have h1 := fFind_in ok.upf hf (ok.idf f hf)
  rw [e] at h1
  obtain ⟨s, hs, es⟩ := h f hf
  refine ⟨f, s, h1, ?_⟩
  have hid := sok.ids s hs
  unfold Ses.tGet
  rw [if_neg (by simp [ht]), if_neg (by omega)]
  cases hfd : S.l.find? (fun s => s.id == f.ses) with
  | none => have := List.find?_eq_none.1 hfd s hs; simp [es] at this
  | some t =>
    have t1 := List.mem_of_find?_eq_some hfd
    have t2 : t.id = f.ses := by have := List.find?_some hfd; simpa using this
    have : t = s := Ses.Nums1.eq (num := Ses.Sess.id) (sok.up.imp (fun h => by omega)) t1 hs (t2.trans es.symm)
    subst this
    show (if Ses.overB t now = true then _ else _) = _
    rw [hl t hs]
    rfl
end Go.Proofs.Ytlfajgmhegcnaaa
