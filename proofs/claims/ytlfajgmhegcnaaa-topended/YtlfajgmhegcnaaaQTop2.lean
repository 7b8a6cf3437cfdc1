/- Each call that TopEnded makes, by a contract over sessions and tokens. -/
import Derived.Test.YtlfajgmhegcnaaaQTop
namespace Go.Proofs.Ytlfajgmhegcnaaa
open Go.RowKit Go.Maps Go.Sort Go.Shelf
set_option linter.unusedVariables false
set_option maxRecDepth 20000

theorem sCells_id (l : List Ses.Sess) (i : Nat) (hi : i < l.length) : (Ses.sCells l)[i * 5]? = some (.int .i64 l[i].id) := by
  induction l generalizing i with
  | nil => simp at hi
  | cons x r ih =>
    rw [Ses.sCells, List.flatMap_cons, ← Ses.sCells]
    cases i with
    | zero => rfl
    | succ m =>
      rw [List.getElem?_append_right (by simp; omega)]
      have hm : m < r.length := by simpa using hi
      have := ih m hm
      simp only [List.length_cons, List.length_nil, List.getElem_cons_succ]
      rw [show (m + 1) * 5 - (0 + 1 + 1 + 1 + 1 + 1) = m * 5 by omega]
      exact this
/-- the numbers of sessions that lie in a row -/
def IdsIn (w : World) (a : Option Addr) (l : List Ses.Sess) : Prop := ∀ i (h : i < l.length), ∃ b o, a = some ⟨b, o, none⟩ ∧ w.cell? ⟨b, o + i * 5, none⟩ = some (.int .i64 l[i].id)
theorem ids_of_own {w : World} {B n : Nat} {v : Value} {l : List Ses.Sess} (h : w.ownsRow B 36 5 v n (Ses.sCells l)) : ∃ a cap, v = .slice a l.length cap ∧ IdsIn w a l := by
  have hn : l.length = n := by have := h.1; rw [Ses.sCells_length] at this; omega
  subst hn
  rcases h.2 with ⟨rfl, h0⟩ | ⟨g, cap, cur, rfl, hb, hg, hc, hm, hs, ht⟩
  · refine ⟨none, 0, by rw [h0], fun i hi => ?_⟩
    omega
  · refine ⟨some ⟨g, 0, none⟩, cap, rfl, fun i hi => ⟨g, 0, rfl, ?_⟩⟩
    have := World.ownsRow.cellAt h (i * 5) (by omega)
    rw [Nat.zero_add, this, sCells_id l i hi]
section
variable {w : World} {B p mb q mf mt n : Nat} {S : Ses.Tab} {T : Sto} (h : Pair w B p mb q mf mt n S T) (hn : n ≤ 900)
include h hn
theorem pair_sweep (now : Int) : Calls Try.prog 6 #[.pointer (some ⟨p, 0, none⟩), .int .i64 now] w fun e w' => ∃ (a : Option Addr) (cp : Nat), e = .returned (.tuple #[.slice a (Ses.sweepIds S now).length cp, .int .i64 (Ses.timeErr now S.noted)]) ∧ Ints w' a (Ses.sweepIds S now) ∧ (Ses.sweepIds S now).length ≤ maxLen ∧ Pair w' B p mb q mf mt (n + 1) (Ses.tSweep S now) T ∧ Out (PO p mb q mf mt) w w' := by
  obtain ⟨m, hm, hs⟩ := h.ses
  have ls := h.ls
  refine (Ses.sweep_any hs h.sok (by omega) now).mono ?_
  rintro e w' ⟨v, rfl, hrow, hst, o⟩
  have hlen : (Ses.tSweep S now).l.length ≤ S.l.length := by
    unfold Ses.tSweep
    split
    · exact Nat.le_refl _
    · exact List.length_filter_le _ _
  have hlen2 : (Ses.sweepIds S now).length ≤ S.l.length := by
    unfold Ses.sweepIds
    split
    · exact Nat.zero_le _
    · unfold Ses.wantedIds; rw [List.length_map]; exact List.length_filter_le _ _
  obtain ⟨a, cp, rfl, hi, _⟩ := ints_of_own (zs := Ses.sweepIds S now) hrow
  have := h.stepS hst (by omega) (Ses.tSweep_ok h.sok now) (by omega) o
  exact ⟨a, cp, rfl, hi, by unfold maxLen; omega, this.1, this.2⟩
theorem pair_begin (t u : ByteArray) (now : Int) (ht : t.size ≤ maxLen) (hu : u.size ≤ maxLen) : Calls Try.prog 8 #[.pointer (some ⟨p, 0, none⟩), .agg #[.string t, .string u], .int .i64 now] w fun e w' => (∃ v, e = .returned v) ∧ Pair w' B p mb q mf mt (n + 1) (Ses.tBegin S t u now).1 T ∧ Out (PO p mb q mf mt) w w' := by
  obtain ⟨m, hm, hs⟩ := h.ses
  have ls := h.ls
  refine (Ses.begin_any hs h.sok (by omega) (by omega) t u now ht hu).mono ?_
  rintro e w' ⟨rfl, hst, o⟩
  have hlen : (Ses.tBegin S t u now).1.l.length ≤ S.l.length + 1 := by
    unfold Ses.tBegin
    split
    · exact Nat.le_succ _
    · simp
  have := h.stepS hst (by omega) (Ses.tBegin_ok h.sok t u now) (by omega) o
  exact ⟨⟨_, rfl⟩, this.1, this.2⟩
theorem pair_touch (id now : Int) : Calls Try.prog 11 #[.pointer (some ⟨p, 0, none⟩), .int .i64 id, .int .i64 now] w fun e w' => (∃ v, e = .returned v) ∧ Pair w' B p mb q mf mt (n + 1) (Ses.tTouch S id now).1 T ∧ Out (PO p mb q mf mt) w w' := by
  obtain ⟨m, hm, hs⟩ := h.ses
  have ls := h.ls
  refine (Ses.touch_any hs h.sok (by omega) id now).mono ?_
  rintro e w' ⟨rfl, hst, o⟩
  have hlen : (Ses.tTouch S id now).1.l.length ≤ S.l.length := by
    unfold Ses.tTouch
    split
    · exact Nat.le_refl _
    · simp
  have := h.stepS hst (by omega) (Ses.tTouch_ok h.sok id now) (by omega) o
  exact ⟨⟨_, rfl⟩, this.1, this.2⟩
theorem pair_live (t u : ByteArray) (now : Int) : Calls Try.prog 9 #[.pointer (some ⟨p, 0, none⟩), .agg #[.string t, .string u], .int .i64 now] w fun e w' => ∃ (a : Option Addr) (cp : Nat), e = .returned (.tuple #[.slice a (Ses.tLive S t u now).length cp, .int .i64 (Ses.timeErr now S.noted)]) ∧ IdsIn w' a (Ses.tLive S t u now) ∧ Pair w' B p mb q mf mt (n + 1) S T ∧ Out (PO p mb q mf mt) w w' := by
  obtain ⟨m, hm, hs⟩ := h.ses
  have ls := h.ls
  refine (Ses.tabLive_any hs h.sok (by omega) t u now).mono ?_
  rintro e w' ⟨v, rfl, hrow, hb⟩
  obtain ⟨a, cp, rfl, hi⟩ := ids_of_own hrow
  exact ⟨a, cp, rfl, hi, (h.below hb).more (by omega), Out.of_below hb⟩
theorem pair_endS {sa : Option Addr} {zs : List Int} (hs : Ints w sa zs) (sc : Nat) (hl : zs.length ≤ maxLen) : Calls Try.prog 7 #[.pointer (some ⟨q, 0, none⟩), .slice sa zs.length sc] w fun e w' => (∃ v, e = .returned v) ∧ Pair w' B p mb q mf mt (n + 1) S (tDrop T (inS zs)) ∧ Out (PO p mb q mf mt) w w' := by
  obtain ⟨n1, n2, h1, h2, ht⟩ := h.tok
  have lf := h.lf
  have lt := h.lt
  refine (endSessions_any ht h.ok (by omega) (by omega) hs sc hl).mono ?_
  rintro e w' ⟨v, rfl, hrow, hst, o⟩
  have l1 : (tDrop T (inS zs)).fs.length ≤ T.fs.length := List.length_filter_le _ _
  have l2 : (tDrop T (inS zs)).ts.length ≤ T.ts.length := List.length_filter_le _ _
  have := h.stepT hst (by omega) (by omega) (tDrop_ok h.ok _) (by omega) (by omega) o
  exact ⟨⟨_, rfl⟩, this.1, this.2⟩
theorem pair_grant (ses : Int) (cli : ByteArray) (sco now : Int) (hc : cli.size ≤ maxLen) (hs : 0 ≤ sco ∧ sco ≤ 255) : Calls Try.prog 10 #[.pointer (some ⟨q, 0, none⟩), .int .i64 ses, .string cli, .int .u8 sco, .int .i64 now] w fun e w' => (∃ v, e = .returned v) ∧ Pair w' B p mb q mf mt (n + 1) S (tGrant T ses cli sco now).2.2.2 ∧ Out (PO p mb q mf mt) w w' := by
  obtain ⟨n1, n2, h1, h2, ht⟩ := h.tok
  have lf := h.lf
  have lt := h.lt
  refine (grant_any ht h.ok (by omega) (by omega) (by omega) ses cli sco now hc).mono ?_
  rintro e w' ⟨rfl, ⟨m1, m2, k1, k2, h3⟩, o⟩
  have l1 : (tGrant T ses cli sco now).2.2.2.fs.length ≤ T.fs.length + 1 ∧ (tGrant T ses cli sco now).2.2.2.ts.length ≤ T.ts.length + 1 := by
    unfold tGrant
    split
    · exact ⟨Nat.le_succ _, Nat.le_succ _⟩
    · exact ⟨by simp, by simp⟩
  have := h.stepT h3 (by omega) (by omega) (tGrant_ok h.ok ses cli sco now hs) (by omega) (by omega) o
  exact ⟨⟨_, rfl⟩, this.1, this.2⟩
end
/-- times that lie in a row of the world -/
structure U16s (w : World) (a : Option Addr) (l : List Int) : Prop where
  cells : ∀ i (h : i < l.length), ∃ b o, a = some ⟨b, o, none⟩ ∧ w.cell? ⟨b, o + i, none⟩ = some (.int .u16 l[i])
  wf : ∀ x ∈ l, 0 ≤ x ∧ x ≤ 65535
  length : l.length ≤ maxLen

end Go.Proofs.Ytlfajgmhegcnaaa
