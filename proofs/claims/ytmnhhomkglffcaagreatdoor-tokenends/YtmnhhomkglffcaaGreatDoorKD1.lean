/- A store and the reference's store side by side; each call of both, by a contract over the pair. -/
import Derived.Test.YtmnhhomkglffcaaGreatDoorKP
namespace Go.Proofs.YtmnhhomkglffcaaGreatDoor
open Go.RowKit Go.Maps Go.Sort Go.Shelf
set_option linter.unusedVariables false
set_option maxRecDepth 20000

/-- a store, and the reference's store beside it, whatever that holds; n: how much was done -/
structure Duo (w : World) (B p mf mt r n : Nat) (T : Sto) : Prop where
  sto : ∃ n1 n2, n1 ≤ n ∧ n2 ≤ n ∧ StoAt w B p mf mt n1 n2 T
  ok : StoOk T
  lf : T.fs.length ≤ n
  lt : T.ts.length ≤ n
  ref : RSt w B r n
def DOut (p mf mt r k : Nat) : Prop := k = p ∨ k = mf ∨ k = mt ∨ k = r
section
variable {w w' : World} {B p mf mt r n n1 n2 : Nat} {T T' : Sto} {a : Option Addr} {c : Nat} {a' : Option Addr} {c' : Nat} {U : Sto}
theorem sep (h : StoAt w B p mf mt n1 n2 T) {B' : Nat} (h' : RAt w B' r a c a' c' U) : ∀ k, rBlk r a a' k → k ≠ p ∧ k ≠ mf ∧ k ≠ mt := by
  have hp := h.obj
  obtain ⟨e1, c1, hm1⟩ := h.mapf.isMap
  obtain ⟨e2, c2, hm2⟩ := h.mapt.isMap
  have key : ∀ k cs t, w.heap[k]? = some (.cells cs t (0, 0)) → t ≠ 59 → k ≠ p ∧ k ≠ mf ∧ k ≠ mt := fun k cs t hk ht => by
    refine ⟨?_, ?_, ?_⟩
    · rintro rfl; rw [hp] at hk; cases hk; exact ht rfl
    · rintro rfl; rw [hm1] at hk; cases hk
    · rintro rfl; rw [hm2] at hk; cases hk
  rintro k (rfl | ⟨ad, e, rfl⟩ | ⟨ad, e, rfl⟩)
  · exact key k _ _ h'.obj (by decide)
  · rcases h'.rowf.2 with ⟨e3, _⟩ | ⟨g, cp, cur, e3, _, h3, _⟩
    · injection e3 with e4; rw [e] at e4; cases e4
    · injection e3 with e4; rw [e] at e4; cases e4
      exact key g _ _ h3 (by decide)
  · rcases h'.rowt.2 with ⟨e3, _⟩ | ⟨g, cp, cur, e3, _, h3, _⟩
    · injection e3 with e4; rw [e] at e4; cases e4
    · injection e3 with e4; rw [e] at e4; cases e4
      exact key g _ _ h3 (by decide)
theorem Duo.below (h : Duo w B p mf mt r n T) (hb : Below w.heap.size w w') : Duo w' B p mf mt r n T := by
  obtain ⟨⟨n1, n2, h1, h2, hs⟩, ok, lf, lt, hr⟩ := h
  exact ⟨⟨n1, n2, h1, h2, hs.below hb⟩, ok, lf, lt, hr.below hb⟩
theorem Duo.more {m : Nat} (h : Duo w B p mf mt r n T) (hm : n ≤ m) : Duo w B p mf mt r m T := by
  obtain ⟨⟨n1, n2, h1, h2, hs⟩, ok, lf, lt, hr⟩ := h
  exact ⟨⟨n1, n2, by omega, by omega, hs⟩, ok, by omega, by omega, hr.more hm⟩
theorem Duo.lts (h : Duo w B p mf mt r n T) : p < w.heap.size ∧ mf < w.heap.size ∧ mt < w.heap.size ∧ r < w.heap.size ∧ B ≤ p ∧ B ≤ mf ∧ B ≤ mt ∧ B ≤ r := by
  obtain ⟨⟨n1, n2, h1, h2, hs⟩, ok, lf, lt, ⟨a, c, a', c', U, hr, _, _⟩⟩ := h
  exact ⟨hs.lts.1, hs.lts.2.1, hs.lts.2.2, hr.lt, hs.bp, hs.bf, hs.bt, hr.br⟩
theorem Duo.stepP (h : Duo w B p mf mt r n T) (hs : ∃ n1' n2', n1' ≤ n + 1 ∧ n2' ≤ n + 1 ∧ StoAt w' B p mf mt n1' n2' T') (ok' : StoOk T') (hf : T'.fs.length ≤ n + 1) (ht : T'.ts.length ≤ n + 1) (o : Out (Mine p mf mt) w w') : Duo w' B p mf mt r (n + 1) T' := by
  obtain ⟨⟨n1, n2, h1, h2, hs0⟩, ok, lf, lt, ⟨a, c, a', c', U, hr, u1, u2⟩⟩ := h
  refine ⟨hs, ok', hf, ht, ⟨a, c, a', c', U, hr.keep (fun k hk => o.block k (hr.lts k hk).2 (fun e => ?_)), by omega, by omega⟩⟩
  have := sep hs0 hr k hk
  unfold Mine at e
  omega
theorem Duo.stepR (h : Duo w B p mf mt r n T) {m1 m2 : Nat} (hl : Less w' B r m1 m2) (hm1 : m1 ≤ n + 1) (hm2 : m2 ≤ n + 1) (o : Out (fun k => k = r) w w') : Duo w' B p mf mt r (n + 1) T := by
  obtain ⟨⟨n1, n2, h1, h2, hs0⟩, ok, lf, lt, ⟨a, c, a', c', U, hr, u1, u2⟩⟩ := h
  obtain ⟨a3, c3, a3', c3', U3, hr3, v1, v2⟩ := hl
  have hse := sep hs0 hr r (.inl rfl)
  exact ⟨⟨n1, n2, by omega, by omega, hs0.keep (o.block p hs0.lts.1 (fun e => hse.1 e.symm)) (o.block mf hs0.lts.2.1 (fun e => hse.2.1 e.symm)) (o.block mt hs0.lts.2.2 (fun e => hse.2.2 e.symm))⟩, ok, by omega, by omega, ⟨a3, c3, a3', c3', U3, hr3, by omega, by omega⟩⟩
theorem Duo.stepB (h : Duo w B p mf mt r n T) (hb : Below w.heap.size w w') : Duo w' B p mf mt r (n + 1) T := (h.below hb).more (by omega)
theorem out_mine (o : Out (Mine p mf mt) w w') : Out (DOut p mf mt r) w w' := o.imp (fun i _ e => by unfold Mine at e; unfold DOut; omega)
theorem out_r (o : Out (fun k => k = r) w w') : Out (DOut p mf mt r) w w' := o.imp (fun i _ e => by unfold DOut; omega)
end
theorem tGrant_len (T : Sto) (ses : Int) (cli : ByteArray) (sco now : Int) : (tGrant T ses cli sco now).2.2.2.fs.length ≤ T.fs.length + 1 ∧ (tGrant T ses cli sco now).2.2.2.ts.length ≤ T.ts.length + 1 := by
  unfold tGrant
  split
  · exact ⟨Nat.le_succ _, Nat.le_succ _⟩
  · exact ⟨by simp, by simp⟩
theorem tDrop_len (T : Sto) (f : Fam.Sess → Bool) : (tDrop T f).fs.length ≤ T.fs.length ∧ (tDrop T f).ts.length ≤ T.ts.length := ⟨List.length_filter_le _ _, List.length_filter_le _ _⟩
theorem tEnd_len (T : Sto) (id : Int) : (tEnd T id).fs.length ≤ T.fs.length ∧ (tEnd T id).ts.length ≤ T.ts.length := by
  unfold tEnd
  split
  · exact ⟨Nat.le_refl _, Nat.le_refl _⟩
  · exact tDrop_len T _
theorem tSweep_len (T : Sto) (now : Int) : (tSweep T now).fs.length ≤ T.fs.length ∧ (tSweep T now).ts.length ≤ T.ts.length := by
  unfold tSweep
  split
  · exact ⟨Nat.le_refl _, Nat.le_refl _⟩
  · exact ⟨Nat.le_refl _, List.length_filter_le _ _⟩
theorem tExch_len (T : Sto) (id sco now : Int) : (tExch T id sco now).2.2.fs.length ≤ T.fs.length ∧ (tExch T id sco now).2.2.ts.length ≤ T.ts.length + 1 := by
  unfold tExch
  split
  · exact ⟨Nat.le_refl _, Nat.le_succ _⟩
  · split
    · exact ⟨Nat.le_refl _, Nat.le_succ _⟩
    · split
      · exact ⟨Nat.le_refl _, Nat.le_succ _⟩
      · exact ⟨Nat.le_refl _, by simp⟩
theorem tRefresh_len (T : Sto) (id num now : Int) : (tRefresh T id num now).2.2.2.fs.length ≤ T.fs.length ∧ (tRefresh T id num now).2.2.2.ts.length ≤ T.ts.length + 1 := by
  unfold tRefresh
  split
  · exact ⟨Nat.le_refl _, Nat.le_succ _⟩
  · split
    · show (if _ then _ else T : Sto).fs.length ≤ _ ∧ (if _ then _ else T : Sto).ts.length ≤ _
      split
      · have := tEnd_len T id
        exact ⟨this.1, by have := this.2; show (tEnd T id).ts.length ≤ _; omega⟩
      · exact ⟨Nat.le_refl _, Nat.le_succ _⟩
    · exact ⟨by simp [putFam], by simp⟩

/-- the answers of the calls -/
def FTZ (e : Ending) : Prop := ∃ (f : Fam.Sess) (t : Tok.Sess) (z : Int), e = .returned (.tuple #[Fam.sessV f, Tok.sessV t, .int .i64 z])
def TZ (e : Ending) : Prop := ∃ (t : Tok.Sess) (z : Int), e = .returned (.tuple #[Tok.sessV t, .int .i64 z])
def YZ (e : Ending) : Prop := ∃ y z : Int, e = .returned (.tuple #[.int .i64 y, .int .i64 z])
def IZ (e : Ending) : Prop := ∃ z : Int, e = .returned (.int .i64 z)
section
variable {w : World} {B p mf mt r n : Nat} {T : Sto} (h : Duo w B p mf mt r n T) (hn : n ≤ 1000)
include h hn
theorem duo_grant (ses : Int) (cli : ByteArray) (sco now : Int) (hc : cli.size ≤ maxLen) (hs : 0 ≤ sco ∧ sco ≤ 255) :
    Calls Tryz.prog 16 #[.pointer (some ⟨p, 0, none⟩), .int .i64 ses, .string cli, .int .u8 sco, .int .i64 now] w fun e w' => FTZ e ∧ Duo w' B p mf mt r (n + 1) (tGrant T ses cli sco now).2.2.2 ∧ Out (DOut p mf mt r) w w' := by
  obtain ⟨n1, n2, h1, h2, hs0⟩ := h.sto
  have l1 := h.lf
  have l2 := h.lt
  refine (grant_any hs0 h.ok (by omega) (by omega) (by omega) ses cli sco now hc).mono ?_
  rintro e w' ⟨rfl, ⟨m1, m2, k1, k2, h3⟩, o⟩
  have := tGrant_len T ses cli sco now
  exact ⟨⟨_, _, _, rfl⟩, h.stepP ⟨m1, m2, by omega, by omega, h3⟩ (tGrant_ok h.ok ses cli sco now hs) (by omega) (by omega) o, out_mine o⟩
theorem duo_refresh (id num now : Int) :
    Calls Tryz.prog 17 #[.pointer (some ⟨p, 0, none⟩), .int .i64 id, .int .i64 num, .int .i64 now] w fun e w' => FTZ e ∧ Duo w' B p mf mt r (n + 1) (tRefresh T id num now).2.2.2 ∧ Out (DOut p mf mt r) w w' := by
  obtain ⟨n1, n2, h1, h2, hs0⟩ := h.sto
  have l1 := h.lf
  have l2 := h.lt
  refine (refresh_any hs0 h.ok (by omega) (by omega) (by omega) (by omega) id num now).mono ?_
  rintro e w' ⟨rfl, ⟨m1, m2, k1, k2, h3⟩, o⟩
  have := tRefresh_len T id num now
  exact ⟨⟨_, _, _, rfl⟩, h.stepP ⟨m1, m2, by omega, by omega, h3⟩ (tRefresh_ok h.ok id num now) (by omega) (by omega) o, out_mine o⟩
omit hn in
theorem duo_access (id now : Int) :
    Calls Tryz.prog 18 #[.pointer (some ⟨p, 0, none⟩), .int .i64 id, .int .i64 now] w fun e w' => TZ e ∧ Duo w' B p mf mt r (n + 1) T ∧ Out (DOut p mf mt r) w w' := by
  obtain ⟨n1, n2, h1, h2, hs0⟩ := h.sto
  refine (access_any hs0 h.ok id now).mono ?_
  rintro e w' ⟨rfl, hb⟩
  exact ⟨⟨_, _, rfl⟩, h.stepB hb, Out.of_below hb⟩
theorem duo_exch (id sco now : Int) (hs : 0 ≤ sco ∧ sco ≤ 255) :
    Calls Tryz.prog 22 #[.pointer (some ⟨p, 0, none⟩), .int .i64 id, .int .u8 sco, .int .i64 now] w fun e w' => TZ e ∧ Duo w' B p mf mt r (n + 1) (tExch T id sco now).2.2 ∧ Out (DOut p mf mt r) w w' := by
  obtain ⟨n1, n2, h1, h2, hs0⟩ := h.sto
  have l1 := h.lf
  have l2 := h.lt
  refine (exch_any hs0 h.ok (by omega) id sco now hs).mono ?_
  rintro e w' ⟨rfl, ⟨m2, k2, h3⟩, o⟩
  have := tExch_len T id sco now
  exact ⟨⟨_, _, rfl⟩, h.stepP ⟨n1, m2, by omega, by omega, h3⟩ (tExch_ok h.ok id sco now hs) (by omega) (by omega) o, out_mine o⟩
theorem duo_end (id : Int) :
    Calls Tryz.prog 24 #[.pointer (some ⟨p, 0, none⟩), .int .i64 id] w fun e w' => IZ e ∧ Duo w' B p mf mt r (n + 1) (tEnd T id) ∧ Out (DOut p mf mt r) w w' := by
  obtain ⟨n1, n2, h1, h2, hs0⟩ := h.sto
  have l1 := h.lf
  have l2 := h.lt
  refine (end_any hs0 h.ok (by omega) (by omega) id).mono ?_
  rintro e w' ⟨rfl, h3, o⟩
  have := tEnd_len T id
  exact ⟨⟨_, rfl⟩, h.stepP ⟨n1, n2, by omega, by omega, h3⟩ (tEnd_ok h.ok id) (by omega) (by omega) o, out_mine o⟩
theorem duo_sweep (now : Int) :
    Calls Tryz.prog 30 #[.pointer (some ⟨p, 0, none⟩), .int .i64 now] w fun e w' => YZ e ∧ Duo w' B p mf mt r (n + 1) (tSweep T now) ∧ Out (DOut p mf mt r) w w' := by
  obtain ⟨n1, n2, h1, h2, hs0⟩ := h.sto
  have l1 := h.lf
  have l2 := h.lt
  refine (sweep_any hs0 h.ok (by omega) now).mono ?_
  rintro e w' ⟨⟨y, rfl⟩, h3, o⟩
  have := tSweep_len T now
  exact ⟨⟨_, _, rfl⟩, h.stepP ⟨n1, n2, by omega, by omega, h3⟩ (tSweep_ok h.ok now) (by omega) (by omega) o, out_mine o⟩
theorem duo_endS {sa : Option Addr} {zs : List Int} (hs : Ints w sa zs) (sc : Nat) (hl : zs.length ≤ maxLen) :
    Calls Tryz.prog 9 #[.pointer (some ⟨p, 0, none⟩), .slice sa zs.length sc] w fun e w' => ∃ (a : Option Addr) (cp : Nat) (ys : List Int), e = .returned (.slice a ys.length cp) ∧ w'.ownsRow w.heap.size 3 1 (.slice a ys.length cp) ys.length (zCells ys) ∧ ys.length ≤ 1000 ∧ Duo w' B p mf mt r (n + 1) (tDrop T (inS zs)) ∧ Out (DOut p mf mt r) w w' := by
  obtain ⟨n1, n2, h1, h2, hs0⟩ := h.sto
  have l1 := h.lf
  have l2 := h.lt
  refine (endSessions_any hs0 h.ok (by omega) (by omega) hs sc hl).mono ?_
  rintro e w' ⟨v, rfl, hrow, h3, o⟩
  have hlen : (Fam.wantedIds T.fs (inS zs)).length = (T.fs.filter (inS zs)).length := by simp [Fam.wantedIds]
  have := tDrop_len T (inS zs)
  obtain ⟨a, cp, rfl, _, _⟩ := ints_of_own hrow
  rw [← hlen] at hrow
  exact ⟨a, cp, _, rfl, hrow, by rw [hlen]; have := List.length_filter_le (inS zs) T.fs; omega, h.stepP ⟨n1, n2, by omega, by omega, h3⟩ (tDrop_ok h.ok _) (by omega) (by omega) o, out_mine o⟩
theorem duo_endC (cli : ByteArray) {sa : Option Addr} {zs : List Int} (hs : Ints w sa zs) (sc : Nat) (hl : zs.length ≤ maxLen) :
    Calls Tryz.prog 28 #[.pointer (some ⟨p, 0, none⟩), .string cli, .slice sa zs.length sc] w fun e w' => ∃ (a : Option Addr) (cp : Nat) (ys : List Int), e = .returned (.slice a ys.length cp) ∧ w'.ownsRow w.heap.size 3 1 (.slice a ys.length cp) ys.length (zCells ys) ∧ ys.length ≤ 1000 ∧ Duo w' B p mf mt r (n + 1) (tDrop T (inC cli zs)) ∧ Out (DOut p mf mt r) w w' := by
  obtain ⟨n1, n2, h1, h2, hs0⟩ := h.sto
  have l1 := h.lf
  have l2 := h.lt
  refine (endClient_any hs0 h.ok (by omega) (by omega) cli hs sc hl).mono ?_
  rintro e w' ⟨v, rfl, hrow, h3, o⟩
  have hlen : (Fam.wantedIds T.fs (inC cli zs)).length = (T.fs.filter (inC cli zs)).length := by simp [Fam.wantedIds]
  have := tDrop_len T (inC cli zs)
  obtain ⟨a, cp, rfl, _, _⟩ := ints_of_own hrow
  rw [← hlen] at hrow
  exact ⟨a, cp, _, rfl, hrow, by rw [hlen]; have := List.length_filter_le (inC cli zs) T.fs; omega, h.stepP ⟨n1, n2, by omega, by omega, h3⟩ (tDrop_ok h.ok _) (by omega) (by omega) o, out_mine o⟩
theorem duo_rgrant (hB : B ≤ w.heap.size) (ses : Int) (cli : ByteArray) (sco now : Int) (hc : cli.size ≤ maxLen) :
    Calls Tryz.prog 19 #[.pointer (some ⟨r, 0, none⟩), .int .i64 ses, .string cli, .int .u8 sco, .int .i64 now] w fun e w' => FTZ e ∧ Duo w' B p mf mt r (n + 1) T ∧ Out (DOut p mf mt r) w w' := by
  obtain ⟨a, c, a', c', U, hr, u1, u2⟩ := h.ref
  refine (rGrant_any hr hB (by omega) (by omega) ses cli sco now hc).mono ?_
  rintro e w' ⟨he, hl, o⟩
  exact ⟨he, h.stepR hl (by omega) (by omega) o, out_r o⟩
theorem duo_rrefresh (hB : B ≤ w.heap.size) (id num now : Int) :
    Calls Tryz.prog 20 #[.pointer (some ⟨r, 0, none⟩), .int .i64 id, .int .i64 num, .int .i64 now] w fun e w' => FTZ e ∧ Duo w' B p mf mt r (n + 1) T ∧ Out (DOut p mf mt r) w w' := by
  obtain ⟨a, c, a', c', U, hr, u1, u2⟩ := h.ref
  refine (rRefresh_any hr hB (by omega) (by omega) id num now).mono ?_
  rintro e w' ⟨he, hl, o⟩
  exact ⟨he, h.stepR hl (by omega) (by omega) o, out_r o⟩
theorem duo_raccess (id now : Int) :
    Calls Tryz.prog 21 #[.pointer (some ⟨r, 0, none⟩), .int .i64 id, .int .i64 now] w fun e w' => TZ e ∧ Duo w' B p mf mt r (n + 1) T ∧ Out (DOut p mf mt r) w w' := by
  obtain ⟨a, c, a', c', U, hr, u1, u2⟩ := h.ref
  refine (rAccess_any hr (by omega) id now).mono ?_
  rintro e w' ⟨he, hb⟩
  exact ⟨he, h.stepB hb, Out.of_below hb⟩
theorem duo_rexch (hB : B ≤ w.heap.size) (id sco now : Int) :
    Calls Tryz.prog 23 #[.pointer (some ⟨r, 0, none⟩), .int .i64 id, .int .u8 sco, .int .i64 now] w fun e w' => TZ e ∧ Duo w' B p mf mt r (n + 1) T ∧ Out (DOut p mf mt r) w w' := by
  obtain ⟨a, c, a', c', U, hr, u1, u2⟩ := h.ref
  refine (rExch_any hr hB (by omega) id sco now).mono ?_
  rintro e w' ⟨he, hl, o⟩
  exact ⟨he, h.stepR hl (by omega) (by omega) o, out_r o⟩
theorem duo_rend (hB : B ≤ w.heap.size) (id : Int) :
    Calls Tryz.prog 25 #[.pointer (some ⟨r, 0, none⟩), .int .i64 id] w fun e w' => IZ e ∧ Duo w' B p mf mt r (n + 1) T ∧ Out (DOut p mf mt r) w w' := by
  obtain ⟨a, c, a', c', U, hr, u1, u2⟩ := h.ref
  refine (rEnd_any hr hB (by omega) (by omega) id).mono ?_
  rintro e w' ⟨he, hl, o⟩
  exact ⟨he, h.stepR hl (by omega) (by omega) o, out_r o⟩
theorem duo_rsweep (hB : B ≤ w.heap.size) (now : Int) :
    Calls Tryz.prog 31 #[.pointer (some ⟨r, 0, none⟩), .int .i64 now] w fun e w' => YZ e ∧ Duo w' B p mf mt r (n + 1) T ∧ Out (DOut p mf mt r) w w' := by
  obtain ⟨a, c, a', c', U, hr, u1, u2⟩ := h.ref
  refine (rSweep_any hr hB (by omega) now).mono ?_
  rintro e w' ⟨he, hl, o⟩
  exact ⟨he, h.stepR hl (by omega) (by omega) o, out_r o⟩
theorem duo_rendS (hB : B ≤ w.heap.size) {sa : Option Addr} {zs : List Int} (hs : Ints w sa zs) (hsb : ∀ ad, sa = some ad → zs ≠ [] → ad.block < B) (sc : Nat) (hl : zs.length ≤ maxLen) :
    Calls Tryz.prog 27 #[.pointer (some ⟨r, 0, none⟩), .slice sa zs.length sc] w fun e w' => (∃ (a : Option Addr) (cp : Nat) (ys : List Int), e = .returned (.slice a ys.length cp) ∧ w'.ownsRow w.heap.size 3 1 (.slice a ys.length cp) ys.length (zCells ys) ∧ ys.length ≤ 1000) ∧ Duo w' B p mf mt r (n + 1) T ∧ Out (DOut p mf mt r) w w' := by
  obtain ⟨a, c, a', c', U, hr, u1, u2⟩ := h.ref
  refine (rEndSessions_any hr hB (by omega) (by omega) hs hsb sc hl).mono ?_
  rintro e w' ⟨⟨a3, c3, z3, he, hi, hz⟩, hl, o⟩
  exact ⟨⟨a3, c3, z3, he, hi, by omega⟩, h.stepR hl (by omega) (by omega) o, out_r o⟩
theorem duo_rendC (hB : B ≤ w.heap.size) (cli : ByteArray) {sa : Option Addr} {zs : List Int} (hs : Ints w sa zs) (hsb : ∀ ad, sa = some ad → zs ≠ [] → ad.block < B) (sc : Nat) (hl : zs.length ≤ maxLen) :
    Calls Tryz.prog 29 #[.pointer (some ⟨r, 0, none⟩), .string cli, .slice sa zs.length sc] w fun e w' => (∃ (a : Option Addr) (cp : Nat) (ys : List Int), e = .returned (.slice a ys.length cp) ∧ w'.ownsRow w.heap.size 3 1 (.slice a ys.length cp) ys.length (zCells ys) ∧ ys.length ≤ 1000) ∧ Duo w' B p mf mt r (n + 1) T ∧ Out (DOut p mf mt r) w w' := by
  obtain ⟨a, c, a', c', U, hr, u1, u2⟩ := h.ref
  refine (rEndClient_any hr hB (by omega) (by omega) cli hs hsb sc hl).mono ?_
  rintro e w' ⟨⟨a3, c3, z3, he, hi, hz⟩, hl, o⟩
  exact ⟨⟨a3, c3, z3, he, hi, by omega⟩, h.stepR hl (by omega) (by omega) o, out_r o⟩
end

/-- some Bool, and nothing that was there is changed -/
def BoolPost (w : World) (e : Ending) (w' : World) : Prop := (∃ b : Bool, e = .returned (.bool b)) ∧ Below w.heap.size w w'
set_option maxHeartbeats 1600000 in
theorem sameInts_any {w : World} {a b : Option Addr} {zs ys : List Int} (ha : Ints w a zs) (hb : Ints w b ys) (c d : Nat) (hl : zs.length ≤ 1000000000) (hl2 : ys.length ≤ 1000000000) :
    Calls Tryz.prog 26 #[.slice a zs.length c, .slice b ys.length d] w (BoolPost w) := by
  have Ha := hid ha
  have Hb := hid hb
  clear ha hb
  generalize hN : zs.length = N at *
  have HN := hid hN
  clear hN
  generalize hM : ys.length = M at *
  have HM := hid hM
  clear hM
  by_cases hne : N = M
  · subst hne
    go_enter Tryz.func26, Tryz.ntmps26
    go_wp2
    go_loopw [5] (fun i wr => ∃ k : Nat, k ≤ N ∧ i = .int .i64 k ∧ Below w.heap.size w wr) (fun i _ => N - (intOf i).toNat)
    case atStart => exact ⟨0, Nat.zero_le _, rfl, Below.refl _ _⟩
    case round =>
      obtain ⟨k, hk, rfl, hbl⟩ := hrel
      have Hbl := hid hbl
      clear hbl
      by_cases hlt : k < N
      · obtain ⟨b1, o1, e1, c1⟩ := (Ha.out.below Hbl.out) k (by rw [HN.out]; exact hlt)
        obtain ⟨b2, o2, e2, c2⟩ := (Hb.out.below Hbl.out) k (by rw [HM.out]; exact hlt)
        cases e1
        cases e2
        generalize zs[k]'(by rw [HN.out]; exact hlt) = z at *
        generalize ys[k]'(by rw [HM.out]; exact hlt) = y at *
        cases hq : (z == y)
        · go_wp2
          go_region
          all_goals
            go_wp2
            go_ret
            exact ⟨⟨_, rfl⟩, Hbl.out.trans (below_drewN _ _ 1)⟩
        · go_wp2
          go_region
          all_goals
            go_wp2
            go_roundw
            case rel => exact ⟨k + 1, by omega, by go_num, Hbl.out.trans (below_drewN _ _ 1)⟩
            case measure => simp [intOf]; omega
      · have e : k = N := by omega
        subst e
        go_wp2
        go_ret
        exact ⟨⟨_, rfl⟩, Hbl.out⟩
  · have hq : ((N : Int) == (M : Int)) = false := by simp; omega
    go_enter Tryz.func26, Tryz.ntmps26
    go_wp2
    go_ret
    exact ⟨⟨_, rfl⟩, Below.refl _ _⟩
end Go.Proofs.YtmnhhomkglffcaaGreatDoor
