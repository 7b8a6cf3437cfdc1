/- do of the laws on tokens: kinds 0 to 3. (Printed by gen/kd2.py.) -/
import Derived.Test.YtmnhhomkglffcaaGreatDoorKD1
namespace Go.Proofs.YtmnhhomkglffcaaGreatDoor
open Go.RowKit Go.Maps Go.Sort Go.Shelf
set_option linter.unusedVariables false
set_option maxRecDepth 20000

/-- a deed -/
structure KDeed where
  kind : Int
  id : Int
  num : Int
  now : Int
  cli : ByteArray
  sco : Int
  sa : Option Addr
  zs : List Int
  sc : Nat
/-- .. as it was handed in: its numbers lie below B -/
structure DeedOk (w : World) (B : Nat) (x : KDeed) : Prop where
  hc : x.cli.size ≤ maxLen
  hs : 0 ≤ x.sco ∧ x.sco ≤ 255
  hi : Ints w x.sa x.zs
  hib : ∀ ad, x.sa = some ad → x.zs ≠ [] → ad.block < B
  hl : x.zs.length ≤ maxLen
/-- what a deed does -/
def tDo (T : Sto) (x : KDeed) : Sto :=
  if x.kind = 0 then (tGrant T x.id x.cli x.sco x.now).2.2.2
  else if x.kind = 1 then (tRefresh T x.id x.num x.now).2.2.2
  else if x.kind = 2 then T
  else if x.kind = 3 then (tExch T x.id x.sco x.now).2.2
  else if x.kind = 4 then tEnd T x.id
  else if x.kind = 5 then tDrop T (inS x.zs)
  else if x.kind = 6 then tDrop T (inC x.cli x.zs)
  else tSweep T x.now
def DoPost (w : World) (B p mf mt r n : Nat) (T : Sto) (e : Ending) (w' : World) : Prop := (∃ b : Bool, e = .returned (.bool b)) ∧ Duo w' B p mf mt r n T ∧ Out (DOut p mf mt r) w w'
abbrev deedV (x : KDeed) : Value := .agg #[.int .i64 x.kind, .int .i64 x.id, .int .i64 x.num, .int .i64 x.now, .string x.cli, .int .u8 x.sco, .slice x.sa x.zs.length x.sc]
/-- how two of them compare, field by field -/
inductive FCmp (s t : Fam.Sess) : Prop
  | n0  (c0 : (s.id == t.id) = false)
  | n1 (c0 : (s.id == t.id) = true) (c1 : (s.ses == t.ses) = false)
  | n2 (c0 : (s.id == t.id) = true) (c1 : (s.ses == t.ses) = true) (c2 : (s.cli.toList == t.cli.toList) = false)
  | n3 (c0 : (s.id == t.id) = true) (c1 : (s.ses == t.ses) = true) (c2 : (s.cli.toList == t.cli.toList) = true) (c3 : (s.sco == t.sco) = false)
  | n4 (c0 : (s.id == t.id) = true) (c1 : (s.ses == t.ses) = true) (c2 : (s.cli.toList == t.cli.toList) = true) (c3 : (s.sco == t.sco) = true) (c4 : (s.nxt == t.nxt) = false)
  | all (c0 : (s.id == t.id) = true) (c1 : (s.ses == t.ses) = true) (c2 : (s.cli.toList == t.cli.toList) = true) (c3 : (s.sco == t.sco) = true) (c4 : (s.nxt == t.nxt) = true)
theorem FCmp_of (s t : Fam.Sess) : FCmp s t := by
  cases c0 : (s.id == t.id)
  · exact .n0 c0
  · skip
    cases c1 : (s.ses == t.ses)
    · exact .n1 c0 c1
    · skip
      cases c2 : (s.cli.toList == t.cli.toList)
      · exact .n2 c0 c1 c2
      · skip
        cases c3 : (s.sco == t.sco)
        · exact .n3 c0 c1 c2 c3
        · skip
          cases c4 : (s.nxt == t.nxt)
          · exact .n4 c0 c1 c2 c3 c4
          · exact .all c0 c1 c2 c3 c4
/-- how two of them compare, field by field -/
inductive TCmp (s t : Tok.Sess) : Prop
  | n0  (c0 : (s.id == t.id) = false)
  | n1 (c0 : (s.id == t.id) = true) (c1 : (s.fam == t.fam) = false)
  | n2 (c0 : (s.id == t.id) = true) (c1 : (s.fam == t.fam) = true) (c2 : (s.sco == t.sco) = false)
  | n3 (c0 : (s.id == t.id) = true) (c1 : (s.fam == t.fam) = true) (c2 : (s.sco == t.sco) = true) (c3 : (s.unt == t.unt) = false)
  | all (c0 : (s.id == t.id) = true) (c1 : (s.fam == t.fam) = true) (c2 : (s.sco == t.sco) = true) (c3 : (s.unt == t.unt) = true)
theorem TCmp_of (s t : Tok.Sess) : TCmp s t := by
  cases c0 : (s.id == t.id)
  · exact .n0 c0
  · skip
    cases c1 : (s.fam == t.fam)
    · exact .n1 c0 c1
    · skip
      cases c2 : (s.sco == t.sco)
      · exact .n2 c0 c1 c2
      · skip
        cases c3 : (s.unt == t.unt)
        · exact .n3 c0 c1 c2 c3
        · exact .all c0 c1 c2 c3
set_option maxHeartbeats 6400000 in
theorem doK_0 {w : World} {B p mf mt r n : Nat} {T : Sto} (h : Duo w B p mf mt r n T) (hn : n ≤ 900) (hB : B ≤ w.heap.size) (x : KDeed) (hx : DeedOk w B x) (hk : x.kind = 0) :
    Calls Tryz.prog 7 #[.pointer (some ⟨p, 0, none⟩), .pointer (some ⟨r, 0, none⟩), deedV x] w (DoPost w B p mf mt r (n + 2) (tDo T x)) := by
  obtain ⟨lp, lf, lm, lr, bp, bf, bm, br⟩ := h.lts
  have Htd : Hid (tDo T x = (tGrant T x.id x.cli x.sco x.now).2.2.2) := by show _ = _; unfold tDo; rw [if_pos hk]
  obtain ⟨kd, xi, xm, xn, xc, xs, xa, xz, xd⟩ := x
  obtain ⟨hc, hs, hi, hib, hl⟩ := hx
  dsimp only [deedV] at *
  rw [Htd.out]
  clear Htd
  subst hk
  obtain ⟨W, hW⟩ : ∃ W, W = w.alloc (.cells #[.int .i64 0, .int .i64 xi, .int .i64 xm, .int .i64 xn, .string xc, .int .u8 xs, .slice xa xz.length xd] 32) := ⟨_, rfl⟩
  have hb1 : Below w.heap.size w W := by rw [hW]; exact (Below.refl _ w).alloc (Nat.le_refl _) _
  have t0 : W.heap[w.heap.size]? = some (.cells #[.int .i64 0, .int .i64 xi, .int .i64 xm, .int .i64 xn, .string xc, .int .u8 xs, .slice xa xz.length xd] 32 (0, 0)) := by rw [hW]; exact (MapKept.heap_alloc w _).1
  have d0 := (Array.getElem?_eq_some_iff.1 t0).1
  have h1 := h.below hb1
  have nd : ¬ DOut p mf mt r w.heap.size := by unfold DOut; omega
  have HP := hid (duo_grant h1 (by omega) xi xc xs xn hc hs)
  obtain ⟨T', hT'⟩ : ∃ T', T' = (tGrant T xi xc xs xn).2.2.2 := ⟨_, rfl⟩
  rw [← hT'] at HP ⊢
  have HR := hid (fun (V : World) (hV : Duo V B p mf mt r (n + 1) T') (hBV : B ≤ V.heap.size) => duo_rgrant hV (by omega) hBV xi xc xs xn hc)
  have HW := hid hW
  have HB := hid hb1
  have T0 := hid t0
  clear h h1 hT' hW hb1 t0 hi hib
  go_enter Tryz.func7, Tryz.ntmps7
  go_wp2_with (go_at_call 16; rw [← HW.out]; refine HP.out.mono ?_; rintro e9 w2 ⟨⟨f, t, z, rfl⟩, h2, o2⟩; unfold Fam.sessV Tok.sessV; have t2 := (o2.block w.heap.size d0 nd).trans T0.out; have d2 : w.heap.size < w2.heap.size := (Array.getElem?_eq_some_iff.1 t2).1; have y1 : w2.cell? ⟨w.heap.size, 1, none⟩ = some (.int .i64 xi) := cell_of_row _ _ 1 _ _ _ t2; have y2 : w2.cell? ⟨w.heap.size, 2, none⟩ = some (.int .i64 xm) := cell_of_row _ _ 2 _ _ _ t2; have y3 : w2.cell? ⟨w.heap.size, 3, none⟩ = some (.int .i64 xn) := cell_of_row _ _ 3 _ _ _ t2; have y4 : w2.cell? ⟨w.heap.size, 4, none⟩ = some (.string xc) := cell_of_row _ _ 4 _ _ _ t2; have y5 : w2.cell? ⟨w.heap.size, 5, none⟩ = some (.int .u8 xs) := cell_of_row _ _ 5 _ _ _ t2; have H2 := hid h2; have O2 := hid o2; have T2 := hid t2; clear h2 o2 t2)
  obtain ⟨V, hV⟩ : ∃ V, V = (w2.alloc (.cells #[.int .i64 f.id, .int .i64 f.ses, .string f.cli, .int .u8 f.sco, .int .i64 f.nxt] 35)).alloc (.cells #[.int .i64 t.id, .int .i64 t.fam, .int .u8 t.sco, .int .i64 t.unt] 55) := ⟨_, rfl⟩
  have tb := two_blocks w2 #[.int .i64 f.id, .int .i64 f.ses, .string f.cli, .int .u8 f.sco, .int .i64 f.nxt] #[.int .i64 t.id, .int .i64 t.fam, .int .u8 t.sco, .int .i64 t.unt] 35 55
  rw [← hV] at tb
  obtain ⟨b0, b1, hbV⟩ := tb
  have sV := hbV.size
  have s2 := O2.out.size
  have hsB := HB.out.size
  go_at_call 19
  rw [← hV]
  refine (HR.out V (H2.out.below hbV) (by omega)).mono ?_
  rintro e9 w3 ⟨⟨g, u, z', rfl⟩, h3, o3⟩
  unfold Fam.sessV Tok.sessV
  have e0 := (o3.block w2.heap.size (Array.getElem?_eq_some_iff.1 b0).1 (by unfold DOut; omega)).trans b0
  have g0 := (Array.getElem?_eq_some_iff.1 e0).1
  have e1 := (o3.block (w2.heap.size + 1) (Array.getElem?_eq_some_iff.1 b1).1 (by unfold DOut; omega)).trans b1
  have g1 := (Array.getElem?_eq_some_iff.1 e1).1
  have m0 : w3.cell? ⟨w2.heap.size, 0, none⟩ = some (.int .i64 f.id) := cell_of_row _ _ 0 _ _ _ e0
  have m1 : w3.cell? ⟨w2.heap.size, 1, none⟩ = some (.int .i64 f.ses) := cell_of_row _ _ 1 _ _ _ e0
  have m2 : w3.cell? ⟨w2.heap.size, 2, none⟩ = some (.string f.cli) := cell_of_row _ _ 2 _ _ _ e0
  have m3 : w3.cell? ⟨w2.heap.size, 3, none⟩ = some (.int .u8 f.sco) := cell_of_row _ _ 3 _ _ _ e0
  have m4 : w3.cell? ⟨w2.heap.size, 4, none⟩ = some (.int .i64 f.nxt) := cell_of_row _ _ 4 _ _ _ e0
  have k0 : w3.cell? ⟨w2.heap.size + 1, 0, none⟩ = some (.int .i64 t.id) := cell_of_row _ _ 0 _ _ _ e1
  have k1 : w3.cell? ⟨w2.heap.size + 1, 1, none⟩ = some (.int .i64 t.fam) := cell_of_row _ _ 1 _ _ _ e1
  have k2 : w3.cell? ⟨w2.heap.size + 1, 2, none⟩ = some (.int .u8 t.sco) := cell_of_row _ _ 2 _ _ _ e1
  have k3 : w3.cell? ⟨w2.heap.size + 1, 3, none⟩ = some (.int .i64 t.unt) := cell_of_row _ _ 3 _ _ _ e1
  have Hend : Hid (Duo w3 B p mf mt r (n + 2) T' ∧ Out (DOut p mf mt r) w w3) := ⟨h3, (((Out.of_below (P := DOut p mf mt r) HB.out).trans O2.out (fun _ _ e => e)).trans (Out.of_below hbV) (fun _ _ e => e)).trans o3 (fun _ _ e => e)⟩
  clear h3 o3 e0 b0 hbV hV sV s2 hsB e1 b1
  have hc2 : FCmp f g := FCmp_of f g
  have hc3 : TCmp t u := TCmp_of t u
  cases hc2 with
  | n0 c0 =>
    clear hc3
    go_wp2
    go_ret
    have bF : Below w3.heap.size w3 ((w3.alloc (.cells #[.int .i64 g.id, .int .i64 g.ses, .string g.cli, .int .u8 g.sco, .int .i64 g.nxt] 35)).alloc (.cells #[.int .i64 u.id, .int .i64 u.fam, .int .u8 u.sco, .int .i64 u.unt] 55)) := ((Below.refl _ w3).alloc (Nat.le_refl _) _).alloc (by simp) _
    exact ⟨⟨_, rfl⟩, Hend.out.1.below bF, Hend.out.2.trans (Out.of_below bF) (fun _ _ e => e)⟩
  | n1 c0 c1 =>
    clear hc3
    go_wp2
    go_ret
    have bF : Below w3.heap.size w3 ((w3.alloc (.cells #[.int .i64 g.id, .int .i64 g.ses, .string g.cli, .int .u8 g.sco, .int .i64 g.nxt] 35)).alloc (.cells #[.int .i64 u.id, .int .i64 u.fam, .int .u8 u.sco, .int .i64 u.unt] 55)) := ((Below.refl _ w3).alloc (Nat.le_refl _) _).alloc (by simp) _
    exact ⟨⟨_, rfl⟩, Hend.out.1.below bF, Hend.out.2.trans (Out.of_below bF) (fun _ _ e => e)⟩
  | n2 c0 c1 c2 =>
    clear hc3
    go_wp2
    go_ret
    have bF : Below w3.heap.size w3 ((w3.alloc (.cells #[.int .i64 g.id, .int .i64 g.ses, .string g.cli, .int .u8 g.sco, .int .i64 g.nxt] 35)).alloc (.cells #[.int .i64 u.id, .int .i64 u.fam, .int .u8 u.sco, .int .i64 u.unt] 55)) := ((Below.refl _ w3).alloc (Nat.le_refl _) _).alloc (by simp) _
    exact ⟨⟨_, rfl⟩, Hend.out.1.below bF, Hend.out.2.trans (Out.of_below bF) (fun _ _ e => e)⟩
  | n3 c0 c1 c2 c3 =>
    clear hc3
    go_wp2
    go_ret
    have bF : Below w3.heap.size w3 ((w3.alloc (.cells #[.int .i64 g.id, .int .i64 g.ses, .string g.cli, .int .u8 g.sco, .int .i64 g.nxt] 35)).alloc (.cells #[.int .i64 u.id, .int .i64 u.fam, .int .u8 u.sco, .int .i64 u.unt] 55)) := ((Below.refl _ w3).alloc (Nat.le_refl _) _).alloc (by simp) _
    exact ⟨⟨_, rfl⟩, Hend.out.1.below bF, Hend.out.2.trans (Out.of_below bF) (fun _ _ e => e)⟩
  | n4 c0 c1 c2 c3 c4 =>
    clear hc3
    go_wp2
    go_ret
    have bF : Below w3.heap.size w3 ((w3.alloc (.cells #[.int .i64 g.id, .int .i64 g.ses, .string g.cli, .int .u8 g.sco, .int .i64 g.nxt] 35)).alloc (.cells #[.int .i64 u.id, .int .i64 u.fam, .int .u8 u.sco, .int .i64 u.unt] 55)) := ((Below.refl _ w3).alloc (Nat.le_refl _) _).alloc (by simp) _
    exact ⟨⟨_, rfl⟩, Hend.out.1.below bF, Hend.out.2.trans (Out.of_below bF) (fun _ _ e => e)⟩
  | all c0 c1 c2 c3 c4 =>
    cases hc3 with
    | n0 v0 =>
      go_wp2
      go_ret
      have bF : Below w3.heap.size w3 ((w3.alloc (.cells #[.int .i64 g.id, .int .i64 g.ses, .string g.cli, .int .u8 g.sco, .int .i64 g.nxt] 35)).alloc (.cells #[.int .i64 u.id, .int .i64 u.fam, .int .u8 u.sco, .int .i64 u.unt] 55)) := ((Below.refl _ w3).alloc (Nat.le_refl _) _).alloc (by simp) _
      exact ⟨⟨_, rfl⟩, Hend.out.1.below bF, Hend.out.2.trans (Out.of_below bF) (fun _ _ e => e)⟩
    | n1 v0 v1 =>
      go_wp2
      go_ret
      have bF : Below w3.heap.size w3 ((w3.alloc (.cells #[.int .i64 g.id, .int .i64 g.ses, .string g.cli, .int .u8 g.sco, .int .i64 g.nxt] 35)).alloc (.cells #[.int .i64 u.id, .int .i64 u.fam, .int .u8 u.sco, .int .i64 u.unt] 55)) := ((Below.refl _ w3).alloc (Nat.le_refl _) _).alloc (by simp) _
      exact ⟨⟨_, rfl⟩, Hend.out.1.below bF, Hend.out.2.trans (Out.of_below bF) (fun _ _ e => e)⟩
    | n2 v0 v1 v2 =>
      go_wp2
      go_ret
      have bF : Below w3.heap.size w3 ((w3.alloc (.cells #[.int .i64 g.id, .int .i64 g.ses, .string g.cli, .int .u8 g.sco, .int .i64 g.nxt] 35)).alloc (.cells #[.int .i64 u.id, .int .i64 u.fam, .int .u8 u.sco, .int .i64 u.unt] 55)) := ((Below.refl _ w3).alloc (Nat.le_refl _) _).alloc (by simp) _
      exact ⟨⟨_, rfl⟩, Hend.out.1.below bF, Hend.out.2.trans (Out.of_below bF) (fun _ _ e => e)⟩
    | n3 v0 v1 v2 v3 =>
      go_wp2
      go_ret
      have bF : Below w3.heap.size w3 ((w3.alloc (.cells #[.int .i64 g.id, .int .i64 g.ses, .string g.cli, .int .u8 g.sco, .int .i64 g.nxt] 35)).alloc (.cells #[.int .i64 u.id, .int .i64 u.fam, .int .u8 u.sco, .int .i64 u.unt] 55)) := ((Below.refl _ w3).alloc (Nat.le_refl _) _).alloc (by simp) _
      exact ⟨⟨_, rfl⟩, Hend.out.1.below bF, Hend.out.2.trans (Out.of_below bF) (fun _ _ e => e)⟩
    | all v0 v1 v2 v3 =>
      go_wp2
      go_ret
      have bF : Below w3.heap.size w3 ((w3.alloc (.cells #[.int .i64 g.id, .int .i64 g.ses, .string g.cli, .int .u8 g.sco, .int .i64 g.nxt] 35)).alloc (.cells #[.int .i64 u.id, .int .i64 u.fam, .int .u8 u.sco, .int .i64 u.unt] 55)) := ((Below.refl _ w3).alloc (Nat.le_refl _) _).alloc (by simp) _
      exact ⟨⟨_, rfl⟩, Hend.out.1.below bF, Hend.out.2.trans (Out.of_below bF) (fun _ _ e => e)⟩

set_option maxHeartbeats 6400000 in
theorem doK_1 {w : World} {B p mf mt r n : Nat} {T : Sto} (h : Duo w B p mf mt r n T) (hn : n ≤ 900) (hB : B ≤ w.heap.size) (x : KDeed) (hx : DeedOk w B x) (hk : x.kind = 1) :
    Calls Tryz.prog 7 #[.pointer (some ⟨p, 0, none⟩), .pointer (some ⟨r, 0, none⟩), deedV x] w (DoPost w B p mf mt r (n + 2) (tDo T x)) := by
  obtain ⟨lp, lf, lm, lr, bp, bf, bm, br⟩ := h.lts
  have Htd : Hid (tDo T x = (tRefresh T x.id x.num x.now).2.2.2) := by show _ = _; unfold tDo; rw [if_neg (by omega)]; rw [if_pos hk]
  obtain ⟨kd, xi, xm, xn, xc, xs, xa, xz, xd⟩ := x
  obtain ⟨hc, hs, hi, hib, hl⟩ := hx
  dsimp only [deedV] at *
  rw [Htd.out]
  clear Htd
  subst hk
  obtain ⟨W, hW⟩ : ∃ W, W = w.alloc (.cells #[.int .i64 1, .int .i64 xi, .int .i64 xm, .int .i64 xn, .string xc, .int .u8 xs, .slice xa xz.length xd] 32) := ⟨_, rfl⟩
  have hb1 : Below w.heap.size w W := by rw [hW]; exact (Below.refl _ w).alloc (Nat.le_refl _) _
  have t0 : W.heap[w.heap.size]? = some (.cells #[.int .i64 1, .int .i64 xi, .int .i64 xm, .int .i64 xn, .string xc, .int .u8 xs, .slice xa xz.length xd] 32 (0, 0)) := by rw [hW]; exact (MapKept.heap_alloc w _).1
  have d0 := (Array.getElem?_eq_some_iff.1 t0).1
  have h1 := h.below hb1
  have nd : ¬ DOut p mf mt r w.heap.size := by unfold DOut; omega
  have HP := hid (duo_refresh h1 (by omega) xi xm xn)
  obtain ⟨T', hT'⟩ : ∃ T', T' = (tRefresh T xi xm xn).2.2.2 := ⟨_, rfl⟩
  rw [← hT'] at HP ⊢
  have HR := hid (fun (V : World) (hV : Duo V B p mf mt r (n + 1) T') (hBV : B ≤ V.heap.size) => duo_rrefresh hV (by omega) hBV xi xm xn)
  have HW := hid hW
  have HB := hid hb1
  have T0 := hid t0
  clear h h1 hT' hW hb1 t0 hi hib
  go_enter Tryz.func7, Tryz.ntmps7
  go_wp2_with (go_at_call 17; rw [← HW.out]; refine HP.out.mono ?_; rintro e9 w2 ⟨⟨f, t, z, rfl⟩, h2, o2⟩; unfold Fam.sessV Tok.sessV; have t2 := (o2.block w.heap.size d0 nd).trans T0.out; have d2 : w.heap.size < w2.heap.size := (Array.getElem?_eq_some_iff.1 t2).1; have y1 : w2.cell? ⟨w.heap.size, 1, none⟩ = some (.int .i64 xi) := cell_of_row _ _ 1 _ _ _ t2; have y2 : w2.cell? ⟨w.heap.size, 2, none⟩ = some (.int .i64 xm) := cell_of_row _ _ 2 _ _ _ t2; have y3 : w2.cell? ⟨w.heap.size, 3, none⟩ = some (.int .i64 xn) := cell_of_row _ _ 3 _ _ _ t2; have y4 : w2.cell? ⟨w.heap.size, 4, none⟩ = some (.string xc) := cell_of_row _ _ 4 _ _ _ t2; have y5 : w2.cell? ⟨w.heap.size, 5, none⟩ = some (.int .u8 xs) := cell_of_row _ _ 5 _ _ _ t2; have H2 := hid h2; have O2 := hid o2; have T2 := hid t2; clear h2 o2 t2)
  obtain ⟨V, hV⟩ : ∃ V, V = (w2.alloc (.cells #[.int .i64 f.id, .int .i64 f.ses, .string f.cli, .int .u8 f.sco, .int .i64 f.nxt] 35)).alloc (.cells #[.int .i64 t.id, .int .i64 t.fam, .int .u8 t.sco, .int .i64 t.unt] 55) := ⟨_, rfl⟩
  have tb := two_blocks w2 #[.int .i64 f.id, .int .i64 f.ses, .string f.cli, .int .u8 f.sco, .int .i64 f.nxt] #[.int .i64 t.id, .int .i64 t.fam, .int .u8 t.sco, .int .i64 t.unt] 35 55
  rw [← hV] at tb
  obtain ⟨b0, b1, hbV⟩ := tb
  have sV := hbV.size
  have s2 := O2.out.size
  have hsB := HB.out.size
  go_at_call 20
  rw [← hV]
  refine (HR.out V (H2.out.below hbV) (by omega)).mono ?_
  rintro e9 w3 ⟨⟨g, u, z', rfl⟩, h3, o3⟩
  unfold Fam.sessV Tok.sessV
  have e0 := (o3.block w2.heap.size (Array.getElem?_eq_some_iff.1 b0).1 (by unfold DOut; omega)).trans b0
  have g0 := (Array.getElem?_eq_some_iff.1 e0).1
  have e1 := (o3.block (w2.heap.size + 1) (Array.getElem?_eq_some_iff.1 b1).1 (by unfold DOut; omega)).trans b1
  have g1 := (Array.getElem?_eq_some_iff.1 e1).1
  have m0 : w3.cell? ⟨w2.heap.size, 0, none⟩ = some (.int .i64 f.id) := cell_of_row _ _ 0 _ _ _ e0
  have m1 : w3.cell? ⟨w2.heap.size, 1, none⟩ = some (.int .i64 f.ses) := cell_of_row _ _ 1 _ _ _ e0
  have m2 : w3.cell? ⟨w2.heap.size, 2, none⟩ = some (.string f.cli) := cell_of_row _ _ 2 _ _ _ e0
  have m3 : w3.cell? ⟨w2.heap.size, 3, none⟩ = some (.int .u8 f.sco) := cell_of_row _ _ 3 _ _ _ e0
  have m4 : w3.cell? ⟨w2.heap.size, 4, none⟩ = some (.int .i64 f.nxt) := cell_of_row _ _ 4 _ _ _ e0
  have k0 : w3.cell? ⟨w2.heap.size + 1, 0, none⟩ = some (.int .i64 t.id) := cell_of_row _ _ 0 _ _ _ e1
  have k1 : w3.cell? ⟨w2.heap.size + 1, 1, none⟩ = some (.int .i64 t.fam) := cell_of_row _ _ 1 _ _ _ e1
  have k2 : w3.cell? ⟨w2.heap.size + 1, 2, none⟩ = some (.int .u8 t.sco) := cell_of_row _ _ 2 _ _ _ e1
  have k3 : w3.cell? ⟨w2.heap.size + 1, 3, none⟩ = some (.int .i64 t.unt) := cell_of_row _ _ 3 _ _ _ e1
  have Hend : Hid (Duo w3 B p mf mt r (n + 2) T' ∧ Out (DOut p mf mt r) w w3) := ⟨h3, (((Out.of_below (P := DOut p mf mt r) HB.out).trans O2.out (fun _ _ e => e)).trans (Out.of_below hbV) (fun _ _ e => e)).trans o3 (fun _ _ e => e)⟩
  clear h3 o3 e0 b0 hbV hV sV s2 hsB e1 b1
  have hc2 : FCmp f g := FCmp_of f g
  have hc3 : TCmp t u := TCmp_of t u
  cases hc2 with
  | n0 c0 =>
    clear hc3
    go_wp2
    go_ret
    have bF : Below w3.heap.size w3 ((w3.alloc (.cells #[.int .i64 g.id, .int .i64 g.ses, .string g.cli, .int .u8 g.sco, .int .i64 g.nxt] 35)).alloc (.cells #[.int .i64 u.id, .int .i64 u.fam, .int .u8 u.sco, .int .i64 u.unt] 55)) := ((Below.refl _ w3).alloc (Nat.le_refl _) _).alloc (by simp) _
    exact ⟨⟨_, rfl⟩, Hend.out.1.below bF, Hend.out.2.trans (Out.of_below bF) (fun _ _ e => e)⟩
  | n1 c0 c1 =>
    clear hc3
    go_wp2
    go_ret
    have bF : Below w3.heap.size w3 ((w3.alloc (.cells #[.int .i64 g.id, .int .i64 g.ses, .string g.cli, .int .u8 g.sco, .int .i64 g.nxt] 35)).alloc (.cells #[.int .i64 u.id, .int .i64 u.fam, .int .u8 u.sco, .int .i64 u.unt] 55)) := ((Below.refl _ w3).alloc (Nat.le_refl _) _).alloc (by simp) _
    exact ⟨⟨_, rfl⟩, Hend.out.1.below bF, Hend.out.2.trans (Out.of_below bF) (fun _ _ e => e)⟩
  | n2 c0 c1 c2 =>
    clear hc3
    go_wp2
    go_ret
    have bF : Below w3.heap.size w3 ((w3.alloc (.cells #[.int .i64 g.id, .int .i64 g.ses, .string g.cli, .int .u8 g.sco, .int .i64 g.nxt] 35)).alloc (.cells #[.int .i64 u.id, .int .i64 u.fam, .int .u8 u.sco, .int .i64 u.unt] 55)) := ((Below.refl _ w3).alloc (Nat.le_refl _) _).alloc (by simp) _
    exact ⟨⟨_, rfl⟩, Hend.out.1.below bF, Hend.out.2.trans (Out.of_below bF) (fun _ _ e => e)⟩
  | n3 c0 c1 c2 c3 =>
    clear hc3
    go_wp2
    go_ret
    have bF : Below w3.heap.size w3 ((w3.alloc (.cells #[.int .i64 g.id, .int .i64 g.ses, .string g.cli, .int .u8 g.sco, .int .i64 g.nxt] 35)).alloc (.cells #[.int .i64 u.id, .int .i64 u.fam, .int .u8 u.sco, .int .i64 u.unt] 55)) := ((Below.refl _ w3).alloc (Nat.le_refl _) _).alloc (by simp) _
    exact ⟨⟨_, rfl⟩, Hend.out.1.below bF, Hend.out.2.trans (Out.of_below bF) (fun _ _ e => e)⟩
  | n4 c0 c1 c2 c3 c4 =>
    clear hc3
    go_wp2
    go_ret
    have bF : Below w3.heap.size w3 ((w3.alloc (.cells #[.int .i64 g.id, .int .i64 g.ses, .string g.cli, .int .u8 g.sco, .int .i64 g.nxt] 35)).alloc (.cells #[.int .i64 u.id, .int .i64 u.fam, .int .u8 u.sco, .int .i64 u.unt] 55)) := ((Below.refl _ w3).alloc (Nat.le_refl _) _).alloc (by simp) _
    exact ⟨⟨_, rfl⟩, Hend.out.1.below bF, Hend.out.2.trans (Out.of_below bF) (fun _ _ e => e)⟩
  | all c0 c1 c2 c3 c4 =>
    cases hc3 with
    | n0 v0 =>
      go_wp2
      go_ret
      have bF : Below w3.heap.size w3 ((w3.alloc (.cells #[.int .i64 g.id, .int .i64 g.ses, .string g.cli, .int .u8 g.sco, .int .i64 g.nxt] 35)).alloc (.cells #[.int .i64 u.id, .int .i64 u.fam, .int .u8 u.sco, .int .i64 u.unt] 55)) := ((Below.refl _ w3).alloc (Nat.le_refl _) _).alloc (by simp) _
      exact ⟨⟨_, rfl⟩, Hend.out.1.below bF, Hend.out.2.trans (Out.of_below bF) (fun _ _ e => e)⟩
    | n1 v0 v1 =>
      go_wp2
      go_ret
      have bF : Below w3.heap.size w3 ((w3.alloc (.cells #[.int .i64 g.id, .int .i64 g.ses, .string g.cli, .int .u8 g.sco, .int .i64 g.nxt] 35)).alloc (.cells #[.int .i64 u.id, .int .i64 u.fam, .int .u8 u.sco, .int .i64 u.unt] 55)) := ((Below.refl _ w3).alloc (Nat.le_refl _) _).alloc (by simp) _
      exact ⟨⟨_, rfl⟩, Hend.out.1.below bF, Hend.out.2.trans (Out.of_below bF) (fun _ _ e => e)⟩
    | n2 v0 v1 v2 =>
      go_wp2
      go_ret
      have bF : Below w3.heap.size w3 ((w3.alloc (.cells #[.int .i64 g.id, .int .i64 g.ses, .string g.cli, .int .u8 g.sco, .int .i64 g.nxt] 35)).alloc (.cells #[.int .i64 u.id, .int .i64 u.fam, .int .u8 u.sco, .int .i64 u.unt] 55)) := ((Below.refl _ w3).alloc (Nat.le_refl _) _).alloc (by simp) _
      exact ⟨⟨_, rfl⟩, Hend.out.1.below bF, Hend.out.2.trans (Out.of_below bF) (fun _ _ e => e)⟩
    | n3 v0 v1 v2 v3 =>
      go_wp2
      go_ret
      have bF : Below w3.heap.size w3 ((w3.alloc (.cells #[.int .i64 g.id, .int .i64 g.ses, .string g.cli, .int .u8 g.sco, .int .i64 g.nxt] 35)).alloc (.cells #[.int .i64 u.id, .int .i64 u.fam, .int .u8 u.sco, .int .i64 u.unt] 55)) := ((Below.refl _ w3).alloc (Nat.le_refl _) _).alloc (by simp) _
      exact ⟨⟨_, rfl⟩, Hend.out.1.below bF, Hend.out.2.trans (Out.of_below bF) (fun _ _ e => e)⟩
    | all v0 v1 v2 v3 =>
      go_wp2
      go_ret
      have bF : Below w3.heap.size w3 ((w3.alloc (.cells #[.int .i64 g.id, .int .i64 g.ses, .string g.cli, .int .u8 g.sco, .int .i64 g.nxt] 35)).alloc (.cells #[.int .i64 u.id, .int .i64 u.fam, .int .u8 u.sco, .int .i64 u.unt] 55)) := ((Below.refl _ w3).alloc (Nat.le_refl _) _).alloc (by simp) _
      exact ⟨⟨_, rfl⟩, Hend.out.1.below bF, Hend.out.2.trans (Out.of_below bF) (fun _ _ e => e)⟩

set_option maxHeartbeats 6400000 in
theorem doK_2 {w : World} {B p mf mt r n : Nat} {T : Sto} (h : Duo w B p mf mt r n T) (hn : n ≤ 900) (hB : B ≤ w.heap.size) (x : KDeed) (hx : DeedOk w B x) (hk : x.kind = 2) :
    Calls Tryz.prog 7 #[.pointer (some ⟨p, 0, none⟩), .pointer (some ⟨r, 0, none⟩), deedV x] w (DoPost w B p mf mt r (n + 2) (tDo T x)) := by
  obtain ⟨lp, lf, lm, lr, bp, bf, bm, br⟩ := h.lts
  have Htd : Hid (tDo T x = T) := by show _ = _; unfold tDo; rw [if_neg (by omega)]; rw [if_neg (by omega)]; rw [if_pos hk]
  obtain ⟨kd, xi, xm, xn, xc, xs, xa, xz, xd⟩ := x
  obtain ⟨hc, hs, hi, hib, hl⟩ := hx
  dsimp only [deedV] at *
  rw [Htd.out]
  clear Htd
  subst hk
  obtain ⟨W, hW⟩ : ∃ W, W = w.alloc (.cells #[.int .i64 2, .int .i64 xi, .int .i64 xm, .int .i64 xn, .string xc, .int .u8 xs, .slice xa xz.length xd] 32) := ⟨_, rfl⟩
  have hb1 : Below w.heap.size w W := by rw [hW]; exact (Below.refl _ w).alloc (Nat.le_refl _) _
  have t0 : W.heap[w.heap.size]? = some (.cells #[.int .i64 2, .int .i64 xi, .int .i64 xm, .int .i64 xn, .string xc, .int .u8 xs, .slice xa xz.length xd] 32 (0, 0)) := by rw [hW]; exact (MapKept.heap_alloc w _).1
  have d0 := (Array.getElem?_eq_some_iff.1 t0).1
  have h1 := h.below hb1
  have nd : ¬ DOut p mf mt r w.heap.size := by unfold DOut; omega
  have HP := hid (duo_access h1 xi xn)
  obtain ⟨T', hT'⟩ : ∃ T', T' = T := ⟨_, rfl⟩
  rw [← hT'] at HP ⊢
  have HR := hid (fun (V : World) (hV : Duo V B p mf mt r (n + 1) T') (hBV : B ≤ V.heap.size) => duo_raccess hV (by omega) xi xn)
  have HW := hid hW
  have HB := hid hb1
  have T0 := hid t0
  clear h h1 hT' hW hb1 t0 hi hib
  go_enter Tryz.func7, Tryz.ntmps7
  go_wp2_with (go_at_call 18; rw [← HW.out]; refine HP.out.mono ?_; rintro e9 w2 ⟨⟨t, z, rfl⟩, h2, o2⟩; unfold Tok.sessV; have t2 := (o2.block w.heap.size d0 nd).trans T0.out; have d2 : w.heap.size < w2.heap.size := (Array.getElem?_eq_some_iff.1 t2).1; have y1 : w2.cell? ⟨w.heap.size, 1, none⟩ = some (.int .i64 xi) := cell_of_row _ _ 1 _ _ _ t2; have y2 : w2.cell? ⟨w.heap.size, 2, none⟩ = some (.int .i64 xm) := cell_of_row _ _ 2 _ _ _ t2; have y3 : w2.cell? ⟨w.heap.size, 3, none⟩ = some (.int .i64 xn) := cell_of_row _ _ 3 _ _ _ t2; have y4 : w2.cell? ⟨w.heap.size, 4, none⟩ = some (.string xc) := cell_of_row _ _ 4 _ _ _ t2; have y5 : w2.cell? ⟨w.heap.size, 5, none⟩ = some (.int .u8 xs) := cell_of_row _ _ 5 _ _ _ t2; have H2 := hid h2; have O2 := hid o2; have T2 := hid t2; clear h2 o2 t2)
  obtain ⟨V, hV⟩ : ∃ V, V = w2.alloc (.cells #[.int .i64 t.id, .int .i64 t.fam, .int .u8 t.sco, .int .i64 t.unt] 55) := ⟨_, rfl⟩
  have b0 : V.heap[w2.heap.size]? = some (.cells #[.int .i64 t.id, .int .i64 t.fam, .int .u8 t.sco, .int .i64 t.unt] 55 (0, 0)) := by rw [hV]; exact (MapKept.heap_alloc w2 _).1
  have hbV : Below w2.heap.size w2 V := by rw [hV]; exact (Below.refl _ w2).alloc (Nat.le_refl _) _
  have sV := hbV.size
  have s2 := O2.out.size
  have hsB := HB.out.size
  go_at_call 21
  rw [← hV]
  refine (HR.out V (H2.out.below hbV) (by omega)).mono ?_
  rintro e9 w3 ⟨⟨u, z', rfl⟩, h3, o3⟩
  unfold Tok.sessV
  have e0 := (o3.block w2.heap.size (Array.getElem?_eq_some_iff.1 b0).1 (by unfold DOut; omega)).trans b0
  have g0 := (Array.getElem?_eq_some_iff.1 e0).1
  have k0 : w3.cell? ⟨w2.heap.size, 0, none⟩ = some (.int .i64 t.id) := cell_of_row _ _ 0 _ _ _ e0
  have k1 : w3.cell? ⟨w2.heap.size, 1, none⟩ = some (.int .i64 t.fam) := cell_of_row _ _ 1 _ _ _ e0
  have k2 : w3.cell? ⟨w2.heap.size, 2, none⟩ = some (.int .u8 t.sco) := cell_of_row _ _ 2 _ _ _ e0
  have k3 : w3.cell? ⟨w2.heap.size, 3, none⟩ = some (.int .i64 t.unt) := cell_of_row _ _ 3 _ _ _ e0
  have Hend : Hid (Duo w3 B p mf mt r (n + 2) T' ∧ Out (DOut p mf mt r) w w3) := ⟨h3, (((Out.of_below (P := DOut p mf mt r) HB.out).trans O2.out (fun _ _ e => e)).trans (Out.of_below hbV) (fun _ _ e => e)).trans o3 (fun _ _ e => e)⟩
  clear h3 o3 e0 b0 hbV hV sV s2 hsB
  have hc3 : TCmp t u := TCmp_of t u
  cases hc3 with
  | n0 v0 =>
    go_wp2
    go_ret
    have bF : Below w3.heap.size w3 (w3.alloc (.cells #[.int .i64 u.id, .int .i64 u.fam, .int .u8 u.sco, .int .i64 u.unt] 55)) := (Below.refl _ w3).alloc (Nat.le_refl _) _
    exact ⟨⟨_, rfl⟩, Hend.out.1.below bF, Hend.out.2.trans (Out.of_below bF) (fun _ _ e => e)⟩
  | n1 v0 v1 =>
    go_wp2
    go_ret
    have bF : Below w3.heap.size w3 (w3.alloc (.cells #[.int .i64 u.id, .int .i64 u.fam, .int .u8 u.sco, .int .i64 u.unt] 55)) := (Below.refl _ w3).alloc (Nat.le_refl _) _
    exact ⟨⟨_, rfl⟩, Hend.out.1.below bF, Hend.out.2.trans (Out.of_below bF) (fun _ _ e => e)⟩
  | n2 v0 v1 v2 =>
    go_wp2
    go_ret
    have bF : Below w3.heap.size w3 (w3.alloc (.cells #[.int .i64 u.id, .int .i64 u.fam, .int .u8 u.sco, .int .i64 u.unt] 55)) := (Below.refl _ w3).alloc (Nat.le_refl _) _
    exact ⟨⟨_, rfl⟩, Hend.out.1.below bF, Hend.out.2.trans (Out.of_below bF) (fun _ _ e => e)⟩
  | n3 v0 v1 v2 v3 =>
    go_wp2
    go_ret
    have bF : Below w3.heap.size w3 (w3.alloc (.cells #[.int .i64 u.id, .int .i64 u.fam, .int .u8 u.sco, .int .i64 u.unt] 55)) := (Below.refl _ w3).alloc (Nat.le_refl _) _
    exact ⟨⟨_, rfl⟩, Hend.out.1.below bF, Hend.out.2.trans (Out.of_below bF) (fun _ _ e => e)⟩
  | all v0 v1 v2 v3 =>
    go_wp2
    go_ret
    have bF : Below w3.heap.size w3 (w3.alloc (.cells #[.int .i64 u.id, .int .i64 u.fam, .int .u8 u.sco, .int .i64 u.unt] 55)) := (Below.refl _ w3).alloc (Nat.le_refl _) _
    exact ⟨⟨_, rfl⟩, Hend.out.1.below bF, Hend.out.2.trans (Out.of_below bF) (fun _ _ e => e)⟩

set_option maxHeartbeats 6400000 in
theorem doK_3 {w : World} {B p mf mt r n : Nat} {T : Sto} (h : Duo w B p mf mt r n T) (hn : n ≤ 900) (hB : B ≤ w.heap.size) (x : KDeed) (hx : DeedOk w B x) (hk : x.kind = 3) :
    Calls Tryz.prog 7 #[.pointer (some ⟨p, 0, none⟩), .pointer (some ⟨r, 0, none⟩), deedV x] w (DoPost w B p mf mt r (n + 2) (tDo T x)) := by
  obtain ⟨lp, lf, lm, lr, bp, bf, bm, br⟩ := h.lts
  have Htd : Hid (tDo T x = (tExch T x.id x.sco x.now).2.2) := by show _ = _; unfold tDo; rw [if_neg (by omega)]; rw [if_neg (by omega)]; rw [if_neg (by omega)]; rw [if_pos hk]
  obtain ⟨kd, xi, xm, xn, xc, xs, xa, xz, xd⟩ := x
  obtain ⟨hc, hs, hi, hib, hl⟩ := hx
  dsimp only [deedV] at *
  rw [Htd.out]
  clear Htd
  subst hk
  obtain ⟨W, hW⟩ : ∃ W, W = w.alloc (.cells #[.int .i64 3, .int .i64 xi, .int .i64 xm, .int .i64 xn, .string xc, .int .u8 xs, .slice xa xz.length xd] 32) := ⟨_, rfl⟩
  have hb1 : Below w.heap.size w W := by rw [hW]; exact (Below.refl _ w).alloc (Nat.le_refl _) _
  have t0 : W.heap[w.heap.size]? = some (.cells #[.int .i64 3, .int .i64 xi, .int .i64 xm, .int .i64 xn, .string xc, .int .u8 xs, .slice xa xz.length xd] 32 (0, 0)) := by rw [hW]; exact (MapKept.heap_alloc w _).1
  have d0 := (Array.getElem?_eq_some_iff.1 t0).1
  have h1 := h.below hb1
  have nd : ¬ DOut p mf mt r w.heap.size := by unfold DOut; omega
  have HP := hid (duo_exch h1 (by omega) xi xs xn hs)
  obtain ⟨T', hT'⟩ : ∃ T', T' = (tExch T xi xs xn).2.2 := ⟨_, rfl⟩
  rw [← hT'] at HP ⊢
  have HR := hid (fun (V : World) (hV : Duo V B p mf mt r (n + 1) T') (hBV : B ≤ V.heap.size) => duo_rexch hV (by omega) hBV xi xs xn)
  have HW := hid hW
  have HB := hid hb1
  have T0 := hid t0
  clear h h1 hT' hW hb1 t0 hi hib
  go_enter Tryz.func7, Tryz.ntmps7
  go_wp2_with (go_at_call 22; rw [← HW.out]; refine HP.out.mono ?_; rintro e9 w2 ⟨⟨t, z, rfl⟩, h2, o2⟩; unfold Tok.sessV; have t2 := (o2.block w.heap.size d0 nd).trans T0.out; have d2 : w.heap.size < w2.heap.size := (Array.getElem?_eq_some_iff.1 t2).1; have y1 : w2.cell? ⟨w.heap.size, 1, none⟩ = some (.int .i64 xi) := cell_of_row _ _ 1 _ _ _ t2; have y2 : w2.cell? ⟨w.heap.size, 2, none⟩ = some (.int .i64 xm) := cell_of_row _ _ 2 _ _ _ t2; have y3 : w2.cell? ⟨w.heap.size, 3, none⟩ = some (.int .i64 xn) := cell_of_row _ _ 3 _ _ _ t2; have y4 : w2.cell? ⟨w.heap.size, 4, none⟩ = some (.string xc) := cell_of_row _ _ 4 _ _ _ t2; have y5 : w2.cell? ⟨w.heap.size, 5, none⟩ = some (.int .u8 xs) := cell_of_row _ _ 5 _ _ _ t2; have H2 := hid h2; have O2 := hid o2; have T2 := hid t2; clear h2 o2 t2)
  obtain ⟨V, hV⟩ : ∃ V, V = w2.alloc (.cells #[.int .i64 t.id, .int .i64 t.fam, .int .u8 t.sco, .int .i64 t.unt] 55) := ⟨_, rfl⟩
  have b0 : V.heap[w2.heap.size]? = some (.cells #[.int .i64 t.id, .int .i64 t.fam, .int .u8 t.sco, .int .i64 t.unt] 55 (0, 0)) := by rw [hV]; exact (MapKept.heap_alloc w2 _).1
  have hbV : Below w2.heap.size w2 V := by rw [hV]; exact (Below.refl _ w2).alloc (Nat.le_refl _) _
  have sV := hbV.size
  have s2 := O2.out.size
  have hsB := HB.out.size
  go_at_call 23
  rw [← hV]
  refine (HR.out V (H2.out.below hbV) (by omega)).mono ?_
  rintro e9 w3 ⟨⟨u, z', rfl⟩, h3, o3⟩
  unfold Tok.sessV
  have e0 := (o3.block w2.heap.size (Array.getElem?_eq_some_iff.1 b0).1 (by unfold DOut; omega)).trans b0
  have g0 := (Array.getElem?_eq_some_iff.1 e0).1
  have k0 : w3.cell? ⟨w2.heap.size, 0, none⟩ = some (.int .i64 t.id) := cell_of_row _ _ 0 _ _ _ e0
  have k1 : w3.cell? ⟨w2.heap.size, 1, none⟩ = some (.int .i64 t.fam) := cell_of_row _ _ 1 _ _ _ e0
  have k2 : w3.cell? ⟨w2.heap.size, 2, none⟩ = some (.int .u8 t.sco) := cell_of_row _ _ 2 _ _ _ e0
  have k3 : w3.cell? ⟨w2.heap.size, 3, none⟩ = some (.int .i64 t.unt) := cell_of_row _ _ 3 _ _ _ e0
  have Hend : Hid (Duo w3 B p mf mt r (n + 2) T' ∧ Out (DOut p mf mt r) w w3) := ⟨h3, (((Out.of_below (P := DOut p mf mt r) HB.out).trans O2.out (fun _ _ e => e)).trans (Out.of_below hbV) (fun _ _ e => e)).trans o3 (fun _ _ e => e)⟩
  clear h3 o3 e0 b0 hbV hV sV s2 hsB
  have hc3 : TCmp t u := TCmp_of t u
  cases hc3 with
  | n0 v0 =>
    go_wp2
    go_ret
    have bF : Below w3.heap.size w3 (w3.alloc (.cells #[.int .i64 u.id, .int .i64 u.fam, .int .u8 u.sco, .int .i64 u.unt] 55)) := (Below.refl _ w3).alloc (Nat.le_refl _) _
    exact ⟨⟨_, rfl⟩, Hend.out.1.below bF, Hend.out.2.trans (Out.of_below bF) (fun _ _ e => e)⟩
  | n1 v0 v1 =>
    go_wp2
    go_ret
    have bF : Below w3.heap.size w3 (w3.alloc (.cells #[.int .i64 u.id, .int .i64 u.fam, .int .u8 u.sco, .int .i64 u.unt] 55)) := (Below.refl _ w3).alloc (Nat.le_refl _) _
    exact ⟨⟨_, rfl⟩, Hend.out.1.below bF, Hend.out.2.trans (Out.of_below bF) (fun _ _ e => e)⟩
  | n2 v0 v1 v2 =>
    go_wp2
    go_ret
    have bF : Below w3.heap.size w3 (w3.alloc (.cells #[.int .i64 u.id, .int .i64 u.fam, .int .u8 u.sco, .int .i64 u.unt] 55)) := (Below.refl _ w3).alloc (Nat.le_refl _) _
    exact ⟨⟨_, rfl⟩, Hend.out.1.below bF, Hend.out.2.trans (Out.of_below bF) (fun _ _ e => e)⟩
  | n3 v0 v1 v2 v3 =>
    go_wp2
    go_ret
    have bF : Below w3.heap.size w3 (w3.alloc (.cells #[.int .i64 u.id, .int .i64 u.fam, .int .u8 u.sco, .int .i64 u.unt] 55)) := (Below.refl _ w3).alloc (Nat.le_refl _) _
    exact ⟨⟨_, rfl⟩, Hend.out.1.below bF, Hend.out.2.trans (Out.of_below bF) (fun _ _ e => e)⟩
  | all v0 v1 v2 v3 =>
    go_wp2
    go_ret
    have bF : Below w3.heap.size w3 (w3.alloc (.cells #[.int .i64 u.id, .int .i64 u.fam, .int .u8 u.sco, .int .i64 u.unt] 55)) := (Below.refl _ w3).alloc (Nat.le_refl _) _
    exact ⟨⟨_, rfl⟩, Hend.out.1.below bF, Hend.out.2.trans (Out.of_below bF) (fun _ _ e => e)⟩

end Go.Proofs.YtmnhhomkglffcaaGreatDoor
