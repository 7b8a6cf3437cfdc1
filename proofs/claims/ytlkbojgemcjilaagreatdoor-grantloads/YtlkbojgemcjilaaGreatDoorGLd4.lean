/- YtlkbojgemcjilaaGreatDoorGLd1 + YtlkbojgemcjilaaGreatDoorGLd2 + YtlkbojgemcjilaaGreatDoorGLd3 + YtlkbojgemcjilaaGreatDoorGLd4 -/
import Derived.Test.YtlkbojgemcjilaaGreatDoorGRi
import Derived.Test.YtlkbojgemcjilaaGreatDoorU25
import Derived.Deep.RegionHeld3
import Derived.BigQuiet
import Derived.Test.YtlkbojgemcjilaaGreatDoorUR1
/- Load of grants: what each row is, and what both make of it. -/
namespace Go.Proofs.YtlkbojgemcjilaaGreatDoor.Xr
open Go.RowKit Go.Maps
set_option linter.unusedVariables false
set_option maxRecDepth 20000
theorem names_ne (s : ByteArray) : namesG s ≠ [] := fun e => by
  have := names_len s
  rw [e] at this
  simp at this
theorem names2 {s t n : ByteArray} (h : namesG s = [t, n]) : cutS s = some (t, n) ∧ cutS n = none := by
  cases hc : cutS s with
  | none => rw [names_none hc] at h; simp at h
  | some p =>
    rw [names_some hc] at h
    injection h with h1 h2
    cases hc2 : cutS p.2 with
    | some q =>
      rw [names_some hc2] at h2
      injection h2 with h3 h4
      exact absurd h4 (names_ne _)
    | none =>
      rw [names_none hc2] at h2
      injection h2 with h3
      subst h1 h3
      exact ⟨rfl, hc2⟩
theorem names3 {s t u n : ByteArray} (h : namesG s = [t, u, n]) : ∃ r, cutS s = some (t, r) ∧ cutS r = some (u, n) ∧ cutS n = none := by
  cases hc : cutS s with
  | none => rw [names_none hc] at h; simp at h
  | some p =>
    rw [names_some hc] at h
    injection h with h1 h2
    subst h1
    obtain ⟨q1, q2⟩ := names2 h2
    exact ⟨p.2, rfl, q1, q2⟩
theorem names_of2 {s t n : ByteArray} (h : cutS s = some (t, n)) (h2 : cutS n = none) : namesG s = [t, n] := by
  rw [names_some h, names_none h2]
theorem names_of3 {s t r u n : ByteArray} (h : cutS s = some (t, r)) (h2 : cutS r = some (u, n)) (h3 : cutS n = none) : namesG s = [t, u, n] := by
  rw [names_some h, names_some h2, names_none h3]
theorem cut_size {s : ByteArray} {p : ByteArray × ByteArray} (h : cutS s = some p) : p.1.size ≤ s.size ∧ p.2.size ≤ s.size := by
  have := cutP_size s
  unfold cutP at this
  rw [h] at this
  exact this
/-- scopes of a text -/
def sc8 (tx : ByteArray) : Option Nat := numR tx.data.toList 0 255
theorem sc8_some {tx : ByteArray} {n : Nat} (h : sc8 tx = some n) : tx = txtJ n ∧ n ≤ 255 := by
  obtain ⟨h1, _, h2⟩ := numR_some h
  refine ⟨?_, h2⟩
  rw [← Lib.mk_data tx]
  unfold txtJ
  rw [h1]
/-- a client's row, a consent's row -/
def clOf (r : Rw) : Option Cl := match namesG r.key, r.cols with
  | [t, n], [rd, tx] => (sc8 tx).map fun N => ⟨t, n, rd, N⟩
  | _, _ => none
def coOf (r : Rw) : Option Co := match namesG r.key, r.cols with
  | [t, u, n], [tx] => (sc8 tx).map fun N => ⟨t, u, n, N⟩
  | _, _ => none
/-- what the program makes of a row, for clients, for consents -/
def takeC (s : GS) (r : Rw) : Option GS := if (namesG r.key).length = 3 then some s else (clOf r).bind fun c => if regEs s c = 0 then some (s.reg c) else none
def takeA (s : GS) (r : Rw) : Option GS := if (namesG r.key).length = 2 then some s else (coOf r).bind fun a => if allEs s a = 0 then some (s.alw a) else none
def foldO (f : GS → Rw → Option GS) : GS → List Rw → Option GS
  | s, [] => some s
  | s, r :: m => (f s r).bind fun s' => foldO f s' m
theorem foldO_snoc (f : GS → Rw → Option GS) (m : List Rw) (r : Rw) : ∀ s, foldO f s (m ++ [r]) = (foldO f s m).bind fun s' => f s' r := by
  induction m with
  | nil => intro s; simp [foldO]
  | cons x m ih =>
    intro s
    simp only [List.cons_append, foldO]
    cases f s x with
    | none => rfl
    | some s' => simp only [Option.bind_some]; exact ih s'
theorem foldO_app (f : GS → Rw → Option GS) (m m' : List Rw) : ∀ s, foldO f s (m ++ m') = (foldO f s m).bind fun s' => foldO f s' m' := by
  induction m with
  | nil => intro s; simp [foldO]
  | cons x m ih =>
    intro s
    simp only [List.cons_append, foldO]
    cases f s x with
    | none => rfl
    | some s' => simp only [Option.bind_some]; exact ih s'
theorem foldO_fail {f : GS → Rw → Option GS} {m : List Rw} {k : Nat} {s : GS} (h : foldO f s (m.take k) = none) : foldO f s m = none := by
  have e : m = m.take k ++ m.drop k := (List.take_append_drop k m).symm
  rw [e, foldO_app, h]
  rfl
def loadP (m : List Rw) : Option GS := if riseB m = true then (foldO takeC s0U m).bind fun s => foldO takeA s m else none
end Go.Proofs.YtlkbojgemcjilaaGreatDoor.Xr

/- Load of grants: takeClient. -/
namespace Go.Proofs.YtlkbojgemcjilaaGreatDoor.Xr
open Go.RowKit Go.Maps
set_option linter.unusedVariables false
set_option maxRecDepth 20000
theorem sc8_le {tx : ByteArray} : (sc8 tx).getD 0 ≤ 255 := by
  cases h : sc8 tx with
  | none => exact Nat.zero_le _
  | some n => exact (sc8_some h).2
set_option maxHeartbeats 400000 in
theorem scopesP_any (s : ByteArray) (hs : s.size ≤ maxLen) (w : World) :
    Calls Tryz.prog 71 #[.string s] w fun e w' => e = .returned (.tuple #[.int .u8 (((sc8 s).getD 0 : Nat) : Int), .bool (sc8 s).isSome]) ∧ w' = w := by
  have HN := hid (show Calls Tryz.prog 84 #[.string s, .int .i64 0, .int .i64 255] w fun e w' => e = .returned (.tuple #[.int .i64 (((sc8 s).getD 0 : Nat) : Int), .bool (sc8 s).isSome]) ∧ w' = w from numberJ_any s hs 0 255 w)
  have hle := @sc8_le s
  generalize (sc8 s).getD 0 = n at *
  generalize (sc8 s).isSome = b at *
  have h9 : IntKind.u8.wrap (n : Int) = (n : Int) := by rw [IntKind.wrap_u8]; omega
  go_enter Tryz.func71, Tryz.ntmps71
  go_wp2_with (go_at_call 84; refine HN.out.mono ?_; rintro _ w1 ⟨rfl, e9⟩; subst w1)
  go_ret2
  exact ⟨rfl, rfl⟩
/-- what take leaves -/
def TkP (B g : Nat) (c d : Nat) (o : Option GS) (w : World) (e : Ending) (w' : World) : Prop := e = .returned (.bool o.isSome) ∧ Below B w w' ∧ ∀ s', o = some s' → ∃ X', GP w' B g s' c d X'
theorem TkP.skip {w w' : World} {B g c d : Nat} {s : GS} {X : Nat → Prop} (h : GP w B g s c d X) (hb : Below w.heap.size w w') {c' d' : Nat} (hc : c ≤ c') (hd : d ≤ d') : TkP B g c' d' (some s) w (.returned (.bool true)) w' :=
  ⟨rfl, hb.mono h.base, fun s' e => by
    cases e
    obtain ⟨mc, L, h1, h2⟩ := h.at'
    exact ⟨X, ⟨mc, L, (h1.below hb).mono hd, h2⟩, Nat.le_trans h.cl hc, Nat.le_trans h.al hd, Nat.le_trans h.base hb.size⟩⟩
theorem TkP.no {w w' : World} {B g c d : Nat} (hb : Below w.heap.size w w') (hB : B ≤ w.heap.size) : TkP B g c d none w (.returned (.bool false)) w' := ⟨rfl, hb.mono hB, fun _ e => nomatch e⟩
theorem texts_one {w : World} {a : Option Addr} {l : List ByteArray} (h : Texts w a l) {i : Nat} {x : ByteArray} (hx : l[i]? = some x) : ∃ b o, a = some ⟨b, o, none⟩ ∧ w.cell? ⟨b, o + i, none⟩ = some (.string x) := by
  obtain ⟨h1, rfl⟩ := List.getElem?_eq_some_iff.1 hx
  exact h i h1
theorem clOf_none {r : Rw} (h : ¬ ((namesG r.key).length = 2 ∧ r.cols.length = 2)) : clOf r = none := by
  unfold clOf
  split
  · rename_i e1 e2
    rw [e1, e2] at h
    exact absurd ⟨rfl, rfl⟩ h
  · rfl
theorem coOf_none {r : Rw} (h : ¬ ((namesG r.key).length = 3 ∧ r.cols.length = 1)) : coOf r = none := by
  unfold coOf
  split
  · rename_i e1 e2
    rw [e1, e2] at h
    exact absurd ⟨rfl, rfl⟩ h
  · rfl
set_option maxHeartbeats 8000000 in
theorem takeClient_any {w : World} {B g c d : Nat} {s : GS} {X : Nat → Prop} (h : GP w B g s c d X) (hc : c ≤ 100000) (hd : d ≤ 17592186044415) (r : Rw) (ca : Option Addr) (cap : Nat) (hx : Texts w ca r.cols) (hk : r.key.size ≤ 4000000) (hl : r.cols.length ≤ 4000000) (hs : ∀ x ∈ r.cols, x.size ≤ 4000000) (hca : ∀ b o, ca = some ⟨b, o, none⟩ → r.cols ≠ [] → b < B) :
    Calls Tryz.prog 48 #[.pointer (some ⟨g, 0, none⟩), .agg #[.string r.key, .slice ca r.cols.length cap]] w (TkP B g (c + 1) (d + 1) (takeC s r) w) := by
  obtain ⟨W, hW⟩ : ∃ W, W = w.alloc (.cells #[.string r.key, .slice ca r.cols.length cap] 79) := ⟨_, rfl⟩
  have b0 : Below w.heap.size w W := by rw [hW]; exact (Below.refl _ w).alloc (Nat.le_refl _) _
  have x0 : W.heap[w.heap.size]? = some (.cells #[.string r.key, .slice ca r.cols.length cap] 79 (0, 0)) := by rw [hW]; exact heap_allocN w _
  have HSp := hid (split_any r.key (by omega) W)
  have b1 : Below W.heap.size W (W.alloc (.cells ((namesG r.key).map Value.string).toArray 9)) := (Below.refl _ W).alloc (Nat.le_refl _) _
  have x1 : (W.alloc (.cells ((namesG r.key).map Value.string).toArray 9)).heap[W.heap.size]? = some (.cells ((namesG r.key).map Value.string).toArray 9 (0, 0)) := heap_allocN W _
  obtain ⟨W1, hW1⟩ : ∃ W1, W1 = W.alloc (.cells ((namesG r.key).map Value.string).toArray 9) := ⟨_, rfl⟩
  rw [← hW1] at HSp b1 x1
  have b01 := Below.on' b0 b1
  have H1 := hid (h.below b01)
  have H := hid h
  have B01 := hid b01
  have x01 := (b1.block _ (heap_lt x0)).trans x0
  have HW := hid hW.symm
  have y0 : W.cell? ⟨w.heap.size, 0, none⟩ = some (.string r.key) := (cell_of_row _ _ 0 _ _ _ x0).trans rfl
  have y1 : W1.cell? ⟨w.heap.size, 1, none⟩ = some (.slice ca r.cols.length cap) := (cell_of_row _ _ 1 _ _ _ x01).trans rfl
  have hx1 := hx.below b01
  have Hcd := hid (And.intro hc hd)
  have nn := names_ne r.key
  unfold takeC
  obtain ⟨k, hkk⟩ : ∃ k, k = (namesG r.key).length := ⟨_, rfl⟩
  obtain ⟨m, hm⟩ : ∃ m, m = r.cols.length := ⟨_, rfl⟩
  rw [← hm] at y1 hl
  rw [← hm] at HW
  rw [← hm]
  rw [← hkk] at HSp
  by_cases h3 : k = 3
  · rw [if_pos (by omega)]
    subst h3
    clear hW b0 x0 hW1 b1 x1 b01 x01 hx hx1 hkk hm hs hk hl nn h hc hd
    go_enter Tryz.func48, Tryz.ntmps48
    go_wp2_with (go_at_call 70; rw [HW.out]; refine HSp.out.mono ?_; rintro _ w1 ⟨rfl, e1⟩; subst w1)
    go_ret
    exact TkP.skip H.out B01.out (Nat.le_succ _) (Nat.le_succ _)
  · rw [if_neg (by omega)]
    have d3 : ((k : Int) == 3) = false := by rw [beq_eq_false_iff_ne]; omega
    by_cases h2 : k = 2 ∧ m = 2
    · obtain ⟨rfl, rfl⟩ := h2
      obtain ⟨t, n, e1⟩ : ∃ t n, namesG r.key = [t, n] := by
        match hn : namesG r.key with
        | [] => exact absurd hn nn
        | [_] => rw [hn] at hkk; simp at hkk
        | [t, n] => exact ⟨t, n, rfl⟩
        | _ :: _ :: _ :: _ => rw [hn] at hkk; simp at hkk
      obtain ⟨rd, tx, e2⟩ : ∃ rd tx, r.cols = [rd, tx] := by
        match hn : r.cols with
        | [] => rw [hn] at hm; simp at hm
        | [_] => rw [hn] at hm; simp at hm
        | [t, n] => exact ⟨t, n, rfl⟩
        | _ :: _ :: _ :: _ => rw [hn] at hm; simp at hm
      obtain ⟨q1, q2⟩ := names2 e1
      have z1 := cut_size q1
      obtain ⟨b, o, rfl, ct⟩ := texts_one hx1 (i := 0) (x := rd) (by rw [e2]; rfl)
      obtain ⟨b', o', ee, ct2⟩ := texts_one hx1 (i := 1) (x := tx) (by rw [e2]; rfl)
      cases ee
      have hs1 := hs rd (by rw [e2]; simp)
      have hs2 := hs tx (by rw [e2]; simp)
      rw [e1] at x1
      have n0 : W1.cell? ⟨W.heap.size, 0, none⟩ = some (.string t) := (cell_of_row _ _ 0 _ _ _ x1).trans rfl
      have n1 : W1.cell? ⟨W.heap.size, 1, none⟩ = some (.string n) := (cell_of_row _ _ 1 _ _ _ x1).trans rfl
      simp only [Nat.add_zero] at ct
      have HSc := hid (scopesP_any tx (by unfold maxLen; omega) W1)
      have hcl : clOf r = (sc8 tx).map fun N => ⟨t, n, rd, N⟩ := by unfold clOf; rw [e1, e2]
      rw [hcl]
      have hzs := z1
      dsimp only at hzs
      have HB9 := hid h.base
      cases hsc : sc8 tx with
      | none =>
        rw [hsc] at HSc
        clear hW b0 x0 hW1 b1 x1 b01 x01 hx hx1 hkk hm hs hk hl nn h hc hd e1 e2 q1 q2 z1 hcl hsc hzs h3
        go_enter Tryz.func48, Tryz.ntmps48
        go_wp2_with (first
          | (go_at_call 70; rw [HW.out]; refine HSp.out.mono ?_; rintro _ w1 ⟨rfl, e1⟩; subst w1)
          | (go_at_call 71; refine HSc.out.mono ?_; rintro _ w2 ⟨rfl, e2⟩; subst w2; clear HSc))
        go_quiet (fail)
        go_wp2
        go_ret
        exact TkP.no (B01.out.trans (below_drewN _ _ _)) HB9.out
      | some N =>
        rw [hsc] at HSc
        have hN9 : N ≤ 255 := (sc8_some hsc).2
        have hbB := hca b o rfl (by rw [e2]; simp)
        have HReg := hid (show Calls Tryz.prog 19 #[.pointer (some ⟨g, 0, none⟩), .agg #[.string t, .string n, .string rd, .int .u8 (N : Int)]] W1.drew fun e w' => e = .returned (.int .i64 (regEs s ⟨t, n, rd, N⟩ : Nat)) ∧ Turned W1.drew w' B g (s.reg ⟨t, n, rd, N⟩) (c + 1) (d + 1) X from
          gRegister_any (H1.out.below (below_dN W1.heap.size W1 1)) hc hd ⟨t, n, rd, N⟩ ⟨by show t.size ≤ _; have := cut_size q1; dsimp only at this; omega, by show n.size ≤ _; have := cut_size q1; dsimp only at this; omega, by show rd.size ≤ _; omega, hN9⟩)
        have HP := hid (fun (V : World) (h1 : V.heap[W.heap.size]? = some (.cells (([t, n] : List ByteArray).map Value.string).toArray 9 (0, 0))) (h2 : V.heap[w.heap.size]? = some (.cells #[.string r.key, .slice (some ⟨b, o, none⟩) r.cols.length cap] 79 (0, 0))) (h3 : V.cell? ⟨b, o, none⟩ = some (.string rd)) => (show V.cell? ⟨W.heap.size, 0, none⟩ = some (.string t) ∧ V.cell? ⟨W.heap.size, 1, none⟩ = some (.string n) ∧ V.cell? ⟨w.heap.size, 1, none⟩ = some (.slice (some ⟨b, o, none⟩) 2 cap) ∧ V.cell? ⟨b, o, none⟩ = some (.string rd) from
          ⟨(cell_of_row _ _ 0 _ _ _ h1).trans rfl, (cell_of_row _ _ 1 _ _ _ h1).trans rfl, (cell_of_row _ _ 1 _ _ _ h2).trans (by rw [hm]; rfl), h3⟩))
        have X1 := hid (show W1.drew.heap[W.heap.size]? = some (.cells (([t, n] : List ByteArray).map Value.string).toArray 9 (0, 0)) from x1)
        have X01 := hid (show W1.drew.heap[w.heap.size]? = some (.cells #[.string r.key, .slice (some ⟨b, o, none⟩) r.cols.length cap] 79 (0, 0)) from x01)
        have CT := hid (show W1.drew.cell? ⟨b, o, none⟩ = some (.string rd) from ct)
        have z := hid (HP.out W1.drew X1.out X01.out CT.out)
        have HK := hid (fun (w2 : World) (t2 : Turned W1.drew w2 B g (s.reg ⟨t, n, rd, N⟩) (c + 1) (d + 1) X) => (show (w2.cell? ⟨W.heap.size, 0, none⟩ = some (.string t) ∧ w2.cell? ⟨W.heap.size, 1, none⟩ = some (.string n) ∧ w2.cell? ⟨w.heap.size, 1, none⟩ = some (.slice (some ⟨b, o, none⟩) 2 cap) ∧ w2.cell? ⟨b, o, none⟩ = some (.string rd)) ∧ Below B w w2 from by
          have hG := H1.out.below (below_dN W1.heap.size W1 1)
          have bb := t2.below hG
          refine ⟨HP.out w2 (hG.keep t2.1 X1.out (by decide) (by decide)) (hG.keep t2.1 X01.out (by decide) (by decide)) ((World.cell?_of_block (bb.block b hbB)).trans CT.out), ?_⟩
          exact ((B01.out.mono H.out.base).trans (below_dN B W1 1)).trans bb))
        obtain ⟨E, hE⟩ : ∃ E, E = regEs s ⟨t, n, rd, N⟩ := ⟨_, rfl⟩
        simp only [Option.map_some, Option.bind_some]
        rw [← hE] at HReg ⊢
        clear hW b0 x0 hW1 b1 x1 b01 x01 hx hx1 hkk hm hs hk hl nn h hc hd e1 e2 q1 q2 z1 hcl hsc hzs h3 hE hN9 hbB hca
        by_cases e0 : E = 0
        · subst e0
          rw [if_pos rfl]
          go_enter Tryz.func48, Tryz.ntmps48
          go_wp2_with (first
            | (go_at_call 70; rw [HW.out]; refine HSp.out.mono ?_; rintro _ w1 ⟨rfl, e1⟩; subst w1)
            | (go_at_call 71; refine HSc.out.mono ?_; rintro _ w2 ⟨rfl, e2⟩; subst w2; clear HSc))
          clear y0 y1 n0 n1 ct ct2
          go_region_held3 (fun w9 => w9.cell? ⟨W.heap.size, 0, none⟩ = some (.string t) ∧ w9.cell? ⟨W.heap.size, 1, none⟩ = some (.string n) ∧ w9.cell? ⟨w.heap.size, 1, none⟩ = some (.slice (some ⟨b, o, none⟩) 2 cap) ∧ w9.cell? ⟨b, o, none⟩ = some (.string rd))
            (exact z.out)
            ((go_at_call 19; refine HReg.out.mono ?_; rintro _ w2 ⟨rfl, t2⟩; have z := hid (HK.out w2 t2).1; have T2 := hid t2; clear t2))
          go_wp2
          go_ret
          exact ⟨rfl, (HK.out _ T2.out).2, fun s' e => by cases e; exact ⟨_, T2.out.2.choose_spec.1⟩⟩
        · rw [if_neg e0]
          have d0 : ((E : Int) == 0) = false := by rw [beq_eq_false_iff_ne]; omega
          go_enter Tryz.func48, Tryz.ntmps48
          go_wp2_with (first
            | (go_at_call 70; rw [HW.out]; refine HSp.out.mono ?_; rintro _ w1 ⟨rfl, e1⟩; subst w1)
            | (go_at_call 71; refine HSc.out.mono ?_; rintro _ w2 ⟨rfl, e2⟩; subst w2; clear HSc))
          clear y0 y1 n0 n1 ct ct2
          go_region_held3 (fun w9 => w9.cell? ⟨W.heap.size, 0, none⟩ = some (.string t) ∧ w9.cell? ⟨W.heap.size, 1, none⟩ = some (.string n) ∧ w9.cell? ⟨w.heap.size, 1, none⟩ = some (.slice (some ⟨b, o, none⟩) 2 cap) ∧ w9.cell? ⟨b, o, none⟩ = some (.string rd))
            (exact z.out)
            ((go_at_call 19; refine HReg.out.mono ?_; rintro _ w2 ⟨rfl, t2⟩; have z := hid (HK.out w2 t2).1; have T2 := hid t2; clear t2))
          go_wp2
          go_ret
          exact ⟨rfl, (HK.out _ T2.out).2, fun s' e => nomatch e⟩
    · rw [clOf_none (by rw [← hkk, ← hm]; exact h2)]
      have HB9 := hid h.base
      by_cases h4 : k = 2
      · subst h4
        have d2 : ((m : Int) == 2) = false := by rw [beq_eq_false_iff_ne]; omega
        clear hW b0 x0 hW1 b1 x1 b01 x01 hx hx1 hkk hm hs hk hl nn h hc hd h2 h3 hca
        go_enter Tryz.func48, Tryz.ntmps48
        go_wp2_with (go_at_call 70; rw [HW.out]; refine HSp.out.mono ?_; rintro _ w1 ⟨rfl, e1⟩; subst w1)
        go_ret
        exact TkP.no B01.out HB9.out
      · have d2 : ((k : Int) == 2) = false := by rw [beq_eq_false_iff_ne]; omega
        clear hW b0 x0 hW1 b1 x1 b01 x01 hx hx1 hkk hm hs hk hl nn h hc hd h2 h3 h4 hca
        go_enter Tryz.func48, Tryz.ntmps48
        go_wp2_with (go_at_call 70; rw [HW.out]; refine HSp.out.mono ?_; rintro _ w1 ⟨rfl, e1⟩; subst w1)
        go_ret
        exact TkP.no B01.out HB9.out
end Go.Proofs.YtlkbojgemcjilaaGreatDoor.Xr

/- Load of grants: takeConsent. -/
namespace Go.Proofs.YtlkbojgemcjilaaGreatDoor.Xr
open Go.RowKit Go.Maps
set_option linter.unusedVariables false
set_option maxRecDepth 20000
set_option maxHeartbeats 8000000 in
theorem takeConsent_any {w : World} {B g c d : Nat} {s : GS} {X : Nat → Prop} (h : GP w B g s c d X) (hc : c ≤ 100000) (hd : d ≤ 17592186044415) (r : Rw) (ca : Option Addr) (cap : Nat) (hx : Texts w ca r.cols) (hk : r.key.size ≤ 4000000) (hl : r.cols.length ≤ 4000000) (hs : ∀ x ∈ r.cols, x.size ≤ 4000000) (hca : ∀ b o, ca = some ⟨b, o, none⟩ → r.cols ≠ [] → b < B) :
    Calls Tryz.prog 49 #[.pointer (some ⟨g, 0, none⟩), .agg #[.string r.key, .slice ca r.cols.length cap]] w (TkP B g c (d + 1) (takeA s r) w) := by
  obtain ⟨W, hW⟩ : ∃ W, W = w.alloc (.cells #[.string r.key, .slice ca r.cols.length cap] 79) := ⟨_, rfl⟩
  have b0 : Below w.heap.size w W := by rw [hW]; exact (Below.refl _ w).alloc (Nat.le_refl _) _
  have x0 : W.heap[w.heap.size]? = some (.cells #[.string r.key, .slice ca r.cols.length cap] 79 (0, 0)) := by rw [hW]; exact heap_allocN w _
  have HSp := hid (split_any r.key (by omega) W)
  have b1 : Below W.heap.size W (W.alloc (.cells ((namesG r.key).map Value.string).toArray 9)) := (Below.refl _ W).alloc (Nat.le_refl _) _
  have x1 : (W.alloc (.cells ((namesG r.key).map Value.string).toArray 9)).heap[W.heap.size]? = some (.cells ((namesG r.key).map Value.string).toArray 9 (0, 0)) := heap_allocN W _
  obtain ⟨W1, hW1⟩ : ∃ W1, W1 = W.alloc (.cells ((namesG r.key).map Value.string).toArray 9) := ⟨_, rfl⟩
  rw [← hW1] at HSp b1 x1
  have b01 := Below.on' b0 b1
  have H1 := hid (h.below b01)
  have H := hid h
  have B01 := hid b01
  have x01 := (b1.block _ (heap_lt x0)).trans x0
  have HW := hid hW.symm
  have y0 : W.cell? ⟨w.heap.size, 0, none⟩ = some (.string r.key) := (cell_of_row _ _ 0 _ _ _ x0).trans rfl
  have y1 : W1.cell? ⟨w.heap.size, 1, none⟩ = some (.slice ca r.cols.length cap) := (cell_of_row _ _ 1 _ _ _ x01).trans rfl
  have hx1 := hx.below b01
  have Hcd := hid (And.intro hc hd)
  have nn := names_ne r.key
  unfold takeA
  obtain ⟨k, hkk⟩ : ∃ k, k = (namesG r.key).length := ⟨_, rfl⟩
  obtain ⟨m, hm⟩ : ∃ m, m = r.cols.length := ⟨_, rfl⟩
  rw [← hm] at y1 hl
  rw [← hm] at HW
  rw [← hm]
  rw [← hkk] at HSp
  by_cases h3 : k = 2
  · rw [if_pos (by omega)]
    subst h3
    clear hW b0 x0 hW1 b1 x1 b01 x01 hx hx1 hkk hm hs hk hl nn h hc hd
    go_enter Tryz.func49, Tryz.ntmps49
    go_wp2_with (go_at_call 70; rw [HW.out]; refine HSp.out.mono ?_; rintro _ w1 ⟨rfl, e1⟩; subst w1)
    go_ret
    exact TkP.skip H.out B01.out (Nat.le_refl _) (Nat.le_succ _)
  · rw [if_neg (by omega)]
    have d3 : ((k : Int) == 2) = false := by rw [beq_eq_false_iff_ne]; omega
    by_cases h2 : k = 3 ∧ m = 1
    · obtain ⟨rfl, rfl⟩ := h2
      obtain ⟨t, u, n, e1⟩ : ∃ t u n, namesG r.key = [t, u, n] := by
        match hn : namesG r.key with
        | [] => exact absurd hn nn
        | [_] => rw [hn] at hkk; simp at hkk
        | [_, _] => rw [hn] at hkk; simp at hkk
        | [t, u, n] => exact ⟨t, u, n, rfl⟩
        | _ :: _ :: _ :: _ :: _ => rw [hn] at hkk; simp at hkk
      obtain ⟨tx, e2⟩ : ∃ tx, r.cols = [tx] := by
        match hn : r.cols with
        | [] => rw [hn] at hm; simp at hm
        | [t] => exact ⟨t, rfl⟩
        | _ :: _ :: _ => rw [hn] at hm; simp at hm
      obtain ⟨rr, q1, q2, q3⟩ := names3 e1
      have z1 := cut_size q1
      have z1b := cut_size q2
      dsimp only at z1 z1b
      obtain ⟨b, o, rfl, ct⟩ := texts_one hx1 (i := 0) (x := tx) (by rw [e2]; rfl)
      have hs2 := hs tx (by rw [e2]; simp)
      rw [e1] at x1
      have n0 : W1.cell? ⟨W.heap.size, 0, none⟩ = some (.string t) := (cell_of_row _ _ 0 _ _ _ x1).trans rfl
      have n1 : W1.cell? ⟨W.heap.size, 1, none⟩ = some (.string u) := (cell_of_row _ _ 1 _ _ _ x1).trans rfl
      have n2 : W1.cell? ⟨W.heap.size, 2, none⟩ = some (.string n) := (cell_of_row _ _ 2 _ _ _ x1).trans rfl
      simp only [Nat.add_zero] at ct
      have HSc := hid (scopesP_any tx (by unfold maxLen; omega) W1)
      have hcl : coOf r = (sc8 tx).map fun N => ⟨t, u, n, N⟩ := by unfold coOf; rw [e1, e2]
      rw [hcl]
      have HB9 := hid h.base
      have z := hid (show W1.drew.cell? ⟨W.heap.size, 0, none⟩ = some (.string t) ∧ W1.drew.cell? ⟨W.heap.size, 1, none⟩ = some (.string u) from ⟨n0, n1⟩)
      have bo : Below W1.heap.size W1 (W1.alloc (.cells #[.string ⟨#[]⟩, .string ⟨#[]⟩] 30)) := (Below.refl _ W1).alloc (Nat.le_refl _) _
      have z2 := hid (show (W1.alloc (.cells #[.string ⟨#[]⟩, .string ⟨#[]⟩] 30)).drew.cell? ⟨W.heap.size, 0, none⟩ = some (.string t) ∧ (W1.alloc (.cells #[.string ⟨#[]⟩, .string ⟨#[]⟩] 30)).drew.cell? ⟨W.heap.size, 1, none⟩ = some (.string u) from ⟨(bo.cell (World.block_lt_of_cell? _ _ n0)).trans n0, (bo.cell (World.block_lt_of_cell? _ _ n1)).trans n1⟩)
      have bp : Below W1.heap.size W1 (W1.alloc (.cells #[.string t, .string u] 30)) := (Below.refl _ W1).alloc (Nat.le_refl _) _
      have z3 := hid (show (W1.alloc (.cells #[.string t, .string u] 30)).drew.cell? ⟨W.heap.size, 0, none⟩ = some (.string t) ∧ (W1.alloc (.cells #[.string t, .string u] 30)).drew.cell? ⟨W.heap.size, 1, none⟩ = some (.string u) from ⟨(bp.cell (World.block_lt_of_cell? _ _ n0)).trans n0, (bp.cell (World.block_lt_of_cell? _ _ n1)).trans n1⟩)
      obtain ⟨W2, hW2⟩ : ∃ W2, W2 = (W1.alloc (.cells #[.string t, .string u] 30)).drew := ⟨_, rfl⟩
      have b2 : Below W1.heap.size W1 W2 := by rw [hW2]; exact bp.trans (below_dN _ _ 1)
      have o2 : W2.heap[W1.heap.size]? = some (.cells #[.string t, .string u] 30 (0, 0)) := by rw [hW2]; exact heap_allocN W1 _
      have HW2 := hid hW2.symm
      have B2 := hid (Below.on' b01 b2)
      cases hsc : sc8 tx with
      | none =>
        rw [hsc] at HSc
        clear hW b0 x0 hW1 b1 x1 b01 x01 hx hx1 hkk hm hs hk hl nn h hc hd e1 e2 q1 q2 q3 z1 z1b bo bp b2 o2 hW2 hcl hsc h3
        go_enter Tryz.func49, Tryz.ntmps49
        go_wp2_with (first
          | (go_at_call 70; rw [HW.out]; refine HSp.out.mono ?_; rintro _ w1 ⟨rfl, e1⟩; subst w1)
          | (go_at_call 71; refine HSc.out.mono ?_; rintro _ w2 ⟨rfl, e2⟩; subst w2; clear HSc))
        clear y0 y1 n0 n1 n2 ct
        go_region_held3 (fun w9 => w9.cell? ⟨W.heap.size, 0, none⟩ = some (.string t) ∧ w9.cell? ⟨W.heap.size, 1, none⟩ = some (.string u))
          (first
            | exact z.out
            | exact z2.out
            | exact z3.out)
          (fail)
        go_wp2_with fail
        rw [HW2.out]
        go_quiet (fail)
        go_wp2
        go_ret
        exact TkP.no (B2.out.trans (below_drewN _ _ _)) HB9.out
      | some N =>
        rw [hsc] at HSc
        have hN9 : N ≤ 255 := (sc8_some hsc).2
        have H2 := hid (H1.out.below b2)
        have HReg := hid (show Calls Tryz.prog 20 #[.pointer (some ⟨g, 0, none⟩), .agg #[.string t, .string u, .string n, .int .u8 (N : Int)]] W2.drew fun e w' => e = .returned (.int .i64 (allEs s ⟨t, u, n, N⟩ : Nat)) ∧ Turned W2.drew w' B g (s.alw ⟨t, u, n, N⟩) c (d + 1) X from
          gAllow_any (H2.out.below (below_dN W2.heap.size W2 1)) hc hd ⟨t, u, n, N⟩ (by show t.size ≤ maxLen; unfold maxLen; omega) (by show u.size ≤ maxLen; unfold maxLen; omega) (by show n.size ≤ maxLen; unfold maxLen; omega) hN9)
        have X1 := hid (show W2.drew.heap[W.heap.size]? = some (.cells (([t, u, n] : List ByteArray).map Value.string).toArray 9 (0, 0)) from (b2.block _ (heap_lt x1)).trans x1)
        have O2 := hid (show W2.drew.heap[W1.heap.size]? = some (.cells #[.string t, .string u] 30 (0, 0)) from o2)
        have HP := hid (fun (V : World) (h1 : V.heap[W.heap.size]? = some (.cells (([t, u, n] : List ByteArray).map Value.string).toArray 9 (0, 0))) (h2 : V.heap[W1.heap.size]? = some (.cells #[.string t, .string u] 30 (0, 0))) => (show V.cell? ⟨W.heap.size, 2, none⟩ = some (.string n) ∧ V.cell? ⟨W1.heap.size, 0, none⟩ = some (.string t) ∧ V.cell? ⟨W1.heap.size, 1, none⟩ = some (.string u) from
          ⟨(cell_of_row _ _ 2 _ _ _ h1).trans rfl, (cell_of_row _ _ 0 _ _ _ h2).trans rfl, (cell_of_row _ _ 1 _ _ _ h2).trans rfl⟩))
        have ZN := hid (HP.out W2.drew X1.out O2.out)
        have HK := hid (fun (w2 : World) (t2 : Turned W2.drew w2 B g (s.alw ⟨t, u, n, N⟩) c (d + 1) X) => (show (w2.cell? ⟨W.heap.size, 2, none⟩ = some (.string n) ∧ w2.cell? ⟨W1.heap.size, 0, none⟩ = some (.string t) ∧ w2.cell? ⟨W1.heap.size, 1, none⟩ = some (.string u)) ∧ Below B w w2 from by
          have hG := H2.out.below (below_dN W2.heap.size W2 1)
          refine ⟨HP.out w2 (hG.keep t2.1 X1.out (by decide) (by decide)) (hG.keep t2.1 O2.out (by decide) (by decide)), ?_⟩
          exact ((B2.out.mono H.out.base).trans (below_dN B W2 1)).trans (t2.below hG)))
        obtain ⟨E, hE⟩ : ∃ E, E = allEs s ⟨t, u, n, N⟩ := ⟨_, rfl⟩
        simp only [Option.map_some, Option.bind_some]
        rw [← hE] at HReg ⊢
        clear hW b0 x0 hW1 b1 x1 b01 x01 hx hx1 hkk hm hs hk hl nn h hc hd e1 e2 q1 q2 q3 z1 z1b bo bp b2 o2 hW2 hcl hsc h3 hE hN9 hca
        by_cases e0 : E = 0
        · subst e0
          rw [if_pos rfl]
          go_enter Tryz.func49, Tryz.ntmps49
          go_wp2_with (first
            | (go_at_call 70; rw [HW.out]; refine HSp.out.mono ?_; rintro _ w1 ⟨rfl, e1⟩; subst w1)
            | (go_at_call 71; refine HSc.out.mono ?_; rintro _ w2 ⟨rfl, e2⟩; subst w2; clear HSc))
          clear y0 y1 n0 n1 n2 ct
          go_region_held3 (fun w9 => w9.cell? ⟨W.heap.size, 0, none⟩ = some (.string t) ∧ w9.cell? ⟨W.heap.size, 1, none⟩ = some (.string u))
            (first
              | exact z.out
              | exact z2.out
              | exact z3.out)
            (fail)
          go_wp2_with fail
          rw [HW2.out]
          clear z z2 z3
          have z := hid ZN.out
          go_region_held3 (fun w9 => w9.cell? ⟨W.heap.size, 2, none⟩ = some (.string n) ∧ w9.cell? ⟨W1.heap.size, 0, none⟩ = some (.string t) ∧ w9.cell? ⟨W1.heap.size, 1, none⟩ = some (.string u))
            (exact z.out)
            ((go_at_call 20; refine HReg.out.mono ?_; rintro _ w2 ⟨rfl, t2⟩; have z := hid (HK.out w2 t2).1; have T2 := hid t2; clear t2))
          go_wp2
          go_ret
          exact ⟨rfl, (HK.out _ T2.out).2, fun s' e => by cases e; exact ⟨_, T2.out.2.choose_spec.1⟩⟩
        · rw [if_neg e0]
          have d0 : ((E : Int) == 0) = false := by rw [beq_eq_false_iff_ne]; omega
          go_enter Tryz.func49, Tryz.ntmps49
          go_wp2_with (first
            | (go_at_call 70; rw [HW.out]; refine HSp.out.mono ?_; rintro _ w1 ⟨rfl, e1⟩; subst w1)
            | (go_at_call 71; refine HSc.out.mono ?_; rintro _ w2 ⟨rfl, e2⟩; subst w2; clear HSc))
          clear y0 y1 n0 n1 n2 ct
          go_region_held3 (fun w9 => w9.cell? ⟨W.heap.size, 0, none⟩ = some (.string t) ∧ w9.cell? ⟨W.heap.size, 1, none⟩ = some (.string u))
            (first
              | exact z.out
              | exact z2.out
              | exact z3.out)
            (fail)
          go_wp2_with fail
          rw [HW2.out]
          clear z z2 z3
          have z := hid ZN.out
          go_region_held3 (fun w9 => w9.cell? ⟨W.heap.size, 2, none⟩ = some (.string n) ∧ w9.cell? ⟨W1.heap.size, 0, none⟩ = some (.string t) ∧ w9.cell? ⟨W1.heap.size, 1, none⟩ = some (.string u))
            (exact z.out)
            ((go_at_call 20; refine HReg.out.mono ?_; rintro _ w2 ⟨rfl, t2⟩; have z := hid (HK.out w2 t2).1; have T2 := hid t2; clear t2))
          go_wp2
          go_ret
          exact ⟨rfl, (HK.out _ T2.out).2, fun s' e => nomatch e⟩
    · rw [coOf_none (by rw [← hkk, ← hm]; exact h2)]
      have HB9 := hid h.base
      by_cases h4 : k = 3
      · subst h4
        have d2 : ((m : Int) == 1) = false := by rw [beq_eq_false_iff_ne]; omega
        clear hW b0 x0 hW1 b1 x1 b01 x01 hx hx1 hkk hm hs hk hl nn h hc hd h2 h3 hca
        go_enter Tryz.func49, Tryz.ntmps49
        go_wp2_with (go_at_call 70; rw [HW.out]; refine HSp.out.mono ?_; rintro _ w1 ⟨rfl, e1⟩; subst w1)
        go_ret
        exact TkP.no B01.out HB9.out
      · have d2 : ((k : Int) == 3) = false := by rw [beq_eq_false_iff_ne]; omega
        clear hW b0 x0 hW1 b1 x1 b01 x01 hx hx1 hkk hm hs hk hl nn h hc hd h2 h3 h4 hca
        go_enter Tryz.func49, Tryz.ntmps49
        go_wp2_with (go_at_call 70; rw [HW.out]; refine HSp.out.mono ?_; rintro _ w1 ⟨rfl, e1⟩; subst w1)
        go_ret
        exact TkP.no B01.out HB9.out
end Go.Proofs.YtlkbojgemcjilaaGreatDoor.Xr

/- Load of grants: how many clients there are; Load of the program. -/
namespace Go.Proofs.YtlkbojgemcjilaaGreatDoor.Xr
open Go.RowKit Go.Maps
set_option linter.unusedVariables false
set_option maxRecDepth 20000
def FewT (s : GS) : Prop := (dist (s.cs.map (·.t))).length ≤ 4 ∧ ∀ t, cntT (s.cs.map (·.t)) t ≤ 4
theorem flat_le {α β : Type} (f : α → List β) (n : Nat) : ∀ l : List α, (∀ x ∈ l, (f x).length ≤ n) → (l.flatMap f).length ≤ l.length * n
  | [], _ => by simp
  | a :: l, h => by
    rw [List.flatMap_cons, List.length_append, List.length_cons, Nat.succ_mul]
    have h1 := h a List.mem_cons_self
    have h2 := flat_le f n l (fun x hx => h x (List.mem_cons_of_mem _ hx))
    omega
theorem few_len {s : GS} (h : FewT s) : s.cs.length ≤ 16 := by
  obtain ⟨h1, h2⟩ := h
  have hp := classes (R := fun (c x : ByteArray) => decide (x = c)) (dist (s.cs.map (·.t))) ((dist_nodup _).imp fun {a b} hne x e1 e2 => hne ((of_decide_eq_true e1).symm.trans (of_decide_eq_true e2))) (s.cs.map (·.t)) (fun x hx => ⟨x, (dist_mem _ _).2 hx, decide_eq_true rfl⟩)
  have h3 := hp.length_eq
  have h4 := flat_le (fun c : ByteArray => (s.cs.map (·.t)).filter fun x => decide (x = c)) 4 (dist (s.cs.map (·.t))) (fun c _ => by
    have h9 := h2 c
    unfold cntT at h9
    exact h9)
  rw [h3, List.length_map] at h4
  have : (dist (s.cs.map (·.t))).length * 4 ≤ 4 * 4 := Nat.mul_le_mul_right 4 h1
  omega
theorem few_reg {s : GS} (h : FewT s) (c : Cl) : FewT (s.reg c) := by
  unfold GS.reg
  split
  · rename_i e
    have hr : roomR (s.cs.map (·.t)) c.t = true := by
      cases hr : roomR (s.cs.map (·.t)) c.t with
      | true => rfl
      | false =>
        unfold regEs at e
        split at e
        · cases e
        · split at e
          · cases e
          · split at e
            · cases e
            · first
                | (rw [if_pos hr] at e; cases e)
                | cases e
    obtain ⟨h1, h2⟩ := h
    have e1 : (s.addC c).cs.map (·.t) = s.cs.map (·.t) ++ [c.t] := by
      show (s.cs ++ [c]).map _ = _
      rw [List.map_append]
      rfl
    unfold FewT
    rw [e1]
    have hp : (s.cs.map (·.t) ++ [c.t]).Perm (c.t :: s.cs.map (·.t)) := List.perm_append_singleton _ _
    generalize s.cs.map (·.t) = ts at *
    have hc : ∀ t, cntT (ts ++ [c.t]) t = cntT ts t + if c.t = t then 1 else 0 := fun t => (cntT_perm hp t).trans (cntT_cons ts c.t t)
    have hd : (dist (ts ++ [c.t])).length = if ts.any (fun x => decide (x = c.t)) = true then (dist ts).length else (dist ts).length + 1 := (dist_perm hp).trans (dist_cons ts c.t)
    unfold roomR at hr
    refine ⟨?_, fun t => ?_⟩
    · rw [hd]
      split
      · exact h1
      · rename_i ha
        have h0 : cntT ts c.t = 0 := by
          unfold cntT
          rw [List.filter_eq_nil_iff.2 fun x hx hxe => ha (List.any_eq_true.2 ⟨x, hx, hxe⟩)]
          rfl
        rw [if_pos h0] at hr
        have := of_decide_eq_true hr
        omega
    · rw [hc]
      split
      · rename_i e2
        subst e2
        by_cases h0 : cntT ts c.t = 0
        · omega
        · rw [if_neg h0] at hr
          have := of_decide_eq_true hr
          omega
      · have := h2 t
        omega
  · exact h
theorem few_alw {s : GS} (h : FewT s) (a : Co) : FewT (s.alw a) := by
  unfold GS.alw
  split
  · exact h
  · exact h
theorem few0 : FewT s0U := ⟨by decide, fun t => by unfold cntT s0U; exact Nat.zero_le _⟩
theorem few_takeC {s s' : GS} (h : FewT s) {r : Rw} (e : takeC s r = some s') : FewT s' := by
  unfold takeC at e
  split at e
  · cases e; exact h
  · cases hc : clOf r with
    | none => rw [hc] at e; cases e
    | some c =>
      rw [hc] at e
      simp only [Option.bind_some] at e
      split at e
      · cases e; exact few_reg h c
      · cases e
theorem few_takeA {s s' : GS} (h : FewT s) {r : Rw} (e : takeA s r = some s') : FewT s' := by
  unfold takeA at e
  split at e
  · cases e; exact h
  · cases hc : coOf r with
    | none => rw [hc] at e; cases e
    | some c =>
      rw [hc] at e
      simp only [Option.bind_some] at e
      split at e
      · cases e; exact few_alw h c
      · cases e
theorem _root_.Go.Proofs.YtlkbojgemcjilaaGreatDoor.GP.tight {w : World} {B g c c' d : Nat} {s : GS} {X : Nat → Prop} (h : GP w B g s c d X) (hc : s.cs.length ≤ c') : GP w B g s c' d X := ⟨h.at', hc, h.al, h.base⟩
/-- what is small enough here -/
def SmallG (m : List Rw) : Prop := m.length ≤ 4000000 ∧ ∀ r ∈ m, r.key.size ≤ 4000000 ∧ r.cols.length ≤ 4000000 ∧ ∀ c ∈ r.cols, c.size ≤ 4000000
def LdPost (w : World) (n : Nat) (o : Option GS) (e : Ending) (w' : World) : Prop := Below w.heap.size w w' ∧ match o with
  | none => e = .returned (.tuple #[.pointer none, .int .i64 3])
  | some s => ∃ g X, e = .returned (.tuple #[.pointer (some ⟨g, 0, none⟩), .int .i64 0]) ∧ GP w' w.heap.size g s 16 n X
/-- what the loops keep -/
structure LdI (w wr : World) (g d : Nat) (s : GS) : Prop where
  gp : ∃ X, GP wr w.heap.size g s 16 d X
  be : Below w.heap.size w wr
  few : FewT s
theorem LdI.below {w wr w' : World} {g d : Nat} {s : GS} (h : LdI w wr g d s) (hb : Below wr.heap.size wr w') : LdI w w' g d s := by
  obtain ⟨⟨X, h1⟩, h2, h3⟩ := h
  exact ⟨⟨X, h1.below hb⟩, Below.on' h2 hb, h3⟩
theorem foldO_take {f : GS → Rw → Option GS} {m : List Rw} {k : Nat} {s0 s : GS} (hk : k < m.length) (h : foldO f s0 (m.take k) = some s) : foldO f s0 (m.take (k + 1)) = f s m[k] := by
  rw [List.take_succ_eq_append_getElem hk, foldO_snoc, h]
  rfl
theorem loadP_fail1 {m : List Rw} {k : Nat} (h : foldO takeC s0U (m.take k) = none) : loadP m = none := by
  unfold loadP
  split
  · rw [foldO_fail h]
    rfl
  · rfl
theorem loadP_fail2 {m : List Rw} {k : Nat} {s : GS} (h1 : foldO takeC s0U m = some s) (h : foldO takeA s (m.take k) = none) : loadP m = none := by
  unfold loadP
  split
  · rw [h1]
    exact foldO_fail h
  · rfl
theorem loadP_ok {m : List Rw} {s s' : GS} (hr : riseB m = true) (h1 : foldO takeC s0U m = some s) (h2 : foldO takeA s m = some s') : loadP m = some s' := by
  unfold loadP
  rw [if_pos hr, h1]
  exact h2
theorem col_lt {w : World} {ad : Option Addr} {l : List ByteArray} (h : Texts w ad l) : ∀ b o, ad = some ⟨b, o, none⟩ → l ≠ [] → b < w.heap.size := fun b o e hl => by
  obtain ⟨b', o', e', hc⟩ := h 0 (List.length_pos_iff.2 hl)
  rw [e] at e'
  cases e'
  exact World.block_lt_of_cell? _ _ hc
set_option maxHeartbeats 8000000 in
theorem loadG_any {w : World} {m : List Rw} (a : Option Addr) (n cap : Nat) (hn : n = m.length) (h : RIn w a m) (hs : SmallG m) :
    Calls Tryz.prog 16 #[.slice a n cap] w (LdPost w (n + n) (loadP m)) := by
  have H := hid h
  have Hn := hid hn
  have HSm := hid hs
  have hn9 : n ≤ 4000000 := by have := hs.1; omega
  have HRi := hid (rising_any a n cap hn h (by have := hs.1; omega))
  have HNw := hid (fun (V : World) (hV : Below w.heap.size w V) => gNew_any V w.heap.size hV.size)
  have HC := hid (fun (k : Nat) (hk : k < m.length) (V : World) (g d : Nat) (s : GS) (hI : LdI w V g d s) (hd : d ≤ 9000000) (ad : Option Addr) (cp : Nat) (hT : Texts w ad m[k].cols) => (show Calls Tryz.prog 48 #[.pointer (some ⟨g, 0, none⟩), .agg #[.string m[k].key, .slice ad m[k].cols.length cp]] V fun e w' => e = .returned (.bool (takeC s m[k]).isSome) ∧ Below w.heap.size w w' ∧ ∀ s', takeC s m[k] = some s' → LdI w w' g (d + 1) s' from by
    obtain ⟨⟨X, h1⟩, h2, h3⟩ := hI
    obtain ⟨z1, z2, z3⟩ := hs.2 m[k] (List.getElem_mem hk)
    refine (takeClient_any h1 (by omega) (by omega) m[k] ad cp (hT.below h2) z1 z2 z3 (col_lt hT)).mono ?_
    rintro e w' ⟨e1, e2, e3⟩
    refine ⟨e1, h2.trans e2, fun s' hs' => ?_⟩
    obtain ⟨X', h4⟩ := e3 s' hs'
    have hf := few_takeC h3 hs'
    exact ⟨⟨X', h4.tight (few_len hf)⟩, h2.trans e2, hf⟩))
  have HA := hid (fun (k : Nat) (hk : k < m.length) (V : World) (g d : Nat) (s : GS) (hI : LdI w V g d s) (hd : d ≤ 9000000) (ad : Option Addr) (cp : Nat) (hT : Texts w ad m[k].cols) => (show Calls Tryz.prog 49 #[.pointer (some ⟨g, 0, none⟩), .agg #[.string m[k].key, .slice ad m[k].cols.length cp]] V fun e w' => e = .returned (.bool (takeA s m[k]).isSome) ∧ Below w.heap.size w w' ∧ ∀ s', takeA s m[k] = some s' → LdI w w' g (d + 1) s' from by
    obtain ⟨⟨X, h1⟩, h2, h3⟩ := hI
    obtain ⟨z1, z2, z3⟩ := hs.2 m[k] (List.getElem_mem hk)
    refine (takeConsent_any h1 (by omega) (by omega) m[k] ad cp (hT.below h2) z1 z2 z3 (col_lt hT)).mono ?_
    rintro e w' ⟨e1, e2, e3⟩
    refine ⟨e1, h2.trans e2, fun s' hs' => ?_⟩
    obtain ⟨X', h4⟩ := e3 s' hs'
    exact ⟨⟨X', h4⟩, h2.trans e2, few_takeA h3 hs'⟩))
  cases hri : riseB m with
  | false =>
    rw [hri] at HRi
    have e0 : loadP m = none := by unfold loadP; rw [if_neg (by rw [hri]; decide)]
    rw [e0]
    clear h hn hs hri e0 HC HA
    go_enter Tryz.func16, Tryz.ntmps16
    go_wp2_with (go_at_call 47; refine HRi.out.mono ?_; rintro _ w1 ⟨rfl, b1⟩; have B1 := hid b1; clear b1)
    go_ret2
    exact ⟨B1.out, rfl⟩
  | true =>
    rw [hri] at HRi
    have Hri := hid hri
    clear h hn hs hri
    go_enter Tryz.func16, Tryz.ntmps16
    go_wp2_with (first
      | (go_at_call 47; refine HRi.out.mono ?_; rintro _ w1 ⟨rfl, b1⟩; have B1 := hid b1; clear b1)
      | (go_at_call 6; refine (HNw.out _ B1.out).mono ?_; rintro _ w2 ⟨g, X, rfl, b2, g2, _⟩; have I0 := hid (show LdI w w2 g 0 s0U from ⟨⟨X, g2.tight (Nat.zero_le _)⟩, Below.on' B1.out b2, few0⟩); clear b2 g2))
    clear HNw
    go_loopw [15] (fun i wr => ∃ (k : Nat) (s : GS), k ≤ n ∧ i = .int .i64 (k : Int) ∧ foldO takeC s0U (m.take k) = some s ∧ LdI w wr g k s) (fun i _ => n - (intOf i).toNat)
    case atStart => exact ⟨0, s0U, Nat.zero_le _, rfl, by rw [List.take_zero]; rfl, I0.out⟩
    case round =>
      obtain ⟨k, s, hk, rfl, hf, hI⟩ := hrel
      have Hf := hid hf
      have HI := hid hI
      clear hf hI
      by_cases hlt : k < n
      · have g1 : (k : Int) < (n : Int) := by omega
        have g2 : decide ((k : Int) < (n : Int)) = true := by simpa using hlt
        have g0 : (0 : Int) ≤ (k : Int) := by omega
        have hkm : k < m.length := by have := Hn.out; omega
        obtain ⟨b, o, ad, cp, rfl, c1, c2, hT⟩ := H.out k hkm
        have c1' := cell_on HI.out.be c1
        have c2' := cell_on HI.out.be c2
        rw [← Nat.add_assoc] at c2'
        have HT := hid hT
        have HCk := hid (HC.out k hkm)
        have Hft := hid (foldO_take hkm Hf.out)
        clear c1 c2 hT
        obtain ⟨x, hx⟩ : ∃ x, x = m[k] := ⟨_, rfl⟩
        rw [← hx] at c1' c2' HT HCk Hft
        clear hx
        obtain ⟨key, cols⟩ := x
        dsimp only at c1' c2' HT HCk
        obtain ⟨W9, hW9⟩ : ∃ W9, W9 = wr.alloc (.cells #[.string key, .slice ad cols.length cp] 79) := ⟨_, rfl⟩
        have b9 : Below wr.heap.size wr W9 := by rw [hW9]; exact (Below.refl _ _).alloc (Nat.le_refl _) _
        have x9 : W9.heap[wr.heap.size]? = some (.cells #[.string key, .slice ad cols.length cp] 79 (0, 0)) := by rw [hW9]; exact heap_allocN wr _
        have y0 : W9.cell? ⟨wr.heap.size, 0, none⟩ = some (.string key) := (cell_of_row _ _ 0 _ _ _ x9).trans rfl
        have y1 : W9.cell? ⟨wr.heap.size, 1, none⟩ = some (.slice ad cols.length cp) := (cell_of_row _ _ 1 _ _ _ x9).trans rfl
        have HK9 := hid (HCk.out W9 g k s (HI.out.below b9) (by omega) ad cp HT.out)
        have HW9 := hid hW9.symm
        clear hW9 b9 x9 HCk HT
        obtain ⟨q, hq⟩ : ∃ q, q = takeC s ⟨key, cols⟩ := ⟨_, rfl⟩
        rw [← hq] at HK9 Hft
        clear hq
        generalize cols.length = cl at *
        cases q with
        | none =>
          go_wp2_with (first
            | (go_at_call 48; rw [HW9.out]; refine HK9.out.mono ?_; rintro _ w5 ⟨rfl, b5, _⟩; have B5 := hid b5; clear b5 HK9)
            | go_in)
          go_ret2
          rw [loadP_fail1 Hft.out]
          exact ⟨B5.out, rfl⟩
        | some s' =>
          go_wp2_with (first
            | (go_at_call 48; rw [HW9.out]; refine HK9.out.mono ?_; rintro _ w5 ⟨rfl, b5, t5⟩; have T5 := hid (t5 s' rfl); clear b5 t5 HK9)
            | go_in)
          go_roundw
          case rel => exact ⟨k + 1, s', by omega, by go_num, Hft.out, T5.out⟩
          case measure => simp [intOf]; omega
      · have e : k = n := by omega
        subst e
        have g1 : ¬ (k : Int) < (k : Int) := by omega
        have g2 : decide ((k : Int) < (k : Int)) = false := by simp
        have hf1 : Hid (foldO takeC s0U m = some s) := by
          have h9 := Hf.out
          rw [List.take_of_length_le (by have := Hn.out; omega)] at h9
          exact h9
        obtain ⟨VL, hVL⟩ : ∃ VL, VL = wr := ⟨_, rfl⟩
        subst hVL
        clear Hf HC
        go_wp2_with go_in
        clear g1 g2
        go_loopw [26] (fun i wr => ∃ (j : Nat) (s2 : GS), j ≤ k ∧ i = .int .i64 (j : Int) ∧ foldO takeA s (m.take j) = some s2 ∧ LdI w wr g (k + j) s2) (fun i _ => k - (intOf i).toNat)
        case atStart => exact ⟨0, s, Nat.zero_le _, rfl, by rw [List.take_zero]; rfl, HI.out⟩
        case round =>
          obtain ⟨j, s2, hj, rfl, hf, hI⟩ := hrel
          have Hf := hid hf
          have HI2 := hid hI
          clear hf hI
          by_cases hlt : j < k
          · have g1 : (j : Int) < (k : Int) := by omega
            have g2 : decide ((j : Int) < (k : Int)) = true := by simpa using hlt
            have g0 : (0 : Int) ≤ (j : Int) := by omega
            have hkm : j < m.length := by have := Hn.out; omega
            obtain ⟨b, o, ad, cp, rfl, c1, c2, hT⟩ := H.out j hkm
            have c1' := cell_on HI2.out.be c1
            have c2' := cell_on HI2.out.be c2
            rw [← Nat.add_assoc] at c2'
            have HT := hid hT
            have HCk := hid (HA.out j hkm)
            have Hft := hid (foldO_take hkm Hf.out)
            clear c1 c2 hT
            obtain ⟨x, hx⟩ : ∃ x, x = m[j] := ⟨_, rfl⟩
            rw [← hx] at c1' c2' HT HCk Hft
            clear hx
            obtain ⟨key, cols⟩ := x
            dsimp only at c1' c2' HT HCk
            obtain ⟨W9, hW9⟩ : ∃ W9, W9 = wr.alloc (.cells #[.string key, .slice ad cols.length cp] 79) := ⟨_, rfl⟩
            have b9 : Below wr.heap.size wr W9 := by rw [hW9]; exact (Below.refl _ _).alloc (Nat.le_refl _) _
            have x9 : W9.heap[wr.heap.size]? = some (.cells #[.string key, .slice ad cols.length cp] 79 (0, 0)) := by rw [hW9]; exact heap_allocN wr _
            have y0 : W9.cell? ⟨wr.heap.size, 0, none⟩ = some (.string key) := (cell_of_row _ _ 0 _ _ _ x9).trans rfl
            have y1 : W9.cell? ⟨wr.heap.size, 1, none⟩ = some (.slice ad cols.length cp) := (cell_of_row _ _ 1 _ _ _ x9).trans rfl
            have HK9 := hid (HCk.out W9 g (k + j) s2 (HI2.out.below b9) (by omega) ad cp HT.out)
            have HW9 := hid hW9.symm
            clear hW9 b9 x9 HCk HT
            obtain ⟨q, hq⟩ : ∃ q, q = takeA s2 ⟨key, cols⟩ := ⟨_, rfl⟩
            rw [← hq] at HK9 Hft
            clear hq
            generalize cols.length = cl at *
            cases q with
            | none =>
              go_wp2_with (first
                | (go_at_call 49; rw [HW9.out]; refine HK9.out.mono ?_; rintro _ w5 ⟨rfl, b5, _⟩; have B5 := hid b5; clear b5 HK9)
                | go_in)
              go_ret2
              rw [loadP_fail2 hf1.out Hft.out]
              exact ⟨B5.out, rfl⟩
            | some s' =>
              go_wp2_with (first
                | (go_at_call 49; rw [HW9.out]; refine HK9.out.mono ?_; rintro _ w5 ⟨rfl, b5, t5⟩; have T5 := hid (t5 s' rfl); clear b5 t5 HK9)
                | go_in)
              go_roundw
              case rel => exact ⟨j + 1, s', by omega, by go_num, Hft.out, T5.out⟩
              case measure => simp [intOf]; omega
          · have e : j = k := by omega
            subst e
            have g1 : ¬ (j : Int) < (j : Int) := by omega
            have g2 : decide ((j : Int) < (j : Int)) = false := by simp
            have hf2 : foldO takeA s m = some s2 := by
              have h9 := Hf.out
              rw [List.take_of_length_le (by have := Hn.out; omega)] at h9
              exact h9
            have HL := hid (loadP_ok Hri.out hf1.out hf2)
            clear hf2
            go_wp2_with go_in
            go_ret2
            rw [HL.out]
            obtain ⟨X, h1⟩ := HI2.out.gp
            exact ⟨HI2.out.be, g, X, rfl, h1⟩
end Go.Proofs.YtlkbojgemcjilaaGreatDoor.Xr
