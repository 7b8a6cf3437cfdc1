/- YtdglmoikgmlaaaaGreatDoorJ16 + YtdglmoikgmlaaaaGreatDoorJ17 -/
import Derived.Test.YtdglmoikgmlaaaaGreatDoorJ15
/- A tree of keys as mathematics: versions, tenants that are gone, how many texts were sealed; what the two maps hold of it. -/
namespace Go.Proofs.YtdglmoikgmlaaaaGreatDoor
open Go.RowKit Go.Maps
set_option linter.unusedVariables false
structure TS where
  vs : List ((ByteArray × ByteArray) × Nat)
  gs : List ByteArray
  n : Nat
def isAt (t u : ByteArray) (p : (ByteArray × ByteArray) × Nat) : Bool := decide (p.1 = (t, u))
def verOf (vs : List ((ByteArray × ByteArray) × Nat)) (t u : ByteArray) : Nat := ((vs.find? (isAt t u)).map (·.2)).getD 1
def isIn (gs : List ByteArray) (t : ByteArray) : Bool := gs.any fun x => decide (x = t)
theorem isIn_iff {gs : List ByteArray} {t : ByteArray} : isIn gs t = true ↔ t ∈ gs := by
  unfold isIn
  rw [List.any_eq_true]
  exact ⟨fun ⟨x, hx, e⟩ => of_decide_eq_true e ▸ hx, fun h => ⟨t, h, decide_eq_true rfl⟩⟩
/-- Current -/
def TS.cur (s : TS) (t u : ByteArray) : Nat × Nat := if (okN t && okN u) = true then (if isIn s.gs t = true then (0, 12) else (verOf s.vs t u, 0)) else (0, 8)
structure TS.Ok (s : TS) : Prop where
  names : ∀ p ∈ s.vs, okN p.1.1 = true ∧ okN p.1.2 = true ∧ 2 ≤ p.2 ∧ p.2 ≤ 16 ∧ p.1.1 ∉ s.gs
  nodup : (s.vs.map (·.1)).Nodup
  gnames : ∀ t ∈ s.gs, okN t = true
  gnodup : s.gs.Nodup
  few : s.vs.length ≤ 16
  gfew : s.gs.length ≤ 16
theorem verOf_ok {s : TS} (h : s.Ok) (t u : ByteArray) : 1 ≤ verOf s.vs t u ∧ verOf s.vs t u ≤ 16 := by
  unfold verOf
  cases hf : s.vs.find? (isAt t u) with
  | none => simp
  | some p => have := h.names p (List.mem_of_find?_eq_some hf); simp; omega
theorem okN_max {t : ByteArray} (h : okN t = true) : t.size ≤ maxLen := by have := okN_len h; unfold maxLen; omega
theorem keyP_inj {t u t' u' : ByteArray} (ht : t.size ≤ maxLen) (hu : u.size ≤ maxLen) (ht' : t'.size ≤ maxLen) (hu' : u'.size ≤ maxLen) (h : keyP t u = keyP t' u') : (t, u) = (t', u') := by
  have := lawPlace.inj (keyOf_place t u ht hu) (h ▸ keyOf_place t' u' ht' hu')
  simp at this
  rw [this.1, this.2]
theorem keyP_lit (t u : ByteArray) : WideAt.IsKeyLit (keyP t u) := True.intro
structure VRel (V : DataW Unit) (vs : List ((ByteArray × ByteArray) × Nat)) : Prop where
  tidy : Tidy V
  has : ∀ t u : ByteArray, t.size ≤ maxLen → u.size ≤ maxLen → Maps.has V (keyP t u) = vs.any (isAt t u)
  at' : ∀ p ∈ vs, V.atKey (keyP p.1.1 p.1.2) (.lit (.int .i64 0)) = .lit (.int .i64 (p.2 : Int))
  size : Maps.size V = vs.length
structure GRel (G : DataW Unit) (gs : List ByteArray) : Prop where
  tidy : Tidy G
  has : ∀ t : ByteArray, Maps.has G (.string t.data.toList) = isIn gs t
  size : Maps.size G = gs.length
theorem vrel_new : VRel (.map []) [] := ⟨tidy_empty, fun _ _ _ _ => rfl, (fun p hp => nomatch hp), rfl⟩
theorem grel_new : GRel (.map []) [] := ⟨tidy_empty, fun _ => rfl, rfl⟩
theorem VRel.ver {V : DataW Unit} {vs : List ((ByteArray × ByteArray) × Nat)} (h : VRel V vs) (t u : ByteArray) (ht : t.size ≤ maxLen) (hu : u.size ≤ maxLen) : VerIs V (keyP t u) (verOf vs t u : Int) := by
  unfold VerIs verOf
  cases hf : vs.find? (isAt t u) with
  | none =>
    refine Or.inr ⟨?_, rfl⟩
    rw [h.has t u ht hu, List.any_eq_false]
    exact fun p hp => by simpa using List.find?_eq_none.1 hf p hp
  | some p =>
    have hm := List.mem_of_find?_eq_some hf
    have hp : isAt t u p = true := List.find?_some hf
    have e : p.1 = (t, u) := of_decide_eq_true hp
    refine Or.inl ⟨?_, ?_⟩
    · rw [h.has t u ht hu, List.any_eq_true]
      exact ⟨p, hm, hp⟩
    · have := h.at' p hm
      rw [e] at this
      exact this
/-- Rotate: the one that is rotated stands last -/
def rotV (vs : List ((ByteArray × ByteArray) × Nat)) (t u : ByteArray) (c : Nat) : List ((ByteArray × ByteArray) × Nat) := vs.filter (fun p => !isAt t u p) ++ [((t, u), c)]
theorem rotV_length {vs : List ((ByteArray × ByteArray) × Nat)} (hn : (vs.map (·.1)).Nodup) (t u : ByteArray) (c : Nat) : (rotV vs t u c).length = if vs.any (isAt t u) then vs.length else vs.length + 1 := by
  have key : (vs.filter (fun p => !isAt t u p)).length + (if vs.any (isAt t u) then 1 else 0) = vs.length := by
    induction vs with
    | nil => rfl
    | cons p vs ih =>
      have hn' : (p.1 :: vs.map (·.1)).Nodup := by simpa using hn
      obtain ⟨h1, h2⟩ := List.nodup_cons.1 hn'
      have ih' := ih h2
      rw [List.filter_cons, List.any_cons, List.length_cons]
      by_cases hp : isAt t u p = true
      · have hz : vs.any (isAt t u) = false := by
          rw [List.any_eq_false]
          intro q hq he
          exact h1 (List.mem_map.2 ⟨q, hq, (of_decide_eq_true he).trans (of_decide_eq_true hp).symm⟩)
        rw [hz] at ih'
        rw [hp, hz]
        simp only [Bool.not_true, Bool.false_eq_true, if_false, Bool.or_false, if_true] at ih' ⊢
        omega
      · have hp' : isAt t u p = false := by simpa using hp
        rw [hp']
        simp only [Bool.not_false, if_true, Bool.false_or, List.length_cons]
        omega
  unfold rotV
  rw [List.length_append, List.length_singleton]
  by_cases hb : vs.any (isAt t u) = true
  · rw [if_pos hb] at key ⊢
    exact key
  · rw [if_neg hb] at key ⊢
    omega
theorem VRel.rot {V : DataW Unit} {s : TS} (h : VRel V s.vs) (ok : s.Ok) (t u : ByteArray) (ht : t.size ≤ maxLen) (hu : u.size ≤ maxLen) (c : Nat) : VRel (V.put (keyP t u) (.lit (.int .i64 (c : Int)))) (rotV s.vs t u c) := by
  refine ⟨h.tidy.put (keyP_lit t u) _, fun t' u' ht' hu' => ?_, fun p hp => ?_, ?_⟩
  · by_cases e : (t', u') = (t, u)
    · obtain ⟨rfl, rfl⟩ := Prod.mk.inj e
      rw [has_put_same h.tidy.isMap (keyP_lit _ _)]
      unfold rotV isAt
      simp
    · rw [has_put_other (fun e' => e (keyP_inj ht' hu' ht hu e')), h.has t' u' ht' hu']
      unfold rotV
      rw [List.any_append]
      have h1 : ([((t, u), c)] : List ((ByteArray × ByteArray) × Nat)).any (isAt t' u') = false := by
        unfold isAt
        simp only [List.any_cons, List.any_nil, Bool.or_false, decide_eq_false_iff_not]
        exact fun e' => e e'.symm
      rw [h1, Bool.or_false]
      exact (any_filter_keep (fun p hp => by
        unfold isAt at hp ⊢
        have := of_decide_eq_true hp
        simp only [Bool.not_eq_true', decide_eq_false_iff_not]
        exact fun e' => e (this.symm.trans e')) _).symm
  · unfold rotV at hp
    rcases List.mem_append.1 hp with hp | hp
    · obtain ⟨hm, hne⟩ := List.mem_filter.1 hp
      have hne' : p.1 ≠ (t, u) := by unfold isAt at hne; simpa using hne
      obtain ⟨n1, n2, _⟩ := ok.names p hm
      rw [atKey_put_other (fun e' => hne' (keyP_inj (okN_max n1) (okN_max n2) ht hu e'))]
      exact h.at' p hm
    · obtain rfl := List.mem_singleton.1 hp
      exact atKey_put_same h.tidy.isMap (keyP_lit _ _) _ _
  · rw [size_put h.tidy, rotV_length ok.nodup, h.has t u ht hu, h.size]
def TS.rot (s : TS) (t u : ByteArray) (c : Nat) : TS := { s with vs := rotV s.vs t u c }
theorem TS.Ok.rot {s : TS} (ok : s.Ok) (t u : ByteArray) (ht : okN t = true) (hu : okN u = true) (hg : t ∉ s.gs) (c : Nat) (h2 : 2 ≤ c) (h16 : c ≤ 16) (hf : (rotV s.vs t u c).length ≤ 16) : (s.rot t u c).Ok := by
  refine ⟨fun p hp => ?_, ?_, ok.gnames, ok.gnodup, hf, ok.gfew⟩
  · unfold TS.rot rotV at hp
    rcases List.mem_append.1 hp with hp | hp
    · exact ok.names p (List.mem_filter.1 hp).1
    · obtain rfl := List.mem_singleton.1 hp
      exact ⟨ht, hu, h2, h16, hg⟩
  · show ((rotV s.vs t u c).map (·.1)).Nodup
    unfold rotV
    rw [List.map_append, List.nodup_append]
    refine ⟨ok.nodup.sublist (List.filter_sublist.map _), by simp, fun x hx y hy e => ?_⟩
    obtain ⟨p, hp, rfl⟩ := List.mem_map.1 hx
    have hne := (List.mem_filter.1 hp).2
    simp at hy
    rw [hy] at e
    unfold isAt at hne
    simp at hne
    exact hne e
end Go.Proofs.YtdglmoikgmlaaaaGreatDoor

/- Current and Rotate of any names, over a tree as mathematics. -/
namespace Go.Proofs.YtdglmoikgmlaaaaGreatDoor
open Go.RowKit Go.Maps
set_option linter.unusedVariables false
set_option maxRecDepth 20000
/-- a tree in memory, and what it holds; d: so many keys were put at most -/
def TreeM (w : World) (B g mv mg : Nat) (root : List UInt8) (s : TS) (d : Nat) : Prop := s.Ok ∧ mv ≠ mg ∧ ∃ nv ng V G, TreeAt w B g root mv mg nv ng V G s.n ∧ VRel V s.vs ∧ GRel G s.gs ∧ nv ≤ d ∧ ng ≤ d
/-- the blocks of a tree -/
def Mine (g mv mg : Nat) (j : Nat) : Prop := j = g ∨ j = mv ∨ j = mg
section
variable {w w' : World} {B g mv mg : Nat} {root : List UInt8} {s : TS} {d : Nat}
theorem TreeM.below (h : TreeM w B g mv mg root s d) (hb : Below w.heap.size w w') : TreeM w' B g mv mg root s d := by
  obtain ⟨ok, hne, nv, ng, V, G, h1, h2⟩ := h
  exact ⟨ok, hne, nv, ng, V, G, h1.below hb, h2⟩
theorem OutJ.mono {P Q : Nat → Prop} (h : OutJ P w w') (hpq : ∀ k, P k → Q k) : OutJ Q w w' := ⟨h.os, h.tape, h.output, h.size, fun k hk hq => h.block k hk (fun hp => hq (hpq k hp))⟩
theorem current_m (h : TreeM w B g mv mg root s d) (t u : ByteArray) (ht : t.size ≤ maxLen) (hu : u.size ≤ maxLen) :
    Calls Tryz.prog 29 #[.pointer (some ⟨g, 0, none⟩), .string t, .string u] w fun e w' => e = .returned (.tuple #[.int .i64 ((s.cur t u).1 : Int), .int .i64 ((s.cur t u).2 : Int)]) ∧ Below w.heap.size w w' := by
  obtain ⟨ok, hne, nv, ng, V, G, h1, hV, hG, _⟩ := h
  unfold TS.cur
  by_cases hn : (okN t && okN u) = true
  · rw [if_pos hn]
    obtain ⟨n1, n2⟩ := (Bool.and_eq_true _ _).mp hn
    refine (current_any h1 t u ⟨ht, n1⟩ ⟨hu, n2⟩ (keyP t u) (keyOf_place t u ht hu) _ (hV.ver t u ht hu) (isIn s.gs t) (hG.has t)).mono fun e w' h => ?_
    obtain ⟨rfl, hb⟩ := h
    refine ⟨?_, hb⟩
    unfold goneE
    cases isIn s.gs t <;> rfl
  · rw [if_neg hn]
    exact current_bad t u ht hu (by simpa using hn)
/-- Rotate -/
def TS.rotR (s : TS) (t u : ByteArray) : TS × (Nat × Nat) :=
  if (s.cur t u).2 ≠ 0 then (s, (0, (s.cur t u).2))
  else if (s.cur t u).1 = 16 ∨ ((s.cur t u).1 = 1 ∧ s.vs.length = 16) then (s, (0, 7))
  else (s.rot t u ((s.cur t u).1 + 1), ((s.cur t u).1 + 1, 0))
set_option maxHeartbeats 1000000 in
theorem rotate_err {w : World} {g : Nat} (t u : ByteArray) (z c : Int) (hc : c ≠ 0) (H : Calls Tryz.prog 29 #[.pointer (some ⟨g, 0, none⟩), .string t, .string u] w fun e w' => e = .returned (.tuple #[.int .i64 z, .int .i64 c]) ∧ Below w.heap.size w w') :
    Calls Tryz.prog 16 #[.pointer (some ⟨g, 0, none⟩), .string t, .string u] w fun e w' => e = .returned (.tuple #[.int .i64 0, .int .i64 c]) ∧ Below w.heap.size w w' := by
  have q0 : (c != 0) = true := by simpa using hc
  go_enter Tryz.func16, Tryz.ntmps16
  go_wp2_with (go_at_call 29; refine H.mono ?_; rintro _ w1 ⟨rfl, b1⟩)
  go_ret2
  exact ⟨rfl, b1⟩
set_option maxHeartbeats 2000000 in
theorem rotate_full {w : World} {B g : Nat} {root : List UInt8} {mv mg nv ng : Nat} {VM GM : DataW Unit} {k : Nat} (h : TreeAt w B g root mv mg nv ng VM GM k) (t u : ByteArray) (c : Nat) (hf : c = 16 ∨ (c = 1 ∧ Maps.size VM = 16)) (HC : Calls Tryz.prog 29 #[.pointer (some ⟨g, 0, none⟩), .string t, .string u] w fun e w' => e = .returned (.tuple #[.int .i64 (c : Int), .int .i64 0]) ∧ Below w.heap.size w w') :
    Calls Tryz.prog 16 #[.pointer (some ⟨g, 0, none⟩), .string t, .string u] w fun e w' => e = .returned (.tuple #[.int .i64 0, .int .i64 7]) ∧ Below w.heap.size w w' := by
  have H := hid h
  clear h
  rcases hf with rfl | ⟨rfl, hsz⟩
  · go_enter Tryz.func16, Tryz.ntmps16
    go_wp2_with (go_at_call 29; refine HC.mono ?_; rintro _ w1 ⟨rfl, b1⟩)
    go_ret2
    exact ⟨rfl, b1⟩
  · have g2 : ((Maps.size VM : Int) == 16) = true := by simp; omega
    go_enter Tryz.func16, Tryz.ntmps16
    go_wp2_with (go_at_call 29; refine HC.mono ?_; rintro _ w1 ⟨rfl, b1⟩; have hT1 := H.out.below b1; have c32 := hT1.c32; have hlen := hT1.vm.len Tryz.underlying52 3; have B1 := hid b1; clear b1 hT1)
    go_ret2
    exact ⟨rfl, B1.out⟩
theorem rotate_m (h : TreeM w B g mv mg root s d) (hd : d ≤ 900) (t u : ByteArray) (ht : t.size ≤ maxLen) (hu : u.size ≤ maxLen) :
    Calls Tryz.prog 16 #[.pointer (some ⟨g, 0, none⟩), .string t, .string u] w fun e w' => e = .returned (.tuple #[.int .i64 ((s.rotR t u).2.1 : Int), .int .i64 ((s.rotR t u).2.2 : Int)]) ∧ TreeM w' B g mv mg root (s.rotR t u).1 (d + 1) ∧ OutJ (Mine g mv mg) w w' := by
  have HC := current_m h t u ht hu
  have up : ∀ w', Below w.heap.size w w' → TreeM w' B g mv mg root s (d + 1) := fun w' hb => by
    obtain ⟨ok, hne, nv, ng, V, G, h1, hV, hG, l1, l2⟩ := h
    exact ⟨ok, hne, nv, ng, V, G, h1.below hb, hV, hG, by omega, by omega⟩
  unfold TS.rotR
  by_cases he : (s.cur t u).2 ≠ 0
  · rw [if_pos he]
    refine (rotate_err t u _ _ (by omega) HC).mono fun e w' h9 => ?_
    exact ⟨h9.1, up w' h9.2, OutJ.of_below h9.2⟩
  · rw [if_neg he]
    have he0 : (s.cur t u).2 = 0 := by omega
    rw [he0] at HC
    obtain ⟨ok, hne, nv, ng, V, G, h1, hV, hG, l1, l2⟩ := h
    by_cases hf : (s.cur t u).1 = 16 ∨ ((s.cur t u).1 = 1 ∧ s.vs.length = 16)
    · rw [if_pos hf]
      refine (rotate_full h1 t u _ (by rw [hV.size]; exact hf) HC).mono fun e w' h9 => ?_
      exact ⟨h9.1, up w' h9.2, OutJ.of_below h9.2⟩
    · rw [if_neg hf]
      have hn : (okN t && okN u) = true := by
        by_cases hn : (okN t && okN u) = true
        · exact hn
        · unfold TS.cur at he0; rw [if_neg hn] at he0; cases he0
      obtain ⟨n1, n2⟩ := (Bool.and_eq_true _ _).mp hn
      have hg : isIn s.gs t = false := by
        cases hg : isIn s.gs t with
        | false => rfl
        | true => unfold TS.cur at he0; rw [if_pos hn, if_pos hg] at he0; cases he0
      have hc : (s.cur t u).1 = verOf s.vs t u := by unfold TS.cur; rw [if_pos hn, if_neg (by rw [hg]; simp)]
      rw [hc] at hf ⊢
      obtain ⟨v1, v2⟩ := verOf_ok ok t u
      have hlen := rotV_length ok.nodup t u (verOf s.vs t u + 1)
      have hfew := ok.few
      have hv1 : s.vs.any (isAt t u) = false → verOf s.vs t u = 1 := fun ha => by
        unfold verOf
        rw [List.find?_eq_none.2 (fun p hp => by have := List.any_eq_false.1 ha p hp; simpa using this)]
        rfl
      have hl16 : (rotV s.vs t u (verOf s.vs t u + 1)).length ≤ 16 := by
        rw [hlen]
        cases ha : s.vs.any (isAt t u) with
        | true => simp; exact hfew
        | false => have := hv1 ha; simp; omega
      refine (rotate_ok h1 t u ⟨by have := okN_len n1; omega, n1⟩ ⟨by have := okN_len n2; omega, n2⟩ (keyP t u) (keyOf_place t u ht hu) _ (hV.ver t u ht hu) v1 (by omega) (by rw [hG.has, hg]) (fun h => by rw [hV.size]; omega) (by omega) hne).mono fun e w' h9 => ?_
      obtain ⟨rfl, h10, h11⟩ := h9
      exact ⟨rfl, ⟨ok.rot t u n1 n2 (fun hm => by rw [isIn_iff.2 hm] at hg; cases hg) _ (by omega) (by omega) hl16, hne, _, _, _, _, h10, hV.rot ok t u ht hu _, hG, by omega, by omega⟩, h11.mono fun k hk => .inr (.inl hk)⟩
end
end Go.Proofs.YtdglmoikgmlaaaaGreatDoor
