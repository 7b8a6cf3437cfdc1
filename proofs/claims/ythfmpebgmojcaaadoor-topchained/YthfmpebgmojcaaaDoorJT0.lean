/- YthfmpebgmojcaaaDoorJ16 + YthfmpebgmojcaaaDoorJ17 + YthfmpebgmojcaaaDoorJ18 + YthfmpebgmojcaaaDoorJ19 + YthfmpebgmojcaaaDoorJ20 + YthfmpebgmojcaaaDoorJ21 + YthfmpebgmojcaaaDoorJ22 + YthfmpebgmojcaaaDoorJ23 + YthfmpebgmojcaaaDoorJ24 + YthfmpebgmojcaaaDoorJ25 + YthfmpebgmojcaaaDoorJT0 -/
import Derived.Test.YthfmpebgmojcaaaDoorJ15
import Derived.Lib.LazyBuf
/- A tree of keys as mathematics: versions, tenants that are gone, how many texts were sealed; what the two maps hold of it. -/
namespace Go.Proofs.YthfmpebgmojcaaaDoor.Ky
open Go.RowKit Go.Maps
set_option linter.unusedVariables false
structure TS where
  vs : List ((ByteArray × ByteArray) × Nat)
  gs : List ByteArray
  n : Nat
def isAt (t u : ByteArray) (p : (ByteArray × ByteArray) × Nat) : Bool := decide (p.1 = (t, u))
def verOf (vs : List ((ByteArray × ByteArray) × Nat)) (t u : ByteArray) : Nat := ((vs.find? (isAt t u)).map (·.2)).getD 1
def isIn (gs : List ByteArray) (t : ByteArray) : Bool := gs.any fun x => decide (x = t)
def TS.cur (s : TS) (t u : ByteArray) : Nat × Nat := if (okN t && okN u) = true then (if isIn s.gs t = true then (0, 12) else (verOf s.vs t u, 0)) else (0, 8)
structure TS.Ok (s : TS) : Prop where
  names : ∀ p ∈ s.vs, okN p.1.1 = true ∧ okN p.1.2 = true ∧ 2 ≤ p.2 ∧ p.2 ≤ 16 ∧ p.1.1 ∉ s.gs
  nodup : (s.vs.map (·.1)).Nodup
  gnames : ∀ t ∈ s.gs, okN t = true
  gnodup : s.gs.Nodup
  few : s.vs.length ≤ 16
  gfew : s.gs.length ≤ 16
theorem verOf_ok {s : TS} (h : s.Ok) (t u : ByteArray) : 1 ≤ verOf s.vs t u ∧ verOf s.vs t u ≤ 16 := by
  unfold verOf
  cases hf : s.vs.find? (isAt t u) with
  | none => simp
  | some p => have := h.names p (List.mem_of_find?_eq_some hf); simp; omega
structure VRel (V : DataW Unit) (vs : List ((ByteArray × ByteArray) × Nat)) : Prop where
  tidy : Tidy V
  has : ∀ t u : ByteArray, t.size ≤ maxLen → u.size ≤ maxLen → Maps.has V (keyP t u) = vs.any (isAt t u)
  at' : ∀ p ∈ vs, V.atKey (keyP p.1.1 p.1.2) (.lit (.int .i64 0)) = .lit (.int .i64 (p.2 : Int))
  size : Maps.size V = vs.length
structure GRel (G : DataW Unit) (gs : List ByteArray) : Prop where
  tidy : Tidy G
  has : ∀ t : ByteArray, Maps.has G (.string t.data.toList) = isIn gs t
  size : Maps.size G = gs.length
theorem vrel_new : VRel (.map []) [] := ⟨tidy_empty, fun _ _ _ _ => rfl, (fun p hp => nomatch hp), rfl⟩
theorem grel_new : GRel (.map []) [] := ⟨tidy_empty, fun _ => rfl, rfl⟩
theorem VRel.ver {V : DataW Unit} {vs : List ((ByteArray × ByteArray) × Nat)} (h : VRel V vs) (t u : ByteArray) (ht : t.size ≤ maxLen) (hu : u.size ≤ maxLen) : VerIs V (keyP t u) (verOf vs t u : Int) := by
  unfold VerIs verOf
  cases hf : vs.find? (isAt t u) with
  | none =>
    refine Or.inr ⟨?_, rfl⟩
    rw [h.has t u ht hu, List.any_eq_false]
    exact fun p hp => by simpa using List.find?_eq_none.1 hf p hp
  | some p =>
    have hm := List.mem_of_find?_eq_some hf
    have hp : isAt t u p = true := List.find?_some hf
    have e : p.1 = (t, u) := of_decide_eq_true hp
    refine Or.inl ⟨?_, ?_⟩
    · rw [h.has t u ht hu, List.any_eq_true]
      exact ⟨p, hm, hp⟩
    · have := h.at' p hm
      rw [e] at this
      exact this
end Go.Proofs.YthfmpebgmojcaaaDoor.Ky
/- Current and Rotate of any names, over a tree as mathematics. -/
namespace Go.Proofs.YthfmpebgmojcaaaDoor.Ky
open Go.RowKit Go.Maps
set_option linter.unusedVariables false
set_option maxRecDepth 20000
def TreeM (w : World) (B g mv mg : Nat) (root : List UInt8) (s : TS) (d : Nat) : Prop := s.Ok ∧ mv ≠ mg ∧ ∃ nv ng V G, TreeAt w B g root mv mg nv ng V G s.n ∧ VRel V s.vs ∧ GRel G s.gs ∧ nv ≤ d ∧ ng ≤ d
def Mine (g mv mg : Nat) (j : Nat) : Prop := j = g ∨ j = mv ∨ j = mg
section
variable {w w' : World} {B g mv mg : Nat} {root : List UInt8} {s : TS} {d : Nat}
theorem TreeM.below (h : TreeM w B g mv mg root s d) (hb : Below w.heap.size w w') : TreeM w' B g mv mg root s d := by
  obtain ⟨ok, hne, nv, ng, V, G, h1, h2⟩ := h
  exact ⟨ok, hne, nv, ng, V, G, h1.below hb, h2⟩
theorem OutJ.mono {P Q : Nat → Prop} (h : OutJ P w w') (hpq : ∀ k, P k → Q k) : OutJ Q w w' := ⟨h.os, h.tape, h.output, h.size, fun k hk hq => h.block k hk (fun hp => hq (hpq k hp))⟩
theorem current_m (h : TreeM w B g mv mg root s d) (t u : ByteArray) (ht : t.size ≤ maxLen) (hu : u.size ≤ maxLen) :
    Calls Tryd.prog 67 #[.pointer (some ⟨g, 0, none⟩), .string t, .string u] w fun e w' => e = .returned (.tuple #[.int .i64 ((s.cur t u).1 : Int), .int .i64 ((s.cur t u).2 : Int)]) ∧ Below w.heap.size w w' := by
  obtain ⟨ok, hne, nv, ng, V, G, h1, hV, hG, _⟩ := h
  unfold TS.cur
  by_cases hn : (okN t && okN u) = true
  · rw [if_pos hn]
    obtain ⟨n1, n2⟩ := (Bool.and_eq_true _ _).mp hn
    refine (current_any h1 t u ⟨ht, n1⟩ ⟨hu, n2⟩ (keyP t u) (keyOf_place t u ht hu) _ (hV.ver t u ht hu) (isIn s.gs t) (hG.has t)).mono fun e w' h => ?_
    obtain ⟨rfl, hb⟩ := h
    refine ⟨?_, hb⟩
    unfold goneE
    cases isIn s.gs t <;> rfl
  · rw [if_neg hn]
    exact current_bad t u ht hu (by simpa using hn)
end
end Go.Proofs.YthfmpebgmojcaaaDoor.Ky
/- Destroy: the region that draws. -/
namespace Go.Proofs.YthfmpebgmojcaaaDoor.Ky
open Go.RowKit Go.Maps
set_option linter.unusedVariables false
set_option maxRecDepth 20000
theorem OutJ.step {P : Nat → Prop} {a b c : World} {r : Option Nat} (h : OutJ P a b) (hg : b.grownBy c r) (hr : ∀ x, r = some x → P x ∨ a.heap.size ≤ x) : OutJ P a c :=
  ⟨hg.os.trans h.os, hg.tape.trans h.tape, hg.output.trans h.output, Nat.le_trans h.size hg.size, fun k hk hp => (hg.block k (Nat.lt_of_lt_of_le hk h.size) (fun e => by rcases hr k e.symm with h1 | h1; exact hp h1; omega)).trans (h.block k hk hp)⟩
end Go.Proofs.YthfmpebgmojcaaaDoor.Ky
/- Destroy, over a tree as mathematics. -/
namespace Go.Proofs.YthfmpebgmojcaaaDoor.Ky
open Go.RowKit Go.Maps
set_option linter.unusedVariables false
set_option maxRecDepth 20000
theorem GRel.put {G : DataW Unit} {gs : List ByteArray} (h : GRel G gs) (t : ByteArray) (hg : isIn gs t = false) : GRel (G.put (.string t.data.toList) (.agg [])) (gs ++ [t]) := by
  have hl : WideAt.IsKeyLit (Lit.string t.data.toList) := True.intro
  refine ⟨h.tidy.put hl _, fun t' => ?_, ?_⟩
  · by_cases e : t' = t
    · subst e
      rw [has_put_same h.tidy.isMap hl]
      unfold isIn
      simp
    · rw [has_put_other (fun e' => e (by injection e' with e'; cases t'; cases t; simp at e'; rw [e'])), h.has]
      unfold isIn
      rw [List.any_append]
      have : ¬ t = t' := fun h => e h.symm
      simp [this]
  · rw [size_put h.tidy, h.has, hg, h.size]
    simp
end Go.Proofs.YthfmpebgmojcaaaDoor.Ky
/- Key and Seal of any names, over a tree as mathematics. -/
namespace Go.Proofs.YthfmpebgmojcaaaDoor.Ky
open Go.RowKit Go.Maps
set_option linter.unusedVariables false
set_option maxRecDepth 20000
theorem esc_le : ∀ l : List UInt8, (esc l).length ≤ 2 * l.length
  | [] => by simp [esc]
  | c :: r => by
    have := esc_le r
    unfold esc
    split <;> simp <;> omega
theorem txt_le : ∀ v : Fin 17, (numT v.val).length ≤ 3 := by decide +kernel
theorem keyErr_ok {t u : ByteArray} (ht : okN t = true) (hu : okN u = true) {v : Nat} (hv : v ≤ 16) : keyErr [t, u, txtJ v] = 0 := by
  unfold keyErr
  rw [if_neg (by simp), if_neg]
  have h1 := okN_len ht
  have h2 := okN_len hu
  have h3 := txt_le ⟨v, by omega⟩
  have e1 := esc_le t.data.toList
  have e2 := esc_le u.data.toList
  have e3 := esc_le (txtJ v).data.toList
  have l1 : t.data.toList.length = t.size := by simp
  have l2 : u.data.toList.length = u.size := by simp
  have l3 : (txtJ v).data.toList.length = (numT v).length := by simp [txtJ]
  have h3' : (numT v).length ≤ 3 := h3
  have hb : bs [t, u, txtJ v] = [t.data.toList, u.data.toList, (txtJ v).data.toList] := rfl
  rw [hb]
  simp only [keyOf, List.length_append, List.length_cons, List.length_nil]
  omega
theorem cur_ok {s : TS} {t u : ByteArray} (h : (s.cur t u).2 = 0) : okN t = true ∧ okN u = true ∧ isIn s.gs t = false ∧ (s.cur t u).1 = verOf s.vs t u := by
  unfold TS.cur at h ⊢
  by_cases hn : (okN t && okN u) = true
  · rw [if_pos hn] at h ⊢
    obtain ⟨n1, n2⟩ := (Bool.and_eq_true _ _).mp hn
    by_cases hg : isIn s.gs t = true
    · rw [if_pos hg] at h; cases h
    · rw [if_neg hg]
      exact ⟨n1, n2, by simpa using hg, rfl⟩
  · rw [if_neg hn] at h; cases h
def TS.keyR (s : TS) (root : List UInt8) (t u : ByteArray) (v : Int) : List UInt8 × Nat :=
  if (s.cur t u).2 ≠ 0 then (List.replicate 32 0, (s.cur t u).2)
  else if v < 1 ∨ ((s.cur t u).1 : Int) < v then (List.replicate 32 0, 2)
  else (derRes root [t, u, txtJ v.toNat], 0)
set_option maxHeartbeats 2000000 in
theorem key_none {w : World} {g : Nat} (t u : ByteArray) (v z c : Int) (r : Int) (hr : (c ≠ 0 ∧ r = c) ∨ (c = 0 ∧ r = 2 ∧ (v < 1 ∨ z < v))) (H : ∀ W, Below w.heap.size w W → Calls Tryd.prog 67 #[.pointer (some ⟨g, 0, none⟩), .string t, .string u] W fun e w' => e = .returned (.tuple #[.int .i64 z, .int .i64 c]) ∧ Below W.heap.size W w') :
    Calls Tryd.prog 68 #[.pointer (some ⟨g, 0, none⟩), .string t, .string u, .int .i64 v] w (HashErr w (List.replicate 32 0) r) := by
  obtain ⟨Z, hZ⟩ : ∃ Z, Z = bvs (List.replicate 32 0) := ⟨_, rfl⟩
  have zh := (zero_of_info zero_hash).1
  have bh : Tryd.prog.built 69 [] = some (bvs (List.replicate 32 0)) := by kernel_rfl
  rw [← hZ] at zh bh
  have hz : Hid (HV Z (List.replicate 32 0)) := by
    show HV _ _
    rw [hZ]; exact hv_zero
  have Zh := hid zh
  have Bh := hid bh
  obtain ⟨W, hW⟩ : ∃ W, W = w.alloc (.cells Z 69) := ⟨_, rfl⟩
  have b0 : Below w.heap.size w W := by rw [hW]; exact (Below.refl _ w).alloc (Nat.le_refl _) _
  have x0 : W.heap[w.heap.size]? = some (.cells Z 69 (0, 0)) := by rw [hW]; exact heap_alloc_new w _
  have HC := hid (H W b0)
  have B0 := hid b0
  have X0 := hid x0
  have HW := hid hW
  clear hZ hW b0 x0 bh zh H
  rcases hr with ⟨hc, rfl⟩ | ⟨rfl, rfl, hv⟩
  · have q0 : (r != 0) = true := by simpa using hc
    go_enter Tryd.func68, Tryd.ntmps68
    go_wp2_with (first
      | (go_at_call 67; refine HC.out.mono ?_; rintro _ w1 ⟨rfl, b1⟩; have B1 := hid b1; have X1 := hid ((b1.block _ (heap_lt X0.out)).trans X0.out); clear b1)
      | (with_reducible show Go.wpList _ _ _ _ _ _; first
        | (refine wpList_alloc_row rfl 69 rfl Z Zh.out ?_; rw [← HW.out])
        | refine wpList_build_none rfl 69 rfl Z Bh.out ?_
        | refine wpList_store_row rfl 69 (.tmp 8) (.tmp 21) rfl w.heap.size Z rfl rfl 69 Z X1.out hz.out.info rfl hz.out.one ?_))
    refine bodyPost_ret (results_row_tmp rfl _ _ w.heap.size 69 Z (0, 0) _ rfl (setRow_heap _ _ _ _ _ _ X1.out) Tryd.underlying69 rfl hz.out.info) rfl ?_
    exact ⟨Z, rfl, hz.out, (Below.on' B0.out B1.out).setRow (Nat.le_refl _) _⟩
  · by_cases h1 : v < 1
    · have g1 : decide (v < 1) = true := by simpa using h1
      clear hv
      go_enter Tryd.func68, Tryd.ntmps68
      go_wp2_with (first
        | (go_at_call 67; refine HC.out.mono ?_; rintro _ w1 ⟨rfl, b1⟩; have B1 := hid b1; have X1 := hid ((b1.block _ (heap_lt X0.out)).trans X0.out); clear b1)
        | (with_reducible show Go.wpList _ _ _ _ _ _; first
          | (refine wpList_alloc_row rfl 69 rfl Z Zh.out ?_; rw [← HW.out])
          | refine wpList_build_none rfl 69 rfl Z Bh.out ?_
          | refine wpList_store_row rfl 69 (.tmp 8) (.tmp 30) rfl w.heap.size Z rfl rfl 69 Z X1.out hz.out.info rfl hz.out.one ?_))
      refine bodyPost_ret (results_row_tmp rfl _ _ w.heap.size 69 Z (0, 0) _ rfl (setRow_heap _ _ _ _ _ _ X1.out) Tryd.underlying69 rfl hz.out.info) rfl ?_
      exact ⟨Z, rfl, hz.out, (Below.on' B0.out B1.out).setRow (Nat.le_refl _) _⟩
    · have g1 : decide (v < 1) = false := by simpa using h1
      have g2 : decide (z < v) = true := by
        rcases hv with h | h
        · exact absurd h h1
        · simpa using h
      clear hv h1
      go_enter Tryd.func68, Tryd.ntmps68
      go_wp2_with (first
        | (go_at_call 67; refine HC.out.mono ?_; rintro _ w1 ⟨rfl, b1⟩; have B1 := hid b1; have X1 := hid ((b1.block _ (heap_lt X0.out)).trans X0.out); clear b1)
        | (with_reducible show Go.wpList _ _ _ _ _ _; first
          | (refine wpList_alloc_row rfl 69 rfl Z Zh.out ?_; rw [← HW.out])
          | refine wpList_build_none rfl 69 rfl Z Bh.out ?_
          | refine wpList_store_row rfl 69 (.tmp 8) (.tmp 30) rfl w.heap.size Z rfl rfl 69 Z X1.out hz.out.info rfl hz.out.one ?_))
      refine bodyPost_ret (results_row_tmp rfl _ _ w.heap.size 69 Z (0, 0) _ rfl (setRow_heap _ _ _ _ _ _ X1.out) Tryd.underlying69 rfl hz.out.info) rfl ?_
      exact ⟨Z, rfl, hz.out, (Below.on' B0.out B1.out).setRow (Nat.le_refl _) _⟩
theorem key_m {w : World} {B g mv mg : Nat} {root : List UInt8} {s : TS} {d : Nat} (h : TreeM w B g mv mg root s d) (t u : ByteArray) (ht : t.size ≤ maxLen) (hu : u.size ≤ maxLen) (v : Int) (hT : TabAt w) (hKA : KAt w) :
    Calls Tryd.prog 68 #[.pointer (some ⟨g, 0, none⟩), .string t, .string u, .int .i64 v] w (HashErr w (s.keyR root t u v).1 ((s.keyR root t u v).2 : Int)) := by
  have HC : ∀ W, Below w.heap.size w W → _ := fun W hW => current_m (h.below hW) t u ht hu
  unfold TS.keyR
  by_cases he : (s.cur t u).2 ≠ 0
  · rw [if_pos he]
    exact key_none t u v _ _ _ (.inl ⟨by omega, rfl⟩) HC
  · rw [if_neg he]
    have he0 : (s.cur t u).2 = 0 := by omega
    obtain ⟨n1, n2, hg, hc⟩ := cur_ok he0
    by_cases hv : v < 1 ∨ ((s.cur t u).1 : Int) < v
    · rw [if_pos hv]
      exact key_none t u v _ _ _ (.inr ⟨by omega, rfl, hv⟩) HC
    · rw [if_neg hv]
      obtain ⟨ok, hne, nv, ng, V, G, h1, hV, hG, l1, l2⟩ := h
      obtain ⟨v1, v2⟩ := verOf_ok ok t u
      obtain ⟨n, rfl⟩ : ∃ n : Nat, v = (n : Int) := ⟨v.toNat, by omega⟩
      have hk := key_ok h1 t u ⟨by have := okN_len n1; omega, n1⟩ ⟨by have := okN_len n2; omega, n2⟩ (keyP t u) (keyOf_place t u ht hu) _ (hV.ver t u ht hu) (by rw [hG.has, hg]) n (by omega) (by omega) (by omega) hT hKA
      rw [keyErr_ok n1 n2 (by omega)] at hk
      exact hk
end Go.Proofs.YthfmpebgmojcaaaDoor.Ky
/- Seal of any names, over a tree as mathematics. -/
namespace Go.Proofs.YthfmpebgmojcaaaDoor.Ky
open Go.RowKit Go.Maps
set_option linter.unusedVariables false
set_option maxRecDepth 20000
def TS.sealR (s : TS) (root : List UInt8) (t u : ByteArray) (plain : List UInt8) : TS × (List UInt8 × Nat) :=
  if (s.cur t u).2 ≠ 0 then (s, ([], (s.cur t u).2))
  else if 1024 < plain.length then (s, ([], 6))
  else if s.n = 1099511627776 then (s, ([], 7))
  else ({ s with n := s.n + 1 }, (UInt8.ofNat (s.cur t u).1 :: sealB (derRes root [t, u, txtJ (s.cur t u).1]) s.n plain, 0))
theorem nilJ (w : World) (B : Nat) : w.ownsRow B 5 1 (.slice none 0 0) 0 (cellsOf []) := World.ownsRow_nil _ _ _ _
set_option maxHeartbeats 1000000 in
theorem seal_err {w : World} {g : Nat} (t u : ByteArray) (v : Value) (z c : Int) (hc : c ≠ 0) (H : Calls Tryd.prog 67 #[.pointer (some ⟨g, 0, none⟩), .string t, .string u] w fun e w' => e = .returned (.tuple #[.int .i64 z, .int .i64 c]) ∧ Below w.heap.size w w') :
    Calls Tryd.prog 28 #[.pointer (some ⟨g, 0, none⟩), .string t, .string u, v] w fun e w' => e = .returned (.tuple #[.slice none 0 0, .int .i64 c]) ∧ Below w.heap.size w w' := by
  have q0 : (c != 0) = true := by simpa using hc
  go_enter Tryd.func28, Tryd.ntmps28
  go_wp2_with (go_at_call 67; refine H.mono ?_; rintro _ w1 ⟨rfl, b1⟩)
  go_ret2
  exact ⟨rfl, b1⟩
set_option maxHeartbeats 1000000 in
theorem open_err {w : World} {g : Nat} (t u : ByteArray) (v : Value) (z c : Int) (hc : c ≠ 0) (H : Calls Tryd.prog 67 #[.pointer (some ⟨g, 0, none⟩), .string t, .string u] w fun e w' => e = .returned (.tuple #[.int .i64 z, .int .i64 c]) ∧ Below w.heap.size w w') :
    Calls Tryd.prog 29 #[.pointer (some ⟨g, 0, none⟩), .string t, .string u, v] w fun e w' => e = .returned (.tuple #[.slice none 0 0, .int .i64 0, .int .i64 c]) ∧ Below w.heap.size w w' := by
  have q0 : (c != 0) = true := by simpa using hc
  go_enter Tryd.func29, Tryd.ntmps29
  go_wp2_with (go_at_call 67; refine H.mono ?_; rintro _ w1 ⟨rfl, b1⟩)
  go_ret3
  exact ⟨rfl, b1⟩
set_option maxHeartbeats 1000000 in
theorem open_empty {w : World} {g : Nat} (t u : ByteArray) (a : Option Addr) (cap : Nat) (z : Int) (H : Calls Tryd.prog 67 #[.pointer (some ⟨g, 0, none⟩), .string t, .string u] w fun e w' => e = .returned (.tuple #[.int .i64 z, .int .i64 0]) ∧ Below w.heap.size w w') :
    Calls Tryd.prog 29 #[.pointer (some ⟨g, 0, none⟩), .string t, .string u, .slice a 0 cap] w fun e w' => e = .returned (.tuple #[.slice none 0 0, .int .i64 0, .int .i64 3]) ∧ Below w.heap.size w w' := by
  go_enter Tryd.func29, Tryd.ntmps29
  go_wp2_with (go_at_call 67; refine H.mono ?_; rintro _ w1 ⟨rfl, b1⟩)
  go_ret3
  exact ⟨rfl, b1⟩
theorem seal_m {w : World} {B g mv mg : Nat} {root : List UInt8} {s : TS} {d : Nat} (h : TreeM w B g mv mg root s d) (hsn : s.n ≤ 1099511627776) (t u : ByteArray) (ht : t.size ≤ maxLen) (hu : u.size ≤ maxLen) (plain : List UInt8) (a : Option Addr) (n cap : Nat) (hn : n = plain.length) (hB : Bytes w a plain) (hT : TabAt w) (hKA : KAt w) :
    Calls Tryd.prog 28 #[.pointer (some ⟨g, 0, none⟩), .string t, .string u, .slice a n cap] w fun e w' => ∃ v, e = .returned (.tuple #[v, .int .i64 ((s.sealR root t u plain).2.2 : Int)]) ∧ w'.ownsRow w.heap.size 5 1 v (s.sealR root t u plain).2.1.length (cellsOf (s.sealR root t u plain).2.1) ∧ TreeM w' B g mv mg root (s.sealR root t u plain).1 d ∧ OutJ (Mine g mv mg) w w' := by
  have HC := current_m h t u ht hu
  have up : ∀ w', Below w.heap.size w w' → TreeM w' B g mv mg root s d := fun w' hb => h.below hb
  unfold TS.sealR
  by_cases he : (s.cur t u).2 ≠ 0
  · rw [if_pos he]
    refine (seal_err t u _ _ _ (by omega) HC).mono fun e w' h9 => ?_
    exact ⟨_, h9.1, nilJ _ _, up w' h9.2, OutJ.of_below h9.2⟩
  · rw [if_neg he]
    have he0 : (s.cur t u).2 = 0 := by omega
    obtain ⟨n1, n2, hg, hc⟩ := cur_ok he0
    obtain ⟨ok, hne, nv, ng, V, G, h1, hV, hG, l1, l2⟩ := h
    obtain ⟨v1, v2⟩ := verOf_ok ok t u
    have hke := keyErr_ok n1 n2 v2
    by_cases hl : 1024 < plain.length
    · rw [if_pos hl]
      refine (seal_toolong h1 t u ⟨by have := okN_len n1; omega, n1⟩ ⟨by have := okN_len n2; omega, n2⟩ (keyP t u) (keyOf_place t u ht hu) _ (hV.ver t u ht hu) v1 (by omega) (by rw [hG.has, hg]) hke hsn a n cap (by omega) hT hKA).mono fun e w' h9 => ?_
      exact ⟨_, h9.1, nilJ _ _, up w' h9.2, OutJ.of_below h9.2⟩
    · rw [if_neg hl]
      by_cases hf : s.n = 1099511627776
      · rw [if_pos hf]
        refine (seal_full h1 t u ⟨by have := okN_len n1; omega, n1⟩ ⟨by have := okN_len n2; omega, n2⟩ (keyP t u) (keyOf_place t u ht hu) _ (hV.ver t u ht hu) v1 (by omega) (by rw [hG.has, hg]) hke hf plain a n cap hn hB (by omega) hT hKA).mono fun e w' h9 => ?_
        exact ⟨_, h9.1, nilJ _ _, up w' h9.2, OutJ.of_below h9.2⟩
      rw [if_neg hf, hc]
      refine (seal_ok h1 t u ⟨by have := okN_len n1; omega, n1⟩ ⟨by have := okN_len n2; omega, n2⟩ (keyP t u) (keyOf_place t u ht hu) _ (hV.ver t u ht hu) v1 (by omega) (by rw [hG.has, hg]) hke (by omega) plain a n cap hn hB (by omega) hT hKA).mono fun e w' h9 => ?_
      obtain ⟨v, rfl, h10, h11, h12⟩ := h9
      exact ⟨v, rfl, h10, ⟨⟨ok.names, ok.nodup, ok.gnames, ok.gnodup, ok.few, ok.gfew⟩, hne, nv, ng, V, G, h11, hV, hG, l1, l2⟩, h12.mono fun k hk => .inl hk⟩
end Go.Proofs.YthfmpebgmojcaaaDoor.Ky
/- Open of any names and bytes, over a tree as mathematics. -/
namespace Go.Proofs.YthfmpebgmojcaaaDoor.Ky
open Go.RowKit Go.Maps
set_option linter.unusedVariables false
set_option maxRecDepth 20000
set_option maxHeartbeats 400000 in
theorem open_bad {w : World} {K : Array Value} {key : List UInt8} (hK : HV K key) (a : Option Addr) (n cap : Nat) (hn : n < 24 ∨ 1048 < n) :
    Calls Tryd.prog 70 #[.agg K, .slice a n cap] w fun e w' => e = .returned (.tuple #[.slice none 0 0, .int .u64 0, .int .i64 (if n < 24 then 3 else 6)]) ∧ Below w.heap.size w w' := by
  have b0 : Hid (Below w.heap.size w (w.alloc (.cells K 69))) := (Below.refl _ w).alloc (Nat.le_refl _) _
  have hinf : (Tryd.prog.info? 69).map (·.size) = some K.size := hK.info
  by_cases h : n < 24
  · rw [if_pos h]
    have d1 : (n : Int) < 24 := by omega
    clear hn
    go_enter Tryd.func70, Tryd.ntmps70
    go_wp2
    go_ret3
    exact ⟨rfl, b0.out⟩
  · rw [if_neg h]
    have d1 : ¬ (n : Int) < 24 := by omega
    have d2 : (1048 : Int) < (n : Int) := by omega
    clear hn
    go_enter Tryd.func70, Tryd.ntmps70
    go_wp2
    go_ret3
    exact ⟨rfl, b0.out⟩
def openS (key S : List UInt8) : List UInt8 × Nat :=
  if S.length < 24 then ([], 3) else if 1048 < S.length then ([], 6)
  else if S.drop (S.length - 16) = tagB key (S.take (S.length - 16)) then (cross key (numB (S.take 8)) ((S.take (S.length - 16)).drop 8), 0) else ([], 10)
theorem openS_err {key S : List UInt8} (h : (openS key S).2 ≠ 0) : (openS key S).1 = [] := by
  unfold openS at h ⊢
  split at h
  · rename_i h1; rw [if_pos h1]
  · rename_i h1
    rw [if_neg h1]
    split at h
    · rename_i h2; rw [if_pos h2]
    · rename_i h2
      rw [if_neg h2]
      split at h
      · exact absurd rfl h
      · rename_i h3; rw [if_neg h3]
theorem openS_any {w : World} {K : Array Value} {key : List UInt8} (hK : HV K key) (S : List UInt8) (ab ao n cap : Nat) (hn : n = S.length) (hB : Bytes w (some ⟨ab, ao, none⟩) S) (hcap : n ≤ cap) (hT : KAt w) : ∃ nu : Nat,
    Calls Tryd.prog 70 #[.agg K, .slice (some ⟨ab, ao, none⟩) n cap] w fun e w' => ∃ vv, e = .returned (.tuple #[vv, .int .u64 (nu : Int), .int .i64 ((openS key S).2 : Int)]) ∧ w'.ownsRow w.heap.size 5 1 vv (openS key S).1.length (cellsOf (openS key S).1) ∧ Below w.heap.size w w' := by
  unfold openS
  by_cases h1 : S.length < 24
  · rw [if_pos h1]
    refine ⟨0, (open_bad hK _ n cap (by omega)).mono fun e w' h => ⟨_, ?_, nilJ _ _, h.2⟩⟩
    rw [h.1, if_pos (by omega)]
    rfl
  · rw [if_neg h1]
    by_cases h2 : 1048 < S.length
    · rw [if_pos h2]
      refine ⟨0, (open_bad hK _ n cap (by omega)).mono fun e w' h => ⟨_, ?_, nilJ _ _, h.2⟩⟩
      rw [h.1, if_neg (by omega)]
      rfl
    · rw [if_neg h2]
      by_cases h3 : S.drop (S.length - 16) = tagB key (S.take (S.length - 16))
      · rw [if_pos h3]
        refine ⟨numB (S.take 8), (open_any hK S ab ao n cap hn hB (by omega) (by omega) hcap hT).mono fun e w' h => ?_⟩
        obtain ⟨v, he, hown⟩ := h.right h3
        exact ⟨v, he, hown, h.below⟩
      · rw [if_neg h3]
        refine ⟨0, (open_any hK S ab ao n cap hn hB (by omega) (by omega) hcap hT).mono fun e w' h => ?_⟩
        exact ⟨_, h.wrong h3, nilJ _ _, h.below⟩
set_option maxHeartbeats 4000000 in
theorem open_gen {w : World} {B g mv mg : Nat} {root : List UInt8} {s : TS} {d : Nat} (h : TreeM w B g mv mg root s d) (t u : ByteArray) (ht : t.size ≤ maxLen) (hu : u.size ≤ maxLen) (he0 : (s.cur t u).2 = 0) (v : Nat) (hv : v ≤ 255) (key : List UInt8) (hkey : s.keyR root t u (v : Int) = (key, 0)) (S : List UInt8) (gs m cap : Nat) (hm : m = S.length + 1) (hm9 : m ≤ 140737488351232) (hmc : m ≤ cap) (hB : Bytes w (some ⟨gs, 0, none⟩) (UInt8.ofNat v :: S)) (hT : TabAt w) (hKA : KAt w) :
    Calls Tryd.prog 29 #[.pointer (some ⟨g, 0, none⟩), .string t, .string u, .slice (some ⟨gs, 0, none⟩) m cap] w fun e w' => ∃ vv, e = .returned (.tuple #[vv, .int .i64 (if (openS key S).2 = 0 then (v : Int) else 0), .int .i64 ((openS key S).2 : Int)]) ∧ w'.ownsRow w.heap.size 5 1 vv (openS key S).1.length (cellsOf (openS key S).1) ∧ Below w.heap.size w w' := by
  obtain ⟨Z, hZ⟩ : ∃ Z, Z = bvs (List.replicate 32 0) := ⟨_, rfl⟩
  have zh := (zero_of_info zero_hash).1
  rw [← hZ] at zh
  have hz : Hid (HV Z (List.replicate 32 0)) := by
    show HV _ _
    rw [hZ]; exact hv_zero
  have zh := hid zh
  have HC := hid (by have := current_m h t u ht hu; rw [he0] at this; exact this)
  obtain ⟨c, hcc⟩ : ∃ c, c = (s.cur t u).1 := ⟨_, rfl⟩
  rw [← hcc] at HC
  have HKy := hid (fun (W : World) (hW : Below w.heap.size w W) => by have := key_m (h.below hW) t u ht hu (v : Int) (TabAt.belowJ hT hW) (hKA.below hW); rw [hkey] at this; exact this)
  have hv8 : ((UInt8.ofNat v).toNat : Int) = (v : Int) := by
    have : (UInt8.ofNat v).toNat = v := by simp; omega
    omega
  have q0 : w.cell? ⟨gs, 0, none⟩ = some (.int .u8 (v : Int)) := by
    obtain ⟨b9, o9, e9, hc9⟩ := hB 0 (by simp)
    cases e9
    rw [← hv8]
    exact hc9
  have hB1 : Bytes w (some ⟨gs, 1, none⟩) S := fun i hi => by
    obtain ⟨b9, o9, e9, hc9⟩ := hB (i + 1) (by simp; omega)
    cases e9
    refine ⟨gs, 1, rfl, ?_⟩
    rw [show 1 + i = 0 + (i + 1) by omega]
    exact hc9
  obtain ⟨oo, hoo⟩ : ∃ oo, oo = if 1 < cap then 1 else 0 := ⟨_, rfl⟩
  have hB1 : Bytes w (some ⟨gs, oo, none⟩) S := by
    by_cases hc : 1 < cap
    · rw [hoo, if_pos hc]; exact hB1
    · intro i hi; omega
  have HB1 := hid hB1
  have Hoo := hid hoo
  clear hoo
  have H := hid h
  have HKA := hid hKA
  have Q0 := hid q0
  have gm0 : ((m : Int) == 0) = false := by simp; omega
  have hm0 : 0 < m := by omega
  have Hm := hid hm
  have Hm9 := hid hm9
  obtain ⟨er, her⟩ : ∃ er, er = (openS key S).2 := ⟨_, rfl⟩
  obtain ⟨pl, hpl⟩ : ∃ pl, pl = (openS key S).1 := ⟨_, rfl⟩
  have Her := hid her
  have Hpl := hid hpl
  rw [← her, ← hpl]
  obtain ⟨vr, hvr⟩ : ∃ vr : Int, vr = if er = 0 then (v : Int) else 0 := ⟨_, rfl⟩
  have Hvr := hid hvr
  rw [← hvr]
  clear hvr
  clear hm h hZ hT hkey hB hB1 hKA hv8 q0 hcc he0 her hpl hm9
  go_enter Tryd.func29, Tryd.ntmps29
  go_wp2_with (first
    | (go_at_call 67; refine HC.out.mono ?_; rintro _ w1 ⟨rfl, b1⟩; have B1 := hid b1; have q1 := (b1.cell (World.block_lt_of_cell? _ _ Q0.out)).trans Q0.out; clear b1)
    | (go_at_call 68; refine (HKy.out w1 B1.out).mono ?_; rintro _ w2 ⟨O, rfl, hO, b2⟩; obtain rfl := hO.eq; have hlk := hid hO.len; have B2 := hid (Below.on' B1.out b2); have X2 : Hid ((w2.alloc (.cells Z 69)).heap[w2.heap.size]? = some (.cells Z 69 (0, 0))) := heap_alloc_new w2 _; have HI := hid hO.info; have HZ9 := hid (hz.out.size.trans hO.size.symm); have HO1 := hid hO.one; clear b2 hO)
    | (with_reducible show Go.wpList _ _ _ _ _ _; refine wpList_alloc_row rfl 69 rfl Z zh.out ?_)
    | (with_reducible show Go.wpList _ _ _ _ _ _; refine wpList_store_row rfl 69 _ _ rfl w2.heap.size (bvs key) rfl rfl 69 Z X2.out HI.out HZ9.out HO1.out ?_))
  obtain ⟨W3, hW3⟩ : ∃ W3, W3 = (w2.alloc (.cells Z 69)).setRow w2.heap.size (bvs key) := ⟨_, rfl⟩
  have b3 : Below w2.heap.size w2 W3 := by rw [hW3]; exact ((Below.refl _ w2).alloc (Nat.le_refl _) _).setRow (Nat.le_refl _) _
  have x3 : W3.heap[w2.heap.size]? = some (.cells (bvs key) 69 (0, 0)) := by rw [hW3]; exact setRow_heap _ _ _ _ _ _ X2.out
  rw [← hW3]
  obtain ⟨V0, hV0⟩ : ∃ V0, V0 = W3.drew := ⟨_, rfl⟩
  have b30 : Below W3.heap.size W3 V0 := by rw [hV0]; exact (Below.refl _ W3).drew
  have bw0 : Below w.heap.size w V0 := Below.on' (Below.on' B2.out b3) b30
  obtain ⟨nu, hcall⟩ := openS_any (w := V0) (K := bvs key) (key := key) ⟨rfl, hlk.out⟩ S gs oo (m - 1) (cap - 1) (by have := Hm.out; omega) (HB1.out.below bw0) (by omega) (HKA.out.below bw0)
  rw [← Her.out, ← Hpl.out] at hcall
  refine wp_act _ fun A hA => ?_
  have sz : A.tmps.size = 59 := by rw [hA]; rfl
  have e3 : A.eval (.tmp 3) = .slice (some ⟨gs, 0, none⟩) m cap := by rw [hA]; rfl
  have e14 : A.eval (.tmp 14) = .pointer (some ⟨w2.heap.size, 0, none⟩) := by rw [hA]; rfl
  refine wp_split _ (open_region10 (P := fun vv w' => w'.ownsRow V0.heap.size 5 1 vv pl.length (cellsOf pl)) sz e3 e14 hlk.out (by omega) Hoo.out (by omega) hcall hV0 ((b30.block _ (heap_lt x3)).trans x3)) ?_
  rintro _ V4 ⟨vv, rfl, hown, b4⟩
  rw [hA]
  simp only [Act.put, List.setIfInBounds_toArray, List.set_cons_succ, List.set_cons_zero]
  have HOwn := hid (own_mono hown bw0.size)
  have BF := hid (Below.on' bw0 b4)
  clear sz e3 e14 hA A hcall hown b4 bw0 b30 b3 x3 hV0 hW3
  by_cases h0 : er = 0
  · have Hv0 : Hid (vr = (v : Int)) := Hvr.out.trans (if_pos h0)
    subst h0
    go_wp2
    go_ret3
    exact ⟨vv, by rw [Hv0.out]; rfl, HOwn.out, BF.out⟩
  · have H0 := hid h0
    have q9 : ((er : Int) != 0) = true := by simp; omega
    have hnil : Hid (pl = []) := by
      show pl = []
      rw [Hpl.out]
      exact openS_err (by rw [← Her.out]; exact h0)
    clear h0
    go_wp2
    go_ret3
    exact ⟨_, by rw [Hvr.out.trans (if_neg H0.out)]; rfl, by rw [hnil.out]; exact nilJ _ _, BF.out⟩
end Go.Proofs.YthfmpebgmojcaaaDoor.Ky
/- Open, over a tree as mathematics. -/
namespace Go.Proofs.YthfmpebgmojcaaaDoor.Ky
open Go.RowKit Go.Maps
set_option linter.unusedVariables false
set_option maxRecDepth 20000
def TS.openB (s : TS) (root : List UInt8) (t u : ByteArray) (b : UInt8) (S : List UInt8) : List UInt8 × (Nat × Nat) :=
  if (s.cur t u).2 ≠ 0 then ([], (0, (s.cur t u).2))
  else if (s.keyR root t u (b.toNat : Int)).2 ≠ 0 then ([], (0, (s.keyR root t u (b.toNat : Int)).2))
  else ((openS (s.keyR root t u (b.toNat : Int)).1 S).1, (if (openS (s.keyR root t u (b.toNat : Int)).1 S).2 = 0 then b.toNat else 0, (openS (s.keyR root t u (b.toNat : Int)).1 S).2))
def TS.openR (s : TS) (root : List UInt8) (t u : ByteArray) : List UInt8 → List UInt8 × (Nat × Nat)
  | [] => ([], (0, if (s.cur t u).2 ≠ 0 then (s.cur t u).2 else 3))
  | b :: S => s.openB root t u b S
set_option maxHeartbeats 4000000 in
theorem open_rng {w : World} {g : Nat} (t u : ByteArray) (z : Int) (v : Nat) (hv : v ≤ 255) (gs m cap : Nat) (hm0 : 0 < m) (q0 : w.cell? ⟨gs, 0, none⟩ = some (.int .u8 (v : Int))) (key : List UInt8) (HC : Calls Tryd.prog 67 #[.pointer (some ⟨g, 0, none⟩), .string t, .string u] w fun e w' => e = .returned (.tuple #[.int .i64 z, .int .i64 0]) ∧ Below w.heap.size w w')
    (HKy : ∀ W, Below w.heap.size w W → Calls Tryd.prog 68 #[.pointer (some ⟨g, 0, none⟩), .string t, .string u, .int .i64 (v : Int)] W (HashErr W key 2)) :
    Calls Tryd.prog 29 #[.pointer (some ⟨g, 0, none⟩), .string t, .string u, .slice (some ⟨gs, 0, none⟩) m cap] w fun e w' => e = .returned (.tuple #[.slice none 0 0, .int .i64 0, .int .i64 2]) ∧ Below w.heap.size w w' := by
  obtain ⟨Z, hZ⟩ : ∃ Z, Z = bvs (List.replicate 32 0) := ⟨_, rfl⟩
  have zh := (zero_of_info zero_hash).1
  rw [← hZ] at zh
  have hz : Hid (HV Z (List.replicate 32 0)) := by
    show HV _ _
    rw [hZ]; exact hv_zero
  have Zh := hid zh
  have HC := hid HC
  have HKy := hid HKy
  have Q0 := hid q0
  have gm0 : ((m : Int) == 0) = false := by simp; omega
  have hm0' := hid hm0
  clear hZ q0
  go_enter Tryd.func29, Tryd.ntmps29
  go_wp2_with (first
    | (go_at_call 67; refine HC.out.mono ?_; rintro _ w1 ⟨rfl, b1⟩; have B1 := hid b1; have q1 := (b1.cell (World.block_lt_of_cell? _ _ Q0.out)).trans Q0.out; clear b1)
    | (go_at_call 68; refine (HKy.out w1 B1.out).mono ?_; rintro _ w2 ⟨O, rfl, hO, b2⟩; obtain rfl := hO.eq; have hlk := hid hO.len; have B2 := hid (Below.on' B1.out b2); have X2 : Hid ((w2.alloc (.cells Z 69)).heap[w2.heap.size]? = some (.cells Z 69 (0, 0))) := heap_alloc_new w2 _; have HI := hid hO.info; have HZ9 := hid (hz.out.size.trans hO.size.symm); have HO1 := hid hO.one; clear b2 hO)
    | (with_reducible show Go.wpList _ _ _ _ _ _; refine wpList_alloc_row rfl 69 rfl Z Zh.out ?_)
    | (with_reducible show Go.wpList _ _ _ _ _ _; refine wpList_store_row rfl 69 _ _ rfl w2.heap.size (bvs key) rfl rfl 69 Z X2.out HI.out HZ9.out HO1.out ?_))
  go_ret3
  exact ⟨rfl, (B2.out.alloc B2.out.size _).setRow B2.out.size _⟩
theorem keyR_err {s : TS} {root : List UInt8} {t u : ByteArray} {v : Int} (h0 : (s.cur t u).2 = 0) (h : (s.keyR root t u v).2 ≠ 0) : (s.keyR root t u v).2 = 2 := by
  unfold TS.keyR at h ⊢
  rw [if_neg (by omega)] at h ⊢
  split at h
  · rename_i h1; rw [if_pos h1]
  · exact absurd rfl h
theorem open_m {w : World} {B g mv mg : Nat} {root : List UInt8} {s : TS} {d : Nat} (h : TreeM w B g mv mg root s d) (t u : ByteArray) (ht : t.size ≤ maxLen) (hu : u.size ≤ maxLen) (b : UInt8) (S : List UInt8) (gs m cap : Nat) (hm : m = S.length + 1) (hm9 : m ≤ 140737488351232) (hmc : m ≤ cap) (hB : Bytes w (some ⟨gs, 0, none⟩) (b :: S)) (hT : TabAt w) (hKA : KAt w) :
    Calls Tryd.prog 29 #[.pointer (some ⟨g, 0, none⟩), .string t, .string u, .slice (some ⟨gs, 0, none⟩) m cap] w fun e w' => ∃ v, e = .returned (.tuple #[v, .int .i64 ((s.openB root t u b S).2.1 : Int), .int .i64 ((s.openB root t u b S).2.2 : Int)]) ∧ w'.ownsRow w.heap.size 5 1 v (s.openB root t u b S).1.length (cellsOf (s.openB root t u b S).1) ∧ Below w.heap.size w w' := by
  have HC := current_m h t u ht hu
  have hb8 : UInt8.ofNat b.toNat = b := by simp
  unfold TS.openB
  by_cases he : (s.cur t u).2 ≠ 0
  · rw [if_pos he]
    refine (open_err t u _ _ _ (by omega) HC).mono fun e w' h9 => ?_
    exact ⟨_, h9.1, nilJ _ _, h9.2⟩
  · rw [if_neg he]
    have he0 : (s.cur t u).2 = 0 := by omega
    by_cases hk : (s.keyR root t u (b.toNat : Int)).2 ≠ 0
    · rw [if_pos hk]
      rw [he0] at HC
      have q0 : w.cell? ⟨gs, 0, none⟩ = some (.int .u8 (b.toNat : Int)) := by
        obtain ⟨b9, o9, e9, hc9⟩ := hB 0 (by simp)
        cases e9
        exact hc9
      have h2 := keyR_err he0 hk
      rw [h2]
      refine (open_rng t u _ b.toNat (by have := b.toNat_lt; omega) gs m cap (by omega) q0 _ HC (fun W hW => by have := key_m (h.below hW) t u ht hu (b.toNat : Int) (TabAt.belowJ hT hW) (hKA.below hW); rw [h2] at this; exact this)).mono fun e w' h9 => ?_
      exact ⟨_, h9.1, nilJ _ _, h9.2⟩
    · rw [if_neg hk]
      have hk0 : (s.keyR root t u (b.toNat : Int)).2 = 0 := by omega
      refine (open_gen h t u ht hu he0 b.toNat (by have := b.toNat_lt; omega) _ (by rw [← hk0]) S gs m cap hm hm9 hmc (by rw [hb8]; exact hB) hT hKA).mono fun e w' h9 => ?_
      obtain ⟨v, rfl, h10, h11⟩ := h9
      refine ⟨v, ?_, h10, h11⟩
      split <;> rfl
end Go.Proofs.YthfmpebgmojcaaaDoor.Ky
/- Reseal, over a tree as mathematics. -/
namespace Go.Proofs.YthfmpebgmojcaaaDoor.Ky
open Go.RowKit Go.Maps
set_option linter.unusedVariables false
set_option maxRecDepth 20000
end Go.Proofs.YthfmpebgmojcaaaDoor.Ky
/- Open and Reseal of any bytes, none too, over a tree as mathematics. -/
namespace Go.Proofs.YthfmpebgmojcaaaDoor.Ky
open Go.RowKit Go.Maps
set_option linter.unusedVariables false
set_option maxRecDepth 20000
section
variable {w : World} {B g mv mg : Nat} {root : List UInt8} {s : TS} {d : Nat}
theorem openR_nil (s : TS) (root : List UInt8) (t u : ByteArray) : s.openR root t u [] = ([], (0, if (s.cur t u).2 ≠ 0 then (s.cur t u).2 else 3)) := rfl
theorem open_none (h : TreeM w B g mv mg root s d) (t u : ByteArray) (ht : t.size ≤ maxLen) (hu : u.size ≤ maxLen) (a : Option Addr) (cap : Nat) :
    Calls Tryd.prog 29 #[.pointer (some ⟨g, 0, none⟩), .string t, .string u, .slice a 0 cap] w fun e w' => e = .returned (.tuple #[.slice none 0 0, .int .i64 0, .int .i64 ((if (s.cur t u).2 ≠ 0 then (s.cur t u).2 else 3 : Nat) : Int)]) ∧ Below w.heap.size w w' := by
  have HC := current_m h t u ht hu
  by_cases he : (s.cur t u).2 ≠ 0
  · rw [if_pos he]
    exact open_err t u _ _ _ (by omega) HC
  · rw [if_neg he]
    have he0 : (s.cur t u).2 = 0 := by omega
    rw [he0] at HC
    exact open_empty t u a cap _ HC
theorem open_l (h : TreeM w B g mv mg root s d) (t u : ByteArray) (ht : t.size ≤ maxLen) (hu : u.size ≤ maxLen) (S : List UInt8) (a : Option Addr) (m cap : Nat) (hm : m = S.length) (hm9 : m ≤ 140737488351232) (hmc : m ≤ cap) (ha : S ≠ [] → ∃ gs, a = some ⟨gs, 0, none⟩) (hB : Bytes w a S) (hT : TabAt w) (hKA : KAt w) :
    Calls Tryd.prog 29 #[.pointer (some ⟨g, 0, none⟩), .string t, .string u, .slice a m cap] w fun e w' => ∃ v, e = .returned (.tuple #[v, .int .i64 ((s.openR root t u S).2.1 : Int), .int .i64 ((s.openR root t u S).2.2 : Int)]) ∧ w'.ownsRow w.heap.size 5 1 v (s.openR root t u S).1.length (cellsOf (s.openR root t u S).1) ∧ Below w.heap.size w w' := by
  cases S with
  | nil =>
    subst hm
    refine (open_none h t u ht hu a cap).mono fun e w' h9 => ?_
    rw [openR_nil]
    exact ⟨_, h9.1, nilJ _ _, h9.2⟩
  | cons b S =>
    obtain ⟨gs, rfl⟩ := ha (by simp)
    exact open_m h t u ht hu b S gs m cap (by simpa using hm) hm9 hmc hB hT hKA
end
end Go.Proofs.YthfmpebgmojcaaaDoor.Ky
/- A new tree of keys, as mathematics. -/
namespace Go.Proofs.YthfmpebgmojcaaaDoor.Ky
open Go.RowKit Go.Maps
set_option linter.unusedVariables false
set_option maxRecDepth 20000
def TS0 : TS := ⟨[], [], 0⟩
theorem TS0_ok : TS0.Ok := ⟨(fun p hp => nomatch hp), List.nodup_nil, (fun p hp => nomatch hp), List.nodup_nil, by decide, by decide⟩
theorem treeM_new {w : World} {B B' g mv mg : Nat} {root : List UInt8} (h : TreeAt w B' g root mv mg 0 0 (.map []) (.map []) 0) (hne : mv ≠ mg) (hB : B ≤ B') : TreeM w B g mv mg root TS0 0 :=
  ⟨TS0_ok, hne, 0, 0, _, _, ⟨h.obj, h.vm, h.gm, h.len, Nat.le_trans hB h.bg, Nat.le_trans hB h.bv, Nat.le_trans hB h.bm⟩, vrel_new, grel_new, Nat.le_refl _, Nat.le_refl _⟩
end Go.Proofs.YthfmpebgmojcaaaDoor.Ky
