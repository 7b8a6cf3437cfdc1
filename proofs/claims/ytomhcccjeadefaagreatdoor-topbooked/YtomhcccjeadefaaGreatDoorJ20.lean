/- YtomhcccjeadefaaGreatDoorJ17 + YtomhcccjeadefaaGreatDoorJ18 + YtomhcccjeadefaaGreatDoorJ19 + YtomhcccjeadefaaGreatDoorJ20 -/
import Derived.Test.YtomhcccjeadefaaGreatDoorJ16
/- Current and Rotate of any names, over a tree as mathematics. -/
namespace Go.Proofs.YtomhcccjeadefaaGreatDoor
open Go.RowKit Go.Maps
set_option linter.unusedVariables false
set_option maxRecDepth 20000
def TreeM (w : World) (B g mv mg : Nat) (root : List UInt8) (s : TS) (d : Nat) : Prop := s.Ok ∧ mv ≠ mg ∧ ∃ nv ng V G, TreeAt w B g root mv mg nv ng V G s.n ∧ VRel V s.vs ∧ GRel G s.gs ∧ nv ≤ d ∧ ng ≤ d
def Mine (g mv mg : Nat) (j : Nat) : Prop := j = g ∨ j = mv ∨ j = mg
section
variable {w w' : World} {B g mv mg : Nat} {root : List UInt8} {s : TS} {d : Nat}
theorem TreeM.below (h : TreeM w B g mv mg root s d) (hb : Below w.heap.size w w') : TreeM w' B g mv mg root s d := by
  obtain ⟨ok, hne, nv, ng, V, G, h1, h2⟩ := h
  exact ⟨ok, hne, nv, ng, V, G, h1.below hb, h2⟩
theorem OutJ.mono {P Q : Nat → Prop} (h : OutJ P w w') (hpq : ∀ k, P k → Q k) : OutJ Q w w' := ⟨h.os, h.tape, h.output, h.size, fun k hk hq => h.block k hk (fun hp => hq (hpq k hp))⟩
theorem current_m (h : TreeM w B g mv mg root s d) (t u : ByteArray) (ht : t.size ≤ maxLen) (hu : u.size ≤ maxLen) :
    Calls Tryz.prog 23 #[.pointer (some ⟨g, 0, none⟩), .string t, .string u] w fun e w' => e = .returned (.tuple #[.int .i64 ((s.cur t u).1 : Int), .int .i64 ((s.cur t u).2 : Int)]) ∧ Below w.heap.size w w' := by
  obtain ⟨ok, hne, nv, ng, V, G, h1, hV, hG, _⟩ := h
  unfold TS.cur
  by_cases hn : (okN t && okN u) = true
  · rw [if_pos hn]
    obtain ⟨n1, n2⟩ := (Bool.and_eq_true _ _).mp hn
    refine (current_any h1 t u ⟨ht, n1⟩ ⟨hu, n2⟩ (keyP t u) (keyOf_place t u ht hu) _ (hV.ver t u ht hu) (isIn s.gs t) (hG.has t)).mono fun e w' h => ?_
    obtain ⟨rfl, hb⟩ := h
    refine ⟨?_, hb⟩
    unfold goneE
    cases isIn s.gs t <;> rfl
  · rw [if_neg hn]
    exact current_bad t u ht hu (by simpa using hn)
def TS.rotR (s : TS) (t u : ByteArray) : TS × (Nat × Nat) :=
  if (s.cur t u).2 ≠ 0 then (s, (0, (s.cur t u).2))
  else if (s.cur t u).1 = 16 ∨ ((s.cur t u).1 = 1 ∧ s.vs.length = 16) then (s, (0, 7))
  else (s.rot t u ((s.cur t u).1 + 1), ((s.cur t u).1 + 1, 0))
set_option maxHeartbeats 1000000 in
theorem rotate_err {w : World} {g : Nat} (t u : ByteArray) (z c : Int) (hc : c ≠ 0) (H : Calls Tryz.prog 23 #[.pointer (some ⟨g, 0, none⟩), .string t, .string u] w fun e w' => e = .returned (.tuple #[.int .i64 z, .int .i64 c]) ∧ Below w.heap.size w w') :
    Calls Tryz.prog 10 #[.pointer (some ⟨g, 0, none⟩), .string t, .string u] w fun e w' => e = .returned (.tuple #[.int .i64 0, .int .i64 c]) ∧ Below w.heap.size w w' := by
  have q0 : (c != 0) = true := by simpa using hc
  go_enter Tryz.func10, Tryz.ntmps10
  go_wp2_with (go_at_call 23; refine H.mono ?_; rintro _ w1 ⟨rfl, b1⟩)
  go_ret2
  exact ⟨rfl, b1⟩
set_option maxHeartbeats 2000000 in
theorem rotate_full {w : World} {B g : Nat} {root : List UInt8} {mv mg nv ng : Nat} {VM GM : DataW Unit} {k : Nat} (h : TreeAt w B g root mv mg nv ng VM GM k) (t u : ByteArray) (c : Nat) (hf : c = 16 ∨ (c = 1 ∧ Maps.size VM = 16)) (HC : Calls Tryz.prog 23 #[.pointer (some ⟨g, 0, none⟩), .string t, .string u] w fun e w' => e = .returned (.tuple #[.int .i64 (c : Int), .int .i64 0]) ∧ Below w.heap.size w w') :
    Calls Tryz.prog 10 #[.pointer (some ⟨g, 0, none⟩), .string t, .string u] w fun e w' => e = .returned (.tuple #[.int .i64 0, .int .i64 7]) ∧ Below w.heap.size w w' := by
  have H := hid h
  clear h
  rcases hf with rfl | ⟨rfl, hsz⟩
  · go_enter Tryz.func10, Tryz.ntmps10
    go_wp2_with (go_at_call 23; refine HC.mono ?_; rintro _ w1 ⟨rfl, b1⟩)
    go_ret2
    exact ⟨rfl, b1⟩
  · have g2 : ((Maps.size VM : Int) == 16) = true := by simp; omega
    go_enter Tryz.func10, Tryz.ntmps10
    go_wp2_with (go_at_call 23; refine HC.mono ?_; rintro _ w1 ⟨rfl, b1⟩; have hT1 := H.out.below b1; have c32 := hT1.c32; have hlen := hT1.vm.len Tryz.underlying55 3; have B1 := hid b1; clear b1 hT1)
    go_ret2
    exact ⟨rfl, B1.out⟩
theorem rotate_m (h : TreeM w B g mv mg root s d) (hd : d ≤ 900) (t u : ByteArray) (ht : t.size ≤ maxLen) (hu : u.size ≤ maxLen) :
    Calls Tryz.prog 10 #[.pointer (some ⟨g, 0, none⟩), .string t, .string u] w fun e w' => e = .returned (.tuple #[.int .i64 ((s.rotR t u).2.1 : Int), .int .i64 ((s.rotR t u).2.2 : Int)]) ∧ TreeM w' B g mv mg root (s.rotR t u).1 (d + 1) ∧ OutJ (Mine g mv mg) w w' := by
  have HC := current_m h t u ht hu
  have up : ∀ w', Below w.heap.size w w' → TreeM w' B g mv mg root s (d + 1) := fun w' hb => by
    obtain ⟨ok, hne, nv, ng, V, G, h1, hV, hG, l1, l2⟩ := h
    exact ⟨ok, hne, nv, ng, V, G, h1.below hb, hV, hG, by omega, by omega⟩
  unfold TS.rotR
  by_cases he : (s.cur t u).2 ≠ 0
  · rw [if_pos he]
    refine (rotate_err t u _ _ (by omega) HC).mono fun e w' h9 => ?_
    exact ⟨h9.1, up w' h9.2, OutJ.of_below h9.2⟩
  · rw [if_neg he]
    have he0 : (s.cur t u).2 = 0 := by omega
    rw [he0] at HC
    obtain ⟨ok, hne, nv, ng, V, G, h1, hV, hG, l1, l2⟩ := h
    by_cases hf : (s.cur t u).1 = 16 ∨ ((s.cur t u).1 = 1 ∧ s.vs.length = 16)
    · rw [if_pos hf]
      refine (rotate_full h1 t u _ (by rw [hV.size]; exact hf) HC).mono fun e w' h9 => ?_
      exact ⟨h9.1, up w' h9.2, OutJ.of_below h9.2⟩
    · rw [if_neg hf]
      have hn : (okN t && okN u) = true := by
        by_cases hn : (okN t && okN u) = true
        · exact hn
        · unfold TS.cur at he0; rw [if_neg hn] at he0; cases he0
      obtain ⟨n1, n2⟩ := (Bool.and_eq_true _ _).mp hn
      have hg : isIn s.gs t = false := by
        cases hg : isIn s.gs t with
        | false => rfl
        | true => unfold TS.cur at he0; rw [if_pos hn, if_pos hg] at he0; cases he0
      have hc : (s.cur t u).1 = verOf s.vs t u := by unfold TS.cur; rw [if_pos hn, if_neg (by rw [hg]; simp)]
      rw [hc] at hf ⊢
      obtain ⟨v1, v2⟩ := verOf_ok ok t u
      have hlen := rotV_length ok.nodup t u (verOf s.vs t u + 1)
      have hfew := ok.few
      have hv1 : s.vs.any (isAt t u) = false → verOf s.vs t u = 1 := fun ha => by
        unfold verOf
        rw [List.find?_eq_none.2 (fun p hp => by have := List.any_eq_false.1 ha p hp; simpa using this)]
        rfl
      have hl16 : (rotV s.vs t u (verOf s.vs t u + 1)).length ≤ 16 := by
        rw [hlen]
        cases ha : s.vs.any (isAt t u) with
        | true => simp; exact hfew
        | false => have := hv1 ha; simp; omega
      refine (rotate_ok h1 t u ⟨by have := okN_len n1; omega, n1⟩ ⟨by have := okN_len n2; omega, n2⟩ (keyP t u) (keyOf_place t u ht hu) _ (hV.ver t u ht hu) v1 (by omega) (by rw [hG.has, hg]) (fun h => by rw [hV.size]; omega) (by omega) hne).mono fun e w' h9 => ?_
      obtain ⟨rfl, h10, h11⟩ := h9
      exact ⟨rfl, ⟨ok.rot t u n1 n2 (fun hm => by rw [isIn_iff.2 hm] at hg; cases hg) _ (by omega) (by omega) hl16, hne, _, _, _, _, h10, hV.rot ok t u ht hu _, hG, by omega, by omega⟩, h11.mono fun k hk => .inr (.inl hk)⟩
end
end Go.Proofs.YtomhcccjeadefaaGreatDoor
/- Destroy: the region that draws. -/
namespace Go.Proofs.YtomhcccjeadefaaGreatDoor
open Go.RowKit Go.Maps
set_option linter.unusedVariables false
set_option maxRecDepth 20000
theorem OutJ.step {P : Nat → Prop} {a b c : World} {r : Option Nat} (h : OutJ P a b) (hg : b.grownBy c r) (hr : ∀ x, r = some x → P x ∨ a.heap.size ≤ x) : OutJ P a c :=
  ⟨hg.os.trans h.os, hg.tape.trans h.tape, hg.output.trans h.output, Nat.le_trans h.size hg.size, fun k hk hp => (hg.block k (Nat.lt_of_lt_of_le hk h.size) (fun e => by rcases hr k e.symm with h1 | h1; exact hp h1; omega)).trans (h.block k hk hp)⟩
end Go.Proofs.YtomhcccjeadefaaGreatDoor
/- Destroy, over a tree as mathematics. -/
namespace Go.Proofs.YtomhcccjeadefaaGreatDoor
open Go.RowKit Go.Maps
set_option linter.unusedVariables false
set_option maxRecDepth 20000
theorem GRel.put {G : DataW Unit} {gs : List ByteArray} (h : GRel G gs) (t : ByteArray) (hg : isIn gs t = false) : GRel (G.put (.string t.data.toList) (.agg [])) (gs ++ [t]) := by
  have hl : WideAt.IsKeyLit (Lit.string t.data.toList) := True.intro
  refine ⟨h.tidy.put hl _, fun t' => ?_, ?_⟩
  · by_cases e : t' = t
    · subst e
      rw [has_put_same h.tidy.isMap hl]
      unfold isIn
      simp
    · rw [has_put_other (fun e' => e (by injection e' with e'; cases t'; cases t; simp at e'; rw [e'])), h.has]
      unfold isIn
      rw [List.any_append]
      have : ¬ t = t' := fun h => e h.symm
      simp [this]
  · rw [size_put h.tidy, h.has, hg, h.size]
    simp
end Go.Proofs.YtomhcccjeadefaaGreatDoor
/- Key and Seal of any names, over a tree as mathematics. -/
namespace Go.Proofs.YtomhcccjeadefaaGreatDoor
open Go.RowKit Go.Maps
set_option linter.unusedVariables false
set_option maxRecDepth 20000
theorem esc_le : ∀ l : List UInt8, (esc l).length ≤ 2 * l.length
  | [] => by simp [esc]
  | c :: r => by
    have := esc_le r
    unfold esc
    split <;> simp <;> omega
theorem txt_le : ∀ v : Fin 17, (numT v.val).length ≤ 3 := by decide +kernel
theorem keyErr_ok {t u : ByteArray} (ht : okN t = true) (hu : okN u = true) {v : Nat} (hv : v ≤ 16) : keyErr [t, u, txtJ v] = 0 := by
  unfold keyErr
  rw [if_neg (by simp), if_neg]
  have h1 := okN_len ht
  have h2 := okN_len hu
  have h3 := txt_le ⟨v, by omega⟩
  have e1 := esc_le t.data.toList
  have e2 := esc_le u.data.toList
  have e3 := esc_le (txtJ v).data.toList
  have l1 : t.data.toList.length = t.size := by simp
  have l2 : u.data.toList.length = u.size := by simp
  have l3 : (txtJ v).data.toList.length = (numT v).length := by simp [txtJ]
  have h3' : (numT v).length ≤ 3 := h3
  have hb : bs [t, u, txtJ v] = [t.data.toList, u.data.toList, (txtJ v).data.toList] := rfl
  rw [hb]
  simp only [keyOf, List.length_append, List.length_cons, List.length_nil]
  omega
theorem cur_ok {s : TS} {t u : ByteArray} (h : (s.cur t u).2 = 0) : okN t = true ∧ okN u = true ∧ isIn s.gs t = false ∧ (s.cur t u).1 = verOf s.vs t u := by
  unfold TS.cur at h ⊢
  by_cases hn : (okN t && okN u) = true
  · rw [if_pos hn] at h ⊢
    obtain ⟨n1, n2⟩ := (Bool.and_eq_true _ _).mp hn
    by_cases hg : isIn s.gs t = true
    · rw [if_pos hg] at h; cases h
    · rw [if_neg hg]
      exact ⟨n1, n2, by simpa using hg, rfl⟩
  · rw [if_neg hn] at h; cases h
def TS.keyR (s : TS) (root : List UInt8) (t u : ByteArray) (v : Int) : List UInt8 × Nat :=
  if (s.cur t u).2 ≠ 0 then (List.replicate 32 0, (s.cur t u).2)
  else if v < 1 ∨ ((s.cur t u).1 : Int) < v then (List.replicate 32 0, 2)
  else (derRes root [t, u, txtJ v.toNat], 0)
set_option maxHeartbeats 2000000 in
theorem key_none {w : World} {g : Nat} (t u : ByteArray) (v z c : Int) (r : Int) (hr : (c ≠ 0 ∧ r = c) ∨ (c = 0 ∧ r = 2 ∧ (v < 1 ∨ z < v))) (H : ∀ W, Below w.heap.size w W → Calls Tryz.prog 23 #[.pointer (some ⟨g, 0, none⟩), .string t, .string u] W fun e w' => e = .returned (.tuple #[.int .i64 z, .int .i64 c]) ∧ Below W.heap.size W w') :
    Calls Tryz.prog 24 #[.pointer (some ⟨g, 0, none⟩), .string t, .string u, .int .i64 v] w (HashErr w (List.replicate 32 0) r) := by
  obtain ⟨Z, hZ⟩ : ∃ Z, Z = bvs (List.replicate 32 0) := ⟨_, rfl⟩
  have zh := (zero_of_info zero_hash).1
  have bh : Tryz.prog.built 27 [] = some (bvs (List.replicate 32 0)) := by kernel_rfl
  rw [← hZ] at zh bh
  have hz : Hid (HV Z (List.replicate 32 0)) := by
    show HV _ _
    rw [hZ]; exact hv_zero
  have Zh := hid zh
  have Bh := hid bh
  obtain ⟨W, hW⟩ : ∃ W, W = w.alloc (.cells Z 27) := ⟨_, rfl⟩
  have b0 : Below w.heap.size w W := by rw [hW]; exact (Below.refl _ w).alloc (Nat.le_refl _) _
  have x0 : W.heap[w.heap.size]? = some (.cells Z 27 (0, 0)) := by rw [hW]; exact heap_alloc_new w _
  have HC := hid (H W b0)
  have B0 := hid b0
  have X0 := hid x0
  have HW := hid hW
  clear hZ hW b0 x0 bh zh H
  rcases hr with ⟨hc, rfl⟩ | ⟨rfl, rfl, hv⟩
  · have q0 : (r != 0) = true := by simpa using hc
    go_enter Tryz.func24, Tryz.ntmps24
    go_wp2_with (first
      | (go_at_call 23; refine HC.out.mono ?_; rintro _ w1 ⟨rfl, b1⟩; have B1 := hid b1; have X1 := hid ((b1.block _ (heap_lt X0.out)).trans X0.out); clear b1)
      | (with_reducible show Go.wpList _ _ _ _ _ _; first
        | (refine wpList_alloc_row rfl 27 rfl Z Zh.out ?_; rw [← HW.out])
        | refine wpList_build_none rfl 27 rfl Z Bh.out ?_
        | refine wpList_store_row rfl 27 (.tmp 8) (.tmp 21) rfl w.heap.size Z rfl rfl 27 Z X1.out hz.out.info rfl hz.out.one ?_))
    refine bodyPost_ret (results_row_tmp rfl _ _ w.heap.size 27 Z (0, 0) _ rfl (setRow_heap _ _ _ _ _ _ X1.out) Tryz.underlying27 rfl hz.out.info) rfl ?_
    exact ⟨Z, rfl, hz.out, (Below.on' B0.out B1.out).setRow (Nat.le_refl _) _⟩
  · by_cases h1 : v < 1
    · have g1 : decide (v < 1) = true := by simpa using h1
      clear hv
      go_enter Tryz.func24, Tryz.ntmps24
      go_wp2_with (first
        | (go_at_call 23; refine HC.out.mono ?_; rintro _ w1 ⟨rfl, b1⟩; have B1 := hid b1; have X1 := hid ((b1.block _ (heap_lt X0.out)).trans X0.out); clear b1)
        | (with_reducible show Go.wpList _ _ _ _ _ _; first
          | (refine wpList_alloc_row rfl 27 rfl Z Zh.out ?_; rw [← HW.out])
          | refine wpList_build_none rfl 27 rfl Z Bh.out ?_
          | refine wpList_store_row rfl 27 (.tmp 8) (.tmp 30) rfl w.heap.size Z rfl rfl 27 Z X1.out hz.out.info rfl hz.out.one ?_))
      refine bodyPost_ret (results_row_tmp rfl _ _ w.heap.size 27 Z (0, 0) _ rfl (setRow_heap _ _ _ _ _ _ X1.out) Tryz.underlying27 rfl hz.out.info) rfl ?_
      exact ⟨Z, rfl, hz.out, (Below.on' B0.out B1.out).setRow (Nat.le_refl _) _⟩
    · have g1 : decide (v < 1) = false := by simpa using h1
      have g2 : decide (z < v) = true := by
        rcases hv with h | h
        · exact absurd h h1
        · simpa using h
      clear hv h1
      go_enter Tryz.func24, Tryz.ntmps24
      go_wp2_with (first
        | (go_at_call 23; refine HC.out.mono ?_; rintro _ w1 ⟨rfl, b1⟩; have B1 := hid b1; have X1 := hid ((b1.block _ (heap_lt X0.out)).trans X0.out); clear b1)
        | (with_reducible show Go.wpList _ _ _ _ _ _; first
          | (refine wpList_alloc_row rfl 27 rfl Z Zh.out ?_; rw [← HW.out])
          | refine wpList_build_none rfl 27 rfl Z Bh.out ?_
          | refine wpList_store_row rfl 27 (.tmp 8) (.tmp 30) rfl w.heap.size Z rfl rfl 27 Z X1.out hz.out.info rfl hz.out.one ?_))
      refine bodyPost_ret (results_row_tmp rfl _ _ w.heap.size 27 Z (0, 0) _ rfl (setRow_heap _ _ _ _ _ _ X1.out) Tryz.underlying27 rfl hz.out.info) rfl ?_
      exact ⟨Z, rfl, hz.out, (Below.on' B0.out B1.out).setRow (Nat.le_refl _) _⟩
theorem key_m {w : World} {B g mv mg : Nat} {root : List UInt8} {s : TS} {d : Nat} (h : TreeM w B g mv mg root s d) (t u : ByteArray) (ht : t.size ≤ maxLen) (hu : u.size ≤ maxLen) (v : Int) (hT : TabAt w) (hKA : KAt w) :
    Calls Tryz.prog 24 #[.pointer (some ⟨g, 0, none⟩), .string t, .string u, .int .i64 v] w (HashErr w (s.keyR root t u v).1 ((s.keyR root t u v).2 : Int)) := by
  have HC : ∀ W, Below w.heap.size w W → _ := fun W hW => current_m (h.below hW) t u ht hu
  unfold TS.keyR
  by_cases he : (s.cur t u).2 ≠ 0
  · rw [if_pos he]
    exact key_none t u v _ _ _ (.inl ⟨by omega, rfl⟩) HC
  · rw [if_neg he]
    have he0 : (s.cur t u).2 = 0 := by omega
    obtain ⟨n1, n2, hg, hc⟩ := cur_ok he0
    by_cases hv : v < 1 ∨ ((s.cur t u).1 : Int) < v
    · rw [if_pos hv]
      exact key_none t u v _ _ _ (.inr ⟨by omega, rfl, hv⟩) HC
    · rw [if_neg hv]
      obtain ⟨ok, hne, nv, ng, V, G, h1, hV, hG, l1, l2⟩ := h
      obtain ⟨v1, v2⟩ := verOf_ok ok t u
      obtain ⟨n, rfl⟩ : ∃ n : Nat, v = (n : Int) := ⟨v.toNat, by omega⟩
      have hk := key_ok h1 t u ⟨by have := okN_len n1; omega, n1⟩ ⟨by have := okN_len n2; omega, n2⟩ (keyP t u) (keyOf_place t u ht hu) _ (hV.ver t u ht hu) (by rw [hG.has, hg]) n (by omega) (by omega) (by omega) hT hKA
      rw [keyErr_ok n1 n2 (by omega)] at hk
      exact hk
end Go.Proofs.YtomhcccjeadefaaGreatDoor
