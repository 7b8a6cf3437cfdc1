/- YthfmpebgmojcaaaDoorJ1 + YthfmpebgmojcaaaDoorJ2 -/
import Derived.Test.YthfmpebgmojcaaaDoorHDerive
import Derived.Test.YthfmpebgmojcaaaDoorANum
import Derived.Test.YthfmpebgmojcaaaDoorSLeaf
import Derived.Test.YthfmpebgmojcaaaDoorEOpen
import Derived.Maps.OwnSet
import Derived.Maps.OwnOps
import Derived.DeepKeys4
import Derived.BigQuiet
import Derived.Deep.QuietTactic
/- A tree of keys in memory: New, reach, version, Current, by contracts. -/
namespace Go.Proofs.YthfmpebgmojcaaaDoor.Ky
open Go.RowKit Go.Maps
set_option linter.unusedVariables false
set_option maxRecDepth 20000
theorem laidOutJ : laidOutB Tryd.prog = true := by kernel_rfl
theorem lawPlace : Keyed Tryd.prog 166 := Keyed.of_law (deep_law_laid laidOutJ (m := 2) (by omega) (of_decide_eq_true (by kernel_rfl)) (by kernel_rfl) (by kernel_rfl))
theorem lawStr : Keyed Tryd.prog 9 := string_keyed Tryd.underlying9
def treeC (root : List UInt8) (mv mg n : Nat) : List Value := cellsOf root ++ [.map (some mv), .map (some mg), .int .i64 (n : Int)]
structure TreeAt (w : World) (B g : Nat) (root : List UInt8) (mv mg nv ng : Nat) (V G : DataW Unit) (n : Nat) : Prop where
  obj : w.heap[g]? = some (.cells (treeC root mv mg n).toArray 128 (0, 0))
  vm : w.ownsMap Tryd.prog 166 (plainElem Tryd.prog 3) mv nv V
  gm : w.ownsMap Tryd.prog 9 (unitElem (H := Unit)) mg ng G
  len : root.length = 32
  bg : B ≤ g
  bv : B ≤ mv
  bm : B ≤ mg
section
variable {w w' : World} {B g : Nat} {root : List UInt8} {mv mg nv ng : Nat} {V G : DataW Unit} {n : Nat}
theorem TreeAt.lt (h : TreeAt w B g root mv mg nv ng V G n) : g < w.heap.size := heap_lt h.obj
theorem TreeAt.c32 (h : TreeAt w B g root mv mg nv ng V G n) : w.cell? ⟨g, 32, none⟩ = some (.map (some mv)) := by
  rw [cell_of_row _ _ _ _ _ _ h.obj, treeC, List.getElem?_toArray, List.getElem?_append_right (by rw [cellsOf_length, h.len]; omega), cellsOf_length, h.len]
  rfl
theorem TreeAt.c33 (h : TreeAt w B g root mv mg nv ng V G n) : w.cell? ⟨g, 33, none⟩ = some (.map (some mg)) := by
  rw [cell_of_row _ _ _ _ _ _ h.obj, treeC, List.getElem?_toArray, List.getElem?_append_right (by rw [cellsOf_length, h.len]; omega), cellsOf_length, h.len]
  rfl
theorem TreeAt.c34 (h : TreeAt w B g root mv mg nv ng V G n) : w.cell? ⟨g, 34, none⟩ = some (.int .i64 (n : Int)) := by
  rw [cell_of_row _ _ _ _ _ _ h.obj, treeC, List.getElem?_toArray, List.getElem?_append_right (by rw [cellsOf_length, h.len]; omega), cellsOf_length, h.len]
  rfl
theorem TreeAt.fz (h : TreeAt w B g root mv mg nv ng V G n) (o : Nat) : w.frozen? ⟨g, o, none⟩ = false := frozen_of_row _ _ _ _ _ h.obj
theorem TreeAt.below (h : TreeAt w B g root mv mg nv ng V G n) (hb : Below w.heap.size w w') : TreeAt w' B g root mv mg nv ng V G n := by
  have hgr : w.grownBy w' none := ⟨hb.os, hb.tape, hb.output, hb.size, fun k hk _ => hb.block k hk⟩
  exact ⟨(hb.block g h.lt).trans h.obj, h.vm.kept hgr (by simp), h.gm.kept hgr (by simp), h.len, h.bg, h.bv, h.bm⟩
end
def VerIs (V : DataW Unit) (kl : Lit) (c : Int) : Prop := (Maps.has V kl = true ∧ V.atKey kl (.lit (.int .i64 0)) = .lit (.int .i64 c)) ∨ (Maps.has V kl = false ∧ c = 1)
theorem zeroInt (w : World) : (zeroValue 3).run Tryd.prog w = .ok (.int .i64 0) w := by kernel_rfl
theorem zeroUnit (w : World) : (zeroValue 188).run Tryd.prog w = .ok (.agg #[]) w := by kernel_rfl
set_option maxHeartbeats 1000000 in
theorem version_ok {w : World} {B g : Nat} {root : List UInt8} {mv mg nv ng : Nat} {V G : DataW Unit} {n : Nat} (h : TreeAt w B g root mv mg nv ng V G n) (t u : ByteArray) (kl : Lit) (hk : Go.keyOf Tryd.prog 166 (.agg #[.string t, .string u]) = some kl) (c : Int) (hc : VerIs V kl c) :
    Calls Tryd.prog 92 #[.pointer (some ⟨g, 0, none⟩), .agg #[.string t, .string u]] w fun e w' => e = .returned (.int .i64 c) ∧ Below w.heap.size w w' := by
  have b0 : Below w.heap.size w (w.alloc (.cells #[.string t, .string u] 166)) := (Below.refl _ w).alloc (Nat.le_refl _) _
  have h0 := h.below b0
  have c32 := h0.c32
  obtain ⟨W, hW⟩ : ∃ W, W = w.alloc (.cells #[.string t, .string u] 166) := ⟨_, rfl⟩
  rw [← hW] at h0 b0 c32
  obtain ⟨v, ps, hrun, hv⟩ := h0.vm.look_ok (z := .int .i64 0) lawPlace Tryd.underlying125 (zeroInt _) (plainElem_int Tryd.underlying3 (by decide)) hk
  obtain ⟨c0, rfl, hc0, _⟩ := plainElem_int_inv Tryd.underlying3 hv
  have hlk : ∀ q, (Instr.lookup 125 (.map (some mv)) (.agg #[.string t, .string u]) true).run Tryd.prog (W.drewN q) = .ok (.tuple #[.int .i64 c0, .bool (Maps.has V kl)]) (W.drewN q) := by
    intro q
    obtain ⟨v, ps, hrun', hv'⟩ := (h0.below (below_drewN _ _ q)).vm.look_ok (z := .int .i64 0) lawPlace Tryd.underlying125 (zeroInt _) (plainElem_int Tryd.underlying3 (by decide)) hk
    obtain ⟨c', rfl, hc', _⟩ := plainElem_int_inv Tryd.underlying3 hv'
    have f0 : V.atKey kl (.lit (.int .i64 0)) = .lit (.int .i64 c0) := congrArg Prod.fst hc0
    have f1 : V.atKey kl (.lit (.int .i64 0)) = .lit (.int .i64 c') := congrArg Prod.fst hc'
    have e2 : DataW.lit (H := Unit) (.int .i64 c0) = .lit (.int .i64 c') := f0.symm.trans f1
    injection e2 with e3
    injection e3 with _ e4
    rw [hrun', e4]
  have e9 : V.atKey kl (.lit (.int .i64 0)) = .lit (.int .i64 c0) := congrArg Prod.fst hc0
  have x0 : W.cell? ⟨w.heap.size, 0, none⟩ = some (.string t) := by rw [hW]; exact (World.cell?_alloc_at _ _ _ _ rfl).trans rfl
  have x1 : W.cell? ⟨w.heap.size, 1, none⟩ = some (.string u) := by rw [hW]; exact (World.cell?_alloc_at _ _ _ _ rfl).trans rfl
  have hlt : g < W.heap.size := h0.lt
  have HW := hid hW
  have B0 := hid b0
  have hlk0 := hlk 0
  rcases hc with ⟨h1, h2⟩ | ⟨h1, h2⟩
  · obtain rfl : c = c0 := by
      have e2 : DataW.lit (H := Unit) (.int .i64 c) = .lit (.int .i64 c0) := h2.symm.trans e9
      injection e2 with e3
      injection e3 with _ e4
    rw [h1] at hlk
    clear h h0 hrun hv hc0 h2 e9 hW b0 h1 hk hlk0
    go_enter Tryd.func92, Tryd.ntmps92
    go_wp2
    rw [← HW.out]
    go_quiet (fail)
    go_wp2
    go_ret
    exact ⟨rfl, B0.out.trans (below_drewN _ _ _)⟩
  · subst h2
    rw [h1] at hlk
    clear h h0 hrun hv hc0 e9 hW b0 h1 hk hlk0
    go_enter Tryd.func92, Tryd.ntmps92
    go_wp2
    rw [← HW.out]
    go_quiet (fail)
    go_wp2
    go_ret
    exact ⟨rfl, B0.out.trans (below_drewN _ _ _)⟩
end Go.Proofs.YthfmpebgmojcaaaDoor.Ky
/- A tree of keys: reach and Current, by contracts. -/
namespace Go.Proofs.YthfmpebgmojcaaaDoor.Ky
open Go.RowKit Go.Maps
set_option linter.unusedVariables false
set_option maxRecDepth 20000
def goneE (b : Bool) : Int := if b then 12 else 0
theorem gone_look {w : World} {B g : Nat} {root : List UInt8} {mv mg nv ng : Nat} {V G : DataW Unit} {n : Nat} (h : TreeAt w B g root mv mg nv ng V G n) (t : ByteArray) (ht : t.size ≤ maxLen) :
    (Instr.lookup 126 (.map (some mg)) (.string t) true).run Tryd.prog w = .ok (.tuple #[.agg #[], .bool (Maps.has G (.string t.data.toList))]) w := by
  obtain ⟨v, ps, hrun, hv⟩ := h.gm.look_ok (z := .agg #[]) lawStr Tryd.underlying126 (zeroUnit _) unitElem_mk (Go.WideMaps.keyOf_string_mk Tryd.underlying9 ht)
  obtain ⟨rfl, _⟩ := unitElem_inv hv
  exact hrun
set_option maxHeartbeats 2000000 in
theorem reach_any {w : World} {B g : Nat} {root : List UInt8} {mv mg nv ng : Nat} {V G : DataW Unit} {n : Nat} (h : TreeAt w B g root mv mg nv ng V G n) (t : ByteArray) (ht : t.size ≤ maxLen) (l : List ByteArray) (a : Option Addr) (m cap : Nat) (hm : m = l.length) (hl : Texts w a l) (hl9 : l.length ≤ 100) (hs : ∀ s ∈ l, s.size ≤ maxLen ∧ nameB s.data.toList = true) (b : Bool) (hb : Maps.has G (.string t.data.toList) = b) :
    Calls Tryd.prog 91 #[.pointer (some ⟨g, 0, none⟩), .string t, .slice a m cap] w fun e w' => e = .returned (.int .i64 (goneE b)) ∧ Below w.heap.size w w' := by
  have H := hid h
  have Hl := hid hl
  have Hs := hid hs
  have Hm := hid hm
  have hm9 : m ≤ 100 := by omega
  have Hlk := hid (fun (W : World) (hW : Below w.heap.size w W) => by have := gone_look (h.below hW) t ht; rw [hb] at this; exact this)
  clear h hl hs hm hb
  go_enter Tryd.func91, Tryd.ntmps91
  go_wp2
  go_loopw [15] (fun i wr => ∃ k : Nat, k ≤ m ∧ i = .int .i64 (k : Int) ∧ wr = w) (fun i _ => m - (intOf i).toNat)
  case atStart => exact ⟨0, Nat.zero_le _, rfl, rfl⟩
  case round =>
    obtain ⟨k, hk, rfl, rfl⟩ := hrel
    by_cases hlt : k < m
    · have g1 : decide ((k : Int) < (m : Int)) = true := by simp; omega
      have hkl : k < l.length := by have := Hm.out; omega
      obtain ⟨bb, oo, rfl, hc⟩ := Hl.out k hkl
      obtain ⟨s1, s2⟩ := Hs.out _ (List.getElem_mem hkl)
      generalize l[k] = s at *
      have HN := isName_any s wr s1
      rw [s2] at HN
      go_wp2_with (go_at_call 84; refine HN.mono ?_; rintro _ w9 ⟨rfl, e9⟩; subst w9)
      go_roundw
      case rel => exact ⟨k + 1, by omega, by go_num, by first | rfl | trivial⟩
      case measure => simp [intOf]; omega
    · have g1 : decide ((k : Int) < (m : Int)) = false := by simp; omega
      have c33 := H.out.c33
      have hlk := Hlk.out wr (Below.refl _ _)
      cases b
      · go_wp2
        go_ret
        exact ⟨rfl, (Below.refl _ wr).alloc (Nat.le_refl _) _⟩
      · go_wp2
        go_ret
        exact ⟨rfl, (Below.refl _ wr).alloc (Nat.le_refl _) _⟩
set_option maxHeartbeats 2000000 in
theorem current_any {w : World} {B g : Nat} {root : List UInt8} {mv mg nv ng : Nat} {V G : DataW Unit} {n : Nat} (h : TreeAt w B g root mv mg nv ng V G n) (t u : ByteArray) (ht : t.size ≤ maxLen ∧ nameB t.data.toList = true) (hu : u.size ≤ maxLen ∧ nameB u.data.toList = true) (kl : Lit) (hk : Go.keyOf Tryd.prog 166 (.agg #[.string t, .string u]) = some kl) (c : Int) (hc : VerIs V kl c) (b : Bool) (hb : Maps.has G (.string t.data.toList) = b) :
    Calls Tryd.prog 67 #[.pointer (some ⟨g, 0, none⟩), .string t, .string u] w fun e w' => e = .returned (.tuple #[.int .i64 (if b then 0 else c), .int .i64 (goneE b)]) ∧ Below w.heap.size w w' := by
  have b0 : Below w.heap.size w (w.alloc (.cells #[.string t, .string u] 9)) := (Below.refl _ w).alloc (Nat.le_refl _) _
  have htx : Texts (w.alloc (.cells #[.string t, .string u] 9)) (some ⟨w.heap.size, 0, none⟩) [t, u] := fun i hi => by
    refine ⟨w.heap.size, 0, rfl, ?_⟩
    rw [World.cell?_alloc_at _ _ _ _ rfl]
    match i, hi with
    | 0, _ => rfl
    | 1, _ => rfl
  have HR := hid (reach_any (h.below b0) t ht.1 [t, u] (some ⟨w.heap.size, 0, none⟩) 2 2 rfl htx (by simp) (fun s hs => by simp at hs; rcases hs with rfl | rfl; exact ht; exact hu) b hb)
  have HV := hid (fun (W : World) (hW : Below w.heap.size w W) => version_ok (h.below hW) t u kl hk c hc)
  have B0 := hid b0
  clear h htx b0 hc hb hk
  cases b
  · go_enter Tryd.func67, Tryd.ntmps67
    go_wp2_with (first
      | (go_at_call 91; refine HR.out.mono ?_; rintro _ w1 ⟨rfl, b1⟩; have B1 := hid (Below.on' B0.out b1); clear b1; unfold goneE)
      | (go_at_call 92; refine (HV.out w1 B1.out).mono ?_; rintro _ w2 ⟨rfl, b2⟩))
    go_ret2
    exact ⟨rfl, Below.on' B1.out b2⟩
  · go_enter Tryd.func67, Tryd.ntmps67
    go_wp2_with (first
      | (go_at_call 91; refine HR.out.mono ?_; rintro _ w1 ⟨rfl, b1⟩; have B1 := hid (Below.on' B0.out b1); clear b1; unfold goneE)
      | (go_at_call 92; refine (HV.out w1 B1.out).mono ?_; rintro _ w2 ⟨rfl, b2⟩))
    go_ret2
    exact ⟨rfl, B1.out⟩
end Go.Proofs.YthfmpebgmojcaaaDoor.Ky
