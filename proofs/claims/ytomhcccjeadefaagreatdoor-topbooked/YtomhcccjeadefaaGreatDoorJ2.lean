/- A tree of keys: reach and Current, by contracts. -/
import Derived.Test.YtomhcccjeadefaaGreatDoorJ1
namespace Go.Proofs.YtomhcccjeadefaaGreatDoor
open Go.RowKit Go.Maps
set_option linter.unusedVariables false
set_option maxRecDepth 20000
def goneE (b : Bool) : Int := if b then 12 else 0
theorem gone_look {w : World} {B g : Nat} {root : List UInt8} {mv mg nv ng : Nat} {V G : DataW Unit} {n : Nat} (h : TreeAt w B g root mv mg nv ng V G n) (t : ByteArray) (ht : t.size ≤ maxLen) :
    (Instr.lookup 56 (.map (some mg)) (.string t) true).run Tryz.prog w = .ok (.tuple #[.agg #[], .bool (Maps.has G (.string t.data.toList))]) w := by
  obtain ⟨v, ps, hrun, hv⟩ := h.gm.look_ok (z := .agg #[]) lawStr Tryz.underlying56 (zeroUnit _) unitElem_mk (Go.WideMaps.keyOf_string_mk Tryz.underlying9 ht)
  obtain ⟨rfl, _⟩ := unitElem_inv hv
  exact hrun
set_option maxHeartbeats 2000000 in
theorem reach_any {w : World} {B g : Nat} {root : List UInt8} {mv mg nv ng : Nat} {V G : DataW Unit} {n : Nat} (h : TreeAt w B g root mv mg nv ng V G n) (t : ByteArray) (ht : t.size ≤ maxLen) (l : List ByteArray) (a : Option Addr) (m cap : Nat) (hm : m = l.length) (hl : Texts w a l) (hl9 : l.length ≤ 100) (hs : ∀ s ∈ l, s.size ≤ maxLen ∧ nameB s.data.toList = true) (b : Bool) (hb : Maps.has G (.string t.data.toList) = b) :
    Calls Tryz.prog 46 #[.pointer (some ⟨g, 0, none⟩), .string t, .slice a m cap] w fun e w' => e = .returned (.int .i64 (goneE b)) ∧ Below w.heap.size w w' := by
  have H := hid h
  have Hl := hid hl
  have Hs := hid hs
  have Hm := hid hm
  have hm9 : m ≤ 100 := by omega
  have Hlk := hid (fun (W : World) (hW : Below w.heap.size w W) => by have := gone_look (h.below hW) t ht; rw [hb] at this; exact this)
  clear h hl hs hm hb
  go_enter Tryz.func46, Tryz.ntmps46
  go_wp2
  go_loopw [15] (fun i wr => ∃ k : Nat, k ≤ m ∧ i = .int .i64 (k : Int) ∧ wr = w) (fun i _ => m - (intOf i).toNat)
  case atStart => exact ⟨0, Nat.zero_le _, rfl, rfl⟩
  case round =>
    obtain ⟨k, hk, rfl, rfl⟩ := hrel
    by_cases hlt : k < m
    · have g1 : decide ((k : Int) < (m : Int)) = true := by simp; omega
      have hkl : k < l.length := by have := Hm.out; omega
      obtain ⟨bb, oo, rfl, hc⟩ := Hl.out k hkl
      obtain ⟨s1, s2⟩ := Hs.out _ (List.getElem_mem hkl)
      generalize l[k] = s at *
      have HN := isName_any s wr s1
      rw [s2] at HN
      go_wp2_with (go_at_call 62; refine HN.mono ?_; rintro _ w9 ⟨rfl, e9⟩; subst w9)
      go_roundw
      case rel => exact ⟨k + 1, by omega, by go_num, by first | rfl | trivial⟩
      case measure => simp [intOf]; omega
    · have g1 : decide ((k : Int) < (m : Int)) = false := by simp; omega
      have c33 := H.out.c33
      have hlk := Hlk.out wr (Below.refl _ _)
      cases b
      · go_wp2
        go_ret
        exact ⟨rfl, (Below.refl _ wr).alloc (Nat.le_refl _) _⟩
      · go_wp2
        go_ret
        exact ⟨rfl, (Below.refl _ wr).alloc (Nat.le_refl _) _⟩
set_option maxHeartbeats 2000000 in
theorem current_any {w : World} {B g : Nat} {root : List UInt8} {mv mg nv ng : Nat} {V G : DataW Unit} {n : Nat} (h : TreeAt w B g root mv mg nv ng V G n) (t u : ByteArray) (ht : t.size ≤ maxLen ∧ nameB t.data.toList = true) (hu : u.size ≤ maxLen ∧ nameB u.data.toList = true) (kl : Lit) (hk : Go.keyOf Tryz.prog 80 (.agg #[.string t, .string u]) = some kl) (c : Int) (hc : VerIs V kl c) (b : Bool) (hb : Maps.has G (.string t.data.toList) = b) :
    Calls Tryz.prog 23 #[.pointer (some ⟨g, 0, none⟩), .string t, .string u] w fun e w' => e = .returned (.tuple #[.int .i64 (if b then 0 else c), .int .i64 (goneE b)]) ∧ Below w.heap.size w w' := by
  have b0 : Below w.heap.size w (w.alloc (.cells #[.string t, .string u] 9)) := (Below.refl _ w).alloc (Nat.le_refl _) _
  have htx : Texts (w.alloc (.cells #[.string t, .string u] 9)) (some ⟨w.heap.size, 0, none⟩) [t, u] := fun i hi => by
    refine ⟨w.heap.size, 0, rfl, ?_⟩
    rw [World.cell?_alloc_at _ _ _ _ rfl]
    match i, hi with
    | 0, _ => rfl
    | 1, _ => rfl
  have HR := hid (reach_any (h.below b0) t ht.1 [t, u] (some ⟨w.heap.size, 0, none⟩) 2 2 rfl htx (by simp) (fun s hs => by simp at hs; rcases hs with rfl | rfl; exact ht; exact hu) b hb)
  have HV := hid (fun (W : World) (hW : Below w.heap.size w W) => version_ok (h.below hW) t u kl hk c hc)
  have B0 := hid b0
  clear h htx b0 hc hb hk
  cases b
  · go_enter Tryz.func23, Tryz.ntmps23
    go_wp2_with (first
      | (go_at_call 46; refine HR.out.mono ?_; rintro _ w1 ⟨rfl, b1⟩; have B1 := hid (Below.on' B0.out b1); clear b1; unfold goneE)
      | (go_at_call 26; refine (HV.out w1 B1.out).mono ?_; rintro _ w2 ⟨rfl, b2⟩))
    go_ret2
    exact ⟨rfl, Below.on' B1.out b2⟩
  · go_enter Tryz.func23, Tryz.ntmps23
    go_wp2_with (first
      | (go_at_call 46; refine HR.out.mono ?_; rintro _ w1 ⟨rfl, b1⟩; have B1 := hid (Below.on' B0.out b1); clear b1; unfold goneE)
      | (go_at_call 26; refine (HV.out w1 B1.out).mono ?_; rintro _ w2 ⟨rfl, b2⟩))
    go_ret2
    exact ⟨rfl, B1.out⟩
end Go.Proofs.YtomhcccjeadefaaGreatDoor
