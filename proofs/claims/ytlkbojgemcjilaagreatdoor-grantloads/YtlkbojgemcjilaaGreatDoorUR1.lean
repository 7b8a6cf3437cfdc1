/- Grants: the reference's store in memory; New, client, consent. -/
import Derived.Test.YtlkbojgemcjilaaGreatDoorU25
namespace Go.Proofs.YtlkbojgemcjilaaGreatDoor
open Go.RowKit Go.Maps Go.Shelf Go.Sort Go.Lib
set_option linter.unusedVariables false
set_option maxRecDepth 20000
theorem row_noneU (v : Value) : v.ownBlock = none ∨ v.ownBlock ≠ (none : Option Nat) := by cases v.ownBlock with | none => exact .inl rfl | some x => exact .inr (by simp)
structure RGA (w : World) (B g : Nat) (s : GS) (cv av : Value) : Prop where
  obj : w.heap[g]? = some (.cells #[cv, av] 53 (0, 0))
  cs : w.ownsRow B 56 4 cv s.cs.length (clCells s.cs)
  al : w.ownsRow B 59 4 av s.al.length (coCells s.al)
  bg : B ≤ g
def RG (w : World) (B g : Nat) (s : GS) : Prop := ∃ cv av, RGA w B g s cv av
section
variable {w w' : World} {B g : Nat} {s : GS} {cv av : Value}
theorem RGA.lt (h : RGA w B g s cv av) : g < w.heap.size := heap_lt h.obj
theorem RGA.c0 (h : RGA w B g s cv av) : w.cell? ⟨g, 0, none⟩ = some cv := (cell_of_rowU _ _ 0 _ _ _ h.obj).trans rfl
theorem RGA.c1 (h : RGA w B g s cv av) : w.cell? ⟨g, 1, none⟩ = some av := (cell_of_rowU _ _ 1 _ _ _ h.obj).trans rfl
theorem RGA.below (h : RGA w B g s cv av) (hb : Below w.heap.size w w') : RGA w' B g s cv av :=
  ⟨(hb.block g h.lt).trans h.obj, own_onU h.cs hb, own_onU h.al hb, h.bg⟩
theorem RG.below (h : RG w B g s) (hb : Below w.heap.size w w') : RG w' B g s := by
  obtain ⟨cv, av, h⟩ := h
  exact ⟨cv, av, h.below hb⟩
/-- the clients, one by one -/
theorem clAt {v : Value} {l : List Cl} (h : w.ownsRow B 56 4 v l.length (clCells l)) : ∃ a cap, v = .slice a l.length cap ∧ ∀ i (hi : i < l.length), ∃ b, a = some ⟨b, 0, none⟩ ∧ w.cell? ⟨b, i * 4, none⟩ = some (.string l[i].t) ∧ w.cell? ⟨b, i * 4 + 1, none⟩ = some (.string l[i].n) ∧ w.cell? ⟨b, i * 4 + 2, none⟩ = some (.string l[i].r) ∧ w.cell? ⟨b, i * 4 + 3, none⟩ = some (.int .u8 (l[i].sc : Int)) := by
  rcases h.2 with ⟨e, h1⟩ | ⟨g, c, cur, e, _⟩
  · exact ⟨none, 0, by rw [e, h1], fun i hi => by omega⟩
  · refine ⟨some ⟨g, 0, none⟩, c, e, fun i hi => ⟨g, rfl, ?_⟩⟩
    rw [e] at h
    have ca := fun j (hj : j < 4) => h.cellAt (i * 4 + j) (by omega)
    obtain ⟨e0, e1, e2, e3⟩ := clCells_get l i hi
    exact ⟨(ca 0 (by omega)).trans e0, (ca 1 (by omega)).trans e1, (ca 2 (by omega)).trans e2, (ca 3 (by omega)).trans e3⟩
theorem coAt {v : Value} {l : List Co} (h : w.ownsRow B 59 4 v l.length (coCells l)) : ∃ a cap, v = .slice a l.length cap ∧ ∀ i (hi : i < l.length), ∃ b, a = some ⟨b, 0, none⟩ ∧ w.cell? ⟨b, i * 4, none⟩ = some (.string l[i].t) ∧ w.cell? ⟨b, i * 4 + 1, none⟩ = some (.string l[i].u) ∧ w.cell? ⟨b, i * 4 + 2, none⟩ = some (.string l[i].n) ∧ w.cell? ⟨b, i * 4 + 3, none⟩ = some (.int .u8 (l[i].sc : Int)) := by
  rcases h.2 with ⟨e, h1⟩ | ⟨g, c, cur, e, _⟩
  · exact ⟨none, 0, by rw [e, h1], fun i hi => by omega⟩
  · refine ⟨some ⟨g, 0, none⟩, c, e, fun i hi => ⟨g, rfl, ?_⟩⟩
    rw [e] at h
    have ca := fun j (hj : j < 4) => h.cellAt (i * 4 + j) (by omega)
    obtain ⟨e0, e1, e2, e3⟩ := coCells_get l i hi
    exact ⟨(ca 0 (by omega)).trans e0, (ca 1 (by omega)).trans e1, (ca 2 (by omega)).trans e2, (ca 3 (by omega)).trans e3⟩
end
theorem find_atU {α : Type} {l : List α} {p : α → Bool} {k : Nat} (h : k < l.length) (hp : (l.take k).any p = false) (he : p l[k] = true) : l.find? p = some l[k] := by
  obtain ⟨x, hx⟩ : ∃ x, x = l[k] := ⟨_, rfl⟩
  rw [← hx] at he ⊢
  have e : l = l.take k ++ x :: l.drop (k + 1) := by rw [hx, ← List.drop_eq_getElem_cons h, List.take_append_drop]
  rw [e, List.find?_append, List.find?_eq_none.2 (fun p hp' => by have := List.any_eq_false.1 hp p hp'; simpa using this)]
  simp only [Option.none_or]
  rw [List.find?_cons, he]
theorem find_noneU {α : Type} {l : List α} {p : α → Bool} (hp : l.any p = false) : l.find? p = none :=
  List.find?_eq_none.2 (fun x hx => by have := List.any_eq_false.1 hp x hx; simpa using this)
theorem any_takeU {α : Type} {l : List α} {f : α → Bool} {k : Nat} (h : k < l.length) : (l.take (k + 1)).any f = ((l.take k).any f || f l[k]) := by
  rw [List.take_succ_eq_append_getElem h, List.any_append]
  simp
theorem eqU (a b : ByteArray) : (a.toList == b.toList) = decide (a = b) := by
  by_cases e : a = b
  · subst e; simp
  · rw [decide_eq_false e, beq_eq_false_iff_ne]; exact fun e' => e ((str_eqU _ _).2 e')
theorem isC_eq (t n : ByteArray) (c : Cl) : isC t n c = ((c.t.toList == t.toList) && (c.n.toList == n.toList)) := by
  rw [eqU, eqU, Bool.eq_iff_iff, Bool.and_eq_true, isC_iff, decide_eq_true_iff, decide_eq_true_iff]
theorem isA_eq (t u n : ByteArray) (c : Co) : isA t u n c = (((c.t.toList == t.toList) && (c.u.toList == u.toList)) && (c.n.toList == n.toList)) := by
  rw [eqU, eqU, eqU, Bool.eq_iff_iff, Bool.and_eq_true, Bool.and_eq_true, isA_iff, decide_eq_true_iff, decide_eq_true_iff, decide_eq_true_iff, and_assoc]
/-- where a client stands -/
def IxC (s : GS) (t n : ByteArray) (i : Int) : Prop := (i = -1 ∧ findC s t n = none) ∨ ∃ k, ∃ h : k < s.cs.length, i = (k : Int) ∧ findC s t n = some s.cs[k]
def IxA (s : GS) (t u n : ByteArray) (i : Int) : Prop := (i = -1 ∧ fA s t u n = none) ∨ ∃ k, ∃ h : k < s.al.length, i = (k : Int) ∧ fA s t u n = some s.al[k]
section
variable {w : World} {B g : Nat} {s : GS}
theorem rNew13_any (w : World) : Calls Tryz.prog 7 #[] w fun e w' => ∃ g, e = .returned (.pointer (some ⟨g, 0, none⟩)) ∧ RG w' w.heap.size g s0U ∧ Below w.heap.size w w' := by
  go_enter Tryz.func7, Tryz.ntmps7
  go_wp2
  go_ret
  exact ⟨_, rfl, ⟨_, _, heap_allocN w _, World.ownsRow_nil _ _ _ _, World.ownsRow_nil _ _ _ _, Nat.le_refl _⟩, (Below.refl _ w).alloc (Nat.le_refl _) _⟩
set_option maxHeartbeats 2000000 in
theorem rclient_any (h : RG w B g s) (hl : s.cs.length ≤ 17592186044416) (t n : ByteArray) :
    Calls Tryz.prog 59 #[.pointer (some ⟨g, 0, none⟩), .string t, .string n] w fun e w' => ∃ i, e = .returned (.int .i64 i) ∧ IxC s t n i ∧ w' = w := by
  obtain ⟨cv, av, h⟩ := h
  obtain ⟨a, cap, rfl, hx⟩ := clAt h.cs
  have c0 := h.c0
  obtain ⟨m, hm⟩ : ∃ m, m = s.cs.length := ⟨_, rfl⟩
  rw [← hm] at c0
  have Hm := hid hm
  have Hx := hid hx
  have hm9 : m ≤ 17592186044416 := by omega
  clear h hx hm hl
  go_enter Tryz.func59, Tryz.ntmps59
  go_wp2
  go_loopw [7] (fun i wr => ∃ k : Nat, k ≤ m ∧ i = .int .i64 (k : Int) ∧ wr = w ∧ (s.cs.take k).any (isC t n) = false) (fun i _ => m - (intOf i).toNat)
  case atStart => exact ⟨0, Nat.zero_le _, rfl, rfl, rfl⟩
  case round =>
    obtain ⟨k, hk, rfl, rfl, hpre⟩ := hrel
    by_cases hlt : k < m
    · have g1 : decide ((k : Int) < (m : Int)) = true := by simp; omega
      have hkl : k < s.cs.length := by have := Hm.out; omega
      obtain ⟨bb, rfl, d0, d1, d2, d3⟩ := Hx.out k hkl
      clear d2 d3
      have Hstep := hid (any_takeU (f := isC t n) hkl)
      have Hat := hid (isC_eq t n s.cs[k])
      have Hf := hid (fun he => find_atU hkl hpre he)
      have Hpre := hid hpre
      clear hpre
      obtain ⟨x, hxk⟩ : ∃ x, x = s.cs[k] := ⟨_, rfl⟩
      have Hkl := hid (Exists.intro hkl hxk : ∃ h : k < s.cs.length, x = s.cs[k])
      rw [← hxk] at Hstep Hat d0 d1 Hf
      clear hxk hkl
      obtain ⟨x1, x2, x3, x4⟩ := x
      simp only at d0 d1
      have Hlt := hid hlt
      cases q0 : (x1.toList == t.toList)
      · have Hq : Hid (isC t n ⟨x1, x2, x3, x4⟩ = false) := Hat.out.trans (by simp only [q0]; rfl)
        go_wp2
        go_roundw
        case rel => exact ⟨k + 1, by have := Hlt.out; omega, by go_num, by first | rfl | trivial, by rw [Hstep.out, Hpre.out, Hq.out]; rfl⟩
        case measure => exact measU _ _ _ Hlt.out rfl
      · cases q1 : (x2.toList == n.toList)
        · have Hq : Hid (isC t n ⟨x1, x2, x3, x4⟩ = false) := Hat.out.trans (by simp only [q0, q1]; rfl)
          go_wp2
          go_roundw
          case rel => exact ⟨k + 1, by have := Hlt.out; omega, by go_num, by first | rfl | trivial, by rw [Hstep.out, Hpre.out, Hq.out]; rfl⟩
          case measure => exact measU _ _ _ Hlt.out rfl
        · have Hq : Hid (isC t n ⟨x1, x2, x3, x4⟩ = true) := Hat.out.trans (by simp only [q0, q1]; rfl)
          go_wp2
          go_ret
          obtain ⟨h1, h2⟩ := Hkl.out
          exact ⟨_, rfl, .inr ⟨k, h1, rfl, by rw [← h2]; exact Hf.out Hq.out⟩, rfl⟩
    · have g1 : decide ((k : Int) < (m : Int)) = false := by simp; omega
      have hfin : findC s t n = none := by
        have := Hm.out
        rw [List.take_of_length_le (by omega)] at hpre
        exact find_noneU hpre
      have Hfin := hid hfin
      clear hfin hpre
      go_wp2
      go_ret
      exact ⟨_, rfl, .inl ⟨rfl, Hfin.out⟩, rfl⟩
set_option maxHeartbeats 2000000 in
theorem rconsent_any (h : RG w B g s) (hl : s.al.length ≤ 17592186044416) (t u n : ByteArray) :
    Calls Tryz.prog 61 #[.pointer (some ⟨g, 0, none⟩), .agg #[.string t, .string u], .string n] w fun e w' => ∃ i, e = .returned (.int .i64 i) ∧ IxA s t u n i ∧ Below w.heap.size w w' := by
  obtain ⟨W, hW⟩ : ∃ W, W = w.alloc (.cells #[.string t, .string u] 30) := ⟨_, rfl⟩
  have b0 : Below w.heap.size w W := by rw [hW]; exact (Below.refl _ w).alloc (Nat.le_refl _) _
  have x0 : W.heap[w.heap.size]? = some (.cells #[.string t, .string u] 30 (0, 0)) := by rw [hW]; exact heap_allocN w _
  have h := h.below b0
  obtain ⟨cv, av, h⟩ := h
  obtain ⟨a, cap, rfl, _⟩ := coAt h.al
  obtain ⟨m, hm⟩ : ∃ m, m = s.al.length := ⟨_, rfl⟩
  have Hx := hid (fun (V : World) (hV : Below W.heap.size W V) => by
    have h9 := (h.below hV).al
    exact coAt h9)
  have Hc := hid (fun (V : World) (hV : Below W.heap.size W V) => (show V.cell? ⟨g, 1, none⟩ = some (.slice a m cap) ∧ V.cell? ⟨w.heap.size, 0, none⟩ = some (.string t) ∧ V.cell? ⟨w.heap.size, 1, none⟩ = some (.string u) from by
    have x9 := (hV.block _ (heap_lt x0)).trans x0
    rw [hm]
    exact ⟨(h.below hV).c1, (cell_of_rowU _ _ 0 _ _ _ x9).trans rfl, (cell_of_rowU _ _ 1 _ _ _ x9).trans rfl⟩))
  have Hm := hid hm
  have hm9 : m ≤ 17592186044416 := by omega
  have HW := hid hW.symm
  have B0 := hid b0
  clear h hm hl hW b0 x0
  go_enter Tryz.func61, Tryz.ntmps61
  go_wp2
  rw [HW.out]
  go_loopw [7] (fun i wr => ∃ k : Nat, k ≤ m ∧ i = .int .i64 (k : Int) ∧ Below W.heap.size W wr ∧ (s.al.take k).any (isA t u n) = false) (fun i _ => m - (intOf i).toNat)
  case atStart => exact ⟨0, Nat.zero_le _, rfl, Below.refl _ _, rfl⟩
  case round =>
    obtain ⟨k, hk, rfl, hb, hpre⟩ := hrel
    obtain ⟨c1, o0, o1⟩ := Hc.out wr hb
    have Hb := hid hb
    by_cases hlt : k < m
    · have g1 : decide ((k : Int) < (m : Int)) = true := by simp; omega
      have g2 : (k : Int) < (m : Int) := by omega
      have g0 : (0 : Int) ≤ (k : Int) := by omega
      have hkl : k < s.al.length := by have := Hm.out; omega
      obtain ⟨a9, cap9, e9, hx9⟩ := Hx.out wr hb
      injection e9 with e1 _ _
      subst e1
      obtain ⟨bb, rfl, d0, d1, d2, d3⟩ := hx9 k hkl
      have Hstep := hid (any_takeU (f := isA t u n) hkl)
      have Hat := hid (isA_eq t u n s.al[k])
      have Hf := hid (fun he => find_atU hkl hpre he)
      have Hpre := hid hpre
      clear hpre d3 hx9 hb
      obtain ⟨x, hxk⟩ : ∃ x, x = s.al[k] := ⟨_, rfl⟩
      have Hkl := hid (Exists.intro hkl hxk : ∃ h : k < s.al.length, x = s.al[k])
      rw [← hxk] at Hstep Hat d0 d1 d2 Hf
      clear hxk hkl
      obtain ⟨x1, x2, x3, x4⟩ := x
      simp only at d0 d1 d2
      have Hlt := hid hlt
      clear hlt hk
      cases q0 : (x1.toList == t.toList)
      · have Hq : Hid (isA t u n ⟨x1, x2, x3, x4⟩ = false) := Hat.out.trans (by simp only [q0]; rfl)
        go_wp2
        go_quiet (fail)
        go_wp2
        go_roundw
        case rel => exact ⟨k + 1, by have := Hlt.out; omega, by go_num, Hb.out.trans (below_dN _ _ _), by rw [Hstep.out, Hpre.out, Hq.out]; rfl⟩
        case measure => exact measU _ _ _ Hlt.out rfl
      · cases q1 : (x2.toList == u.toList)
        · have Hq : Hid (isA t u n ⟨x1, x2, x3, x4⟩ = false) := Hat.out.trans (by simp only [q0, q1]; rfl)
          go_wp2
          go_quiet (fail)
          go_wp2
          go_roundw
          case rel => exact ⟨k + 1, by have := Hlt.out; omega, by go_num, Hb.out.trans (below_dN _ _ _), by rw [Hstep.out, Hpre.out, Hq.out]; rfl⟩
          case measure => exact measU _ _ _ Hlt.out rfl
        · cases q2 : (x3.toList == n.toList)
          · have Hq : Hid (isA t u n ⟨x1, x2, x3, x4⟩ = false) := Hat.out.trans (by simp only [q0, q1, q2]; rfl)
            go_wp2
            go_quiet (fail)
            go_wp2
            go_roundw
            case rel => exact ⟨k + 1, by have := Hlt.out; omega, by go_num, Hb.out.trans (below_dN _ _ _), by rw [Hstep.out, Hpre.out, Hq.out]; rfl⟩
            case measure => exact measU _ _ _ Hlt.out rfl
          · have Hq : Hid (isA t u n ⟨x1, x2, x3, x4⟩ = true) := Hat.out.trans (by simp only [q0, q1, q2]; rfl)
            go_wp2
            go_quiet (fail)
            go_wp2
            go_ret
            obtain ⟨h1, h2⟩ := Hkl.out
            exact ⟨_, rfl, .inr ⟨k, h1, rfl, by rw [← h2]; exact Hf.out Hq.out⟩, B0.out.trans ((Hb.out.trans (below_dN _ _ _)).mono B0.out.size)⟩
    · have g1 : decide ((k : Int) < (m : Int)) = false := by simp; omega
      have hfin : fA s t u n = none := by
        have := Hm.out
        rw [List.take_of_length_le (by omega)] at hpre
        exact find_noneU hpre
      have Hfin := hid hfin
      clear hfin hpre hb
      go_wp2
      go_ret
      exact ⟨_, rfl, .inl ⟨rfl, Hfin.out⟩, B0.out.trans (Hb.out.mono B0.out.size)⟩
end
end Go.Proofs.YtlkbojgemcjilaaGreatDoor
