/- (*Tree): New and Rotate, by contracts; a nil tree. -/
import Derived.Test.YtkgengiopjjhbaaDoorJ7
namespace Go.Proofs.YtkgengiopjjhbaaDoor
open Go.RowKit Go.Maps
set_option linter.unusedVariables false
set_option maxRecDepth 20000
theorem len32J {α : Type} (l : List α) (h : l.length = 32) : ∃ x0 x1 x2 x3 x4 x5 x6 x7 x8 x9 x10 x11 x12 x13 x14 x15 x16 x17 x18 x19 x20 x21 x22 x23 x24 x25 x26 x27 x28 x29 x30 x31, l = [x0, x1, x2, x3, x4, x5, x6, x7, x8, x9, x10, x11, x12, x13, x14, x15, x16, x17, x18, x19, x20, x21, x22, x23, x24, x25, x26, x27, x28, x29, x30, x31] := by
  obtain ⟨x0, l, rfl⟩ := List.exists_cons_of_length_eq_add_one (n := 31) h
  have h : l.length = 31 := by simpa using h
  obtain ⟨x1, l, rfl⟩ := List.exists_cons_of_length_eq_add_one (n := 30) h
  have h : l.length = 30 := by simpa using h
  obtain ⟨x2, l, rfl⟩ := List.exists_cons_of_length_eq_add_one (n := 29) h
  have h : l.length = 29 := by simpa using h
  obtain ⟨x3, l, rfl⟩ := List.exists_cons_of_length_eq_add_one (n := 28) h
  have h : l.length = 28 := by simpa using h
  obtain ⟨x4, l, rfl⟩ := List.exists_cons_of_length_eq_add_one (n := 27) h
  have h : l.length = 27 := by simpa using h
  obtain ⟨x5, l, rfl⟩ := List.exists_cons_of_length_eq_add_one (n := 26) h
  have h : l.length = 26 := by simpa using h
  obtain ⟨x6, l, rfl⟩ := List.exists_cons_of_length_eq_add_one (n := 25) h
  have h : l.length = 25 := by simpa using h
  obtain ⟨x7, l, rfl⟩ := List.exists_cons_of_length_eq_add_one (n := 24) h
  have h : l.length = 24 := by simpa using h
  obtain ⟨x8, l, rfl⟩ := List.exists_cons_of_length_eq_add_one (n := 23) h
  have h : l.length = 23 := by simpa using h
  obtain ⟨x9, l, rfl⟩ := List.exists_cons_of_length_eq_add_one (n := 22) h
  have h : l.length = 22 := by simpa using h
  obtain ⟨x10, l, rfl⟩ := List.exists_cons_of_length_eq_add_one (n := 21) h
  have h : l.length = 21 := by simpa using h
  obtain ⟨x11, l, rfl⟩ := List.exists_cons_of_length_eq_add_one (n := 20) h
  have h : l.length = 20 := by simpa using h
  obtain ⟨x12, l, rfl⟩ := List.exists_cons_of_length_eq_add_one (n := 19) h
  have h : l.length = 19 := by simpa using h
  obtain ⟨x13, l, rfl⟩ := List.exists_cons_of_length_eq_add_one (n := 18) h
  have h : l.length = 18 := by simpa using h
  obtain ⟨x14, l, rfl⟩ := List.exists_cons_of_length_eq_add_one (n := 17) h
  have h : l.length = 17 := by simpa using h
  obtain ⟨x15, l, rfl⟩ := List.exists_cons_of_length_eq_add_one (n := 16) h
  have h : l.length = 16 := by simpa using h
  obtain ⟨x16, l, rfl⟩ := List.exists_cons_of_length_eq_add_one (n := 15) h
  have h : l.length = 15 := by simpa using h
  obtain ⟨x17, l, rfl⟩ := List.exists_cons_of_length_eq_add_one (n := 14) h
  have h : l.length = 14 := by simpa using h
  obtain ⟨x18, l, rfl⟩ := List.exists_cons_of_length_eq_add_one (n := 13) h
  have h : l.length = 13 := by simpa using h
  obtain ⟨x19, l, rfl⟩ := List.exists_cons_of_length_eq_add_one (n := 12) h
  have h : l.length = 12 := by simpa using h
  obtain ⟨x20, l, rfl⟩ := List.exists_cons_of_length_eq_add_one (n := 11) h
  have h : l.length = 11 := by simpa using h
  obtain ⟨x21, l, rfl⟩ := List.exists_cons_of_length_eq_add_one (n := 10) h
  have h : l.length = 10 := by simpa using h
  obtain ⟨x22, l, rfl⟩ := List.exists_cons_of_length_eq_add_one (n := 9) h
  have h : l.length = 9 := by simpa using h
  obtain ⟨x23, l, rfl⟩ := List.exists_cons_of_length_eq_add_one (n := 8) h
  have h : l.length = 8 := by simpa using h
  obtain ⟨x24, l, rfl⟩ := List.exists_cons_of_length_eq_add_one (n := 7) h
  have h : l.length = 7 := by simpa using h
  obtain ⟨x25, l, rfl⟩ := List.exists_cons_of_length_eq_add_one (n := 6) h
  have h : l.length = 6 := by simpa using h
  obtain ⟨x26, l, rfl⟩ := List.exists_cons_of_length_eq_add_one (n := 5) h
  have h : l.length = 5 := by simpa using h
  obtain ⟨x27, l, rfl⟩ := List.exists_cons_of_length_eq_add_one (n := 4) h
  have h : l.length = 4 := by simpa using h
  obtain ⟨x28, l, rfl⟩ := List.exists_cons_of_length_eq_add_one (n := 3) h
  have h : l.length = 3 := by simpa using h
  obtain ⟨x29, l, rfl⟩ := List.exists_cons_of_length_eq_add_one (n := 2) h
  have h : l.length = 2 := by simpa using h
  obtain ⟨x30, l, rfl⟩ := List.exists_cons_of_length_eq_add_one (n := 1) h
  have h : l.length = 1 := by simpa using h
  obtain ⟨x31, l, rfl⟩ := List.exists_cons_of_length_eq_add_one (n := 0) h
  have h : l.length = 0 := by simpa using h
  obtain rfl := List.eq_nil_of_length_eq_zero h
  exact ⟨_, _, _, _, _, _, _, _, _, _, _, _, _, _, _, _, _, _, _, _, _, _, _, _, _, _, _, _, _, _, _, _, rfl⟩
theorem built_tree (root : List UInt8) (h : root.length = 32) (a b : Nat) : Tryd.prog.built 48 [(0, .agg (bvs root)), (1, .map (some a)), (2, .map (some b))] = some (treeC root a b 0).toArray := by
  obtain ⟨x0, x1, x2, x3, x4, x5, x6, x7, x8, x9, x10, x11, x12, x13, x14, x15, x16, x17, x18, x19, x20, x21, x22, x23, x24, x25, x26, x27, x28, x29, x30, x31, rfl⟩ := len32J root h
  kernel_rfl
def buildTr (ps : Array (Nat × Value)) : Sem Value := Instr.build 48 ps
theorem buildTr_fold (ps : Array (Nat × Value)) : Instr.build 48 ps = buildTr ps := rfl
section
attribute [local go_sem ↓] buildTr_fold
set_option maxHeartbeats 2000000 in
theorem new_any (w : World) (root : List UInt8) (hl : root.length = 32) : Calls Tryd.prog 5 #[.agg (bvs root)] w fun e w' => ∃ g mv mg, e = .returned (.pointer (some ⟨g, 0, none⟩)) ∧ TreeAt w' w.heap.size g root mv mg 0 0 (.map []) (.map []) 0 ∧ Below w.heap.size w w' ∧ mv ≠ mg := by
  obtain ⟨O, hO⟩ : ∃ O, O = bvs root := ⟨_, rfl⟩
  obtain ⟨W, hW⟩ : ∃ W, W = w.alloc (.cells O 23) := ⟨_, rfl⟩
  have x0 : W.heap[w.heap.size]? = some (.cells O 23 (0, 0)) := by rw [hW]; exact heap_alloc_new w _
  have hI : (Tryd.prog.info? 23).map (·.size) = some O.size := by rw [hO]; exact (show HV (bvs root) root from ⟨rfl, hl⟩).info
  obtain ⟨RC, hRC⟩ : ∃ RC : Nat → Nat → Array Value, RC = fun a b => (treeC root a b 0).toArray := ⟨_, rfl⟩
  have hB6 : ∀ (W : World) (a b : Nat), (buildTr #[(0, .agg O), (1, .map (some a)), (2, .map (some b))]).run Tryd.prog W = .ok (.agg (RC a b)) W := fun W a b => by
    rw [hO, hRC]
    exact run_build (P := Tryd.prog) W 48 #[(0, .agg (bvs root)), (1, .map (some a)), (2, .map (some b))] _ (built_tree root hl a b)
  have hmm := @run_makeMap Tryd.prog
  have HX0 := hid x0
  have HI := hid hI
  have HW := hid hW
  have HRC := hid hRC
  have Hl := hid hl
  have hb0 : Below w.heap.size w W := by rw [hW]; exact (Below.refl _ w).alloc (Nat.le_refl _) _
  have HB0 := hid hb0
  rw [← hO]
  clear hO hW x0 hI hRC hl hb0
  go_enter Tryd.func5, Tryd.ntmps5
  go_wp2_with (with_reducible show Go.wpList _ _ _ _ _ _; rw [← HW.out]; refine wpList_load_row rfl 23 _ rfl w.heap.size rfl _ _ _ _ HX0.out Tryd.underlying23 rfl HI.out ?_)
  go_ret
  have z1 : (W.alloc (.map #[] 0)).heap.size = W.heap.size + 1 := by simp
  have z2 : ((W.alloc (.map #[] 0)).alloc (.map #[] 0)).heap.size = W.heap.size + 1 + 1 := by simp
  have m1 := World.ownsMap_made W Tryd.prog 54 (plainElem (H := Unit) Tryd.prog 3)
  have m2 := World.ownsMap_made (W.alloc (.map #[] 0)) Tryd.prog 9 (unitElem (H := Unit))
  rw [z1] at m2
  have hbw := HB0.out.size
  refine ⟨W.heap.size + 1 + 1, W.heap.size, W.heap.size + 1, rfl, ⟨?_, (m1.alloc _).alloc _, m2.alloc _, Hl.out, by omega, by omega, by omega⟩, ?_, by omega⟩
  · rw [← z2, HRC.out]
    exact heap_alloc_new _ _
  · exact ((HB0.out.alloc hbw _).alloc (by simp; omega) _).alloc (by simp; omega) _
end
def RotPost (w : World) (B g : Nat) (root : List UInt8) (mv mg nv ng : Nat) (VM GM : DataW Unit) (k : Nat) (kl : Lit) (c : Nat) (e : Ending) (w' : World) : Prop := e = .returned (.tuple #[.int .i64 ((c + 1 : Nat) : Int), .int .i64 0]) ∧ TreeAt w' B g root mv mg (nv + 1) ng (VM.put kl (.lit (.int .i64 ((c + 1 : Nat) : Int)))) GM k ∧ OutJ (fun j => j = mv) w w'
theorem rot_end {w w1 w2 : World} {B g : Nat} {root : List UInt8} {mv mg nv ng : Nat} {VM GM : DataW Unit} {k : Nat} {kl : Lit} {c : Nat} (h : TreeAt w1 B g root mv mg nv ng VM GM k) (b1 : Below w.heap.size w w1) (hne : mv ≠ mg) (hown : w2.ownsMap Tryd.prog 54 (plainElem Tryd.prog 3) mv (nv + 1) (VM.put kl (.lit (.int .i64 ((c + 1 : Nat) : Int))))) (hg : w1.grownBy w2 (some mv)) : RotPost w B g root mv mg nv ng VM GM k kl c (.returned (.tuple #[.int .i64 ((c : Int) + 1), .int .i64 0])) w2 := by
  refine ⟨by rw [show ((c : Int) + 1) = ((c + 1 : Nat) : Int) by omega], ⟨(hg.block g h.lt (fun e => h.mvne.1 (Option.some.inj e).symm)).trans h.obj, hown, h.gm.kept hg (fun e => hne (Option.some.inj e).symm), h.len, h.bg, h.bv, h.bm⟩, ?_⟩
  exact (OutJ.of_below b1).trans ⟨hg.os, hg.tape, hg.output, hg.size, fun j hj hp => hg.block j hj (fun e => hp (Option.some.inj e))⟩
set_option maxHeartbeats 4000000 in
theorem rotate_ok {w : World} {B g : Nat} {root : List UInt8} {mv mg nv ng : Nat} {VM GM : DataW Unit} {k : Nat} (h : TreeAt w B g root mv mg nv ng VM GM k) (t u : ByteArray) (ht : t.size ≤ 100 ∧ nameB t.data.toList = true) (hu : u.size ≤ 100 ∧ nameB u.data.toList = true) (kl : Lit) (hk : Go.keyOf Tryd.prog 54 (.agg #[.string t, .string u]) = some kl) (c : Nat) (hc : VerIs VM kl (c : Int)) (h1 : 1 ≤ c) (h16 : c < 16) (hb : Maps.has GM (.string t.data.toList) = false) (hsz : Maps.size VM < 16) (hnv : nv ≤ 1000) (hne : mv ≠ mg) :
    Calls Tryd.prog 12 #[.pointer (some ⟨g, 0, none⟩), .string t, .string u] w (RotPost w B g root mv mg nv ng VM GM k kl c) := by
  have HC := hid (current_any h t u ⟨by unfold maxLen; have := ht.1; omega, ht.2⟩ ⟨by unfold maxLen; have := hu.1; omega, hu.2⟩ kl hk (c : Int) hc false hb)
  have H := hid h
  have Hk := hid hk
  have g1 : ((c : Int) == 16) = false := by simp; omega
  have g2 : ((Maps.size VM : Int) == 16) = false := by simp; omega
  have hca : ((c : Int) + 1) = ((c + 1 : Nat) : Int) := by omega
  have Hca := hid hca
  have hwf : (Lit.int .i64 ((c + 1 : Nat) : Int)).wf = true := by simp [Lit.wf, IntKind.min, IntKind.max, IntKind.signed, IntKind.bits]; omega
  have Hwf := hid hwf
  clear h hc hb hk hca hwf hsz
  by_cases hc1 : c = 1
  · have g3 : ((c : Int) == 1) = true := by simp; omega
    go_enter Tryd.func12, Tryd.ntmps12
    clear hc1
    go_wp2_with (first
      | (go_at_call 11; refine HC.out.mono ?_; rintro _ w1 ⟨rfl, b1⟩; have B1 := hid b1; have hT1 := H.out.below b1; have c32 := hT1.c32; have hlen := hT1.vm.len Tryd.underlying45 3; have HT1 := hid hT1; clear b1 hT1; unfold goneE; simp only [Bool.false_eq_true, if_false])
      | (at_mapUpdate; rw [Hca.out]; refine wpList_mapUpdate_own _ rfl _ _ _ 45 rfl 54 3 lawPlace Tryd.underlying45 _ mv nv VM rfl HT1.out.vm (by unfold maxLen; omega) _ _ kl rfl rfl Hk.out _ [] (plainElem_int Tryd.underlying3 Hwf.out) ?_; intro w2 hown2 hg2))
    go_ret2
    exact rot_end HT1.out B1.out hne hown2 hg2
  · have g3 : ((c : Int) == 1) = false := by simp; omega
    go_enter Tryd.func12, Tryd.ntmps12
    clear hc1
    go_wp2_with (first
      | (go_at_call 11; refine HC.out.mono ?_; rintro _ w1 ⟨rfl, b1⟩; have B1 := hid b1; have hT1 := H.out.below b1; have c32 := hT1.c32; have hlen := hT1.vm.len Tryd.underlying45 3; have HT1 := hid hT1; clear b1 hT1; unfold goneE; simp only [Bool.false_eq_true, if_false])
      | (at_mapUpdate; rw [Hca.out]; refine wpList_mapUpdate_own _ rfl _ _ _ 45 rfl 54 3 lawPlace Tryd.underlying45 _ mv nv VM rfl HT1.out.vm (by unfold maxLen; omega) _ _ kl rfl rfl Hk.out _ [] (plainElem_int Tryd.underlying3 Hwf.out) ?_; intro w2 hown2 hg2))
    go_ret2
    exact rot_end HT1.out B1.out hne hown2 hg2
end Go.Proofs.YtkgengiopjjhbaaDoor
