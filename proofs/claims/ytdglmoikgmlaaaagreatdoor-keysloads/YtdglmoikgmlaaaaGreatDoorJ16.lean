/- YtdglmoikgmlaaaaGreatDoorJ8 + YtdglmoikgmlaaaaGreatDoorJ9 + YtdglmoikgmlaaaaGreatDoorJ12 + YtdglmoikgmlaaaaGreatDoorJ14 + YtdglmoikgmlaaaaGreatDoorJ15 + YtdglmoikgmlaaaaGreatDoorJ16 -/
import Derived.Test.YtdglmoikgmlaaaaGreatDoorJ7
/- (*Tree): New and Rotate, by contracts; a nil tree. -/
namespace Go.Proofs.YtdglmoikgmlaaaaGreatDoor
open Go.RowKit Go.Maps
set_option linter.unusedVariables false
set_option maxRecDepth 20000
theorem len32J {α : Type} (l : List α) (h : l.length = 32) : ∃ x0 x1 x2 x3 x4 x5 x6 x7 x8 x9 x10 x11 x12 x13 x14 x15 x16 x17 x18 x19 x20 x21 x22 x23 x24 x25 x26 x27 x28 x29 x30 x31, l = [x0, x1, x2, x3, x4, x5, x6, x7, x8, x9, x10, x11, x12, x13, x14, x15, x16, x17, x18, x19, x20, x21, x22, x23, x24, x25, x26, x27, x28, x29, x30, x31] := by
  match l, h with
  | [x0, x1, x2, x3, x4, x5, x6, x7, x8, x9, x10, x11, x12, x13, x14, x15, x16, x17, x18, x19, x20, x21, x22, x23, x24, x25, x26, x27, x28, x29, x30, x31], _ => exact ⟨x0, x1, x2, x3, x4, x5, x6, x7, x8, x9, x10, x11, x12, x13, x14, x15, x16, x17, x18, x19, x20, x21, x22, x23, x24, x25, x26, x27, x28, x29, x30, x31, rfl⟩
theorem built_tree (root : List UInt8) (h : root.length = 32) (a b : Nat) : Tryz.prog.built 55 [(0, .agg (bvs root)), (1, .map (some a)), (2, .map (some b))] = some (treeC root a b 0).toArray := by
  obtain ⟨x0, x1, x2, x3, x4, x5, x6, x7, x8, x9, x10, x11, x12, x13, x14, x15, x16, x17, x18, x19, x20, x21, x22, x23, x24, x25, x26, x27, x28, x29, x30, x31, rfl⟩ := len32J root h
  kernel_rfl
def buildTr (ps : Array (Nat × Value)) : Sem Value := Instr.build 55 ps
theorem buildTr_fold (ps : Array (Nat × Value)) : Instr.build 55 ps = buildTr ps := rfl
section
attribute [local go_sem ↓] buildTr_fold
set_option maxHeartbeats 2000000 in
theorem new_any (w : World) (root : List UInt8) (hl : root.length = 32) : Calls Tryz.prog 6 #[.agg (bvs root)] w fun e w' => ∃ g mv mg, e = .returned (.pointer (some ⟨g, 0, none⟩)) ∧ TreeAt w' w.heap.size g root mv mg 0 0 (.map []) (.map []) 0 ∧ Below w.heap.size w w' ∧ mv ≠ mg := by
  obtain ⟨O, hO⟩ : ∃ O, O = bvs root := ⟨_, rfl⟩
  obtain ⟨W, hW⟩ : ∃ W, W = w.alloc (.cells O 23) := ⟨_, rfl⟩
  have x0 : W.heap[w.heap.size]? = some (.cells O 23 (0, 0)) := by rw [hW]; exact heap_alloc_new w _
  have hI : (Tryz.prog.info? 23).map (·.size) = some O.size := by rw [hO]; exact (show HV (bvs root) root from ⟨rfl, hl⟩).info
  obtain ⟨RC, hRC⟩ : ∃ RC : Nat → Nat → Array Value, RC = fun a b => (treeC root a b 0).toArray := ⟨_, rfl⟩
  have hB6 : ∀ (W : World) (a b : Nat), (buildTr #[(0, .agg O), (1, .map (some a)), (2, .map (some b))]).run Tryz.prog W = .ok (.agg (RC a b)) W := fun W a b => by
    rw [hO, hRC]
    exact run_build (P := Tryz.prog) W 55 #[(0, .agg (bvs root)), (1, .map (some a)), (2, .map (some b))] _ (built_tree root hl a b)
  have hmm := @run_makeMap Tryz.prog
  have HX0 := hid x0
  have HI := hid hI
  have HW := hid hW
  have HRC := hid hRC
  have Hl := hid hl
  have hb0 : Below w.heap.size w W := by rw [hW]; exact (Below.refl _ w).alloc (Nat.le_refl _) _
  have HB0 := hid hb0
  rw [← hO]
  clear hO hW x0 hI hRC hl hb0
  go_enter Tryz.func6, Tryz.ntmps6
  go_wp2_with (with_reducible show Go.wpList _ _ _ _ _ _; rw [← HW.out]; refine wpList_load_row rfl 23 _ rfl w.heap.size rfl _ _ _ _ HX0.out Tryz.underlying23 rfl HI.out ?_)
  go_ret
  have z1 : (W.alloc (.map #[] 0)).heap.size = W.heap.size + 1 := by simp
  have z2 : ((W.alloc (.map #[] 0)).alloc (.map #[] 0)).heap.size = W.heap.size + 1 + 1 := by simp
  have m1 := World.ownsMap_made W Tryz.prog 71 (plainElem (H := Unit) Tryz.prog 3)
  have m2 := World.ownsMap_made (W.alloc (.map #[] 0)) Tryz.prog 9 (unitElem (H := Unit))
  rw [z1] at m2
  have hbw := HB0.out.size
  refine ⟨W.heap.size + 1 + 1, W.heap.size, W.heap.size + 1, rfl, ⟨?_, (m1.alloc _).alloc _, m2.alloc _, Hl.out, by omega, by omega, by omega⟩, ?_, by omega⟩
  · rw [← z2, HRC.out]
    exact heap_alloc_new _ _
  · exact ((HB0.out.alloc hbw _).alloc (by simp; omega) _).alloc (by simp; omega) _
end
def RotPost (w : World) (B g : Nat) (root : List UInt8) (mv mg nv ng : Nat) (VM GM : DataW Unit) (k : Nat) (kl : Lit) (c : Nat) (e : Ending) (w' : World) : Prop := e = .returned (.tuple #[.int .i64 ((c + 1 : Nat) : Int), .int .i64 0]) ∧ TreeAt w' B g root mv mg (nv + 1) ng (VM.put kl (.lit (.int .i64 ((c + 1 : Nat) : Int)))) GM k ∧ OutJ (fun j => j = mv) w w'
theorem rot_end {w w1 w2 : World} {B g : Nat} {root : List UInt8} {mv mg nv ng : Nat} {VM GM : DataW Unit} {k : Nat} {kl : Lit} {c : Nat} (h : TreeAt w1 B g root mv mg nv ng VM GM k) (b1 : Below w.heap.size w w1) (hne : mv ≠ mg) (hown : w2.ownsMap Tryz.prog 71 (plainElem Tryz.prog 3) mv (nv + 1) (VM.put kl (.lit (.int .i64 ((c + 1 : Nat) : Int))))) (hg : w1.grownBy w2 (some mv)) : RotPost w B g root mv mg nv ng VM GM k kl c (.returned (.tuple #[.int .i64 ((c : Int) + 1), .int .i64 0])) w2 := by
  refine ⟨by rw [show ((c : Int) + 1) = ((c + 1 : Nat) : Int) by omega], ⟨(hg.block g h.lt (fun e => h.mvne.1 (Option.some.inj e).symm)).trans h.obj, hown, h.gm.kept hg (fun e => hne (Option.some.inj e).symm), h.len, h.bg, h.bv, h.bm⟩, ?_⟩
  exact (OutJ.of_below b1).trans ⟨hg.os, hg.tape, hg.output, hg.size, fun j hj hp => hg.block j hj (fun e => hp (Option.some.inj e))⟩
set_option maxHeartbeats 4000000 in
theorem rotate_ok {w : World} {B g : Nat} {root : List UInt8} {mv mg nv ng : Nat} {VM GM : DataW Unit} {k : Nat} (h : TreeAt w B g root mv mg nv ng VM GM k) (t u : ByteArray) (ht : t.size ≤ 100 ∧ nameB t.data.toList = true) (hu : u.size ≤ 100 ∧ nameB u.data.toList = true) (kl : Lit) (hk : Go.keyOf Tryz.prog 71 (.agg #[.string t, .string u]) = some kl) (c : Nat) (hc : VerIs VM kl (c : Int)) (h1 : 1 ≤ c) (h16 : c < 16) (hb : Maps.has GM (.string t.data.toList) = false) (hsz : c = 1 → Maps.size VM < 16) (hnv : nv ≤ 1000) (hne : mv ≠ mg) :
    Calls Tryz.prog 16 #[.pointer (some ⟨g, 0, none⟩), .string t, .string u] w (RotPost w B g root mv mg nv ng VM GM k kl c) := by
  have HC := hid (current_any h t u ⟨by unfold maxLen; have := ht.1; omega, ht.2⟩ ⟨by unfold maxLen; have := hu.1; omega, hu.2⟩ kl hk (c : Int) hc false hb)
  have H := hid h
  have Hk := hid hk
  have g1 : ((c : Int) == 16) = false := by simp; omega
  have hca : ((c : Int) + 1) = ((c + 1 : Nat) : Int) := by omega
  have Hca := hid hca
  have hwf : (Lit.int .i64 ((c + 1 : Nat) : Int)).wf = true := by simp [Lit.wf, IntKind.min, IntKind.max, IntKind.signed, IntKind.bits]; omega
  have Hwf := hid hwf
  clear h hc hb hk hca hwf
  by_cases hc1 : c = 1
  · have g2 : ((Maps.size VM : Int) == 16) = false := by have := hsz hc1; simp; omega
    have g3 : ((c : Int) == 1) = true := by simp; omega
    clear hsz
    go_enter Tryz.func16, Tryz.ntmps16
    clear hc1
    go_wp2_with (first
      | (go_at_call 29; refine HC.out.mono ?_; rintro _ w1 ⟨rfl, b1⟩; have B1 := hid b1; have hT1 := H.out.below b1; have c32 := hT1.c32; have hlen := hT1.vm.len Tryz.underlying52 3; have HT1 := hid hT1; clear b1 hT1; unfold goneE; simp only [Bool.false_eq_true, if_false])
      | (at_mapUpdate; rw [Hca.out]; refine wpList_mapUpdate_own _ rfl _ _ _ 52 rfl 71 3 lawPlace Tryz.underlying52 _ mv nv VM rfl HT1.out.vm (by unfold maxLen; omega) _ _ kl rfl rfl Hk.out _ [] (plainElem_int Tryz.underlying3 Hwf.out) ?_; intro w2 hown2 hg2))
    go_ret2
    exact rot_end HT1.out B1.out hne hown2 hg2
  · have g3 : ((c : Int) == 1) = false := by simp; omega
    clear hsz
    go_enter Tryz.func16, Tryz.ntmps16
    clear hc1
    go_wp2_with (first
      | (go_at_call 29; refine HC.out.mono ?_; rintro _ w1 ⟨rfl, b1⟩; have B1 := hid b1; have hT1 := H.out.below b1; have c32 := hT1.c32; have hlen := hT1.vm.len Tryz.underlying52 3; have HT1 := hid hT1; clear b1 hT1; unfold goneE; simp only [Bool.false_eq_true, if_false])
      | (at_mapUpdate; rw [Hca.out]; refine wpList_mapUpdate_own _ rfl _ _ _ 52 rfl 71 3 lawPlace Tryz.underlying52 _ mv nv VM rfl HT1.out.vm (by unfold maxLen; omega) _ _ kl rfl rfl Hk.out _ [] (plainElem_int Tryz.underlying3 Hwf.out) ?_; intro w2 hown2 hg2))
    go_ret2
    exact rot_end HT1.out B1.out hne hown2 hg2
end Go.Proofs.YtdglmoikgmlaaaaGreatDoor
/- live of the laws on keys. -/
namespace Go.Proofs.YtdglmoikgmlaaaaGreatDoor
open Go.RowKit Go.Maps
set_option linter.unusedVariables false
set_option maxRecDepth 20000
theorem hkA : ∃ kl, Go.keyOf Tryz.prog 71 (.agg #[.string ⟨#[97]⟩, .string ⟨#[109, 97, 105, 108]⟩]) = some kl := Option.isSome_iff_exists.1 (by kernel_rfl)
theorem nmA : (⟨#[97]⟩ : ByteArray).size ≤ 100 ∧ nameB (⟨#[97]⟩ : ByteArray).data.toList = true := ⟨by decide, by decide +kernel⟩
theorem nmM : (⟨#[109, 97, 105, 108]⟩ : ByteArray).size ≤ 100 ∧ nameB (⟨#[109, 97, 105, 108]⟩ : ByteArray).data.toList = true := ⟨by decide, by decide +kernel⟩
theorem keA : keyErr [⟨#[97]⟩, ⟨#[109, 97, 105, 108]⟩, txtJ 1] = 0 := by decide +kernel
theorem ver0J (kl : Lit) : VerIs (.map []) kl ((1 : Nat) : Int) := Or.inr ⟨rfl, rfl⟩
theorem ver1J {kl : Lit} {v : Value} (hk : Go.keyOf Tryz.prog 71 v = some kl) {V : DataW Unit} (hV : IsMap V) (c : Int) : VerIs (V.put kl (.lit (.int .i64 c))) kl c := Or.inl ⟨has_put_same hV (lawPlace.key hk) _, atKey_put_same hV (lawPlace.key hk) _ _⟩
theorem TreeAt.mlt {w : World} {B g : Nat} {root : List UInt8} {mv mg nv ng : Nat} {V G : DataW Unit} {n : Nat} (h : TreeAt w B g root mv mg nv ng V G n) : mv < w.heap.size ∧ mg < w.heap.size := by
  refine ⟨?_, ?_⟩
  · obtain ⟨es, clock, hb, _⟩ := h.vm
    exact heap_lt hb
  · obtain ⟨es, clock, hb, _⟩ := h.gm
    exact heap_lt hb
theorem Bytes.outJ {P : Nat → Prop} {w w' : World} {g : Nat} {l : List UInt8} (h : Bytes w (some ⟨g, 0, none⟩) l) (ho : OutJ P w w') (hp : ¬ P g) : Bytes w' (some ⟨g, 0, none⟩) l := fun i hi => by
  obtain ⟨b, o, e, hc⟩ := h i hi
  cases e
  refine ⟨_, _, rfl, ?_⟩
  have hlt := World.block_lt_of_cell? _ _ hc
  rw [← hc]
  unfold World.cell?
  rw [ho.block _ hlt hp]
set_option maxHeartbeats 4000000 in
theorem liveJ_any {w : World} (hT : TabAt w) (hK : KAt w) :
    Calls Tryz.prog 8 #[] w fun e w' => e = .returned (.bool true) ∧ Below w.heap.size w w' := by
  obtain ⟨kl, hkl⟩ := hkA
  have HT := hid hT
  have Hkl := hid hkl
  clear hkl
  have HK := hid hK
  clear hT hK
  go_enter Tryz.func8, Tryz.ntmps8
  go_wp2_with (go_at_call 6; refine (new_any w key1 rfl).mono ?_; rintro _ w1 ⟨g, mv, mg, rfl, t1, b1, hne⟩; have H1 := hid t1; have B1 := hid b1; clear t1 b1; have hcv := Lib.run_convert_bytes_const (P := Tryz.prog) w1 41 5 #[.int .u8 120] 1 1 Tryz.underlying41 Tryz.underlying5)
  have b0 : Below w1.heap.size w1 (w1.alloc (.cells #[.int .u8 120] 5 (1, 2))) := (Below.refl _ w1).alloc (Nat.le_refl _) _
  have b0' : Below w.heap.size w (w1.alloc (.cells #[.int .u8 120] 5 (1, 2))) := Below.on' B1.out b0
  refine (seal_ok (H1.out.below b0) ⟨#[97]⟩ ⟨#[109, 97, 105, 108]⟩ nmA nmM kl Hkl.out 1 (ver0J kl) (by omega) (by omega) rfl keA (by omega) [120] (some ⟨w1.heap.size, 0, none⟩) 1 1 rfl (bytes_fr [120] 5 (heap_alloc_fr w1 _)) (by simp) (HT.out.belowJ b0') (HK.out.below b0')).mono ?_
  rintro _ w2 ⟨v2, rfl, o2, t2, x2⟩
  have ls : (UInt8.ofNat 1 :: sealB (derRes key1 [⟨#[97]⟩, ⟨#[109, 97, 105, 108]⟩, txtJ 1]) 0 [120]).length = 26 := by rw [List.length_cons, sealB_len]; rfl
  obtain ⟨gs, cap, rfl, hB2, hc2, hge⟩ := own_some o2 (by omega)
  rw [ls] at hc2 ⊢
  have hb2 : Hid (Below w.heap.size w w2) := b0'.trans (x2.below (by have := B1.out.size; simp; omega) (fun k hk => by rw [hk]; exact H1.out.bg))
  have hgm : Hid (gs ≠ mv) := by
    show gs ≠ mv
    have := H1.out.mlt.1
    simp at hge
    omega
  have H2 := hid t2
  have HB2 := hid hB2
  clear o2 t2 x2 hB2 hge b0 b0' hcv H1 B1 ls
  go_wp2_with (go_at_call 16; refine (rotate_ok H2.out ⟨#[97]⟩ ⟨#[109, 97, 105, 108]⟩ nmA nmM kl Hkl.out 1 (ver0J kl) (by omega) (by omega) rfl (fun _ => by decide) (by omega) hne).mono ?_; rintro _ w3 ⟨rfl, t3, x3⟩; have H3 := hid t3; have HB3 := hid (HB2.out.outJ x3 hgm.out); have hb3 : Hid (Below w.heap.size w w3) := hb2.out.trans (x3.below hb2.out.size (fun k hk => by rw [hk]; exact H2.out.bv)); clear t3 x3 H2 HB2 hgm)
  refine (open_ok H3.out ⟨#[97]⟩ ⟨#[109, 97, 105, 108]⟩ nmA nmM kl Hkl.out _ (ver1J Hkl.out isMap_empty _) rfl 1 (by omega) (by omega) (by omega) keA 0 (by omega) [120] (by simp) gs 26 cap rfl hc2 HB3.out (HT.out.belowJ hb3.out) (HK.out.below hb3.out)).mono ?_
  rintro _ w4 ⟨v4, rfl, o4, b4⟩
  have hcs := conv_own o4 (by simp)
  have hb4 : Hid (Below w.heap.size w w4) := Below.on' hb3.out b4
  clear o4 b4 H3 HB3 hb3 hb2 hne
  go_wp2
  go_ret
  exact ⟨rfl, hb4.out⟩
end Go.Proofs.YtdglmoikgmlaaaaGreatDoor
/- A tree of keys: too long a text; a tenant that is gone; Destroy. -/
namespace Go.Proofs.YtdglmoikgmlaaaaGreatDoor
open Go.RowKit Go.Maps
set_option linter.unusedVariables false
set_option maxRecDepth 20000
set_option maxHeartbeats 4000000 in
theorem seal_toolong {w : World} {B g : Nat} {root : List UInt8} {mv mg nv ng : Nat} {VM GM : DataW Unit} {k : Nat} (h : TreeAt w B g root mv mg nv ng VM GM k) (t u : ByteArray) (ht : t.size ≤ 100 ∧ nameB t.data.toList = true) (hu : u.size ≤ 100 ∧ nameB u.data.toList = true) (kl : Lit) (hk : Go.keyOf Tryz.prog 71 (.agg #[.string t, .string u]) = some kl) (c : Nat) (hc : VerIs VM kl (c : Int)) (h1 : 1 ≤ c) (h16 : c ≤ 200) (hb : Maps.has GM (.string t.data.toList) = false) (hke : keyErr [t, u, txtJ c] = 0) (hk9 : k ≤ 1099511627776) (a : Option Addr) (n cap : Nat) (hl : 1024 < n) (hT : TabAt w) (hKA : KAt w) :
    Calls Tryz.prog 15 #[.pointer (some ⟨g, 0, none⟩), .string t, .string u, .slice a n cap] w fun e w' => e = .returned (.tuple #[.slice none 0 0, .int .i64 6]) ∧ Below w.heap.size w w' := by
  obtain ⟨Z, hZ⟩ : ∃ Z, Z = bvs (List.replicate 32 0) := ⟨_, rfl⟩
  have zh := (zero_of_info zero_hash).1
  rw [← hZ] at zh
  have hz : Hid (HV Z (List.replicate 32 0)) := by
    show HV _ _
    rw [hZ]; exact hv_zero
  have zh := hid zh
  have HC := hid (current_any h t u ⟨by unfold maxLen; have := ht.1; omega, ht.2⟩ ⟨by unfold maxLen; have := hu.1; omega, hu.2⟩ kl hk (c : Int) hc false hb)
  have HKy := hid (fun (W : World) (hW : Below w.heap.size w W) => by have := key_ok (h.below hW) t u ht hu kl hk (c : Int) hc hb c h1 (Int.le_refl _) (by omega) (TabAt.belowJ hT hW) (hKA.below hW); rw [hke] at this; exact this)
  obtain ⟨key, hkey⟩ : ∃ key, key = derRes root [t, u, txtJ c] := ⟨_, rfl⟩
  rw [← hkey] at HKy
  have H := hid h
  have HKA := hid hKA
  have hcv : IntKind.u64.wrap (k : Int) = (k : Int) := by rw [IntKind.wrap_u64]; omega
  have Hcv := hid hcv
  have hc8 : ((UInt8.ofNat c).toNat : Int) = (c : Int) := by
    have : (UInt8.ofNat c).toNat = c := by simp; omega
    omega
  have Hc8 := hid hc8
  clear h hc hb hk hZ hT hkey hKA hcv hc8 hke
  go_enter Tryz.func15, Tryz.ntmps15
  go_wp2_with (first
    | (go_at_call 29; refine HC.out.mono ?_; rintro _ w1 ⟨rfl, b1⟩; have B1 := hid b1; clear b1; unfold goneE; simp only [Bool.false_eq_true, if_false])
    | (go_at_call 27; refine (HKy.out w1 B1.out).mono ?_; rintro _ w2 ⟨O, rfl, hO, b2⟩; obtain rfl := hO.eq; have hlk := hid hO.len; have B2 := hid (Below.on' B1.out b2); have X2 : Hid ((w2.alloc (.cells Z 23)).heap[w2.heap.size]? = some (.cells Z 23 (0, 0))) := heap_alloc_new w2 _; have HI := hid hO.info; have HZ9 := hid (hz.out.size.trans hO.size.symm); have HO1 := hid hO.one; clear b2 hO)
    | (with_reducible show Go.wpList _ _ _ _ _ _; refine wpList_alloc_row rfl 23 rfl Z zh.out ?_)
    | (with_reducible show Go.wpList _ _ _ _ _ _; refine wpList_store_row rfl 23 _ _ rfl w2.heap.size (bvs key) rfl rfl 23 Z X2.out HI.out HZ9.out HO1.out ?_))
  obtain ⟨W3, hW3⟩ : ∃ W3, W3 = (w2.alloc (.cells Z 23)).setRow w2.heap.size (bvs key) := ⟨_, rfl⟩
  have b3 : Below w2.heap.size w2 W3 := by rw [hW3]; exact ((Below.refl _ w2).alloc (Nat.le_refl _) _).setRow (Nat.le_refl _) _
  have x3 : W3.heap[w2.heap.size]? = some (.cells (bvs key) 23 (0, 0)) := by rw [hW3]; exact setRow_heap _ _ _ _ _ _ X2.out
  rw [← hW3]
  obtain ⟨V0, hV0⟩ : ∃ V0, V0 = W3.drew := ⟨_, rfl⟩
  have b30 : Below W3.heap.size W3 V0 := by rw [hV0]; exact (Below.refl _ W3).drew
  have bw0 : Below w.heap.size w V0 := Below.on' (Below.on' B2.out b3) b30
  have hcall : Calls Tryz.prog 42 #[.agg (bvs key), .int .u64 (k : Int), .slice a n cap] V0 fun e w' => ∃ vv, e = .returned (.tuple #[vv, .int .i64 6]) ∧ vv = .slice none 0 0 ∧ Below V0.heap.size V0 w' := (seal_long ⟨rfl, hlk.out⟩ k n a cap hl).mono fun e w' h => ⟨_, h.1, rfl, h.2⟩
  refine wp_act _ fun A hA => ?_
  have sz : A.tmps.size = 66 := by rw [hA]; rfl
  have e0 : A.eval (.tmp 0) = .pointer (some ⟨g, 0, none⟩) := by rw [hA]; rfl
  have e3 : A.eval (.tmp 3) = .slice a n cap := by rw [hA]; rfl
  have e12 : A.eval (.tmp 12) = .pointer (some ⟨w2.heap.size, 0, none⟩) := by rw [hA]; rfl
  refine wp_split _ (seal_region7 (P := fun vv w' => vv = .slice none 0 0) sz e0 e3 e12 hlk.out Hcv.out hcall hV0 ⟨H.out.below bw0, (b30.block _ (heap_lt x3)).trans x3⟩) ?_
  rintro _ V4 ⟨vv, rfl, rfl, ⟨hT4, _⟩, b4⟩
  rw [hA]
  simp only [Act.put, List.setIfInBounds_toArray, List.set_cons_succ, List.set_cons_zero]
  have bw4 := hid (Below.on' bw0 b4)
  clear b4 bw0 b30 b3 hT4 hcall hA sz e0 e3 e12
  go_wp2
  go_ret2
  exact ⟨rfl, bw4.out⟩
set_option maxHeartbeats 4000000 in
theorem seal_full {w : World} {B g : Nat} {root : List UInt8} {mv mg nv ng : Nat} {VM GM : DataW Unit} {k : Nat} (h : TreeAt w B g root mv mg nv ng VM GM k) (t u : ByteArray) (ht : t.size ≤ 100 ∧ nameB t.data.toList = true) (hu : u.size ≤ 100 ∧ nameB u.data.toList = true) (kl : Lit) (hk : Go.keyOf Tryz.prog 71 (.agg #[.string t, .string u]) = some kl) (c : Nat) (hc : VerIs VM kl (c : Int)) (h1 : 1 ≤ c) (h16 : c ≤ 200) (hb : Maps.has GM (.string t.data.toList) = false) (hke : keyErr [t, u, txtJ c] = 0) (hk9 : k = 1099511627776) (plain : List UInt8) (a : Option Addr) (n cap : Nat) (hn : n = plain.length) (hB : Bytes w a plain) (hl : plain.length ≤ 1024) (hT : TabAt w) (hKA : KAt w) :
    Calls Tryz.prog 15 #[.pointer (some ⟨g, 0, none⟩), .string t, .string u, .slice a n cap] w fun e w' => e = .returned (.tuple #[.slice none 0 0, .int .i64 7]) ∧ Below w.heap.size w w' := by
  obtain ⟨Z, hZ⟩ : ∃ Z, Z = bvs (List.replicate 32 0) := ⟨_, rfl⟩
  have zh := (zero_of_info zero_hash).1
  rw [← hZ] at zh
  have hz : Hid (HV Z (List.replicate 32 0)) := by
    show HV _ _
    rw [hZ]; exact hv_zero
  have zh := hid zh
  have HC := hid (current_any h t u ⟨by unfold maxLen; have := ht.1; omega, ht.2⟩ ⟨by unfold maxLen; have := hu.1; omega, hu.2⟩ kl hk (c : Int) hc false hb)
  have HKy := hid (fun (W : World) (hW : Below w.heap.size w W) => by have := key_ok (h.below hW) t u ht hu kl hk (c : Int) hc hb c h1 (Int.le_refl _) (by omega) (TabAt.belowJ hT hW) (hKA.below hW); rw [hke] at this; exact this)
  obtain ⟨key, hkey⟩ : ∃ key, key = derRes root [t, u, txtJ c] := ⟨_, rfl⟩
  rw [← hkey] at HKy
  have H := hid h
  have HKA := hid hKA
  have HB := hid hB
  have Hn := hid hn
  have Hk9 := hid hk9
  have hcv : IntKind.u64.wrap (k : Int) = (k : Int) := by rw [IntKind.wrap_u64]; omega
  have Hcv := hid hcv
  have hc8 : ((UInt8.ofNat c).toNat : Int) = (c : Int) := by
    have : (UInt8.ofNat c).toNat = c := by simp; omega
    omega
  have Hc8 := hid hc8
  have g9 : ((k : Int) == 1099511627776) = true := by simp; omega
  clear h hc hb hk hZ hT hkey hKA hcv hc8 hke hB hn hk9
  go_enter Tryz.func15, Tryz.ntmps15
  go_wp2_with (first
    | (go_at_call 29; refine HC.out.mono ?_; rintro _ w1 ⟨rfl, b1⟩; have B1 := hid b1; clear b1; unfold goneE; simp only [Bool.false_eq_true, if_false])
    | (go_at_call 27; refine (HKy.out w1 B1.out).mono ?_; rintro _ w2 ⟨O, rfl, hO, b2⟩; obtain rfl := hO.eq; have hlk := hid hO.len; have B2 := hid (Below.on' B1.out b2); have X2 : Hid ((w2.alloc (.cells Z 23)).heap[w2.heap.size]? = some (.cells Z 23 (0, 0))) := heap_alloc_new w2 _; have HI := hid hO.info; have HZ9 := hid (hz.out.size.trans hO.size.symm); have HO1 := hid hO.one; clear b2 hO)
    | (with_reducible show Go.wpList _ _ _ _ _ _; refine wpList_alloc_row rfl 23 rfl Z zh.out ?_)
    | (with_reducible show Go.wpList _ _ _ _ _ _; refine wpList_store_row rfl 23 _ _ rfl w2.heap.size (bvs key) rfl rfl 23 Z X2.out HI.out HZ9.out HO1.out ?_))
  obtain ⟨W3, hW3⟩ : ∃ W3, W3 = (w2.alloc (.cells Z 23)).setRow w2.heap.size (bvs key) := ⟨_, rfl⟩
  have b3 : Below w2.heap.size w2 W3 := by rw [hW3]; exact ((Below.refl _ w2).alloc (Nat.le_refl _) _).setRow (Nat.le_refl _) _
  have x3 : W3.heap[w2.heap.size]? = some (.cells (bvs key) 23 (0, 0)) := by rw [hW3]; exact setRow_heap _ _ _ _ _ _ X2.out
  rw [← hW3]
  obtain ⟨V0, hV0⟩ : ∃ V0, V0 = W3.drew := ⟨_, rfl⟩
  have b30 : Below W3.heap.size W3 V0 := by rw [hV0]; exact (Below.refl _ W3).drew
  have bw0 : Below w.heap.size w V0 := Below.on' (Below.on' B2.out b3) b30
  have hcall : Calls Tryz.prog 42 #[.agg (bvs key), .int .u64 (k : Int), .slice a n cap] V0 fun e w' => ∃ vv, e = .returned (.tuple #[vv, .int .i64 0]) ∧ True ∧ Below V0.heap.size V0 w' := (seal_any ⟨rfl, hlk.out⟩ k plain a n cap Hn.out (HB.out.below bw0) hl (HKA.out.below bw0)).mono fun e w' ⟨v, h1, _, h3⟩ => ⟨v, h1, trivial, h3⟩
  refine wp_act _ fun A hA => ?_
  have sz : A.tmps.size = 66 := by rw [hA]; rfl
  have e0 : A.eval (.tmp 0) = .pointer (some ⟨g, 0, none⟩) := by rw [hA]; rfl
  have e3 : A.eval (.tmp 3) = .slice a n cap := by rw [hA]; rfl
  have e12 : A.eval (.tmp 12) = .pointer (some ⟨w2.heap.size, 0, none⟩) := by rw [hA]; rfl
  refine wp_split _ (seal_region7 (P := fun _ _ => True) sz e0 e3 e12 hlk.out Hcv.out hcall hV0 ⟨H.out.below bw0, (b30.block _ (heap_lt x3)).trans x3⟩) ?_
  rintro _ V4 ⟨vv, rfl, _, ⟨hT4, _⟩, b4⟩
  rw [hA]
  simp only [Act.put, List.setIfInBounds_toArray, List.set_cons_succ, List.set_cons_zero]
  have bw4 := hid (Below.on' bw0 b4)
  have c34 := hT4.c34
  clear b4 bw0 b30 b3 hT4 hcall hA sz e0 e3 e12
  go_wp2
  go_ret2
  exact ⟨rfl, bw4.out⟩
theorem texts1J (w : World) (t : ByteArray) : Texts (w.alloc (.cells #[.string t] 9)) (some ⟨w.heap.size, 0, none⟩) [t] := fun i hi => by
  refine ⟨w.heap.size, 0, rfl, ?_⟩
  rw [World.cell?_alloc_at _ _ _ _ rfl]
  match i, hi with
  | 0, _ => rfl
theorem reach1 {w : World} {B g : Nat} {root : List UInt8} {mv mg nv ng : Nat} {VM GM : DataW Unit} {k : Nat} (h : TreeAt w B g root mv mg nv ng VM GM k) (t : ByteArray) (ht : t.size ≤ 100 ∧ nameB t.data.toList = true) (b : Bool) (hb : Maps.has GM (.string t.data.toList) = b) :
    Calls Tryz.prog 46 #[.pointer (some ⟨g, 0, none⟩), .string t, .slice (some ⟨w.heap.size, 0, none⟩) 1 1] (w.alloc (.cells #[.string t] 9)) fun e w' => e = .returned (.int .i64 (goneE b)) ∧ Below w.heap.size w w' := by
  have b0 : Below w.heap.size w (w.alloc (.cells #[.string t] 9)) := (Below.refl _ w).alloc (Nat.le_refl _) _
  refine (reach_any (h.below b0) t (by unfold maxLen; have := ht.1; omega) [t] (some ⟨w.heap.size, 0, none⟩) 1 1 rfl (texts1J w t) (by simp) (fun s hs => by simp at hs; subst hs; exact ⟨by unfold maxLen; have := ht.1; omega, ht.2⟩) b hb).mono ?_
  rintro _ w1 ⟨rfl, b1⟩
  exact ⟨rfl, Below.on' b0 b1⟩
theorem destroy_gone {w : World} {B g : Nat} {root : List UInt8} {mv mg nv ng : Nat} {VM GM : DataW Unit} {k : Nat} (h : TreeAt w B g root mv mg nv ng VM GM k) (t : ByteArray) (ht : t.size ≤ 100 ∧ nameB t.data.toList = true) (hb : Maps.has GM (.string t.data.toList) = true) :
    Calls Tryz.prog 22 #[.pointer (some ⟨g, 0, none⟩), .string t] w fun e w' => e = .returned (.int .i64 12) ∧ Below w.heap.size w w' := by
  have HR := hid (reach1 h t ht true hb)
  clear h hb
  go_enter Tryz.func22, Tryz.ntmps22
  go_wp2_with (go_at_call 46; refine HR.out.mono ?_; rintro _ w1 ⟨rfl, b1⟩; have B1 := hid b1; clear b1; unfold goneE; simp only [if_true])
  go_ret
  exact ⟨rfl, B1.out⟩
end Go.Proofs.YtdglmoikgmlaaaaGreatDoor
/- The keys of the map of versions, for any two texts; names that may not be. -/
namespace Go.Proofs.YtdglmoikgmlaaaaGreatDoor
open Go.RowKit Go.Maps
set_option linter.unusedVariables false
set_option maxRecDepth 20000
def keyP (t u : ByteArray) : Lit := .string (Go.keyBytes [.string t.data.toList, .string u.data.toList])
theorem typesJ : ∃ m, Tryz.prog.types.size = m + 1 := ⟨Tryz.prog.types.size - 1, by kernel_rfl⟩
theorem keyTypeJ : Tryz.prog.keyType 71 = true := by kernel_rfl
theorem cellsPlace : Tryz.prog.cellsOf 71 = 2 := by kernel_rfl
theorem cellsStr : Tryz.prog.cellsOf 9 = 1 := by kernel_rfl
theorem keyLits_str (m : Nat) (s : ByteArray) (h : s.size ≤ maxLen) : Tryz.prog.keyLits (m + 1) 9 [.string s] = some [.string s.data.toList] := by
  unfold Program.keyLits
  simp only [Tryz.underlying9, h, if_true]
theorem keyLits_str_inv (m : Nat) (cs : List Value) (ls : List Lit) (h : Tryz.prog.keyLits (m + 1) 9 cs = some ls) : ∃ s : ByteArray, cs = [.string s] ∧ s.size ≤ maxLen ∧ ls = [.string s.data.toList] := by
  unfold Program.keyLits at h
  simp only [Tryz.underlying9] at h
  split at h <;> simp_all
theorem formedJ (t u : ByteArray) : Value.formed Tryz.prog 71 (.agg #[.string t, .string u]) = true := by kernel_rfl
theorem keyOf_place (t u : ByteArray) (ht : t.size ≤ maxLen) (hu : u.size ≤ maxLen) : Go.keyOf Tryz.prog 71 (.agg #[.string t, .string u]) = some (keyP t u) := by
  obtain ⟨m, hm⟩ := typesJ
  unfold Go.keyOf
  rw [hm]
  simp only [Tryz.underlying71, keyTypeJ, formedJ, Bool.and_self, if_true]
  unfold Program.keyLits
  simp only [Tryz.underlying71, cellsPlace, Value.cells]
  rw [if_pos ⟨rfl, by decide +kernel⟩]
  simp [List.mapM_cons, cellsStr, keyLits_str m _ ht, keyLits_str m _ hu, keyP]
theorem place_inv {v : Value} {l : Lit} (h : Go.keyOf Tryz.prog 71 v = some l) : ∃ t u : ByteArray, v = .agg #[.string t, .string u] ∧ l = keyP t u ∧ t.size ≤ maxLen ∧ u.size ≤ maxLen := by
  obtain ⟨m, hm⟩ := typesJ
  unfold Go.keyOf at h
  rw [hm] at h
  simp only [Tryz.underlying71, keyTypeJ, Bool.true_and] at h
  split at h
  · rename_i hf
    unfold Program.keyLits at h
    simp only [Tryz.underlying71, cellsPlace] at h
    split at h
    · rename_i hc
      obtain ⟨hc1, _⟩ := hc
      obtain ⟨xs, rfl⟩ : ∃ xs, v = .agg xs := by
        cases v <;> simp [Value.cells] at hc1 <;> exact ⟨_, rfl⟩
      simp only [Value.cells] at h hc1
      obtain ⟨x0, x1, hx⟩ : ∃ x0 x1, xs = #[x0, x1] := by
        obtain ⟨l⟩ := xs
        simp only at hc1
        match l, hc1 with
        | [a, b], _ => exact ⟨a, b, rfl⟩
      subst hx
      simp only [List.mapM_cons, List.mapM_nil, bind, pure, cellsStr, List.drop_zero, List.drop_succ_cons, List.take_succ_cons, List.take_zero, Option.map_eq_some_iff, Option.bind_eq_some_iff, Option.some.injEq] at h
      obtain ⟨ls, ⟨lss, ⟨a, ha, bs, ⟨b, hb, cs, hcs, rfl⟩, rfl⟩, rfl⟩, rfl⟩ := h
      obtain ⟨t, e1, h1, rfl⟩ := keyLits_str_inv _ _ _ ha
      obtain ⟨u, e2, h2, rfl⟩ := keyLits_str_inv _ _ _ hb
      simp at e1 e2
      subst e1 e2
      subst hcs
      exact ⟨t, u, rfl, rfl, h1, h2⟩
    · cases h
  · cases h
end Go.Proofs.YtdglmoikgmlaaaaGreatDoor
/- reach, Current, of any names. -/
namespace Go.Proofs.YtdglmoikgmlaaaaGreatDoor
open Go.RowKit Go.Maps
set_option linter.unusedVariables false
set_option maxRecDepth 20000
def okN (s : ByteArray) : Bool := nameB s.data.toList
theorem okN_len {s : ByteArray} (h : okN s = true) : s.size ≤ 9 := by
  unfold okN nameB at h
  simp at h
  have : s.data.toList.length = s.size := by simp
  simp at this
  omega
set_option maxHeartbeats 2000000 in
theorem reach_bad {w : World} {g : Nat} (t : ByteArray) (l : List ByteArray) (a : Option Addr) (m cap : Nat) (hm : m = l.length) (hl : Texts w a l) (hl9 : l.length ≤ 100) (hs : ∀ s ∈ l, s.size ≤ maxLen) (hb : l.all okN = false) :
    Calls Tryz.prog 46 #[.pointer (some ⟨g, 0, none⟩), .string t, .slice a m cap] w fun e w' => e = .returned (.int .i64 8) ∧ w' = w := by
  have Hl := hid hl
  have Hs := hid hs
  have Hm := hid hm
  have Hb := hid hb
  have hm9 : m ≤ 100 := by omega
  clear hl hs hm hb
  go_enter Tryz.func46, Tryz.ntmps46
  go_wp2
  go_loopw [15] (fun i wr => ∃ k : Nat, k ≤ m ∧ i = .int .i64 (k : Int) ∧ wr = w ∧ (l.take k).all okN = true) (fun i _ => m - (intOf i).toNat)
  case atStart => exact ⟨0, Nat.zero_le _, rfl, rfl, rfl⟩
  case round =>
    obtain ⟨k, hk, rfl, rfl, hpre⟩ := hrel
    by_cases hlt : k < m
    · have g1 : decide ((k : Int) < (m : Int)) = true := by simp; omega
      have hkl : k < l.length := by have := Hm.out; omega
      obtain ⟨bb, oo, rfl, hc⟩ := Hl.out k hkl
      have s1 := Hs.out _ (List.getElem_mem hkl)
      have hstep : (l.take (k + 1)).all okN = okN l[k] := by
        rw [List.take_succ_eq_append_getElem hkl, List.all_append, hpre]
        simp
      have Hstep := hid hstep
      clear hstep hpre
      generalize l[k] = s at *
      have HN := isName_any s wr s1
      rw [show nameB s.data.toList = okN s from rfl] at HN
      by_cases s2 : okN s = true
      · rw [s2] at HN
        go_wp2_with (go_at_call 64; refine HN.mono ?_; rintro _ w9 ⟨rfl, e9⟩; subst w9)
        go_roundw
        case rel => exact ⟨k + 1, by omega, by go_num, by first | rfl | trivial, Hstep.out.trans s2⟩
        case measure => simp [intOf]; omega
      · rw [Bool.eq_false_iff.2 s2] at HN
        clear s2
        go_wp2_with (go_at_call 64; refine HN.mono ?_; rintro _ w9 ⟨rfl, e9⟩; subst w9)
        go_ret
        exact ⟨rfl, rfl⟩
    · exfalso
      have := Hm.out
      have := Hb.out
      rw [List.take_of_length_le (by omega)] at hpre
      rw [hpre] at this
      cases this
set_option maxHeartbeats 2000000 in
theorem current_bad {w : World} {g : Nat} (t u : ByteArray) (ht : t.size ≤ maxLen) (hu : u.size ≤ maxLen) (hb : (okN t && okN u) = false) :
    Calls Tryz.prog 29 #[.pointer (some ⟨g, 0, none⟩), .string t, .string u] w fun e w' => e = .returned (.tuple #[.int .i64 0, .int .i64 8]) ∧ Below w.heap.size w w' := by
  have htx : Texts (w.alloc (.cells #[.string t, .string u] 9)) (some ⟨w.heap.size, 0, none⟩) [t, u] := fun i hi => by
    refine ⟨w.heap.size, 0, rfl, ?_⟩
    rw [World.cell?_alloc_at _ _ _ _ rfl]
    match i, hi with
    | 0, _ => rfl
    | 1, _ => rfl
  have HR := hid (reach_bad (g := g) t [t, u] (some ⟨w.heap.size, 0, none⟩) 2 2 rfl htx (by simp) (fun s hs => by simp at hs; rcases hs with rfl | rfl; exact ht; exact hu) (by simpa using hb))
  clear htx hb ht hu
  go_enter Tryz.func29, Tryz.ntmps29
  go_wp2_with (go_at_call 46; refine HR.out.mono ?_; rintro _ w1 ⟨rfl, e1⟩; subst w1)
  go_ret2
  exact ⟨rfl, (Below.refl _ w).alloc (Nat.le_refl _) _⟩
end Go.Proofs.YtdglmoikgmlaaaaGreatDoor
/- A tree of keys as mathematics: versions, tenants that are gone, how many texts were sealed; what the two maps hold of it. -/
namespace Go.Proofs.YtdglmoikgmlaaaaGreatDoor
open Go.RowKit Go.Maps
set_option linter.unusedVariables false
structure TS where
  vs : List ((ByteArray × ByteArray) × Nat)
  gs : List ByteArray
  n : Nat
def isAt (t u : ByteArray) (p : (ByteArray × ByteArray) × Nat) : Bool := decide (p.1 = (t, u))
def verOf (vs : List ((ByteArray × ByteArray) × Nat)) (t u : ByteArray) : Nat := ((vs.find? (isAt t u)).map (·.2)).getD 1
def isIn (gs : List ByteArray) (t : ByteArray) : Bool := gs.any fun x => decide (x = t)
theorem isIn_iff {gs : List ByteArray} {t : ByteArray} : isIn gs t = true ↔ t ∈ gs := by
  unfold isIn
  rw [List.any_eq_true]
  exact ⟨fun ⟨x, hx, e⟩ => of_decide_eq_true e ▸ hx, fun h => ⟨t, h, decide_eq_true rfl⟩⟩
def TS.cur (s : TS) (t u : ByteArray) : Nat × Nat := if (okN t && okN u) = true then (if isIn s.gs t = true then (0, 12) else (verOf s.vs t u, 0)) else (0, 8)
structure TS.Ok (s : TS) : Prop where
  names : ∀ p ∈ s.vs, okN p.1.1 = true ∧ okN p.1.2 = true ∧ 2 ≤ p.2 ∧ p.2 ≤ 16 ∧ p.1.1 ∉ s.gs
  nodup : (s.vs.map (·.1)).Nodup
  gnames : ∀ t ∈ s.gs, okN t = true
  gnodup : s.gs.Nodup
  few : s.vs.length ≤ 16
  gfew : s.gs.length ≤ 16
theorem verOf_ok {s : TS} (h : s.Ok) (t u : ByteArray) : 1 ≤ verOf s.vs t u ∧ verOf s.vs t u ≤ 16 := by
  unfold verOf
  cases hf : s.vs.find? (isAt t u) with
  | none => simp
  | some p => have := h.names p (List.mem_of_find?_eq_some hf); simp; omega
theorem okN_max {t : ByteArray} (h : okN t = true) : t.size ≤ maxLen := by have := okN_len h; unfold maxLen; omega
theorem keyP_inj {t u t' u' : ByteArray} (ht : t.size ≤ maxLen) (hu : u.size ≤ maxLen) (ht' : t'.size ≤ maxLen) (hu' : u'.size ≤ maxLen) (h : keyP t u = keyP t' u') : (t, u) = (t', u') := by
  have := lawPlace.inj (keyOf_place t u ht hu) (h ▸ keyOf_place t' u' ht' hu')
  simp at this
  rw [this.1, this.2]
theorem keyP_lit (t u : ByteArray) : WideAt.IsKeyLit (keyP t u) := True.intro
structure VRel (V : DataW Unit) (vs : List ((ByteArray × ByteArray) × Nat)) : Prop where
  tidy : Tidy V
  has : ∀ t u : ByteArray, t.size ≤ maxLen → u.size ≤ maxLen → Maps.has V (keyP t u) = vs.any (isAt t u)
  at' : ∀ p ∈ vs, V.atKey (keyP p.1.1 p.1.2) (.lit (.int .i64 0)) = .lit (.int .i64 (p.2 : Int))
  size : Maps.size V = vs.length
structure GRel (G : DataW Unit) (gs : List ByteArray) : Prop where
  tidy : Tidy G
  has : ∀ t : ByteArray, Maps.has G (.string t.data.toList) = isIn gs t
  size : Maps.size G = gs.length
theorem vrel_new : VRel (.map []) [] := ⟨tidy_empty, fun _ _ _ _ => rfl, (fun p hp => nomatch hp), rfl⟩
theorem grel_new : GRel (.map []) [] := ⟨tidy_empty, fun _ => rfl, rfl⟩
theorem VRel.ver {V : DataW Unit} {vs : List ((ByteArray × ByteArray) × Nat)} (h : VRel V vs) (t u : ByteArray) (ht : t.size ≤ maxLen) (hu : u.size ≤ maxLen) : VerIs V (keyP t u) (verOf vs t u : Int) := by
  unfold VerIs verOf
  cases hf : vs.find? (isAt t u) with
  | none =>
    refine Or.inr ⟨?_, rfl⟩
    rw [h.has t u ht hu, List.any_eq_false]
    exact fun p hp => by simpa using List.find?_eq_none.1 hf p hp
  | some p =>
    have hm := List.mem_of_find?_eq_some hf
    have hp : isAt t u p = true := List.find?_some hf
    have e : p.1 = (t, u) := of_decide_eq_true hp
    refine Or.inl ⟨?_, ?_⟩
    · rw [h.has t u ht hu, List.any_eq_true]
      exact ⟨p, hm, hp⟩
    · have := h.at' p hm
      rw [e] at this
      exact this
def rotV (vs : List ((ByteArray × ByteArray) × Nat)) (t u : ByteArray) (c : Nat) : List ((ByteArray × ByteArray) × Nat) := vs.filter (fun p => !isAt t u p) ++ [((t, u), c)]
theorem rotV_length {vs : List ((ByteArray × ByteArray) × Nat)} (hn : (vs.map (·.1)).Nodup) (t u : ByteArray) (c : Nat) : (rotV vs t u c).length = if vs.any (isAt t u) then vs.length else vs.length + 1 := by
  have key : (vs.filter (fun p => !isAt t u p)).length + (if vs.any (isAt t u) then 1 else 0) = vs.length := by
    induction vs with
    | nil => rfl
    | cons p vs ih =>
      have hn' : (p.1 :: vs.map (·.1)).Nodup := by simpa using hn
      obtain ⟨h1, h2⟩ := List.nodup_cons.1 hn'
      have ih' := ih h2
      rw [List.filter_cons, List.any_cons, List.length_cons]
      by_cases hp : isAt t u p = true
      · have hz : vs.any (isAt t u) = false := by
          rw [List.any_eq_false]
          intro q hq he
          exact h1 (List.mem_map.2 ⟨q, hq, (of_decide_eq_true he).trans (of_decide_eq_true hp).symm⟩)
        rw [hz] at ih'
        rw [hp, hz]
        simp only [Bool.not_true, Bool.false_eq_true, if_false, Bool.or_false, if_true] at ih' ⊢
        omega
      · have hp' : isAt t u p = false := by simpa using hp
        rw [hp']
        simp only [Bool.not_false, if_true, Bool.false_or, List.length_cons]
        omega
  unfold rotV
  rw [List.length_append, List.length_singleton]
  by_cases hb : vs.any (isAt t u) = true
  · rw [if_pos hb] at key ⊢
    exact key
  · rw [if_neg hb] at key ⊢
    omega
theorem VRel.rot {V : DataW Unit} {s : TS} (h : VRel V s.vs) (ok : s.Ok) (t u : ByteArray) (ht : t.size ≤ maxLen) (hu : u.size ≤ maxLen) (c : Nat) : VRel (V.put (keyP t u) (.lit (.int .i64 (c : Int)))) (rotV s.vs t u c) := by
  refine ⟨h.tidy.put (keyP_lit t u) _, fun t' u' ht' hu' => ?_, fun p hp => ?_, ?_⟩
  · by_cases e : (t', u') = (t, u)
    · obtain ⟨rfl, rfl⟩ := Prod.mk.inj e
      rw [has_put_same h.tidy.isMap (keyP_lit _ _)]
      unfold rotV isAt
      simp
    · rw [has_put_other (fun e' => e (keyP_inj ht' hu' ht hu e')), h.has t' u' ht' hu']
      unfold rotV
      rw [List.any_append]
      have h1 : ([((t, u), c)] : List ((ByteArray × ByteArray) × Nat)).any (isAt t' u') = false := by
        unfold isAt
        simp only [List.any_cons, List.any_nil, Bool.or_false, decide_eq_false_iff_not]
        exact fun e' => e e'.symm
      rw [h1, Bool.or_false]
      exact (any_filter_keep (fun p hp => by
        unfold isAt at hp ⊢
        have := of_decide_eq_true hp
        simp only [Bool.not_eq_true', decide_eq_false_iff_not]
        exact fun e' => e (this.symm.trans e')) _).symm
  · unfold rotV at hp
    rcases List.mem_append.1 hp with hp | hp
    · obtain ⟨hm, hne⟩ := List.mem_filter.1 hp
      have hne' : p.1 ≠ (t, u) := by unfold isAt at hne; simpa using hne
      obtain ⟨n1, n2, _⟩ := ok.names p hm
      rw [atKey_put_other (fun e' => hne' (keyP_inj (okN_max n1) (okN_max n2) ht hu e'))]
      exact h.at' p hm
    · obtain rfl := List.mem_singleton.1 hp
      exact atKey_put_same h.tidy.isMap (keyP_lit _ _) _ _
  · rw [size_put h.tidy, rotV_length ok.nodup, h.has t u ht hu, h.size]
def TS.rot (s : TS) (t u : ByteArray) (c : Nat) : TS := { s with vs := rotV s.vs t u c }
theorem TS.Ok.rot {s : TS} (ok : s.Ok) (t u : ByteArray) (ht : okN t = true) (hu : okN u = true) (hg : t ∉ s.gs) (c : Nat) (h2 : 2 ≤ c) (h16 : c ≤ 16) (hf : (rotV s.vs t u c).length ≤ 16) : (s.rot t u c).Ok := by
  refine ⟨fun p hp => ?_, ?_, ok.gnames, ok.gnodup, hf, ok.gfew⟩
  · unfold TS.rot rotV at hp
    rcases List.mem_append.1 hp with hp | hp
    · exact ok.names p (List.mem_filter.1 hp).1
    · obtain rfl := List.mem_singleton.1 hp
      exact ⟨ht, hu, h2, h16, hg⟩
  · show ((rotV s.vs t u c).map (·.1)).Nodup
    unfold rotV
    rw [List.map_append, List.nodup_append]
    refine ⟨ok.nodup.sublist (List.filter_sublist.map _), by simp, fun x hx y hy e => ?_⟩
    obtain ⟨p, hp, rfl⟩ := List.mem_map.1 hx
    have hne := (List.mem_filter.1 hp).2
    simp at hy
    rw [hy] at e
    unfold isAt at hne
    simp at hne
    exact hne e
end Go.Proofs.YtdglmoikgmlaaaaGreatDoor
