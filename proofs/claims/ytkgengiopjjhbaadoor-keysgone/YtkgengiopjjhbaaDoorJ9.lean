/- live of the laws on keys. -/
import Derived.Test.YtkgengiopjjhbaaDoorJ8
import Derived.Test.YtkgengiopjjhbaaDoorELive
namespace Go.Proofs.YtkgengiopjjhbaaDoor
open Go.RowKit Go.Maps
set_option linter.unusedVariables false
set_option maxRecDepth 20000
theorem hkA : ∃ kl, Go.keyOf Tryd.prog 54 (.agg #[.string ⟨#[97]⟩, .string ⟨#[109, 97, 105, 108]⟩]) = some kl := Option.isSome_iff_exists.1 (by kernel_rfl)
theorem nmA : (⟨#[97]⟩ : ByteArray).size ≤ 100 ∧ nameB (⟨#[97]⟩ : ByteArray).data.toList = true := ⟨by decide, by decide +kernel⟩
theorem nmM : (⟨#[109, 97, 105, 108]⟩ : ByteArray).size ≤ 100 ∧ nameB (⟨#[109, 97, 105, 108]⟩ : ByteArray).data.toList = true := ⟨by decide, by decide +kernel⟩
theorem keA : keyErr [⟨#[97]⟩, ⟨#[109, 97, 105, 108]⟩, txtJ 1] = 0 := by decide +kernel
theorem ver0J (kl : Lit) : VerIs (.map []) kl ((1 : Nat) : Int) := Or.inr ⟨rfl, rfl⟩
theorem ver1J {kl : Lit} {v : Value} (hk : Go.keyOf Tryd.prog 54 v = some kl) {V : DataW Unit} (hV : IsMap V) (c : Int) : VerIs (V.put kl (.lit (.int .i64 c))) kl c := Or.inl ⟨has_put_same hV (lawPlace.key hk) _, atKey_put_same hV (lawPlace.key hk) _ _⟩
theorem TreeAt.mlt {w : World} {B g : Nat} {root : List UInt8} {mv mg nv ng : Nat} {V G : DataW Unit} {n : Nat} (h : TreeAt w B g root mv mg nv ng V G n) : mv < w.heap.size ∧ mg < w.heap.size := by
  refine ⟨?_, ?_⟩
  · obtain ⟨es, clock, hb, _⟩ := h.vm
    exact heap_lt hb
  · obtain ⟨es, clock, hb, _⟩ := h.gm
    exact heap_lt hb
theorem Bytes.outJ {P : Nat → Prop} {w w' : World} {g : Nat} {l : List UInt8} (h : Bytes w (some ⟨g, 0, none⟩) l) (ho : OutJ P w w') (hp : ¬ P g) : Bytes w' (some ⟨g, 0, none⟩) l := fun i hi => by
  obtain ⟨b, o, e, hc⟩ := h i hi
  cases e
  refine ⟨_, _, rfl, ?_⟩
  have hlt := World.block_lt_of_cell? _ _ hc
  rw [← hc]
  unfold World.cell?
  rw [ho.block _ hlt hp]
set_option maxHeartbeats 4000000 in
theorem liveJ_any {w : World} (hT : TabAt w) (hK : KAt w) :
    Calls Tryd.prog 7 #[] w fun e w' => e = .returned (.bool true) ∧ Below w.heap.size w w' := by
  obtain ⟨kl, hkl⟩ := hkA
  have HT := hid hT
  have Hkl := hid hkl
  clear hkl
  have HK := hid hK
  clear hT hK
  go_enter Tryd.func7, Tryd.ntmps7
  go_wp2_with (go_at_call 5; refine (new_any w key1 rfl).mono ?_; rintro _ w1 ⟨g, mv, mg, rfl, t1, b1, hne⟩; have H1 := hid t1; have B1 := hid b1; clear t1 b1; have hcv := Lib.run_convert_bytes_const (P := Tryd.prog) w1 24 5 #[.int .u8 120] 1 1 Tryd.underlying24 Tryd.underlying5)
  have b0 : Below w1.heap.size w1 (w1.alloc (.cells #[.int .u8 120] 5 (1, 2))) := (Below.refl _ w1).alloc (Nat.le_refl _) _
  have b0' : Below w.heap.size w (w1.alloc (.cells #[.int .u8 120] 5 (1, 2))) := Below.on' B1.out b0
  refine (seal_ok (H1.out.below b0) ⟨#[97]⟩ ⟨#[109, 97, 105, 108]⟩ nmA nmM kl Hkl.out 1 (ver0J kl) (by omega) (by omega) rfl keA (by omega) [120] (some ⟨w1.heap.size, 0, none⟩) 1 1 rfl (bytes_fr [120] 5 (heap_alloc_fr w1 _)) (by simp) (HT.out.belowJ b0') (HK.out.below b0')).mono ?_
  rintro _ w2 ⟨v2, rfl, o2, t2, x2⟩
  have ls : (UInt8.ofNat 1 :: sealB (derRes key1 [⟨#[97]⟩, ⟨#[109, 97, 105, 108]⟩, txtJ 1]) 0 [120]).length = 26 := by rw [List.length_cons, sealB_len]; rfl
  obtain ⟨gs, cap, rfl, hB2, hc2, hge⟩ := own_some o2 (by omega)
  rw [ls] at hc2 ⊢
  have hb2 : Hid (Below w.heap.size w w2) := b0'.trans (x2.below (by have := B1.out.size; simp; omega) (fun k hk => by rw [hk]; exact H1.out.bg))
  have hgm : Hid (gs ≠ mv) := by
    show gs ≠ mv
    have := H1.out.mlt.1
    simp at hge
    omega
  have H2 := hid t2
  have HB2 := hid hB2
  clear o2 t2 x2 hB2 hge b0 b0' hcv H1 B1 ls
  go_wp2_with (go_at_call 12; refine (rotate_ok H2.out ⟨#[97]⟩ ⟨#[109, 97, 105, 108]⟩ nmA nmM kl Hkl.out 1 (ver0J kl) (by omega) (by omega) rfl (by decide) (by omega) hne).mono ?_; rintro _ w3 ⟨rfl, t3, x3⟩; have H3 := hid t3; have HB3 := hid (HB2.out.outJ x3 hgm.out); have hb3 : Hid (Below w.heap.size w w3) := hb2.out.trans (x3.below hb2.out.size (fun k hk => by rw [hk]; exact H2.out.bv)); clear t3 x3 H2 HB2 hgm)
  refine (open_ok H3.out ⟨#[97]⟩ ⟨#[109, 97, 105, 108]⟩ nmA nmM kl Hkl.out _ (ver1J Hkl.out isMap_empty _) rfl 1 (by omega) (by omega) (by omega) keA 0 (by omega) [120] (by simp) gs 26 cap rfl hc2 HB3.out (HT.out.belowJ hb3.out) (HK.out.below hb3.out)).mono ?_
  rintro _ w4 ⟨v4, rfl, o4, b4⟩
  have hcs := conv_own o4 (by simp)
  have hb4 : Hid (Below w.heap.size w w4) := Below.on' hb3.out b4
  clear o4 b4 H3 HB3 hb3 hb2 hne
  go_wp2
  go_ret
  exact ⟨rfl, hb4.out⟩
end Go.Proofs.YtkgengiopjjhbaaDoor
