/- KeysGone walked. -/
import Derived.Test.YtkgengiopjjhbaaDoorJ12
import Derived.Test.YtkgengiopjjhbaaDoorJLift
namespace Go.Proofs.YtkgengiopjjhbaaDoor
open Go.RowKit Go.Maps
set_option linter.unusedVariables false
set_option maxRecDepth 20000
theorem hkB : ∃ kl, Go.keyOf Tryd.prog 54 (.agg #[.string ⟨#[98]⟩, .string ⟨#[109, 97, 105, 108]⟩]) = some kl := Option.isSome_iff_exists.1 (by kernel_rfl)
theorem nmBJ : (⟨#[98]⟩ : ByteArray).size ≤ 100 ∧ nameB (⟨#[98]⟩ : ByteArray).data.toList = true := ⟨by decide, by decide +kernel⟩
theorem keB : keyErr [⟨#[98]⟩, ⟨#[109, 97, 105, 108]⟩, txtJ 1] = 0 := by decide +kernel
theorem goneA : Maps.has ((.map [] : DataW Unit).put (.string (⟨#[97]⟩ : ByteArray).data.toList) (.agg [])) (.string (⟨#[97]⟩ : ByteArray).data.toList) = true := has_put_same (k := .string (⟨#[97]⟩ : ByteArray).data.toList) isMap_empty (show True from trivial) _
theorem goneB : Maps.has ((.map [] : DataW Unit).put (.string (⟨#[97]⟩ : ByteArray).data.toList) (.agg [])) (.string (⟨#[98]⟩ : ByteArray).data.toList) = false := by rw [has_put_other (fun e => by injection e with e; exact absurd e (by decide))]; rfl
set_option maxHeartbeats 8000000 in
theorem keysGone_walk {w : World} {O : Array Value} {root : List UInt8} (hO : HV O root) (plain : List UInt8) (a : Option Addr) (cap : Nat) (hB : BytesIn w a cap plain) (hT : TabsJ w) :
    Calls Tryd.prog 3 #[.agg O, .slice a plain.length cap] w fun e w' => e = .returned (.bool true) ∧ Below w.heap.size w w' := by
  obtain ⟨kl, hkl⟩ := hkA
  obtain ⟨kb, hkb⟩ := hkB
  obtain ⟨W0, hW0⟩ : ∃ W0, W0 = w.alloc (.cells O 23) := ⟨_, rfl⟩
  have b0 : Below w.heap.size w W0 := by rw [hW0]; exact (Below.refl _ w).alloc (Nat.le_refl _) _
  have x0 : W0.heap[w.heap.size]? = some (.cells O 23 (0, 0)) := by rw [hW0]; exact heap_alloc_new w _
  have hN := new_any W0 root hO.len
  rw [show bvs root = O from hO.eq.symm] at hN
  have HN := hid hN
  have HI := hid hO.info
  have HX0 := hid x0
  have HW := hid hW0
  have B0 := hid b0
  have HT := hid hT
  have HBp := hid hB.bytes
  have Hlen := hid hB.length
  have Hkl := hid hkl
  have Hkb := hid hkb
  obtain ⟨n, hn⟩ : ∃ n, n = plain.length := ⟨_, rfl⟩
  rw [← hn]
  have Hn := hid hn
  clear hW0 b0 x0 hN hT hB hkl hkb hO hn
  go_enter Tryd.func3, Tryd.ntmps3
  go_wp2_with (first
    | (go_at_call 5; refine HN.out.mono ?_; rintro _ w1 ⟨g, mv, mg, rfl, t1, b1, hne⟩; have H1 := hid t1; have B1 := hid (B0.out.trans (b1.mono B0.out.size)); have Hne := hid hne; clear t1 b1 hne HN)
    | (with_reducible show Go.wpList _ _ _ _ _ _; rw [← HW.out]; refine wpList_load_row rfl 23 _ rfl w.heap.size rfl _ _ _ _ HX0.out Tryd.underlying23 rfl HI.out ?_))
  by_cases hl : plain.length ≤ 1024
  · have Hl := hid hl
    clear hl
    refine (seal_ok H1.out ⟨#[97]⟩ ⟨#[109, 97, 105, 108]⟩ nmA nmM kl Hkl.out 1 (ver0J kl) (by omega) (by omega) rfl keA (by omega) plain a n cap Hn.out (HBp.out.below B1.out) Hl.out (HT.out.1.belowJ B1.out) (HT.out.2.below B1.out)).mono ?_
    rintro _ w2 ⟨v2, rfl, o2, t2, x2⟩
    have B2 : Hid (Below w.heap.size w w2) := B1.out.trans (x2.below B1.out.size (fun k hk => by rw [hk]; have := H1.out.bg; have := B0.out.size; omega))
    have hm2 : Hid (mg < w2.heap.size) := t2.mlt.2
    have H2 := hid t2
    clear o2 t2 x2 H1 B1
    go_wp2_with fail
    refine (seal_ok H2.out ⟨#[98]⟩ ⟨#[109, 97, 105, 108]⟩ nmBJ nmM kb Hkb.out 1 (ver0J kb) (by omega) (by omega) rfl keB (by omega) plain a n cap Hn.out (HBp.out.below B2.out) Hl.out (HT.out.1.belowJ B2.out) (HT.out.2.below B2.out)).mono ?_
    rintro _ w3 ⟨v3, rfl, o3, t3, x3⟩
    have ls : (UInt8.ofNat 1 :: sealB (derRes root [⟨#[98]⟩, ⟨#[109, 97, 105, 108]⟩, txtJ 1]) (0 + 1) plain).length = n + 25 := by rw [List.length_cons, sealB_len, ← Hn.out]
    obtain ⟨gs, cs, rfl, hB3, hc3, hge⟩ := own_some o3 (by omega)
    rw [ls] at hc3 ⊢
    have B3 : Hid (Below w.heap.size w w3) := B2.out.trans (x3.below B2.out.size (fun k hk => by rw [hk]; have := H2.out.bg; have := B0.out.size; omega))
    have hgm : Hid (gs ≠ mg) := by
      show gs ≠ mg
      have := hm2.out
      omega
    have HB3 := hid hB3
    have Hc3 := hid hc3
    have H3 := hid t3
    clear o3 t3 x3 hB3 hc3 hge ls H2 B2 hm2
    go_wp2_with fail
    refine (destroy_new H3.out ⟨#[97]⟩ nmA rfl (by decide) (by omega) Hne.out).mono ?_
    rintro _ w4 ⟨rfl, t4, x4⟩
    have B4 : Hid (Below w.heap.size w w4) := B3.out.trans (x4.below B3.out.size (fun k hk => by rw [hk]; have := H3.out.bm; have := B0.out.size; omega))
    have HB4 := hid (HB3.out.outJ x4 hgm.out)
    have H4 := hid t4
    clear t4 x4 HB3 H3 B3 hgm Hne
    go_wp2_with fail
    refine (open_gone H4.out ⟨#[97]⟩ ⟨#[109, 97, 105, 108]⟩ nmA nmM kl Hkl.out _ (ver0J kl) goneA _).mono ?_
    rintro _ w5 ⟨rfl, b5⟩
    have B5 : Hid (Below w.heap.size w w5) := Below.on' B4.out b5
    have HB5 := hid (HB4.out.below b5)
    have H5 := hid (H4.out.below b5)
    clear b5 HB4 H4 B4
    go_wp2_with fail
    refine (seal_gone H5.out ⟨#[97]⟩ ⟨#[109, 97, 105, 108]⟩ nmA nmM kl Hkl.out _ (ver0J kl) goneA _).mono ?_
    rintro _ w6 ⟨rfl, b6⟩
    have B6 : Hid (Below w.heap.size w w6) := Below.on' B5.out b6
    have HB6 := hid (HB5.out.below b6)
    have H6 := hid (H5.out.below b6)
    clear b6 HB5 H5 B5
    go_wp2_with fail
    refine (open_ok H6.out ⟨#[98]⟩ ⟨#[109, 97, 105, 108]⟩ nmBJ nmM kb Hkb.out _ (ver0J kb) goneB 1 (by omega) (by omega) (by omega) keB (0 + 1) (by omega) plain Hl.out gs (n + 25) cs (by rw [Hn.out]) Hc3.out HB6.out (HT.out.1.belowJ B6.out) (HT.out.2.below B6.out)).mono ?_
    rintro _ w7 ⟨v7, rfl, o7, b7⟩
    have B7 : Hid (Below w.heap.size w w7) := Below.on' B6.out b7
    have H7 := hid (H6.out.below b7)
    have O7 := hid o7
    clear o7 b7 HB6 H6 B6 Hc3
    go_wp2_with fail
    refine (liveJ_any (HT.out.1.belowJ B7.out) (HT.out.2.below B7.out)).mono ?_
    rintro _ w8 ⟨rfl, b8⟩
    have B8 : Hid (Below w.heap.size w w8) := Below.on' B7.out b8
    have H8 := hid (H7.out.below b8)
    have O8 := hid (own_on O7.out b8)
    clear b8 H7 O7 B7
    go_wp2_with fail
    refine (destroy_gone H8.out ⟨#[97]⟩ nmA goneA).mono ?_
    rintro _ w9 ⟨rfl, b9⟩
    have B9 : Hid (Below w.heap.size w w9) := Below.on' B8.out b9
    obtain ⟨a9, c9, rfl, hB9, hc9⟩ := bytes_of_own (own_on O8.out b9)
    have HS := hid (sameBytes_any plain plain a9 a c9 cap w9 hB9 (HBp.out.below B9.out) Hlen.out Hlen.out)
    rw [← Hn.out] at HS ⊢
    clear b9 H8 O8 B8 hB9 hc9
    go_wp2_with fail
    refine HS.out.mono ?_
    rintro _ w10 ⟨rfl, b10⟩
    have B10 : Hid (Below w.heap.size w w10) := Below.on' B9.out b10
    rw [show decide True = true from rfl]
    clear b10 B9 HS
    go_wp2
    go_ret
    exact ⟨rfl, B10.out⟩
  · have Hl : Hid (1024 < n) := by
      show 1024 < n
      have := Hn.out
      omega
    clear hl
    refine (seal_toolong H1.out ⟨#[97]⟩ ⟨#[109, 97, 105, 108]⟩ nmA nmM kl Hkl.out 1 (ver0J kl) (by omega) (by omega) rfl keA (by omega) a n cap Hl.out (HT.out.1.belowJ B1.out) (HT.out.2.below B1.out)).mono ?_
    rintro _ w2 ⟨rfl, b2⟩
    have B2 : Hid (Below w.heap.size w w2) := Below.on' B1.out b2
    have H2 := hid (H1.out.below b2)
    clear b2 H1 B1
    go_wp2_with fail
    refine (seal_toolong H2.out ⟨#[98]⟩ ⟨#[109, 97, 105, 108]⟩ nmBJ nmM kb Hkb.out 1 (ver0J kb) (by omega) (by omega) rfl keB (by omega) a n cap Hl.out (HT.out.1.belowJ B2.out) (HT.out.2.below B2.out)).mono ?_
    rintro _ w3 ⟨rfl, b3⟩
    have B3 : Hid (Below w.heap.size w w3) := Below.on' B2.out b3
    clear b3 H2 B2
    go_wp2_with fail
    refine (liveJ_any (HT.out.1.belowJ B3.out) (HT.out.2.below B3.out)).mono ?_
    rintro _ w4 ⟨rfl, b4⟩
    have B4 : Hid (Below w.heap.size w w4) := Below.on' B3.out b4
    clear b4 B3
    go_wp2
    go_ret
    exact ⟨rfl, B4.out⟩
end Go.Proofs.YtkgengiopjjhbaaDoor
