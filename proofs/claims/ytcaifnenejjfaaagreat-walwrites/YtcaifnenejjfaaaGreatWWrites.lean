/- YtcaifnenejjfaaaGreatBLift + YtcaifnenejjfaaaGreatWDds + YtcaifnenejjfaaaGreatWWrites -/
import Derived.Test.YtcaifnenejjfaaaGreatBBase
import Derived.ProofKit
import Derived.OpenShut
import Derived.ChangeOld
import Derived.Deep.DeepHandedRow
import Derived.SizedLaws
import Derived.Test.YtcaifnenejjfaaaGreatWLive
import Derived.Deep.Slices
import Derived.SliceStrings
import Derived.ChangeSlices
import Derived.Test.YtcaifnenejjfaaaGreatWOne
/- What the lifts of the rows of this seat share. -/
namespace Go.Proofs.YtcaifnenejjfaaaGreat
open Go.ChangeShapes Go.WideShapes Go.ChangeAt Go.RowKit

theorem own : ownKnob Tryz.prog.godebug = none := by kernel_rfl
theorem laidOut : laidOutB Tryz.prog = true := by kernel_rfl
end Go.Proofs.YtcaifnenejjfaaaGreat

/- Deeds of layer 3 that lie in the world; what an argument that is a row of them gives to a walk. -/
namespace Go.Proofs.YtcaifnenejjfaaaGreat
open Go.RowKit Go.Maps
set_option linter.unusedVariables false
set_option maxRecDepth 20000

/-- a deed as it was handed in -/
structure Dd where
  ck : Bool
  sh : Bool
  a : Option Addr
  q : List Int
  c : Nat
  y : UInt8
deriving Inhabited
/-- deeds that lie in a row of the world -/
def DdsAt (w : World) (a : Option Addr) (l : List Dd) : Prop := ∀ i (h : i < l.length), ∃ b o, a = some ⟨b, o, none⟩ ∧ w.cell? ⟨b, o + i * 4, none⟩ = some (.bool l[i].ck) ∧ w.cell? ⟨b, o + i * 4 + 1, none⟩ = some (.bool l[i].sh) ∧ w.cell? ⟨b, o + i * 4 + 2, none⟩ = some (.slice l[i].a l[i].q.length l[i].c) ∧ w.cell? ⟨b, o + i * 4 + 3, none⟩ = some (.int .u8 (l[i].y.toNat : Int)) ∧ IntsAt w l[i].a l[i].q
theorem DdsAt.keep {w w' : World} {a : Option Addr} {l : List Dd} (h : DdsAt w a l) (hk : ∀ k, k < w.heap.size → w'.heap[k]? = w.heap[k]?) : DdsAt w' a l := fun i hi => by
  obtain ⟨b, o, e, h0, h1, h2, h3, h4⟩ := h i hi
  have hb := hk b (World.block_lt_of_cell? _ _ h0)
  refine ⟨b, o, e, (World.cell?_of_block (a := ⟨b, _, none⟩) hb).trans h0, (World.cell?_of_block (a := ⟨b, _, none⟩) hb).trans h1, (World.cell?_of_block (a := ⟨b, _, none⟩) hb).trans h2, (World.cell?_of_block (a := ⟨b, _, none⟩) hb).trans h3, fun j hj => ?_⟩
  obtain ⟨b', o', e', hc⟩ := h4 j hj
  exact ⟨b', o', e', (World.cell?_of_block (a := ⟨b', _, none⟩) (hk b' (World.block_lt_of_cell? _ _ hc))).trans hc⟩

theorem byte_of' {n : Int} (h : (Lit.int .u8 n).wf = true) : ∃ b : UInt8, n = (b.toNat : Int) := by
  have hr : 0 ≤ n ∧ n ≤ 255 := by simpa [Lit.wf, IntKind.min, IntKind.max, IntKind.signed, IntKind.bits] using h
  refine ⟨UInt8.ofNat n.toNat, ?_⟩
  rw [UInt8.toNat_ofNat']
  omega
theorem list4 {α : Type} {l : List α} (h : l.length = 4) : ∃ a b c d, l = [a, b, c, d] := by
  match l, h with
  | [a, b, c, d], _ => exact ⟨a, b, c, d, rfl⟩
theorem cellsInt3 : Tryz.prog.cellsOf 3 = 1 := by kernel_rfl
theorem cellsDd : Tryz.prog.cellsOf 32 = 4 := by kernel_rfl
open Go.ChangeShapes Go.WideShapes Go.ChangeAt Go.Deep
/-- a row of numbers that a deed bears -/
theorem open_ints3 {H : Type} {enc : TypeId × Value → H} {W : World} {v : Value} {fuel : Nat} {x : DataW H × List MemPlace}
    (hf : DataW.trod enc Tryz.prog W 0 (fun _ => true) true fuel 30 [v] = some x) : ∃ (a : Option Addr) (l : List Int) (c : Nat), v = .slice a l.length c ∧ IntsAt W a l := by
  rcases open_ints Tryz.underlying30 Tryz.underlying3 cellsInt3 hf with ⟨hcs, _⟩ | ⟨x, l', c', zs, hcs, _, hl, hm, hz, hx, hcell, hwz⟩
  · simp only [List.cons.injEq, and_true] at hcs
    subst hcs
    exact ⟨none, [], 0, rfl, fun i hi => by simp at hi⟩
  · simp only [List.cons.injEq, and_true] at hcs
    subst hcs
    simp only [if_true] at hz
    have hlen : (zs.take l').length = l' := by rw [List.length_take]; omega
    refine ⟨some x, zs.take l', c', by rw [hlen], fun i hi => ?_⟩
    obtain ⟨b, o, spot⟩ := x
    have hc := hcell i (by omega)
    have hspot : spot = none := by simpa [Addr.add] using World.cell?_spot (hcell 0 (by omega))
    subst hspot
    refine ⟨b, o, rfl, ?_⟩
    rw [addr_add] at hc
    rw [hc]
    have hi' : i < zs.length := by omega
    simp only [List.getD, List.getElem?_eq_getElem hi', Option.getD_some, List.getElem_take]

theorem open_dds {H : Type} {enc : TypeId × Value → H} {W : World} {a : Option Addr} {len cap : Nat} {d : DataW H} {p : List MemPlace}
    (h : DataW.Trod enc Tryz.prog W 0 (fun _ => true) true 22 (.slice a len cap) d p) : ∃ l : List Dd, l.length = len ∧ DdsAt W a l := by
  obtain ⟨fuel, hf⟩ := h
  rcases open_slice Tryz.underlying22 hf with ⟨hcs, _⟩ | ⟨x, l', c', m, n, D, Pl, hcs, hb, hl, hm, hmm, _, hx⟩
  · simp [Value.cells] at hcs
    obtain ⟨rfl, rfl, rfl⟩ := hcs
    exact ⟨[], rfl, fun i hi => by simp at hi⟩
  · simp [Value.cells] at hcs
    obtain ⟨rfl, rfl, rfl⟩ := hcs
    simp only [if_true] at hmm
    rw [cellsDd] at hx
    have each : ∀ i, i < len → ∃ q : Dd, ∃ b o, x = ⟨b, o, none⟩ ∧ W.cell? ⟨b, o + i * 4, none⟩ = some (.bool q.ck) ∧ W.cell? ⟨b, o + i * 4 + 1, none⟩ = some (.bool q.sh) ∧ W.cell? ⟨b, o + i * 4 + 2, none⟩ = some (.slice q.a q.q.length q.c) ∧ W.cell? ⟨b, o + i * 4 + 3, none⟩ = some (.int .u8 (q.y.toNat : Int)) ∧ IntsAt W q.a q.q := by
      intro i hi
      obtain ⟨cs', h1, h2⟩ := hx i (by omega)
      obtain ⟨_, hlen, hcell⟩ := World.cells?_some h1
      obtain ⟨xs, k, hk, hxy, _, hxl, hf⟩ := DataW.trod_struct Tryz.underlying32 h2
      obtain ⟨v0, v1, v2, v3, rfl⟩ := list4 hlen
      have g0 := hf 0 _ rfl
      have g1 := hf 1 _ rfl
      have g2 := hf 2 _ rfl
      have g3 := hf 3 _ rfl
      have s0 : Tryz.prog.cellsOf 4 = 1 := by kernel_rfl
      have s1 : Tryz.prog.cellsOf 30 = 1 := by kernel_rfl
      have s2 : Tryz.prog.cellsOf 5 = 1 := by kernel_rfl
      simp [s0, s1, s2] at g0 g1 g2 g3
      have q0 : ∃ y, DataW.trod enc Tryz.prog W 0 (fun _ => true) true k 4 [v0] = some y := ⟨_, g0.trans (List.getElem?_eq_getElem (by rw [hxl]; decide))⟩
      have q1 : ∃ y, DataW.trod enc Tryz.prog W 0 (fun _ => true) true k 4 [v1] = some y := ⟨_, g1.trans (List.getElem?_eq_getElem (by rw [hxl]; decide))⟩
      have q2 : ∃ y, DataW.trod enc Tryz.prog W 0 (fun _ => true) true k 30 [v2] = some y := ⟨_, g2.trans (List.getElem?_eq_getElem (by rw [hxl]; decide))⟩
      have q3 : ∃ y, DataW.trod enc Tryz.prog W 0 (fun _ => true) true k 5 [v3] = some y := ⟨_, g3.trans (List.getElem?_eq_getElem (by rw [hxl]; decide))⟩
      obtain ⟨y0, q0⟩ := q0
      obtain ⟨y1, q1⟩ := q1
      obtain ⟨y2, q2⟩ := q2
      obtain ⟨y3, q3⟩ := q3
      obtain ⟨ck, e0, _⟩ := DataW.trod_bool Tryz.underlying4 q0
      obtain ⟨sh, e1, _⟩ := DataW.trod_bool Tryz.underlying4 q1
      obtain ⟨qa, qq, qc, e2, hq⟩ := open_ints3 q2
      obtain ⟨b, e3, _, hb⟩ := DataW.trod_int Tryz.underlying5 q3
      obtain ⟨b', rfl⟩ := byte_of' hb
      simp only [List.cons.injEq, and_true] at e0 e1 e3
      subst e0 e1 e2 e3
      have c0 := hcell 0 (by omega)
      have c1 := hcell 1 (by omega)
      have c2 := hcell 2 (by omega)
      have c3 := hcell 3 (by omega)
      rw [Deep.add_add] at c0 c1 c2 c3
      obtain ⟨bb, o, spot⟩ := x
      have hspot : spot = none := by
        obtain ⟨cs0, z1, _⟩ := hx 0 (by omega)
        obtain ⟨_, zl, zc⟩ := World.cells?_some z1
        have := (zc 0 (by omega)).trans (List.getElem?_eq_getElem (by omega))
        simpa [Addr.add] using World.cell?_spot this
      subst hspot
      rw [addr_add] at c0 c1 c2 c3
      exact ⟨⟨ck, sh, qa, qq, qc, b'⟩, bb, o, rfl, by simpa using c0, by simpa [Nat.add_assoc] using c1, by simpa [Nat.add_assoc] using c2, by simpa [Nat.add_assoc] using c3, hq⟩
    obtain ⟨q, hq⟩ := choose_lt each
    refine ⟨(List.range len).map q, by simp, fun i hi => ?_⟩
    have hi' : i < len := by simpa using hi
    obtain ⟨b, o, e, h0, h1, h2, h3, h4⟩ := hq i hi'
    refine ⟨b, o, by rw [e], ?_, ?_, ?_, ?_, ?_⟩
    · simpa using h0
    · simpa using h1
    · simpa using h2
    · simpa using h3
    · simpa using h4
end Go.Proofs.YtcaifnenejjfaaaGreat

/- WalWrites's walk. -/
namespace Go.Proofs.YtcaifnenejjfaaaGreat
open Go.RowKit Go.Maps
set_option linter.unusedVariables false
set_option maxRecDepth 20000

/-- between two rounds -/
def WRel (w : World) (S la k : Nat) (wr : World) : Prop := ∃ G gs ls, LogAt wr w.heap.size S 9 k la G gs ls ∧ Below w.heap.size w wr
theorem cp_len {w : World} {B S P k l G : Nat} {gs : List (List Nat)} {ls : List (Nat × List UInt8)} (h : LogAt w B S P k l G gs ls) : ((touchedOf P gs).length = 0 ∧ (ls ++ cpWs S P G gs ls).length = ls.length) ∨ (0 < (touchedOf P gs).length ∧ (ls ++ cpWs S P G gs ls).length = ls.length + (touchedOf P gs).length + 1) := by
  obtain ⟨d, g, c, m, n, v, h⟩ := h
  unfold cpWs
  by_cases hu : usedOf gs = 0
  · left
    have := gs_nil hu
    subst this
    rw [if_pos hu, List.append_nil]
    exact ⟨by unfold touchedOf; simp [plOf_nil], rfl⟩
  · right
    refine ⟨touched_pos h.inv (by omega), ?_⟩
    rw [if_neg hu, List.length_append, checkWs_length]
    omega

set_option maxHeartbeats 1600000 in
theorem walWrites_walk (z : Nat) (hz : z < 256) (a : Option Addr) (l : List Dd) (c : Nat) (w : World) (hl : DdsAt w a l) :
    Calls Tryz.prog 7 #[.int .u8 (z : Int), .slice a l.length c] w fun e w' => e = .returned (.bool true) ∧ Below w.heap.size w w' := by
  have Hl := hid hl
  clear hl
  go_enter Tryz.func7, Tryz.ntmps7
  go_wp2_with (fail)
  generalize hn : (z : Int) % 20 + 2 = n
  obtain ⟨S, rfl, hS2, hS3⟩ : ∃ S : Nat, n = (S : Int) ∧ 2 ≤ S ∧ S ≤ 21 := ⟨n.toNat, by omega, by omega, by omega⟩
  clear hn
  have Ho : Calls Tryz.prog 10 #[.int .i64 ((S : Int) + 10), .int .i64 (S : Int)] w (OpenPost S 9 w) := by
    have h := lawOpen_new w S 9 hS2 (by omega) (by omega)
    rw [show ((S + 1 + 9 : Nat) : Int) = (S : Int) + 10 by omega] at h
    exact h
  have f4 : IntKind.i64.wrap ((S : Int) + 10) = (S : Int) + 10 := by rw [IntKind.wrap_i64]; omega
  refine Ho.mono ?_
  rintro e w1 ⟨la, da, ga, ca, ma, ra, rfl, hMa, hb1⟩
  have HT1 : Hid (LogAt w1 w.heap.size S 9 0 la 0 [] []) := ⟨da, ga, ca, ma, 0, _, hMa, inv_new (S + 1 + 9) S 9 rfl hS2 (by omega) (by omega), Nat.le_refl _, Nat.le_refl _, Nat.le_refl _⟩
  have Hb1 := hid hb1
  clear hMa hb1 Ho
  go_wp2_with (fail)
  refine (walLive_any w1).mono ?_
  rintro e w3 ⟨rfl, hb3⟩
  have HR3 : Hid (WRel w S la 0 w3) := ⟨0, [], [], HT1.out.below hb3, Hb1.out.trans (hb3.mono Hb1.out.size)⟩
  clear hb3 HT1 Hb1
  go_wp2
  go_loopw [9] (fun i wr => ∃ k : Nat, k ≤ l.length ∧ k ≤ 20 ∧ i = .int .i64 k ∧ WRel w S la k wr) (fun i _ => 20 - (intOf i).toNat)
  case atStart => exact ⟨0, Nat.zero_le _, Nat.zero_le _, rfl, HR3.out⟩
  case round =>
    obtain ⟨k, hk, hk2, rfl, G, gs, ls, hT, hB⟩ := hrel
    have HT := hid hT
    have HB := hid hB
    clear hT hB HR3
    by_cases hend : k < l.length ∧ k < 20
    · obtain ⟨hkl, hk20⟩ := hend
      have d1 : (k : Int) < (l.length : Int) := by omega
      have d2 : (k : Int) < 20 := by omega
      obtain ⟨V, rfl⟩ : ∃ V, V = wr := ⟨_, rfl⟩
      -- BEGIN
      obtain ⟨L1, hL1⟩ : ∃ L1, ls.length = L1 := ⟨_, rfl⟩
      have HL1 := hid hL1
      have hL1b : L1 ≤ 5000 := by
        obtain ⟨_, _, _, _, _, _, h⟩ := HT.out
        have := h.lsl
        omega
      clear hL1
      go_wp2_with (fail)
      refine (one_disk HT.out (by omega)).mono ?_
      rintro e u1 ⟨dd1, dg1, dc1, dv1, rfl, hD, hb⟩
      have HT1 := hid (HT.out.below hb)
      have HB1 := hid (HB.out.trans (hb.mono HB.out.size))
      have Hc1 := hid (count_any hD)
      rw [chOf_length, HL1.out] at Hc1
      clear hD hb HT HB
      go_wp2_with (fail)
      refine Hc1.out.mono ?_
      rintro e u ⟨rfl, rfl⟩
      clear Hc1
      obtain ⟨T, hTT⟩ : ∃ T, (touchedOf 9 gs).length = T := ⟨_, rfl⟩
      have HTT := hid hTT
      have hT9 : T ≤ 9 := by rw [← hTT]; exact touched_len 9 gs
      have Hto := hid (one_touched HT1.out (by omega))
      rw [hTT] at Hto
      clear hTT
      go_wp2_with (fail)
      refine Hto.out.mono ?_
      rintro e u2 ⟨vt, rfl, hrow, hb⟩
      obtain ⟨ta, tc, rfl⟩ : ∃ ta tc, vt = .slice ta T tc := by
        rcases hrow.2 with ⟨h1, h2⟩ | ⟨g, cap, _, h1, _⟩
        · exact ⟨none, 0, by rw [h1, h2]⟩
        · exact ⟨_, _, h1⟩
      have HT2 := hid (HT1.out.below hb)
      have HB2 := hid (HB1.out.trans (hb.mono HB1.out.size))
      clear hrow hb HT1 HB1 Hto
      have hDd := Hl.out.keep (w' := u2) (fun j hj => HB2.out.block j hj)
      obtain ⟨b, o, ha, c0, c1, c2, c3, hq⟩ := hDd k hkl
      subst ha
      have Hq := hid hq
      clear hDd hq
      generalize l[k] = x at *
      obtain ⟨ck, sh, qa, q, qc, y⟩ := x
      simp only at c0 c1 c2 c3 Hq
      have hsB := HB2.out.size
      cases ck with
      | true =>
        have Hcp := hid (one_check HT2.out (by omega) (by omega) hsB)
        have hcl := cp_len HT2.out
        rw [HTT.out, HL1.out] at hcl
        generalize ls ++ cpWs S 9 G gs ls = ls2 at *
        have HB2' := HB2
        rcases hcl with ⟨t0, hl2⟩ | ⟨t0, hl2⟩
        · have HL2 := hid hl2
          have f1 : IntKind.i64.wrap ((L1 : Int) - (L1 : Int)) = 0 := by rw [IntKind.wrap_i64]; omega
          have f2 : ((0 : Int) != (T : Int)) = false := by rw [t0]; rfl
          have f3 : ¬ (0 : Int) < (T : Int) := by omega
          clear hl2
          go_wp2_with (fail)
          refine Hcp.out.mono ?_
          rintro e u3 ⟨rfl, hT, hb⟩
          have HT3 := hid hT
          have HB3 := hid (HB2.out.trans hb)
          clear hT hb HT2 HB2 Hcp HB2'
          go_wp2_with (fail)
          refine (one_disk HT3.out (by omega)).mono ?_
          rintro e u4 ⟨dd4, dg4, dc4, dv4, rfl, hD, hb⟩
          have HT4 := hid (HT3.out.below hb)
          have HB4 := hid (HB3.out.trans (hb.mono HB3.out.size))
          have Hc4 := hid (count_any hD)
          rw [chOf_length, HL2.out] at Hc4
          clear hD hb HT3 HB3
          go_wp2_with (fail)
          refine Hc4.out.mono ?_
          rintro e u ⟨rfl, rfl⟩
          clear Hc4
          go_wp2
          go_roundw
          case rel => exact ⟨k + 1, by omega, by omega, by go_num, G, [], ls2, HT4.out, HB4.out⟩
          case measure => simp [intOf]; omega
        · obtain ⟨L2, hL2⟩ : ∃ L2, ls2.length = L2 := ⟨_, rfl⟩
          have HL2 := hid hL2
          have f1 : IntKind.i64.wrap ((L2 : Int) - (L1 : Int)) = (T : Int) + 1 := by rw [IntKind.wrap_i64]; omega
          have f2 : ((T : Int) + 1 != (T : Int)) = true := by rw [bne_iff_ne]; omega
          have f3 : (0 : Int) < (T : Int) := by omega
          have f5 : ((T : Int) == 0) = false := by rw [beq_eq_false_iff_ne]; omega
          have f6 : IntKind.i64.wrap ((T : Int) + 1) = (T : Int) + 1 := by rw [IntKind.wrap_i64]; omega
          clear hl2 hL2
          go_wp2_with (fail)
          refine Hcp.out.mono ?_
          rintro e u3 ⟨rfl, hT, hb⟩
          have HT3 := hid hT
          have HB3 := hid (HB2.out.trans hb)
          clear hT hb HT2 HB2 Hcp HB2'
          go_wp2_with (fail)
          refine (one_disk HT3.out (by omega)).mono ?_
          rintro e u4 ⟨dd4, dg4, dc4, dv4, rfl, hD, hb⟩
          have HT4 := hid (HT3.out.below hb)
          have HB4 := hid (HB3.out.trans (hb.mono HB3.out.size))
          have Hc4 := hid (count_any hD)
          rw [chOf_length, HL2.out] at Hc4
          clear hD hb HT3 HB3
          go_wp2_with (fail)
          refine Hc4.out.mono ?_
          rintro e u ⟨rfl, rfl⟩
          clear Hc4
          go_wp2_with (fail)
          refine (one_disk HT4.out (by omega)).mono ?_
          rintro e u5 ⟨dd5, dg5, dc5, dv5, rfl, hD, hb⟩
          have HT5 := hid (HT4.out.below hb)
          have HB5 := hid (HB4.out.trans (hb.mono HB4.out.size))
          have Hc5 := hid (count_any hD)
          rw [chOf_length, HL2.out] at Hc5
          clear hD hb HT4 HB4
          go_wp2_with (fail)
          refine Hc5.out.mono ?_
          rintro e u ⟨rfl, rfl⟩
          clear Hc5
          go_wp2
          go_roundw
          case rel => exact ⟨k + 1, by omega, by omega, by go_num, G, [], ls2, HT5.out, HB5.out⟩
          case measure => simp [intOf]; omega
      | false =>
        go_wp2_with (fail)
        refine (pages_deed false sh qa q qc y u2 Hq.out).mono ?_
        rintro e u3 ⟨vp, lp, rfl, hlen, hdp, hrow, hap, hb3⟩
        obtain ⟨va, vc, rfl, hpg⟩ : ∃ va vc, vp = .slice va lp.length vc ∧ (0 < lp.length → ∃ b, va = some ⟨b, 0, none⟩ ∧ PgsAt u3 b 0 lp) := by
          rcases (show lp.length = 0 ∨ 0 < lp.length by omega) with h0 | h0
          · rcases hrow.2 with ⟨h1, h2⟩ | ⟨g, cap, _, h1, _⟩
            · exact ⟨none, 0, by rw [h1, h2], fun h => by omega⟩
            · exact ⟨_, _, h1, fun h => by omega⟩
          · obtain ⟨gp, cp, rfl, _, _⟩ := hrow.form h0
            exact ⟨_, _, rfl, fun _ => ⟨gp, rfl, pgs_of_row hrow⟩⟩
        have HT3 := hid (HT2.out.below hb3)
        have HB3 := hid (HB2.out.trans (hb3.mono HB2.out.size))
        have Hcm : Hid (Calls Tryz.prog 46 #[.pointer (some ⟨la, 0, none⟩), .slice va lp.length vc] u3 (OnePost u3 w.heap.size S 9 k la G gs ls u2.heap.size lp)) := one_commit (HT2.out.low hb3) (by omega) HB3.out.size hdp va vc hpg
        have hl102 : lp.length ≤ 102 := by omega
        clear hrow hap hpg hdp hb3 HT2 HB2 HT3 c0 c1 c2 c3 Hq hlen
        go_wp2_with (fail)
        refine Hcm.out.mono ?_
        rintro e u4 ⟨_, hb4, (⟨cc, rfl, hcc, hT⟩ | ⟨rfl, h0, hT⟩ | ⟨rfl, h0, h1, _, _, _, s, hs, _, hT⟩)⟩
        · have HT4 := hid hT
          have HB4 := hid (HB3.out.trans hb4)
          have f1 : (cc != 0) = true := by rw [bne_iff_ne]; rcases hcc with ⟨h, _⟩ | ⟨_, _, (⟨h, _⟩ | ⟨h, _⟩ | ⟨h, _⟩)⟩ <;> omega
          have f2 : (cc == 0) = false := by rw [beq_eq_false_iff_ne]; rw [bne_iff_ne] at f1; exact f1
          have f3 : ((L1 : Int) != (L1 : Int)) = false := by simp
          clear hcc hT hb4 Hcm
          go_wp2_with (fail)
          refine (one_disk HT4.out (by omega)).mono ?_
          rintro e u5 ⟨dd5, dg5, dc5, dv5, rfl, hD, hb⟩
          have HT5 := hid (HT4.out.below hb)
          have HB5 := hid (HB4.out.trans (hb.mono HB4.out.size))
          have Hc5 := hid (count_any hD)
          rw [chOf_length, HL1.out] at Hc5
          clear hD hb HT4 HB4
          go_wp2_with (fail)
          refine Hc5.out.mono ?_
          rintro e u ⟨rfl, rfl⟩
          clear Hc5
          go_wp2
          go_roundw
          case rel => exact ⟨k + 1, by omega, by omega, by go_num, G, gs, ls, HT5.out, HB5.out⟩
          case measure => simp [intOf]; omega
        · have HT4 := hid hT
          have HB4 := hid (HB3.out.trans hb4)
          have f1 : ¬ (0 : Int) < (lp.length : Int) := by omega
          clear hT hb4 Hcm
          go_wp2
          go_roundw
          case rel => exact ⟨k + 1, by omega, by omega, by go_num, G, gs, ls, HT4.out, HB4.out⟩
          case measure => simp [intOf]; omega
        · have HT4 := hid hT
          have HB4 := hid (HB3.out.trans hb4)
          generalize hls2 : ls ++ commitWs (usedOf gs) G (numsP s) (s.map (bytesAt u3)) = ls2 at *
          obtain ⟨L2, hL2⟩ : ∃ L2, ls2.length = L2 := ⟨_, rfl⟩
          have HL2 := hid hL2
          have hl2 : L2 = L1 + lp.length + 2 := by
            have h := HL1.out
            rw [← hL2, ← hls2, List.length_append, commitWs_length, List.length_map, hs.length_eq]
            omega
          have f1 : (0 : Int) < (lp.length : Int) := by omega
          have f2 : IntKind.i64.wrap ((L1 : Int) + (lp.length : Int)) = (L1 : Int) + (lp.length : Int) := by rw [IntKind.wrap_i64]; omega
          have f3 : IntKind.i64.wrap ((L1 : Int) + (lp.length : Int) + 2) = (L2 : Int) := by rw [IntKind.wrap_i64]; omega
          have f4 : ((L2 : Int) != (L2 : Int)) = false := by simp
          clear hT hb4 Hcm hl2 hL2 hls2 hs
          go_wp2_with (fail)
          refine (one_disk HT4.out (by omega)).mono ?_
          rintro e u5 ⟨dd5, dg5, dc5, dv5, rfl, hD, hb⟩
          have HT5 := hid (HT4.out.below hb)
          have HB5 := hid (HB4.out.trans (hb.mono HB4.out.size))
          have Hc5 := hid (count_any hD)
          rw [chOf_length, HL2.out] at Hc5
          clear hD hb HT4 HB4
          go_wp2_with (fail)
          refine Hc5.out.mono ?_
          rintro e u ⟨rfl, rfl⟩
          clear Hc5
          go_wp2
          go_roundw
          case rel => exact ⟨k + 1, by omega, by omega, by go_num, G + 1, gs ++ [numsP s], ls2, HT5.out, HB5.out⟩
          case measure => simp [intOf]; omega
    · clear Hl
      rcases (show (¬ (k : Int) < (l.length : Int)) ∨ ((k : Int) < (l.length : Int) ∧ ¬ (k : Int) < 20) by omega) with g1 | ⟨g1, g2⟩
      · clear hend
        go_wp2
        go_ret
        exact ⟨ret_bool (by simp), HB.out⟩
      · clear hend
        go_wp2
        go_ret
        exact ⟨ret_bool (by simp), HB.out⟩
end Go.Proofs.YtcaifnenejjfaaaGreat
