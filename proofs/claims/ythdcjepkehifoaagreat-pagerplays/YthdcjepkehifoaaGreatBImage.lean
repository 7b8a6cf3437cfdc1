/- Image of package block, by a contract: a row of rows of bytes of one's own. -/
import Derived.Test.YthdcjepkehifoaaGreatBReplay
namespace Go.Proofs.YthdcjepkehifoaaGreat
open Go.RowKit
set_option linter.unusedVariables false
set_option maxRecDepth 20000

/-- rows of bytes in a row -/
structure ImgAt (w : World) (B : Nat) (V : Value) (vs : List Value) (ps : List (List UInt8)) : Prop where
  row : w.ownsRow B 36 1 V ps.length vs
  vlen : vs.length = ps.length
  rows : ∀ i (h : i < ps.length) (h' : i < vs.length), w.ownsRow B 5 1 vs[i] (ps[i]).length (cellsOf ps[i])
theorem ImgAt.below {w w' : World} {B : Nat} {V : Value} {vs : List Value} {ps : List (List UInt8)} (h : ImgAt w B V vs ps) (hb : Below w.heap.size w w') : ImgAt w' B V vs ps :=
  ⟨own_below h.row hb, h.vlen, fun i hi hi' => own_below (h.rows i hi hi') hb⟩
/-- the cell of a row in it, and its bytes -/
theorem ImgAt.cell {w : World} {B : Nat} {V : Value} {vs : List Value} {ps : List (List UInt8)} (h : ImgAt w B V vs ps) {b c : Nat} (hV : V = .slice (some ⟨b, 0, none⟩) ps.length c) (i : Nat) (hi : i < ps.length) : ∃ a cc, w.cell? ⟨b, i, none⟩ = some (.slice a (ps[i]).length cc) ∧ Bytes w a ps[i] ∧ (ps[i]).length ≤ cc := by
  have hi' : i < vs.length := by rw [h.vlen]; exact hi
  obtain ⟨a, cc, hv, hB, hc⟩ := bytes_of_own (h.rows i hi hi')
  refine ⟨a, cc, ?_, hB, hc⟩
  have hrow := h.row
  subst hV
  rw [hrow.cellAt i (by omega), List.getElem?_eq_getElem hi', hv]

theorem made_nils (n : Nat) : (madeCells (Value.slice none 0 0).cells (n * 1)).toList = List.replicate n (.slice none 0 0) := by
  have : (Value.slice none 0 0).cells = #[.slice none 0 0] := rfl
  rw [this, toList_madeCells_one, Nat.mul_one]

set_option maxHeartbeats 1600000 in
set_option maxRecDepth 20000 in
theorem image_ap {w : World} {B d g cap : Nat} {v : Value} {ps : List (List UInt8)} {ch : List (Nat × List UInt8)} (h : DiskAt w B d g cap v ps ch) (h1 : 1 ≤ ps.length) (h2 : ps.length ≤ 1024) :
    Calls Tryz.prog 36 #[.pointer (some ⟨d, 0, none⟩)] w fun e w' => ∃ b vs, e = .returned (.slice (some ⟨b, 0, none⟩) ps.length ps.length) ∧ ImgAt w' w.heap.size (.slice (some ⟨b, 0, none⟩) ps.length ps.length) vs ps ∧ Below w.heap.size w w' ∧ ∀ u ∈ vs, u.ownBlock ≠ some b := by
  obtain ⟨i0, hi0, hz0, hz1, hz2⟩ := info_parts Tryz.info36
  have H := hid h
  have c0 := h.c0
  clear h
  go_enter Tryz.func36, Tryz.ntmps36
  go_wp2_with (at_make; refine wpList_make_full _ rfl _ _ 46 rfl w.heap.size 36 i0 _ 1 Tryz.underlying46 hi0 hz0 hz1 .i64 .i64 _ _ ps.length rfl rfl (by omega) (by omega) (by rw [hz2]; omega) (by unfold maxLen; omega) (Nat.le_refl _) ?_; intro w0 hown0 hgrow0; have c0' := (hgrow0.cell_far ⟨d, 0, none⟩ H.out.lts.1 (by simp)).trans c0)
  have hown1 := hown0
  rw [made_nils] at hown1
  have Hown := hid hown1
  have Hgrow := hid hgrow0
  have hlt0 := (hown0.lt w.heap.size rfl).2
  clear hown0 hown1 hgrow0
  go_loopw [18] (fun i wr => ∃ (k : Nat) (vs : List Value), k ≤ ps.length ∧ i = .int .i64 (k : Int) ∧ vs.length = k ∧ wr.ownsRow w.heap.size 36 1 (.slice (some ⟨w.heap.size, 0, none⟩) ps.length ps.length) ps.length (vs ++ List.replicate (ps.length - k) (.slice none 0 0)) ∧
      (∀ i (h : i < ps.length) (h' : i < vs.length), wr.ownsRow w.heap.size 5 1 vs[i] (ps[i]).length (cellsOf ps[i])) ∧ (∀ u ∈ vs, u.ownBlock ≠ some w.heap.size) ∧ Below w.heap.size w wr) (fun i _ => ps.length - (intOf i).toNat)
  case atStart => exact ⟨0, [], by omega, rfl, rfl, by simpa using Hown.out, (fun i h h' => by simp at h'), (fun u hu => by cases hu), (Below.refl _ w).grown Hgrow.out (Nat.le_refl _) (by simp)⟩
  case round =>
    obtain ⟨k, vs, hk, rfl, hvl, hrow, hrows, hap, hB⟩ := hrel
    have Hvl := hid hvl
    have Hrow := hid hrow
    have Hrows := hid hrows
    have Hap := hid hap
    have HB := hid hB
    clear hvl hrow hrows hap hB c0'
    by_cases hlt : k < ps.length
    · have hD := H.out.below HB.out
      have c1 := hD.c0
      have h256 : (ps[k]).length = 256 := hD.full _ (List.getElem_mem _)
      have Hc := hid (clone_any (ps[k]) g (k * 256) 256 wr (hD.page k hlt) (by omega))
      rw [h256] at Hc
      have H256 := hid h256
      have f0 : (0 : Int) ≤ (k : Int) := by omega
      have f1 : (k : Int) < (ps.length : Int) := by omega
      have hszr := (Hrow.out.lt w.heap.size rfl).2
      clear hD h256
      go_wp2_with (fail)
      refine Hc.out.mono ?_
      rintro e w4 ⟨u0, rfl, hu, hb4, hne⟩
      obtain ⟨bu, cu, rfl, _, _⟩ := hu.form (by omega)
      obtain ⟨u, hue⟩ : ∃ u, u = Value.slice (some ⟨bu, 0, none⟩) 256 cu := ⟨_, rfl⟩
      have Hue := hid hue
      have hrow4 := own_below Hrow.out hb4
      have k1 := hrow4.cellAt k (by omega)
      rw [List.getElem?_append_right (by rw [Hvl.out]; omega), Hvl.out, Nat.sub_self, List.getElem?_replicate, if_pos (by omega)] at k1
      have k2 := hrow4.frozenAt k
      have Hs := hid (hrow4.stored k (.slice (some ⟨bu, 0, none⟩) 256 cu))
      have Hu := hid hu
      rw [← hue] at Hu Hs
      have Hb4 := hid hb4
      clear hrow4 hu hb4 hne Hc hue
      go_wp2
      go_roundw
      case rel =>
        rw [← Hue.out]
        refine ⟨k + 1, vs ++ [u], by omega, by go_num, by rw [List.length_append, Hvl.out]; rfl, ?_, ?_, ?_, ?_⟩
        · have e : (vs ++ List.replicate (ps.length - k) (Value.slice none 0 0)).set k u = vs ++ [u] ++ List.replicate (ps.length - (k + 1)) (.slice none 0 0) := by
            rw [List.set_append_right _ _ (by rw [Hvl.out]; omega), Hvl.out, Nat.sub_self, show ps.length - k = (ps.length - (k + 1)) + 1 by omega, List.replicate_succ, List.set_cons_zero, List.append_assoc]
            rfl
          rw [← e]
          exact Hs.out.1
        · intro i hi hi'
          have hfar : ∀ (u' : Value) (n : Nat) (xs : List Value), w4.ownsRow w.heap.size 5 1 u' n xs → u'.ownBlock ≠ some w.heap.size → (w4.setCell ⟨w.heap.size, k, none⟩ u).ownsRow w.heap.size 5 1 u' n xs := fun u' n xs ho hn => own_keep ho fun q e => heap_setCell_other _ _ _ _ (fun e' => hn (by rw [e]; exact congrArg some e'))
          by_cases hil : i < vs.length
          · rw [List.getElem_append_left hil]
            have hr := own_below (Hrows.out i hi hil) Hb4.out
            simpa using hfar _ _ _ hr (Hap.out _ (List.getElem_mem hil))
          · have hik : i = k := by simp at hi'; have := Hvl.out; omega
            subst hik
            rw [List.getElem_append_right (by omega)]
            simp only [List.getElem_singleton]
            rw [H256.out]
            simpa using hfar _ _ _ (Hu.out.mono HB.out.size) (fun e => by have := (Hu.out.lt _ e).1; omega)
        · intro u' hu'
          rcases List.mem_append.1 hu' with h | h
          · exact Hap.out u' h
          · rw [List.mem_singleton.1 h]
            intro e
            have := (Hu.out.lt _ e).1
            omega
        · exact (HB.out.trans (Hb4.out.mono HB.out.size)).setCell (Nat.le_refl _) _
      case measure => simp [intOf]; omega
    · have hkn : k = ps.length := by omega
      subst hkn
      have f1 : ¬ (ps.length : Int) < (ps.length : Int) := by omega
      go_wp2
      go_ret
      have hrow := Hrow.out
      rw [Nat.sub_self, List.replicate_zero, List.append_nil] at hrow
      first | exact ⟨_, rfl, vs, ⟨hrow, Hvl.out, Hrows.out⟩, HB.out, Hap.out⟩ | exact ⟨_, vs, rfl, ⟨hrow, Hvl.out, Hrows.out⟩, HB.out, Hap.out⟩

theorem image_ok {w : World} {B d g cap : Nat} {v : Value} {ps : List (List UInt8)} {ch : List (Nat × List UInt8)} (h : DiskAt w B d g cap v ps ch) (h1 : 1 ≤ ps.length) (h2 : ps.length ≤ 1024) :
    Calls Tryz.prog 36 #[.pointer (some ⟨d, 0, none⟩)] w fun e w' => ∃ b vs, e = .returned (.slice (some ⟨b, 0, none⟩) ps.length ps.length) ∧ ImgAt w' w.heap.size (.slice (some ⟨b, 0, none⟩) ps.length ps.length) vs ps ∧ Below w.heap.size w w' :=
  (image_ap h h1 h2).mono fun e w' ⟨b, vs, h1, h2, h3, _⟩ => ⟨b, vs, h1, h2, h3⟩
end Go.Proofs.YthdcjepkehifoaaGreat
