/- Key of the reference, by a contract: the same bytes, and errors, as codec.Key's. -/
import Derived.Test.YtdglmoikgmlaaaaGreatDoorHKey
import Derived.Test.YtdglmoikgmlaaaaGreatDoorHRefTag
namespace Go.Proofs.YtdglmoikgmlaaaaGreatDoor
open Go.RowKit
set_option linter.unusedVariables false

theorem keyTo_bound (l : List ByteArray) (k : Nat) (hk : k ≤ l.length) (hs : ∀ s ∈ l.take k, s.size ≤ 64) : (keyOf (bs (l.take k))).length ≤ k * 130 := by
  induction k with
  | zero => simp [bs, keyOf]
  | succ k ih =>
    have hm : l.take (k + 1) = l.take k ++ [l[k]] := List.take_succ_eq_append_getElem (by omega)
    have h1 := ih (by omega) (fun s h => hs s (by rw [hm]; exact List.mem_append_left _ h))
    have h2 : l[k].size ≤ 64 := hs _ (by rw [hm]; exact List.mem_append_right _ List.mem_cons_self)
    have h3 : cnt0 l[k] ≤ l[k].size := by unfold cnt0; rw [Lib.size_eq]; exact List.count_le_length
    rw [key_snoc l k (by omega)]
    omega

set_option maxHeartbeats 1600000 in
set_option maxRecDepth 20000 in
theorem refKey_any (l : List ByteArray) (a : Option Addr) (cap : Nat) (w : World) (hT : Texts w a l) (hsz : ∀ s ∈ l, s.size ≤ 140737488351232) (hlen : l.length ≤ 140737488351232) :
    Calls Tryz.prog 71 #[.slice a l.length cap] w fun e w' => ∃ a' cap', e = .returned (.tuple #[.slice a' (keyRes l).length cap', .int .i64 (keyErr l : Int)]) ∧ Bytes w' a' (keyRes l) ∧ Below w.heap.size w w' ∧ (keyRes l).length ≤ cap' ∧ (a' = none → cap' = 0) := by
  by_cases h8 : l.length < 1 ∨ 8 < l.length
  · have e1 : keyErr l = 2 := by unfold keyErr; rw [if_pos h8]
    have e2 : keyRes l = [] := by unfold keyRes; rw [e1, if_neg (by omega)]
    rw [e1, e2]
    rcases (show l.length < 1 ∨ (1 ≤ l.length ∧ 8 < l.length) by omega) with h | ⟨h, h'⟩
    · have h0 : l.length = 0 := by omega
      rw [h0]
      clear h8 h h0
      go_enter Tryz.func71, Tryz.ntmps71
      go_wp2
      go_ret2
      exact ⟨none, 0, rfl, fun i hi => by simp at hi, Below.refl _ _, Nat.le_refl _, fun _ => rfl⟩
    · have g1 : ¬ l.length < 1 := by omega
      clear h8
      go_enter Tryz.func71, Tryz.ntmps71
      go_wp2
      go_ret2
      exact ⟨none, 0, rfl, fun i hi => by simp at hi, Below.refl _ _, Nat.le_refl _, fun _ => rfl⟩
  · have HT := hid hT
    have Hsz := hid hsz
    have h1 : 1 ≤ l.length := by omega
    have h2 : l.length ≤ 8 := by omega
    have g1 : ¬ l.length < 1 := by omega
    have g2 : ¬ 8 < l.length := by omega
    have H8 := hid h8
    clear hT hsz h8
    generalize he : keyErr l = er
    generalize hr : keyRes l = rr
    have He := hid he
    have Hr := hid hr
    clear he hr
    go_enter Tryz.func71, Tryz.ntmps71
    go_wp2
    go_loopw [5, 4] (fun i v wr => ∃ k : Nat, k ≤ l.length ∧ i = .int .i64 (k : Int) ∧ wr.ownsRow w.heap.size 5 1 v (keyOf (bs (l.take k))).length (cellsOf (keyOf (bs (l.take k)))) ∧ Below w.heap.size w wr ∧ ∀ s ∈ l.take k, s.size ≤ 64) (fun i _ _ => l.length - (intOf i).toNat)
    case atStart => exact ⟨0, by omega, rfl, World.ownsRow_nil _ _ _ _, Below.refl _ _, (fun s h => by simp at h)⟩
    case round =>
      obtain ⟨k, hk, rfl, hown, hbel, hsm⟩ := hrel
      have hbd := keyTo_bound l k hk hsm
      have Hown := hid hown
      have Hbel := hid hbel
      have Hsm := hid hsm
      have hszr := hbel.size
      clear hown hbel hsm
      by_cases hlt : k < l.length
      · obtain ⟨b, o, ha, hc⟩ := (HT.out.below Hbel.out) k hlt
        have Hstep := hid (key_step l k hlt)
        have Hmem : Hid (l[k]'hlt ∈ l) := List.getElem_mem _
        have Htk : Hid (l.take (k + 1) = l.take k ++ [l[k]'hlt]) := List.take_succ_eq_append_getElem hlt
        have Hle := hid (key_le l k hlt)
        generalize (l[k]'hlt) = s at *
        subst ha
        have hs47 := Hsz.out s Hmem.out
        have f0 : (0 : Int) ≤ (k : Int) := by omega
        have f1 : (k : Int) < (l.length : Int) := by omega
        by_cases h64 : 64 < s.size
        · have e1 : er = 6 := by
            rw [← He.out]
            unfold keyErr
            rw [if_neg H8.out, if_pos (by have := Hle.out; omega)]
          have e2 : rr = [] := by rw [← Hr.out]; unfold keyRes; rw [He.out, e1, if_neg (by omega)]
          subst e1
          subst e2
          go_wp2
          go_ret2
          exact ⟨none, 0, rfl, fun i hi => by simp at hi, Hbel.out, Nat.le_refl _, fun _ => rfl⟩
        · obtain ⟨K, hK⟩ : ∃ K, K = keyOf (bs (l.take k)) := ⟨_, rfl⟩
          rw [← hK] at Hown Hstep hbd
          clear hK Hle
          have g3 : (s.size : Int) ≤ 64 := by omega
          have HcT : Hid (∀ wq, Below w.heap.size w wq → wq.cell? ⟨b, o + k, none⟩ = some (.string s)) := fun wq hq => by
            obtain ⟨b', o', e', hc'⟩ := (HT.out.below hq) k hlt
            cases e'
            have hcc := hc'
            have : l[k] = s := by
              have h5 := (HT.out) k hlt
              obtain ⟨b6, o6, e6, hc6⟩ := h5
              cases e6
              have h7 := (Hbel.out.cell (World.block_lt_of_cell? _ _ hc6)).trans hc6
              rw [hc] at h7
              exact (Value.string.inj (Option.some.inj h7)).symm
            rw [this] at hcc
            exact hcc
          go_wp2
          go_loopw [6, 4] (fun i v wq => ∃ t : Nat, t ≤ s.size ∧ i = .int .i64 (t : Int) ∧ wq.ownsRow w.heap.size 5 1 v (K ++ esc (s.data.toList.take t)).length (cellsOf (K ++ esc (s.data.toList.take t))) ∧ Below w.heap.size w wq) (fun i _ _ => s.size - (intOf i).toNat)
          case atStart => exact ⟨0, Nat.zero_le _, rfl, by simpa [esc] using Hown.out, Hbel.out⟩
          case round =>
            obtain ⟨t, ht, rfl, hownr, hbel⟩ := hrel
            have hyl : (K ++ esc (s.data.toList.take t)).length ≤ 1040 + 2 * t := by
              rw [List.length_append, esc_length]
              have h1 : (s.data.toList.take t).length ≤ t := List.length_take_le _ _
              have h2 : (s.data.toList.take t).count 0 ≤ (s.data.toList.take t).length := List.count_le_length
              omega
            have hsz := hbel.size
            have hcq := HcT.out _ hbel
            by_cases htl : t < s.size
            · have Hesc := hid (esc_take s t htl)
              obtain ⟨c, hcx⟩ : ∃ c, s[t]'htl = c := ⟨_, rfl⟩
              rw [hcx] at Hesc
              generalize hys : K ++ esc (s.data.toList.take t) = ys at hownr hyl
              have Hys := hid hys
              clear hys
              have Hownr := hid hownr
              clear hownr
              by_cases h0 : c = 0
              · subst h0
                go_wp2_with (first | (at_builtin; refine app_lits _ rfl (.tmp 36) (.tmp 43) rfl w.heap.size _ ys rfl Hownr.out [0] 1 rfl rfl (by omega) (by omega) ?_; intro v1 w1 ho1 hb1 hs1; have hcq1 := HcT.out _ (hbel.trans hb1)) | (at_builtin; refine app_lits _ rfl (.tmp 52) (.tmp 53) rfl w.heap.size _ (ys ++ [0]) rfl ho1 [255] 1 rfl rfl (by simp; omega) (by have := hb1.size; omega) ?_; intro v2 w2 ho2 hb2 hs2))
                go_roundw
                case rel =>
                  refine ⟨t + 1, by omega, by go_num, ?_, hbel.trans (hb1.trans hb2)⟩
                  rw [Hesc.out, if_pos rfl, ← List.append_assoc, Hys.out]
                  simpa using ho2
                case measure => simp [intOf]; omega
              · have hne : ((c.toNat : Int) == 0) = false := by
                  rw [beq_eq_false_iff_ne]
                  intro e
                  exact h0 (UInt8.toNat_inj.1 (by simpa using e))
                go_wp2_with (at_builtin; refine app_lits _ rfl (.tmp 36) (.tmp 43) rfl w.heap.size _ ys rfl Hownr.out [c] 1 rfl rfl (by omega) (by omega) ?_; intro v1 w1 ho1 hb1 hs1; have hcq1 := HcT.out _ (hbel.trans hb1))
                go_roundw
                case rel =>
                  refine ⟨t + 1, by omega, by go_num, ?_, hbel.trans hb1⟩
                  rw [Hesc.out, if_neg h0, ← List.append_assoc, Hys.out]
                  exact ho1
                case measure => simp [intOf]; omega
            · have ht' : t = s.size := by omega
              subst ht'
              have t1 : ¬ (s.size : Int) < (s.size : Int) := by omega
              rw [take_all] at hownr hyl
              go_wp2_with (at_builtin; refine app_lits _ rfl (.tmp 55) (.tmp 56) rfl w.heap.size _ _ rfl hownr [0, 1] 2 rfl rfl (by omega) (by omega) ?_; intro v1 w1 ho1 hb1 hs1)
              go_roundw
              case rel =>
                refine ⟨k + 1, by omega, by go_num, by rw [Hstep.out]; exact ho1, hbel.trans hb1, fun q hq => ?_⟩
                rw [Htk.out] at hq
                rcases List.mem_append.1 hq with h | h
                · exact Hsm.out q h
                · rw [List.mem_singleton.1 h]; omega
              case measure => simp [intOf]; omega
      · have hkl : k = l.length := by omega
        subst hkl
        have f1 : ¬ (l.length : Int) < (l.length : Int) := by omega
        rw [List.take_length] at Hown hbd
        obtain ⟨a1, c1, hv, hBy, hcap, hcn⟩ := bytes_ofH Hown.out
        have Hcn := hid hcn
        clear hcn
        subst hv
        by_cases h64 : 64 < (keyOf (bs l)).length
        · have e1 : er = 6 := by rw [← He.out]; unfold keyErr; rw [if_neg H8.out, if_pos h64]
          have e2 : rr = [] := by rw [← Hr.out]; unfold keyRes; rw [He.out, e1, if_neg (by omega)]
          subst e1
          subst e2
          generalize (keyOf (bs l)).length = kl at *
          clear hBy
          go_wp2
          go_ret2
          first | exact ⟨none, 0, rfl, (fun i hi => absurd hi (Nat.not_lt_zero _)), Hbel.out, fun _ => rfl⟩ | exact ⟨none, 0, rfl, (fun i hi => absurd hi (Nat.not_lt_zero _)), Hbel.out, Nat.le_refl _, fun _ => rfl⟩
        · have e1 : er = 0 := by rw [← He.out]; unfold keyErr; rw [if_neg H8.out, if_neg h64]
          have e2 : rr = keyOf (bs l) := by rw [← Hr.out]; unfold keyRes; rw [He.out, e1, if_pos rfl]
          subst e1
          subst e2
          have HBy := hid hBy
          clear hBy
          go_wp2
          go_ret2
          exact ⟨_, _, rfl, HBy.out, Hbel.out, hcap, Hcn.out⟩
end Go.Proofs.YtdglmoikgmlaaaaGreatDoor
