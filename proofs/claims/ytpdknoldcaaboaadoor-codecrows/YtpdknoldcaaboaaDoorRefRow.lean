/- The reference's Row, by a contract. -/
import Derived.Test.YtpdknoldcaaboaaDoorRow
namespace Go.Proofs.YtpdknoldcaaboaaDoor
open Go.RowKit
set_option linter.unusedVariables false

set_option maxHeartbeats 400000 in
theorem refRow_any (l : List ByteArray) (a : Option Addr) (cap : Nat) (w : World) (hT : Texts w a l) (hsz : ∀ s ∈ l, s.size ≤ 140737488351232) (hlen : l.length ≤ 140737488351232) :
    Calls Tryd.prog 20 #[.slice a l.length cap] w fun e w' => ∃ a' cap', e = .returned (.tuple #[.slice a' (rowRes l).length cap', .int .i64 (rowErr l : Int)]) ∧ Bytes w' a' (rowRes l) ∧ Below w.heap.size w w' ∧ (rowRes l).length ≤ cap' := by
  by_cases h8 : 8 < l.length
  · have e1 : rowErr l = 2 := by unfold rowErr; rw [if_pos h8]
    have e2 : rowRes l = [] := by unfold rowRes; rw [e1, if_neg (by omega)]
    rw [e1, e2]
    go_enter Tryd.func20, Tryd.ntmps20
    go_wp2
    go_ret2
    exact ⟨none, 0, rfl, fun i hi => by simp at hi, Below.refl _ _, Nat.le_refl _⟩
  have HT := hid hT
  have Hsz := hid hsz
  clear hT hsz
  have Hown := hid (own_lit w l.length (by omega))
  have E : Hid (∀ e r, rowErr l = e → rowRes l = r → rowErr l = e) := fun _ _ h _ => h
  generalize he : rowErr l = er
  generalize hr : rowRes l = rr
  have He := hid he
  have Hr := hid hr
  clear he hr E
  go_enter Tryd.func20, Tryd.ntmps20
  go_wp2_with fail
  go_loopw [4, 5] (fun v i wr => ∃ k : Nat, k ≤ l.length ∧ i = .int .i64 k ∧ wr.ownsRow w.heap.size 5 1 v (rowTo l k).length (cellsOf (rowTo l k)) ∧ Below w.heap.size w wr ∧ ∀ s ∈ l.take k, s.size ≤ 70) (fun _ i _ => l.length - (intOf i).toNat)
  case atStart => exact ⟨0, Nat.zero_le _, rfl, Hown.out, (Below.refl _ _).alloc (Nat.le_refl _) _, by simp⟩
  case round =>
    obtain ⟨k, hk, rfl, hownr, hbel, hsm⟩ := hrel
    have hbd := rowTo_bound l k hk hsm
    have Hownr := hid hownr
    have hszr := hbel.size
    have Hbel := hid hbel
    have Hsm := hid hsm
    clear hownr hbel hsm
    by_cases hlt : k < l.length
    · obtain ⟨b, o, ha, hcw⟩ := HT.out k hlt
      have hblt : b < w.heap.size := World.block_lt_of_cell? _ _ hcw
      have hc := (Hbel.out.cell (p := ⟨b, o + k, none⟩) hblt).trans hcw
      clear hcw
      have Hstep := hid (rowTo_step l k hlt)
      have Hmem : Hid (l[k]'hlt ∈ l) := List.getElem_mem _
      have Htk : Hid (l.take (k + 1) = l.take k ++ [l[k]'hlt]) := List.take_succ_eq_append_getElem hlt
      generalize (l[k]'hlt) = s at hc Hstep Hmem Htk
      subst ha
      have hs47 := Hsz.out s Hmem.out
      by_cases h70 : 70 < s.size
      · have e1 : er = 6 := by
          rw [← He.out]
          unfold rowErr
          rw [if_neg h8, if_pos (List.any_eq_true.2 ⟨s, Hmem.out, by simpa using h70⟩)]
        have e2 : rr = [] := by rw [← Hr.out]; unfold rowRes; rw [He.out, e1, if_neg (by omega)]
        subst e1
        subst e2
        go_wp2
        go_ret2
        exact ⟨none, 0, rfl, fun i hi => by simp at hi, Hbel.out, Nat.le_refl _⟩
      · generalize hys : rowTo l k = ys at Hownr hbd Hstep
        have Hys := hid hys
        clear hys
        go_wp2_with (first | (at_builtin; refine app_nat _ rfl (.tmp 25) (.tmp 32) rfl w.heap.size _ ys rfl Hownr.out s.size (by omega) rfl (by omega) (by omega) ?_; intro v1 w1 ho1 hb1 hs1; have hc1 := (hb1.cell (p := ⟨b, o + k, none⟩) hblt).trans hc) | (at_builtin; refine app_str _ rfl (.tmp 34) (.tmp 38) rfl w.heap.size _ (ys ++ [UInt8.ofNat s.size]) rfl ho1 s rfl (by simp; omega) (by have := hb1.size; omega) ?_; intro v2 w2 ho2 hb2 hs2))
        go_roundw
        case rel =>
          refine ⟨k + 1, by omega, by go_num, by rw [Hstep.out]; exact ho2, Hbel.out.trans (hb1.trans hb2), ?_⟩
          intro t ht
          rw [Htk.out] at ht
          rcases List.mem_append.1 ht with h | h
          · exact Hsm.out t h
          · have : t = s := by simpa using h
            subst this
            omega
        case measure => simp [intOf]; omega
    · have hk' : k = l.length := by omega
      have hany : l.any (fun s => decide (70 < s.size)) = false := by
        rw [← Bool.not_eq_true, List.any_eq_true]
        rintro ⟨s, hs, h⟩
        have := Hsm.out s (by rw [hk', List.take_length]; exact hs)
        simp at h
        omega
      have hrow : rowTo l k = rowOf (bs l) := by
        unfold rowTo rowOf
        rw [hk', List.take_length]
        simp [bs]
      rw [hrow] at Hownr hbd
      obtain ⟨av, cv, hv, hB, hcap⟩ := bytes_of_own Hownr.out
      have HB := hid hB
      clear hB
      by_cases h72 : 72 < (rowOf (bs l)).length
      · have e1 : er = 6 := by
          rw [← He.out]
          unfold rowErr
          rw [if_neg h8, hany, if_neg (by simp), if_pos h72]
        have e2 : rr = [] := by rw [← Hr.out]; unfold rowRes; rw [He.out, e1, if_neg (by omega)]
        subst e1
        subst e2
        subst hv
        clear hany hrow hk'
        go_wp2
        go_ret2
        exact ⟨none, 0, rfl, fun i hi => by simp at hi, Hbel.out, Nat.le_refl _⟩
      · have e1 : er = 0 := by
          rw [← He.out]
          unfold rowErr
          rw [if_neg h8, hany, if_neg (by simp), if_neg h72]
        have e2 : rr = rowOf (bs l) := by rw [← Hr.out]; unfold rowRes; rw [He.out, e1, if_pos rfl]
        subst e1
        subst e2
        subst hv
        clear hany hrow hk'
        go_wp2
        go_ret2
        exact ⟨av, cv, rfl, HB.out, Hbel.out, hcap⟩
end Go.Proofs.YtpdknoldcaaboaaDoor
