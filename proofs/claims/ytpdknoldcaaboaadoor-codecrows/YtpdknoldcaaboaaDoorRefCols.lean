/- The reference's Columns, by a contract. -/
import Derived.Test.YtpdknoldcaaboaaDoorCols
namespace Go.Proofs.YtpdknoldcaaboaaDoor
open Go.RowKit
set_option linter.unusedVariables false

set_option maxHeartbeats 1000000 in
theorem refColumns_any (x : List UInt8) (a : Option Addr) (cap : Nat) (w : World) (hB : Bytes w a x) (hcap : x.length ≤ cap) (hlen : x.length ≤ 140737488351232) :
    Calls Tryd.prog 22 #[.slice a x.length cap] w (TextsPost (colRes x) (colErr x) w) := by
  by_cases h72 : 72 < x.length
  · have e1 : colErr x = 6 := by unfold colErr; rw [if_pos h72]
    have e2 : colRes x = [] := by unfold colRes; rw [e1, if_neg (by omega)]
    rw [e1, e2]
    go_enter Tryd.func22, Tryd.ntmps22
    go_wp2
    go_ret2
    exact TextsPost.none _ (Below.refl _ _)
  have Hnone := hid (colErr_none x h72)
  have Hsome := hid (colErr_some x h72)
  generalize colErr x = er at *
  generalize colRes x = rr at *
  have HB := hid hB
  clear hB
  cases hxt : x with
  | nil =>
    subst hxt
    obtain ⟨e1, e2⟩ := Hnone.out rfl
    subst e1
    subst e2
    simp only [List.length_nil] at *
    go_enter Tryd.func22, Tryd.ntmps22
    go_wp2
    go_ret2
    exact TextsPost.none _ (Below.refl _ _)
  | cons d t =>
    have hxl : x.length = t.length + 1 := by rw [hxt]; rfl
    obtain ⟨b, o, rfl, hc⟩ := HB.out 0 (by omega)
    simp only [hxt, List.getElem_cons_zero, Nat.add_zero] at hc
    rw [← hxt]
    have Hxt := hid hxt
    have Hxl := hid hxl
    have hpos : 0 < x.length := by omega
    have hblt : b < w.heap.size := World.block_lt_of_cell? _ _ hc
    have hd8 : d.toNat < 256 := d.toNat_lt
    have h0 : decide ((x.length : Int) < 1) = false := by simp; omega
    have f72 : decide (72 < (x.length : Int)) = false := by simp; omega
    clear hxt hxl
    by_cases h8 : 8 < d.toNat
    · obtain ⟨e1, e2⟩ := Hnone.out (by rw [Hxt.out]; simp only [columnsOf, if_pos h8])
      subst e1
      subst e2
      have h1 : decide (8 < (d.toNat : Int)) = true := by simp; omega
      go_enter Tryd.func22, Tryd.ntmps22
      go_wp2
      go_ret2
      exact TextsPost.none _ (Below.refl _ _)
    have h1 : decide (8 < (d.toNat : Int)) = false := by simp; omega
    have Hcols : Hid (columnsOf x = cols d.toNat t) := by rw [Hid, Hxt.out]; simp only [columnsOf, if_neg h8]
    have Hdrop : Hid (x.drop 1 = t) := by rw [Hid, Hxt.out]; rfl
    generalize hn : d.toNat = n at *
    clear hn
    go_enter Tryd.func22, Tryd.ntmps22
    go_wp2
    go_loopw [4, 5, 6] (fun v av i wr => ∃ (k : Nat) (out : List ByteArray) (p : Nat), k ≤ n ∧ i = .int .i64 k ∧ av = .int .i64 p ∧ 1 ≤ p ∧ p ≤ x.length ∧ out.length = k ∧
        wr.ownsRow w.heap.size 9 1 v out.length (strsOf out) ∧ Below w.heap.size w wr ∧ cols n t = (cols (n - k) (x.drop p)).map (fun cs => bs out ++ cs)) (fun _ _ i _ => n - (intOf i).toNat)
    case atStart => exact ⟨0, [], 1, Nat.zero_le _, rfl, rfl, Nat.le_refl _, by omega, rfl, World.ownsRow_nil _ _ _ _, Below.refl _ _, by rw [Hdrop.out]; simp [bs]⟩
    case round =>
      obtain ⟨k, out, p, hk, rfl, rfl, hp1, hpx, hout, hownr, hbel, hcols⟩ := hrel
      have Hownr := hid hownr
      have Hbel := hid hbel
      have Hout := hid hout
      have Hcr := hid hcols
      have hsz := hbel.size
      have hcr := (hbel.cell (p := ⟨b, o, none⟩) hblt).trans hc
      clear hownr hbel hout hcols
      by_cases hlt : k < n
      · obtain ⟨m, hm⟩ : ∃ m, n - k = m + 1 := ⟨n - k - 1, by omega⟩
        by_cases hpl : p < x.length
        · have f1 : decide ((x.length : Int) ≤ (p : Int)) = false := by simp; omega
          have Hdp : Hid (x.drop p = x[p]'hpl :: x.drop (p + 1)) := List.drop_eq_getElem_cons hpl
          obtain ⟨b', o', eb, hcp0⟩ := HB.out p hpl
          cases eb
          have hcp := (Hbel.out.cell (p := ⟨b, o + p, none⟩) hblt).trans hcp0
          clear hcp0
          generalize hd2e : x[p]'hpl = d2 at Hdp hcp
          clear hd2e
          have hd2 : d2.toNat < 256 := d2.toNat_lt
          have Hlt2 : Hid ((x.drop (p + 1)).length = x.length - (p + 1)) := List.length_drop
          by_cases hshort : (x.drop (p + 1)).length < d2.toNat
          · obtain ⟨e1, e2⟩ := Hnone.out (by rw [Hcols.out, Hcr.out, hm, Hdp.out, cols, if_pos hshort]; rfl)
            subst e1
            subst e2
            rw [Hlt2.out] at hshort
            clear hm
            by_cases h70 : 70 < d2.toNat
            · have f2 : decide (70 < (d2.toNat : Int)) = true := by simp; omega
              go_wp2
              go_ret2
              exact TextsPost.none _ Hbel.out
            · have f2 : decide (70 < (d2.toNat : Int)) = false := by simp; omega
              have f3 : decide ((x.length : Int) < (p : Int) + 1 + (d2.toNat : Int)) = true := by simp; omega
              go_wp2
              go_ret2
              exact TextsPost.none _ Hbel.out
          · obtain ⟨s, hs⟩ : ∃ s, s = mkText ((x.drop (p + 1)).take d2.toNat) := ⟨_, rfl⟩
            have Hs := hid hs
            have Hnext : Hid (cols n t = (cols (n - (k + 1)) (x.drop (p + (1 + d2.toNat)))).map (fun cs => bs (out ++ [s]) ++ cs)) := by
              rw [Hid, Hcr.out, hm, Hdp.out, cols_step m d2 _ (by omega), show n - (k + 1) = m by omega, Option.map_map, hs, List.drop_drop, show p + 1 + d2.toNat = p + (1 + d2.toNat) by omega]
              congr 1
              funext cs
              simp [bs, mkText]
            rw [Hlt2.out] at hshort
            have f2 : decide (70 < (d2.toNat : Int)) = false := by simp; omega
            have f3 : decide ((x.length : Int) < (p : Int) + 1 + (d2.toNat : Int)) = false := by simp; omega
            have hsl := slice_lh (some ⟨b, o, none⟩) x.length cap ((p : Int) + 1) ((p : Int) + 1 + (d2.toNat : Int)) (p + 1) (p + 1 + d2.toNat) d2.toNat (cap - (p + 1)) (by omega) (by omega) (by omega) rfl (by omega) (by omega)
            have hcv := conv_all wr (cutAt (some ⟨b, o, none⟩) cap (p + 1)) (cap - (p + 1)) ((x.drop (p + 1)).take d2.toNat) (((HB.out.below Hbel.out).cut (cap := cap) hcap (p + 1)).head d2.toNat)
            rw [show ((x.drop (p + 1)).take d2.toNat).length = d2.toNat by rw [List.length_take, Hlt2.out]; omega, show (⟨((x.drop (p + 1)).take d2.toNat).toArray⟩ : ByteArray) = s from Hs.out.symm] at hcv
            generalize cutAt (some ⟨b, o, none⟩) cap (p + 1) = a1 at hsl hcv
            clear hs hm
            go_wp2_with (at_builtin; refine app_text _ rfl (.tmp 57) (.tmp 67) rfl w.heap.size _ out rfl Hownr.out s rfl (by have := Hout.out; omega) (by omega) ?_; intro v1 w1 ho1 hb1 hs1; have hz1 := hb1.size)
            go_roundw
            case rel =>
              exact ⟨k + 1, out ++ [s], p + (1 + d2.toNat), by omega, by go_num, by go_num, by omega, by omega, by simp [Hout.out], ho1, Hbel.out.trans hb1, Hnext.out⟩
            case measure => simp [intOf]; omega
        · have f1 : decide ((x.length : Int) ≤ (p : Int)) = true := by simp; omega
          have hdn : x.drop p = [] := List.drop_eq_nil_of_le (by omega)
          obtain ⟨e1, e2⟩ := Hnone.out (by rw [Hcols.out, Hcr.out, hm, hdn]; rfl)
          subst e1
          subst e2
          clear hm hdn
          go_wp2
          go_ret2
          exact TextsPost.none _ Hbel.out
      · have hkn : n - k = 0 := by omega
        obtain ⟨av, cv, hv, hTx, hcv⟩ := texts_of_own Hownr.out
        subst hv
        have HTx := hid hTx
        clear hTx
        by_cases hpl : p < x.length
        · have Hdp : Hid (x.drop p = x[p]'hpl :: x.drop (p + 1)) := List.drop_eq_getElem_cons hpl
          obtain ⟨e1, e2⟩ := Hnone.out (by rw [Hcols.out, Hcr.out, hkn, Hdp.out, cols, if_neg (List.cons_ne_nil _ _)]; rfl)
          subst e1
          subst e2
          clear hkn
          have f4 : ((p : Int) != (x.length : Int)) = true := by rw [bne_iff_ne]; omega
          go_wp2
          go_ret2
          exact TextsPost.none _ Hbel.out
        · have hdn : x.drop p = [] := List.drop_eq_nil_of_le (by omega)
          obtain ⟨e1, e2⟩ := Hsome.out (bs out) (by rw [Hcols.out, Hcr.out, hkn, hdn]; simp [cols])
          have e3 : rr = out := by
            rw [e2]
            unfold bs
            rw [List.map_map]
            exact (List.map_congr_left (fun x _ => Lib.mk_data x)).trans (List.map_id out)
          subst e1
          subst e3
          clear hkn hdn e2
          have f4 : ((p : Int) != (x.length : Int)) = false := by rw [bne_eq_false_iff_eq]; omega
          go_wp2
          go_ret2
          exact ⟨av, cv, rfl, HTx.out, Hbel.out, hcv⟩
end Go.Proofs.YtpdknoldcaaboaaDoor
