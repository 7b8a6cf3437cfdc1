/- SameBytes of the reference, and what stays behind a write, by contracts and rules. -/
import Derived.Test.YthdcjepkehifoaaGreatBCutOk
namespace Go.Proofs.YthdcjepkehifoaaGreat
open Go.RowKit
set_option linter.unusedVariables false
set_option maxRecDepth 20000

theorem below_drewN (B : Nat) (w : World) (n : Nat) : Below B w (w.drewN n) := ⟨rfl, rfl, rfl, Nat.le_refl _, fun _ _ => rfl⟩

set_option maxHeartbeats 400000 in
theorem sameBytes_any (x y : List UInt8) (a b : Option Addr) (ca cb : Nat) (w : World) (hx : Bytes w a x) (hy : Bytes w b y) (lx : x.length ≤ 140737488351232) (ly : y.length ≤ 140737488351232) :
    Calls Tryz.prog 30 #[.slice a x.length ca, .slice b y.length cb] w fun e w' => e = .returned (.bool (decide (x = y))) ∧ Below w.heap.size w w' := by
  have Hx := hid hx
  have Hy := hid hy
  clear hx hy
  by_cases hl : x.length = y.length
  · have d1 : ((x.length : Int) != (y.length : Int)) = false := by rw [bne_eq_false_iff_eq]; omega
    have Hl := hid hl
    clear hl
    go_enter Tryz.func30, Tryz.ntmps30
    go_wp2
    go_loopw [5] (fun i wr => ∃ k : Nat, k ≤ x.length ∧ i = .int .i64 k ∧ x.take k = y.take k ∧ Below w.heap.size w wr) (fun i _ => x.length - (intOf i).toNat)
    case atStart => exact ⟨0, Nat.zero_le _, rfl, rfl, Below.refl _ _⟩
    case round =>
      obtain ⟨k, hk, rfl, hpre, hbel⟩ := hrel
      have Hpre := hid hpre
      have Hbel := hid hbel
      clear hpre hbel
      by_cases hlt : k < x.length
      · have hlt2 : k < y.length := by have := Hl.out; omega
        obtain ⟨b1, o1, ha, hc1⟩ := (Hx.out.below Hbel.out) k hlt
        obtain ⟨b2, o2, hb, hc2⟩ := (Hy.out.below Hbel.out) k hlt2
        have HX : Hid (x.take (k + 1) = x.take k ++ [x[k]]) := List.take_succ_eq_append_getElem hlt
        have HY : Hid (y.take (k + 1) = y.take k ++ [y[k]]) := List.take_succ_eq_append_getElem hlt2
        have HN : Hid (x[k] ≠ y[k] → x ≠ y) := fun h e => h (by subst e; rfl)
        generalize x[k] = c1 at *
        generalize y[k] = c2 at *
        subst ha
        subst hb
        by_cases hc : c1 = c2
        · have e1 : ((c1.toNat : Int) != (c2.toNat : Int)) = false := by rw [hc]; simp
          have H12 := hid hc
          clear hc
          go_wp2
          go_quiet (fail)
          go_wp2
          go_roundw
          case rel => exact ⟨k + 1, by omega, by go_num, by rw [HX.out, HY.out, Hpre.out, H12.out], Hbel.out.trans (below_drewN _ _ _)⟩
          case measure => simp [intOf]; omega
        · have e1 : ((c1.toNat : Int) != (c2.toNat : Int)) = true := by
            rw [bne_iff_ne]
            intro e
            exact hc (UInt8.toNat_inj.1 (by omega))
          have Hne := hid (HN.out hc)
          clear hc
          go_wp2
          go_quiet (fail)
          go_wp2
          go_ret
          exact ⟨ret_bool (by simp [Hne.out]), Hbel.out.trans (below_drewN _ _ _)⟩
      · go_wp2
        go_ret
        refine ⟨ret_bool ?_, Hbel.out⟩
        have h := Hpre.out
        rw [List.take_of_length_le (by omega), List.take_of_length_le (by have := Hl.out; omega)] at h
        simp [h]
  · have d1 : ((x.length : Int) != (y.length : Int)) = true := by rw [bne_iff_ne]; omega
    have hne : decide (x = y) = false := by simp; intro e; exact hl (congrArg List.length e)
    rw [hne]
    clear hl hne
    go_enter Tryz.func30, Tryz.ntmps30
    go_wp2
    go_ret
    exact ⟨rfl, Below.refl _ _⟩


/-- a row stays where its block does -/
theorem own_keep {w w' : World} {B e s : Nat} {v : Value} {n : Nat} {xs : List Value} (h : w.ownsRow B e s v n xs) (hk : ∀ k, v.ownBlock = some k → w'.heap[k]? = w.heap[k]?) : w'.ownsRow B e s v n xs := by
  refine ⟨h.1, ?_⟩
  rcases h.2 with h | ⟨g, cap, cur, hv, hb, hh, r⟩
  · exact .inl h
  · exact .inr ⟨g, cap, cur, hv, hb, (hk g (by rw [hv]; rfl)).trans hh, r⟩
theorem own_below {w w' : World} {B e s : Nat} {v : Value} {n : Nat} {xs : List Value} (h : w.ownsRow B e s v n xs) (hb : Below w.heap.size w w') : w'.ownsRow B e s v n xs :=
  own_keep h fun k hk => hb.block k (h.lt k hk).2
theorem Bytes.keep {w w' : World} {b o : Nat} {l : List UInt8} (h : Bytes w (some ⟨b, o, none⟩) l) (hb : w'.heap[b]? = w.heap[b]?) : Bytes w' (some ⟨b, o, none⟩) l := fun i hi => by
  obtain ⟨b', o', ha, hc⟩ := h i hi
  cases ha
  exact ⟨b, o, rfl, (World.cell?_of_block (a := ⟨b, o + i, none⟩) hb).trans hc⟩
/-- what lies below a disk's own blocks is as it was behind a write -/
theorem Only.below {w w' : World} {B d g cap : Nat} {v : Value} {ps : List (List UInt8)} {ch : List (Nat × List UInt8)} (ho : Only d g v.ownBlock w w') (h : DiskAt w B d g cap v ps ch) (B' : Nat) (hB : B' ≤ B) (hs : B' ≤ w.heap.size) : Below B' w w' :=
  ⟨ho.os, ho.tape, ho.output, ho.size, fun k hk => ho.block k (by omega) (by have := h.bd; omega) (by have := (h.pages.lt g rfl).1; omega) (fun e => by have := (h.chs.lt k e.symm).1; omega)⟩
/-- the row of some bytes, written out -/
theorem own_form {w : World} {B e : Nat} {v : Value} {l : List UInt8} (h : w.ownsRow B e 1 v l.length (cellsOf l)) (h0 : 0 < l.length) : ∃ b c, v = .slice (some ⟨b, 0, none⟩) l.length c ∧ Bytes w (some ⟨b, 0, none⟩) l ∧ B ≤ b ∧ b < w.heap.size := by
  obtain ⟨b, c, rfl, hb, hl⟩ := h.form h0
  obtain ⟨a, c', hv, hB, _⟩ := bytes_of_own h
  cases hv
  exact ⟨b, c, rfl, hB, hb, hl⟩
end Go.Proofs.YthdcjepkehifoaaGreat
