/- firstPart of package codec, by a contract. -/
import Derived.Test.YtgjahhfpfdgjhaaDoorCRefKey
import Derived.Test.YtgjahhfpfdgjhaaDoorCol
namespace Go.Proofs.YtgjahhfpfdgjhaaDoor
open Go.RowKit
set_option linter.unusedVariables false

/-- the part that bytes begin with, and how many of them it takes -/
def fp : List UInt8 → Option (List UInt8 × Nat)
  | [] => none
  | [c] => none
  | c :: d :: r => if c = 0 then (if d = 1 then some ([], 2) else if d = 255 then (fp r).map (fun q => (0 :: q.1, q.2 + 2)) else none) else (fp (d :: r)).map (fun q => (c :: q.1, q.2 + 1))
/-- behind what was read -/
def fpFrom (pre : List UInt8) (i : Nat) (r : List UInt8) : Option (List UInt8 × Nat) := (fp r).map fun q => (pre ++ q.1, i + q.2)
theorem fpFrom_nil (pre : List UInt8) (i : Nat) : fpFrom pre i [] = none := rfl
theorem fpFrom_byte (pre : List UInt8) (i : Nat) (c : UInt8) (r : List UInt8) (h : c ≠ 0) : fpFrom pre i (c :: r) = fpFrom (pre ++ [c]) (i + 1) r := by
  unfold fpFrom
  cases r with
  | nil => rfl
  | cons d r =>
    rw [fp, if_neg h, Option.map_map]
    congr 1
    funext q
    simp; omega
theorem fpFrom_end (pre : List UInt8) (i : Nat) (r : List UInt8) : fpFrom pre i (0 :: 1 :: r) = some (pre, i + 2) := by
  unfold fpFrom
  rw [fp, if_pos rfl, if_pos rfl]
  simp
theorem fpFrom_zero (pre : List UInt8) (i : Nat) (r : List UInt8) : fpFrom pre i (0 :: 255 :: r) = fpFrom (pre ++ [0]) (i + 2) r := by
  unfold fpFrom
  rw [fp, if_pos rfl, if_neg (by decide), if_pos rfl, Option.map_map]
  congr 1
  funext q
  simp; omega
theorem fpFrom_last (pre : List UInt8) (i : Nat) : fpFrom pre i [0] = none := rfl
theorem fpFrom_none (pre : List UInt8) (i : Nat) (d : UInt8) (r : List UInt8) (h1 : d ≠ 1) (h2 : d ≠ 255) : fpFrom pre i (0 :: d :: r) = none := by
  unfold fpFrom
  rw [fp, if_pos rfl, if_neg h1, if_neg h2]
  rfl
/-- what firstPart gives -/
def fpVal : Option (List UInt8 × Nat) → Value
  | none => .tuple #[.string ⟨#[]⟩, .int .i64 0, .bool false]
  | some q => .tuple #[.string ⟨q.1.toArray⟩, .int .i64 (q.2 : Int), .bool true]

theorem own_cut {w : World} {B : Nat} {v : Value} {pre : List UInt8} (h : w.ownsRow B 5 1 v (pre ++ [0]).length (cellsOf (pre ++ [0]))) : ∃ g cap, v = .slice (some ⟨g, 0, none⟩) (pre.length + 1) cap ∧ Bytes w (some ⟨g, 0, none⟩) pre ∧ pre.length + 1 ≤ cap := by
  obtain ⟨a, c, hv, hB, hc⟩ := bytes_of_own h
  have hl : (pre ++ [(0 : UInt8)]).length = pre.length + 1 := by simp
  obtain ⟨b, o, ha, _⟩ := hB 0 (by omega)
  rcases h.2 with ⟨h1, h0⟩ | ⟨g, cap, cur, h1, _⟩
  · omega
  · rw [h1] at hv
    cases hv
    refine ⟨g, c, by rw [h1, hl], fun i hi => ?_, by omega⟩
    obtain ⟨b', o', e', hc'⟩ := hB i (by omega)
    refine ⟨b', o', e', ?_⟩
    rw [hc', List.getElem_append_left hi]
theorem drop_get (x : List UInt8) (i : Nat) (h : i < x.length) : x.drop i = x[i] :: x.drop (i + 1) := List.drop_eq_getElem_cons h

set_option maxHeartbeats 1600000 in
set_option maxRecDepth 20000 in
theorem firstPart_any (x : List UInt8) (a : Option Addr) (cap : Nat) (w : World) (hB : Bytes w a x) (hl : x.length ≤ 64) :
    Calls Tryd.prog 46 #[.slice a x.length cap] w fun e w' => e = .returned (fpVal (fp x)) ∧ Below w.heap.size w w' := by
  have HB := hid hB
  have Hx := hid (show fp x = fpFrom [] 0 (x.drop 0) by unfold fpFrom; rw [List.drop_zero]; cases fp x <;> simp)
  clear hB
  generalize fp x = res at *
  go_enter Tryd.func46, Tryd.ntmps46
  go_wp2
  go_loopw [6, 5] (fun i v wr => ∃ (k : Nat) (pre : List UInt8), k ≤ x.length ∧ i = .int .i64 (k : Int) ∧ pre.length ≤ k ∧ res = fpFrom pre k (x.drop k) ∧ wr.ownsRow w.heap.size 5 1 v pre.length (cellsOf pre) ∧ Below w.heap.size w wr) (fun i _ _ => x.length - (intOf i).toNat)
  case atStart => exact ⟨0, [], by omega, rfl, by simp, Hx.out, World.ownsRow_nil _ _ _ _, Below.refl _ _⟩
  case round =>
    obtain ⟨k, pre, hk, rfl, hpk, hres, hown, hbel⟩ := hrel
    have Hres := hid hres
    have Hown := hid hown
    have Hbel := hid hbel
    have hszr := hbel.size
    clear hres hown hbel Hx
    by_cases hlt : k < x.length
    · obtain ⟨b, o, ha, hc⟩ := (HB.out.below Hbel.out) k hlt
      have HBq : Hid (∀ wq, Below w.heap.size w wq → ∀ j (hj : j < x.length), wq.cell? ⟨b, o + j, none⟩ = some (.int .u8 (x[j].toNat : Int))) := fun wq hq j hj => by
        obtain ⟨b', o', e', h'⟩ := (HB.out.below hq) j hj
        rw [ha] at e'
        cases e'
        exact h'
      have Hd := hid (drop_get x k hlt)
      subst ha
      have HBk : Hid (∀ wq, Below w.heap.size w wq → wq.cell? ⟨b, o + k, none⟩ = some (.int .u8 (x[k].toNat : Int))) := fun wq hq => HBq.out wq hq k hlt
      generalize x[k] = c at *
      have f0 : (0 : Int) ≤ (k : Int) := by omega
      have f1 : (k : Int) < (x.length : Int) := by omega
      by_cases h0 : c = 0
      · subst h0
        by_cases hlt2 : k + 1 < x.length
        · have Hd2 := hid (drop_get x (k + 1) hlt2)
          have HBd : Hid (∀ wq, Below w.heap.size w wq → wq.cell? ⟨b, o + (k + 1), none⟩ = some (.int .u8 (x[k + 1].toNat : Int))) := fun wq hq => HBq.out wq hq (k + 1) hlt2
          generalize x[k + 1] = d at *
          have f2 : (k : Int) + 1 < (x.length : Int) := by omega
          have f3 : (0 : Int) ≤ (k : Int) + 1 := by omega
          have f4 : ¬ (k : Int) + 1 = (x.length : Int) := by omega
          have f5 : ((k : Int) + 1 == (x.length : Int)) = false := by rw [beq_eq_false_iff_ne]; omega
          by_cases h1 : d = 1
          · subst h1
            have hr : res = some (pre, k + 2) := by rw [Hres.out, Hd.out, Hd2.out, fpFrom_end]
            subst hr
            go_wp2_with (at_builtin; refine app_lits _ rfl (.tmp 13) (.tmp 18) rfl w.heap.size _ pre rfl Hown.out [0] 1 rfl rfl (by omega) (by omega) ?_; intro v1 w1 ho1 hb1 hs1; have hc1 := HBk.out _ (Hbel.out.trans hb1); have hc2 := HBd.out _ (Hbel.out.trans hb1); obtain ⟨g1, cp1, rfl, hby1, hcp1⟩ := own_cut ho1; have hcv := conv_all w1 (some ⟨g1, 0, none⟩) cp1 pre hby1; have HB1 := hid (Hbel.out.trans hb1); clear ho1 hb1 hs1 hby1)
            go_ret3
            refine ⟨?_, HB1.out⟩
            unfold fpVal
            have e9 : ((k : Int) + 1 + 1) = (((k + 2 : Nat)) : Int) := by omega
            simp [e9]
            try omega
          · have g1 : ((d.toNat : Int) == 1) = false := by
              rw [beq_eq_false_iff_ne]
              intro e
              exact h1 (UInt8.toNat_inj.1 (by show d.toNat = 1; omega))
            by_cases h255 : d = 255
            · subst h255
              go_wp2_with (at_builtin; refine app_lits _ rfl (.tmp 13) (.tmp 18) rfl w.heap.size _ pre rfl Hown.out [0] 1 rfl rfl (by omega) (by omega) ?_; intro v1 w1 ho1 hb1 hs1; have hc1 := HBk.out _ (Hbel.out.trans hb1); have hc2 := HBd.out _ (Hbel.out.trans hb1))
              go_roundw
              case rel => exact ⟨k + 2, pre ++ [0], by omega, by go_num, by simp; omega, by rw [Hres.out, Hd.out, Hd2.out, fpFrom_zero], by simpa using ho1, Hbel.out.trans hb1⟩
              case measure => simp [intOf]; omega
            · have g2 : ((d.toNat : Int) != 255) = true := by
                rw [bne_iff_ne]
                intro e
                exact h255 (UInt8.toNat_inj.1 (by show d.toNat = 255; omega))
              have hr : res = none := by rw [Hres.out, Hd.out, Hd2.out, fpFrom_none _ _ _ _ h1 h255]
              subst hr
              go_wp2_with (at_builtin; refine app_lits _ rfl (.tmp 13) (.tmp 18) rfl w.heap.size _ pre rfl Hown.out [0] 1 rfl rfl (by omega) (by omega) ?_; intro v1 w1 ho1 hb1 hs1; have hc1 := HBk.out _ (Hbel.out.trans hb1); have hc2 := HBd.out _ (Hbel.out.trans hb1))
              go_ret3
              exact ⟨rfl, Hbel.out.trans hb1⟩
        · have hkx : (k : Int) + 1 = (x.length : Int) := by omega
          have hr : res = none := by rw [Hres.out, Hd.out, List.drop_eq_nil_of_le (by omega), fpFrom_last]
          subst hr
          have f2 : ¬ (k : Int) + 1 < (x.length : Int) := by omega
          have f5 : ((k : Int) + 1 == (x.length : Int)) = true := by rw [beq_iff_eq]; exact hkx
          clear hkx
          go_wp2_with (at_builtin; refine app_lits _ rfl (.tmp 13) (.tmp 18) rfl w.heap.size _ pre rfl Hown.out [0] 1 rfl rfl (by omega) (by omega) ?_; intro v1 w1 ho1 hb1 hs1; have hc1 := HBk.out _ (Hbel.out.trans hb1))
          go_ret3
          exact ⟨rfl, Hbel.out.trans hb1⟩
      · have hne : ((c.toNat : Int) != 0) = true := by
          rw [bne_iff_ne]
          intro e
          exact h0 (UInt8.toNat_inj.1 (by simpa using e))
        go_wp2_with (at_builtin; refine app_lits _ rfl (.tmp 13) (.tmp 18) rfl w.heap.size _ pre rfl Hown.out [c] 1 rfl rfl (by omega) (by omega) ?_; intro v1 w1 ho1 hb1 hs1; have hc1 := HBk.out _ (Hbel.out.trans hb1))
        go_roundw
        case rel => exact ⟨k + 1, pre ++ [c], by omega, by go_num, by simp; omega, by rw [Hres.out, Hd.out, fpFrom_byte _ _ _ _ h0], by simpa using ho1, Hbel.out.trans hb1⟩
        case measure => simp [intOf]; omega
    · have hkx : k = x.length := by omega
      subst hkx
      have f1 : ¬ (x.length : Int) < (x.length : Int) := by omega
      have hr : res = none := by rw [Hres.out, List.drop_length, fpFrom_nil]
      subst hr
      go_wp2
      go_ret3
      exact ⟨rfl, Hbel.out⟩
end Go.Proofs.YtgjahhfpfdgjhaaDoor
