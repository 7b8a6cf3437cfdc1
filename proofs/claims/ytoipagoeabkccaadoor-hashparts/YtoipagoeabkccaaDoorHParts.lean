/- HashParts of the laws on hashes, walked. -/
import Derived.Test.YtoipagoeabkccaaDoorHCopy
namespace Go.Proofs.YtoipagoeabkccaaDoor
open Go.RowKit
set_option linter.unusedVariables false
set_option maxRecDepth 20000
attribute [local go_sem ↓] loadH_fold

set_option maxHeartbeats 2000000 in
theorem hashParts_walk {w : World} {H : Array Value} {h : List UInt8} (hH : HV H h) (b : List UInt8) (a : Option Addr) (cap : Nat) (hb : BytesIn w a cap b) (hK : KAt w) :
    Calls Tryd.prog 7 #[.agg H, .slice a b.length cap] w fun e w' => e = .returned (.bool true) ∧ Below w.heap.size w w' := by
  have HH := hid hH
  have HB := hid hb
  have HK := hid hK
  have lh : h.length = 32 := hH.len
  have x0 := hid (heap_alloc_new w (.cells H 26))
  have lb := hb.length
  have cb := hb.cap
  obtain ⟨nb, hnb⟩ : ∃ nb, nb = b.length := ⟨_, rfl⟩
  rw [← hnb] at lb cb ⊢
  have Hnb := hid hnb
  have hsz := hid hH.info
  clear hH hb hK hnb
  go_enter Tryd.func7, Tryd.ntmps7
  go_wp2_with fail
  go_loopw [5, 6] (fun v5 v6 wr => ∃ k : Nat, k ≤ 32 ∧ v6 = .int .i64 k ∧ wr.ownsRow (w.heap.size + 1) 5 1 v5 (h.take k).length (cellsOf (h.take k)) ∧ wr.heap[w.heap.size]? = some (.cells H 26 (0, 0)) ∧ Below w.heap.size w wr) (fun _ v6 _ => 32 - (intOf v6).toNat)
  case atStart => exact ⟨0, Nat.zero_le _, rfl, World.ownsRow_nil _ _ _ _, x0.out, (Below.refl _ w).alloc (Nat.le_refl _) _⟩
  case round =>
    clear x0
    obtain ⟨k, hk, rfl, hown, hx, hbel⟩ := hrel
    have Hown := hid hown
    have Hx := hid hx
    have Hbel := hid hbel
    have Hbig : Hid (w.heap.size + 1 ≤ wr.heap.size) := heap_lt hx
    clear hown hx hbel
    by_cases hlt : k < 32
    · have hkh : k < h.length := by omega
      have c1 : wr.cell? ⟨w.heap.size, k, none⟩ = some (.int .u8 (h[k].toNat : Int)) := by rw [cell_of_row _ _ _ _ _ _ Hx.out, HH.out.eq, bvs_get h k hkh]
      have Hst : Hid (h.take (k + 1) = h.take k ++ [h[k]]) := List.take_succ_eq_append_getElem hkh
      have Hlen : Hid ((h.take k).length ≤ 32) := by show _ ≤ _; simp; omega
      obtain ⟨c, hc⟩ : ∃ c, c = h[k] := ⟨_, rfl⟩
      rw [← hc] at c1 Hst
      clear hc hkh
      go_wp2_with (at_builtin; refine app_lits _ rfl (.tmp 11) (.tmp 15) rfl (w.heap.size + 1) _ (h.take k) rfl Hown.out [c] 1 rfl rfl (by have := Hlen.out; omega) Hbig.out ?_; intro v' w' hown' hb' hv'; have Hown' := hid hown'; have Hb' := hid hb'; clear hown' hb' hv')
      go_roundw
      case rel =>
        refine ⟨k + 1, by omega, by go_num, ?_, (Hb'.out.block _ (by omega)).trans Hx.out, Hbel.out.trans (Hb'.out.mono (by omega))⟩
        rw [Hst.out]; exact Hown'.out
      case measure => simp [intOf]; omega
    · have hk32 : k = 32 := by omega
      have Hend : Hid (wr.ownsRow (w.heap.size + 1) 5 1 u5 h.length (cellsOf h)) := by
        have h1 := Hown.out
        rw [hk32, List.take_of_length_le (by omega)] at h1
        exact h1
      clear hk32 hk Hown
      obtain ⟨V, hV⟩ : ∃ V, V = wr := ⟨_, rfl⟩
      rw [← hV] at Hend Hbig Hx Hbel ⊢
      clear hV
      go_wp2_with (at_builtin; refine app_src _ rfl (.tmp 17) (.tmp 18) rfl (w.heap.size + 1) _ h rfl Hend.out a nb cap b Hnb.out rfl (HB.out.bytes.below Hbel.out) HB.out.nilcap (by have := HB.out.length; omega) Hbig.out ?_; intro v' w' hown' hb'; have Hown' := hid hown'; have Hb' := hid hb'; clear hown' hb')
      have Hbel1 : Hid (Below w.heap.size w w') := Hbel.out.trans (Hb'.out.mono (by omega))
      have Hx1 : Hid (w'.heap[w.heap.size]? = some (.cells H 26 (0, 0))) := (Hb'.out.block _ (by omega)).trans Hx.out
      clear Hend Hbel Hx Hb'
      refine (live_any (HK.out.below Hbel1.out)).mono ?_
      rintro _ w1 ⟨rfl, hb1⟩
      have Hbel2 : Hid (Below w.heap.size w w1) := Below.on' Hbel1.out hb1
      have Hx2 : Hid (w1.heap[w.heap.size]? = some (.cells H 26 (0, 0))) := (hb1.block _ (heap_lt Hx1.out)).trans Hx1.out
      obtain ⟨ad, cp, rfl, hby, hcp⟩ := bytes_of_own Hown'.out
      have Hby : Hid (Bytes w1 ad (h ++ b)) := hby.below hb1
      clear hb1 hby Hbel1 Hx1 Hown'
      have hld := loadH_run HH.out Hx2.out
      go_wp2_with fail
      refine (chain_any HH.out b a nb cap Hnb.out (HB.out.bytes.below Hbel2.out) (by have := Hnb.out; omega) (by have := Hnb.out; omega) (HK.out.below Hbel2.out)).mono ?_
      rintro _ w2 ⟨O1, rfl, hO1, hb2⟩
      have Hbel3 : Hid (Below w.heap.size w w2) := Below.on' Hbel2.out hb2
      have Hby3 : Hid (Bytes w2 ad (h ++ b)) := Hby.out.below hb2
      clear hb2 Hby Hx2 Hbel2 hld
      go_wp2_with fail
      refine (hsum_any (h ++ b) ad _ cp (by simp [lh]) Hby3.out (by have := Hnb.out; simp; omega) hcp (HK.out.below Hbel3.out)).mono ?_
      rintro _ w3 ⟨O2, rfl, hO2, hb3⟩
      have Hbel4 : Hid (Below w.heap.size w w3) := Below.on' Hbel3.out hb3
      have heq := hash_same hO1.out hO2.out
      clear hb3 Hby3 Hbel3
      go_wp2
      go_ret
      exact ⟨rfl, Hbel4.out⟩
end Go.Proofs.YtoipagoeabkccaaDoor
