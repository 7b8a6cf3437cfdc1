/- The reference's bytes of a hash, number in eight bytes, and tag of a sealed text. -/
import Derived.Test.YtfiaefagnkmpoaaDoorELive
import Derived.Test.YtfiaefagnkmpoaaDoorHRefSum
namespace Go.Proofs.YtfiaefagnkmpoaaDoor
open Go.RowKit
set_option linter.unusedVariables false
set_option maxRecDepth 20000

set_option maxHeartbeats 400000 in
theorem refBytes_any {w : World} {H : Array Value} {h : List UInt8} (hH : HV H h) :
    Calls Tryd.prog 46 #[.agg H] w fun e w' => ∃ v, e = .returned v ∧ w'.ownsRow w.heap.size 5 1 v h.length (cellsOf h) ∧ Below w.heap.size w w' := by
  have HH := hid hH
  have x0 := hid (heap_alloc_new w (.cells H 26))
  have hsz : (Tryd.prog.info? 26).map (·.size) = some H.size := hH.info
  clear hH
  go_enter Tryd.func46, Tryd.ntmps46
  go_wp2_with (with_reducible show Go.wpList _ _ _ _ _ _; refine wpList_load_row rfl 26 _ rfl w.heap.size rfl _ _ _ _ x0.out Tryd.underlying26 rfl hsz ?_)
  refine (bytesOf_any HH.out).mono ?_
  rintro _ w1 ⟨v, rfl, ho, hb⟩
  have Ho := hid ho
  have Hb : Hid (Below w.heap.size w w1) := Below.on' ((Below.refl _ w).alloc (Nat.le_refl _) _) hb
  clear ho hb
  go_wp2
  go_ret
  exact ⟨v, rfl, own_mono Ho.out (by simp), Hb.out⟩

set_option maxHeartbeats 1000000 in
theorem eight_any {w : World} (n : Nat) :
    Calls Tryd.prog 44 #[.int .u64 (n : Int)] w fun e w' => ∃ v, e = .returned v ∧ w'.ownsRow w.heap.size 5 1 v 8 (cellsOf (be8 n)) ∧ Below w.heap.size w w' := by
  have Hown0 : Hid (w.ownsRow w.heap.size 5 1 (.slice none 0 0) (numAt [] n 0).length (cellsOf (numAt [] n 0))) := by
    show World.ownsRow _ _ _ _ _ _ _
    rw [numAt_zero]; exact World.ownsRow_nil _ _ _ _
  go_enter Tryd.func44, Tryd.ntmps44
  go_wp2
  go_loopw [3, 4] (fun v3 v4 wr => ∃ k : Nat, k ≤ 8 ∧ v4 = .int .i64 (k : Int) ∧ wr.ownsRow w.heap.size 5 1 v3 (numAt [] n k).length (cellsOf (numAt [] n k)) ∧ Below w.heap.size w wr) (fun _ v4 _ => 8 - (intOf v4).toNat)
  case atStart => exact ⟨0, by omega, rfl, Hown0.out, Below.refl _ _⟩
  case round =>
    obtain ⟨k, hk, rfl, hown, hbel⟩ := hrel
    have Hown := hid hown
    have Hbel := hid hbel
    have hle := hbel.size
    clear hown hbel Hown0
    by_cases hlt : k < 8
    · have r0 : (0 : Int) ≤ 56 - 8 * (k : Int) := by omega
      have r1 : (56 : Int) - 8 * (k : Int) ≤ 64 := by omega
      have Hst := hid (numAt_step [] n k hlt)
      obtain ⟨b, hb8⟩ : ∃ b, b = UInt8.ofNat (n / 2 ^ (56 - 8 * k)) := ⟨_, rfl⟩
      have q5 : (n : Int) / 2 ^ (56 - 8 * k) % 256 = (b.toNat : Int) := by
        have h := byte_of (n / 2 ^ (56 - 8 * k))
        rw [← hb8, IntKind.wrap_u8] at h
        rw [← h]
        simp
      rw [← hb8] at Hst
      have Hlen := hid (numAt_length [] n k)
      clear hb8
      go_wp2_with (at_builtin; refine app_lits _ rfl (.tmp 9) (.tmp 16) rfl w.heap.size _ (numAt [] n k) rfl Hown.out [b] 1 rfl rfl (by have := Hlen.out; simp at this; omega) hle ?_; intro v' w' hown' hb' hv'; have Hown' := hid hown'; have Hb' := hid hb'; clear hown' hb' hv')
      go_roundw
      case rel =>
        refine ⟨k + 1, by omega, by go_num, ?_, Hbel.out.trans Hb'.out⟩
        rw [← Hst.out]; exact Hown'.out
      case measure => simp [intOf]; omega
    · have hk8 : k = 8 := by omega
      have Hend : Hid (numAt [] n k = be8 n) := by
        show _ = _
        rw [hk8, numAt_all, List.nil_append]
      clear hk8
      go_wp2
      go_ret
      have h := Hown.out
      rw [Hend.out, be8_length] at h
      exact ⟨_, rfl, h, Hbel.out⟩

/-- what the reference's Tag answers: sixteen bytes -/
def Tag8 (w : World) (l : List UInt8) (e : Ending) (w' : World) : Prop := ∃ g cap, e = .returned (.slice (some ⟨g, 0, none⟩) 16 cap) ∧ 16 ≤ cap ∧ w.heap.size ≤ g ∧ Bytes w' (some ⟨g, 0, none⟩) l ∧ Below w.heap.size w w'

set_option maxHeartbeats 1000000 in
theorem refTag8_any {w : World} {K : Array Value} {key : List UInt8} (hK : HV K key) (b : List UInt8) (a : Option Addr) (n cap : Nat) (hn : n = b.length) (hB : Bytes w a b) (hc : a = none → cap = 0) (hl : b.length ≤ 1000000) :
    Calls Tryd.prog 30 #[.agg K, .slice a n cap] w (Tag8 w (tagB key b)) := by
  have HK := hid hK
  have HB := hid hB
  have Hn := hid hn
  have Hc := hid hc
  have x0 := hid (heap_alloc_new w (.cells K 26))
  have b0 : Hid (Below w.heap.size w (w.alloc (.cells K 26))) := (Below.refl _ w).alloc (Nat.le_refl _) _
  have hinf : (Tryd.prog.info? 26).map (·.size) = some K.size := hK.info
  have lk : key.length = 32 := hK.len
  obtain ⟨W0, hW0⟩ : ∃ W0, W0 = w.alloc (.cells K 26) := ⟨_, rfl⟩
  have HW0 := hid hW0
  rw [← hW0] at x0 b0
  have s0 : Hid (W0.heap.size = w.heap.size + 1) := by show _ = _; rw [hW0]; simp
  obtain ⟨W1, hW1⟩ : ∃ W1, W1 = W0.alloc (.cells (cellsOf [116]).toArray 5) := ⟨_, rfl⟩
  have HW1 := hid hW1
  have b01 : Hid (Below W0.heap.size W0 W1) := by show Below _ _ _; rw [hW1]; exact (Below.refl _ W0).alloc (Nat.le_refl _) _
  have Hb01 : Hid (Bytes W1 a b) := (HB.out.below b0.out).below b01.out
  have Hol : Hid (W1.ownsRow (w.heap.size + 1) 5 1 (.slice (some ⟨w.heap.size + 1, 0, none⟩) 1 1) ([116] : List UInt8).length (cellsOf [116])) := by
    show World.ownsRow _ _ _ _ _ _ _
    have h := own_lits W0 [116] (by simp)
    rw [s0.out, ← hW1] at h
    exact h
  have s1 : Hid (w.heap.size + 1 ≤ W1.heap.size) := by have := b01.out.size; have := s0.out; show _ ≤ _; omega
  clear hK hB hn hc hW0 hW1
  obtain ⟨m, hm⟩ : ∃ m, m = [116] ++ b := ⟨_, rfl⟩
  obtain ⟨nm, hnm⟩ : ∃ nm, m.length = nm := ⟨_, rfl⟩
  have l1 : nm = b.length + 1 := by rw [← hnm, hm]; simp
  have Hm := hid hm
  have Hnm := hid hnm
  clear hm hnm
  go_enter Tryd.func30, Tryd.ntmps30
  go_wp2_with (first
    | (at_builtin; rw [← HW0.out]; rw [show W0.alloc (.cells #[.int .u8 116] 5) = W1 from HW1.out.symm]; refine app_src _ rfl (.tmp 6) (.tmp 7) rfl (w.heap.size + 1) _ [116] rfl Hol.out a n cap b Hn.out rfl Hb01.out Hc.out (by simp; omega) s1.out ?_; intro v2 W2 ho2 hb2; rw [← Hm.out] at ho2; have b2 : Hid (Below W0.heap.size W0 W2) := b01.out.trans (hb2.mono (by have := s0.out; omega)); obtain ⟨a2, c2, rfl, B2, lc2, hn2⟩ := bytes_ofH ho2; rw [Hnm.out] at lc2 ⊢; have HB2 := hid B2; have Hn2 := hid hn2; have x2 : Hid (W2.heap[w.heap.size]? = some (.cells K 26 (0, 0))) := (b2.out.block _ (heap_lt x0.out)).trans x0.out; have b2' : Hid (Below w.heap.size w W2) := Below.on' b0.out b2.out; clear ho2 hb2 B2 hn2 b2 Hol Hb01 b01 x0 b0)
    | (with_reducible show Go.wpList _ _ _ _ _ _; refine wpList_load_row rfl 26 _ rfl w.heap.size rfl _ _ _ _ x2.out Tryd.underlying26 rfl hinf ?_))
  refine (refBytes_any HK.out).mono ?_
  rintro _ W3 ⟨v3, rfl, ho3, hb3⟩
  obtain ⟨a3, c3, rfl, B3, lc3, hn3⟩ := bytes_ofH ho3
  have HB3 := hid B3
  have Hn3 := hid hn3
  have HB23 : Hid (Bytes W3 a2 m) := HB2.out.below hb3
  have b3 : Hid (Below w.heap.size w W3) := Below.on' b2'.out hb3
  clear ho3 hb3 B3 hn3 HB2 b2' x2
  go_wp2_with fail
  obtain ⟨T, hT⟩ : ∃ T, T = hmac key m := ⟨_, rfl⟩
  have HTg : Hid (tagB key b = T.take 16) := by show _ = _; rw [hT, Hm.out]; simp only [tagB, List.cons_append, List.nil_append]
  refine (refTag_any sumOk key a3 32 c3 lk.symm HB3.out Hn3.out (by omega) lc3 m a2 (b.length + 1) c2 (by rw [Hnm.out, l1]) HB23.out Hn2.out (by rw [Hnm.out]; omega) (by rw [Hnm.out]; exact lc2)).mono ?_
  rintro _ W4 ⟨O, rfl, hO, hb4⟩
  rw [← hT] at hO
  have HO := hid hO
  clear hT
  have b4 : Hid (Below w.heap.size w W4) := Below.on' b3.out hb4
  clear hb4 hO b3 HB3 HB23
  go_wp2_with fail
  refine (refBytes_any HO.out).mono ?_
  rintro _ W5 ⟨v5, rfl, ho5, hb5⟩
  have lO : T.length = 32 := HO.out.len
  have b5 : Hid (Below w.heap.size w W5) := Below.on' b4.out hb5
  have s5 : w.heap.size ≤ W4.heap.size := b4.out.size
  obtain ⟨a6, c6, rfl, _, _, _⟩ := bytes_ofH ho5
  obtain ⟨g5, c5, e5, B5, lc5, hg5⟩ := own_some5 ho5 (by omega)
  cases e5
  rw [lO] at lc5 ⊢
  have HB5 := hid B5
  have q16 : (16 : Int) ≤ (c6 : Int) := by omega
  have lc5' : 16 ≤ c6 := by omega
  clear ho5 hb5 B5 b4
  go_wp2
  go_ret
  refine ⟨g5, c6, rfl, lc5', Nat.le_trans s5 hg5, ?_, b5.out⟩
  rw [HTg.out]
  intro i hi
  have hi' : i < 16 := by simp at hi; omega
  obtain ⟨bb, oo, e, hcl⟩ := HB5.out i (by rw [lO]; omega)
  refine ⟨bb, oo, e, ?_⟩
  rw [hcl]
  simp
end Go.Proofs.YtfiaefagnkmpoaaDoor
