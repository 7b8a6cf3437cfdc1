/- SealNumber of the laws on sealed texts, walked. -/
import Derived.Test.YtgadjngodmbckaaDoorEBack
namespace Go.Proofs.YtgadjngodmbckaaDoor
open Go.RowKit Go.Shelf
set_option linter.unusedVariables false
set_option maxRecDepth 20000

theorem own_row {w : World} {B e : Nat} {a : Option Addr} {n cap : Nat} {l : List UInt8} (h : w.ownsRow B e 1 (.slice a n cap) n (cellsOf l)) (hn : n = l.length) : ∀ g, a = some ⟨g, 0, none⟩ → B ≤ g ∧ ∃ cur, w.heap[g]? = some (.cells cur e (0, 0)) ∧ n ≤ cur.size := by
  intro g hg
  subst hg
  rcases h.2 with ⟨h3, _⟩ | ⟨g', c, cur, h3, hB, hgb, hc, _, hs, _⟩
  · simp at h3
  · simp at h3
    obtain ⟨rfl, rfl⟩ := h3
    exact ⟨hB, cur, hgb, by omega⟩
theorem own_at {w : World} {B e : Nat} {a : Option Addr} {n cap : Nat} {l : List UInt8} (h : w.ownsRow B e 1 (.slice a n cap) n (cellsOf l)) (h0 : 0 < n) : ∃ g, a = some ⟨g, 0, none⟩ := by
  rcases h.2 with ⟨h3, _⟩ | ⟨g', c, cur, h3, hB, hgb, hc, _, hs, _⟩
  · simp at h3; omega
  · simp at h3
    exact ⟨g', h3.1⟩

set_option maxHeartbeats 4000000 in
theorem sealNumber_walk {w : World} {K : Array Value} {key : List UInt8} (hK : HV K key) (once : Nat) (ho : once < 2 ^ 64) (plain : List UInt8) (a : Option Addr) (cap : Nat) (hp : BytesIn w a cap plain) (hT : KAt w) :
    Calls Tryd.prog 6 #[.agg K, .int .u64 (once : Int), .slice a plain.length cap] w fun e w' => e = .returned (.bool true) ∧ Below w.heap.size w w' := by
  have HK := hid hK
  have HP := hid hp
  have HT := hid hT
  have hinf : (Tryd.prog.info? 23).map (·.size) = some K.size := hK.info
  have lp := hp.length
  obtain ⟨n, hn⟩ : ∃ n, n = plain.length := ⟨_, rfl⟩
  rw [← hn] at lp ⊢
  have Hn := hid hn
  have b0 : Hid (Below w.heap.size w (w.alloc (.cells K 23))) := (Below.refl _ w).alloc (Nat.le_refl _) _
  clear hK hp hT hn
  go_enter Tryd.func6, Tryd.ntmps6
  go_wp2_with fail
  refine (copy_any plain a n cap _ Hn.out (HP.out.bytes.below b0.out) HP.out.nilcap (by have := Hn.out; omega)).mono ?_
  rintro _ W1 ⟨v7, rfl, hown7, hb1⟩
  obtain ⟨a7, c7, rfl, hB7, hc7, hn7⟩ := bytes_of_own0 hown7
  rw [← Hn.out] at hc7 ⊢
  have b1 : Hid (Below w.heap.size w W1) := Below.on' b0.out hb1
  have k1 : Hid (W1.heap[w.heap.size]? = some (.cells K 23 (0, 0))) := (hb1.block _ (by simp)).trans (heap_alloc_new w _)
  have HB7 := hid hB7
  clear hown7 hb1 b0 hB7
  by_cases hlong : 1024 < n
  · go_wp2_with (with_reducible show Go.wpList _ _ _ _ _ _; refine wpList_load_row rfl 23 (.tmp 3) rfl w.heap.size rfl 23 K (0, 0) _ k1.out Tryd.underlying23 rfl HK.out.info ?_)
    refine (seal_long HK.out once n a7 c7 hlong).mono ?_
    rintro _ W2 ⟨rfl, hb2⟩
    have b2 : Hid (Below w.heap.size w W2) := Below.on' b1.out hb2
    clear hb2 k1 b1 HB7
    go_wp2_with fail
    refine (live_any (HT.out.below b2.out)).mono ?_
    rintro _ W3 ⟨rfl, hb3⟩
    have b3 : Hid (Below w.heap.size w W3) := Below.on' b2.out hb3
    clear hb3
    go_wp2
    go_ret
    exact ⟨rfl, b3.out⟩
  · go_wp2_with (with_reducible show Go.wpList _ _ _ _ _ _; refine wpList_load_row rfl 23 (.tmp 3) rfl w.heap.size rfl 23 K (0, 0) _ k1.out Tryd.underlying23 rfl HK.out.info ?_)
    refine (seal_any HK.out once plain a7 n c7 Hn.out HB7.out (by have := Hn.out; omega) (HT.out.below b1.out)).mono ?_
    rintro _ W2 ⟨v1, rfl, hown1, hb2⟩
    have ls : (sealB key once plain).length = n + 24 := by rw [sealB_len, Hn.out]
    obtain ⟨g, c1, rfl, hB1, hc1, _⟩ := own_some hown1 (by omega)
    rw [ls] at hc1 ⊢
    have b2 : Hid (Below w.heap.size w W2) := Below.on' b1.out hb2
    have k2 : Hid (W2.heap[w.heap.size]? = some (.cells K 23 (0, 0))) := (hb2.block _ (heap_lt k1.out)).trans k1.out
    have HB1 := hid hB1
    have HB72 : Hid (Bytes W2 a7 plain) := HB7.out.below hb2
    clear hown1 hb2 k1 b1 hB1 HB7
    have q0 : ¬ ((n + 24 : Nat) : Int) < 24 := by omega
    have q00 : ¬ (n : Int) + 24 < 24 := by omega
    go_wp2_with fail
    go_loopw [10, 11] (fun v10 v11 wr => ∃ k : Nat, k ≤ 8 ∧ v11 = .int .i64 (k : Int) ∧ v10 = .int .u64 (numB ((sealB key once plain).take k) : Int) ∧ Below W2.heap.size W2 wr) (fun _ v11 _ => 8 - (intOf v11).toNat)
    case atStart => exact ⟨0, by omega, rfl, rfl, Below.refl _ _⟩
    case round =>
      obtain ⟨k, hk, rfl, rfl, hbel⟩ := hrel
      have Hbel := hid hbel
      clear hbel
      by_cases hlt : k < 8
      · have hlt2 : k < (sealB key once plain).length := by omega
        obtain ⟨b', o', ha', hc'⟩ := (HB1.out.below Hbel.out) k hlt2
        cases ha'
        rw [Nat.zero_add] at hc'
        have Hst := hid (numB_step (sealB key once plain) k hlt2)
        have Hor := hid (or_low (numB ((sealB key once plain).take k)) ((sealB key once plain)[k]'hlt2))
        generalize numB ((sealB key once plain).take k) = m at *
        generalize (sealB key once plain)[k]'hlt2 = c at *
        have q1 : IntKind.u64.wrap ((m : Int) * 256) = ((m * 256 % 2 ^ 64 : Nat) : Int) := by rw [IntKind.wrap_u64]; omega
        have q2 : ((m : Int) * 256) % 18446744073709551616 = ((m * 256 % 2 ^ 64 : Nat) : Int) := by omega
        have q3 : IntKind.u64.wrap (c.toNat : Int) = (c.toNat : Int) := by have := c.toNat_lt; rw [IntKind.wrap_u64]; omega
        have q4 : (c.toNat : Int) % 18446744073709551616 = (c.toNat : Int) := by have := c.toNat_lt; omega
        generalize m * 256 % 2 ^ 64 = x at *
        have q5 := Hor.out
        generalize (m * 256 + c.toNat) % 2 ^ 64 = y at *
        have q6 : (k : Int) < ((n + 24 : Nat) : Int) := by omega
        have q7 : (k : Int) < (n : Int) + 24 := by omega
        clear Hor hlt2
        go_wp2
        go_roundw
        case rel => exact ⟨k + 1, by omega, by go_num, by rw [Hst.out], Hbel.out⟩
        case measure => simp [intOf]; omega
      · have Hk8 : k = 8 := by omega
        have He : Hid ((numB ((sealB key once plain).take k) : Int) = (once : Int)) := by
          show _ = _
          rw [Hk8, seal_eight, numB_be8 once ho]
        rw [He.out]
        have b3 : Hid (Below w.heap.size w wr) := Below.on' b2.out Hbel.out
        have k3 : Hid (wr.heap[w.heap.size]? = some (.cells K 23 (0, 0))) := (Hbel.out.block _ (heap_lt k2.out)).trans k2.out
        have HB13 : Hid (Bytes wr (some ⟨g, 0, none⟩) (sealB key once plain)) := HB1.out.below Hbel.out
        have HB73 : Hid (Bytes wr a7 plain) := HB72.out.below Hbel.out
        clear HB1 HB72 k2 b2 Hbel Hk8 He
        go_wp2_with fail
        refine (copy_any (sealB key once plain) (some ⟨g, 0, none⟩) (n + 24) c1 _ ls.symm HB13.out (fun e => by cases e) (by omega)).mono ?_
        rintro _ W3 ⟨v12, rfl, hown12, hb3⟩
        obtain ⟨a12, c12, rfl, hB12, hc12⟩ := bytes_of_own hown12
        rw [ls]
        have b4 : Hid (Below w.heap.size w W3) := Below.on' b3.out hb3
        have k4 : Hid (W3.heap[w.heap.size]? = some (.cells K 23 (0, 0))) := (hb3.block _ (heap_lt k3.out)).trans k3.out
        have HB14 : Hid (Bytes W3 (some ⟨g, 0, none⟩) (sealB key once plain)) := HB13.out.below hb3
        have HB74 : Hid (Bytes W3 a7 plain) := HB73.out.below hb3
        have HB124 := hid hB12
        clear hown12 hb3 b3 k3 HB13 HB73 hB12
        go_wp2_with (with_reducible show Go.wpList _ _ _ _ _ _; refine wpList_load_row rfl 23 (.tmp 3) rfl w.heap.size rfl 23 K (0, 0) _ k4.out Tryd.underlying23 rfl HK.out.info ?_)
        refine (open_sealed HK.out once ho plain (by have := Hn.out; omega) g (n + 24) c1 (by rw [Hn.out]) HB14.out hc1 (HT.out.below b4.out)).mono ?_
        rintro _ W4 ⟨v13, rfl, hown13, hb4⟩
        obtain ⟨a13, c13, rfl, hB13, hc13⟩ := bytes_of_own hown13
        rw [← Hn.out] at hown13 ⊢
        have Hrow := hid (own_row hown13 Hn.out)
        have Hat := hid (own_at hown13)
        have Hb4 := hid hb4
        clear hown13 hb4 hB13 k4
        go_wp2_with fail
        go_loopw [16] (fun v16 wr => ∃ k : Nat, k ≤ n ∧ v16 = .int .i64 (k : Int) ∧ Below W3.heap.size W3 wr ∧ ∀ gp, a13 = some ⟨gp, 0, none⟩ → W3.heap.size ≤ gp ∧ ∃ cur, wr.heap[gp]? = some (.cells cur 5 (0, 0)) ∧ n ≤ cur.size) (fun v16 _ => n - (intOf v16).toNat)
        case atStart => exact ⟨0, by omega, rfl, Hb4.out, Hrow.out⟩
        case round =>
          obtain ⟨k, hk, rfl, hbel, hrow⟩ := hrel
          have Hbel := hid hbel
          have Hrw := hid hrow
          clear hbel hrow Hrow
          by_cases hlt : k < n
          · obtain ⟨gp, rfl⟩ := Hat.out (by omega)
            obtain ⟨hgp, cur, hcur, hsz⟩ := Hrw.out gp rfl
            have hck : k < cur.size := by omega
            have cc : wr.cell? ⟨gp, k, none⟩ = some cur[k] := by rw [cell_of_row _ _ _ _ _ _ hcur, Array.getElem?_eq_getElem hck]
            have cf := frozen_of_row _ _ k _ _ hcur
            have Hcur := hid hcur
            clear hcur Hat Hrw
            generalize cur[k] = cv at *
            go_wp2
            go_roundw
            case rel =>
              refine ⟨k + 1, by omega, by go_num, Hbel.out.setCell (by simp; omega) _, fun gp' e => ?_⟩
              cases e
              exact ⟨hgp, _, heap_setCell_same _ _ _ _ _ _ Hcur.out, by simpa using hsz⟩
            case measure => simp [intOf]; omega
          · have HB75 : Hid (Bytes wr a7 plain) := HB74.out.below Hbel.out
            have HB15 : Hid (Bytes wr (some ⟨g, 0, none⟩) (sealB key once plain)) := HB14.out.below Hbel.out
            have HB125 : Hid (Bytes wr a12 (sealB key once plain)) := HB124.out.below Hbel.out
            have b5 : Hid (Below w.heap.size w wr) := Below.on' b4.out Hbel.out
            clear HB74 HB14 HB124 b4 Hbel Hrw Hat Hb4
            go_wp2_with fail
            refine (live_any (HT.out.below b5.out)).mono ?_
            rintro _ W5 ⟨rfl, hb5⟩
            have b6 : Hid (Below w.heap.size w W5) := Below.on' b5.out hb5
            have HB76 : Hid (Bytes W5 a7 plain) := HB75.out.below hb5
            have HB16 : Hid (Bytes W5 (some ⟨g, 0, none⟩) (sealB key once plain)) := HB15.out.below hb5
            have HB126 : Hid (Bytes W5 a12 (sealB key once plain)) := HB125.out.below hb5
            clear hb5 b5 HB75 HB15 HB125
            have HS : Hid (Calls Tryd.prog 11 #[.slice a7 n c7, .slice a n cap] W5 fun e w' => e = .returned (.bool true) ∧ Below W5.heap.size W5 w') := by
              show Calls _ _ _ _ _
              have h := sameBytes_any plain plain a7 a c7 cap W5 HB76.out (HP.out.bytes.below b6.out) HP.out.length HP.out.length
              rw [← Hn.out] at h
              exact h.mono fun e w' hh => by rw [decide_eq_true (rfl : plain = plain)] at hh; exact hh
            go_wp2_with fail
            refine HS.out.mono ?_
            rintro _ W6 ⟨rfl, hb6⟩
            have b7 : Hid (Below w.heap.size w W6) := Below.on' b6.out hb6
            have HB17 : Hid (Bytes W6 (some ⟨g, 0, none⟩) (sealB key once plain)) := HB16.out.below hb6
            have HB127 : Hid (Bytes W6 a12 (sealB key once plain)) := HB126.out.below hb6
            clear hb6 b6 HB76 HB16 HB126 HS
            have HS2 : Hid (Calls Tryd.prog 11 #[.slice (some ⟨g, 0, none⟩) (n + 24) c1, .slice a12 (n + 24) c12] W6 fun e w' => e = .returned (.bool true) ∧ Below W6.heap.size W6 w') := by
              show Calls _ _ _ _ _
              have h := sameBytes_any (sealB key once plain) (sealB key once plain) (some ⟨g, 0, none⟩) a12 c1 c12 W6 HB17.out HB127.out (by omega) (by omega)
              rw [ls] at h
              exact h.mono fun e w' hh => by rw [decide_eq_true (rfl : sealB key once plain = sealB key once plain)] at hh; exact hh
            go_wp2_with fail
            refine HS2.out.mono ?_
            rintro _ W7 ⟨rfl, hb7⟩
            have b8 : Hid (Below w.heap.size w W7) := Below.on' b7.out hb7
            clear hb7 b7 HB17 HB127 HS2
            go_wp2
            go_ret
            exact ⟨ret_bool (by simp), b8.out⟩
theorem sealNumber_row {w : World} {K : Array Value} {key : List UInt8} (hK : HV K key) (x : Int) (hx : (Lit.int .u64 x).wf = true) (plain : List UInt8) (a : Option Addr) (cap : Nat) (hp : BytesIn w a cap plain) (hT : KAt w) :
    Calls Tryd.prog 6 #[.agg K, .int .u64 x, .slice a plain.length cap] w fun e w' => e = .returned (.bool true) ∧ Below w.heap.size w w' := by
  obtain ⟨m, rfl, hm⟩ := u64_nat x hx
  exact sealNumber_walk hK m hm plain a cap hp hT
end Go.Proofs.YtgadjngodmbckaaDoor
