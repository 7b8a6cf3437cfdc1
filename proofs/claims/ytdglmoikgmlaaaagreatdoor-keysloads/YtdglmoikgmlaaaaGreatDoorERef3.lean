/- YtdglmoikgmlaaaaGreatDoorERef1 + YtdglmoikgmlaaaaGreatDoorERef2 + YtdglmoikgmlaaaaGreatDoorERef3 -/
import Derived.Test.YtdglmoikgmlaaaaGreatDoorJ7
import Derived.Test.YtdglmoikgmlaaaaGreatDoorHRefDer
/- The reference's bytes of a hash, number in eight bytes, and tag of a sealed text. -/
namespace Go.Proofs.YtdglmoikgmlaaaaGreatDoor
open Go.RowKit
set_option linter.unusedVariables false
set_option maxRecDepth 20000
set_option maxHeartbeats 400000 in
theorem refBytes_any {w : World} {H : Array Value} {h : List UInt8} (hH : HV H h) :
    Calls Tryz.prog 81 #[.agg H] w fun e w' => ∃ v, e = .returned v ∧ w'.ownsRow w.heap.size 5 1 v h.length (cellsOf h) ∧ Below w.heap.size w w' := by
  have HH := hid hH
  have x0 := hid (heap_alloc_new w (.cells H 23))
  have hsz : (Tryz.prog.info? 23).map (·.size) = some H.size := hH.info
  clear hH
  go_enter Tryz.func81, Tryz.ntmps81
  go_wp2_with (with_reducible show Go.wpList _ _ _ _ _ _; refine wpList_load_row rfl 23 _ rfl w.heap.size rfl _ _ _ _ x0.out Tryz.underlying23 rfl hsz ?_)
  refine (bytesOf_any HH.out).mono ?_
  rintro _ w1 ⟨v, rfl, ho, hb⟩
  have Ho := hid ho
  have Hb : Hid (Below w.heap.size w w1) := Below.on' ((Below.refl _ w).alloc (Nat.le_refl _) _) hb
  clear ho hb
  go_wp2
  go_ret
  exact ⟨v, rfl, own_mono Ho.out (by simp), Hb.out⟩
set_option maxHeartbeats 1000000 in
theorem eight_any {w : World} (n : Nat) :
    Calls Tryz.prog 66 #[.int .u64 (n : Int)] w fun e w' => ∃ v, e = .returned v ∧ w'.ownsRow w.heap.size 5 1 v 8 (cellsOf (be8 n)) ∧ Below w.heap.size w w' := by
  have Hown0 : Hid (w.ownsRow w.heap.size 5 1 (.slice none 0 0) (numAt [] n 0).length (cellsOf (numAt [] n 0))) := by
    show World.ownsRow _ _ _ _ _ _ _
    rw [numAt_zero]; exact World.ownsRow_nil _ _ _ _
  go_enter Tryz.func66, Tryz.ntmps66
  go_wp2
  go_loopw [3, 4] (fun v3 v4 wr => ∃ k : Nat, k ≤ 8 ∧ v4 = .int .i64 (k : Int) ∧ wr.ownsRow w.heap.size 5 1 v3 (numAt [] n k).length (cellsOf (numAt [] n k)) ∧ Below w.heap.size w wr) (fun _ v4 _ => 8 - (intOf v4).toNat)
  case atStart => exact ⟨0, by omega, rfl, Hown0.out, Below.refl _ _⟩
  case round =>
    obtain ⟨k, hk, rfl, hown, hbel⟩ := hrel
    have Hown := hid hown
    have Hbel := hid hbel
    have hle := hbel.size
    clear hown hbel Hown0
    by_cases hlt : k < 8
    · have r0 : (0 : Int) ≤ 56 - 8 * (k : Int) := by omega
      have r1 : (56 : Int) - 8 * (k : Int) ≤ 64 := by omega
      have Hst := hid (numAt_step [] n k hlt)
      obtain ⟨b, hb8⟩ : ∃ b, b = UInt8.ofNat (n / 2 ^ (56 - 8 * k)) := ⟨_, rfl⟩
      have q5 : (n : Int) / 2 ^ (56 - 8 * k) % 256 = (b.toNat : Int) := by
        have h := byte_of (n / 2 ^ (56 - 8 * k))
        rw [← hb8, IntKind.wrap_u8] at h
        rw [← h]
        simp
      rw [← hb8] at Hst
      have Hlen := hid (numAt_length [] n k)
      clear hb8
      go_wp2_with (at_builtin; refine app_lits _ rfl (.tmp 9) (.tmp 16) rfl w.heap.size _ (numAt [] n k) rfl Hown.out [b] 1 rfl rfl (by have := Hlen.out; simp at this; omega) hle ?_; intro v' w' hown' hb' hv'; have Hown' := hid hown'; have Hb' := hid hb'; clear hown' hb' hv')
      go_roundw
      case rel =>
        refine ⟨k + 1, by omega, by go_num, ?_, Hbel.out.trans Hb'.out⟩
        rw [← Hst.out]; exact Hown'.out
      case measure => simp [intOf]; omega
    · have hk8 : k = 8 := by omega
      have Hend : Hid (numAt [] n k = be8 n) := by
        show _ = _
        rw [hk8, numAt_all, List.nil_append]
      clear hk8
      go_wp2
      go_ret
      have h := Hown.out
      rw [Hend.out, be8_length] at h
      exact ⟨_, rfl, h, Hbel.out⟩
def Tag8 (w : World) (l : List UInt8) (e : Ending) (w' : World) : Prop := ∃ g cap, e = .returned (.slice (some ⟨g, 0, none⟩) 16 cap) ∧ 16 ≤ cap ∧ w.heap.size ≤ g ∧ Bytes w' (some ⟨g, 0, none⟩) l ∧ Below w.heap.size w w'
set_option maxHeartbeats 1000000 in
theorem refTag8_any {w : World} {K : Array Value} {key : List UInt8} (hK : HV K key) (b : List UInt8) (a : Option Addr) (n cap : Nat) (hn : n = b.length) (hB : Bytes w a b) (hc : a = none → cap = 0) (hl : b.length ≤ 1000000) :
    Calls Tryz.prog 67 #[.agg K, .slice a n cap] w (Tag8 w (tagB key b)) := by
  have HK := hid hK
  have HB := hid hB
  have Hn := hid hn
  have Hc := hid hc
  have x0 := hid (heap_alloc_new w (.cells K 23))
  have b0 : Hid (Below w.heap.size w (w.alloc (.cells K 23))) := (Below.refl _ w).alloc (Nat.le_refl _) _
  have hinf : (Tryz.prog.info? 23).map (·.size) = some K.size := hK.info
  have lk : key.length = 32 := hK.len
  obtain ⟨W0, hW0⟩ : ∃ W0, W0 = w.alloc (.cells K 23) := ⟨_, rfl⟩
  have HW0 := hid hW0
  rw [← hW0] at x0 b0
  have s0 : Hid (W0.heap.size = w.heap.size + 1) := by show _ = _; rw [hW0]; simp
  obtain ⟨W1, hW1⟩ : ∃ W1, W1 = W0.alloc (.cells (cellsOf [116]).toArray 5) := ⟨_, rfl⟩
  have HW1 := hid hW1
  have b01 : Hid (Below W0.heap.size W0 W1) := by show Below _ _ _; rw [hW1]; exact (Below.refl _ W0).alloc (Nat.le_refl _) _
  have Hb01 : Hid (Bytes W1 a b) := (HB.out.below b0.out).below b01.out
  have Hol : Hid (W1.ownsRow (w.heap.size + 1) 5 1 (.slice (some ⟨w.heap.size + 1, 0, none⟩) 1 1) ([116] : List UInt8).length (cellsOf [116])) := by
    show World.ownsRow _ _ _ _ _ _ _
    have h := own_lits W0 [116] (by simp)
    rw [s0.out, ← hW1] at h
    exact h
  have s1 : Hid (w.heap.size + 1 ≤ W1.heap.size) := by have := b01.out.size; have := s0.out; show _ ≤ _; omega
  clear hK hB hn hc hW0 hW1
  obtain ⟨m, hm⟩ : ∃ m, m = [116] ++ b := ⟨_, rfl⟩
  obtain ⟨nm, hnm⟩ : ∃ nm, m.length = nm := ⟨_, rfl⟩
  have l1 : nm = b.length + 1 := by rw [← hnm, hm]; simp
  have Hm := hid hm
  have Hnm := hid hnm
  clear hm hnm
  go_enter Tryz.func67, Tryz.ntmps67
  go_wp2_with (first
    | (at_builtin; rw [← HW0.out]; rw [show W0.alloc (.cells #[.int .u8 116] 5) = W1 from HW1.out.symm]; refine app_src _ rfl (.tmp 6) (.tmp 7) rfl (w.heap.size + 1) _ [116] rfl Hol.out a n cap b Hn.out rfl Hb01.out Hc.out (by simp; omega) s1.out ?_; intro v2 W2 ho2 hb2; rw [← Hm.out] at ho2; have b2 : Hid (Below W0.heap.size W0 W2) := b01.out.trans (hb2.mono (by have := s0.out; omega)); obtain ⟨a2, c2, rfl, B2, lc2, hn2⟩ := bytes_ofH ho2; rw [Hnm.out] at lc2 ⊢; have HB2 := hid B2; have Hn2 := hid hn2; have x2 : Hid (W2.heap[w.heap.size]? = some (.cells K 23 (0, 0))) := (b2.out.block _ (heap_lt x0.out)).trans x0.out; have b2' : Hid (Below w.heap.size w W2) := Below.on' b0.out b2.out; clear ho2 hb2 B2 hn2 b2 Hol Hb01 b01 x0 b0)
    | (with_reducible show Go.wpList _ _ _ _ _ _; refine wpList_load_row rfl 23 _ rfl w.heap.size rfl _ _ _ _ x2.out Tryz.underlying23 rfl hinf ?_))
  refine (refBytes_any HK.out).mono ?_
  rintro _ W3 ⟨v3, rfl, ho3, hb3⟩
  obtain ⟨a3, c3, rfl, B3, lc3, hn3⟩ := bytes_ofH ho3
  have HB3 := hid B3
  have Hn3 := hid hn3
  have HB23 : Hid (Bytes W3 a2 m) := HB2.out.below hb3
  have b3 : Hid (Below w.heap.size w W3) := Below.on' b2'.out hb3
  clear ho3 hb3 B3 hn3 HB2 b2' x2
  go_wp2_with fail
  obtain ⟨T, hT⟩ : ∃ T, T = hmac key m := ⟨_, rfl⟩
  have HTg : Hid (tagB key b = T.take 16) := by show _ = _; rw [hT, Hm.out]; simp only [tagB, List.cons_append, List.nil_append]
  refine (refTag_any sumOk key a3 32 c3 lk.symm HB3.out Hn3.out (by omega) lc3 m a2 (b.length + 1) c2 (by rw [Hnm.out, l1]) HB23.out Hn2.out (by rw [Hnm.out]; omega) (by rw [Hnm.out]; exact lc2)).mono ?_
  rintro _ W4 ⟨O, rfl, hO, hb4⟩
  rw [← hT] at hO
  have HO := hid hO
  clear hT
  have b4 : Hid (Below w.heap.size w W4) := Below.on' b3.out hb4
  clear hb4 hO b3 HB3 HB23
  go_wp2_with fail
  refine (refBytes_any HO.out).mono ?_
  rintro _ W5 ⟨v5, rfl, ho5, hb5⟩
  have lO : T.length = 32 := HO.out.len
  have b5 : Hid (Below w.heap.size w W5) := Below.on' b4.out hb5
  have s5 : w.heap.size ≤ W4.heap.size := b4.out.size
  obtain ⟨a6, c6, rfl, _, _, _⟩ := bytes_ofH ho5
  obtain ⟨g5, c5, e5, B5, lc5, hg5⟩ := own_some5 ho5 (by omega)
  cases e5
  rw [lO] at lc5 ⊢
  have HB5 := hid B5
  have q16 : (16 : Int) ≤ (c6 : Int) := by omega
  have lc5' : 16 ≤ c6 := by omega
  clear ho5 hb5 B5 b4
  go_wp2
  go_ret
  refine ⟨g5, c6, rfl, lc5', Nat.le_trans s5 hg5, ?_, b5.out⟩
  rw [HTg.out]
  intro i hi
  have hi' : i < 16 := by simp at hi; omega
  obtain ⟨bb, oo, e, hcl⟩ := HB5.out i (by rw [lO]; omega)
  refine ⟨bb, oo, e, ?_⟩
  rw [hcl]
  simp
end Go.Proofs.YtdglmoikgmlaaaaGreatDoor
/- The reference's stream. -/
namespace Go.Proofs.YtdglmoikgmlaaaaGreatDoor
open Go.RowKit
set_option linter.unusedVariables false
set_option maxRecDepth 20000
theorem bytes_take {w : World} {a : Option Addr} {l : List UInt8} (h : Bytes w a l) (n : Nat) : Bytes w a (l.take n) := fun i hi => by
  have h1 : i < l.length := by simp at hi; omega
  obtain ⟨b, o, e, hc⟩ := h i h1
  exact ⟨b, o, e, by rw [hc]; simp⟩
theorem nblk_le {n k : Nat} (hk : k ≤ nblk n) (h : n ≤ 32 * k) : k = nblk n := by unfold nblk at *; omega
theorem nblk_lt {n k : Nat} (hk : k ≤ nblk n) (h : 32 * k < n) : k + 1 ≤ nblk n := by unfold nblk at *; omega
theorem sblock_eq (key : List UInt8) (once k : Nat) : hmac key ([115] ++ be8 once ++ be8 k) = sblock key once k := by
  simp only [sblock, List.cons_append, List.nil_append]
def StreamPost (w : World) (key : List UInt8) (once n : Nat) (e : Ending) (w' : World) : Prop :=
  ∃ a cap, e = .returned (.tuple #[.slice a n cap, .int .i64 0]) ∧ Bytes w' a ((strm key once (nblk n)).take n) ∧ n ≤ cap ∧ (a = none → cap = 0) ∧ Below w.heap.size w w'
set_option maxHeartbeats 400000 in
theorem refStream_bad {w : World} {K : Array Value} {key : List UInt8} (hK : HV K key) (once : Nat) (n : Int) (hn : n < 0 ∨ 1024 < n) :
    Calls Tryz.prog 65 #[.agg K, .int .u64 (once : Int), .int .i64 n] w fun e w' => e = .returned (.tuple #[.slice none 0 0, .int .i64 2]) ∧ Below w.heap.size w w' := by
  have hinf : (Tryz.prog.info? 23).map (·.size) = some K.size := hK.info
  have b0 : Hid (Below w.heap.size w (w.alloc (.cells K 23))) := (Below.refl _ w).alloc (Nat.le_refl _) _
  rcases (show n < 0 ∨ (¬ n < 0 ∧ 1024 < n) by omega) with h | ⟨h, h'⟩
  · clear hn
    go_enter Tryz.func65, Tryz.ntmps65
    go_wp2
    go_ret2
    exact ⟨rfl, b0.out⟩
  · clear hn
    go_enter Tryz.func65, Tryz.ntmps65
    go_wp2
    go_ret2
    exact ⟨rfl, b0.out⟩
set_option maxHeartbeats 2000000 in
theorem refStream_any {w : World} {K : Array Value} {key : List UInt8} (hK : HV K key) (once n : Nat) (hn : n ≤ 1024) :
    Calls Tryz.prog 65 #[.agg K, .int .u64 (once : Int), .int .i64 (n : Int)] w (StreamPost w key once n) := by
  have HK := hid hK
  have hinf : (Tryz.prog.info? 23).map (·.size) = some K.size := hK.info
  have Hlk := hid hK.len
  have q0 : ¬ (n : Int) < 0 := by omega
  have q1 : ¬ (1024 : Int) < (n : Int) := by omega
  have x0 := hid (heap_alloc_new w (.cells K 23))
  have b0 : Hid (Below w.heap.size w (w.alloc (.cells K 23))) := (Below.refl _ w).alloc (Nat.le_refl _) _
  clear hK
  go_enter Tryz.func65, Tryz.ntmps65
  go_wp2
  clear q0 q1
  go_loopw [8, 9] (fun v8 v9 wr => ∃ k : Nat, k ≤ nblk n ∧ v9 = .int .i64 (k : Int) ∧ wr.ownsRow (w.heap.size + 1) 5 1 v8 (strm key once k).length (cellsOf (strm key once k)) ∧ wr.heap[w.heap.size]? = some (.cells K 23 (0, 0)) ∧ Below w.heap.size w wr) (fun _ v9 _ => nblk n - (intOf v9).toNat)
  case atStart => exact ⟨0, Nat.zero_le _, rfl, World.ownsRow_nil _ _ _ _, x0.out, b0.out⟩
  case round =>
    obtain ⟨k, hk, rfl, hown, hx, hbel⟩ := hrel
    have Hown := hid hown
    have Hx := hid hx
    have Hbel := hid hbel
    have hsz : w.heap.size + 1 ≤ wr.heap.size := heap_lt hx
    have Hls := hid (strm_len key once k)
    obtain ⟨a8, c8, rfl, B8, lc8, hn8⟩ := bytes_ofH hown
    obtain ⟨N8, hN8⟩ : ∃ N8, N8 = (strm key once k).length := ⟨_, rfl⟩
    have hN : N8 = 32 * k := by rw [hN8, Hls.out]
    rw [← hN8] at lc8 ⊢
    have Hown8 : Hid (wr.ownsRow (w.heap.size + 1) 5 1 (.slice a8 N8 c8) (strm key once k).length (cellsOf (strm key once k))) := (by show World.ownsRow _ _ _ _ _ _ _; rw [hN8]; exact Hown.out)
    have HB8 := hid B8
    have Hn8 := hid hn8
    have HN8 := hid hN8
    have HN := hid hN
    have hk33 : k ≤ 33 := by have : nblk n ≤ 33 := by { unfold nblk; omega }; omega
    clear hown hx hbel x0 b0 B8 hn8 hN8 hN Hown
    by_cases hlt : N8 < n
    · have d1 : (N8 : Int) < (n : Int) := by omega
      have Hk1 : Hid (k + 1 ≤ nblk n) := nblk_lt hk (by have := HN.out; omega)
      have w1 : IntKind.u64.wrap (k : Int) = (k : Int) := by rw [IntKind.wrap_u64]; omega
      go_wp2_with fail
      refine (eight_any once).mono ?_
      rintro _ W1 ⟨v1, rfl, ho1, hb1⟩
      have ho1' : W1.ownsRow (wr.alloc (.cells (cellsOf [115]).toArray 5)).heap.size 5 1 v1 (be8 once).length (cellsOf (be8 once)) := by rw [be8_length]; exact ho1
      obtain ⟨a1, c1, rfl, B1, lc1, hn1⟩ := bytes_ofH ho1'
      rw [be8_length] at lc1 ⊢
      have Hol : Hid (W1.ownsRow wr.heap.size 5 1 (.slice (some ⟨wr.heap.size, 0, none⟩) 1 1) ([115] : List UInt8).length (cellsOf [115])) := own_onH (own_lits wr [115] (by simp)) hb1
      have HB1 := hid B1
      have Hn1 := hid hn1
      have b1 : Hid (Below wr.heap.size wr W1) := ((Below.refl _ wr).alloc (Nat.le_refl _) _).trans (hb1.mono (by simp))
      have s1 : Hid (wr.heap.size ≤ W1.heap.size) := b1.out.size
      clear ho1 ho1' hb1 B1 hn1
      go_wp2_with (at_builtin; refine app_src _ rfl (.tmp 23) (.tmp 25) rfl wr.heap.size _ [115] rfl Hol.out a1 8 c1 (be8 once) (be8_length _).symm rfl HB1.out Hn1.out (by rw [be8_length]; simp) s1.out ?_; intro v2 W2 ho2 hb2; have Ho2 := hid ho2; have b2 : Hid (Below wr.heap.size wr W2) := b1.out.trans hb2; clear ho2 hb2)
      refine (eight_any k).mono ?_
      rintro _ W3 ⟨v3, rfl, ho3, hb3⟩
      have ho3' : W3.ownsRow W2.heap.size 5 1 v3 (be8 k).length (cellsOf (be8 k)) := by rw [be8_length]; exact ho3
      obtain ⟨a3, c3, rfl, B3, lc3, hn3⟩ := bytes_ofH ho3'
      rw [be8_length] at lc3 ⊢
      have Ho3 : Hid (W3.ownsRow wr.heap.size 5 1 v2 ([115] ++ be8 once).length (cellsOf ([115] ++ be8 once))) := own_onH Ho2.out hb3
      have HB3 := hid B3
      have Hn3 := hid hn3
      have b3 : Hid (Below wr.heap.size wr W3) := Below.on' b2.out hb3
      have s3 : Hid (wr.heap.size ≤ W3.heap.size) := b3.out.size
      have L2 : Hid (([115] ++ be8 once).length = 9) := by show _ = _; rw [List.length_append, be8_length]; rfl
      clear ho3 ho3' hb3 B3 hn3 Ho2 b2 b1 s1 Hol HB1 Hn1
      go_wp2_with (first
        | (at_builtin; refine app_src _ rfl (.tmp 27) (.tmp 30) rfl wr.heap.size _ ([115] ++ be8 once) rfl Ho3.out a3 8 c3 (be8 k) (be8_length _).symm rfl HB3.out Hn3.out (by rw [be8_length, L2.out]; omega) s3.out ?_; intro v4 W4 ho4 hb4; have b4 : Hid (Below wr.heap.size wr W4) := b3.out.trans hb4; have x4 : Hid (W4.heap[w.heap.size]? = some (.cells K 23 (0, 0))) := (b4.out.block _ (heap_lt Hx.out)).trans Hx.out; obtain ⟨a4, c4, rfl, B4, lc4, hn4⟩ := bytes_ofH ho4; have L4 : Hid (([115] ++ be8 once ++ be8 k).length = 17) := (by show _ = _; rw [List.length_append, be8_length, L2.out]); rw [L4.out] at lc4 ⊢; have HB4 := hid B4; have Hn4 := hid hn4; clear ho4 hb4 B4 hn4 Ho3 b3 HB3 Hn3)
        | (with_reducible show Go.wpList _ _ _ _ _ _; refine wpList_load_row rfl 23 _ rfl w.heap.size rfl _ _ _ _ x4.out Tryz.underlying23 rfl hinf ?_))
      refine (refBytes_any HK.out).mono ?_
      rintro _ W5 ⟨v5, rfl, ho5, hb5⟩
      obtain ⟨a5, c5, rfl, B5, lc5, hn5⟩ := bytes_ofH ho5
      rw [Hlk.out] at lc5 ⊢
      have HB5 := hid B5
      have Hn5 := hid hn5
      have HB45 : Hid (Bytes W5 a4 ([115] ++ be8 once ++ be8 k)) := HB4.out.below hb5
      have b5 : Hid (Below wr.heap.size wr W5) := Below.on' b4.out hb5
      clear ho5 hb5 B5 hn5 HB4 b4 x4
      go_wp2_with fail
      refine (refTag_any sumOk key a5 32 c5 Hlk.out.symm HB5.out Hn5.out (by rw [Hlk.out]; omega) (by rw [Hlk.out]; exact lc5) ([115] ++ be8 once ++ be8 k) a4 17 c4 L4.out.symm HB45.out Hn4.out (by rw [L4.out]; omega) (by rw [L4.out]; exact lc4)).mono ?_
      rintro _ W6 ⟨O, rfl, hO, hb6⟩
      rw [sblock_eq] at hO
      have HO := hid hO
      have b6 : Hid (Below wr.heap.size wr W6) := Below.on' b5.out hb6
      clear hO hb6 b5 HB5 HB45
      go_wp2_with fail
      refine (refBytes_any HO.out).mono ?_
      rintro _ W7 ⟨v7, rfl, ho7, hb7⟩
      obtain ⟨a7, c7, rfl, B7, lc7, hn7⟩ := bytes_ofH ho7
      rw [sblock_len] at lc7 ⊢
      have HB7 := hid B7
      have Hn7 := hid hn7
      have b7 : Hid (Below wr.heap.size wr W7) := Below.on' b6.out hb7
      have Ho7 : Hid (W7.ownsRow (w.heap.size + 1) 5 1 (.slice a8 N8 c8) (strm key once k).length (cellsOf (strm key once k))) := own_onH Hown8.out b7.out
      have s7 : Hid (w.heap.size + 1 ≤ W7.heap.size) := by have := b7.out.size; show _ ≤ _; omega
      clear ho7 hb7 B7 hn7 b6
      go_wp2_with (at_builtin; refine app_src _ rfl (.tmp 32) (.tmp 37) rfl (w.heap.size + 1) _ (strm key once k) rfl Ho7.out a7 32 c7 (sblock key once k) (sblock_len _ _ _).symm rfl HB7.out Hn7.out (by rw [sblock_len, Hls.out]; omega) s7.out ?_; intro v9 W9 ho9 hb9; have Ho9 := hid ho9; have b9 := hid hb9; clear ho9 hb9)
      go_roundw
      case rel =>
        refine ⟨k + 1, Hk1.out, by go_num, ?_, ?_, ?_⟩
        · rw [strm_succ]; exact Ho9.out
        · exact (b9.out.block _ (by omega)).trans ((b7.out.block _ (heap_lt Hx.out)).trans Hx.out)
        · exact (Below.on' Hbel.out b7.out).trans (b9.out.mono (by omega))
      case measure => have := Hk1.out; simp [intOf]; omega
    · have d1 : ¬ (N8 : Int) < (n : Int) := by omega
      have hke : k = nblk n := nblk_le hk (by have := HN.out; omega)
      have d2 : (n : Int) ≤ (c8 : Int) := by omega
      have Hke := hid hke
      have hnc : n ≤ c8 := by omega
      clear hke
      cases a8 with
      | none =>
        have hc0 : c8 = 0 := Hn8.out rfl
        subst hc0
        have hn0 : n = 0 := by omega
        subst hn0
        go_wp2
        go_ret2
        exact ⟨none, 0, rfl, fun i hi => by simp at hi, Nat.le_refl _, fun _ => rfl, Hbel.out⟩
      | some ad =>
        obtain ⟨ab, ao, sp⟩ := ad
        go_wp2
        go_ret2
        refine ⟨_, _, rfl, ?_, hnc, (fun h => nomatch h), Hbel.out⟩
        rw [← Hke.out]
        exact bytes_take HB8.out n
end Go.Proofs.YtdglmoikgmlaaaaGreatDoor
/- The reference's Seal. -/
namespace Go.Proofs.YtdglmoikgmlaaaaGreatDoor
open Go.RowKit
set_option linter.unusedVariables false
set_option maxRecDepth 20000
theorem y_addiE {ops : Array Oper} {S : World → Prop} {op : Oper} {a : Act} (hw : Region.wanted op (yielded ops a.tmps) = true) (x y : Operand) (ho : op.op = .binOp .add 3 x y 3) (p q z : Int) (hx : a.eval x = .int .i64 p) (hy : a.eval y = .int .i64 q) (hz : IntKind.i64.wrap (p + q) = z) : YieldsIf Tryz.prog ops S op (.int .i64 z) a := y_addi hw x y ho p q z hx hy hz
theorem wp_app1 (w : World) {o : Oper} {a : Act} {K : Act → World → Prop} {Q : Exit → Act → World → Prop} (hgd : o.guard = none) (s x : Operand)
    (ho : o.op = .call { callee := .builtin .append, args := #[s, x], argTypes := #[41, 41] }) (base : Nat) (v : Value) (xs : List UInt8) (hs : a.eval s = v)
    (hown : w.ownsRow base 5 1 v xs.length (cellsOf xs)) (cs : List UInt8) (m : Nat) (hm : cs.length = m) (hx : a.eval x = .slice (some ⟨w.heap.size, 0, none⟩) m m) (hb : xs.length + m ≤ 140737488355328) (hbase : base ≤ w.heap.size)
    (h : ∀ v' w', w'.ownsRow base 5 1 v' (xs ++ cs).length (cellsOf (xs ++ cs)) → Below base w w' → K (a.put o.dst v') w') : o.wp Tryz.prog a (w.alloc (.cells (cellsOf cs).toArray 5)) K Q := by
  refine wp_of_list (ops := #[]) hgd (fun A9 X9 => ∃ v9, A9 = a.put o.dst v9 ∧ X9.ownsRow base 5 1 v9 (xs ++ cs).length (cellsOf (xs ++ cs)) ∧ Below base w X9) (app_lits w hgd s x ho base v xs hs hown cs m hm hx hb hbase (fun v9 w9 h1 h2 h3 => wpList_nil ⟨rfl, v9, rfl, h1, h2⟩)) ?_
  rintro _ w9 ⟨v9, rfl, h1, h2⟩
  exact h v9 w9 h1 h2
theorem cells_alloc {A B : Addr} {P Q : UInt8} {w : World} (h : w.cell? A = some (.int .u8 (P.toNat : Int)) ∧ w.cell? B = some (.int .u8 (Q.toNat : Int))) (o : Obj) : (w.alloc o).cell? A = some (.int .u8 (P.toNat : Int)) ∧ (w.alloc o).cell? B = some (.int .u8 (Q.toNat : Int)) := by
  have hb : Below w.heap.size w (w.alloc o) := (Below.refl _ w).alloc (Nat.le_refl _) o
  exact ⟨(hb.cell (World.block_lt_of_cell? _ _ h.1)).trans h.1, (hb.cell (World.block_lt_of_cell? _ _ h.2)).trans h.2⟩
theorem cells_below {A B : Addr} {P Q : UInt8} {w w' : World} {n : Nat} (h : w.cell? A = some (.int .u8 (P.toNat : Int)) ∧ w.cell? B = some (.int .u8 (Q.toNat : Int))) (hb : Below n w w') (hl : A.block < n ∧ B.block < n) : w'.cell? A = some (.int .u8 (P.toNat : Int)) ∧ w'.cell? B = some (.int .u8 (Q.toNat : Int)) :=
  ⟨(hb.cell hl.1).trans h.1, (hb.cell hl.2).trans h.2⟩
theorem xor8_comm (a b : UInt8) : a ^^^ b = b ^^^ a := UInt8.xor_comm a b
theorem cross_step (key : List UInt8) (once : Nat) (l : List UInt8) (k : Nat) (h : k < l.length) :
    (cross key once l).take (k + 1) = (cross key once l).take k ++ [(l[k]) ^^^ ((strm key once (nblk l.length)).take l.length)[k]'(by rw [List.length_take, strm_len, nblk]; omega)] := by
  have hl : k < (cross key once l).length := by rw [cross_len]; exact h
  rw [List.take_succ_eq_append_getElem hl]
  congr 2
  have e := xor_get (strm key once (nblk l.length)) l k h (by rw [strm_len, nblk]; omega)
  rw [List.getElem_take, xor8_comm]
  exact e
set_option maxHeartbeats 400000 in
theorem refSeal_long {w : World} {K : Array Value} {key : List UInt8} (hK : HV K key) (once n : Nat) (a : Option Addr) (cap : Nat) (hl : 1024 < n) :
    Calls Tryz.prog 47 #[.agg K, .int .u64 (once : Int), .slice a n cap] w fun e w' => e = .returned (.tuple #[.slice none 0 0, .int .i64 6]) ∧ Below w.heap.size w w' := by
  have HK := hid hK
  have hinf : (Tryz.prog.info? 23).map (·.size) = some K.size := hK.info
  have x0 := hid (heap_alloc_new w (.cells K 23))
  have b0 : Hid (Below w.heap.size w (w.alloc (.cells K 23))) := (Below.refl _ w).alloc (Nat.le_refl _) _
  have hn : (n : Int) < 0 ∨ 1024 < (n : Int) := by omega
  have Hn := hid hn
  clear hK hn
  go_enter Tryz.func47, Tryz.ntmps47
  go_wp2_with (with_reducible show Go.wpList _ _ _ _ _ _; refine wpList_load_row rfl 23 _ rfl w.heap.size rfl _ _ _ _ x0.out Tryz.underlying23 rfl hinf ?_)
  refine (refStream_bad HK.out once (n : Int) Hn.out).mono ?_
  rintro _ W1 ⟨rfl, hb1⟩
  have b1 : Hid (Below w.heap.size w W1) := Below.on' b0.out hb1
  clear hb1
  go_wp2
  go_ret2
  exact ⟨rfl, b1.out⟩
set_option maxHeartbeats 4000000 in
theorem refSeal_own {w : World} {K : Array Value} {key : List UInt8} (hK : HV K key) (once : Nat) (plain : List UInt8) (a : Option Addr) (n cap : Nat) (hn : n = plain.length) (hB : Bytes w a plain) (hl : plain.length ≤ 1024) :
    Calls Tryz.prog 47 #[.agg K, .int .u64 (once : Int), .slice a n cap] w fun e w' => ∃ a' cap', e = .returned (.tuple #[.slice a' (n + 24) cap', .int .i64 0]) ∧ Bytes w' a' (sealB key once plain) ∧ Below w.heap.size w w' ∧ ∀ b o, a' = some ⟨b, o, none⟩ → w.heap.size ≤ b := by
  have HK := hid hK
  have HB := hid hB
  have Hn := hid hn
  have hinf : (Tryz.prog.info? 23).map (·.size) = some K.size := hK.info
  have x0 := hid (heap_alloc_new w (.cells K 23))
  have b0 : Hid (Below w.heap.size w (w.alloc (.cells K 23))) := (Below.refl _ w).alloc (Nat.le_refl _) _
  obtain ⟨np, hnp⟩ : ∃ np, np = n := ⟨_, rfl⟩
  rw [← hnp]
  have hnp1 : np ≤ 1024 := by omega
  have Hnp : Hid (np = plain.length) := hnp.trans hn
  clear hK hB hn hnp Hn
  go_enter Tryz.func47, Tryz.ntmps47
  go_wp2_with (with_reducible show Go.wpList _ _ _ _ _ _; refine wpList_load_row rfl 23 _ rfl w.heap.size rfl _ _ _ _ x0.out Tryz.underlying23 rfl hinf ?_)
  refine (refStream_any HK.out once np hnp1).mono ?_
  rintro _ W1 ⟨a2, c2, rfl, B2, lc2, hn2, hb1⟩
  have HB2 := hid B2
  have b1 : Hid (Below w.heap.size w W1) := Below.on' b0.out hb1
  have x1 : Hid (W1.heap[w.heap.size]? = some (.cells K 23 (0, 0))) := (hb1.block _ (heap_lt x0.out)).trans x0.out
  clear hb1 B2 hn2 x0 b0
  go_wp2_with fail
  refine (eight_any once).mono ?_
  rintro _ W2 ⟨v2, rfl, ho2, hb2⟩
  obtain ⟨B0, hB0⟩ : ∃ B0, B0 = W1.heap.size := ⟨_, rfl⟩
  rw [← hB0] at ho2 hb2
  have Ho2 : Hid (W2.ownsRow B0 5 1 v2 (be8 once ++ (cross key once plain).take 0).length (cellsOf (be8 once ++ (cross key once plain).take 0))) := by
    show World.ownsRow _ _ _ _ _ _ _
    rw [List.take_zero, List.append_nil, be8_length]; exact ho2
  have HB0 := hid hB0
  have b2 := hid hb2
  have hwB : w.heap.size < B0 := by rw [hB0]; exact heap_lt x1.out
  clear ho2 hb2 hB0
  go_wp2_with fail
  go_loopw [10, 11] (fun v10 v11 wr => ∃ k : Nat, k ≤ np ∧ v11 = .int .i64 (k : Int) ∧ wr.ownsRow B0 5 1 v10 (be8 once ++ (cross key once plain).take k).length (cellsOf (be8 once ++ (cross key once plain).take k)) ∧ Below B0 W1 wr) (fun _ v11 _ => np - (intOf v11).toNat)
  case atStart => exact ⟨0, Nat.zero_le _, rfl, Ho2.out, b2.out⟩
  case round =>
    clear Ho2 b2
    obtain ⟨k, hk, rfl, hown, hbel⟩ := hrel
    have Hown := hid hown
    have Hbel := hid hbel
    have Hbig : Hid (B0 ≤ wr.heap.size) := (by have := hbel.size; have := HB0.out; show _ ≤ _; omega)
    have Hlen : Hid ((be8 once ++ (cross key once plain).take k).length = 8 + k) := (by show _ = _; rw [List.length_append, be8_length, List.length_take, cross_len]; have := Hnp.out; omega)
    clear hown hbel
    by_cases hlt : k < np
    · have d1 : (k : Int) < (np : Int) := by omega
      have hkp : k < plain.length := by have := Hnp.out; omega
      have hkx : k < ((strm key once (nblk np)).take np).length := by rw [List.length_take, strm_len, nblk]; omega
      obtain ⟨b1', o1, e1, hc1⟩ := (HB.out.below b1.out) k hkp
      obtain ⟨b2', o2, e2, hc2⟩ := HB2.out k hkx
      subst e1
      subst e2
      obtain ⟨b1, rfl⟩ : ∃ b1, b1 = b1' := ⟨_, rfl⟩
      obtain ⟨b2, rfl⟩ : ∃ b2, b2 = b2' := ⟨_, rfl⟩
      have l1 : b1 < B0 := by rw [HB0.out]; exact World.block_lt_of_cell? _ _ hc1
      have l2 : b2 < B0 := by rw [HB0.out]; exact World.block_lt_of_cell? _ _ hc2
      have Hstep := hid (cross_step key once plain k hkp)
      have hQ : ((strm key once (nblk plain.length)).take plain.length)[k]'(by rw [List.length_take, strm_len, nblk]; omega) = ((strm key once (nblk np)).take np)[k]'hkx := by simp only [Hnp.out]
      rw [hQ] at Hstep
      generalize ((strm key once (nblk np)).take np)[k]'hkx = Q at hc2 Hstep
      generalize plain[k]'hkp = P at hc1 Hstep
      have s8 : wr.drew.cell? ⟨b1, o1 + k, none⟩ = some (.int .u8 (P.toNat : Int)) ∧ wr.drew.cell? ⟨b2, o2 + k, none⟩ = some (.int .u8 (Q.toNat : Int)) :=
        ⟨(Hbel.out.drew.cell l1).trans hc1, (Hbel.out.drew.cell l2).trans hc2⟩
      have Hlt : Hid ((⟨b1, o1 + k, none⟩ : Addr).block < B0 ∧ (⟨b2, o2 + k, none⟩ : Addr).block < B0) := ⟨l1, l2⟩
      clear hc1 hc2 hQ
      go_wp2_with fail
      refine wp_region_held (S := fun w9 => w9.cell? ⟨b1, o1 + k, none⟩ = some (.int .u8 (P.toNat : Int)) ∧ w9.cell? ⟨b2, o2 + k, none⟩ = some (.int .u8 (Q.toNat : Int))) (by kernel_rfl) ?_
      refine wpAnyH_take (i := 0) (v := u10) rfl (by kernel_rfl) (by kernel_rfl) (by kernel_rfl) (fun _ _ _ h => h) (yields_move (by simp [Region.wanted]) (.tmp 10) rfl _ rfl) s8 ?_
      show wpAnyH _ _ _ _ _ _ _ (Act.put _ (some 30) _) _
      simp only [Act.put, List.setIfInBounds_toArray, List.set_cons_zero, List.set_cons_succ]
      refine wpAnyH_take (i := 1) (v := .slice (some ⟨b1, o1, none⟩) np cap) rfl (by kernel_rfl) (by kernel_rfl) (by kernel_rfl) (fun _ _ _ h => h) (yields_move (by simp [Region.wanted]) (.tmp 2) rfl _ rfl) s8 ?_
      show wpAnyH _ _ _ _ _ _ _ (Act.put _ (some 31) _) _
      simp only [Act.put, List.setIfInBounds_toArray, List.set_cons_zero, List.set_cons_succ]
      refine wpAnyH_take (i := 2) (v := .int .i64 (k : Int)) rfl (by kernel_rfl) (by kernel_rfl) (by kernel_rfl) (fun _ _ _ h => h) (yields_move (by simp [Region.wanted]) (.tmp 11) rfl _ rfl) s8 ?_
      show wpAnyH _ _ _ _ _ _ _ (Act.put _ (some 32) _) _
      simp only [Act.put, List.setIfInBounds_toArray, List.set_cons_zero, List.set_cons_succ]
      refine wpAnyH_take (i := 3) (v := .pointer (some ⟨b1, o1 + k, none⟩)) rfl (by kernel_rfl) (by kernel_rfl) (by kernel_rfl) (fun _ _ _ h => h) (y_index8 (by simp [Region.wanted]) (.tmp 31) (.tmp 32) rfl b1 o1 np cap k rfl rfl (by omega)) s8 ?_
      show wpAnyH _ _ _ _ _ _ _ (Act.put _ (some 33) _) _
      simp only [Act.put, List.setIfInBounds_toArray, List.set_cons_zero, List.set_cons_succ]
      refine wpAnyH_take (i := 4) (v := .int .u8 (P.toNat : Int)) rfl (by kernel_rfl) (by kernel_rfl) (by kernel_rfl) (fun _ _ _ h => h) (y_load8 (by simp [Region.wanted]) (.tmp 33) rfl b1 (o1 + k) P rfl (fun _ h => h.1)) s8 ?_
      show wpAnyH _ _ _ _ _ _ _ (Act.put _ (some 34) _) _
      simp only [Act.put, List.setIfInBounds_toArray, List.set_cons_zero, List.set_cons_succ]
      refine wpAnyH_take (i := 5) (v := .slice (some ⟨b2, o2, none⟩) np c2) rfl (by kernel_rfl) (by kernel_rfl) (by kernel_rfl) (fun _ _ _ h => h) (yields_move (by simp [Region.wanted]) (.tmp 8) rfl _ rfl) s8 ?_
      show wpAnyH _ _ _ _ _ _ _ (Act.put _ (some 35) _) _
      simp only [Act.put, List.setIfInBounds_toArray, List.set_cons_zero, List.set_cons_succ]
      refine wpAnyH_take (i := 6) (v := .int .i64 (k : Int)) rfl (by kernel_rfl) (by kernel_rfl) (by kernel_rfl) (fun _ _ _ h => h) (yields_move (by simp [Region.wanted]) (.tmp 11) rfl _ rfl) s8 ?_
      show wpAnyH _ _ _ _ _ _ _ (Act.put _ (some 36) _) _
      simp only [Act.put, List.setIfInBounds_toArray, List.set_cons_zero, List.set_cons_succ]
      refine wpAnyH_take (i := 7) (v := .pointer (some ⟨b2, o2 + k, none⟩)) rfl (by kernel_rfl) (by kernel_rfl) (by kernel_rfl) (fun _ _ _ h => h) (y_index8 (by simp [Region.wanted]) (.tmp 35) (.tmp 36) rfl b2 o2 np c2 k rfl rfl (by omega)) s8 ?_
      show wpAnyH _ _ _ _ _ _ _ (Act.put _ (some 37) _) _
      simp only [Act.put, List.setIfInBounds_toArray, List.set_cons_zero, List.set_cons_succ]
      refine wpAnyH_take (i := 8) (v := .int .u8 (Q.toNat : Int)) rfl (by kernel_rfl) (by kernel_rfl) (by kernel_rfl) (fun _ _ _ h => h) (y_load8 (by simp [Region.wanted]) (.tmp 37) rfl b2 (o2 + k) Q rfl (fun _ h => h.2)) s8 ?_
      show wpAnyH _ _ _ _ _ _ _ (Act.put _ (some 38) _) _
      simp only [Act.put, List.setIfInBounds_toArray, List.set_cons_zero, List.set_cons_succ]
      refine wpAnyH_take (i := 9) (v := .int .u8 ((P ^^^ Q).toNat : Int)) rfl (by kernel_rfl) (by kernel_rfl) (by kernel_rfl) (fun _ _ _ h => h) (y_xor8 (by simp [Region.wanted]) (.tmp 34) (.tmp 38) rfl P Q rfl rfl) s8 ?_
      show wpAnyH _ _ _ _ _ _ _ (Act.put _ (some 39) _) _
      simp only [Act.put, List.setIfInBounds_toArray, List.set_cons_zero, List.set_cons_succ]
      refine wpAnyH_all (rs := [10]) (by kernel_rfl) (by simp) fun i hmem => ?_
      obtain rfl : i = 10 := by simpa using hmem
      refine wpOp_own rfl rfl fun K' hK' => ?_
      refine wp_build1 (.tmp 39) rfl (P ^^^ Q) rfl ?_
      refine hK' _ _ ⟨cells_alloc s8 _, ?_⟩
      clear hK' K' hmem
      show wpAnyH _ _ _ _ _ _ _ (Act.put _ (some 40) _) _
      simp only [Act.put, List.setIfInBounds_toArray, List.set_cons_zero, List.set_cons_succ]
      refine wpAnyH_all (rs := [11]) (by kernel_rfl) (by simp) fun i hmem => ?_
      obtain rfl : i = 11 := by simpa using hmem
      refine wpOp_own rfl rfl fun K' hK' => ?_
      refine wp_app1 wr.drew rfl (.tmp 30) (.tmp 40) rfl B0 u10 (be8 once ++ (cross key once plain).take k) rfl Hown.out.drew [P ^^^ Q] 1 rfl rfl (by have := Hlen.out; omega) Hbig.out ?_
      intro v9 W9 hown9 hb9
      have s9 := cells_below s8 hb9 Hlt.out
      refine hK' _ _ ⟨s9, ?_⟩
      clear hK' K' hmem
      show wpAnyH _ _ _ _ _ _ _ (Act.put _ (some 41) _) _
      simp only [Act.put, List.setIfInBounds_toArray, List.set_cons_zero, List.set_cons_succ]
      refine wpAnyH_take (i := 12) (v := v9) rfl (by kernel_rfl) (by kernel_rfl) (by kernel_rfl) (fun _ _ _ h => h) (yh_assign (by simp [Region.wanted]) (.tmp 41) rfl _ rfl) s9 ?_
      show wpAnyH _ _ _ _ _ _ _ (Act.put _ (some 10) _) _
      simp only [Act.put, List.setIfInBounds_toArray, List.set_cons_zero, List.set_cons_succ]
      refine wpAnyH_done (by kernel_rfl) ?_ _
      have Hown9 := hid hown9
      have Hb9 := hid hb9
      clear hown9 hb9 s8 s9
      go_wp2_with fail
      go_roundw
      case rel =>
        refine ⟨k + 1, by omega, by go_num, ?_, Hbel.out.drew.trans Hb9.out⟩
        rw [Hstep.out, ← List.append_assoc]
        exact Hown9.out
      case measure => simp [intOf]; omega
    · have d1 : ¬ (k : Int) < (np : Int) := by omega
      have hkn : k = np := by omega
      have Hall : Hid (be8 once ++ (cross key once plain).take k = headB key once plain) := (by
        show _ = _
        rw [hkn, Hnp.out, headB, List.take_of_length_le (by rw [cross_len]; omega)])
      rw [hkn] at Hlen
      obtain ⟨HD, hHD⟩ : ∃ HD, HD = headB key once plain := ⟨_, rfl⟩
      have Hown1 : Hid (wr.ownsRow B0 5 1 u10 HD.length (cellsOf HD)) := (by show World.ownsRow _ _ _ _ _ _ _; rw [hHD, ← Hall.out]; exact Hown.out)
      have lHD : HD.length = 8 + np := by rw [hHD, headB_len, ← Hnp.out]
      obtain ⟨a9, c9, rfl, B9, lc9, hn9⟩ := bytes_ofH Hown1.out
      have HB9 := hid B9
      have Hn9 := hid hn9
      have x9 : Hid (wr.heap[w.heap.size]? = some (.cells K 23 (0, 0))) := (Hbel.out.block _ hwB).trans x1.out
      have HHD := hid hHD
      obtain ⟨N9, hN9⟩ : ∃ N9, N9 = HD.length := ⟨_, rfl⟩
      have HN9 := hid hN9
      have Hown2 : Hid (wr.ownsRow B0 5 1 (.slice a9 N9 c9) HD.length (cellsOf HD)) := (by show World.ownsRow _ _ _ _ _ _ _; rw [hN9]; exact Hown1.out)
      have hN9l : N9 ≤ 1032 := by omega
      have HlHD := hid lHD
      rw [← hN9] at lc9 ⊢
      clear B9 hn9 hHD hN9 lHD hkn Hown Hown1 Hlen Hall
      go_wp2_with (with_reducible show Go.wpList _ _ _ _ _ _; refine wpList_load_row rfl 23 _ rfl w.heap.size rfl _ _ _ _ x9.out Tryz.underlying23 rfl hinf ?_)
      refine (refTag8_any HK.out HD a9 N9 c9 HN9.out HB9.out Hn9.out (by have := HN9.out; omega)).mono ?_
      rintro _ W6 ⟨g6, c6, rfl, lc6, hg6, B6, hb6⟩
      have HB6 := hid B6
      have Ho6 : Hid (W6.ownsRow B0 5 1 (.slice a9 N9 c9) HD.length (cellsOf HD)) := own_onH Hown2.out hb6
      have b6 : Hid (Below B0 W1 W6) := Hbel.out.trans (hb6.mono Hbig.out)
      have s6 : Hid (B0 ≤ W6.heap.size) := Nat.le_trans Hbig.out hb6.size
      clear B6 hb6
      go_wp2_with (at_builtin; refine app_src _ rfl (.tmp 42) (.tmp 45) rfl B0 _ HD rfl Ho6.out (some ⟨g6, 0, none⟩) 16 c6 (tagB key HD) (tagB_len _ _).symm rfl HB6.out (fun h => nomatch h) (by rw [tagB_len]; have := HN9.out; omega) s6.out ?_; intro v7 W7 ho7 hb7; have Ho7 := hid ho7; have b7 : Hid (Below B0 W1 W7) := b6.out.trans hb7; clear ho7 hb7)
      have Hseal : Hid (HD ++ tagB key HD = sealB key once plain) := (by show _ = _; rw [HHD.out]; rfl)
      obtain ⟨a7, c7, rfl, B7, _, _⟩ := bytes_ofH Ho7.out
      have l7 : (HD ++ tagB key HD).length = np + 24 := by rw [List.length_append, tagB_len, HlHD.out]; omega
      rw [l7]
      rw [Hseal.out] at B7
      have HB7 := hid B7
      have Hfr : Hid (∀ b o, a7 = some ⟨b, o, none⟩ → w.heap.size ≤ b) := fun b o e => by
        rcases Ho7.out.2 with ⟨e1, _⟩ | ⟨g9, cap9, cur9, e1, hb9, _⟩
        · injection e1 with e2 _ _; rw [e2] at e; cases e
        · injection e1 with e2 _ _; rw [e2] at e; cases e; omega
      clear B7 l7 Ho7
      go_ret2
      exact ⟨a7, c7, rfl, HB7.out, b1.out.trans (b7.out.mono (Nat.le_of_lt hwB)), Hfr.out⟩
end Go.Proofs.YtdglmoikgmlaaaaGreatDoor
