/- The reference's stream. -/
import Derived.Test.YtfiaefagnkmpoaaDoorERef1
namespace Go.Proofs.YtfiaefagnkmpoaaDoor
open Go.RowKit
set_option linter.unusedVariables false
set_option maxRecDepth 20000

theorem bytes_take {w : World} {a : Option Addr} {l : List UInt8} (h : Bytes w a l) (n : Nat) : Bytes w a (l.take n) := fun i hi => by
  have h1 : i < l.length := by simp at hi; omega
  obtain ⟨b, o, e, hc⟩ := h i h1
  exact ⟨b, o, e, by rw [hc]; simp⟩
theorem nblk_le {n k : Nat} (hk : k ≤ nblk n) (h : n ≤ 32 * k) : k = nblk n := by unfold nblk at *; omega
theorem nblk_lt {n k : Nat} (hk : k ≤ nblk n) (h : 32 * k < n) : k + 1 ≤ nblk n := by unfold nblk at *; omega
theorem sblock_eq (key : List UInt8) (once k : Nat) : hmac key ([115] ++ be8 once ++ be8 k) = sblock key once k := by
  simp only [sblock, List.cons_append, List.nil_append]
/-- what the reference's Stream answers -/
def StreamPost (w : World) (key : List UInt8) (once n : Nat) (e : Ending) (w' : World) : Prop :=
  ∃ a cap, e = .returned (.tuple #[.slice a n cap, .int .i64 0]) ∧ Bytes w' a ((strm key once (nblk n)).take n) ∧ n ≤ cap ∧ (a = none → cap = 0) ∧ Below w.heap.size w w'

set_option maxHeartbeats 400000 in
theorem refStream_bad {w : World} {K : Array Value} {key : List UInt8} (hK : HV K key) (once : Nat) (n : Int) (hn : n < 0 ∨ 1024 < n) :
    Calls Tryd.prog 28 #[.agg K, .int .u64 (once : Int), .int .i64 n] w fun e w' => e = .returned (.tuple #[.slice none 0 0, .int .i64 2]) ∧ Below w.heap.size w w' := by
  have hinf : (Tryd.prog.info? 26).map (·.size) = some K.size := hK.info
  have b0 : Hid (Below w.heap.size w (w.alloc (.cells K 26))) := (Below.refl _ w).alloc (Nat.le_refl _) _
  rcases (show n < 0 ∨ (¬ n < 0 ∧ 1024 < n) by omega) with h | ⟨h, h'⟩
  · clear hn
    go_enter Tryd.func28, Tryd.ntmps28
    go_wp2
    go_ret2
    exact ⟨rfl, b0.out⟩
  · clear hn
    go_enter Tryd.func28, Tryd.ntmps28
    go_wp2
    go_ret2
    exact ⟨rfl, b0.out⟩

set_option maxHeartbeats 2000000 in
theorem refStream_any {w : World} {K : Array Value} {key : List UInt8} (hK : HV K key) (once n : Nat) (hn : n ≤ 1024) :
    Calls Tryd.prog 28 #[.agg K, .int .u64 (once : Int), .int .i64 (n : Int)] w (StreamPost w key once n) := by
  have HK := hid hK
  have hinf : (Tryd.prog.info? 26).map (·.size) = some K.size := hK.info
  have Hlk := hid hK.len
  have q0 : ¬ (n : Int) < 0 := by omega
  have q1 : ¬ (1024 : Int) < (n : Int) := by omega
  have x0 := hid (heap_alloc_new w (.cells K 26))
  have b0 : Hid (Below w.heap.size w (w.alloc (.cells K 26))) := (Below.refl _ w).alloc (Nat.le_refl _) _
  clear hK
  go_enter Tryd.func28, Tryd.ntmps28
  go_wp2
  clear q0 q1
  go_loopw [8, 9] (fun v8 v9 wr => ∃ k : Nat, k ≤ nblk n ∧ v9 = .int .i64 (k : Int) ∧ wr.ownsRow (w.heap.size + 1) 5 1 v8 (strm key once k).length (cellsOf (strm key once k)) ∧ wr.heap[w.heap.size]? = some (.cells K 26 (0, 0)) ∧ Below w.heap.size w wr) (fun _ v9 _ => nblk n - (intOf v9).toNat)
  case atStart => exact ⟨0, Nat.zero_le _, rfl, World.ownsRow_nil _ _ _ _, x0.out, b0.out⟩
  case round =>
    obtain ⟨k, hk, rfl, hown, hx, hbel⟩ := hrel
    have Hown := hid hown
    have Hx := hid hx
    have Hbel := hid hbel
    have hsz : w.heap.size + 1 ≤ wr.heap.size := heap_lt hx
    have Hls := hid (strm_len key once k)
    obtain ⟨a8, c8, rfl, B8, lc8, hn8⟩ := bytes_ofH hown
    obtain ⟨N8, hN8⟩ : ∃ N8, N8 = (strm key once k).length := ⟨_, rfl⟩
    have hN : N8 = 32 * k := by rw [hN8, Hls.out]
    rw [← hN8] at lc8 ⊢
    have Hown8 : Hid (wr.ownsRow (w.heap.size + 1) 5 1 (.slice a8 N8 c8) (strm key once k).length (cellsOf (strm key once k))) := (by show World.ownsRow _ _ _ _ _ _ _; rw [hN8]; exact Hown.out)
    have HB8 := hid B8
    have Hn8 := hid hn8
    have HN8 := hid hN8
    have HN := hid hN
    have hk33 : k ≤ 33 := by have : nblk n ≤ 33 := by { unfold nblk; omega }; omega
    clear hown hx hbel x0 b0 B8 hn8 hN8 hN Hown
    by_cases hlt : N8 < n
    · have d1 : (N8 : Int) < (n : Int) := by omega
      have Hk1 : Hid (k + 1 ≤ nblk n) := nblk_lt hk (by have := HN.out; omega)
      have w1 : IntKind.u64.wrap (k : Int) = (k : Int) := by rw [IntKind.wrap_u64]; omega
      go_wp2_with fail
      refine (eight_any once).mono ?_
      rintro _ W1 ⟨v1, rfl, ho1, hb1⟩
      have ho1' : W1.ownsRow (wr.alloc (.cells (cellsOf [115]).toArray 5)).heap.size 5 1 v1 (be8 once).length (cellsOf (be8 once)) := by rw [be8_length]; exact ho1
      obtain ⟨a1, c1, rfl, B1, lc1, hn1⟩ := bytes_ofH ho1'
      rw [be8_length] at lc1 ⊢
      have Hol : Hid (W1.ownsRow wr.heap.size 5 1 (.slice (some ⟨wr.heap.size, 0, none⟩) 1 1) ([115] : List UInt8).length (cellsOf [115])) := own_onH (own_lits wr [115] (by simp)) hb1
      have HB1 := hid B1
      have Hn1 := hid hn1
      have b1 : Hid (Below wr.heap.size wr W1) := ((Below.refl _ wr).alloc (Nat.le_refl _) _).trans (hb1.mono (by simp))
      have s1 : Hid (wr.heap.size ≤ W1.heap.size) := b1.out.size
      clear ho1 ho1' hb1 B1 hn1
      go_wp2_with (at_builtin; refine app_src _ rfl (.tmp 23) (.tmp 25) rfl wr.heap.size _ [115] rfl Hol.out a1 8 c1 (be8 once) (be8_length _).symm rfl HB1.out Hn1.out (by rw [be8_length]; simp) s1.out ?_; intro v2 W2 ho2 hb2; have Ho2 := hid ho2; have b2 : Hid (Below wr.heap.size wr W2) := b1.out.trans hb2; clear ho2 hb2)
      refine (eight_any k).mono ?_
      rintro _ W3 ⟨v3, rfl, ho3, hb3⟩
      have ho3' : W3.ownsRow W2.heap.size 5 1 v3 (be8 k).length (cellsOf (be8 k)) := by rw [be8_length]; exact ho3
      obtain ⟨a3, c3, rfl, B3, lc3, hn3⟩ := bytes_ofH ho3'
      rw [be8_length] at lc3 ⊢
      have Ho3 : Hid (W3.ownsRow wr.heap.size 5 1 v2 ([115] ++ be8 once).length (cellsOf ([115] ++ be8 once))) := own_onH Ho2.out hb3
      have HB3 := hid B3
      have Hn3 := hid hn3
      have b3 : Hid (Below wr.heap.size wr W3) := Below.on' b2.out hb3
      have s3 : Hid (wr.heap.size ≤ W3.heap.size) := b3.out.size
      have L2 : Hid (([115] ++ be8 once).length = 9) := by show _ = _; rw [List.length_append, be8_length]; rfl
      clear ho3 ho3' hb3 B3 hn3 Ho2 b2 b1 s1 Hol HB1 Hn1
      go_wp2_with (first
        | (at_builtin; refine app_src _ rfl (.tmp 27) (.tmp 30) rfl wr.heap.size _ ([115] ++ be8 once) rfl Ho3.out a3 8 c3 (be8 k) (be8_length _).symm rfl HB3.out Hn3.out (by rw [be8_length, L2.out]; omega) s3.out ?_; intro v4 W4 ho4 hb4; have b4 : Hid (Below wr.heap.size wr W4) := b3.out.trans hb4; have x4 : Hid (W4.heap[w.heap.size]? = some (.cells K 26 (0, 0))) := (b4.out.block _ (heap_lt Hx.out)).trans Hx.out; obtain ⟨a4, c4, rfl, B4, lc4, hn4⟩ := bytes_ofH ho4; have L4 : Hid (([115] ++ be8 once ++ be8 k).length = 17) := (by show _ = _; rw [List.length_append, be8_length, L2.out]); rw [L4.out] at lc4 ⊢; have HB4 := hid B4; have Hn4 := hid hn4; clear ho4 hb4 B4 hn4 Ho3 b3 HB3 Hn3)
        | (with_reducible show Go.wpList _ _ _ _ _ _; refine wpList_load_row rfl 26 _ rfl w.heap.size rfl _ _ _ _ x4.out Tryd.underlying26 rfl hinf ?_))
      refine (refBytes_any HK.out).mono ?_
      rintro _ W5 ⟨v5, rfl, ho5, hb5⟩
      obtain ⟨a5, c5, rfl, B5, lc5, hn5⟩ := bytes_ofH ho5
      rw [Hlk.out] at lc5 ⊢
      have HB5 := hid B5
      have Hn5 := hid hn5
      have HB45 : Hid (Bytes W5 a4 ([115] ++ be8 once ++ be8 k)) := HB4.out.below hb5
      have b5 : Hid (Below wr.heap.size wr W5) := Below.on' b4.out hb5
      clear ho5 hb5 B5 hn5 HB4 b4 x4
      go_wp2_with fail
      refine (refTag_any sumOk key a5 32 c5 Hlk.out.symm HB5.out Hn5.out (by rw [Hlk.out]; omega) (by rw [Hlk.out]; exact lc5) ([115] ++ be8 once ++ be8 k) a4 17 c4 L4.out.symm HB45.out Hn4.out (by rw [L4.out]; omega) (by rw [L4.out]; exact lc4)).mono ?_
      rintro _ W6 ⟨O, rfl, hO, hb6⟩
      rw [sblock_eq] at hO
      have HO := hid hO
      have b6 : Hid (Below wr.heap.size wr W6) := Below.on' b5.out hb6
      clear hO hb6 b5 HB5 HB45
      go_wp2_with fail
      refine (refBytes_any HO.out).mono ?_
      rintro _ W7 ⟨v7, rfl, ho7, hb7⟩
      obtain ⟨a7, c7, rfl, B7, lc7, hn7⟩ := bytes_ofH ho7
      rw [sblock_len] at lc7 ⊢
      have HB7 := hid B7
      have Hn7 := hid hn7
      have b7 : Hid (Below wr.heap.size wr W7) := Below.on' b6.out hb7
      have Ho7 : Hid (W7.ownsRow (w.heap.size + 1) 5 1 (.slice a8 N8 c8) (strm key once k).length (cellsOf (strm key once k))) := own_onH Hown8.out b7.out
      have s7 : Hid (w.heap.size + 1 ≤ W7.heap.size) := by have := b7.out.size; show _ ≤ _; omega
      clear ho7 hb7 B7 hn7 b6
      go_wp2_with (at_builtin; refine app_src _ rfl (.tmp 32) (.tmp 37) rfl (w.heap.size + 1) _ (strm key once k) rfl Ho7.out a7 32 c7 (sblock key once k) (sblock_len _ _ _).symm rfl HB7.out Hn7.out (by rw [sblock_len, Hls.out]; omega) s7.out ?_; intro v9 W9 ho9 hb9; have Ho9 := hid ho9; have b9 := hid hb9; clear ho9 hb9)
      go_roundw
      case rel =>
        refine ⟨k + 1, Hk1.out, by go_num, ?_, ?_, ?_⟩
        · rw [strm_succ]; exact Ho9.out
        · exact (b9.out.block _ (by omega)).trans ((b7.out.block _ (heap_lt Hx.out)).trans Hx.out)
        · exact (Below.on' Hbel.out b7.out).trans (b9.out.mono (by omega))
      case measure => have := Hk1.out; simp [intOf]; omega
    · have d1 : ¬ (N8 : Int) < (n : Int) := by omega
      have hke : k = nblk n := nblk_le hk (by have := HN.out; omega)
      have d2 : (n : Int) ≤ (c8 : Int) := by omega
      have Hke := hid hke
      have hnc : n ≤ c8 := by omega
      clear hke
      cases a8 with
      | none =>
        have hc0 : c8 = 0 := Hn8.out rfl
        subst hc0
        have hn0 : n = 0 := by omega
        subst hn0
        go_wp2
        go_ret2
        exact ⟨none, 0, rfl, fun i hi => by simp at hi, Nat.le_refl _, fun _ => rfl, Hbel.out⟩
      | some ad =>
        obtain ⟨ab, ao, sp⟩ := ad
        go_wp2
        go_ret2
        refine ⟨_, _, rfl, ?_, hnc, (fun h => nomatch h), Hbel.out⟩
        rw [← Hke.out]
        exact bytes_take HB8.out n
end Go.Proofs.YtfiaefagnkmpoaaDoor
