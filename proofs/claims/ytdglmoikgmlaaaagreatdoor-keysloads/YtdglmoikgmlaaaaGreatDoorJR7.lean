/- YtdglmoikgmlaaaaGreatDoorJNum + YtdglmoikgmlaaaaGreatDoorJR7 -/
import Derived.Test.YtdglmoikgmlaaaaGreatDoorANum
import Derived.Test.YtdglmoikgmlaaaaGreatDoorJR6
import Derived.Test.YtdglmoikgmlaaaaGreatDoorHRefDer
/- The reference's Number, by a contract. -/
namespace Go.Proofs.YtdglmoikgmlaaaaGreatDoor
open Go.RowKit
set_option linter.unusedVariables false
set_option maxRecDepth 20000
abbrev digits16 : ByteArray := ⟨#[48, 49, 50, 51, 52, 53, 54, 55, 56, 57, 97, 98, 99, 100, 101, 102]⟩
theorem digits16_at : ∀ d : Fin 16, digits16.data[d.val]? = some (hexc d.val) := by decide +kernel
theorem hex16_at (d : Nat) (hd : d < 16) (h : d < digits16.size) : digits16[d]'h = hexc d :=
  (Array.getElem?_eq_some_iff.1 (digits16_at ⟨d, hd⟩)).2
set_option maxHeartbeats 400000 in
theorem digit_any (d : Nat) (hd : d < 16) (w : World) :
    Calls Tryz.prog 55 #[.int .i64 d] w fun e w' => e = .returned (.int .u8 ((hexc d).toNat : Int)) ∧ w' = w := by
  go_enter Tryz.func55, Tryz.ntmps55
  go_wp2
  go_ret
  exact ⟨ret_int (by rw [← hex16_at d hd (by exact hd)]), rfl⟩
def letk (k : Nat) : UInt8 := UInt8.ofNat (97 + k)
theorem letk_toNat (k : Nat) (hk : k ≤ 16) : (letk k).toNat = 97 + k := by
  unfold letk
  rw [UInt8.toNat_ofNat']
  omega
theorem cv1 (W : World) (c : UInt8) : (convert 41 9 (.slice (some ⟨W.heap.size, 0, none⟩) 1 1)).run Tryz.prog (W.alloc (.cells #[.int .u8 (c.toNat : Int)] 5)) =
    .ok (.string ⟨#[c]⟩) (W.alloc (.cells #[.int .u8 (c.toNat : Int)] 5)) := by
  exact run_convert_bytes_back (P := Tryz.prog) (W.alloc (.cells #[.int .u8 (c.toNat : Int)] 5)) 41 9 5 ⟨W.heap.size, 0, none⟩ 1 [c] Tryz.underlying41 Tryz.underlying5 Tryz.underlying9 (fun j hj => by
    have : j = 0 := by simpa using hj
    subst this
    simp [Addr.add])
theorem cvk (W : World) (k : Nat) (hk : k ≤ 16) : (convert 41 9 (.slice (some ⟨W.heap.size, 0, none⟩) 1 1)).run Tryz.prog (W.alloc (.cells #[.int .u8 (97 + (k : Int))] 5)) =
    .ok (.string ⟨#[letk k]⟩) (W.alloc (.cells #[.int .u8 (97 + (k : Int))] 5)) := by
  have h := cv1 W (letk k)
  rw [letk_toNat k hk] at h
  simpa using h
theorem lo_cons (k n u : Nat) (hu : u = n / 16 ^ k) : (⟨#[hexc (u % 16)]⟩ : ByteArray) ++ ⟨(lo k n).toArray⟩ = ⟨(lo (k + 1) n).toArray⟩ := by
  rw [lo, ← hu]
  apply ByteArray.ext
  simp [ByteArray.data_append]
theorem numT_of (n k : Nat) (h1 : k = 0 ∨ 16 ^ (k - 1) ≤ n) (h2 : n < 16 ^ k) : (⟨#[letk k]⟩ : ByteArray) ++ ⟨(lo k n).toArray⟩ = ⟨(numT n).toArray⟩ := by
  cases k with
  | zero =>
    have : n = 0 := by simpa using h2
    subst this
    rfl
  | succ k =>
    have hn : n ≠ 0 := by
      rcases h1 with h1 | h1
      · omega
      · have := Nat.pow_pos (n := k) (show 0 < 16 by omega)
        simp at h1
        omega
    have h3 : k = 0 ∨ 16 ^ k ≤ n := by
      rcases h1 with h1 | h1
      · omega
      · exact .inr (by simpa using h1)
    unfold numT
    rw [if_neg hn, log_of n k hn h3 h2]
    have e : letk (k + 1) = letr k := by unfold letk letr; rw [show 97 + (k + 1) = 98 + k by omega]
    rw [e]
    apply ByteArray.ext
    simp [ByteArray.data_append]
theorem next_pow (n k u : Nat) (hn : n ≤ 4611686018427387904) (hu : u = n / 16 ^ k) (h : 0 < u) : 16 ^ k ≤ n ∧ k + 1 ≤ 16 := by
  have h1 : 16 ^ k ≤ n := by
    rw [hu] at h
    have := (Nat.le_div_iff_mul_le (Nat.pow_pos (show 0 < 16 by omega))).1 h
    omega
  refine ⟨h1, ?_⟩
  have h2 : 16 ^ k < 16 ^ 16 := Nat.lt_of_le_of_lt (Nat.le_trans h1 hn) (by decide)
  have := (Nat.pow_lt_pow_iff_right (a := 16) (by omega)).1 h2
  omega
set_option maxHeartbeats 400000 in
theorem refNumber_any (n : Nat) (h : n ≤ 4611686018427387904) (w : World) :
    Calls Tryz.prog 34 #[.int .i64 n] w fun e w' => e = .returned (.tuple #[.string ⟨(numT n).toArray⟩, .int .i64 0]) ∧ Below w.heap.size w w' := by
  have d1 : decide ((n : Int) < 0) = false := by simp
  have d2 : decide (4611686018427387904 < (n : Int)) = false := by simp; omega
  go_enter Tryz.func34, Tryz.ntmps34
  go_wp2_with fail
  go_loopw [0, 4, 5] (fun m s c wr => ∃ k : Nat, k ≤ 16 ∧ (k = 0 ∨ 16 ^ (k - 1) ≤ n) ∧ m = .int .i64 ((n / 16 ^ k : Nat) : Int) ∧ s = .string ⟨(lo k n).toArray⟩ ∧ c = .int .i64 k ∧ Below w.heap.size w wr) (fun m _ _ _ => (intOf m).toNat)
  case atStart => exact ⟨0, by omega, .inl rfl, by simp, rfl, rfl, Below.refl _ _⟩
  case round =>
    obtain ⟨k, hk, hkn, rfl, rfl, rfl, hbel⟩ := hrel
    obtain ⟨u, hu⟩ : ∃ u, u = n / 16 ^ k := ⟨_, rfl⟩
    rw [← hu]
    have Hu := hid hu
    have Hkn := hid hkn
    have hun : u ≤ 4611686018427387904 := by rw [hu]; exact Nat.le_trans (Nat.div_le_self _ _) h
    have hl := lo_length k n
    clear hu hkn
    by_cases hu0 : 0 < u
    · have hnp := hid (next_pow n k u h Hu.out hu0)
      have hcv := cv1
      go_wp2_with (go_at_call 55; refine (digit_any (u % 16) (Nat.mod_lt _ (by omega)) _).mono ?_; rintro e w' ⟨rfl, rfl⟩)
      go_roundw
      case rel =>
        refine ⟨k + 1, hnp.out.2, .inr (by simpa using hnp.out.1), ?_, congrArg Value.string (lo_cons k n u Hu.out), by go_num, hbel.alloc hbel.size _⟩
        rw [Nat.pow_succ, ← Nat.div_div_eq_div_mul, ← Hu.out]; go_num
      case measure => simp [intOf]; omega
    · have hcv := fun W => cvk W k hk
      go_wp2
      go_ret2
      refine ⟨ret_two (congrArg Value.string (numT_of n k Hkn.out ?_)) rfl, hbel.alloc hbel.size _⟩
      have h0 : n / 16 ^ k = 0 := by rw [← Hu.out]; omega
      exact (Nat.div_eq_zero_iff.1 h0).resolve_left (by have := Nat.pow_pos (n := k) (show 0 < 16 by omega); omega)
end Go.Proofs.YtdglmoikgmlaaaaGreatDoor
/- The reference's Key, by a contract. -/
namespace Go.Proofs.YtdglmoikgmlaaaaGreatDoor
open Go.RowKit Go.Maps
set_option linter.unusedVariables false
set_option maxRecDepth 20000
set_option maxHeartbeats 2000000 in
theorem rkey_none {w : World} {g : Nat} (t u : ByteArray) (v z c : Int) (r : Int) (hr : (c ≠ 0 ∧ r = c) ∨ (c = 0 ∧ r = 2 ∧ (v < 1 ∨ z < v))) (H : ∀ W, Below w.heap.size w W → Calls Tryz.prog 30 #[.pointer (some ⟨g, 0, none⟩), .string t, .string u] W fun e w' => e = .returned (.tuple #[.int .i64 z, .int .i64 c]) ∧ Below W.heap.size W w') :
    Calls Tryz.prog 28 #[.pointer (some ⟨g, 0, none⟩), .string t, .string u, .int .i64 v] w (HashErr w (List.replicate 32 0) r) := by
  obtain ⟨Z, hZ⟩ : ∃ Z, Z = bvs (List.replicate 32 0) := ⟨_, rfl⟩
  have zh := (zero_of_info zero_hash).1
  have bh : Tryz.prog.built 23 [] = some (bvs (List.replicate 32 0)) := by kernel_rfl
  rw [← hZ] at zh bh
  have hz : Hid (HV Z (List.replicate 32 0)) := by
    show HV _ _
    rw [hZ]; exact hv_zero
  have Zh := hid zh
  have Bh := hid bh
  obtain ⟨W, hW⟩ : ∃ W, W = w.alloc (.cells Z 23) := ⟨_, rfl⟩
  have b0 : Below w.heap.size w W := by rw [hW]; exact (Below.refl _ w).alloc (Nat.le_refl _) _
  have x0 : W.heap[w.heap.size]? = some (.cells Z 23 (0, 0)) := by rw [hW]; exact heap_alloc_new w _
  have HC := hid (H W b0)
  have B0 := hid b0
  have X0 := hid x0
  have HW := hid hW
  clear hZ hW b0 x0 bh zh H
  rcases hr with ⟨hc, rfl⟩ | ⟨rfl, rfl, hv⟩
  · have q0 : (r != 0) = true := by simpa using hc
    go_enter Tryz.func28, Tryz.ntmps28
    go_wp2_with (first
      | (go_at_call 30; refine HC.out.mono ?_; rintro _ w1 ⟨rfl, b1⟩; have B1 := hid b1; have X1 := hid ((b1.block _ (heap_lt X0.out)).trans X0.out); clear b1)
      | (with_reducible show Go.wpList _ _ _ _ _ _; first
        | (refine wpList_alloc_row rfl 23 rfl Z Zh.out ?_; rw [← HW.out])
        | refine wpList_build_none rfl 23 rfl Z Bh.out ?_
        | refine wpList_store_row rfl 23 (.tmp 8) (.tmp 23) rfl w.heap.size Z rfl rfl 23 Z X1.out hz.out.info rfl hz.out.one ?_))
    refine bodyPost_ret (results_row_tmp rfl _ _ w.heap.size 23 Z (0, 0) _ rfl (setRow_heap _ _ _ _ _ _ X1.out) Tryz.underlying23 rfl hz.out.info) rfl ?_
    exact ⟨Z, rfl, hz.out, (Below.on' B0.out B1.out).setRow (Nat.le_refl _) _⟩
  · by_cases h1 : v < 1
    · have g1 : decide (v < 1) = true := by simpa using h1
      clear hv
      go_enter Tryz.func28, Tryz.ntmps28
      go_wp2_with (first
        | (go_at_call 30; refine HC.out.mono ?_; rintro _ w1 ⟨rfl, b1⟩; have B1 := hid b1; have X1 := hid ((b1.block _ (heap_lt X0.out)).trans X0.out); clear b1)
        | (with_reducible show Go.wpList _ _ _ _ _ _; first
          | (refine wpList_alloc_row rfl 23 rfl Z Zh.out ?_; rw [← HW.out])
          | refine wpList_build_none rfl 23 rfl Z Bh.out ?_
          | refine wpList_store_row rfl 23 (.tmp 8) (.tmp 32) rfl w.heap.size Z rfl rfl 23 Z X1.out hz.out.info rfl hz.out.one ?_))
      refine bodyPost_ret (results_row_tmp rfl _ _ w.heap.size 23 Z (0, 0) _ rfl (setRow_heap _ _ _ _ _ _ X1.out) Tryz.underlying23 rfl hz.out.info) rfl ?_
      exact ⟨Z, rfl, hz.out, (Below.on' B0.out B1.out).setRow (Nat.le_refl _) _⟩
    · have g1 : decide (v < 1) = false := by simpa using h1
      have g2 : decide (z < v) = true := by
        rcases hv with h | h
        · exact absurd h h1
        · simpa using h
      clear hv h1
      go_enter Tryz.func28, Tryz.ntmps28
      go_wp2_with (first
        | (go_at_call 30; refine HC.out.mono ?_; rintro _ w1 ⟨rfl, b1⟩; have B1 := hid b1; have X1 := hid ((b1.block _ (heap_lt X0.out)).trans X0.out); clear b1)
        | (with_reducible show Go.wpList _ _ _ _ _ _; first
          | (refine wpList_alloc_row rfl 23 rfl Z Zh.out ?_; rw [← HW.out])
          | refine wpList_build_none rfl 23 rfl Z Bh.out ?_
          | refine wpList_store_row rfl 23 (.tmp 8) (.tmp 32) rfl w.heap.size Z rfl rfl 23 Z X1.out hz.out.info rfl hz.out.one ?_))
      refine bodyPost_ret (results_row_tmp rfl _ _ w.heap.size 23 Z (0, 0) _ rfl (setRow_heap _ _ _ _ _ _ X1.out) Tryz.underlying23 rfl hz.out.info) rfl ?_
      exact ⟨Z, rfl, hz.out, (Below.on' B0.out B1.out).setRow (Nat.le_refl _) _⟩
theorem RTree.rng {w : World} {B g : Nat} {root : List UInt8} {s : TS} {gv lv : Value} (h : RTree w B g root s gv lv) : (loadH (.pointer (some ⟨g, 0, none⟩))).run Tryz.prog w = .ok (.agg (bvs root)) w := by
  have h1 := run_loadAt_mid (P := Tryz.prog) w g 0 23 (cellsOf root) _ (fun j v hj => by
    rw [Nat.zero_add, cell_of_row _ _ _ _ _ _ h.obj, refC, List.getElem?_toArray, List.getElem?_append_left (List.getElem?_eq_some_iff.1 hj).1]
    exact hj) Tryz.underlying23 rfl (by rw [cellsOf_length, h.len]; exact size_hash)
  exact h1
theorem txtJ_small (v : Nat) (h3 : v ≤ 1000) : (txtJ v).size ≤ 100 := by
  show (numT v).toArray.size ≤ 100
  unfold numT
  split
  · decide
  · rw [List.size_toArray, List.length_cons, lo_length]
    have := (Nat.log2_lt (by omega)).2 (show v < 2 ^ 63 by omega)
    omega
section
attribute [local go_sem ↓] loadH_fold
set_option maxHeartbeats 4000000 in
theorem rkey_ok {w : World} {B g : Nat} {root : List UInt8} {s : TS} {gv lv : Value} (h : RTree w B g root s gv lv) (t u : ByteArray) (ht : t.size ≤ 100) (hu : u.size ≤ 100) (c : Int) (v : Nat) (h1 : 1 ≤ v) (h2 : (v : Int) ≤ c) (h3 : v ≤ 1000) (HC : ∀ W, Below w.heap.size w W → Calls Tryz.prog 30 #[.pointer (some ⟨g, 0, none⟩), .string t, .string u] W fun e w' => e = .returned (.tuple #[.int .i64 c, .int .i64 0]) ∧ Below W.heap.size W w') :
    Calls Tryz.prog 28 #[.pointer (some ⟨g, 0, none⟩), .string t, .string u, .int .i64 (v : Int)] w (HashErr w (derRes root [t, u, txtJ v]) (keyErr [t, u, txtJ v] : Int)) := by
  obtain ⟨Z, hZ⟩ : ∃ Z, Z = bvs (List.replicate 32 0) := ⟨_, rfl⟩
  have zh := (zero_of_info zero_hash).1
  rw [← hZ] at zh
  have hz : Hid (HV Z (List.replicate 32 0)) := by
    show HV _ _
    rw [hZ]; exact hv_zero
  have zh := hid zh
  obtain ⟨W, hW⟩ : ∃ W, W = w.alloc (.cells Z 23) := ⟨_, rfl⟩
  have b0 : Below w.heap.size w W := by rw [hW]; exact (Below.refl _ w).alloc (Nat.le_refl _) _
  have x0 : W.heap[w.heap.size]? = some (.cells Z 23 (0, 0)) := by rw [hW]; exact heap_alloc_new w _
  have hsz : ∀ s ∈ [t, u, txtJ v], s.size ≤ 140737488351232 := fun s hs => by
    simp at hs
    rcases hs with rfl | rfl | rfl
    · omega
    · omega
    · have := txtJ_small v h3; omega
  have HC := hid (HC W b0)
  have H := hid (h.below b0)
  have B0 := hid b0
  have X0 := hid x0
  have HW := hid hW
  have Hsz := hid hsz
  have HN := hid (fun w => refNumber_any v (by omega) w)
  have g1 : decide ((v : Int) < 1) = false := by simp; omega
  have g2 : decide (c < (v : Int)) = false := by simp; omega
  obtain ⟨er, her⟩ : ∃ er : Int, er = (keyErr [t, u, txtJ v] : Int) := ⟨_, rfl⟩
  obtain ⟨dr, hdr⟩ : ∃ dr, dr = derRes root [t, u, txtJ v] := ⟨_, rfl⟩
  have HD := hid (fun (V : World) => by have := refDerive_any (w := V.alloc (.cells #[.string t, .string u, .string (txtJ v)] 9)) (K := bvs root) (key := root) ⟨rfl, h.len⟩ [t, u, txtJ v] (some ⟨V.heap.size, 0, none⟩) 3 3 rfl (texts3J V t u (txtJ v)) hsz (by simp) trivial; rw [← her, ← hdr] at this; exact this)
  rw [← her, ← hdr]
  clear h hZ hW b0 x0 hsz her hdr
  obtain ⟨tx, htx⟩ : ∃ tx, tx = txtJ v := ⟨_, rfl⟩
  rw [show (⟨(numT v).toArray⟩ : ByteArray) = tx from htx.symm] at HN
  rw [← htx] at HD
  clear htx Hsz
  go_enter Tryz.func28, Tryz.ntmps28
  go_wp2_with (first
    | (with_reducible show Go.wpList _ _ _ _ _ _; refine wpList_alloc_row rfl 23 rfl Z zh.out ?_; rw [← HW.out])
    | (go_at_call 30; refine HC.out.mono ?_; rintro _ w1 ⟨rfl, b1⟩; have B1 := hid b1; clear b1)
    | (go_at_call 34; refine (HN.out w1).mono ?_; rintro _ w2 ⟨rfl, b2⟩; have B2 := hid (Below.on' B1.out b2); have hld := (H.out.below B2.out).rng; clear b2)
    | (go_at_call 51; refine (HD.out w2).mono ?_; rintro _ w3 ⟨O, rfl, hO, b3⟩; have HO := hid hO; have B3 := hid (Below.on' (Below.on' B2.out ((Below.refl _ w2).alloc (Nat.le_refl _) _)) b3); have X3 := hid ((B3.out.block _ (heap_lt X0.out)).trans X0.out); clear hO b3)
    | (with_reducible show Go.wpList _ _ _ _ _ _; refine wpList_store_row rfl 23 (.tmp 8) (.tmp 47) rfl w.heap.size O rfl rfl 23 Z X3.out HO.out.info (hz.out.size.trans HO.out.size.symm) HO.out.one ?_))
  refine bodyPost_ret (results_row_tmp rfl _ _ w.heap.size 23 O (0, 0) _ rfl (setRow_heap _ _ _ _ _ _ X3.out) Tryz.underlying23 rfl HO.out.info) rfl ?_
  exact ⟨O, rfl, HO.out, (Below.on' B0.out B3.out).setRow (Nat.le_refl _) _⟩
end
theorem rKey_any {w : World} {B g : Nat} {root : List UInt8} {s : TS} (h : RT w B g root s) (ok : s.Ok) (t u : ByteArray) (ht : t.size ≤ maxLen) (hu : u.size ≤ maxLen) (v : Int) :
    Calls Tryz.prog 28 #[.pointer (some ⟨g, 0, none⟩), .string t, .string u, .int .i64 v] w (HashErr w (s.keyR root t u v).1 ((s.keyR root t u v).2 : Int)) := by
  obtain ⟨gv, lv, h⟩ := h
  have hf := ok.few
  have hgf := ok.gfew
  have HC : ∀ W, Below w.heap.size w W → _ := fun W hW => rCurrent_any (h.below hW) (by omega) (by omega) t u ht hu
  unfold TS.keyR
  by_cases he : (s.cur t u).2 ≠ 0
  · rw [if_pos he]
    exact rkey_none t u v _ _ _ (.inl ⟨by omega, rfl⟩) HC
  · rw [if_neg he]
    have he0 : (s.cur t u).2 = 0 := by omega
    obtain ⟨n1, n2, hg, hc⟩ := cur_ok he0
    by_cases hv : v < 1 ∨ ((s.cur t u).1 : Int) < v
    · rw [if_pos hv]
      exact rkey_none t u v _ _ _ (.inr ⟨by omega, rfl, hv⟩) HC
    · rw [if_neg hv]
      obtain ⟨v1, v2⟩ := verOf_ok ok t u
      obtain ⟨n, rfl⟩ : ∃ n : Nat, v = (n : Int) := ⟨v.toNat, by omega⟩
      rw [he0] at HC
      have hk := rkey_ok h t u (by have := okN_len n1; omega) (by have := okN_len n2; omega) _ n (by omega) (by omega) (by omega) HC
      rw [keyErr_ok n1 n2 (by omega)] at hk
      exact hk
end Go.Proofs.YtdglmoikgmlaaaaGreatDoor
