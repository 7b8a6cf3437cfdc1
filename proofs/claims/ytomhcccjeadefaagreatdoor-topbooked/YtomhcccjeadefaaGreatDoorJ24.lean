/- YtomhcccjeadefaaGreatDoorJ21 + YtomhcccjeadefaaGreatDoorJ22 + YtomhcccjeadefaaGreatDoorJ23 + YtomhcccjeadefaaGreatDoorJ24 -/
import Derived.Test.YtomhcccjeadefaaGreatDoorJ20
import Derived.Lib.LazyBuf
/- Seal of any names, over a tree as mathematics. -/
namespace Go.Proofs.YtomhcccjeadefaaGreatDoor
open Go.RowKit Go.Maps
set_option linter.unusedVariables false
set_option maxRecDepth 20000
def TS.sealR (s : TS) (root : List UInt8) (t u : ByteArray) (plain : List UInt8) : TS × (List UInt8 × Nat) :=
  if (s.cur t u).2 ≠ 0 then (s, ([], (s.cur t u).2))
  else if 1024 < plain.length then (s, ([], 6))
  else if s.n = 1099511627776 then (s, ([], 7))
  else ({ s with n := s.n + 1 }, (UInt8.ofNat (s.cur t u).1 :: sealB (derRes root [t, u, txtJ (s.cur t u).1]) s.n plain, 0))
theorem nilJ (w : World) (B : Nat) : w.ownsRow B 5 1 (.slice none 0 0) 0 (cellsOf []) := World.ownsRow_nil _ _ _ _
set_option maxHeartbeats 1000000 in
theorem seal_err {w : World} {g : Nat} (t u : ByteArray) (v : Value) (z c : Int) (hc : c ≠ 0) (H : Calls Tryz.prog 23 #[.pointer (some ⟨g, 0, none⟩), .string t, .string u] w fun e w' => e = .returned (.tuple #[.int .i64 z, .int .i64 c]) ∧ Below w.heap.size w w') :
    Calls Tryz.prog 9 #[.pointer (some ⟨g, 0, none⟩), .string t, .string u, v] w fun e w' => e = .returned (.tuple #[.slice none 0 0, .int .i64 c]) ∧ Below w.heap.size w w' := by
  have q0 : (c != 0) = true := by simpa using hc
  go_enter Tryz.func9, Tryz.ntmps9
  go_wp2_with (go_at_call 23; refine H.mono ?_; rintro _ w1 ⟨rfl, b1⟩)
  go_ret2
  exact ⟨rfl, b1⟩
set_option maxHeartbeats 1000000 in
theorem open_err {w : World} {g : Nat} (t u : ByteArray) (v : Value) (z c : Int) (hc : c ≠ 0) (H : Calls Tryz.prog 23 #[.pointer (some ⟨g, 0, none⟩), .string t, .string u] w fun e w' => e = .returned (.tuple #[.int .i64 z, .int .i64 c]) ∧ Below w.heap.size w w') :
    Calls Tryz.prog 12 #[.pointer (some ⟨g, 0, none⟩), .string t, .string u, v] w fun e w' => e = .returned (.tuple #[.slice none 0 0, .int .i64 0, .int .i64 c]) ∧ Below w.heap.size w w' := by
  have q0 : (c != 0) = true := by simpa using hc
  go_enter Tryz.func12, Tryz.ntmps12
  go_wp2_with (go_at_call 23; refine H.mono ?_; rintro _ w1 ⟨rfl, b1⟩)
  go_ret3
  exact ⟨rfl, b1⟩
set_option maxHeartbeats 1000000 in
theorem open_empty {w : World} {g : Nat} (t u : ByteArray) (a : Option Addr) (cap : Nat) (z : Int) (H : Calls Tryz.prog 23 #[.pointer (some ⟨g, 0, none⟩), .string t, .string u] w fun e w' => e = .returned (.tuple #[.int .i64 z, .int .i64 0]) ∧ Below w.heap.size w w') :
    Calls Tryz.prog 12 #[.pointer (some ⟨g, 0, none⟩), .string t, .string u, .slice a 0 cap] w fun e w' => e = .returned (.tuple #[.slice none 0 0, .int .i64 0, .int .i64 3]) ∧ Below w.heap.size w w' := by
  go_enter Tryz.func12, Tryz.ntmps12
  go_wp2_with (go_at_call 23; refine H.mono ?_; rintro _ w1 ⟨rfl, b1⟩)
  go_ret3
  exact ⟨rfl, b1⟩
theorem seal_m {w : World} {B g mv mg : Nat} {root : List UInt8} {s : TS} {d : Nat} (h : TreeM w B g mv mg root s d) (hsn : s.n ≤ 1099511627776) (t u : ByteArray) (ht : t.size ≤ maxLen) (hu : u.size ≤ maxLen) (plain : List UInt8) (a : Option Addr) (n cap : Nat) (hn : n = plain.length) (hB : Bytes w a plain) (hT : TabAt w) (hKA : KAt w) :
    Calls Tryz.prog 9 #[.pointer (some ⟨g, 0, none⟩), .string t, .string u, .slice a n cap] w fun e w' => ∃ v, e = .returned (.tuple #[v, .int .i64 ((s.sealR root t u plain).2.2 : Int)]) ∧ w'.ownsRow w.heap.size 5 1 v (s.sealR root t u plain).2.1.length (cellsOf (s.sealR root t u plain).2.1) ∧ TreeM w' B g mv mg root (s.sealR root t u plain).1 d ∧ OutJ (Mine g mv mg) w w' := by
  have HC := current_m h t u ht hu
  have up : ∀ w', Below w.heap.size w w' → TreeM w' B g mv mg root s d := fun w' hb => h.below hb
  unfold TS.sealR
  by_cases he : (s.cur t u).2 ≠ 0
  · rw [if_pos he]
    refine (seal_err t u _ _ _ (by omega) HC).mono fun e w' h9 => ?_
    exact ⟨_, h9.1, nilJ _ _, up w' h9.2, OutJ.of_below h9.2⟩
  · rw [if_neg he]
    have he0 : (s.cur t u).2 = 0 := by omega
    obtain ⟨n1, n2, hg, hc⟩ := cur_ok he0
    obtain ⟨ok, hne, nv, ng, V, G, h1, hV, hG, l1, l2⟩ := h
    obtain ⟨v1, v2⟩ := verOf_ok ok t u
    have hke := keyErr_ok n1 n2 v2
    by_cases hl : 1024 < plain.length
    · rw [if_pos hl]
      refine (seal_toolong h1 t u ⟨by have := okN_len n1; omega, n1⟩ ⟨by have := okN_len n2; omega, n2⟩ (keyP t u) (keyOf_place t u ht hu) _ (hV.ver t u ht hu) v1 (by omega) (by rw [hG.has, hg]) hke hsn a n cap (by omega) hT hKA).mono fun e w' h9 => ?_
      exact ⟨_, h9.1, nilJ _ _, up w' h9.2, OutJ.of_below h9.2⟩
    · rw [if_neg hl]
      by_cases hf : s.n = 1099511627776
      · rw [if_pos hf]
        refine (seal_full h1 t u ⟨by have := okN_len n1; omega, n1⟩ ⟨by have := okN_len n2; omega, n2⟩ (keyP t u) (keyOf_place t u ht hu) _ (hV.ver t u ht hu) v1 (by omega) (by rw [hG.has, hg]) hke hf plain a n cap hn hB (by omega) hT hKA).mono fun e w' h9 => ?_
        exact ⟨_, h9.1, nilJ _ _, up w' h9.2, OutJ.of_below h9.2⟩
      rw [if_neg hf, hc]
      refine (seal_ok h1 t u ⟨by have := okN_len n1; omega, n1⟩ ⟨by have := okN_len n2; omega, n2⟩ (keyP t u) (keyOf_place t u ht hu) _ (hV.ver t u ht hu) v1 (by omega) (by rw [hG.has, hg]) hke (by omega) plain a n cap hn hB (by omega) hT hKA).mono fun e w' h9 => ?_
      obtain ⟨v, rfl, h10, h11, h12⟩ := h9
      exact ⟨v, rfl, h10, ⟨⟨ok.names, ok.nodup, ok.gnames, ok.gnodup, ok.few, ok.gfew⟩, hne, nv, ng, V, G, h11, hV, hG, l1, l2⟩, h12.mono fun k hk => .inl hk⟩
end Go.Proofs.YtomhcccjeadefaaGreatDoor
/- Open of any names and bytes, over a tree as mathematics. -/
namespace Go.Proofs.YtomhcccjeadefaaGreatDoor
open Go.RowKit Go.Maps
set_option linter.unusedVariables false
set_option maxRecDepth 20000
set_option maxHeartbeats 400000 in
theorem open_bad {w : World} {K : Array Value} {key : List UInt8} (hK : HV K key) (a : Option Addr) (n cap : Nat) (hn : n < 24 ∨ 1048 < n) :
    Calls Tryz.prog 28 #[.agg K, .slice a n cap] w fun e w' => e = .returned (.tuple #[.slice none 0 0, .int .u64 0, .int .i64 (if n < 24 then 3 else 6)]) ∧ Below w.heap.size w w' := by
  have b0 : Hid (Below w.heap.size w (w.alloc (.cells K 27))) := (Below.refl _ w).alloc (Nat.le_refl _) _
  have hinf : (Tryz.prog.info? 27).map (·.size) = some K.size := hK.info
  by_cases h : n < 24
  · rw [if_pos h]
    have d1 : (n : Int) < 24 := by omega
    clear hn
    go_enter Tryz.func28, Tryz.ntmps28
    go_wp2
    go_ret3
    exact ⟨rfl, b0.out⟩
  · rw [if_neg h]
    have d1 : ¬ (n : Int) < 24 := by omega
    have d2 : (1048 : Int) < (n : Int) := by omega
    clear hn
    go_enter Tryz.func28, Tryz.ntmps28
    go_wp2
    go_ret3
    exact ⟨rfl, b0.out⟩
def openS (key S : List UInt8) : List UInt8 × Nat :=
  if S.length < 24 then ([], 3) else if 1048 < S.length then ([], 6)
  else if S.drop (S.length - 16) = tagB key (S.take (S.length - 16)) then (cross key (numB (S.take 8)) ((S.take (S.length - 16)).drop 8), 0) else ([], 10)
theorem openS_err {key S : List UInt8} (h : (openS key S).2 ≠ 0) : (openS key S).1 = [] := by
  unfold openS at h ⊢
  split at h
  · rename_i h1; rw [if_pos h1]
  · rename_i h1
    rw [if_neg h1]
    split at h
    · rename_i h2; rw [if_pos h2]
    · rename_i h2
      rw [if_neg h2]
      split at h
      · exact absurd rfl h
      · rename_i h3; rw [if_neg h3]
theorem openS_any {w : World} {K : Array Value} {key : List UInt8} (hK : HV K key) (S : List UInt8) (ab ao n cap : Nat) (hn : n = S.length) (hB : Bytes w (some ⟨ab, ao, none⟩) S) (hcap : n ≤ cap) (hT : KAt w) : ∃ nu : Nat,
    Calls Tryz.prog 28 #[.agg K, .slice (some ⟨ab, ao, none⟩) n cap] w fun e w' => ∃ vv, e = .returned (.tuple #[vv, .int .u64 (nu : Int), .int .i64 ((openS key S).2 : Int)]) ∧ w'.ownsRow w.heap.size 5 1 vv (openS key S).1.length (cellsOf (openS key S).1) ∧ Below w.heap.size w w' := by
  unfold openS
  by_cases h1 : S.length < 24
  · rw [if_pos h1]
    refine ⟨0, (open_bad hK _ n cap (by omega)).mono fun e w' h => ⟨_, ?_, nilJ _ _, h.2⟩⟩
    rw [h.1, if_pos (by omega)]
    rfl
  · rw [if_neg h1]
    by_cases h2 : 1048 < S.length
    · rw [if_pos h2]
      refine ⟨0, (open_bad hK _ n cap (by omega)).mono fun e w' h => ⟨_, ?_, nilJ _ _, h.2⟩⟩
      rw [h.1, if_neg (by omega)]
      rfl
    · rw [if_neg h2]
      by_cases h3 : S.drop (S.length - 16) = tagB key (S.take (S.length - 16))
      · rw [if_pos h3]
        refine ⟨numB (S.take 8), (open_any hK S ab ao n cap hn hB (by omega) (by omega) hcap hT).mono fun e w' h => ?_⟩
        obtain ⟨v, he, hown⟩ := h.right h3
        exact ⟨v, he, hown, h.below⟩
      · rw [if_neg h3]
        refine ⟨0, (open_any hK S ab ao n cap hn hB (by omega) (by omega) hcap hT).mono fun e w' h => ?_⟩
        exact ⟨_, h.wrong h3, nilJ _ _, h.below⟩
set_option maxHeartbeats 4000000 in
theorem open_gen {w : World} {B g mv mg : Nat} {root : List UInt8} {s : TS} {d : Nat} (h : TreeM w B g mv mg root s d) (t u : ByteArray) (ht : t.size ≤ maxLen) (hu : u.size ≤ maxLen) (he0 : (s.cur t u).2 = 0) (v : Nat) (hv : v ≤ 255) (key : List UInt8) (hkey : s.keyR root t u (v : Int) = (key, 0)) (S : List UInt8) (gs m cap : Nat) (hm : m = S.length + 1) (hm9 : m ≤ 140737488351232) (hmc : m ≤ cap) (hB : Bytes w (some ⟨gs, 0, none⟩) (UInt8.ofNat v :: S)) (hT : TabAt w) (hKA : KAt w) :
    Calls Tryz.prog 12 #[.pointer (some ⟨g, 0, none⟩), .string t, .string u, .slice (some ⟨gs, 0, none⟩) m cap] w fun e w' => ∃ vv, e = .returned (.tuple #[vv, .int .i64 (if (openS key S).2 = 0 then (v : Int) else 0), .int .i64 ((openS key S).2 : Int)]) ∧ w'.ownsRow w.heap.size 5 1 vv (openS key S).1.length (cellsOf (openS key S).1) ∧ Below w.heap.size w w' := by
  obtain ⟨Z, hZ⟩ : ∃ Z, Z = bvs (List.replicate 32 0) := ⟨_, rfl⟩
  have zh := (zero_of_info zero_hash).1
  rw [← hZ] at zh
  have hz : Hid (HV Z (List.replicate 32 0)) := by
    show HV _ _
    rw [hZ]; exact hv_zero
  have zh := hid zh
  have HC := hid (by have := current_m h t u ht hu; rw [he0] at this; exact this)
  obtain ⟨c, hcc⟩ : ∃ c, c = (s.cur t u).1 := ⟨_, rfl⟩
  rw [← hcc] at HC
  have HKy := hid (fun (W : World) (hW : Below w.heap.size w W) => by have := key_m (h.below hW) t u ht hu (v : Int) (TabAt.belowJ hT hW) (hKA.below hW); rw [hkey] at this; exact this)
  have hv8 : ((UInt8.ofNat v).toNat : Int) = (v : Int) := by
    have : (UInt8.ofNat v).toNat = v := by simp; omega
    omega
  have q0 : w.cell? ⟨gs, 0, none⟩ = some (.int .u8 (v : Int)) := by
    obtain ⟨b9, o9, e9, hc9⟩ := hB 0 (by simp)
    cases e9
    rw [← hv8]
    exact hc9
  have hB1 : Bytes w (some ⟨gs, 1, none⟩) S := fun i hi => by
    obtain ⟨b9, o9, e9, hc9⟩ := hB (i + 1) (by simp; omega)
    cases e9
    refine ⟨gs, 1, rfl, ?_⟩
    rw [show 1 + i = 0 + (i + 1) by omega]
    exact hc9
  obtain ⟨oo, hoo⟩ : ∃ oo, oo = if 1 < cap then 1 else 0 := ⟨_, rfl⟩
  have hB1 : Bytes w (some ⟨gs, oo, none⟩) S := by
    by_cases hc : 1 < cap
    · rw [hoo, if_pos hc]; exact hB1
    · intro i hi; omega
  have HB1 := hid hB1
  have Hoo := hid hoo
  clear hoo
  have H := hid h
  have HKA := hid hKA
  have Q0 := hid q0
  have gm0 : ((m : Int) == 0) = false := by simp; omega
  have hm0 : 0 < m := by omega
  have Hm := hid hm
  have Hm9 := hid hm9
  obtain ⟨er, her⟩ : ∃ er, er = (openS key S).2 := ⟨_, rfl⟩
  obtain ⟨pl, hpl⟩ : ∃ pl, pl = (openS key S).1 := ⟨_, rfl⟩
  have Her := hid her
  have Hpl := hid hpl
  rw [← her, ← hpl]
  obtain ⟨vr, hvr⟩ : ∃ vr : Int, vr = if er = 0 then (v : Int) else 0 := ⟨_, rfl⟩
  have Hvr := hid hvr
  rw [← hvr]
  clear hvr
  clear hm h hZ hT hkey hB hB1 hKA hv8 q0 hcc he0 her hpl hm9
  go_enter Tryz.func12, Tryz.ntmps12
  go_wp2_with (first
    | (go_at_call 23; refine HC.out.mono ?_; rintro _ w1 ⟨rfl, b1⟩; have B1 := hid b1; have q1 := (b1.cell (World.block_lt_of_cell? _ _ Q0.out)).trans Q0.out; clear b1)
    | (go_at_call 24; refine (HKy.out w1 B1.out).mono ?_; rintro _ w2 ⟨O, rfl, hO, b2⟩; obtain rfl := hO.eq; have hlk := hid hO.len; have B2 := hid (Below.on' B1.out b2); have X2 : Hid ((w2.alloc (.cells Z 27)).heap[w2.heap.size]? = some (.cells Z 27 (0, 0))) := heap_alloc_new w2 _; have HI := hid hO.info; have HZ9 := hid (hz.out.size.trans hO.size.symm); have HO1 := hid hO.one; clear b2 hO)
    | (with_reducible show Go.wpList _ _ _ _ _ _; refine wpList_alloc_row rfl 27 rfl Z zh.out ?_)
    | (with_reducible show Go.wpList _ _ _ _ _ _; refine wpList_store_row rfl 27 _ _ rfl w2.heap.size (bvs key) rfl rfl 27 Z X2.out HI.out HZ9.out HO1.out ?_))
  obtain ⟨W3, hW3⟩ : ∃ W3, W3 = (w2.alloc (.cells Z 27)).setRow w2.heap.size (bvs key) := ⟨_, rfl⟩
  have b3 : Below w2.heap.size w2 W3 := by rw [hW3]; exact ((Below.refl _ w2).alloc (Nat.le_refl _) _).setRow (Nat.le_refl _) _
  have x3 : W3.heap[w2.heap.size]? = some (.cells (bvs key) 27 (0, 0)) := by rw [hW3]; exact setRow_heap _ _ _ _ _ _ X2.out
  rw [← hW3]
  obtain ⟨V0, hV0⟩ : ∃ V0, V0 = W3.drew := ⟨_, rfl⟩
  have b30 : Below W3.heap.size W3 V0 := by rw [hV0]; exact (Below.refl _ W3).drew
  have bw0 : Below w.heap.size w V0 := Below.on' (Below.on' B2.out b3) b30
  obtain ⟨nu, hcall⟩ := openS_any (w := V0) (K := bvs key) (key := key) ⟨rfl, hlk.out⟩ S gs oo (m - 1) (cap - 1) (by have := Hm.out; omega) (HB1.out.below bw0) (by omega) (HKA.out.below bw0)
  rw [← Her.out, ← Hpl.out] at hcall
  refine wp_act _ fun A hA => ?_
  have sz : A.tmps.size = 59 := by rw [hA]; rfl
  have e3 : A.eval (.tmp 3) = .slice (some ⟨gs, 0, none⟩) m cap := by rw [hA]; rfl
  have e14 : A.eval (.tmp 14) = .pointer (some ⟨w2.heap.size, 0, none⟩) := by rw [hA]; rfl
  refine wp_split _ (open_region10 (P := fun vv w' => w'.ownsRow V0.heap.size 5 1 vv pl.length (cellsOf pl)) sz e3 e14 hlk.out (by omega) Hoo.out (by omega) hcall hV0 ((b30.block _ (heap_lt x3)).trans x3)) ?_
  rintro _ V4 ⟨vv, rfl, hown, b4⟩
  rw [hA]
  simp only [Act.put, List.setIfInBounds_toArray, List.set_cons_succ, List.set_cons_zero]
  have HOwn := hid (own_mono hown bw0.size)
  have BF := hid (Below.on' bw0 b4)
  clear sz e3 e14 hA A hcall hown b4 bw0 b30 b3 x3 hV0 hW3
  by_cases h0 : er = 0
  · have Hv0 : Hid (vr = (v : Int)) := Hvr.out.trans (if_pos h0)
    subst h0
    go_wp2
    go_ret3
    exact ⟨vv, by rw [Hv0.out]; rfl, HOwn.out, BF.out⟩
  · have H0 := hid h0
    have q9 : ((er : Int) != 0) = true := by simp; omega
    have hnil : Hid (pl = []) := by
      show pl = []
      rw [Hpl.out]
      exact openS_err (by rw [← Her.out]; exact h0)
    clear h0
    go_wp2
    go_ret3
    exact ⟨_, by rw [Hvr.out.trans (if_neg H0.out)]; rfl, by rw [hnil.out]; exact nilJ _ _, BF.out⟩
end Go.Proofs.YtomhcccjeadefaaGreatDoor
/- Open, over a tree as mathematics. -/
namespace Go.Proofs.YtomhcccjeadefaaGreatDoor
open Go.RowKit Go.Maps
set_option linter.unusedVariables false
set_option maxRecDepth 20000
def TS.openB (s : TS) (root : List UInt8) (t u : ByteArray) (b : UInt8) (S : List UInt8) : List UInt8 × (Nat × Nat) :=
  if (s.cur t u).2 ≠ 0 then ([], (0, (s.cur t u).2))
  else if (s.keyR root t u (b.toNat : Int)).2 ≠ 0 then ([], (0, (s.keyR root t u (b.toNat : Int)).2))
  else ((openS (s.keyR root t u (b.toNat : Int)).1 S).1, (if (openS (s.keyR root t u (b.toNat : Int)).1 S).2 = 0 then b.toNat else 0, (openS (s.keyR root t u (b.toNat : Int)).1 S).2))
def TS.openR (s : TS) (root : List UInt8) (t u : ByteArray) : List UInt8 → List UInt8 × (Nat × Nat)
  | [] => ([], (0, if (s.cur t u).2 ≠ 0 then (s.cur t u).2 else 3))
  | b :: S => s.openB root t u b S
set_option maxHeartbeats 4000000 in
theorem open_rng {w : World} {g : Nat} (t u : ByteArray) (z : Int) (v : Nat) (hv : v ≤ 255) (gs m cap : Nat) (hm0 : 0 < m) (q0 : w.cell? ⟨gs, 0, none⟩ = some (.int .u8 (v : Int))) (key : List UInt8) (HC : Calls Tryz.prog 23 #[.pointer (some ⟨g, 0, none⟩), .string t, .string u] w fun e w' => e = .returned (.tuple #[.int .i64 z, .int .i64 0]) ∧ Below w.heap.size w w')
    (HKy : ∀ W, Below w.heap.size w W → Calls Tryz.prog 24 #[.pointer (some ⟨g, 0, none⟩), .string t, .string u, .int .i64 (v : Int)] W (HashErr W key 2)) :
    Calls Tryz.prog 12 #[.pointer (some ⟨g, 0, none⟩), .string t, .string u, .slice (some ⟨gs, 0, none⟩) m cap] w fun e w' => e = .returned (.tuple #[.slice none 0 0, .int .i64 0, .int .i64 2]) ∧ Below w.heap.size w w' := by
  obtain ⟨Z, hZ⟩ : ∃ Z, Z = bvs (List.replicate 32 0) := ⟨_, rfl⟩
  have zh := (zero_of_info zero_hash).1
  rw [← hZ] at zh
  have hz : Hid (HV Z (List.replicate 32 0)) := by
    show HV _ _
    rw [hZ]; exact hv_zero
  have Zh := hid zh
  have HC := hid HC
  have HKy := hid HKy
  have Q0 := hid q0
  have gm0 : ((m : Int) == 0) = false := by simp; omega
  have hm0' := hid hm0
  clear hZ q0
  go_enter Tryz.func12, Tryz.ntmps12
  go_wp2_with (first
    | (go_at_call 23; refine HC.out.mono ?_; rintro _ w1 ⟨rfl, b1⟩; have B1 := hid b1; have q1 := (b1.cell (World.block_lt_of_cell? _ _ Q0.out)).trans Q0.out; clear b1)
    | (go_at_call 24; refine (HKy.out w1 B1.out).mono ?_; rintro _ w2 ⟨O, rfl, hO, b2⟩; obtain rfl := hO.eq; have hlk := hid hO.len; have B2 := hid (Below.on' B1.out b2); have X2 : Hid ((w2.alloc (.cells Z 27)).heap[w2.heap.size]? = some (.cells Z 27 (0, 0))) := heap_alloc_new w2 _; have HI := hid hO.info; have HZ9 := hid (hz.out.size.trans hO.size.symm); have HO1 := hid hO.one; clear b2 hO)
    | (with_reducible show Go.wpList _ _ _ _ _ _; refine wpList_alloc_row rfl 27 rfl Z Zh.out ?_)
    | (with_reducible show Go.wpList _ _ _ _ _ _; refine wpList_store_row rfl 27 _ _ rfl w2.heap.size (bvs key) rfl rfl 27 Z X2.out HI.out HZ9.out HO1.out ?_))
  go_ret3
  exact ⟨rfl, (B2.out.alloc B2.out.size _).setRow B2.out.size _⟩
theorem keyR_err {s : TS} {root : List UInt8} {t u : ByteArray} {v : Int} (h0 : (s.cur t u).2 = 0) (h : (s.keyR root t u v).2 ≠ 0) : (s.keyR root t u v).2 = 2 := by
  unfold TS.keyR at h ⊢
  rw [if_neg (by omega)] at h ⊢
  split at h
  · rename_i h1; rw [if_pos h1]
  · exact absurd rfl h
theorem open_m {w : World} {B g mv mg : Nat} {root : List UInt8} {s : TS} {d : Nat} (h : TreeM w B g mv mg root s d) (t u : ByteArray) (ht : t.size ≤ maxLen) (hu : u.size ≤ maxLen) (b : UInt8) (S : List UInt8) (gs m cap : Nat) (hm : m = S.length + 1) (hm9 : m ≤ 140737488351232) (hmc : m ≤ cap) (hB : Bytes w (some ⟨gs, 0, none⟩) (b :: S)) (hT : TabAt w) (hKA : KAt w) :
    Calls Tryz.prog 12 #[.pointer (some ⟨g, 0, none⟩), .string t, .string u, .slice (some ⟨gs, 0, none⟩) m cap] w fun e w' => ∃ v, e = .returned (.tuple #[v, .int .i64 ((s.openB root t u b S).2.1 : Int), .int .i64 ((s.openB root t u b S).2.2 : Int)]) ∧ w'.ownsRow w.heap.size 5 1 v (s.openB root t u b S).1.length (cellsOf (s.openB root t u b S).1) ∧ Below w.heap.size w w' := by
  have HC := current_m h t u ht hu
  have hb8 : UInt8.ofNat b.toNat = b := by simp
  unfold TS.openB
  by_cases he : (s.cur t u).2 ≠ 0
  · rw [if_pos he]
    refine (open_err t u _ _ _ (by omega) HC).mono fun e w' h9 => ?_
    exact ⟨_, h9.1, nilJ _ _, h9.2⟩
  · rw [if_neg he]
    have he0 : (s.cur t u).2 = 0 := by omega
    by_cases hk : (s.keyR root t u (b.toNat : Int)).2 ≠ 0
    · rw [if_pos hk]
      rw [he0] at HC
      have q0 : w.cell? ⟨gs, 0, none⟩ = some (.int .u8 (b.toNat : Int)) := by
        obtain ⟨b9, o9, e9, hc9⟩ := hB 0 (by simp)
        cases e9
        exact hc9
      have h2 := keyR_err he0 hk
      rw [h2]
      refine (open_rng t u _ b.toNat (by have := b.toNat_lt; omega) gs m cap (by omega) q0 _ HC (fun W hW => by have := key_m (h.below hW) t u ht hu (b.toNat : Int) (TabAt.belowJ hT hW) (hKA.below hW); rw [h2] at this; exact this)).mono fun e w' h9 => ?_
      exact ⟨_, h9.1, nilJ _ _, h9.2⟩
    · rw [if_neg hk]
      have hk0 : (s.keyR root t u (b.toNat : Int)).2 = 0 := by omega
      refine (open_gen h t u ht hu he0 b.toNat (by have := b.toNat_lt; omega) _ (by rw [← hk0]) S gs m cap hm hm9 hmc (by rw [hb8]; exact hB) hT hKA).mono fun e w' h9 => ?_
      obtain ⟨v, rfl, h10, h11⟩ := h9
      refine ⟨v, ?_, h10, h11⟩
      split <;> rfl
end Go.Proofs.YtomhcccjeadefaaGreatDoor
/- Reseal, over a tree as mathematics. -/
namespace Go.Proofs.YtomhcccjeadefaaGreatDoor
open Go.RowKit Go.Maps
set_option linter.unusedVariables false
set_option maxRecDepth 20000
set_option maxHeartbeats 400000 in
theorem cloneJ (x : List UInt8) (ad : Addr) (cap : Nat) (w : World) (hB : Bytes w (some ad) x) (hlen : x.length ≤ 140737488351232) :
    Calls Tryz.prog 27 #[.slice (some ad) x.length cap] w fun e w' => ∃ v, e = .returned v ∧ w'.ownsRow w.heap.size 5 1 v x.length (cellsOf x) ∧ Below w.heap.size w w' := by
  have hcell : Hid (∀ j (h : j < x.length), w.cell? (ad.add j) = some (.int .u8 (x[j].toNat : Int))) := fun j hj => by
    obtain ⟨b, o, e, hc⟩ := hB j hj
    cases e
    rw [addr_add]
    exact hc
  have Hlt : Hid (0 < x.length → ad.block < w.heap.size) := fun h => by
    obtain ⟨b, o, e, hc⟩ := hB 0 h
    cases e
    exact World.block_lt_of_cell? _ _ hc
  have hnil := fun wx => Lib.run_eql_slice_nil (P := Tryz.prog) wx 29 5 (some ad) x.length cap 0 0 Tryz.underlying29
  have Hown := hid (World.ownsRow_lit (base := w.heap.size) (e := 5) (size := 1) w #[] 0 (Nat.le_refl _) (by decide) rfl)
  have Hcell2 : Hid (∀ j (h : j < x.length), (w.alloc (.cells #[] 5)).cell? (ad.add j) = some (.int .u8 (x[j].toNat : Int))) := fun j hj => by
    have h := hcell.out j hj
    exact (((Below.refl w.heap.size w).alloc (Nat.le_refl _) _).cell (World.block_lt_of_cell? _ _ h)).trans h
  clear hB
  go_enter Tryz.func27, Tryz.ntmps27
  go_wp2_with (at_builtin; refine app_bytes _ rfl (.tmp 5) (.tmp 6) rfl w.heap.size _ [] rfl Hown.out ad x.length cap x rfl rfl Hcell2.out (by simp; omega) (by simp) ?_; intro v1 w1 ho1 hb1 hs1)
  go_ret
  exact ⟨_, rfl, by simpa using ho1, ((Below.refl _ _).alloc (Nat.le_refl _) _).trans hb1⟩
theorem version_m {w : World} {B g mv mg : Nat} {root : List UInt8} {s : TS} {d : Nat} (h : TreeM w B g mv mg root s d) (t u : ByteArray) (ht : t.size ≤ maxLen) (hu : u.size ≤ maxLen) :
    Calls Tryz.prog 26 #[.pointer (some ⟨g, 0, none⟩), .agg #[.string t, .string u]] w fun e w' => e = .returned (.int .i64 (verOf s.vs t u : Int)) ∧ Below w.heap.size w w' := by
  obtain ⟨ok, hne, nv, ng, V, G, h1, hV, hG, _⟩ := h
  exact version_ok h1 t u (keyP t u) (keyOf_place t u ht hu) _ (hV.ver t u ht hu)
def TS.resealB (s : TS) (root : List UInt8) (t u : ByteArray) (b : UInt8) (S : List UInt8) : TS × (List UInt8 × (Bool × Nat)) :=
  if (s.openB root t u b S).2.2 ≠ 0 then (s, ([], (false, (s.openB root t u b S).2.2)))
  else if (s.openB root t u b S).2.1 = verOf s.vs t u then (s, (b :: S, (false, 0)))
  else ((s.sealR root t u (s.openB root t u b S).1).1, ((s.sealR root t u (s.openB root t u b S).1).2.1, (decide ((s.sealR root t u (s.openB root t u b S).1).2.2 = 0), (s.sealR root t u (s.openB root t u b S).1).2.2)))
def ResP (w : World) (B g mv mg : Nat) (root : List UInt8) (d : Nat) (r : TS × (List UInt8 × (Bool × Nat))) (e : Ending) (w' : World) : Prop := ∃ v, e = .returned (.tuple #[v, .bool r.2.2.1, .int .i64 (r.2.2.2 : Int)]) ∧ w'.ownsRow w.heap.size 5 1 v r.2.1.length (cellsOf r.2.1) ∧ TreeM w' B g mv mg root r.1 d ∧ OutJ (Mine g mv mg) w w'
set_option maxHeartbeats 4000000 in
theorem reseal_m {w : World} {B g mv mg : Nat} {root : List UInt8} {s : TS} {d : Nat} (h : TreeM w B g mv mg root s d) (hsn : s.n ≤ 1099511627776) (t u : ByteArray) (ht : t.size ≤ maxLen) (hu : u.size ≤ maxLen) (b : UInt8) (S : List UInt8) (gs m cap : Nat) (hm : m = S.length + 1) (hm9 : m ≤ 140737488351232) (hmc : m ≤ cap) (hB : Bytes w (some ⟨gs, 0, none⟩) (b :: S)) (hT : TabAt w) (hKA : KAt w) :
    Calls Tryz.prog 11 #[.pointer (some ⟨g, 0, none⟩), .string t, .string u, .slice (some ⟨gs, 0, none⟩) m cap] w (ResP w B g mv mg root d (s.resealB root t u b S)) := by
  have HO := hid (open_m h t u ht hu b S gs m cap hm hm9 hmc hB hT hKA)
  have HV := hid (fun (W : World) (hW : Below w.heap.size w W) => version_m (h.below hW) t u ht hu)
  have HS := hid (fun (W : World) (hW : Below w.heap.size w W) (p : List UInt8) (a : Option Addr) (n c : Nat) (hn : n = p.length) (hb : Bytes W a p) => seal_m (h.below hW) hsn t u ht hu p a n c hn hb (hT.belowJ hW) (hKA.below hW))
  have HCl := hid (fun (W : World) (hW : Below w.heap.size w W) => cloneJ (b :: S) ⟨gs, 0, none⟩ cap W (hB.below hW) (by simp; omega))
  have H := hid h
  have hlen : m = (b :: S).length := by simp; omega
  have Hlen := hid hlen
  obtain ⟨R, hR⟩ : ∃ R, R = s.resealB root t u b S := ⟨_, rfl⟩
  have HR := hid hR
  rw [← hR]
  obtain ⟨po, vo, eo, hop⟩ : ∃ po vo eo, s.openB root t u b S = (po, (vo, eo)) := ⟨_, _, _, rfl⟩
  rw [hop] at HO
  have Hop := hid hop
  clear h hm hm9 hmc hB hT hKA hsn hlen hR hop
  by_cases he : eo = 0
  · subst he
    by_cases hv : vo = verOf s.vs t u
    · have q1 : ((vo : Int) == (verOf s.vs t u : Int)) = true := by simp; omega
      have Hv := hid hv
      clear hv
      go_enter Tryz.func11, Tryz.ntmps11
      go_wp2_with (first
        | (go_at_call 12; refine HO.out.mono ?_; rintro _ w1 ⟨v1, rfl, o1, b1⟩; have B1 := hid b1; clear b1 o1)
        | (go_at_call 26; refine (HV.out w1 B1.out).mono ?_; rintro _ w2 ⟨rfl, b2⟩; have B2 := hid (Below.on' B1.out b2); clear b2)
        | (go_at_call 27; rw [Hlen.out]; refine (HCl.out w2 B2.out).mono ?_; rintro _ w3 ⟨v3, rfl, o3, b3⟩; have B3 := hid (Below.on' B2.out b3); have O3 := hid (own_mono o3 B2.out.size); clear b3 o3))
      go_ret3
      have hR1 : R = (s, (b :: S, (false, 0))) := by
        rw [HR.out]
        unfold TS.resealB
        rw [Hop.out, if_neg (by simp), if_pos Hv.out]
      rw [hR1]
      exact ⟨v3, rfl, O3.out, H.out.below B3.out, OutJ.of_below B3.out⟩
    · have q1 : ((vo : Int) == (verOf s.vs t u : Int)) = false := by simp; omega
      have Hv := hid hv
      obtain ⟨sr, lr, er, hsr⟩ : ∃ sr lr er, s.sealR root t u po = (sr, (lr, er)) := ⟨_, _, _, rfl⟩
      have HS9 := hid (fun (W : World) (hW : Below w.heap.size w W) (a : Option Addr) (n c : Nat) (hn : n = po.length) (hb : Bytes W a po) => by have := HS.out W hW po a n c hn hb; rw [hsr] at this; exact this)
      have Hsr := hid hsr
      clear hv hsr
      go_enter Tryz.func11, Tryz.ntmps11
      go_wp2_with (first
        | (go_at_call 12; refine HO.out.mono ?_; rintro _ w1 ⟨v1, rfl, o1, b1⟩; have B1 := hid b1; obtain ⟨a1, c1, rfl, hB1, _⟩ := bytes_of_own o1; have HB1 := hid hB1; clear b1 o1 hB1)
        | (go_at_call 26; refine (HV.out w1 B1.out).mono ?_; rintro _ w2 ⟨rfl, b2⟩; have B2 := hid (Below.on' B1.out b2); have HB2 := hid (HB1.out.below b2); clear b2)
        | (go_at_call 9; refine (HS9.out w2 B2.out a1 _ c1 rfl HB2.out).mono ?_; rintro _ w3 ⟨v3, rfl, o3, t3, x3⟩; have O3 := hid (own_mono o3 B2.out.size); have T3 := hid t3; have X3 := hid ((OutJ.of_below B2.out).trans x3); clear o3 t3 x3))
      go_ret3
      have hR1 : R = (sr, (lr, (decide (er = 0), er))) := by
        rw [HR.out]
        unfold TS.resealB
        rw [Hop.out, if_neg (by simp), if_neg Hv.out]
        simp only [Hsr.out]
      rw [hR1]
      refine ⟨v3, ?_, O3.out, T3.out, X3.out⟩
      have hd : ((er : Int) == 0) = decide (er = 0) := by
        by_cases h0 : er = 0
        · subst h0; rfl
        · have : ¬ (er : Int) = 0 := by omega
          simp [h0]
      rw [← hd]
      rfl
  · have q1 : ((eo : Int) != 0) = true := by simp; omega
    have He := hid he
    clear he
    go_enter Tryz.func11, Tryz.ntmps11
    go_wp2_with (go_at_call 12; refine HO.out.mono ?_; rintro _ w1 ⟨v1, rfl, o1, b1⟩; have B1 := hid b1; clear b1 o1)
    go_ret3
    have hR1 : R = (s, ([], (false, eo))) := by
      rw [HR.out]
      unfold TS.resealB
      rw [Hop.out, if_pos He.out]
    rw [hR1]
    exact ⟨_, rfl, nilJ _ _, H.out.below B1.out, OutJ.of_below B1.out⟩
end Go.Proofs.YtomhcccjeadefaaGreatDoor
