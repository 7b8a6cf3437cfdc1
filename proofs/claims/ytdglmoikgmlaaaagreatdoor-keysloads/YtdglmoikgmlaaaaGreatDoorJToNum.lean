/- YtdglmoikgmlaaaaGreatDoorJ22 + YtdglmoikgmlaaaaGreatDoorJ23 + YtdglmoikgmlaaaaGreatDoorJ24 + YtdglmoikgmlaaaaGreatDoorJ25 + YtdglmoikgmlaaaaGreatDoorJT0 + YtdglmoikgmlaaaaGreatDoorJToNum -/
import Derived.Test.YtdglmoikgmlaaaaGreatDoorJ21
import Derived.Lib.LazyBuf
import Derived.WalkKit
import Derived.WalkSpells
import Derived.WalkLawsBesides
/- Open of any names and bytes, over a tree as mathematics. -/
namespace Go.Proofs.YtdglmoikgmlaaaaGreatDoor
open Go.RowKit Go.Maps
set_option linter.unusedVariables false
set_option maxRecDepth 20000
set_option maxHeartbeats 400000 in
theorem open_bad {w : World} {K : Array Value} {key : List UInt8} (hK : HV K key) (a : Option Addr) (n cap : Nat) (hn : n < 24 ∨ 1048 < n) :
    Calls Tryz.prog 43 #[.agg K, .slice a n cap] w fun e w' => e = .returned (.tuple #[.slice none 0 0, .int .u64 0, .int .i64 (if n < 24 then 3 else 6)]) ∧ Below w.heap.size w w' := by
  have b0 : Hid (Below w.heap.size w (w.alloc (.cells K 23))) := (Below.refl _ w).alloc (Nat.le_refl _) _
  have hinf : (Tryz.prog.info? 23).map (·.size) = some K.size := hK.info
  by_cases h : n < 24
  · rw [if_pos h]
    have d1 : (n : Int) < 24 := by omega
    clear hn
    go_enter Tryz.func43, Tryz.ntmps43
    go_wp2
    go_ret3
    exact ⟨rfl, b0.out⟩
  · rw [if_neg h]
    have d1 : ¬ (n : Int) < 24 := by omega
    have d2 : (1048 : Int) < (n : Int) := by omega
    clear hn
    go_enter Tryz.func43, Tryz.ntmps43
    go_wp2
    go_ret3
    exact ⟨rfl, b0.out⟩
def openS (key S : List UInt8) : List UInt8 × Nat :=
  if S.length < 24 then ([], 3) else if 1048 < S.length then ([], 6)
  else if S.drop (S.length - 16) = tagB key (S.take (S.length - 16)) then (cross key (numB (S.take 8)) ((S.take (S.length - 16)).drop 8), 0) else ([], 10)
theorem openS_err {key S : List UInt8} (h : (openS key S).2 ≠ 0) : (openS key S).1 = [] := by
  unfold openS at h ⊢
  split at h
  · rename_i h1; rw [if_pos h1]
  · rename_i h1
    rw [if_neg h1]
    split at h
    · rename_i h2; rw [if_pos h2]
    · rename_i h2
      rw [if_neg h2]
      split at h
      · exact absurd rfl h
      · rename_i h3; rw [if_neg h3]
theorem openS_any {w : World} {K : Array Value} {key : List UInt8} (hK : HV K key) (S : List UInt8) (ab ao n cap : Nat) (hn : n = S.length) (hB : Bytes w (some ⟨ab, ao, none⟩) S) (hcap : n ≤ cap) (hT : KAt w) : ∃ nu : Nat,
    Calls Tryz.prog 43 #[.agg K, .slice (some ⟨ab, ao, none⟩) n cap] w fun e w' => ∃ vv, e = .returned (.tuple #[vv, .int .u64 (nu : Int), .int .i64 ((openS key S).2 : Int)]) ∧ w'.ownsRow w.heap.size 5 1 vv (openS key S).1.length (cellsOf (openS key S).1) ∧ Below w.heap.size w w' := by
  unfold openS
  by_cases h1 : S.length < 24
  · rw [if_pos h1]
    refine ⟨0, (open_bad hK _ n cap (by omega)).mono fun e w' h => ⟨_, ?_, nilJ _ _, h.2⟩⟩
    rw [h.1, if_pos (by omega)]
    rfl
  · rw [if_neg h1]
    by_cases h2 : 1048 < S.length
    · rw [if_pos h2]
      refine ⟨0, (open_bad hK _ n cap (by omega)).mono fun e w' h => ⟨_, ?_, nilJ _ _, h.2⟩⟩
      rw [h.1, if_neg (by omega)]
      rfl
    · rw [if_neg h2]
      by_cases h3 : S.drop (S.length - 16) = tagB key (S.take (S.length - 16))
      · rw [if_pos h3]
        refine ⟨numB (S.take 8), (open_any hK S ab ao n cap hn hB (by omega) (by omega) hcap hT).mono fun e w' h => ?_⟩
        obtain ⟨v, he, hown⟩ := h.right h3
        exact ⟨v, he, hown, h.below⟩
      · rw [if_neg h3]
        refine ⟨0, (open_any hK S ab ao n cap hn hB (by omega) (by omega) hcap hT).mono fun e w' h => ?_⟩
        exact ⟨_, h.wrong h3, nilJ _ _, h.below⟩
set_option maxHeartbeats 4000000 in
theorem open_gen {w : World} {B g mv mg : Nat} {root : List UInt8} {s : TS} {d : Nat} (h : TreeM w B g mv mg root s d) (t u : ByteArray) (ht : t.size ≤ maxLen) (hu : u.size ≤ maxLen) (he0 : (s.cur t u).2 = 0) (v : Nat) (hv : v ≤ 255) (key : List UInt8) (hkey : s.keyR root t u (v : Int) = (key, 0)) (S : List UInt8) (gs m cap : Nat) (hm : m = S.length + 1) (hm9 : m ≤ 140737488351232) (hmc : m ≤ cap) (hB : Bytes w (some ⟨gs, 0, none⟩) (UInt8.ofNat v :: S)) (hT : TabAt w) (hKA : KAt w) :
    Calls Tryz.prog 17 #[.pointer (some ⟨g, 0, none⟩), .string t, .string u, .slice (some ⟨gs, 0, none⟩) m cap] w fun e w' => ∃ vv, e = .returned (.tuple #[vv, .int .i64 (if (openS key S).2 = 0 then (v : Int) else 0), .int .i64 ((openS key S).2 : Int)]) ∧ w'.ownsRow w.heap.size 5 1 vv (openS key S).1.length (cellsOf (openS key S).1) ∧ Below w.heap.size w w' := by
  obtain ⟨Z, hZ⟩ : ∃ Z, Z = bvs (List.replicate 32 0) := ⟨_, rfl⟩
  have zh := (zero_of_info zero_hash).1
  rw [← hZ] at zh
  have hz : Hid (HV Z (List.replicate 32 0)) := by
    show HV _ _
    rw [hZ]; exact hv_zero
  have zh := hid zh
  have HC := hid (by have := current_m h t u ht hu; rw [he0] at this; exact this)
  obtain ⟨c, hcc⟩ : ∃ c, c = (s.cur t u).1 := ⟨_, rfl⟩
  rw [← hcc] at HC
  have HKy := hid (fun (W : World) (hW : Below w.heap.size w W) => by have := key_m (h.below hW) t u ht hu (v : Int) (TabAt.belowJ hT hW) (hKA.below hW); rw [hkey] at this; exact this)
  have hv8 : ((UInt8.ofNat v).toNat : Int) = (v : Int) := by
    have : (UInt8.ofNat v).toNat = v := by simp; omega
    omega
  have q0 : w.cell? ⟨gs, 0, none⟩ = some (.int .u8 (v : Int)) := by
    obtain ⟨b9, o9, e9, hc9⟩ := hB 0 (by simp)
    cases e9
    rw [← hv8]
    exact hc9
  have hB1 : Bytes w (some ⟨gs, 1, none⟩) S := fun i hi => by
    obtain ⟨b9, o9, e9, hc9⟩ := hB (i + 1) (by simp; omega)
    cases e9
    refine ⟨gs, 1, rfl, ?_⟩
    rw [show 1 + i = 0 + (i + 1) by omega]
    exact hc9
  obtain ⟨oo, hoo⟩ : ∃ oo, oo = if 1 < cap then 1 else 0 := ⟨_, rfl⟩
  have hB1 : Bytes w (some ⟨gs, oo, none⟩) S := by
    by_cases hc : 1 < cap
    · rw [hoo, if_pos hc]; exact hB1
    · intro i hi; omega
  have HB1 := hid hB1
  have Hoo := hid hoo
  clear hoo
  have H := hid h
  have HKA := hid hKA
  have Q0 := hid q0
  have gm0 : ((m : Int) == 0) = false := by simp; omega
  have hm0 : 0 < m := by omega
  have Hm := hid hm
  have Hm9 := hid hm9
  obtain ⟨er, her⟩ : ∃ er, er = (openS key S).2 := ⟨_, rfl⟩
  obtain ⟨pl, hpl⟩ : ∃ pl, pl = (openS key S).1 := ⟨_, rfl⟩
  have Her := hid her
  have Hpl := hid hpl
  rw [← her, ← hpl]
  obtain ⟨vr, hvr⟩ : ∃ vr : Int, vr = if er = 0 then (v : Int) else 0 := ⟨_, rfl⟩
  have Hvr := hid hvr
  rw [← hvr]
  clear hvr
  clear hm h hZ hT hkey hB hB1 hKA hv8 q0 hcc he0 her hpl hm9
  go_enter Tryz.func17, Tryz.ntmps17
  go_wp2_with (first
    | (go_at_call 29; refine HC.out.mono ?_; rintro _ w1 ⟨rfl, b1⟩; have B1 := hid b1; have q1 := (b1.cell (World.block_lt_of_cell? _ _ Q0.out)).trans Q0.out; clear b1)
    | (go_at_call 27; refine (HKy.out w1 B1.out).mono ?_; rintro _ w2 ⟨O, rfl, hO, b2⟩; obtain rfl := hO.eq; have hlk := hid hO.len; have B2 := hid (Below.on' B1.out b2); have X2 : Hid ((w2.alloc (.cells Z 23)).heap[w2.heap.size]? = some (.cells Z 23 (0, 0))) := heap_alloc_new w2 _; have HI := hid hO.info; have HZ9 := hid (hz.out.size.trans hO.size.symm); have HO1 := hid hO.one; clear b2 hO)
    | (with_reducible show Go.wpList _ _ _ _ _ _; refine wpList_alloc_row rfl 23 rfl Z zh.out ?_)
    | (with_reducible show Go.wpList _ _ _ _ _ _; refine wpList_store_row rfl 23 _ _ rfl w2.heap.size (bvs key) rfl rfl 23 Z X2.out HI.out HZ9.out HO1.out ?_))
  obtain ⟨W3, hW3⟩ : ∃ W3, W3 = (w2.alloc (.cells Z 23)).setRow w2.heap.size (bvs key) := ⟨_, rfl⟩
  have b3 : Below w2.heap.size w2 W3 := by rw [hW3]; exact ((Below.refl _ w2).alloc (Nat.le_refl _) _).setRow (Nat.le_refl _) _
  have x3 : W3.heap[w2.heap.size]? = some (.cells (bvs key) 23 (0, 0)) := by rw [hW3]; exact setRow_heap _ _ _ _ _ _ X2.out
  rw [← hW3]
  obtain ⟨V0, hV0⟩ : ∃ V0, V0 = W3.drew := ⟨_, rfl⟩
  have b30 : Below W3.heap.size W3 V0 := by rw [hV0]; exact (Below.refl _ W3).drew
  have bw0 : Below w.heap.size w V0 := Below.on' (Below.on' B2.out b3) b30
  obtain ⟨nu, hcall⟩ := openS_any (w := V0) (K := bvs key) (key := key) ⟨rfl, hlk.out⟩ S gs oo (m - 1) (cap - 1) (by have := Hm.out; omega) (HB1.out.below bw0) (by omega) (HKA.out.below bw0)
  rw [← Her.out, ← Hpl.out] at hcall
  refine wp_act _ fun A hA => ?_
  have sz : A.tmps.size = 59 := by rw [hA]; rfl
  have e3 : A.eval (.tmp 3) = .slice (some ⟨gs, 0, none⟩) m cap := by rw [hA]; rfl
  have e14 : A.eval (.tmp 14) = .pointer (some ⟨w2.heap.size, 0, none⟩) := by rw [hA]; rfl
  refine wp_split _ (open_region10 (P := fun vv w' => w'.ownsRow V0.heap.size 5 1 vv pl.length (cellsOf pl)) sz e3 e14 hlk.out (by omega) Hoo.out (by omega) hcall hV0 ((b30.block _ (heap_lt x3)).trans x3)) ?_
  rintro _ V4 ⟨vv, rfl, hown, b4⟩
  rw [hA]
  simp only [Act.put, List.setIfInBounds_toArray, List.set_cons_succ, List.set_cons_zero]
  have HOwn := hid (own_mono hown bw0.size)
  have BF := hid (Below.on' bw0 b4)
  clear sz e3 e14 hA A hcall hown b4 bw0 b30 b3 x3 hV0 hW3
  by_cases h0 : er = 0
  · have Hv0 : Hid (vr = (v : Int)) := Hvr.out.trans (if_pos h0)
    subst h0
    go_wp2
    go_ret3
    exact ⟨vv, by rw [Hv0.out]; rfl, HOwn.out, BF.out⟩
  · have H0 := hid h0
    have q9 : ((er : Int) != 0) = true := by simp; omega
    have hnil : Hid (pl = []) := by
      show pl = []
      rw [Hpl.out]
      exact openS_err (by rw [← Her.out]; exact h0)
    clear h0
    go_wp2
    go_ret3
    exact ⟨_, by rw [Hvr.out.trans (if_neg H0.out)]; rfl, by rw [hnil.out]; exact nilJ _ _, BF.out⟩
end Go.Proofs.YtdglmoikgmlaaaaGreatDoor
/- Open, over a tree as mathematics. -/
namespace Go.Proofs.YtdglmoikgmlaaaaGreatDoor
open Go.RowKit Go.Maps
set_option linter.unusedVariables false
set_option maxRecDepth 20000
def TS.openB (s : TS) (root : List UInt8) (t u : ByteArray) (b : UInt8) (S : List UInt8) : List UInt8 × (Nat × Nat) :=
  if (s.cur t u).2 ≠ 0 then ([], (0, (s.cur t u).2))
  else if (s.keyR root t u (b.toNat : Int)).2 ≠ 0 then ([], (0, (s.keyR root t u (b.toNat : Int)).2))
  else ((openS (s.keyR root t u (b.toNat : Int)).1 S).1, (if (openS (s.keyR root t u (b.toNat : Int)).1 S).2 = 0 then b.toNat else 0, (openS (s.keyR root t u (b.toNat : Int)).1 S).2))
def TS.openR (s : TS) (root : List UInt8) (t u : ByteArray) : List UInt8 → List UInt8 × (Nat × Nat)
  | [] => ([], (0, if (s.cur t u).2 ≠ 0 then (s.cur t u).2 else 3))
  | b :: S => s.openB root t u b S
set_option maxHeartbeats 4000000 in
theorem open_rng {w : World} {g : Nat} (t u : ByteArray) (z : Int) (v : Nat) (hv : v ≤ 255) (gs m cap : Nat) (hm0 : 0 < m) (q0 : w.cell? ⟨gs, 0, none⟩ = some (.int .u8 (v : Int))) (key : List UInt8) (HC : Calls Tryz.prog 29 #[.pointer (some ⟨g, 0, none⟩), .string t, .string u] w fun e w' => e = .returned (.tuple #[.int .i64 z, .int .i64 0]) ∧ Below w.heap.size w w')
    (HKy : ∀ W, Below w.heap.size w W → Calls Tryz.prog 27 #[.pointer (some ⟨g, 0, none⟩), .string t, .string u, .int .i64 (v : Int)] W (HashErr W key 2)) :
    Calls Tryz.prog 17 #[.pointer (some ⟨g, 0, none⟩), .string t, .string u, .slice (some ⟨gs, 0, none⟩) m cap] w fun e w' => e = .returned (.tuple #[.slice none 0 0, .int .i64 0, .int .i64 2]) ∧ Below w.heap.size w w' := by
  obtain ⟨Z, hZ⟩ : ∃ Z, Z = bvs (List.replicate 32 0) := ⟨_, rfl⟩
  have zh := (zero_of_info zero_hash).1
  rw [← hZ] at zh
  have hz : Hid (HV Z (List.replicate 32 0)) := by
    show HV _ _
    rw [hZ]; exact hv_zero
  have Zh := hid zh
  have HC := hid HC
  have HKy := hid HKy
  have Q0 := hid q0
  have gm0 : ((m : Int) == 0) = false := by simp; omega
  have hm0' := hid hm0
  clear hZ q0
  go_enter Tryz.func17, Tryz.ntmps17
  go_wp2_with (first
    | (go_at_call 29; refine HC.out.mono ?_; rintro _ w1 ⟨rfl, b1⟩; have B1 := hid b1; have q1 := (b1.cell (World.block_lt_of_cell? _ _ Q0.out)).trans Q0.out; clear b1)
    | (go_at_call 27; refine (HKy.out w1 B1.out).mono ?_; rintro _ w2 ⟨O, rfl, hO, b2⟩; obtain rfl := hO.eq; have hlk := hid hO.len; have B2 := hid (Below.on' B1.out b2); have X2 : Hid ((w2.alloc (.cells Z 23)).heap[w2.heap.size]? = some (.cells Z 23 (0, 0))) := heap_alloc_new w2 _; have HI := hid hO.info; have HZ9 := hid (hz.out.size.trans hO.size.symm); have HO1 := hid hO.one; clear b2 hO)
    | (with_reducible show Go.wpList _ _ _ _ _ _; refine wpList_alloc_row rfl 23 rfl Z Zh.out ?_)
    | (with_reducible show Go.wpList _ _ _ _ _ _; refine wpList_store_row rfl 23 _ _ rfl w2.heap.size (bvs key) rfl rfl 23 Z X2.out HI.out HZ9.out HO1.out ?_))
  go_ret3
  exact ⟨rfl, (B2.out.alloc B2.out.size _).setRow B2.out.size _⟩
theorem keyR_err {s : TS} {root : List UInt8} {t u : ByteArray} {v : Int} (h0 : (s.cur t u).2 = 0) (h : (s.keyR root t u v).2 ≠ 0) : (s.keyR root t u v).2 = 2 := by
  unfold TS.keyR at h ⊢
  rw [if_neg (by omega)] at h ⊢
  split at h
  · rename_i h1; rw [if_pos h1]
  · exact absurd rfl h
theorem open_m {w : World} {B g mv mg : Nat} {root : List UInt8} {s : TS} {d : Nat} (h : TreeM w B g mv mg root s d) (t u : ByteArray) (ht : t.size ≤ maxLen) (hu : u.size ≤ maxLen) (b : UInt8) (S : List UInt8) (gs m cap : Nat) (hm : m = S.length + 1) (hm9 : m ≤ 140737488351232) (hmc : m ≤ cap) (hB : Bytes w (some ⟨gs, 0, none⟩) (b :: S)) (hT : TabAt w) (hKA : KAt w) :
    Calls Tryz.prog 17 #[.pointer (some ⟨g, 0, none⟩), .string t, .string u, .slice (some ⟨gs, 0, none⟩) m cap] w fun e w' => ∃ v, e = .returned (.tuple #[v, .int .i64 ((s.openB root t u b S).2.1 : Int), .int .i64 ((s.openB root t u b S).2.2 : Int)]) ∧ w'.ownsRow w.heap.size 5 1 v (s.openB root t u b S).1.length (cellsOf (s.openB root t u b S).1) ∧ Below w.heap.size w w' := by
  have HC := current_m h t u ht hu
  have hb8 : UInt8.ofNat b.toNat = b := by simp
  unfold TS.openB
  by_cases he : (s.cur t u).2 ≠ 0
  · rw [if_pos he]
    refine (open_err t u _ _ _ (by omega) HC).mono fun e w' h9 => ?_
    exact ⟨_, h9.1, nilJ _ _, h9.2⟩
  · rw [if_neg he]
    have he0 : (s.cur t u).2 = 0 := by omega
    by_cases hk : (s.keyR root t u (b.toNat : Int)).2 ≠ 0
    · rw [if_pos hk]
      rw [he0] at HC
      have q0 : w.cell? ⟨gs, 0, none⟩ = some (.int .u8 (b.toNat : Int)) := by
        obtain ⟨b9, o9, e9, hc9⟩ := hB 0 (by simp)
        cases e9
        exact hc9
      have h2 := keyR_err he0 hk
      rw [h2]
      refine (open_rng t u _ b.toNat (by have := b.toNat_lt; omega) gs m cap (by omega) q0 _ HC (fun W hW => by have := key_m (h.below hW) t u ht hu (b.toNat : Int) (TabAt.belowJ hT hW) (hKA.below hW); rw [h2] at this; exact this)).mono fun e w' h9 => ?_
      exact ⟨_, h9.1, nilJ _ _, h9.2⟩
    · rw [if_neg hk]
      have hk0 : (s.keyR root t u (b.toNat : Int)).2 = 0 := by omega
      refine (open_gen h t u ht hu he0 b.toNat (by have := b.toNat_lt; omega) _ (by rw [← hk0]) S gs m cap hm hm9 hmc (by rw [hb8]; exact hB) hT hKA).mono fun e w' h9 => ?_
      obtain ⟨v, rfl, h10, h11⟩ := h9
      refine ⟨v, ?_, h10, h11⟩
      split <;> rfl
end Go.Proofs.YtdglmoikgmlaaaaGreatDoor
/- Reseal, over a tree as mathematics. -/
namespace Go.Proofs.YtdglmoikgmlaaaaGreatDoor
open Go.RowKit Go.Maps
set_option linter.unusedVariables false
set_option maxRecDepth 20000
set_option maxHeartbeats 400000 in
theorem cloneJ (x : List UInt8) (ad : Addr) (cap : Nat) (w : World) (hB : Bytes w (some ad) x) (hlen : x.length ≤ 140737488351232) :
    Calls Tryz.prog 45 #[.slice (some ad) x.length cap] w fun e w' => ∃ v, e = .returned v ∧ w'.ownsRow w.heap.size 5 1 v x.length (cellsOf x) ∧ Below w.heap.size w w' := by
  have hcell : Hid (∀ j (h : j < x.length), w.cell? (ad.add j) = some (.int .u8 (x[j].toNat : Int))) := fun j hj => by
    obtain ⟨b, o, e, hc⟩ := hB j hj
    cases e
    rw [addr_add]
    exact hc
  have Hlt : Hid (0 < x.length → ad.block < w.heap.size) := fun h => by
    obtain ⟨b, o, e, hc⟩ := hB 0 h
    cases e
    exact World.block_lt_of_cell? _ _ hc
  have hnil := fun wx => Lib.run_eql_slice_nil (P := Tryz.prog) wx 41 5 (some ad) x.length cap 0 0 Tryz.underlying41
  have Hown := hid (World.ownsRow_lit (base := w.heap.size) (e := 5) (size := 1) w #[] 0 (Nat.le_refl _) (by decide) rfl)
  have Hcell2 : Hid (∀ j (h : j < x.length), (w.alloc (.cells #[] 5)).cell? (ad.add j) = some (.int .u8 (x[j].toNat : Int))) := fun j hj => by
    have h := hcell.out j hj
    exact (((Below.refl w.heap.size w).alloc (Nat.le_refl _) _).cell (World.block_lt_of_cell? _ _ h)).trans h
  clear hB
  go_enter Tryz.func45, Tryz.ntmps45
  go_wp2_with (at_builtin; refine app_bytes _ rfl (.tmp 5) (.tmp 6) rfl w.heap.size _ [] rfl Hown.out ad x.length cap x rfl rfl Hcell2.out (by simp; omega) (by simp) ?_; intro v1 w1 ho1 hb1 hs1)
  go_ret
  exact ⟨_, rfl, by simpa using ho1, ((Below.refl _ _).alloc (Nat.le_refl _) _).trans hb1⟩
theorem version_m {w : World} {B g mv mg : Nat} {root : List UInt8} {s : TS} {d : Nat} (h : TreeM w B g mv mg root s d) (t u : ByteArray) (ht : t.size ≤ maxLen) (hu : u.size ≤ maxLen) :
    Calls Tryz.prog 44 #[.pointer (some ⟨g, 0, none⟩), .agg #[.string t, .string u]] w fun e w' => e = .returned (.int .i64 (verOf s.vs t u : Int)) ∧ Below w.heap.size w w' := by
  obtain ⟨ok, hne, nv, ng, V, G, h1, hV, hG, _⟩ := h
  exact version_ok h1 t u (keyP t u) (keyOf_place t u ht hu) _ (hV.ver t u ht hu)
def TS.resealB (s : TS) (root : List UInt8) (t u : ByteArray) (b : UInt8) (S : List UInt8) : TS × (List UInt8 × (Bool × Nat)) :=
  if (s.openB root t u b S).2.2 ≠ 0 then (s, ([], (false, (s.openB root t u b S).2.2)))
  else if (s.openB root t u b S).2.1 = verOf s.vs t u then (s, (b :: S, (false, 0)))
  else ((s.sealR root t u (s.openB root t u b S).1).1, ((s.sealR root t u (s.openB root t u b S).1).2.1, (decide ((s.sealR root t u (s.openB root t u b S).1).2.2 = 0), (s.sealR root t u (s.openB root t u b S).1).2.2)))
def ResP (w : World) (B g mv mg : Nat) (root : List UInt8) (d : Nat) (r : TS × (List UInt8 × (Bool × Nat))) (e : Ending) (w' : World) : Prop := ∃ v, e = .returned (.tuple #[v, .bool r.2.2.1, .int .i64 (r.2.2.2 : Int)]) ∧ w'.ownsRow w.heap.size 5 1 v r.2.1.length (cellsOf r.2.1) ∧ TreeM w' B g mv mg root r.1 d ∧ OutJ (Mine g mv mg) w w'
set_option maxHeartbeats 4000000 in
theorem reseal_m {w : World} {B g mv mg : Nat} {root : List UInt8} {s : TS} {d : Nat} (h : TreeM w B g mv mg root s d) (hsn : s.n ≤ 1099511627776) (t u : ByteArray) (ht : t.size ≤ maxLen) (hu : u.size ≤ maxLen) (b : UInt8) (S : List UInt8) (gs m cap : Nat) (hm : m = S.length + 1) (hm9 : m ≤ 140737488351232) (hmc : m ≤ cap) (hB : Bytes w (some ⟨gs, 0, none⟩) (b :: S)) (hT : TabAt w) (hKA : KAt w) :
    Calls Tryz.prog 18 #[.pointer (some ⟨g, 0, none⟩), .string t, .string u, .slice (some ⟨gs, 0, none⟩) m cap] w (ResP w B g mv mg root d (s.resealB root t u b S)) := by
  have HO := hid (open_m h t u ht hu b S gs m cap hm hm9 hmc hB hT hKA)
  have HV := hid (fun (W : World) (hW : Below w.heap.size w W) => version_m (h.below hW) t u ht hu)
  have HS := hid (fun (W : World) (hW : Below w.heap.size w W) (p : List UInt8) (a : Option Addr) (n c : Nat) (hn : n = p.length) (hb : Bytes W a p) => seal_m (h.below hW) hsn t u ht hu p a n c hn hb (hT.belowJ hW) (hKA.below hW))
  have HCl := hid (fun (W : World) (hW : Below w.heap.size w W) => cloneJ (b :: S) ⟨gs, 0, none⟩ cap W (hB.below hW) (by simp; omega))
  have H := hid h
  have hlen : m = (b :: S).length := by simp; omega
  have Hlen := hid hlen
  obtain ⟨R, hR⟩ : ∃ R, R = s.resealB root t u b S := ⟨_, rfl⟩
  have HR := hid hR
  rw [← hR]
  obtain ⟨po, vo, eo, hop⟩ : ∃ po vo eo, s.openB root t u b S = (po, (vo, eo)) := ⟨_, _, _, rfl⟩
  rw [hop] at HO
  have Hop := hid hop
  clear h hm hm9 hmc hB hT hKA hsn hlen hR hop
  by_cases he : eo = 0
  · subst he
    by_cases hv : vo = verOf s.vs t u
    · have q1 : ((vo : Int) == (verOf s.vs t u : Int)) = true := by simp; omega
      have Hv := hid hv
      clear hv
      go_enter Tryz.func18, Tryz.ntmps18
      go_wp2_with (first
        | (go_at_call 17; refine HO.out.mono ?_; rintro _ w1 ⟨v1, rfl, o1, b1⟩; have B1 := hid b1; clear b1 o1)
        | (go_at_call 44; refine (HV.out w1 B1.out).mono ?_; rintro _ w2 ⟨rfl, b2⟩; have B2 := hid (Below.on' B1.out b2); clear b2)
        | (go_at_call 45; rw [Hlen.out]; refine (HCl.out w2 B2.out).mono ?_; rintro _ w3 ⟨v3, rfl, o3, b3⟩; have B3 := hid (Below.on' B2.out b3); have O3 := hid (own_mono o3 B2.out.size); clear b3 o3))
      go_ret3
      have hR1 : R = (s, (b :: S, (false, 0))) := by
        rw [HR.out]
        unfold TS.resealB
        rw [Hop.out, if_neg (by simp), if_pos Hv.out]
      rw [hR1]
      exact ⟨v3, rfl, O3.out, H.out.below B3.out, OutJ.of_below B3.out⟩
    · have q1 : ((vo : Int) == (verOf s.vs t u : Int)) = false := by simp; omega
      have Hv := hid hv
      obtain ⟨sr, lr, er, hsr⟩ : ∃ sr lr er, s.sealR root t u po = (sr, (lr, er)) := ⟨_, _, _, rfl⟩
      have HS9 := hid (fun (W : World) (hW : Below w.heap.size w W) (a : Option Addr) (n c : Nat) (hn : n = po.length) (hb : Bytes W a po) => by have := HS.out W hW po a n c hn hb; rw [hsr] at this; exact this)
      have Hsr := hid hsr
      clear hv hsr
      go_enter Tryz.func18, Tryz.ntmps18
      go_wp2_with (first
        | (go_at_call 17; refine HO.out.mono ?_; rintro _ w1 ⟨v1, rfl, o1, b1⟩; have B1 := hid b1; obtain ⟨a1, c1, rfl, hB1, _⟩ := bytes_of_own o1; have HB1 := hid hB1; clear b1 o1 hB1)
        | (go_at_call 44; refine (HV.out w1 B1.out).mono ?_; rintro _ w2 ⟨rfl, b2⟩; have B2 := hid (Below.on' B1.out b2); have HB2 := hid (HB1.out.below b2); clear b2)
        | (go_at_call 15; refine (HS9.out w2 B2.out a1 _ c1 rfl HB2.out).mono ?_; rintro _ w3 ⟨v3, rfl, o3, t3, x3⟩; have O3 := hid (own_mono o3 B2.out.size); have T3 := hid t3; have X3 := hid ((OutJ.of_below B2.out).trans x3); clear o3 t3 x3))
      go_ret3
      have hR1 : R = (sr, (lr, (decide (er = 0), er))) := by
        rw [HR.out]
        unfold TS.resealB
        rw [Hop.out, if_neg (by simp), if_neg Hv.out]
        simp only [Hsr.out]
      rw [hR1]
      refine ⟨v3, ?_, O3.out, T3.out, X3.out⟩
      have hd : ((er : Int) == 0) = decide (er = 0) := by
        by_cases h0 : er = 0
        · subst h0; rfl
        · have : ¬ (er : Int) = 0 := by omega
          simp [h0]
      rw [← hd]
      rfl
  · have q1 : ((eo : Int) != 0) = true := by simp; omega
    have He := hid he
    clear he
    go_enter Tryz.func18, Tryz.ntmps18
    go_wp2_with (go_at_call 17; refine HO.out.mono ?_; rintro _ w1 ⟨v1, rfl, o1, b1⟩; have B1 := hid b1; clear b1 o1)
    go_ret3
    have hR1 : R = (s, ([], (false, eo))) := by
      rw [HR.out]
      unfold TS.resealB
      rw [Hop.out, if_pos He.out]
    rw [hR1]
    exact ⟨_, rfl, nilJ _ _, H.out.below B1.out, OutJ.of_below B1.out⟩
end Go.Proofs.YtdglmoikgmlaaaaGreatDoor
/- Open and Reseal of any bytes, none too, over a tree as mathematics. -/
namespace Go.Proofs.YtdglmoikgmlaaaaGreatDoor
open Go.RowKit Go.Maps
set_option linter.unusedVariables false
set_option maxRecDepth 20000
section
variable {w : World} {B g mv mg : Nat} {root : List UInt8} {s : TS} {d : Nat}
theorem openR_nil (s : TS) (root : List UInt8) (t u : ByteArray) : s.openR root t u [] = ([], (0, if (s.cur t u).2 ≠ 0 then (s.cur t u).2 else 3)) := rfl
theorem open_none (h : TreeM w B g mv mg root s d) (t u : ByteArray) (ht : t.size ≤ maxLen) (hu : u.size ≤ maxLen) (a : Option Addr) (cap : Nat) :
    Calls Tryz.prog 17 #[.pointer (some ⟨g, 0, none⟩), .string t, .string u, .slice a 0 cap] w fun e w' => e = .returned (.tuple #[.slice none 0 0, .int .i64 0, .int .i64 ((if (s.cur t u).2 ≠ 0 then (s.cur t u).2 else 3 : Nat) : Int)]) ∧ Below w.heap.size w w' := by
  have HC := current_m h t u ht hu
  by_cases he : (s.cur t u).2 ≠ 0
  · rw [if_pos he]
    exact open_err t u _ _ _ (by omega) HC
  · rw [if_neg he]
    have he0 : (s.cur t u).2 = 0 := by omega
    rw [he0] at HC
    exact open_empty t u a cap _ HC
theorem open_l (h : TreeM w B g mv mg root s d) (t u : ByteArray) (ht : t.size ≤ maxLen) (hu : u.size ≤ maxLen) (S : List UInt8) (a : Option Addr) (m cap : Nat) (hm : m = S.length) (hm9 : m ≤ 140737488351232) (hmc : m ≤ cap) (ha : S ≠ [] → ∃ gs, a = some ⟨gs, 0, none⟩) (hB : Bytes w a S) (hT : TabAt w) (hKA : KAt w) :
    Calls Tryz.prog 17 #[.pointer (some ⟨g, 0, none⟩), .string t, .string u, .slice a m cap] w fun e w' => ∃ v, e = .returned (.tuple #[v, .int .i64 ((s.openR root t u S).2.1 : Int), .int .i64 ((s.openR root t u S).2.2 : Int)]) ∧ w'.ownsRow w.heap.size 5 1 v (s.openR root t u S).1.length (cellsOf (s.openR root t u S).1) ∧ Below w.heap.size w w' := by
  cases S with
  | nil =>
    subst hm
    refine (open_none h t u ht hu a cap).mono fun e w' h9 => ?_
    rw [openR_nil]
    exact ⟨_, h9.1, nilJ _ _, h9.2⟩
  | cons b S =>
    obtain ⟨gs, rfl⟩ := ha (by simp)
    exact open_m h t u ht hu b S gs m cap (by simpa using hm) hm9 hmc hB hT hKA
def TS.resealR (s : TS) (root : List UInt8) (t u : ByteArray) : List UInt8 → TS × (List UInt8 × (Bool × Nat))
  | [] => (s, ([], (false, if (s.cur t u).2 ≠ 0 then (s.cur t u).2 else 3)))
  | b :: S => s.resealB root t u b S
set_option maxHeartbeats 1000000 in
theorem reseal_none (h : TreeM w B g mv mg root s d) (t u : ByteArray) (ht : t.size ≤ maxLen) (hu : u.size ≤ maxLen) (a : Option Addr) (cap : Nat) :
    Calls Tryz.prog 18 #[.pointer (some ⟨g, 0, none⟩), .string t, .string u, .slice a 0 cap] w (ResP w B g mv mg root d (s.resealR root t u [])) := by
  obtain ⟨eo, heo⟩ : ∃ eo : Nat, eo = if (s.cur t u).2 ≠ 0 then (s.cur t u).2 else 3 := ⟨_, rfl⟩
  have hne : eo ≠ 0 := by rw [heo]; split <;> omega
  have HO := hid (by have := open_none h t u ht hu a cap; rw [← heo] at this; exact this)
  have HR : Hid (s.resealR root t u [] = (s, ([], (false, eo)))) := by
    show _ = _
    rw [heo]; rfl
  obtain ⟨R, hR⟩ : ∃ R, R = s.resealR root t u [] := ⟨_, rfl⟩
  rw [← hR] at HR ⊢
  have H := hid h
  have q1 : ((eo : Int) != 0) = true := by simp; omega
  clear h hne heo hR
  go_enter Tryz.func18, Tryz.ntmps18
  go_wp2_with (go_at_call 17; refine HO.out.mono ?_; rintro _ w1 ⟨rfl, b1⟩; have B1 := hid b1; clear b1)
  go_ret3
  rw [HR.out]
  exact ⟨_, rfl, nilJ _ _, H.out.below B1.out, OutJ.of_below B1.out⟩
theorem reseal_l (h : TreeM w B g mv mg root s d) (hsn : s.n ≤ 1099511627776) (t u : ByteArray) (ht : t.size ≤ maxLen) (hu : u.size ≤ maxLen) (S : List UInt8) (a : Option Addr) (m cap : Nat) (hm : m = S.length) (hm9 : m ≤ 140737488351232) (hmc : m ≤ cap) (ha : S ≠ [] → ∃ gs, a = some ⟨gs, 0, none⟩) (hB : Bytes w a S) (hT : TabAt w) (hKA : KAt w) :
    Calls Tryz.prog 18 #[.pointer (some ⟨g, 0, none⟩), .string t, .string u, .slice a m cap] w (ResP w B g mv mg root d (s.resealR root t u S)) := by
  cases S with
  | nil =>
    subst hm
    exact reseal_none h t u ht hu a cap
  | cons b S =>
    obtain ⟨gs, rfl⟩ := ha (by simp)
    exact reseal_m h hsn t u ht hu b S gs m cap (by simpa using hm) hm9 hmc hB hT hKA
end
end Go.Proofs.YtdglmoikgmlaaaaGreatDoor
/- A new tree of keys, as mathematics. -/
namespace Go.Proofs.YtdglmoikgmlaaaaGreatDoor
open Go.RowKit Go.Maps
set_option linter.unusedVariables false
set_option maxRecDepth 20000
def TS0 : TS := ⟨[], [], 0⟩
theorem TS0_ok : TS0.Ok := ⟨(fun p hp => nomatch hp), List.nodup_nil, (fun p hp => nomatch hp), List.nodup_nil, by decide, by decide⟩
theorem treeM_new {w : World} {B B' g mv mg : Nat} {root : List UInt8} (h : TreeAt w B' g root mv mg 0 0 (.map []) (.map []) 0) (hne : mv ≠ mg) (hB : B ≤ B') : TreeM w B g mv mg root TS0 0 :=
  ⟨TS0_ok, hne, 0, 0, _, _, ⟨h.obj, h.vm, h.gm, h.len, Nat.le_trans hB h.bg, Nat.le_trans hB h.bv, Nat.le_trans hB h.bm⟩, vrel_new, grel_new, Nat.le_refl _, Nat.le_refl _⟩
end Go.Proofs.YtdglmoikgmlaaaaGreatDoor
/- Numbers read back: codec.ToNumber, state.Number of any text (AToNum over the keys' texts). -/
namespace Go.Proofs.YtdglmoikgmlaaaaGreatDoor
open Go.RowKit
set_option linter.unusedVariables false
set_option maxRecDepth 20000
def dv (c : Nat) : Option Nat := if 48 ≤ c ∧ c ≤ 57 then some (c - 48) else if 97 ≤ c ∧ c ≤ 102 then some (c - 87) else none
set_option maxHeartbeats 400000 in
theorem digitValue_any (c : Nat) (hc : c ≤ 255) (w : World) :
    Calls Tryz.prog 134 #[.int .u8 (c : Int)] w fun e w' => e = .returned (.tuple #[.int .u64 (((dv c).getD 0 : Nat) : Int), .bool (dv c).isSome]) ∧ w' = w := by
  go_enter Tryz.func134, Tryz.ntmps134
  go_wp2
  all_goals go_ret2
  all_goals refine ⟨ret_two (congrArg (Value.int .u64) ?_) (congrArg Value.bool ?_), rfl⟩
  all_goals
    unfold dv
    repeat' split
    all_goals first | rfl | (simp; done) | (simp; omega) | omega
set_option maxHeartbeats 400000 in
theorem hasPrefix_any (s : ByteArray) (w : World) (hs : s.size ≤ maxLen) :
    Calls Tryz.prog 133 #[.string s, .string ⟨#[48]⟩] w fun e w' => e = .returned (.bool (s.data.toList.head? == some 48)) ∧ w' = w := by
  unfold maxLen at hs
  go_enter Tryz.func133, Tryz.ntmps133
  go_wp2
  all_goals go_ret
  all_goals refine ⟨ret_bool ?_, rfl⟩
  · rw [List.head?_eq_getElem?]
    have h1 : 1 ≤ s.size := by omega
    have e : (s.extract 0 1).toList = s.data.toList.take 1 := by
      rw [ByteArray.toList_eq]; simp
    rw [e]
    cases hl : s.data.toList with
    | nil => have h2 := Lib.size_eq s; rw [hl] at h2; simp only [List.length_nil] at h2; omega
    | cons c r => simp
  · have h1 : s.data.toList = [] := List.length_eq_zero_iff.1 (by have h2 := Lib.size_eq s; omega)
    rw [h1]; rfl
open Go.RowKit
def hexB (c : UInt8) : Bool := (dv c.toNat).isSome
def digV (n : Nat) (l : List UInt8) : Nat := l.foldl (fun n c => n * 16 + (dv c.toNat).getD 0) n
def toNum (l : List UInt8) : Nat × Nat :=
  if l.length = 0 ∨ 17 < l.length then (0, 3)
  else if (l.headD 0).toNat ≠ 96 + l.length ∨ (l.drop 1).head? = some 48 then (0, 3)
  else if (l.drop 1).all hexB = false then (0, 3)
  else if 4611686018427387904 < digV 0 (l.drop 1) then (0, 2) else (digV 0 (l.drop 1), 0)
theorem dv_lt (c : Nat) : (dv c).getD 0 < 16 := by
  unfold dv
  repeat' split
  all_goals simp
  all_goals omega
theorem digV_lt (l : List UInt8) : digV 0 l < 16 ^ l.length := by
  suffices h : ∀ n k, n < 16 ^ k → digV n l < 16 ^ (k + l.length) by simpa using h 0 0 (by simp)
  induction l with
  | nil => intro n k h; simpa [digV] using h
  | cons c l ih =>
    intro n k h
    have := ih (n * 16 + (dv c.toNat).getD 0) (k + 1) (by have := dv_lt c.toNat; rw [Nat.pow_succ]; omega)
    simpa [digV, Nat.add_assoc, Nat.add_comm 1] using this
theorem digV_snoc (l : List UInt8) (c : UInt8) : digV 0 (l ++ [c]) = digV 0 l * 16 + (dv c.toNat).getD 0 := by simp [digV]
theorem or_nat (n v : Nat) (hv : v < 16) : n * 16 ||| v = n * 16 + v := by
  have := Nat.shiftLeft_add_eq_or_of_lt (i := 4) (b := v) (by simpa using hv) n
  rw [Nat.shiftLeft_eq] at this
  simpa using this.symm
theorem or_u64 (n v : Nat) (hn : n < 1152921504606846976) (hv : v < 16) : bits BinOp.or IntKind.u64 ((n : Int) * 16) (v : Int) = ((n * 16 + v : Nat) : Int) := by
  have h := bits_or_u64_nat (n * 16) v (by omega) (by omega)
  rw [or_nat n v hv] at h
  simpa using h
set_option maxHeartbeats 1000000 in
theorem toNumber_any (s : ByteArray) (w : World) (hs : s.size ≤ maxLen) :
    Calls Tryz.prog 120 #[.string s] w fun e w' => e = .returned (.tuple #[.int .i64 ((toNum s.data.toList).1 : Int), .int .i64 ((toNum s.data.toList).2 : Int)]) ∧ w' = w := by
  unfold maxLen at hs
  have hlen : s.data.toList.length = s.size := (Lib.size_eq s).symm
  by_cases h0 : s.size = 0
  · have e : toNum s.data.toList = (0, 3) := by unfold toNum; rw [hlen, if_pos (.inl h0)]
    rw [e]
    have d1 : (((s.size : Nat) : Int) == 0) = true := by rw [beq_iff_eq]; omega
    clear e hlen h0
    go_enter Tryz.func120, Tryz.ntmps120
    go_wp2
    go_ret2
    exact ⟨rfl, rfl⟩
  have d1 : (((s.size : Nat) : Int) == 0) = false := by rw [beq_eq_false_iff_ne]; omega
  by_cases h17 : 17 < s.size
  · have e : toNum s.data.toList = (0, 3) := by unfold toNum; rw [hlen, if_pos (.inr h17)]
    rw [e]
    have d2 : decide (17 < ((s.size : Nat) : Int)) = true := by simp; omega
    clear e hlen
    go_enter Tryz.func120, Tryz.ntmps120
    go_wp2
    go_ret2
    exact ⟨rfl, rfl⟩
  have d2 : decide (17 < ((s.size : Nat) : Int)) = false := by simp; omega
  have hpos : 0 < s.size := Nat.pos_of_ne_zero h0
  obtain ⟨d, hd⟩ : ∃ d, d = s.extract 1 s.size := ⟨_, rfl⟩
  have hdl : d.data.toList = s.data.toList.drop 1 := by rw [hd, Lib.extract_data, List.take_of_length_le (by simp)]
  have hdsz : d.size = s.size - 1 := by rw [Lib.size_eq, hdl, List.length_drop, hlen]
  have hs0 : s.data.toList.headD 0 = s[0]'hpos := by
    cases hh : s.data.toList with
    | nil => rw [hh] at hlen; simp at hlen; omega
    | cons c r =>
      have : s[0]'hpos = s.data.toList[0]'(by omega) := rfl
      rw [this]
      simp [hh]
  obtain ⟨c0, hc0⟩ : ∃ c0, c0 = s[0]'hpos := ⟨_, rfl⟩
  have E : Hid (toNum s.data.toList = if c0.toNat ≠ 96 + s.size ∨ d.data.toList.head? = some 48 then (0, 3) else if d.data.toList.all hexB = false then (0, 3) else if 4611686018427387904 < digV 0 d.data.toList then (0, 2) else (digV 0 d.data.toList, 0)) := by
    unfold toNum Hid
    rw [hlen, if_neg (by omega), hs0, ← hdl, hc0]
  generalize toNum s.data.toList = p at E ⊢
  have hd' : s.extract 1 s.size = d := hd.symm
  have hc0' : s[0]'hpos = c0 := hc0.symm
  have Hdsz := hid hdsz
  have hd16 : d.size ≤ 16 := by omega
  clear hdl hs0 hd hlen hc0 hdsz
  have hc255 : c0.toNat < 256 := c0.toNat_lt
  by_cases hA : c0.toNat ≠ 96 + s.size
  · have e : Hid (p = (0, 3)) := by rw [Hid, E.out, if_pos (.inl hA)]
    have dA : ((c0.toNat : Int) != 97 + (d.size : Int)) = true := by rw [bne_iff_ne]; have := Hdsz.out; omega
    clear hA E
    go_enter Tryz.func120, Tryz.ntmps120
    go_wp2_with (go_at_call 133; refine (hasPrefix_any _ _ (by unfold maxLen; omega)).mono ?_; rintro e w' ⟨rfl, rfl⟩)
    all_goals go_ret2
    exact ⟨by rw [e.out]; rfl, rfl⟩
  have dA : ((c0.toNat : Int) != 97 + (d.size : Int)) = false := by rw [bne_eq_false_iff_eq]; have := Hdsz.out; omega
  by_cases hB : d.data.toList.head? = some 48
  · have e : Hid (p = (0, 3)) := by rw [Hid, E.out, if_pos (.inr hB)]
    have dB : (d.data.toList.head? == some 48) = true := by rw [hB]; rfl
    clear hB E
    go_enter Tryz.func120, Tryz.ntmps120
    go_wp2_with (go_at_call 133; refine (hasPrefix_any _ _ (by unfold maxLen; omega)).mono ?_; rintro e w' ⟨rfl, rfl⟩)
    all_goals go_ret2
    exact ⟨by rw [e.out]; rfl, rfl⟩
  have dB : (d.data.toList.head? == some 48) = false := by simpa using hB
  have e : Hid (p = if d.data.toList.all hexB = false then (0, 3) else if 4611686018427387904 < digV 0 d.data.toList then (0, 2) else (digV 0 d.data.toList, 0)) := by rw [Hid, E.out, if_neg (fun h => h.elim hA hB)]
  clear hA hB E
  go_enter Tryz.func120, Tryz.ntmps120
  go_wp2_with (go_at_call 133; refine (hasPrefix_any _ _ (by unfold maxLen; omega)).mono ?_; rintro e w' ⟨rfl, rfl⟩)
  go_loop [5, 32] (fun n i => ∃ k : Nat, k ≤ d.size ∧ i = .int .i64 k ∧ n = .int .u64 (digV 0 (d.data.toList.take k) : Int) ∧ (d.data.toList.take k).all hexB = true) (fun _ i => d.size - (intOf i).toNat)
  case atStart => exact ⟨0, Nat.zero_le _, rfl, rfl, rfl⟩
  case round =>
    obtain ⟨k, hk, rfl, rfl, hall⟩ := hrel
    have Hall := hid hall
    clear hall
    obtain ⟨n, hn⟩ : ∃ n, n = digV 0 (d.data.toList.take k) := ⟨_, rfl⟩
    rw [← hn]
    have Hn := hid hn
    clear hn
    by_cases hlt : k < d.size
    · have hn60 : n < 1152921504606846976 := by
        have h1 := digV_lt (d.data.toList.take k)
        rw [← Hn.out] at h1
        have h2 : 16 ^ (d.data.toList.take k).length ≤ 16 ^ 15 := Nat.pow_le_pow_right (by omega) (by simp; omega)
        exact Nat.lt_of_lt_of_le h1 h2
      cases hdv : dv (d[k]'hlt).toNat with
      | none =>
        have Hdv := hid hdv
        have h1 : ((dv (d[k]'hlt).toNat).getD 0) = 0 := by rw [hdv]; rfl
        have h2 : (dv (d[k]'hlt).toNat).isSome = false := by rw [hdv]; rfl
        clear hdv
        go_wp2_with (go_at_call 134; refine (digitValue_any _ (by have := (d[k]'hlt).toNat_lt; omega) _).mono ?_; rintro e w' ⟨rfl, rfl⟩)
        go_ret2
        refine ⟨?_, rfl⟩
        rw [e.out, if_pos (all_of_prefix d hexB k hlt (by unfold hexB; rw [Hdv.out]; rfl))]
        rfl
      | some v =>
        have Hdv := hid hdv
        have h1 : ((dv (d[k]'hlt).toNat).getD 0) = v := by rw [hdv]; rfl
        have h2 : (dv (d[k]'hlt).toNat).isSome = true := by rw [hdv]; rfl
        clear hdv
        have hv := dv_lt (d[k]'hlt).toNat
        rw [h1] at hv
        go_wp2_with (go_at_call 134; refine (digitValue_any _ (by have := (d[k]'hlt).toNat_lt; omega) _).mono ?_; rintro e w' ⟨rfl, rfl⟩)
        go_round
        case rel =>
          refine ⟨k + 1, by omega, by go_num, ?_, ?_⟩
          · rw [take_snoc d k hlt, digV_snoc, ← Hn.out, h1]
            exact congrArg (Value.int .u64) (or_u64 n v hn60 hv)
          · rw [take_snoc d k hlt, List.all_append, Hall.out]
            simp [hexB, h2]
        case measure => simp [intOf]; omega
    · have hk' : k = d.size := by omega
      have H1 : Hid (d.data.toList.all hexB = true) := by
        have h := Hall.out
        rw [hk', take_all] at h
        exact h
      have H2 : Hid (digV 0 d.data.toList = n) := by
        rw [Hid, Hn.out, hk', take_all]
      clear hk'
      go_wp2
      · have hgt : 4611686018427387904 < (n : Int) := by assumption
        go_ret2
        refine ⟨?_, rfl⟩
        rw [e.out, H1.out, H2.out, if_neg (by simp), if_pos (by omega)]
        rfl
      · have hgt : (n : Int) ≤ 4611686018427387904 := by assumption
        go_ret2
        refine ⟨?_, rfl⟩
        rw [e.out, H1.out, H2.out, if_neg (by simp), if_neg (by omega)]
        rfl
open Go.Op (bytesLess)
theorem log_bounds (n : Nat) (h : n ≠ 0) : 16 ^ (n.log2 / 4) ≤ n ∧ n < 16 ^ (n.log2 / 4 + 1) := by
  have e1 : ∀ k, (16 : Nat) ^ k = 2 ^ (4 * k) := fun k => by rw [Nat.pow_mul]
  rw [e1, e1]
  constructor
  · exact Nat.le_trans (Nat.pow_le_pow_right (by omega) (by omega)) ((Nat.le_log2 h).1 (Nat.le_refl _))
  · exact Nat.lt_of_lt_of_le ((Nat.log2_lt h).1 (Nat.lt_succ_self _)) (Nat.pow_le_pow_right (by omega) (by omega))
theorem log_le (n : Nat) (h : n ≠ 0) (hn : n ≤ 4611686018427387904) : n.log2 / 4 ≤ 15 := by
  have h1 := (log_bounds n h).1
  have h2 : 16 ^ (n.log2 / 4) < 16 ^ 16 := Nat.lt_of_le_of_lt (Nat.le_trans h1 hn) (by decide)
  have := (Nat.pow_lt_pow_iff_right (a := 16) (by omega)).1 h2
  omega
theorem letr_toNat (k : Nat) (hk : k ≤ 15) : (letr k).toNat = 98 + k := by
  unfold letr
  rw [UInt8.toNat_ofNat']
  omega
theorem dv_hexc : ∀ d : Fin 16, dv (hexc d.val).toNat = some d.val := by decide +kernel
theorem hexc_ne : ∀ d : Fin 16, d.val ≠ 0 → hexc d.val ≠ 48 := by decide +kernel
theorem lo_hex (k n : Nat) : (lo k n).all hexB = true := by
  induction k with
  | zero => rfl
  | succ k ih =>
    have := dv_hexc ⟨n / 16 ^ k % 16, Nat.mod_lt _ (by omega)⟩
    simp only at this
    simp [lo, ih, hexB, this]
theorem digV_lo (k n m : Nat) : digV m (lo k n) = m * 16 ^ k + n % 16 ^ k := by
  induction k generalizing m with
  | zero => simp [lo, digV, Nat.mod_one]
  | succ k ih =>
    have h := dv_hexc ⟨n / 16 ^ k % 16, Nat.mod_lt _ (by omega)⟩
    simp only at h
    have e : digV m (lo (k + 1) n) = digV (m * 16 + n / 16 ^ k % 16) (lo k n) := by
      simp [digV, lo, h]
    rw [e, ih, mod_succ, Nat.add_mul, Nat.pow_succ, Nat.mul_assoc, Nat.mul_comm 16]
    omega
theorem toNum_numT (n : Nat) (hn : n ≤ 4611686018427387904) : toNum (numT n) = (n, 0) := by
  by_cases n0 : n = 0
  · subst n0; decide
  · have hl := log_le n n0 hn
    have hb := log_bounds n n0
    have e : numT n = letr (n.log2 / 4) :: lo (n.log2 / 4 + 1) n := by unfold numT; rw [if_neg n0]
    rw [e]
    generalize n.log2 / 4 = k at *
    have hd : digV 0 (lo (k + 1) n) = n := by rw [digV_lo, Nat.mod_eq_of_lt hb.2]; omega
    have hh : (lo (k + 1) n).head? ≠ some 48 := by
      simp only [lo, List.head?_cons, ne_eq, Option.some.injEq]
      have h1 : n / 16 ^ k < 16 := by
        rw [Nat.div_lt_iff_lt_mul (Nat.pow_pos (by omega)), Nat.mul_comm, ← Nat.pow_succ]
        exact hb.2
      have h2 : 0 < n / 16 ^ k := Nat.div_pos hb.1 (Nat.pow_pos (by omega))
      rw [Nat.mod_eq_of_lt h1]
      exact hexc_ne ⟨n / 16 ^ k, h1⟩ (by simp only; omega)
    unfold toNum
    simp only [List.length_cons, lo_length, List.headD_cons, letr_toNat k hl, List.drop_succ_cons, List.drop_zero, hd, lo_hex]
    rw [if_neg (by omega), if_neg (by rintro (h | h); omega; exact hh h), if_neg (by simp), if_neg (by omega)]
def numR (l : List UInt8) (lo hi : Nat) : Option Nat := if (toNum l).2 = 0 ∧ lo ≤ (toNum l).1 ∧ (toNum l).1 ≤ hi then some (toNum l).1 else none
set_option maxHeartbeats 400000 in
theorem numberJ_any (s : ByteArray) (hs : s.size ≤ maxLen) (lo hi : Nat) (w : World) :
    Calls Tryz.prog 102 #[.string s, .int .i64 (lo : Int), .int .i64 (hi : Int)] w fun e w' => e = .returned (.tuple #[.int .i64 (((numR s.data.toList lo hi).getD 0 : Nat) : Int), .bool (numR s.data.toList lo hi).isSome]) ∧ w' = w := by
  have HC := hid (toNumber_any s w hs)
  obtain ⟨n, c, hr⟩ : ∃ n c, toNum s.data.toList = (n, c) := ⟨_, _, rfl⟩
  unfold numR
  rw [hr] at HC ⊢
  simp only at HC ⊢
  clear hr hs
  by_cases h0 : c = 0
  · subst h0
    by_cases h1 : lo ≤ n
    · by_cases h2 : n ≤ hi
      · rw [if_pos ⟨rfl, h1, h2⟩]
        have d1 : decide ((n : Int) < (lo : Int)) = false := decide_eq_false (by omega)
        have d2 : decide ((hi : Int) < (n : Int)) = false := decide_eq_false (by omega)
        have d3 : ¬ (n : Int) < (lo : Int) := by omega
        have d4 : ¬ (hi : Int) < (n : Int) := by omega
        clear h1 h2
        go_enter Tryz.func102, Tryz.ntmps102
        go_wp2_with (go_at_call 120; refine HC.out.mono ?_; rintro e w1 ⟨rfl, e9⟩; subst w1)
        go_ret2
        exact ⟨rfl, rfl⟩
      · rw [if_neg (fun h => h2 h.2.2)]
        have d1 : decide ((n : Int) < (lo : Int)) = false := decide_eq_false (by omega)
        have d2 : decide ((hi : Int) < (n : Int)) = true := decide_eq_true (by omega)
        have d3 : ¬ (n : Int) < (lo : Int) := by omega
        have d4 : (hi : Int) < (n : Int) := by omega
        clear h1 h2
        go_enter Tryz.func102, Tryz.ntmps102
        go_wp2_with (go_at_call 120; refine HC.out.mono ?_; rintro e w1 ⟨rfl, e9⟩; subst w1)
        go_ret2
        exact ⟨rfl, rfl⟩
    · rw [if_neg (fun h => h1 h.2.1)]
      have d1 : decide ((n : Int) < (lo : Int)) = true := decide_eq_true (by omega)
      have d3 : (n : Int) < (lo : Int) := by omega
      clear h1
      go_enter Tryz.func102, Tryz.ntmps102
      go_wp2_with (go_at_call 120; refine HC.out.mono ?_; rintro e w1 ⟨rfl, e9⟩; subst w1)
      go_ret2
      exact ⟨rfl, rfl⟩
  · rw [if_neg (fun h => h0 h.1)]
    have d1 : ((c : Int) != 0) = true := by simp; omega
    clear h0
    go_enter Tryz.func102, Tryz.ntmps102
    go_wp2_with (go_at_call 120; refine HC.out.mono ?_; rintro e w1 ⟨rfl, e9⟩; subst w1)
    go_ret2
    exact ⟨rfl, rfl⟩
theorem hexc_dv : ∀ c : Fin 256, hexB (UInt8.ofNat c.val) = true → hexc ((dv c.val).getD 0) = UInt8.ofNat c.val := by decide +kernel
theorem hexc_of {c : UInt8} (h : hexB c = true) : hexc ((dv c.toNat).getD 0) = c := by
  have h1 := hexc_dv ⟨c.toNat, c.toNat_lt⟩
  have h2 : UInt8.ofNat c.toNat = c := by simp
  simp only [h2] at h1
  exact h1 h
theorem digV_split (m : Nat) (r : List UInt8) : digV m r = m * 16 ^ r.length + digV 0 r := by
  induction r generalizing m with
  | nil => simp [digV]
  | cons c r ih =>
    have e1 : digV m (c :: r) = digV (m * 16 + (dv c.toNat).getD 0) r := rfl
    have e2 : digV 0 (c :: r) = digV ((dv c.toNat).getD 0) r := by simp [digV]
    rw [e1, e2, ih (m * 16 + _), ih ((dv c.toNat).getD 0), List.length_cons, Nat.pow_succ, Nat.add_mul, Nat.mul_assoc m 16, Nat.mul_comm 16]
    omega
theorem lo_digV (r : List UInt8) (h : r.all hexB = true) (m : Nat) : lo r.length (digV m r) = r := by
  induction r generalizing m with
  | nil => rfl
  | cons c r ih =>
    simp only [List.all_cons, Bool.and_eq_true] at h
    have e1 : digV m (c :: r) = digV (m * 16 + (dv c.toNat).getD 0) r := rfl
    rw [e1, List.length_cons, lo, ih h.2]
    have e2 := digV_split (m * 16 + (dv c.toNat).getD 0) r
    have e3 := digV_lt r
    have e4 : digV (m * 16 + (dv c.toNat).getD 0) r / 16 ^ r.length = m * 16 + (dv c.toNat).getD 0 := by
      rw [e2, Nat.mul_comm, Nat.mul_add_div (Nat.pow_pos (by omega)), Nat.div_eq_of_lt e3, Nat.add_zero]
    have e5 := dv_lt c.toNat
    rw [e4, Nat.mul_comm m 16, Nat.mul_add_mod, Nat.mod_eq_of_lt e5, hexc_of h.1]
theorem toNum_inv {l : List UInt8} {n : Nat} (h : toNum l = (n, 0)) : l = numT n ∧ n ≤ 4611686018427387904 := by
  unfold toNum at h
  split at h
  · cases h
  · rename_i h1
    split at h
    · cases h
    · rename_i h2
      split at h
      · cases h
      · rename_i h3
        split at h
        · cases h
        · rename_i h4
          obtain rfl : digV 0 (l.drop 1) = n := (Prod.mk.inj h).1
          refine ⟨?_, by omega⟩
          have h3' : (l.drop 1).all hexB = true := by simpa using h3
          cases l with
          | nil => simp at h1
          | cons c r =>
            simp only [List.drop_succ_cons, List.drop_zero, List.headD_cons, List.length_cons] at *
            obtain ⟨h5, h6⟩ : c.toNat = 96 + (r.length + 1) ∧ r.head? ≠ some 48 := ⟨Classical.byContradiction fun h => h2 (.inl h), fun h => h2 (.inr h)⟩
            have hlo := lo_digV r h3' 0
            have hlt := digV_lt r
            cases r with
            | nil =>
              have : c = 97 := by rw [← UInt8.toNat_inj]; simpa using h5
              subst this
              rfl
            | cons b r =>
              have hb : hexB b = true := by simp only [List.all_cons, Bool.and_eq_true] at h3'; exact h3'.1
              have hb0 : (dv b.toNat).getD 0 ≠ 0 := fun e => by
                have := hexc_of hb
                rw [e] at this
                exact h6 (by rw [← this]; rfl)
              have hge : 16 ^ r.length ≤ digV 0 (b :: r) := by
                have e1 : digV 0 (b :: r) = digV ((dv b.toNat).getD 0) r := by simp [digV]
                rw [e1, digV_split]
                have : 1 * 16 ^ r.length ≤ (dv b.toNat).getD 0 * 16 ^ r.length := Nat.mul_le_mul_right _ (by omega)
                omega
              have hp : 0 < 16 ^ r.length := Nat.pow_pos (by omega)
              generalize hn : digV 0 (b :: r) = n at *
              have hn0 : n ≠ 0 := by omega
              have hb2 := log_bounds n hn0
              have hk : n.log2 / 4 = r.length := by
                have q1 : 16 ^ (n.log2 / 4) < 16 ^ (r.length + 1) := Nat.lt_of_le_of_lt hb2.1 (by simpa using hlt)
                have q2 : 16 ^ r.length < 16 ^ (n.log2 / 4 + 1) := Nat.lt_of_le_of_lt hge hb2.2
                have := (Nat.pow_lt_pow_iff_right (a := 16) (by omega)).1 q1
                have := (Nat.pow_lt_pow_iff_right (a := 16) (by omega)).1 q2
                omega
              unfold numT
              rw [if_neg hn0, hk]
              have : c = letr r.length := by
                rw [← UInt8.toNat_inj, h5, letr_toNat _ (by simp at h1; omega)]
                simp
                omega
              rw [this]
              simpa using hlo.symm
end Go.Proofs.YtdglmoikgmlaaaaGreatDoor
