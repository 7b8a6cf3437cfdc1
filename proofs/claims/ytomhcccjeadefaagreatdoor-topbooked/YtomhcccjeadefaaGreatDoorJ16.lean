/- YtomhcccjeadefaaGreatDoorJ12 + YtomhcccjeadefaaGreatDoorJ14 + YtomhcccjeadefaaGreatDoorJ15 + YtomhcccjeadefaaGreatDoorJ16 -/
import Derived.Test.YtomhcccjeadefaaGreatDoorJ9
/- A tree of keys: too long a text; a tenant that is gone; Destroy. -/
namespace Go.Proofs.YtomhcccjeadefaaGreatDoor
open Go.RowKit Go.Maps
set_option linter.unusedVariables false
set_option maxRecDepth 20000
set_option maxHeartbeats 4000000 in
theorem seal_toolong {w : World} {B g : Nat} {root : List UInt8} {mv mg nv ng : Nat} {VM GM : DataW Unit} {k : Nat} (h : TreeAt w B g root mv mg nv ng VM GM k) (t u : ByteArray) (ht : t.size ≤ 100 ∧ nameB t.data.toList = true) (hu : u.size ≤ 100 ∧ nameB u.data.toList = true) (kl : Lit) (hk : Go.keyOf Tryz.prog 80 (.agg #[.string t, .string u]) = some kl) (c : Nat) (hc : VerIs VM kl (c : Int)) (h1 : 1 ≤ c) (h16 : c ≤ 200) (hb : Maps.has GM (.string t.data.toList) = false) (hke : keyErr [t, u, txtJ c] = 0) (hk9 : k ≤ 1099511627776) (a : Option Addr) (n cap : Nat) (hl : 1024 < n) (hT : TabAt w) (hKA : KAt w) :
    Calls Tryz.prog 9 #[.pointer (some ⟨g, 0, none⟩), .string t, .string u, .slice a n cap] w fun e w' => e = .returned (.tuple #[.slice none 0 0, .int .i64 6]) ∧ Below w.heap.size w w' := by
  obtain ⟨Z, hZ⟩ : ∃ Z, Z = bvs (List.replicate 32 0) := ⟨_, rfl⟩
  have zh := (zero_of_info zero_hash).1
  rw [← hZ] at zh
  have hz : Hid (HV Z (List.replicate 32 0)) := by
    show HV _ _
    rw [hZ]; exact hv_zero
  have zh := hid zh
  have HC := hid (current_any h t u ⟨by unfold maxLen; have := ht.1; omega, ht.2⟩ ⟨by unfold maxLen; have := hu.1; omega, hu.2⟩ kl hk (c : Int) hc false hb)
  have HKy := hid (fun (W : World) (hW : Below w.heap.size w W) => by have := key_ok (h.below hW) t u ht hu kl hk (c : Int) hc hb c h1 (Int.le_refl _) (by omega) (TabAt.belowJ hT hW) (hKA.below hW); rw [hke] at this; exact this)
  obtain ⟨key, hkey⟩ : ∃ key, key = derRes root [t, u, txtJ c] := ⟨_, rfl⟩
  rw [← hkey] at HKy
  have H := hid h
  have HKA := hid hKA
  have hcv : IntKind.u64.wrap (k : Int) = (k : Int) := by rw [IntKind.wrap_u64]; omega
  have Hcv := hid hcv
  have hc8 : ((UInt8.ofNat c).toNat : Int) = (c : Int) := by
    have : (UInt8.ofNat c).toNat = c := by simp; omega
    omega
  have Hc8 := hid hc8
  clear h hc hb hk hZ hT hkey hKA hcv hc8 hke
  go_enter Tryz.func9, Tryz.ntmps9
  go_wp2_with (first
    | (go_at_call 23; refine HC.out.mono ?_; rintro _ w1 ⟨rfl, b1⟩; have B1 := hid b1; clear b1; unfold goneE; simp only [Bool.false_eq_true, if_false])
    | (go_at_call 24; refine (HKy.out w1 B1.out).mono ?_; rintro _ w2 ⟨O, rfl, hO, b2⟩; obtain rfl := hO.eq; have hlk := hid hO.len; have B2 := hid (Below.on' B1.out b2); have X2 : Hid ((w2.alloc (.cells Z 27)).heap[w2.heap.size]? = some (.cells Z 27 (0, 0))) := heap_alloc_new w2 _; have HI := hid hO.info; have HZ9 := hid (hz.out.size.trans hO.size.symm); have HO1 := hid hO.one; clear b2 hO)
    | (with_reducible show Go.wpList _ _ _ _ _ _; refine wpList_alloc_row rfl 27 rfl Z zh.out ?_)
    | (with_reducible show Go.wpList _ _ _ _ _ _; refine wpList_store_row rfl 27 _ _ rfl w2.heap.size (bvs key) rfl rfl 27 Z X2.out HI.out HZ9.out HO1.out ?_))
  obtain ⟨W3, hW3⟩ : ∃ W3, W3 = (w2.alloc (.cells Z 27)).setRow w2.heap.size (bvs key) := ⟨_, rfl⟩
  have b3 : Below w2.heap.size w2 W3 := by rw [hW3]; exact ((Below.refl _ w2).alloc (Nat.le_refl _) _).setRow (Nat.le_refl _) _
  have x3 : W3.heap[w2.heap.size]? = some (.cells (bvs key) 27 (0, 0)) := by rw [hW3]; exact setRow_heap _ _ _ _ _ _ X2.out
  rw [← hW3]
  obtain ⟨V0, hV0⟩ : ∃ V0, V0 = W3.drew := ⟨_, rfl⟩
  have b30 : Below W3.heap.size W3 V0 := by rw [hV0]; exact (Below.refl _ W3).drew
  have bw0 : Below w.heap.size w V0 := Below.on' (Below.on' B2.out b3) b30
  have hcall : Calls Tryz.prog 25 #[.agg (bvs key), .int .u64 (k : Int), .slice a n cap] V0 fun e w' => ∃ vv, e = .returned (.tuple #[vv, .int .i64 6]) ∧ vv = .slice none 0 0 ∧ Below V0.heap.size V0 w' := (seal_long ⟨rfl, hlk.out⟩ k n a cap hl).mono fun e w' h => ⟨_, h.1, rfl, h.2⟩
  refine wp_act _ fun A hA => ?_
  have sz : A.tmps.size = 66 := by rw [hA]; rfl
  have e0 : A.eval (.tmp 0) = .pointer (some ⟨g, 0, none⟩) := by rw [hA]; rfl
  have e3 : A.eval (.tmp 3) = .slice a n cap := by rw [hA]; rfl
  have e12 : A.eval (.tmp 12) = .pointer (some ⟨w2.heap.size, 0, none⟩) := by rw [hA]; rfl
  refine wp_split _ (seal_region7 (P := fun vv w' => vv = .slice none 0 0) sz e0 e3 e12 hlk.out Hcv.out hcall hV0 ⟨H.out.below bw0, (b30.block _ (heap_lt x3)).trans x3⟩) ?_
  rintro _ V4 ⟨vv, rfl, rfl, ⟨hT4, _⟩, b4⟩
  rw [hA]
  simp only [Act.put, List.setIfInBounds_toArray, List.set_cons_succ, List.set_cons_zero]
  have bw4 := hid (Below.on' bw0 b4)
  clear b4 bw0 b30 b3 hT4 hcall hA sz e0 e3 e12
  go_wp2
  go_ret2
  exact ⟨rfl, bw4.out⟩
set_option maxHeartbeats 4000000 in
theorem seal_full {w : World} {B g : Nat} {root : List UInt8} {mv mg nv ng : Nat} {VM GM : DataW Unit} {k : Nat} (h : TreeAt w B g root mv mg nv ng VM GM k) (t u : ByteArray) (ht : t.size ≤ 100 ∧ nameB t.data.toList = true) (hu : u.size ≤ 100 ∧ nameB u.data.toList = true) (kl : Lit) (hk : Go.keyOf Tryz.prog 80 (.agg #[.string t, .string u]) = some kl) (c : Nat) (hc : VerIs VM kl (c : Int)) (h1 : 1 ≤ c) (h16 : c ≤ 200) (hb : Maps.has GM (.string t.data.toList) = false) (hke : keyErr [t, u, txtJ c] = 0) (hk9 : k = 1099511627776) (plain : List UInt8) (a : Option Addr) (n cap : Nat) (hn : n = plain.length) (hB : Bytes w a plain) (hl : plain.length ≤ 1024) (hT : TabAt w) (hKA : KAt w) :
    Calls Tryz.prog 9 #[.pointer (some ⟨g, 0, none⟩), .string t, .string u, .slice a n cap] w fun e w' => e = .returned (.tuple #[.slice none 0 0, .int .i64 7]) ∧ Below w.heap.size w w' := by
  obtain ⟨Z, hZ⟩ : ∃ Z, Z = bvs (List.replicate 32 0) := ⟨_, rfl⟩
  have zh := (zero_of_info zero_hash).1
  rw [← hZ] at zh
  have hz : Hid (HV Z (List.replicate 32 0)) := by
    show HV _ _
    rw [hZ]; exact hv_zero
  have zh := hid zh
  have HC := hid (current_any h t u ⟨by unfold maxLen; have := ht.1; omega, ht.2⟩ ⟨by unfold maxLen; have := hu.1; omega, hu.2⟩ kl hk (c : Int) hc false hb)
  have HKy := hid (fun (W : World) (hW : Below w.heap.size w W) => by have := key_ok (h.below hW) t u ht hu kl hk (c : Int) hc hb c h1 (Int.le_refl _) (by omega) (TabAt.belowJ hT hW) (hKA.below hW); rw [hke] at this; exact this)
  obtain ⟨key, hkey⟩ : ∃ key, key = derRes root [t, u, txtJ c] := ⟨_, rfl⟩
  rw [← hkey] at HKy
  have H := hid h
  have HKA := hid hKA
  have HB := hid hB
  have Hn := hid hn
  have Hk9 := hid hk9
  have hcv : IntKind.u64.wrap (k : Int) = (k : Int) := by rw [IntKind.wrap_u64]; omega
  have Hcv := hid hcv
  have hc8 : ((UInt8.ofNat c).toNat : Int) = (c : Int) := by
    have : (UInt8.ofNat c).toNat = c := by simp; omega
    omega
  have Hc8 := hid hc8
  have g9 : ((k : Int) == 1099511627776) = true := by simp; omega
  clear h hc hb hk hZ hT hkey hKA hcv hc8 hke hB hn hk9
  go_enter Tryz.func9, Tryz.ntmps9
  go_wp2_with (first
    | (go_at_call 23; refine HC.out.mono ?_; rintro _ w1 ⟨rfl, b1⟩; have B1 := hid b1; clear b1; unfold goneE; simp only [Bool.false_eq_true, if_false])
    | (go_at_call 24; refine (HKy.out w1 B1.out).mono ?_; rintro _ w2 ⟨O, rfl, hO, b2⟩; obtain rfl := hO.eq; have hlk := hid hO.len; have B2 := hid (Below.on' B1.out b2); have X2 : Hid ((w2.alloc (.cells Z 27)).heap[w2.heap.size]? = some (.cells Z 27 (0, 0))) := heap_alloc_new w2 _; have HI := hid hO.info; have HZ9 := hid (hz.out.size.trans hO.size.symm); have HO1 := hid hO.one; clear b2 hO)
    | (with_reducible show Go.wpList _ _ _ _ _ _; refine wpList_alloc_row rfl 27 rfl Z zh.out ?_)
    | (with_reducible show Go.wpList _ _ _ _ _ _; refine wpList_store_row rfl 27 _ _ rfl w2.heap.size (bvs key) rfl rfl 27 Z X2.out HI.out HZ9.out HO1.out ?_))
  obtain ⟨W3, hW3⟩ : ∃ W3, W3 = (w2.alloc (.cells Z 27)).setRow w2.heap.size (bvs key) := ⟨_, rfl⟩
  have b3 : Below w2.heap.size w2 W3 := by rw [hW3]; exact ((Below.refl _ w2).alloc (Nat.le_refl _) _).setRow (Nat.le_refl _) _
  have x3 : W3.heap[w2.heap.size]? = some (.cells (bvs key) 27 (0, 0)) := by rw [hW3]; exact setRow_heap _ _ _ _ _ _ X2.out
  rw [← hW3]
  obtain ⟨V0, hV0⟩ : ∃ V0, V0 = W3.drew := ⟨_, rfl⟩
  have b30 : Below W3.heap.size W3 V0 := by rw [hV0]; exact (Below.refl _ W3).drew
  have bw0 : Below w.heap.size w V0 := Below.on' (Below.on' B2.out b3) b30
  have hcall : Calls Tryz.prog 25 #[.agg (bvs key), .int .u64 (k : Int), .slice a n cap] V0 fun e w' => ∃ vv, e = .returned (.tuple #[vv, .int .i64 0]) ∧ True ∧ Below V0.heap.size V0 w' := (seal_any ⟨rfl, hlk.out⟩ k plain a n cap Hn.out (HB.out.below bw0) hl (HKA.out.below bw0)).mono fun e w' ⟨v, h1, _, h3⟩ => ⟨v, h1, trivial, h3⟩
  refine wp_act _ fun A hA => ?_
  have sz : A.tmps.size = 66 := by rw [hA]; rfl
  have e0 : A.eval (.tmp 0) = .pointer (some ⟨g, 0, none⟩) := by rw [hA]; rfl
  have e3 : A.eval (.tmp 3) = .slice a n cap := by rw [hA]; rfl
  have e12 : A.eval (.tmp 12) = .pointer (some ⟨w2.heap.size, 0, none⟩) := by rw [hA]; rfl
  refine wp_split _ (seal_region7 (P := fun _ _ => True) sz e0 e3 e12 hlk.out Hcv.out hcall hV0 ⟨H.out.below bw0, (b30.block _ (heap_lt x3)).trans x3⟩) ?_
  rintro _ V4 ⟨vv, rfl, _, ⟨hT4, _⟩, b4⟩
  rw [hA]
  simp only [Act.put, List.setIfInBounds_toArray, List.set_cons_succ, List.set_cons_zero]
  have bw4 := hid (Below.on' bw0 b4)
  have c34 := hT4.c34
  clear b4 bw0 b30 b3 hT4 hcall hA sz e0 e3 e12
  go_wp2
  go_ret2
  exact ⟨rfl, bw4.out⟩
end Go.Proofs.YtomhcccjeadefaaGreatDoor
/- The keys of the map of versions, for any two texts; names that may not be. -/
namespace Go.Proofs.YtomhcccjeadefaaGreatDoor
open Go.RowKit Go.Maps
set_option linter.unusedVariables false
set_option maxRecDepth 20000
def keyP (t u : ByteArray) : Lit := .string (Go.keyBytes [.string t.data.toList, .string u.data.toList])
theorem typesJ : ∃ m, Tryz.prog.types.size = m + 1 := ⟨Tryz.prog.types.size - 1, by kernel_rfl⟩
theorem keyTypeJ : Tryz.prog.keyType 80 = true := by kernel_rfl
theorem cellsPlace : Tryz.prog.cellsOf 80 = 2 := by kernel_rfl
theorem cellsStr : Tryz.prog.cellsOf 9 = 1 := by kernel_rfl
theorem keyLits_str (m : Nat) (s : ByteArray) (h : s.size ≤ maxLen) : Tryz.prog.keyLits (m + 1) 9 [.string s] = some [.string s.data.toList] := by
  unfold Program.keyLits
  simp only [Tryz.underlying9, h, if_true]
theorem formedJ (t u : ByteArray) : Value.formed Tryz.prog 80 (.agg #[.string t, .string u]) = true := by kernel_rfl
theorem keyOf_place (t u : ByteArray) (ht : t.size ≤ maxLen) (hu : u.size ≤ maxLen) : Go.keyOf Tryz.prog 80 (.agg #[.string t, .string u]) = some (keyP t u) := by
  obtain ⟨m, hm⟩ := typesJ
  unfold Go.keyOf
  rw [hm]
  simp only [Tryz.underlying80, keyTypeJ, formedJ, Bool.and_self, if_true]
  unfold Program.keyLits
  simp only [Tryz.underlying80, cellsPlace, Value.cells]
  rw [if_pos ⟨rfl, by decide +kernel⟩]
  simp [List.mapM_cons, cellsStr, keyLits_str m _ ht, keyLits_str m _ hu, keyP]
end Go.Proofs.YtomhcccjeadefaaGreatDoor
/- reach, Current, of any names. -/
namespace Go.Proofs.YtomhcccjeadefaaGreatDoor
open Go.RowKit Go.Maps
set_option linter.unusedVariables false
set_option maxRecDepth 20000
def okN (s : ByteArray) : Bool := nameB s.data.toList
theorem okN_len {s : ByteArray} (h : okN s = true) : s.size ≤ 9 := by
  unfold okN nameB at h
  simp at h
  have : s.data.toList.length = s.size := by simp
  simp at this
  omega
set_option maxHeartbeats 2000000 in
theorem reach_bad {w : World} {g : Nat} (t : ByteArray) (l : List ByteArray) (a : Option Addr) (m cap : Nat) (hm : m = l.length) (hl : Texts w a l) (hl9 : l.length ≤ 100) (hs : ∀ s ∈ l, s.size ≤ maxLen) (hb : l.all okN = false) :
    Calls Tryz.prog 46 #[.pointer (some ⟨g, 0, none⟩), .string t, .slice a m cap] w fun e w' => e = .returned (.int .i64 8) ∧ w' = w := by
  have Hl := hid hl
  have Hs := hid hs
  have Hm := hid hm
  have Hb := hid hb
  have hm9 : m ≤ 100 := by omega
  clear hl hs hm hb
  go_enter Tryz.func46, Tryz.ntmps46
  go_wp2
  go_loopw [15] (fun i wr => ∃ k : Nat, k ≤ m ∧ i = .int .i64 (k : Int) ∧ wr = w ∧ (l.take k).all okN = true) (fun i _ => m - (intOf i).toNat)
  case atStart => exact ⟨0, Nat.zero_le _, rfl, rfl, rfl⟩
  case round =>
    obtain ⟨k, hk, rfl, rfl, hpre⟩ := hrel
    by_cases hlt : k < m
    · have g1 : decide ((k : Int) < (m : Int)) = true := by simp; omega
      have hkl : k < l.length := by have := Hm.out; omega
      obtain ⟨bb, oo, rfl, hc⟩ := Hl.out k hkl
      have s1 := Hs.out _ (List.getElem_mem hkl)
      have hstep : (l.take (k + 1)).all okN = okN l[k] := by
        rw [List.take_succ_eq_append_getElem hkl, List.all_append, hpre]
        simp
      have Hstep := hid hstep
      clear hstep hpre
      generalize l[k] = s at *
      have HN := isName_any s wr s1
      rw [show nameB s.data.toList = okN s from rfl] at HN
      by_cases s2 : okN s = true
      · rw [s2] at HN
        go_wp2_with (go_at_call 62; refine HN.mono ?_; rintro _ w9 ⟨rfl, e9⟩; subst w9)
        go_roundw
        case rel => exact ⟨k + 1, by omega, by go_num, by first | rfl | trivial, Hstep.out.trans s2⟩
        case measure => simp [intOf]; omega
      · rw [Bool.eq_false_iff.2 s2] at HN
        clear s2
        go_wp2_with (go_at_call 62; refine HN.mono ?_; rintro _ w9 ⟨rfl, e9⟩; subst w9)
        go_ret
        exact ⟨rfl, rfl⟩
    · exfalso
      have := Hm.out
      have := Hb.out
      rw [List.take_of_length_le (by omega)] at hpre
      rw [hpre] at this
      cases this
set_option maxHeartbeats 2000000 in
theorem current_bad {w : World} {g : Nat} (t u : ByteArray) (ht : t.size ≤ maxLen) (hu : u.size ≤ maxLen) (hb : (okN t && okN u) = false) :
    Calls Tryz.prog 23 #[.pointer (some ⟨g, 0, none⟩), .string t, .string u] w fun e w' => e = .returned (.tuple #[.int .i64 0, .int .i64 8]) ∧ Below w.heap.size w w' := by
  have htx : Texts (w.alloc (.cells #[.string t, .string u] 9)) (some ⟨w.heap.size, 0, none⟩) [t, u] := fun i hi => by
    refine ⟨w.heap.size, 0, rfl, ?_⟩
    rw [World.cell?_alloc_at _ _ _ _ rfl]
    match i, hi with
    | 0, _ => rfl
    | 1, _ => rfl
  have HR := hid (reach_bad (g := g) t [t, u] (some ⟨w.heap.size, 0, none⟩) 2 2 rfl htx (by simp) (fun s hs => by simp at hs; rcases hs with rfl | rfl; exact ht; exact hu) (by simpa using hb))
  clear htx hb ht hu
  go_enter Tryz.func23, Tryz.ntmps23
  go_wp2_with (go_at_call 46; refine HR.out.mono ?_; rintro _ w1 ⟨rfl, e1⟩; subst w1)
  go_ret2
  exact ⟨rfl, (Below.refl _ w).alloc (Nat.le_refl _) _⟩
end Go.Proofs.YtomhcccjeadefaaGreatDoor
/- A tree of keys as mathematics: versions, tenants that are gone, how many texts were sealed; what the two maps hold of it. -/
namespace Go.Proofs.YtomhcccjeadefaaGreatDoor
open Go.RowKit Go.Maps
set_option linter.unusedVariables false
structure TS where
  vs : List ((ByteArray × ByteArray) × Nat)
  gs : List ByteArray
  n : Nat
def isAt (t u : ByteArray) (p : (ByteArray × ByteArray) × Nat) : Bool := decide (p.1 = (t, u))
def verOf (vs : List ((ByteArray × ByteArray) × Nat)) (t u : ByteArray) : Nat := ((vs.find? (isAt t u)).map (·.2)).getD 1
def isIn (gs : List ByteArray) (t : ByteArray) : Bool := gs.any fun x => decide (x = t)
theorem isIn_iff {gs : List ByteArray} {t : ByteArray} : isIn gs t = true ↔ t ∈ gs := by
  unfold isIn
  rw [List.any_eq_true]
  exact ⟨fun ⟨x, hx, e⟩ => of_decide_eq_true e ▸ hx, fun h => ⟨t, h, decide_eq_true rfl⟩⟩
def TS.cur (s : TS) (t u : ByteArray) : Nat × Nat := if (okN t && okN u) = true then (if isIn s.gs t = true then (0, 12) else (verOf s.vs t u, 0)) else (0, 8)
structure TS.Ok (s : TS) : Prop where
  names : ∀ p ∈ s.vs, okN p.1.1 = true ∧ okN p.1.2 = true ∧ 2 ≤ p.2 ∧ p.2 ≤ 16 ∧ p.1.1 ∉ s.gs
  nodup : (s.vs.map (·.1)).Nodup
  gnames : ∀ t ∈ s.gs, okN t = true
  gnodup : s.gs.Nodup
  few : s.vs.length ≤ 16
  gfew : s.gs.length ≤ 16
theorem verOf_ok {s : TS} (h : s.Ok) (t u : ByteArray) : 1 ≤ verOf s.vs t u ∧ verOf s.vs t u ≤ 16 := by
  unfold verOf
  cases hf : s.vs.find? (isAt t u) with
  | none => simp
  | some p => have := h.names p (List.mem_of_find?_eq_some hf); simp; omega
theorem okN_max {t : ByteArray} (h : okN t = true) : t.size ≤ maxLen := by have := okN_len h; unfold maxLen; omega
theorem keyP_inj {t u t' u' : ByteArray} (ht : t.size ≤ maxLen) (hu : u.size ≤ maxLen) (ht' : t'.size ≤ maxLen) (hu' : u'.size ≤ maxLen) (h : keyP t u = keyP t' u') : (t, u) = (t', u') := by
  have := lawPlace.inj (keyOf_place t u ht hu) (h ▸ keyOf_place t' u' ht' hu')
  simp at this
  rw [this.1, this.2]
theorem keyP_lit (t u : ByteArray) : WideAt.IsKeyLit (keyP t u) := True.intro
structure VRel (V : DataW Unit) (vs : List ((ByteArray × ByteArray) × Nat)) : Prop where
  tidy : Tidy V
  has : ∀ t u : ByteArray, t.size ≤ maxLen → u.size ≤ maxLen → Maps.has V (keyP t u) = vs.any (isAt t u)
  at' : ∀ p ∈ vs, V.atKey (keyP p.1.1 p.1.2) (.lit (.int .i64 0)) = .lit (.int .i64 (p.2 : Int))
  size : Maps.size V = vs.length
structure GRel (G : DataW Unit) (gs : List ByteArray) : Prop where
  tidy : Tidy G
  has : ∀ t : ByteArray, Maps.has G (.string t.data.toList) = isIn gs t
  size : Maps.size G = gs.length
theorem vrel_new : VRel (.map []) [] := ⟨tidy_empty, fun _ _ _ _ => rfl, (fun p hp => nomatch hp), rfl⟩
theorem grel_new : GRel (.map []) [] := ⟨tidy_empty, fun _ => rfl, rfl⟩
theorem VRel.ver {V : DataW Unit} {vs : List ((ByteArray × ByteArray) × Nat)} (h : VRel V vs) (t u : ByteArray) (ht : t.size ≤ maxLen) (hu : u.size ≤ maxLen) : VerIs V (keyP t u) (verOf vs t u : Int) := by
  unfold VerIs verOf
  cases hf : vs.find? (isAt t u) with
  | none =>
    refine Or.inr ⟨?_, rfl⟩
    rw [h.has t u ht hu, List.any_eq_false]
    exact fun p hp => by simpa using List.find?_eq_none.1 hf p hp
  | some p =>
    have hm := List.mem_of_find?_eq_some hf
    have hp : isAt t u p = true := List.find?_some hf
    have e : p.1 = (t, u) := of_decide_eq_true hp
    refine Or.inl ⟨?_, ?_⟩
    · rw [h.has t u ht hu, List.any_eq_true]
      exact ⟨p, hm, hp⟩
    · have := h.at' p hm
      rw [e] at this
      exact this
def rotV (vs : List ((ByteArray × ByteArray) × Nat)) (t u : ByteArray) (c : Nat) : List ((ByteArray × ByteArray) × Nat) := vs.filter (fun p => !isAt t u p) ++ [((t, u), c)]
theorem rotV_length {vs : List ((ByteArray × ByteArray) × Nat)} (hn : (vs.map (·.1)).Nodup) (t u : ByteArray) (c : Nat) : (rotV vs t u c).length = if vs.any (isAt t u) then vs.length else vs.length + 1 := by
  have key : (vs.filter (fun p => !isAt t u p)).length + (if vs.any (isAt t u) then 1 else 0) = vs.length := by
    induction vs with
    | nil => rfl
    | cons p vs ih =>
      have hn' : (p.1 :: vs.map (·.1)).Nodup := by simpa using hn
      obtain ⟨h1, h2⟩ := List.nodup_cons.1 hn'
      have ih' := ih h2
      rw [List.filter_cons, List.any_cons, List.length_cons]
      by_cases hp : isAt t u p = true
      · have hz : vs.any (isAt t u) = false := by
          rw [List.any_eq_false]
          intro q hq he
          exact h1 (List.mem_map.2 ⟨q, hq, (of_decide_eq_true he).trans (of_decide_eq_true hp).symm⟩)
        rw [hz] at ih'
        rw [hp, hz]
        simp only [Bool.not_true, Bool.false_eq_true, if_false, Bool.or_false, if_true] at ih' ⊢
        omega
      · have hp' : isAt t u p = false := by simpa using hp
        rw [hp']
        simp only [Bool.not_false, if_true, Bool.false_or, List.length_cons]
        omega
  unfold rotV
  rw [List.length_append, List.length_singleton]
  by_cases hb : vs.any (isAt t u) = true
  · rw [if_pos hb] at key ⊢
    exact key
  · rw [if_neg hb] at key ⊢
    omega
theorem VRel.rot {V : DataW Unit} {s : TS} (h : VRel V s.vs) (ok : s.Ok) (t u : ByteArray) (ht : t.size ≤ maxLen) (hu : u.size ≤ maxLen) (c : Nat) : VRel (V.put (keyP t u) (.lit (.int .i64 (c : Int)))) (rotV s.vs t u c) := by
  refine ⟨h.tidy.put (keyP_lit t u) _, fun t' u' ht' hu' => ?_, fun p hp => ?_, ?_⟩
  · by_cases e : (t', u') = (t, u)
    · obtain ⟨rfl, rfl⟩ := Prod.mk.inj e
      rw [has_put_same h.tidy.isMap (keyP_lit _ _)]
      unfold rotV isAt
      simp
    · rw [has_put_other (fun e' => e (keyP_inj ht' hu' ht hu e')), h.has t' u' ht' hu']
      unfold rotV
      rw [List.any_append]
      have h1 : ([((t, u), c)] : List ((ByteArray × ByteArray) × Nat)).any (isAt t' u') = false := by
        unfold isAt
        simp only [List.any_cons, List.any_nil, Bool.or_false, decide_eq_false_iff_not]
        exact fun e' => e e'.symm
      rw [h1, Bool.or_false]
      exact (any_filter_keep (fun p hp => by
        unfold isAt at hp ⊢
        have := of_decide_eq_true hp
        simp only [Bool.not_eq_true', decide_eq_false_iff_not]
        exact fun e' => e (this.symm.trans e')) _).symm
  · unfold rotV at hp
    rcases List.mem_append.1 hp with hp | hp
    · obtain ⟨hm, hne⟩ := List.mem_filter.1 hp
      have hne' : p.1 ≠ (t, u) := by unfold isAt at hne; simpa using hne
      obtain ⟨n1, n2, _⟩ := ok.names p hm
      rw [atKey_put_other (fun e' => hne' (keyP_inj (okN_max n1) (okN_max n2) ht hu e'))]
      exact h.at' p hm
    · obtain rfl := List.mem_singleton.1 hp
      exact atKey_put_same h.tidy.isMap (keyP_lit _ _) _ _
  · rw [size_put h.tidy, rotV_length ok.nodup, h.has t u ht hu, h.size]
def TS.rot (s : TS) (t u : ByteArray) (c : Nat) : TS := { s with vs := rotV s.vs t u c }
theorem TS.Ok.rot {s : TS} (ok : s.Ok) (t u : ByteArray) (ht : okN t = true) (hu : okN u = true) (hg : t ∉ s.gs) (c : Nat) (h2 : 2 ≤ c) (h16 : c ≤ 16) (hf : (rotV s.vs t u c).length ≤ 16) : (s.rot t u c).Ok := by
  refine ⟨fun p hp => ?_, ?_, ok.gnames, ok.gnodup, hf, ok.gfew⟩
  · unfold TS.rot rotV at hp
    rcases List.mem_append.1 hp with hp | hp
    · exact ok.names p (List.mem_filter.1 hp).1
    · obtain rfl := List.mem_singleton.1 hp
      exact ⟨ht, hu, h2, h16, hg⟩
  · show ((rotV s.vs t u c).map (·.1)).Nodup
    unfold rotV
    rw [List.map_append, List.nodup_append]
    refine ⟨ok.nodup.sublist (List.filter_sublist.map _), by simp, fun x hx y hy e => ?_⟩
    obtain ⟨p, hp, rfl⟩ := List.mem_map.1 hx
    have hne := (List.mem_filter.1 hp).2
    simp at hy
    rw [hy] at e
    unfold isAt at hne
    simp at hne
    exact hne e
end Go.Proofs.YtomhcccjeadefaaGreatDoor
