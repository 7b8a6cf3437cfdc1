/- YtdglmoikgmlaaaaDoorJ12 + YtdglmoikgmlaaaaDoorJ14 + YtdglmoikgmlaaaaDoorJ15 + YtdglmoikgmlaaaaDoorJ16 + YtdglmoikgmlaaaaDoorJ17 -/
import Derived.Test.YtdglmoikgmlaaaaDoorJ9
/- A tree of keys: too long a text; a tenant that is gone; Destroy. -/
namespace Go.Proofs.YtdglmoikgmlaaaaDoor
open Go.RowKit Go.Maps
set_option linter.unusedVariables false
set_option maxRecDepth 20000
set_option maxHeartbeats 4000000 in
theorem seal_toolong {w : World} {B g : Nat} {root : List UInt8} {mv mg nv ng : Nat} {VM GM : DataW Unit} {k : Nat} (h : TreeAt w B g root mv mg nv ng VM GM k) (t u : ByteArray) (ht : t.size ≤ 100 ∧ nameB t.data.toList = true) (hu : u.size ≤ 100 ∧ nameB u.data.toList = true) (kl : Lit) (hk : Go.keyOf Tryd.prog 61 (.agg #[.string t, .string u]) = some kl) (c : Nat) (hc : VerIs VM kl (c : Int)) (h1 : 1 ≤ c) (h16 : c ≤ 200) (hb : Maps.has GM (.string t.data.toList) = false) (hke : keyErr [t, u, txtJ c] = 0) (hk9 : k ≤ 1000) (a : Option Addr) (n cap : Nat) (hl : 1024 < n) (hT : TabAt w) (hKA : KAt w) :
    Calls Tryd.prog 13 #[.pointer (some ⟨g, 0, none⟩), .string t, .string u, .slice a n cap] w fun e w' => e = .returned (.tuple #[.slice none 0 0, .int .i64 6]) ∧ Below w.heap.size w w' := by
  obtain ⟨Z, hZ⟩ : ∃ Z, Z = bvs (List.replicate 32 0) := ⟨_, rfl⟩
  have zh := (zero_of_info zero_hash).1
  rw [← hZ] at zh
  have hz : Hid (HV Z (List.replicate 32 0)) := by
    show HV _ _
    rw [hZ]; exact hv_zero
  have zh := hid zh
  have HC := hid (current_any h t u ⟨by unfold maxLen; have := ht.1; omega, ht.2⟩ ⟨by unfold maxLen; have := hu.1; omega, hu.2⟩ kl hk (c : Int) hc false hb)
  have HKy := hid (fun (W : World) (hW : Below w.heap.size w W) => by have := key_ok (h.below hW) t u ht hu kl hk (c : Int) hc hb c h1 (Int.le_refl _) (by omega) (TabAt.belowJ hT hW) (hKA.below hW); rw [hke] at this; exact this)
  obtain ⟨key, hkey⟩ : ∃ key, key = derRes root [t, u, txtJ c] := ⟨_, rfl⟩
  rw [← hkey] at HKy
  have H := hid h
  have HKA := hid hKA
  have hcv : IntKind.u64.wrap (k : Int) = (k : Int) := by rw [IntKind.wrap_u64]; omega
  have Hcv := hid hcv
  have hc8 : ((UInt8.ofNat c).toNat : Int) = (c : Int) := by
    have : (UInt8.ofNat c).toNat = c := by simp; omega
    omega
  have Hc8 := hid hc8
  have g9 : ((k : Int) == 1099511627776) = false := by simp; omega
  clear h hc hb hk hZ hT hkey hKA hcv hc8 hke
  go_enter Tryd.func13, Tryd.ntmps13
  go_wp2_with (first
    | (go_at_call 9; refine HC.out.mono ?_; rintro _ w1 ⟨rfl, b1⟩; have B1 := hid b1; clear b1; unfold goneE; simp only [Bool.false_eq_true, if_false])
    | (go_at_call 10; refine (HKy.out w1 B1.out).mono ?_; rintro _ w2 ⟨O, rfl, hO, b2⟩; obtain rfl := hO.eq; have hlk := hid hO.len; have B2 := hid (Below.on' B1.out b2); have X2 : Hid ((w2.alloc (.cells Z 23)).heap[w2.heap.size]? = some (.cells Z 23 (0, 0))) := heap_alloc_new w2 _; have HI := hid hO.info; have HZ9 := hid (hz.out.size.trans hO.size.symm); have HO1 := hid hO.one; clear b2 hO)
    | (with_reducible show Go.wpList _ _ _ _ _ _; refine wpList_alloc_row rfl 23 rfl Z zh.out ?_)
    | (with_reducible show Go.wpList _ _ _ _ _ _; refine wpList_store_row rfl 23 _ _ rfl w2.heap.size (bvs key) rfl rfl 23 Z X2.out HI.out HZ9.out HO1.out ?_))
  obtain ⟨W3, hW3⟩ : ∃ W3, W3 = (w2.alloc (.cells Z 23)).setRow w2.heap.size (bvs key) := ⟨_, rfl⟩
  have b3 : Below w2.heap.size w2 W3 := by rw [hW3]; exact ((Below.refl _ w2).alloc (Nat.le_refl _) _).setRow (Nat.le_refl _) _
  have x3 : W3.heap[w2.heap.size]? = some (.cells (bvs key) 23 (0, 0)) := by rw [hW3]; exact setRow_heap _ _ _ _ _ _ X2.out
  rw [← hW3]
  obtain ⟨V0, hV0⟩ : ∃ V0, V0 = W3.drew := ⟨_, rfl⟩
  have b30 : Below W3.heap.size W3 V0 := by rw [hV0]; exact (Below.refl _ W3).drew
  have bw0 : Below w.heap.size w V0 := Below.on' (Below.on' B2.out b3) b30
  have hcall : Calls Tryd.prog 29 #[.agg (bvs key), .int .u64 (k : Int), .slice a n cap] V0 fun e w' => ∃ vv, e = .returned (.tuple #[vv, .int .i64 6]) ∧ vv = .slice none 0 0 ∧ Below V0.heap.size V0 w' := (seal_long ⟨rfl, hlk.out⟩ k n a cap hl).mono fun e w' h => ⟨_, h.1, rfl, h.2⟩
  refine wp_act _ fun A hA => ?_
  have sz : A.tmps.size = 66 := by rw [hA]; rfl
  have e0 : A.eval (.tmp 0) = .pointer (some ⟨g, 0, none⟩) := by rw [hA]; rfl
  have e3 : A.eval (.tmp 3) = .slice a n cap := by rw [hA]; rfl
  have e12 : A.eval (.tmp 12) = .pointer (some ⟨w2.heap.size, 0, none⟩) := by rw [hA]; rfl
  refine wp_split _ (seal_region7 (P := fun vv w' => vv = .slice none 0 0) sz e0 e3 e12 hlk.out Hcv.out hcall hV0 ⟨H.out.below bw0, (b30.block _ (heap_lt x3)).trans x3⟩) ?_
  rintro _ V4 ⟨vv, rfl, rfl, ⟨hT4, _⟩, b4⟩
  rw [hA]
  simp only [Act.put, List.setIfInBounds_toArray, List.set_cons_succ, List.set_cons_zero]
  have bw4 := hid (Below.on' bw0 b4)
  clear b4 bw0 b30 b3 hT4 hcall hA sz e0 e3 e12
  go_wp2
  go_ret2
  exact ⟨rfl, bw4.out⟩
theorem seal_gone {w : World} {B g : Nat} {root : List UInt8} {mv mg nv ng : Nat} {VM GM : DataW Unit} {k : Nat} (h : TreeAt w B g root mv mg nv ng VM GM k) (t u : ByteArray) (ht : t.size ≤ 100 ∧ nameB t.data.toList = true) (hu : u.size ≤ 100 ∧ nameB u.data.toList = true) (kl : Lit) (hk : Go.keyOf Tryd.prog 61 (.agg #[.string t, .string u]) = some kl) (c : Int) (hc : VerIs VM kl c) (hb : Maps.has GM (.string t.data.toList) = true) (v : Value) :
    Calls Tryd.prog 13 #[.pointer (some ⟨g, 0, none⟩), .string t, .string u, v] w fun e w' => e = .returned (.tuple #[.slice none 0 0, .int .i64 12]) ∧ Below w.heap.size w w' := by
  have HC := hid (current_any h t u ⟨by unfold maxLen; have := ht.1; omega, ht.2⟩ ⟨by unfold maxLen; have := hu.1; omega, hu.2⟩ kl hk c hc true hb)
  clear h hk hc hb
  go_enter Tryd.func13, Tryd.ntmps13
  go_wp2_with (go_at_call 9; refine HC.out.mono ?_; rintro _ w1 ⟨rfl, b1⟩; have B1 := hid b1; clear b1; unfold goneE; simp only [if_true])
  go_ret2
  exact ⟨rfl, B1.out⟩
theorem open_gone {w : World} {B g : Nat} {root : List UInt8} {mv mg nv ng : Nat} {VM GM : DataW Unit} {k : Nat} (h : TreeAt w B g root mv mg nv ng VM GM k) (t u : ByteArray) (ht : t.size ≤ 100 ∧ nameB t.data.toList = true) (hu : u.size ≤ 100 ∧ nameB u.data.toList = true) (kl : Lit) (hk : Go.keyOf Tryd.prog 61 (.agg #[.string t, .string u]) = some kl) (c : Int) (hc : VerIs VM kl c) (hb : Maps.has GM (.string t.data.toList) = true) (v : Value) :
    Calls Tryd.prog 16 #[.pointer (some ⟨g, 0, none⟩), .string t, .string u, v] w fun e w' => e = .returned (.tuple #[.slice none 0 0, .int .i64 0, .int .i64 12]) ∧ Below w.heap.size w w' := by
  have HC := hid (current_any h t u ⟨by unfold maxLen; have := ht.1; omega, ht.2⟩ ⟨by unfold maxLen; have := hu.1; omega, hu.2⟩ kl hk c hc true hb)
  clear h hk hc hb
  go_enter Tryd.func16, Tryd.ntmps16
  go_wp2_with (go_at_call 9; refine HC.out.mono ?_; rintro _ w1 ⟨rfl, b1⟩; have B1 := hid b1; clear b1; unfold goneE; simp only [if_true])
  go_ret3
  exact ⟨rfl, B1.out⟩
theorem texts1J (w : World) (t : ByteArray) : Texts (w.alloc (.cells #[.string t] 9)) (some ⟨w.heap.size, 0, none⟩) [t] := fun i hi => by
  refine ⟨w.heap.size, 0, rfl, ?_⟩
  rw [World.cell?_alloc_at _ _ _ _ rfl]
  match i, hi with
  | 0, _ => rfl
theorem reach1 {w : World} {B g : Nat} {root : List UInt8} {mv mg nv ng : Nat} {VM GM : DataW Unit} {k : Nat} (h : TreeAt w B g root mv mg nv ng VM GM k) (t : ByteArray) (ht : t.size ≤ 100 ∧ nameB t.data.toList = true) (b : Bool) (hb : Maps.has GM (.string t.data.toList) = b) :
    Calls Tryd.prog 25 #[.pointer (some ⟨g, 0, none⟩), .string t, .slice (some ⟨w.heap.size, 0, none⟩) 1 1] (w.alloc (.cells #[.string t] 9)) fun e w' => e = .returned (.int .i64 (goneE b)) ∧ Below w.heap.size w w' := by
  have b0 : Below w.heap.size w (w.alloc (.cells #[.string t] 9)) := (Below.refl _ w).alloc (Nat.le_refl _) _
  refine (reach_any (h.below b0) t (by unfold maxLen; have := ht.1; omega) [t] (some ⟨w.heap.size, 0, none⟩) 1 1 rfl (texts1J w t) (by simp) (fun s hs => by simp at hs; subst hs; exact ⟨by unfold maxLen; have := ht.1; omega, ht.2⟩) b hb).mono ?_
  rintro _ w1 ⟨rfl, b1⟩
  exact ⟨rfl, Below.on' b0 b1⟩
theorem destroy_gone {w : World} {B g : Nat} {root : List UInt8} {mv mg nv ng : Nat} {VM GM : DataW Unit} {k : Nat} (h : TreeAt w B g root mv mg nv ng VM GM k) (t : ByteArray) (ht : t.size ≤ 100 ∧ nameB t.data.toList = true) (hb : Maps.has GM (.string t.data.toList) = true) :
    Calls Tryd.prog 12 #[.pointer (some ⟨g, 0, none⟩), .string t] w fun e w' => e = .returned (.int .i64 12) ∧ Below w.heap.size w w' := by
  have HR := hid (reach1 h t ht true hb)
  clear h hb
  go_enter Tryd.func12, Tryd.ntmps12
  go_wp2_with (go_at_call 25; refine HR.out.mono ?_; rintro _ w1 ⟨rfl, b1⟩; have B1 := hid b1; clear b1; unfold goneE; simp only [if_true])
  go_ret
  exact ⟨rfl, B1.out⟩
def DesPost (w : World) (B g : Nat) (root : List UInt8) (mv mg nv ng : Nat) (VM GM : DataW Unit) (k : Nat) (t : ByteArray) (e : Ending) (w' : World) : Prop := e = .returned (.int .i64 0) ∧ TreeAt w' B g root mv mg nv (ng + 1) VM (GM.put (.string t.data.toList) (.agg [])) k ∧ OutJ (fun j => j = mg) w w'
set_option maxHeartbeats 4000000 in
theorem destroy_new {w : World} {B g : Nat} {root : List UInt8} {mv mg nv ng : Nat} {GM : DataW Unit} {k : Nat} (h : TreeAt w B g root mv mg nv ng (.map []) GM k) (t : ByteArray) (ht : t.size ≤ 100 ∧ nameB t.data.toList = true) (hb : Maps.has GM (.string t.data.toList) = false) (hsz : Maps.size GM < 16) (hng : ng ≤ 1000) (hne : mv ≠ mg) :
    Calls Tryd.prog 12 #[.pointer (some ⟨g, 0, none⟩), .string t] w (DesPost w B g root mv mg nv ng (.map []) GM k t) := by
  have HR := hid (reach1 h t ht false hb)
  have H := hid h
  have g2 : ((Maps.size GM : Int) == 16) = false := by simp; omega
  have hkl := Go.WideMaps.keyOf_string_mk Tryd.underlying9 (s := t) (by unfold maxLen; have := ht.1; omega)
  have Hk := hid hkl
  have Hne := hid hne
  have Hng := hid hng
  clear h hb hsz hkl hne hng
  go_enter Tryd.func12, Tryd.ntmps12
  go_wp2_with (first
    | (go_at_call 25; refine HR.out.mono ?_; rintro _ w1 ⟨rfl, b1⟩; have B1 := hid b1; have hT1 := H.out.below b1; have c33 := hT1.c33; have hlen := hT1.gm.len Tryd.underlying48 3; have HT1 := hid hT1; clear b1 hT1; unfold goneE; simp only [Bool.false_eq_true, if_false])
    | (at_mapUpdate; refine wpList_mapUpdate_own _ rfl _ _ _ 48 rfl 9 64 lawStr Tryd.underlying48 _ mg ng GM rfl HT1.out.gm (by unfold maxLen; have := Hng.out; omega) _ _ _ rfl rfl Hk.out _ [] unitElem_mk ?_; intro w2 hown2 hg2; have hT2 : TreeAt w2 B g root mv mg nv (ng + 1) (.map []) (GM.put (.string t.data.toList) (.agg [])) k := ⟨(hg2.block g HT1.out.lt (fun e => HT1.out.mvne.2 (Option.some.inj e).symm)).trans HT1.out.obj, HT1.out.vm.kept hg2 (fun e => Hne.out (Option.some.inj e)), hown2, HT1.out.len, HT1.out.bg, HT1.out.bv, HT1.out.bm⟩; have O2 : Hid (OutJ (fun j => j = mg) w w2) := (OutJ.of_below B1.out).trans ⟨hg2.os, hg2.tape, hg2.output, hg2.size, fun j hj hp => hg2.block j hj (fun e => hp (Option.some.inj e))⟩; have c32 := hT2.c32; have HT2 := hid hT2; clear hown2 hg2 hT2)
    | (at_range; refine wpList_range_own _ rfl _ 47 rfl 61 3 lawPlace Tryd.underlying47 _ mv nv _ rfl HT2.out.vm ?_; intro w3 hrg3 hg3 hs3)
    | go_in)
  go_frame
  have HT3 : Hid (TreeAt w3 B g root mv mg nv (ng + 1) (.map []) (GM.put (.string t.data.toList) (.agg [])) k) := ⟨(hg3.block g HT2.out.lt (by simp)).trans HT2.out.obj, HT2.out.vm.kept hg3 (by simp), HT2.out.gm.kept hg3 (by simp), HT2.out.len, HT2.out.bg, HT2.out.bv, HT2.out.bm⟩
  have O3 : Hid (OutJ (fun j => j = mg) w w3) := O2.out.trans ⟨hg3.os, hg3.tape, hg3.output, hg3.size, fun j hj hp => hg3.block j hj (by simp)⟩
  go_loopw [6] (fun v wr => wr = w3) (fun _ _ => 0)
  case atStart => exact rfl
  case round =>
    obtain rfl := hrel
    go_wp2_with (first
      | (at_next; refine wpList_next_ranges (α := Value) (β := Value) _ rfl _ rfl 61 lawPlace (plainElem Tryd.prog 3) (fun x => x) (fun x => x) (fun key kl _ => ⟨key, rfl⟩) (fun v y _ => ⟨v, rfl⟩) mv w2.heap.size nv _ _ _ rfl hrg3 ?_ ?_)
      | go_in)
    · intro _ _
      go_wp2
      go_ret
      exact ⟨rfl, HT3.out, O3.out⟩
    · intro _ _ _ _ _ _ _ _ hl
      exact Bool.noConfusion (show false = true from hl)
end Go.Proofs.YtdglmoikgmlaaaaDoor

/- The keys of the map of versions, for any two texts; names that may not be. -/
namespace Go.Proofs.YtdglmoikgmlaaaaDoor
open Go.RowKit Go.Maps
set_option linter.unusedVariables false
set_option maxRecDepth 20000
/-- the key at two texts -/
def keyP (t u : ByteArray) : Lit := .string (Go.keyBytes [.string t.data.toList, .string u.data.toList])
theorem typesJ : ∃ m, Tryd.prog.types.size = m + 1 := ⟨Tryd.prog.types.size - 1, by kernel_rfl⟩
theorem keyTypeJ : Tryd.prog.keyType 61 = true := by kernel_rfl
theorem cellsPlace : Tryd.prog.cellsOf 61 = 2 := by kernel_rfl
theorem cellsStr : Tryd.prog.cellsOf 9 = 1 := by kernel_rfl
theorem keyLits_str (m : Nat) (s : ByteArray) (h : s.size ≤ maxLen) : Tryd.prog.keyLits (m + 1) 9 [.string s] = some [.string s.data.toList] := by
  unfold Program.keyLits
  simp only [Tryd.underlying9, h, if_true]
theorem keyLits_str_inv (m : Nat) (cs : List Value) (ls : List Lit) (h : Tryd.prog.keyLits (m + 1) 9 cs = some ls) : ∃ s : ByteArray, cs = [.string s] ∧ s.size ≤ maxLen ∧ ls = [.string s.data.toList] := by
  unfold Program.keyLits at h
  simp only [Tryd.underlying9] at h
  split at h <;> simp_all
theorem formedJ (t u : ByteArray) : Value.formed Tryd.prog 61 (.agg #[.string t, .string u]) = true := by kernel_rfl
theorem keyOf_place (t u : ByteArray) (ht : t.size ≤ maxLen) (hu : u.size ≤ maxLen) : Go.keyOf Tryd.prog 61 (.agg #[.string t, .string u]) = some (keyP t u) := by
  obtain ⟨m, hm⟩ := typesJ
  unfold Go.keyOf
  rw [hm]
  simp only [Tryd.underlying61, keyTypeJ, formedJ, Bool.and_self, if_true]
  unfold Program.keyLits
  simp only [Tryd.underlying61, cellsPlace, Value.cells]
  rw [if_pos ⟨rfl, by decide +kernel⟩]
  simp [List.mapM_cons, cellsStr, keyLits_str m _ ht, keyLits_str m _ hu, keyP]
theorem place_inv {v : Value} {l : Lit} (h : Go.keyOf Tryd.prog 61 v = some l) : ∃ t u : ByteArray, v = .agg #[.string t, .string u] ∧ l = keyP t u ∧ t.size ≤ maxLen ∧ u.size ≤ maxLen := by
  obtain ⟨m, hm⟩ := typesJ
  unfold Go.keyOf at h
  rw [hm] at h
  simp only [Tryd.underlying61, keyTypeJ, Bool.true_and] at h
  split at h
  · rename_i hf
    unfold Program.keyLits at h
    simp only [Tryd.underlying61, cellsPlace] at h
    split at h
    · rename_i hc
      obtain ⟨hc1, _⟩ := hc
      obtain ⟨xs, rfl⟩ : ∃ xs, v = .agg xs := by
        cases v <;> simp [Value.cells] at hc1 <;> exact ⟨_, rfl⟩
      simp only [Value.cells] at h hc1
      obtain ⟨x0, x1, hx⟩ : ∃ x0 x1, xs = #[x0, x1] := by
        obtain ⟨l⟩ := xs
        simp only at hc1
        match l, hc1 with
        | [a, b], _ => exact ⟨a, b, rfl⟩
      subst hx
      simp only [List.mapM_cons, List.mapM_nil, bind, pure, cellsStr, List.drop_zero, List.drop_succ_cons, List.take_succ_cons, List.take_zero, Option.map_eq_some_iff, Option.bind_eq_some_iff, Option.some.injEq] at h
      obtain ⟨ls, ⟨lss, ⟨a, ha, bs, ⟨b, hb, cs, hcs, rfl⟩, rfl⟩, rfl⟩, rfl⟩ := h
      obtain ⟨t, e1, h1, rfl⟩ := keyLits_str_inv _ _ _ ha
      obtain ⟨u, e2, h2, rfl⟩ := keyLits_str_inv _ _ _ hb
      simp at e1 e2
      subst e1 e2
      subst hcs
      exact ⟨t, u, rfl, rfl, h1, h2⟩
    · cases h
  · cases h
end Go.Proofs.YtdglmoikgmlaaaaDoor

/- reach, Current, of any names. -/
namespace Go.Proofs.YtdglmoikgmlaaaaDoor
open Go.RowKit Go.Maps
set_option linter.unusedVariables false
set_option maxRecDepth 20000
def okN (s : ByteArray) : Bool := nameB s.data.toList
theorem okN_len {s : ByteArray} (h : okN s = true) : s.size ≤ 9 := by
  unfold okN nameB at h
  simp at h
  have : s.data.toList.length = s.size := by simp
  simp at this
  omega
set_option maxHeartbeats 2000000 in
theorem reach_bad {w : World} {g : Nat} (t : ByteArray) (l : List ByteArray) (a : Option Addr) (m cap : Nat) (hm : m = l.length) (hl : Texts w a l) (hl9 : l.length ≤ 100) (hs : ∀ s ∈ l, s.size ≤ maxLen) (hb : l.all okN = false) :
    Calls Tryd.prog 25 #[.pointer (some ⟨g, 0, none⟩), .string t, .slice a m cap] w fun e w' => e = .returned (.int .i64 8) ∧ w' = w := by
  have Hl := hid hl
  have Hs := hid hs
  have Hm := hid hm
  have Hb := hid hb
  have hm9 : m ≤ 100 := by omega
  clear hl hs hm hb
  go_enter Tryd.func25, Tryd.ntmps25
  go_wp2
  go_loopw [15] (fun i wr => ∃ k : Nat, k ≤ m ∧ i = .int .i64 (k : Int) ∧ wr = w ∧ (l.take k).all okN = true) (fun i _ => m - (intOf i).toNat)
  case atStart => exact ⟨0, Nat.zero_le _, rfl, rfl, rfl⟩
  case round =>
    obtain ⟨k, hk, rfl, rfl, hpre⟩ := hrel
    by_cases hlt : k < m
    · have g1 : decide ((k : Int) < (m : Int)) = true := by simp; omega
      have hkl : k < l.length := by have := Hm.out; omega
      obtain ⟨bb, oo, rfl, hc⟩ := Hl.out k hkl
      have s1 := Hs.out _ (List.getElem_mem hkl)
      have hstep : (l.take (k + 1)).all okN = okN l[k] := by
        rw [List.take_succ_eq_append_getElem hkl, List.all_append, hpre]
        simp
      have Hstep := hid hstep
      clear hstep hpre
      generalize l[k] = s at *
      have HN := isName_any s wr s1
      rw [show nameB s.data.toList = okN s from rfl] at HN
      by_cases s2 : okN s = true
      · rw [s2] at HN
        go_wp2_with (go_at_call 38; refine HN.mono ?_; rintro _ w9 ⟨rfl, e9⟩; subst w9)
        go_roundw
        case rel => exact ⟨k + 1, by omega, by go_num, by first | rfl | trivial, Hstep.out.trans s2⟩
        case measure => simp [intOf]; omega
      · rw [Bool.eq_false_iff.2 s2] at HN
        clear s2
        go_wp2_with (go_at_call 38; refine HN.mono ?_; rintro _ w9 ⟨rfl, e9⟩; subst w9)
        go_ret
        exact ⟨rfl, rfl⟩
    · exfalso
      have := Hm.out
      have := Hb.out
      rw [List.take_of_length_le (by omega)] at hpre
      rw [hpre] at this
      cases this
set_option maxHeartbeats 2000000 in
theorem current_bad {w : World} {g : Nat} (t u : ByteArray) (ht : t.size ≤ maxLen) (hu : u.size ≤ maxLen) (hb : (okN t && okN u) = false) :
    Calls Tryd.prog 9 #[.pointer (some ⟨g, 0, none⟩), .string t, .string u] w fun e w' => e = .returned (.tuple #[.int .i64 0, .int .i64 8]) ∧ Below w.heap.size w w' := by
  have htx : Texts (w.alloc (.cells #[.string t, .string u] 9)) (some ⟨w.heap.size, 0, none⟩) [t, u] := fun i hi => by
    refine ⟨w.heap.size, 0, rfl, ?_⟩
    rw [World.cell?_alloc_at _ _ _ _ rfl]
    match i, hi with
    | 0, _ => rfl
    | 1, _ => rfl
  have HR := hid (reach_bad (g := g) t [t, u] (some ⟨w.heap.size, 0, none⟩) 2 2 rfl htx (by simp) (fun s hs => by simp at hs; rcases hs with rfl | rfl; exact ht; exact hu) (by simpa using hb))
  clear htx hb ht hu
  go_enter Tryd.func9, Tryd.ntmps9
  go_wp2_with (go_at_call 25; refine HR.out.mono ?_; rintro _ w1 ⟨rfl, e1⟩; subst w1)
  go_ret2
  exact ⟨rfl, (Below.refl _ w).alloc (Nat.le_refl _) _⟩
end Go.Proofs.YtdglmoikgmlaaaaDoor

/- A tree of keys as mathematics: versions, tenants that are gone, how many texts were sealed; what the two maps hold of it. -/
namespace Go.Proofs.YtdglmoikgmlaaaaDoor
open Go.RowKit Go.Maps
set_option linter.unusedVariables false
structure TS where
  vs : List ((ByteArray × ByteArray) × Nat)
  gs : List ByteArray
  n : Nat
def isAt (t u : ByteArray) (p : (ByteArray × ByteArray) × Nat) : Bool := decide (p.1 = (t, u))
def verOf (vs : List ((ByteArray × ByteArray) × Nat)) (t u : ByteArray) : Nat := ((vs.find? (isAt t u)).map (·.2)).getD 1
def isIn (gs : List ByteArray) (t : ByteArray) : Bool := gs.any fun x => decide (x = t)
theorem isIn_iff {gs : List ByteArray} {t : ByteArray} : isIn gs t = true ↔ t ∈ gs := by
  unfold isIn
  rw [List.any_eq_true]
  exact ⟨fun ⟨x, hx, e⟩ => of_decide_eq_true e ▸ hx, fun h => ⟨t, h, decide_eq_true rfl⟩⟩
/-- Current -/
def TS.cur (s : TS) (t u : ByteArray) : Nat × Nat := if (okN t && okN u) = true then (if isIn s.gs t = true then (0, 12) else (verOf s.vs t u, 0)) else (0, 8)
structure TS.Ok (s : TS) : Prop where
  names : ∀ p ∈ s.vs, okN p.1.1 = true ∧ okN p.1.2 = true ∧ 2 ≤ p.2 ∧ p.2 ≤ 16 ∧ p.1.1 ∉ s.gs
  nodup : (s.vs.map (·.1)).Nodup
  gnames : ∀ t ∈ s.gs, okN t = true
  gnodup : s.gs.Nodup
  few : s.vs.length ≤ 16
  gfew : s.gs.length ≤ 16
theorem verOf_ok {s : TS} (h : s.Ok) (t u : ByteArray) : 1 ≤ verOf s.vs t u ∧ verOf s.vs t u ≤ 16 := by
  unfold verOf
  cases hf : s.vs.find? (isAt t u) with
  | none => simp
  | some p => have := h.names p (List.mem_of_find?_eq_some hf); simp; omega
theorem okN_max {t : ByteArray} (h : okN t = true) : t.size ≤ maxLen := by have := okN_len h; unfold maxLen; omega
theorem keyP_inj {t u t' u' : ByteArray} (ht : t.size ≤ maxLen) (hu : u.size ≤ maxLen) (ht' : t'.size ≤ maxLen) (hu' : u'.size ≤ maxLen) (h : keyP t u = keyP t' u') : (t, u) = (t', u') := by
  have := lawPlace.inj (keyOf_place t u ht hu) (h ▸ keyOf_place t' u' ht' hu')
  simp at this
  rw [this.1, this.2]
theorem keyP_lit (t u : ByteArray) : WideAt.IsKeyLit (keyP t u) := True.intro
structure VRel (V : DataW Unit) (vs : List ((ByteArray × ByteArray) × Nat)) : Prop where
  tidy : Tidy V
  has : ∀ t u : ByteArray, t.size ≤ maxLen → u.size ≤ maxLen → Maps.has V (keyP t u) = vs.any (isAt t u)
  at' : ∀ p ∈ vs, V.atKey (keyP p.1.1 p.1.2) (.lit (.int .i64 0)) = .lit (.int .i64 (p.2 : Int))
  size : Maps.size V = vs.length
structure GRel (G : DataW Unit) (gs : List ByteArray) : Prop where
  tidy : Tidy G
  has : ∀ t : ByteArray, Maps.has G (.string t.data.toList) = isIn gs t
  size : Maps.size G = gs.length
theorem vrel_new : VRel (.map []) [] := ⟨tidy_empty, fun _ _ _ _ => rfl, (fun p hp => nomatch hp), rfl⟩
theorem grel_new : GRel (.map []) [] := ⟨tidy_empty, fun _ => rfl, rfl⟩
theorem VRel.ver {V : DataW Unit} {vs : List ((ByteArray × ByteArray) × Nat)} (h : VRel V vs) (t u : ByteArray) (ht : t.size ≤ maxLen) (hu : u.size ≤ maxLen) : VerIs V (keyP t u) (verOf vs t u : Int) := by
  unfold VerIs verOf
  cases hf : vs.find? (isAt t u) with
  | none =>
    refine Or.inr ⟨?_, rfl⟩
    rw [h.has t u ht hu, List.any_eq_false]
    exact fun p hp => by simpa using List.find?_eq_none.1 hf p hp
  | some p =>
    have hm := List.mem_of_find?_eq_some hf
    have hp : isAt t u p = true := List.find?_some hf
    have e : p.1 = (t, u) := of_decide_eq_true hp
    refine Or.inl ⟨?_, ?_⟩
    · rw [h.has t u ht hu, List.any_eq_true]
      exact ⟨p, hm, hp⟩
    · have := h.at' p hm
      rw [e] at this
      exact this
/-- Rotate: the one that is rotated stands last -/
def rotV (vs : List ((ByteArray × ByteArray) × Nat)) (t u : ByteArray) (c : Nat) : List ((ByteArray × ByteArray) × Nat) := vs.filter (fun p => !isAt t u p) ++ [((t, u), c)]
theorem rotV_length {vs : List ((ByteArray × ByteArray) × Nat)} (hn : (vs.map (·.1)).Nodup) (t u : ByteArray) (c : Nat) : (rotV vs t u c).length = if vs.any (isAt t u) then vs.length else vs.length + 1 := by
  have key : (vs.filter (fun p => !isAt t u p)).length + (if vs.any (isAt t u) then 1 else 0) = vs.length := by
    induction vs with
    | nil => rfl
    | cons p vs ih =>
      have hn' : (p.1 :: vs.map (·.1)).Nodup := by simpa using hn
      obtain ⟨h1, h2⟩ := List.nodup_cons.1 hn'
      have ih' := ih h2
      rw [List.filter_cons, List.any_cons, List.length_cons]
      by_cases hp : isAt t u p = true
      · have hz : vs.any (isAt t u) = false := by
          rw [List.any_eq_false]
          intro q hq he
          exact h1 (List.mem_map.2 ⟨q, hq, (of_decide_eq_true he).trans (of_decide_eq_true hp).symm⟩)
        rw [hz] at ih'
        rw [hp, hz]
        simp only [Bool.not_true, Bool.false_eq_true, if_false, Bool.or_false, if_true] at ih' ⊢
        omega
      · have hp' : isAt t u p = false := by simpa using hp
        rw [hp']
        simp only [Bool.not_false, if_true, Bool.false_or, List.length_cons]
        omega
  unfold rotV
  rw [List.length_append, List.length_singleton]
  by_cases hb : vs.any (isAt t u) = true
  · rw [if_pos hb] at key ⊢
    exact key
  · rw [if_neg hb] at key ⊢
    omega
theorem VRel.rot {V : DataW Unit} {s : TS} (h : VRel V s.vs) (ok : s.Ok) (t u : ByteArray) (ht : t.size ≤ maxLen) (hu : u.size ≤ maxLen) (c : Nat) : VRel (V.put (keyP t u) (.lit (.int .i64 (c : Int)))) (rotV s.vs t u c) := by
  refine ⟨h.tidy.put (keyP_lit t u) _, fun t' u' ht' hu' => ?_, fun p hp => ?_, ?_⟩
  · by_cases e : (t', u') = (t, u)
    · obtain ⟨rfl, rfl⟩ := Prod.mk.inj e
      rw [has_put_same h.tidy.isMap (keyP_lit _ _)]
      unfold rotV isAt
      simp
    · rw [has_put_other (fun e' => e (keyP_inj ht' hu' ht hu e')), h.has t' u' ht' hu']
      unfold rotV
      rw [List.any_append]
      have h1 : ([((t, u), c)] : List ((ByteArray × ByteArray) × Nat)).any (isAt t' u') = false := by
        unfold isAt
        simp only [List.any_cons, List.any_nil, Bool.or_false, decide_eq_false_iff_not]
        exact fun e' => e e'.symm
      rw [h1, Bool.or_false]
      exact (any_filter_keep (fun p hp => by
        unfold isAt at hp ⊢
        have := of_decide_eq_true hp
        simp only [Bool.not_eq_true', decide_eq_false_iff_not]
        exact fun e' => e (this.symm.trans e')) _).symm
  · unfold rotV at hp
    rcases List.mem_append.1 hp with hp | hp
    · obtain ⟨hm, hne⟩ := List.mem_filter.1 hp
      have hne' : p.1 ≠ (t, u) := by unfold isAt at hne; simpa using hne
      obtain ⟨n1, n2, _⟩ := ok.names p hm
      rw [atKey_put_other (fun e' => hne' (keyP_inj (okN_max n1) (okN_max n2) ht hu e'))]
      exact h.at' p hm
    · obtain rfl := List.mem_singleton.1 hp
      exact atKey_put_same h.tidy.isMap (keyP_lit _ _) _ _
  · rw [size_put h.tidy, rotV_length ok.nodup, h.has t u ht hu, h.size]
def TS.rot (s : TS) (t u : ByteArray) (c : Nat) : TS := { s with vs := rotV s.vs t u c }
theorem TS.Ok.rot {s : TS} (ok : s.Ok) (t u : ByteArray) (ht : okN t = true) (hu : okN u = true) (hg : t ∉ s.gs) (c : Nat) (h2 : 2 ≤ c) (h16 : c ≤ 16) (hf : (rotV s.vs t u c).length ≤ 16) : (s.rot t u c).Ok := by
  refine ⟨fun p hp => ?_, ?_, ok.gnames, ok.gnodup, hf, ok.gfew⟩
  · unfold TS.rot rotV at hp
    rcases List.mem_append.1 hp with hp | hp
    · exact ok.names p (List.mem_filter.1 hp).1
    · obtain rfl := List.mem_singleton.1 hp
      exact ⟨ht, hu, h2, h16, hg⟩
  · show ((rotV s.vs t u c).map (·.1)).Nodup
    unfold rotV
    rw [List.map_append, List.nodup_append]
    refine ⟨ok.nodup.sublist (List.filter_sublist.map _), by simp, fun x hx y hy e => ?_⟩
    obtain ⟨p, hp, rfl⟩ := List.mem_map.1 hx
    have hne := (List.mem_filter.1 hp).2
    simp at hy
    rw [hy] at e
    unfold isAt at hne
    simp at hne
    exact hne e
end Go.Proofs.YtdglmoikgmlaaaaDoor

/- Current and Rotate of any names, over a tree as mathematics. -/
namespace Go.Proofs.YtdglmoikgmlaaaaDoor
open Go.RowKit Go.Maps
set_option linter.unusedVariables false
set_option maxRecDepth 20000
/-- a tree in memory, and what it holds; d: so many keys were put at most -/
def TreeM (w : World) (B g mv mg : Nat) (root : List UInt8) (s : TS) (d : Nat) : Prop := s.Ok ∧ mv ≠ mg ∧ ∃ nv ng V G, TreeAt w B g root mv mg nv ng V G s.n ∧ VRel V s.vs ∧ GRel G s.gs ∧ nv ≤ d ∧ ng ≤ d
/-- the blocks of a tree -/
def Mine (g mv mg : Nat) (j : Nat) : Prop := j = g ∨ j = mv ∨ j = mg
section
variable {w w' : World} {B g mv mg : Nat} {root : List UInt8} {s : TS} {d : Nat}
theorem TreeM.below (h : TreeM w B g mv mg root s d) (hb : Below w.heap.size w w') : TreeM w' B g mv mg root s d := by
  obtain ⟨ok, hne, nv, ng, V, G, h1, h2⟩ := h
  exact ⟨ok, hne, nv, ng, V, G, h1.below hb, h2⟩
theorem OutJ.mono {P Q : Nat → Prop} (h : OutJ P w w') (hpq : ∀ k, P k → Q k) : OutJ Q w w' := ⟨h.os, h.tape, h.output, h.size, fun k hk hq => h.block k hk (fun hp => hq (hpq k hp))⟩
theorem current_m (h : TreeM w B g mv mg root s d) (t u : ByteArray) (ht : t.size ≤ maxLen) (hu : u.size ≤ maxLen) :
    Calls Tryd.prog 9 #[.pointer (some ⟨g, 0, none⟩), .string t, .string u] w fun e w' => e = .returned (.tuple #[.int .i64 ((s.cur t u).1 : Int), .int .i64 ((s.cur t u).2 : Int)]) ∧ Below w.heap.size w w' := by
  obtain ⟨ok, hne, nv, ng, V, G, h1, hV, hG, _⟩ := h
  unfold TS.cur
  by_cases hn : (okN t && okN u) = true
  · rw [if_pos hn]
    obtain ⟨n1, n2⟩ := (Bool.and_eq_true _ _).mp hn
    refine (current_any h1 t u ⟨ht, n1⟩ ⟨hu, n2⟩ (keyP t u) (keyOf_place t u ht hu) _ (hV.ver t u ht hu) (isIn s.gs t) (hG.has t)).mono fun e w' h => ?_
    obtain ⟨rfl, hb⟩ := h
    refine ⟨?_, hb⟩
    unfold goneE
    cases isIn s.gs t <;> rfl
  · rw [if_neg hn]
    exact current_bad t u ht hu (by simpa using hn)
/-- Rotate -/
def TS.rotR (s : TS) (t u : ByteArray) : TS × (Nat × Nat) :=
  if (s.cur t u).2 ≠ 0 then (s, (0, (s.cur t u).2))
  else if (s.cur t u).1 = 16 ∨ ((s.cur t u).1 = 1 ∧ s.vs.length = 16) then (s, (0, 7))
  else (s.rot t u ((s.cur t u).1 + 1), ((s.cur t u).1 + 1, 0))
set_option maxHeartbeats 1000000 in
theorem rotate_err {w : World} {g : Nat} (t u : ByteArray) (z c : Int) (hc : c ≠ 0) (H : Calls Tryd.prog 9 #[.pointer (some ⟨g, 0, none⟩), .string t, .string u] w fun e w' => e = .returned (.tuple #[.int .i64 z, .int .i64 c]) ∧ Below w.heap.size w w') :
    Calls Tryd.prog 11 #[.pointer (some ⟨g, 0, none⟩), .string t, .string u] w fun e w' => e = .returned (.tuple #[.int .i64 0, .int .i64 c]) ∧ Below w.heap.size w w' := by
  have q0 : (c != 0) = true := by simpa using hc
  go_enter Tryd.func11, Tryd.ntmps11
  go_wp2_with (go_at_call 9; refine H.mono ?_; rintro _ w1 ⟨rfl, b1⟩)
  go_ret2
  exact ⟨rfl, b1⟩
set_option maxHeartbeats 2000000 in
theorem rotate_full {w : World} {B g : Nat} {root : List UInt8} {mv mg nv ng : Nat} {VM GM : DataW Unit} {k : Nat} (h : TreeAt w B g root mv mg nv ng VM GM k) (t u : ByteArray) (c : Nat) (hf : c = 16 ∨ (c = 1 ∧ Maps.size VM = 16)) (HC : Calls Tryd.prog 9 #[.pointer (some ⟨g, 0, none⟩), .string t, .string u] w fun e w' => e = .returned (.tuple #[.int .i64 (c : Int), .int .i64 0]) ∧ Below w.heap.size w w') :
    Calls Tryd.prog 11 #[.pointer (some ⟨g, 0, none⟩), .string t, .string u] w fun e w' => e = .returned (.tuple #[.int .i64 0, .int .i64 7]) ∧ Below w.heap.size w w' := by
  have H := hid h
  clear h
  rcases hf with rfl | ⟨rfl, hsz⟩
  · go_enter Tryd.func11, Tryd.ntmps11
    go_wp2_with (go_at_call 9; refine HC.mono ?_; rintro _ w1 ⟨rfl, b1⟩)
    go_ret2
    exact ⟨rfl, b1⟩
  · have g2 : ((Maps.size VM : Int) == 16) = true := by simp; omega
    go_enter Tryd.func11, Tryd.ntmps11
    go_wp2_with (go_at_call 9; refine HC.mono ?_; rintro _ w1 ⟨rfl, b1⟩; have hT1 := H.out.below b1; have c32 := hT1.c32; have hlen := hT1.vm.len Tryd.underlying47 3; have B1 := hid b1; clear b1 hT1)
    go_ret2
    exact ⟨rfl, B1.out⟩
theorem rotate_m (h : TreeM w B g mv mg root s d) (hd : d ≤ 900) (t u : ByteArray) (ht : t.size ≤ maxLen) (hu : u.size ≤ maxLen) :
    Calls Tryd.prog 11 #[.pointer (some ⟨g, 0, none⟩), .string t, .string u] w fun e w' => e = .returned (.tuple #[.int .i64 ((s.rotR t u).2.1 : Int), .int .i64 ((s.rotR t u).2.2 : Int)]) ∧ TreeM w' B g mv mg root (s.rotR t u).1 (d + 1) ∧ OutJ (Mine g mv mg) w w' := by
  have HC := current_m h t u ht hu
  have up : ∀ w', Below w.heap.size w w' → TreeM w' B g mv mg root s (d + 1) := fun w' hb => by
    obtain ⟨ok, hne, nv, ng, V, G, h1, hV, hG, l1, l2⟩ := h
    exact ⟨ok, hne, nv, ng, V, G, h1.below hb, hV, hG, by omega, by omega⟩
  unfold TS.rotR
  by_cases he : (s.cur t u).2 ≠ 0
  · rw [if_pos he]
    refine (rotate_err t u _ _ (by omega) HC).mono fun e w' h9 => ?_
    exact ⟨h9.1, up w' h9.2, OutJ.of_below h9.2⟩
  · rw [if_neg he]
    have he0 : (s.cur t u).2 = 0 := by omega
    rw [he0] at HC
    obtain ⟨ok, hne, nv, ng, V, G, h1, hV, hG, l1, l2⟩ := h
    by_cases hf : (s.cur t u).1 = 16 ∨ ((s.cur t u).1 = 1 ∧ s.vs.length = 16)
    · rw [if_pos hf]
      refine (rotate_full h1 t u _ (by rw [hV.size]; exact hf) HC).mono fun e w' h9 => ?_
      exact ⟨h9.1, up w' h9.2, OutJ.of_below h9.2⟩
    · rw [if_neg hf]
      have hn : (okN t && okN u) = true := by
        by_cases hn : (okN t && okN u) = true
        · exact hn
        · unfold TS.cur at he0; rw [if_neg hn] at he0; cases he0
      obtain ⟨n1, n2⟩ := (Bool.and_eq_true _ _).mp hn
      have hg : isIn s.gs t = false := by
        cases hg : isIn s.gs t with
        | false => rfl
        | true => unfold TS.cur at he0; rw [if_pos hn, if_pos hg] at he0; cases he0
      have hc : (s.cur t u).1 = verOf s.vs t u := by unfold TS.cur; rw [if_pos hn, if_neg (by rw [hg]; simp)]
      rw [hc] at hf ⊢
      obtain ⟨v1, v2⟩ := verOf_ok ok t u
      have hlen := rotV_length ok.nodup t u (verOf s.vs t u + 1)
      have hfew := ok.few
      have hv1 : s.vs.any (isAt t u) = false → verOf s.vs t u = 1 := fun ha => by
        unfold verOf
        rw [List.find?_eq_none.2 (fun p hp => by have := List.any_eq_false.1 ha p hp; simpa using this)]
        rfl
      have hl16 : (rotV s.vs t u (verOf s.vs t u + 1)).length ≤ 16 := by
        rw [hlen]
        cases ha : s.vs.any (isAt t u) with
        | true => simp; exact hfew
        | false => have := hv1 ha; simp; omega
      refine (rotate_ok h1 t u ⟨by have := okN_len n1; omega, n1⟩ ⟨by have := okN_len n2; omega, n2⟩ (keyP t u) (keyOf_place t u ht hu) _ (hV.ver t u ht hu) v1 (by omega) (by rw [hG.has, hg]) (fun h => by rw [hV.size]; omega) (by omega) hne).mono fun e w' h9 => ?_
      obtain ⟨rfl, h10, h11⟩ := h9
      exact ⟨rfl, ⟨ok.rot t u n1 n2 (fun hm => by rw [isIn_iff.2 hm] at hg; cases hg) _ (by omega) (by omega) hl16, hne, _, _, _, _, h10, hV.rot ok t u ht hu _, hG, by omega, by omega⟩, h11.mono fun k hk => .inr (.inl hk)⟩
end
end Go.Proofs.YtdglmoikgmlaaaaDoor
