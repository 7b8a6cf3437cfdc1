/- A tree of keys: too long a text; a tenant that is gone; Destroy. -/
import Derived.Test.YtkgengiopjjhbaaDoorJ9
namespace Go.Proofs.YtkgengiopjjhbaaDoor
open Go.RowKit Go.Maps
set_option linter.unusedVariables false
set_option maxRecDepth 20000
set_option maxHeartbeats 4000000 in
theorem seal_toolong {w : World} {B g : Nat} {root : List UInt8} {mv mg nv ng : Nat} {VM GM : DataW Unit} {k : Nat} (h : TreeAt w B g root mv mg nv ng VM GM k) (t u : ByteArray) (ht : t.size ≤ 100 ∧ nameB t.data.toList = true) (hu : u.size ≤ 100 ∧ nameB u.data.toList = true) (kl : Lit) (hk : Go.keyOf Tryd.prog 54 (.agg #[.string t, .string u]) = some kl) (c : Nat) (hc : VerIs VM kl (c : Int)) (h1 : 1 ≤ c) (h16 : c ≤ 200) (hb : Maps.has GM (.string t.data.toList) = false) (hke : keyErr [t, u, txtJ c] = 0) (hk9 : k ≤ 1000) (a : Option Addr) (n cap : Nat) (hl : 1024 < n) (hT : TabAt w) (hKA : KAt w) :
    Calls Tryd.prog 6 #[.pointer (some ⟨g, 0, none⟩), .string t, .string u, .slice a n cap] w fun e w' => e = .returned (.tuple #[.slice none 0 0, .int .i64 6]) ∧ Below w.heap.size w w' := by
  obtain ⟨Z, hZ⟩ : ∃ Z, Z = bvs (List.replicate 32 0) := ⟨_, rfl⟩
  have zh := (zero_of_info zero_hash).1
  rw [← hZ] at zh
  have hz : Hid (HV Z (List.replicate 32 0)) := by
    show HV _ _
    rw [hZ]; exact hv_zero
  have zh := hid zh
  have HC := hid (current_any h t u ⟨by unfold maxLen; have := ht.1; omega, ht.2⟩ ⟨by unfold maxLen; have := hu.1; omega, hu.2⟩ kl hk (c : Int) hc false hb)
  have HKy := hid (fun (W : World) (hW : Below w.heap.size w W) => by have := key_ok (h.below hW) t u ht hu kl hk (c : Int) hc hb c h1 (Int.le_refl _) (by omega) (TabAt.belowJ hT hW) (hKA.below hW); rw [hke] at this; exact this)
  obtain ⟨key, hkey⟩ : ∃ key, key = derRes root [t, u, txtJ c] := ⟨_, rfl⟩
  rw [← hkey] at HKy
  have H := hid h
  have HKA := hid hKA
  have hcv : IntKind.u64.wrap (k : Int) = (k : Int) := by rw [IntKind.wrap_u64]; omega
  have Hcv := hid hcv
  have hc8 : ((UInt8.ofNat c).toNat : Int) = (c : Int) := by
    have : (UInt8.ofNat c).toNat = c := by simp; omega
    omega
  have Hc8 := hid hc8
  have g9 : ((k : Int) == 1099511627776) = false := by simp; omega
  clear h hc hb hk hZ hT hkey hKA hcv hc8 hke
  go_enter Tryd.func6, Tryd.ntmps6
  go_wp2_with (first
    | (go_at_call 11; refine HC.out.mono ?_; rintro _ w1 ⟨rfl, b1⟩; have B1 := hid b1; clear b1; unfold goneE; simp only [Bool.false_eq_true, if_false])
    | (go_at_call 13; refine (HKy.out w1 B1.out).mono ?_; rintro _ w2 ⟨O, rfl, hO, b2⟩; obtain rfl := hO.eq; have hlk := hid hO.len; have B2 := hid (Below.on' B1.out b2); have X2 : Hid ((w2.alloc (.cells Z 23)).heap[w2.heap.size]? = some (.cells Z 23 (0, 0))) := heap_alloc_new w2 _; have HI := hid hO.info; have HZ9 := hid (hz.out.size.trans hO.size.symm); have HO1 := hid hO.one; clear b2 hO)
    | (with_reducible show Go.wpList _ _ _ _ _ _; refine wpList_alloc_row rfl 23 rfl Z zh.out ?_)
    | (with_reducible show Go.wpList _ _ _ _ _ _; refine wpList_store_row rfl 23 _ _ rfl w2.heap.size (bvs key) rfl rfl 23 Z X2.out HI.out HZ9.out HO1.out ?_))
  obtain ⟨W3, hW3⟩ : ∃ W3, W3 = (w2.alloc (.cells Z 23)).setRow w2.heap.size (bvs key) := ⟨_, rfl⟩
  have b3 : Below w2.heap.size w2 W3 := by rw [hW3]; exact ((Below.refl _ w2).alloc (Nat.le_refl _) _).setRow (Nat.le_refl _) _
  have x3 : W3.heap[w2.heap.size]? = some (.cells (bvs key) 23 (0, 0)) := by rw [hW3]; exact setRow_heap _ _ _ _ _ _ X2.out
  rw [← hW3]
  obtain ⟨V0, hV0⟩ : ∃ V0, V0 = W3.drew := ⟨_, rfl⟩
  have b30 : Below W3.heap.size W3 V0 := by rw [hV0]; exact (Below.refl _ W3).drew
  have bw0 : Below w.heap.size w V0 := Below.on' (Below.on' B2.out b3) b30
  have hcall : Calls Tryd.prog 16 #[.agg (bvs key), .int .u64 (k : Int), .slice a n cap] V0 fun e w' => ∃ vv, e = .returned (.tuple #[vv, .int .i64 6]) ∧ vv = .slice none 0 0 ∧ Below V0.heap.size V0 w' := (seal_long ⟨rfl, hlk.out⟩ k n a cap hl).mono fun e w' h => ⟨_, h.1, rfl, h.2⟩
  refine wp_act _ fun A hA => ?_
  have sz : A.tmps.size = 66 := by rw [hA]; rfl
  have e0 : A.eval (.tmp 0) = .pointer (some ⟨g, 0, none⟩) := by rw [hA]; rfl
  have e3 : A.eval (.tmp 3) = .slice a n cap := by rw [hA]; rfl
  have e12 : A.eval (.tmp 12) = .pointer (some ⟨w2.heap.size, 0, none⟩) := by rw [hA]; rfl
  refine wp_split _ (seal_region7 (P := fun vv w' => vv = .slice none 0 0) sz e0 e3 e12 hlk.out Hcv.out hcall hV0 ⟨H.out.below bw0, (b30.block _ (heap_lt x3)).trans x3⟩) ?_
  rintro _ V4 ⟨vv, rfl, rfl, ⟨hT4, _⟩, b4⟩
  rw [hA]
  simp only [Act.put, List.setIfInBounds_toArray, List.set_cons_succ, List.set_cons_zero]
  have bw4 := hid (Below.on' bw0 b4)
  clear b4 bw0 b30 b3 hT4 hcall hA sz e0 e3 e12
  go_wp2
  go_ret2
  exact ⟨rfl, bw4.out⟩
theorem seal_gone {w : World} {B g : Nat} {root : List UInt8} {mv mg nv ng : Nat} {VM GM : DataW Unit} {k : Nat} (h : TreeAt w B g root mv mg nv ng VM GM k) (t u : ByteArray) (ht : t.size ≤ 100 ∧ nameB t.data.toList = true) (hu : u.size ≤ 100 ∧ nameB u.data.toList = true) (kl : Lit) (hk : Go.keyOf Tryd.prog 54 (.agg #[.string t, .string u]) = some kl) (c : Int) (hc : VerIs VM kl c) (hb : Maps.has GM (.string t.data.toList) = true) (v : Value) :
    Calls Tryd.prog 6 #[.pointer (some ⟨g, 0, none⟩), .string t, .string u, v] w fun e w' => e = .returned (.tuple #[.slice none 0 0, .int .i64 12]) ∧ Below w.heap.size w w' := by
  have HC := hid (current_any h t u ⟨by unfold maxLen; have := ht.1; omega, ht.2⟩ ⟨by unfold maxLen; have := hu.1; omega, hu.2⟩ kl hk c hc true hb)
  clear h hk hc hb
  go_enter Tryd.func6, Tryd.ntmps6
  go_wp2_with (go_at_call 11; refine HC.out.mono ?_; rintro _ w1 ⟨rfl, b1⟩; have B1 := hid b1; clear b1; unfold goneE; simp only [if_true])
  go_ret2
  exact ⟨rfl, B1.out⟩
theorem open_gone {w : World} {B g : Nat} {root : List UInt8} {mv mg nv ng : Nat} {VM GM : DataW Unit} {k : Nat} (h : TreeAt w B g root mv mg nv ng VM GM k) (t u : ByteArray) (ht : t.size ≤ 100 ∧ nameB t.data.toList = true) (hu : u.size ≤ 100 ∧ nameB u.data.toList = true) (kl : Lit) (hk : Go.keyOf Tryd.prog 54 (.agg #[.string t, .string u]) = some kl) (c : Int) (hc : VerIs VM kl c) (hb : Maps.has GM (.string t.data.toList) = true) (v : Value) :
    Calls Tryd.prog 9 #[.pointer (some ⟨g, 0, none⟩), .string t, .string u, v] w fun e w' => e = .returned (.tuple #[.slice none 0 0, .int .i64 0, .int .i64 12]) ∧ Below w.heap.size w w' := by
  have HC := hid (current_any h t u ⟨by unfold maxLen; have := ht.1; omega, ht.2⟩ ⟨by unfold maxLen; have := hu.1; omega, hu.2⟩ kl hk c hc true hb)
  clear h hk hc hb
  go_enter Tryd.func9, Tryd.ntmps9
  go_wp2_with (go_at_call 11; refine HC.out.mono ?_; rintro _ w1 ⟨rfl, b1⟩; have B1 := hid b1; clear b1; unfold goneE; simp only [if_true])
  go_ret3
  exact ⟨rfl, B1.out⟩
theorem texts1J (w : World) (t : ByteArray) : Texts (w.alloc (.cells #[.string t] 9)) (some ⟨w.heap.size, 0, none⟩) [t] := fun i hi => by
  refine ⟨w.heap.size, 0, rfl, ?_⟩
  rw [World.cell?_alloc_at _ _ _ _ rfl]
  match i, hi with
  | 0, _ => rfl
theorem reach1 {w : World} {B g : Nat} {root : List UInt8} {mv mg nv ng : Nat} {VM GM : DataW Unit} {k : Nat} (h : TreeAt w B g root mv mg nv ng VM GM k) (t : ByteArray) (ht : t.size ≤ 100 ∧ nameB t.data.toList = true) (b : Bool) (hb : Maps.has GM (.string t.data.toList) = b) :
    Calls Tryd.prog 17 #[.pointer (some ⟨g, 0, none⟩), .string t, .slice (some ⟨w.heap.size, 0, none⟩) 1 1] (w.alloc (.cells #[.string t] 9)) fun e w' => e = .returned (.int .i64 (goneE b)) ∧ Below w.heap.size w w' := by
  have b0 : Below w.heap.size w (w.alloc (.cells #[.string t] 9)) := (Below.refl _ w).alloc (Nat.le_refl _) _
  refine (reach_any (h.below b0) t (by unfold maxLen; have := ht.1; omega) [t] (some ⟨w.heap.size, 0, none⟩) 1 1 rfl (texts1J w t) (by simp) (fun s hs => by simp at hs; subst hs; exact ⟨by unfold maxLen; have := ht.1; omega, ht.2⟩) b hb).mono ?_
  rintro _ w1 ⟨rfl, b1⟩
  exact ⟨rfl, Below.on' b0 b1⟩
theorem destroy_gone {w : World} {B g : Nat} {root : List UInt8} {mv mg nv ng : Nat} {VM GM : DataW Unit} {k : Nat} (h : TreeAt w B g root mv mg nv ng VM GM k) (t : ByteArray) (ht : t.size ≤ 100 ∧ nameB t.data.toList = true) (hb : Maps.has GM (.string t.data.toList) = true) :
    Calls Tryd.prog 8 #[.pointer (some ⟨g, 0, none⟩), .string t] w fun e w' => e = .returned (.int .i64 12) ∧ Below w.heap.size w w' := by
  have HR := hid (reach1 h t ht true hb)
  clear h hb
  go_enter Tryd.func8, Tryd.ntmps8
  go_wp2_with (go_at_call 17; refine HR.out.mono ?_; rintro _ w1 ⟨rfl, b1⟩; have B1 := hid b1; clear b1; unfold goneE; simp only [if_true])
  go_ret
  exact ⟨rfl, B1.out⟩
def DesPost (w : World) (B g : Nat) (root : List UInt8) (mv mg nv ng : Nat) (VM GM : DataW Unit) (k : Nat) (t : ByteArray) (e : Ending) (w' : World) : Prop := e = .returned (.int .i64 0) ∧ TreeAt w' B g root mv mg nv (ng + 1) VM (GM.put (.string t.data.toList) (.agg [])) k ∧ OutJ (fun j => j = mg) w w'
set_option maxHeartbeats 4000000 in
theorem destroy_new {w : World} {B g : Nat} {root : List UInt8} {mv mg nv ng : Nat} {GM : DataW Unit} {k : Nat} (h : TreeAt w B g root mv mg nv ng (.map []) GM k) (t : ByteArray) (ht : t.size ≤ 100 ∧ nameB t.data.toList = true) (hb : Maps.has GM (.string t.data.toList) = false) (hsz : Maps.size GM < 16) (hng : ng ≤ 1000) (hne : mv ≠ mg) :
    Calls Tryd.prog 8 #[.pointer (some ⟨g, 0, none⟩), .string t] w (DesPost w B g root mv mg nv ng (.map []) GM k t) := by
  have HR := hid (reach1 h t ht false hb)
  have H := hid h
  have g2 : ((Maps.size GM : Int) == 16) = false := by simp; omega
  have hkl := Go.WideMaps.keyOf_string_mk Tryd.underlying9 (s := t) (by unfold maxLen; have := ht.1; omega)
  have Hk := hid hkl
  have Hne := hid hne
  have Hng := hid hng
  clear h hb hsz hkl hne hng
  go_enter Tryd.func8, Tryd.ntmps8
  go_wp2_with (first
    | (go_at_call 17; refine HR.out.mono ?_; rintro _ w1 ⟨rfl, b1⟩; have B1 := hid b1; have hT1 := H.out.below b1; have c33 := hT1.c33; have hlen := hT1.gm.len Tryd.underlying46 3; have HT1 := hid hT1; clear b1 hT1; unfold goneE; simp only [Bool.false_eq_true, if_false])
    | (at_mapUpdate; refine wpList_mapUpdate_own _ rfl _ _ _ 46 rfl 9 52 lawStr Tryd.underlying46 _ mg ng GM rfl HT1.out.gm (by unfold maxLen; have := Hng.out; omega) _ _ _ rfl rfl Hk.out _ [] unitElem_mk ?_; intro w2 hown2 hg2; have hT2 : TreeAt w2 B g root mv mg nv (ng + 1) (.map []) (GM.put (.string t.data.toList) (.agg [])) k := ⟨(hg2.block g HT1.out.lt (fun e => HT1.out.mvne.2 (Option.some.inj e).symm)).trans HT1.out.obj, HT1.out.vm.kept hg2 (fun e => Hne.out (Option.some.inj e)), hown2, HT1.out.len, HT1.out.bg, HT1.out.bv, HT1.out.bm⟩; have O2 : Hid (OutJ (fun j => j = mg) w w2) := (OutJ.of_below B1.out).trans ⟨hg2.os, hg2.tape, hg2.output, hg2.size, fun j hj hp => hg2.block j hj (fun e => hp (Option.some.inj e))⟩; have c32 := hT2.c32; have HT2 := hid hT2; clear hown2 hg2 hT2)
    | (at_range; refine wpList_range_own _ rfl _ 45 rfl 54 3 lawPlace Tryd.underlying45 _ mv nv _ rfl HT2.out.vm ?_; intro w3 hrg3 hg3 hs3)
    | go_in)
  go_frame
  have HT3 : Hid (TreeAt w3 B g root mv mg nv (ng + 1) (.map []) (GM.put (.string t.data.toList) (.agg [])) k) := ⟨(hg3.block g HT2.out.lt (by simp)).trans HT2.out.obj, HT2.out.vm.kept hg3 (by simp), HT2.out.gm.kept hg3 (by simp), HT2.out.len, HT2.out.bg, HT2.out.bv, HT2.out.bm⟩
  have O3 : Hid (OutJ (fun j => j = mg) w w3) := O2.out.trans ⟨hg3.os, hg3.tape, hg3.output, hg3.size, fun j hj hp => hg3.block j hj (by simp)⟩
  go_loopw [6] (fun v wr => wr = w3) (fun _ _ => 0)
  case atStart => exact rfl
  case round =>
    obtain rfl := hrel
    go_wp2_with (first
      | (at_next; refine wpList_next_ranges (α := Value) (β := Value) _ rfl _ rfl 54 lawPlace (plainElem Tryd.prog 3) (fun x => x) (fun x => x) (fun key kl _ => ⟨key, rfl⟩) (fun v y _ => ⟨v, rfl⟩) mv w2.heap.size nv _ _ _ rfl hrg3 ?_ ?_)
      | go_in)
    · intro _ _
      go_wp2
      go_ret
      exact ⟨rfl, HT3.out, O3.out⟩
    · intro _ _ _ _ _ _ _ _ hl
      exact Bool.noConfusion (show false = true from hl)
end Go.Proofs.YtkgengiopjjhbaaDoor
