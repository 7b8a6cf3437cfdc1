/- (*Tree).Seal, by contracts: what is sealed; too long a text; a tenant that is gone. -/
import Derived.Test.YtkgengiopjjhbaaDoorJ5
namespace Go.Proofs.YtkgengiopjjhbaaDoor
open Go.RowKit Go.Maps
set_option linter.unusedVariables false
set_option maxRecDepth 20000
/-- all blocks but those are as they were -/
structure OutJ (P : Nat → Prop) (w w' : World) : Prop where
  os : w'.os = w.os
  tape : w'.tape = w.tape
  output : w'.output = w.output
  size : w.heap.size ≤ w'.heap.size
  block : ∀ k, k < w.heap.size → ¬ P k → w'.heap[k]? = w.heap[k]?
theorem OutJ.of_below {P : Nat → Prop} {w w' : World} (h : Below w.heap.size w w') : OutJ P w w' := ⟨h.os, h.tape, h.output, h.size, fun k hk _ => h.block k hk⟩
theorem OutJ.trans {P : Nat → Prop} {a b c : World} (h : OutJ P a b) (k : OutJ P b c) : OutJ P a c :=
  ⟨k.os.trans h.os, k.tape.trans h.tape, k.output.trans h.output, Nat.le_trans h.size k.size, fun i hi hp => (k.block i (Nat.lt_of_lt_of_le hi h.size) hp).trans (h.block i hi hp)⟩
theorem OutJ.below {P : Nat → Prop} {w w' : World} (h : OutJ P w w') {B : Nat} (hB : B ≤ w.heap.size) (hP : ∀ k, P k → B ≤ k) : Below B w w' := ⟨h.os, h.tape, h.output, h.size, fun k hk => h.block k (by omega) (fun hp => by have := hP k hp; omega)⟩
theorem OutJ.setCell {P : Nat → Prop} (w : World) (a : Addr) (v : Value) (ha : P a.block) : OutJ P w (w.setCell a v) :=
  ⟨rfl, rfl, rfl, by simp [World.setCell], fun k hk hp => heap_setCell_other _ _ _ _ (fun e => hp (by rw [e]; exact ha))⟩
section
variable {w : World} {B g : Nat} {root : List UInt8} {mv mg nv ng : Nat} {V G : DataW Unit} {n : Nat}
theorem TreeAt.mvne (h : TreeAt w B g root mv mg nv ng V G n) : mv ≠ g ∧ mg ≠ g := by
  refine ⟨fun e => ?_, fun e => ?_⟩
  · obtain ⟨es, clock, hb, _⟩ := h.vm
    rw [e, h.obj] at hb
    cases hb
  · obtain ⟨es, clock, hb, _⟩ := h.gm
    rw [e, h.obj] at hb
    cases hb
theorem TreeAt.setN (h : TreeAt w B g root mv mg nv ng V G n) (m : Nat) : TreeAt (w.setCell ⟨g, 34, none⟩ (.int .i64 (m : Int))) B g root mv mg nv ng V G m := by
  obtain ⟨h1, h2⟩ := h.mvne
  refine ⟨?_, h.vm.setCell h1 _, h.gm.setCell h2 _, h.len, h.bg, h.bv, h.bm⟩
  rw [heap_setCell_same w g 34 _ _ _ h.obj, List.setIfInBounds_toArray]
  unfold treeC
  rw [List.set_append_right _ _ (by rw [cellsOf_length, h.len]; omega), cellsOf_length, h.len]
  rfl
end
theorem TreeAt.grown {w w' : World} {B g : Nat} {root : List UInt8} {mv mg nv ng : Nat} {V G : DataW Unit} {n : Nat} (h : TreeAt w B g root mv mg nv ng V G n) {R : Nat} (hg : w.grownBy w' (some R)) (hR : R ≠ g ∧ R ≠ mv ∧ R ≠ mg) : TreeAt w' B g root mv mg nv ng V G n :=
  ⟨(hg.block g h.lt (fun e => hR.1 (Option.some.inj e).symm)).trans h.obj, h.vm.kept hg (fun e => hR.2.1 (Option.some.inj e).symm), h.gm.kept hg (fun e => hR.2.2 (Option.some.inj e).symm), h.len, h.bg, h.bv, h.bm⟩
theorem own_lit1 (w : World) (B : Nat) (hB : B ≤ w.heap.size) (c : UInt8) : (w.alloc (.cells #[.int .u8 (c.toNat : Int)] 5)).ownsRow B 5 1 (.slice (some ⟨w.heap.size, 0, none⟩) 1 1) 1 (cellsOf [c]) :=
  ⟨rfl, .inr ⟨w.heap.size, 1, _, rfl, hB, heap_alloc_new w _, Nat.le_refl _, by decide, rfl, rfl⟩⟩
/-- what Seal answers, if it seals -/
def SealPost (w : World) (B g : Nat) (root : List UInt8) (mv mg nv ng : Nat) (VM GM : DataW Unit) (k : Nat) (l : List UInt8) (e : Ending) (w' : World) : Prop := ∃ v, e = .returned (.tuple #[v, .int .i64 0]) ∧ w'.ownsRow w.heap.size 5 1 v l.length (cellsOf l) ∧ TreeAt w' B g root mv mg nv ng VM GM (k + 1) ∧ OutJ (fun j => j = g) w w'
set_option maxHeartbeats 4000000 in
theorem seal_ok {w : World} {B g : Nat} {root : List UInt8} {mv mg nv ng : Nat} {VM GM : DataW Unit} {k : Nat} (h : TreeAt w B g root mv mg nv ng VM GM k) (t u : ByteArray) (ht : t.size ≤ 100 ∧ nameB t.data.toList = true) (hu : u.size ≤ 100 ∧ nameB u.data.toList = true) (kl : Lit) (hk : Go.keyOf Tryd.prog 54 (.agg #[.string t, .string u]) = some kl) (c : Nat) (hc : VerIs VM kl (c : Int)) (h1 : 1 ≤ c) (h16 : c ≤ 200) (hb : Maps.has GM (.string t.data.toList) = false) (hke : keyErr [t, u, txtJ c] = 0) (hk9 : k ≤ 1000) (plain : List UInt8) (a : Option Addr) (n cap : Nat) (hn : n = plain.length) (hB : Bytes w a plain) (hl : plain.length ≤ 1024) (hT : TabAt w) (hKA : KAt w) :
    Calls Tryd.prog 6 #[.pointer (some ⟨g, 0, none⟩), .string t, .string u, .slice a n cap] w (SealPost w B g root mv mg nv ng VM GM k (UInt8.ofNat c :: sealB (derRes root [t, u, txtJ c]) k plain)) := by
  obtain ⟨Z, hZ⟩ : ∃ Z, Z = bvs (List.replicate 32 0) := ⟨_, rfl⟩
  have zh := (zero_of_info zero_hash).1
  rw [← hZ] at zh
  have hz : Hid (HV Z (List.replicate 32 0)) := by
    show HV _ _
    rw [hZ]; exact hv_zero
  have zh := hid zh
  have HC := hid (current_any h t u ⟨by unfold maxLen; have := ht.1; omega, ht.2⟩ ⟨by unfold maxLen; have := hu.1; omega, hu.2⟩ kl hk (c : Int) hc false hb)
  have HKy := hid (fun (W : World) (hW : Below w.heap.size w W) => by have := key_ok (h.below hW) t u ht hu kl hk (c : Int) hc hb c h1 (Int.le_refl _) (by omega) (TabAt.belowJ hT hW) (hKA.below hW); rw [hke] at this; exact this)
  obtain ⟨key, hkey⟩ : ∃ key, key = derRes root [t, u, txtJ c] := ⟨_, rfl⟩
  rw [← hkey] at HKy ⊢
  have H := hid h
  have HB := hid hB
  have Hn := hid hn
  have HKA := hid hKA
  have hcv : IntKind.u64.wrap (k : Int) = (k : Int) := by rw [IntKind.wrap_u64]; omega
  have Hcv := hid hcv
  have hc8 : ((UInt8.ofNat c).toNat : Int) = (c : Int) := by
    have : (UInt8.ofNat c).toNat = c := by simp; omega
    omega
  have Hc8 := hid hc8
  have g9 : ((k : Int) == 1099511627776) = false := by simp; omega
  clear h hc hb hk hZ hT hkey hB hn hKA hcv hc8 hke
  go_enter Tryd.func6, Tryd.ntmps6
  go_wp2_with (first
    | (go_at_call 11; refine HC.out.mono ?_; rintro _ w1 ⟨rfl, b1⟩; have B1 := hid b1; clear b1; unfold goneE; simp only [Bool.false_eq_true, if_false])
    | (go_at_call 13; refine (HKy.out w1 B1.out).mono ?_; rintro _ w2 ⟨O, rfl, hO, b2⟩; obtain rfl := hO.eq; have hlk := hid hO.len; have B2 := hid (Below.on' B1.out b2); have X2 : Hid ((w2.alloc (.cells Z 23)).heap[w2.heap.size]? = some (.cells Z 23 (0, 0))) := heap_alloc_new w2 _; have HI := hid hO.info; have HZ9 := hid (hz.out.size.trans hO.size.symm); have HO1 := hid hO.one; clear b2 hO)
    | (with_reducible show Go.wpList _ _ _ _ _ _; refine wpList_alloc_row rfl 23 rfl Z zh.out ?_)
    | (with_reducible show Go.wpList _ _ _ _ _ _; refine wpList_store_row rfl 23 _ _ rfl w2.heap.size (bvs key) rfl rfl 23 Z X2.out HI.out HZ9.out HO1.out ?_))
  obtain ⟨W3, hW3⟩ : ∃ W3, W3 = (w2.alloc (.cells Z 23)).setRow w2.heap.size (bvs key) := ⟨_, rfl⟩
  have b3 : Below w2.heap.size w2 W3 := by rw [hW3]; exact ((Below.refl _ w2).alloc (Nat.le_refl _) _).setRow (Nat.le_refl _) _
  have x3 : W3.heap[w2.heap.size]? = some (.cells (bvs key) 23 (0, 0)) := by rw [hW3]; exact setRow_heap _ _ _ _ _ _ X2.out
  rw [← hW3]
  obtain ⟨V0, hV0⟩ : ∃ V0, V0 = W3.drew := ⟨_, rfl⟩
  have b30 : Below W3.heap.size W3 V0 := by rw [hV0]; exact (Below.refl _ W3).drew
  have bw0 : Below w.heap.size w V0 := Below.on' (Below.on' B2.out b3) b30
  have hcall : Calls Tryd.prog 16 #[.agg (bvs key), .int .u64 (k : Int), .slice a n cap] V0 fun e w' => ∃ vv, e = .returned (.tuple #[vv, .int .i64 0]) ∧ w'.ownsRow V0.heap.size 5 1 vv (sealB key k plain).length (cellsOf (sealB key k plain)) ∧ Below V0.heap.size V0 w' := seal_any ⟨rfl, hlk.out⟩ k plain a n cap Hn.out (HB.out.below bw0) hl (HKA.out.below bw0)
  refine wp_act _ fun A hA => ?_
  have sz : A.tmps.size = 66 := by rw [hA]; rfl
  have e0 : A.eval (.tmp 0) = .pointer (some ⟨g, 0, none⟩) := by rw [hA]; rfl
  have e3 : A.eval (.tmp 3) = .slice a n cap := by rw [hA]; rfl
  have e12 : A.eval (.tmp 12) = .pointer (some ⟨w2.heap.size, 0, none⟩) := by rw [hA]; rfl
  refine wp_split _ (seal_region7 (P := fun vv w' => w'.ownsRow V0.heap.size 5 1 vv (sealB key k plain).length (cellsOf (sealB key k plain))) sz e0 e3 e12 hlk.out Hcv.out hcall hV0 ⟨H.out.below bw0, (b30.block _ (heap_lt x3)).trans x3⟩) ?_
  rintro _ V4 ⟨vv, rfl, hown, ⟨hT4, _⟩, b4⟩
  rw [hA]
  simp only [Act.put, List.setIfInBounds_toArray, List.set_cons_succ, List.set_cons_zero]
  have ls : (sealB key k plain).length = n + 24 := by rw [sealB_len, Hn.out]
  obtain ⟨gs, cs, rfl, hBs, hcs, hgs⟩ := own_some hown (by omega)
  have c34 := hT4.c34
  have f34 := hT4.fz 34
  have bw4 := Below.on' bw0 b4
  obtain ⟨V5, hV5⟩ : ∃ V5, V5 = V4.setCell ⟨g, 34, none⟩ (.int .i64 ((k + 1 : Nat) : Int)) := ⟨_, rfl⟩
  have hT5 := hT4.setN (k + 1)
  rw [← hV5] at hT5
  have hgl := H.out.lt
  have hgs4 : gs ≠ g := by have := bw0.size; omega
  have hB5 : Bytes V5 (some ⟨gs, 0, none⟩) (sealB key k plain) := fun i hi => by
    obtain ⟨b9, o9, e9, hc9⟩ := hBs i hi
    cases e9
    refine ⟨gs, 0, rfl, ?_⟩
    rw [hV5]
    have : (V4.setCell ⟨g, 34, none⟩ (.int .i64 ((k + 1 : Nat) : Int))).heap[gs]? = V4.heap[gs]? := heap_setCell_other _ _ _ _ hgs4
    unfold World.cell? at hc9 ⊢
    rw [this]
    exact hc9
  have hs5 : V5.heap.size = V4.heap.size := by rw [hV5]; simp [World.setCell]
  have O5 : Hid (OutJ (fun j => j = g) w V5) := (OutJ.of_below bw4).trans (by rw [hV5]; exact OutJ.setCell V4 ⟨g, 34, none⟩ _ rfl)
  have HT5 := hid hT5
  have HB5 := hid hB5
  have HV5 := hid hV5
  have Hls := hid ls
  have hsw : w.heap.size ≤ V5.heap.size := O5.out.size
  have hka : ((k : Int) + 1) = ((k + 1 : Nat) : Int) := by omega
  have Hka := hid hka
  have hlit := own_lit1 V5 w.heap.size hsw (UInt8.ofNat c)
  rw [hs5] at hlit
  have HLit := hid hlit
  clear hlit
  have hl9 : plain.length = n := Hn.out.symm
  rw [ls]
  clear sz e0 e3 e12 hA A hcall hown hT4 b4 bw4 bw0 b30 b3 x3 hV0 hW3 hBs hT5 hB5 hV5 hka ls
  go_wp2_with (first
    | (at_builtin; rw [Hka.out, ← HV5.out, ← Hc8.out]; refine app_srcG _ rfl (.tmp 63) (.tmp 64) rfl w.heap.size _ [UInt8.ofNat c] rfl HLit.out (some ⟨gs, 0, none⟩) (n + 24) cs (sealB key k plain) Hls.out.symm rfl (HB5.out.below ((Below.refl _ V5).alloc (Nat.le_refl _) _)) (fun e => by cases e) (by rw [Hls.out]; simp; omega) (by simp; omega) ?_; intro v6 W6 hown6 hg6))
  go_ret2
  have hg7 : (V5.alloc (.cells #[.int .u8 ((UInt8.ofNat c).toNat : Int)] 5)).grownBy W6 (some V4.heap.size) := hg6
  have bA := (Below.refl _ V5).alloc (Nat.le_refl _) (.cells #[.int .u8 ((UInt8.ofNat c).toNat : Int)] 5)
  have hlg := HT5.out.lt
  have hlv := HT5.out.vm.lt
  have hlm := HT5.out.gm.lt
  refine ⟨v6, rfl, hown6, (HT5.out.below bA).grown hg7 ⟨by omega, by omega, by omega⟩, ?_⟩
  refine ⟨hg7.os.trans O5.out.os, hg7.tape.trans O5.out.tape, hg7.output.trans O5.out.output, Nat.le_trans hsw (Nat.le_trans bA.size hg7.size), fun j hj hp => ?_⟩
  refine (hg7.block j (Nat.lt_of_lt_of_le (Nat.lt_of_lt_of_le hj hsw) bA.size) (fun e => ?_)).trans ((bA.block j (Nat.lt_of_lt_of_le hj hsw)).trans (O5.out.block j hj hp))
  have := Option.some.inj e
  omega
end Go.Proofs.YtkgengiopjjhbaaDoor
