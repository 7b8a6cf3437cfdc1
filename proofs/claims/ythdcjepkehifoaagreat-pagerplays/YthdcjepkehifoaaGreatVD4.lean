/- YthdcjepkehifoaaGreatVD3 + YthdcjepkehifoaaGreatVD4 -/
import Derived.Test.YthdcjepkehifoaaGreatVD2
/- do of law 4, whatever the deed; on nil caches too. -/
namespace Go.Proofs.YthdcjepkehifoaaGreat
open Go.RowKit Go.Maps Go.Sort Go.Shelf
set_option linter.unusedVariables false
set_option maxRecDepth 20000
theorem do4_any {w : World} {B p q t u : Nat} {s : PS} {r : RS} {m : RM} (h : Duo4 w B p q s r (fun k => k < B) m) (bn : Bnd s t u) (ht : t ≤ 900) (hu : u ≤ 1152921504606846976) (hB : B ≤ w.heap.size) (kd : Int) (a : Option Addr) (zs : List Int) (c : Nat) (y : UInt8) (sh : Bool) (da : DArg w B a zs) :
    Calls Tryz.prog 53 #[.pointer (some ⟨p, 0, none⟩), .pointer (some ⟨q, 0, none⟩), .agg #[.int .i64 kd, .slice a zs.length c, .int .u8 (y.toNat : Int), .bool sh]] w (Done4 w B p q t u) := by
  by_cases h0 : kd = 0
  · subst h0; exact do4_0 h bn ht hu hB a zs c y sh da
  by_cases h1 : kd = 1
  · subst h1; exact do4_1 h bn ht hu hB a zs c y sh da
  by_cases h2 : kd = 2
  · subst h2; exact do4_2 h bn ht hu hB a zs c y sh da
  by_cases h3 : kd = 3
  · subst h3; exact do4_3 h bn ht hu hB a zs c y sh da
  by_cases h4 : kd = 4
  · subst h4; exact do4_4 h bn ht hu hB a zs c y sh da
  exact do4_5 h bn ht hu hB kd ⟨h0, h1, h2, h3, h4⟩ a zs c y sh da
theorem rRead_nil4 (w : World) (x : Int) : Calls Tryz.prog 107 #[.pointer none, .int .i64 x] w fun e w' => e = .returned (.tuple #[.slice none 0 0, .int .i64 1]) ∧ w' = w := by
  go_enter Tryz.func107, Tryz.ntmps107
  go_wp2
  go_ret2
  exact ⟨rfl, rfl⟩
theorem rWrite_nil4 (w : World) (x : Int) (v : Value) : Calls Tryz.prog 108 #[.pointer none, .int .i64 x, v] w fun e w' => e = .returned (.int .i64 1) ∧ w' = w := by
  go_enter Tryz.func108, Tryz.ntmps108
  go_wp2
  go_ret
  exact ⟨rfl, rfl⟩
theorem rCommit_nil4 (w : World) : Calls Tryz.prog 109 #[.pointer none] w fun e w' => e = .returned (.int .i64 1) ∧ w' = w := by
  go_enter Tryz.func109, Tryz.ntmps109
  go_wp2
  go_ret
  exact ⟨rfl, rfl⟩
theorem rAbort_nil4 (w : World) : Calls Tryz.prog 111 #[.pointer none] w fun e w' => e = .returned (.int .i64 0) ∧ w' = w := by
  go_enter Tryz.func111, Tryz.ntmps111
  go_wp2
  go_ret
  exact ⟨rfl, rfl⟩
theorem rPin_nil4 (w : World) (v : Value) : Calls Tryz.prog 112 #[.pointer none, v] w fun e w' => e = .returned (.int .i64 1) ∧ w' = w := by
  go_enter Tryz.func112, Tryz.ntmps112
  go_wp2
  go_ret
  exact ⟨rfl, rfl⟩
theorem rUnpin_nil4 (w : World) (v : Value) : Calls Tryz.prog 114 #[.pointer none, v] w fun e w' => e = .returned (.int .i64 1) ∧ w' = w := by
  go_enter Tryz.func114, Tryz.ntmps114
  go_wp2
  go_ret
  exact ⟨rfl, rfl⟩
theorem rCached_nil4 (w : World) : Calls Tryz.prog 55 #[.pointer none] w fun e w' => e = .returned (.slice none 0 0) ∧ w' = w := by
  go_enter Tryz.func55, Tryz.ntmps55
  go_wp2
  go_ret
  exact ⟨rfl, rfl⟩
theorem rHits_nil4 (w : World) : Calls Tryz.prog 59 #[.pointer none] w fun e w' => e = .returned (.int .i64 0) ∧ w' = w := by
  go_enter Tryz.func59, Tryz.ntmps59
  go_wp2
  go_ret
  exact ⟨rfl, rfl⟩
theorem rMisses_nil4 (w : World) : Calls Tryz.prog 61 #[.pointer none] w fun e w' => e = .returned (.int .i64 0) ∧ w' = w := by
  go_enter Tryz.func61, Tryz.ntmps61
  go_wp2
  go_ret
  exact ⟨rfl, rfl⟩
theorem rDirty_nil4 (w : World) : Calls Tryz.prog 57 #[.pointer none] w fun e w' => e = .returned (.slice none 0 0) ∧ w' = w := by
  go_enter Tryz.func57, Tryz.ntmps57
  go_wp2
  go_loopw [3, 4] (fun v i wr => v = .slice none 0 0 ∧ i = .int .i64 0 ∧ wr = w) (fun _ _ _ => 0)
  case atStart => exact ⟨rfl, rfl, rfl⟩
  case round =>
    obtain ⟨rfl, rfl, rfl⟩ := hrel
    go_wp2
    go_ret
    exact ⟨rfl, rfl⟩
set_option maxHeartbeats 4000000 in
theorem don_0 (w : World) (a : Option Addr) (zs : List Int) (c : Nat) (y : UInt8) (sh : Bool) (hi : IntsAt w a zs) (hl : zs.length ≤ 9223372036854775807) :
    Calls Tryz.prog 53 #[.pointer none, .pointer none, .agg #[.int .i64 0, .slice a zs.length c, .int .u8 (y.toNat : Int), .bool sh]] w fun e w' => e = .returned (.bool true) ∧ Below w.heap.size w w' := by
  obtain ⟨W0, hW0⟩ : ∃ W0, W0 = w.alloc (.cells #[.int .i64 0, .slice a zs.length c, .int .u8 (y.toNat : Int), .bool sh] 79) := ⟨_, rfl⟩
  have b0 : Below w.heap.size w W0 := by rw [hW0]; exact (Below.refl _ w).alloc (Nat.le_refl _) _
  have hbox : BoxAt W0 w.heap.size 0 a zs.length c y sh := by rw [hW0]; exact heap_alloc_new w _
  have hlt := heap_lt hbox
  have k0 := hbox.b0
  have k1 := hbox.b1
  have k2 := hbox.b2
  have k3 := hbox.b3
  rw [hW0] at k0 k1 k2 k3
  have HB0 := hid b0
  have Hbox := hid hbox
  have HW0 := hid hW0
  have Hi := hid (fun (u : World) (hu : Below w.heap.size w u) => ints_below hi hu)
  have hf := first4_any 0 a zs c y sh W0 (ints_below hi b0) hl
  rw [hW0] at hf
  have Hf := hid hf
  clear hi b0 hbox hW0 hf
  go_enter Tryz.func53, Tryz.ntmps53
  go_wp2_with (fail)
  refine Hf.out.mono ?_
  rintro e w1 ⟨rfl, hb1⟩
  rw [← HW0.out] at hb1
  have HB1 := hid (HB0.out.trans (hb1.mono HB0.out.size))
  have Hbox1 : Hid (BoxAt w1 w.heap.size 0 a zs.length c y sh) := (hb1.block _ (heap_lt Hbox.out)).trans Hbox.out
  clear hb1 Hf k0 k1 k2 k3
  go_wp2_with (fail)
  refine (pgRead_nil w1 _).mono ?_
  rintro e w2 ⟨rfl, hb2⟩
  have HB2 := hid (HB1.out.trans (hb2.mono HB1.out.size))
  have Hbox2 : Hid (BoxAt w2 w.heap.size 0 a zs.length c y sh) := (hb2.block _ (heap_lt Hbox1.out)).trans Hbox1.out
  have k0 := Hbox2.out.b0
  have k1 := Hbox2.out.b1
  have k2 := Hbox2.out.b2
  have k3 := Hbox2.out.b3
  have Hf2 := hid (first4_any 0 a zs c y sh w2 (Hi.out w2 HB2.out) hl)
  clear hb2
  go_wp2_with (fail)
  refine Hf2.out.mono ?_
  rintro e w3 ⟨rfl, hb3⟩
  have HB3 := hid (HB2.out.trans (hb3.mono HB2.out.size))
  clear hb3 Hf2 k0 k1 k2 k3
  go_wp2_with (fail)
  refine (rRead_nil4 w3 _).mono ?_
  rintro e u ⟨rfl, hu⟩
  subst u
  have Hsb := hid (sameBytes_any [] [] none none 0 0 w3 (fun i hi => by simp at hi) (fun i hi => by simp at hi) (by simp) (by simp))
  go_wp2_with (fail)
  refine Hsb.out.mono ?_
  rintro e w5 ⟨rfl, hb5⟩
  have HB5 := hid (HB3.out.trans (hb5.mono HB3.out.size))
  clear hb5 Hsb
  go_wp2
  go_ret
  exact ⟨ret_bool4 (by simp), HB5.out⟩
set_option maxHeartbeats 4000000 in
theorem don_1 (w : World) (a : Option Addr) (zs : List Int) (c : Nat) (y : UInt8) (sh : Bool) (hi : IntsAt w a zs) (hl : zs.length ≤ 9223372036854775807) :
    Calls Tryz.prog 53 #[.pointer none, .pointer none, .agg #[.int .i64 1, .slice a zs.length c, .int .u8 (y.toNat : Int), .bool sh]] w fun e w' => e = .returned (.bool true) ∧ Below w.heap.size w w' := by
  obtain ⟨W0, hW0⟩ : ∃ W0, W0 = w.alloc (.cells #[.int .i64 1, .slice a zs.length c, .int .u8 (y.toNat : Int), .bool sh] 79) := ⟨_, rfl⟩
  have b0 : Below w.heap.size w W0 := by rw [hW0]; exact (Below.refl _ w).alloc (Nat.le_refl _) _
  have hbox : BoxAt W0 w.heap.size 1 a zs.length c y sh := by rw [hW0]; exact heap_alloc_new w _
  have hlt := heap_lt hbox
  have k0 := hbox.b0
  have k1 := hbox.b1
  have k2 := hbox.b2
  have k3 := hbox.b3
  rw [hW0] at k0 k1 k2 k3
  have HB0 := hid b0
  have Hbox := hid hbox
  have HW0 := hid hW0
  have Hi := hid (fun (u : World) (hu : Below w.heap.size w u) => ints_below hi hu)
  have bdr : Below W0.heap.size W0 W0.drew := ⟨rfl, rfl, rfl, Nat.le_refl _, fun _ _ => rfl⟩
  have hf1 := first4_any 1 a zs c y sh W0.drew (ints_below hi (b0.trans (bdr.mono b0.size))) hl
  rw [hW0] at hf1
  have Hf1 := hid hf1
  have HBd := hid (b0.trans (bdr.mono b0.size))
  have Hboxd : Hid (BoxAt W0.drew w.heap.size 1 a zs.length c y sh) := (bdr.block _ (heap_lt hbox)).trans hbox
  have c0 := k0
  have c1 := k1
  have c2 := k2
  have c3 := k3
  clear hi b0 hbox hW0 hf1 bdr k0 k1 k2 k3
  go_enter Tryz.func53, Tryz.ntmps53
  go_wp2
  go_region_held3 (fun w9 => w9.cell? ⟨w.heap.size, 0, none⟩ = some (.int .i64 1) ∧ w9.cell? ⟨w.heap.size, 1, none⟩ = some (.slice a zs.length c) ∧ w9.cell? ⟨w.heap.size, 2, none⟩ = some (.int .u8 (y.toNat : Int)) ∧ w9.cell? ⟨w.heap.size, 3, none⟩ = some (.bool sh)) (first | exact ⟨c0, c1, c2, c3⟩ | exact q6.out | exact q5.out | exact q4.out | exact q3.out | exact q2.out | exact q1.out)
    (first
      | ((go_at_call 108; refine (rWrite_nil4 u5 _ _).mono ?_; rintro e u6 ⟨rfl, hu6⟩; have q6 := hid (show u6.cell? ⟨w.heap.size, 0, none⟩ = _ ∧ u6.cell? ⟨w.heap.size, 1, none⟩ = _ ∧ u6.cell? ⟨w.heap.size, 2, none⟩ = _ ∧ u6.cell? ⟨w.heap.size, 3, none⟩ = _ from (by rw [hu6]; exact Hbox5.out.all)); have HB6 : Hid (Below w.heap.size w u6) := (by rw [hu6]; exact HB5.out); clear hu6))
      | ((go_at_call 67; refine (bytes4_any 1 (.slice a zs.length c) y sh u4 rfl).mono ?_; rintro e u5 ⟨g5, c5, rfl, hr5, hg5, hb5⟩; have HB5 := hid (HB4.out.trans (hb5.mono HB4.out.size)); have Hbox5 : Hid (BoxAt u5 w.heap.size 1 a zs.length c y sh) := (hb5.block _ (heap_lt Hbox4.out)).trans Hbox4.out; have q5 := hid Hbox5.out.all; clear hr5 hg5 hb5))
      | ((go_at_call 65; refine (first4_any 1 a zs c y sh u3 (Hi.out u3 HB3.out) hl).mono ?_; rintro e u4 ⟨rfl, hb4⟩; have HB4 := hid (HB3.out.trans (hb4.mono HB3.out.size)); have Hbox4 : Hid (BoxAt u4 w.heap.size 1 a zs.length c y sh) := (hb4.block _ (heap_lt Hbox3.out)).trans Hbox3.out; have q4 := hid Hbox4.out.all; clear hb4))
      | ((go_at_call 66; refine (pgWrite_nil u2 _ _).mono ?_; rintro e u3 ⟨rfl, hb3⟩; have HB3 := hid (HB2.out.trans (hb3.mono HB2.out.size)); have Hbox3 : Hid (BoxAt u3 w.heap.size 1 a zs.length c y sh) := (hb3.block _ (heap_lt Hbox2.out)).trans Hbox2.out; have q3 := hid Hbox3.out.all; clear hb3))
      | ((go_at_call 67; refine (bytes4_any 1 (.slice a zs.length c) y sh u1 rfl).mono ?_; rintro e u2 ⟨g2, c2', rfl, hr2, hg2, hb2⟩; have HB2 := hid (HB1.out.trans (hb2.mono HB1.out.size)); have Hbox2 : Hid (BoxAt u2 w.heap.size 1 a zs.length c y sh) := (hb2.block _ (heap_lt Hbox1.out)).trans Hbox1.out; have q2 := hid Hbox2.out.all; clear hr2 hg2 hb2))
      | ((go_at_call 65; refine Hf1.out.mono ?_; rintro e u1 ⟨rfl, hb1⟩; rw [← HW0.out] at hb1; have HB1 := hid (HBd.out.trans (hb1.mono HBd.out.size)); have Hbox1 : Hid (BoxAt u1 w.heap.size 1 a zs.length c y sh) := (hb1.block _ (heap_lt Hboxd.out)).trans Hboxd.out; have q1 := hid Hbox1.out.all; clear hb1)))
  clear c0 c1 c2 c3 q1 q2 q3 q4 q5 q6
  go_wp2
  go_ret
  exact ⟨ret_bool4 (by simp), HB6.out⟩
set_option maxHeartbeats 4000000 in
theorem don_2 (w : World) (a : Option Addr) (zs : List Int) (c : Nat) (y : UInt8) (sh : Bool) (hi : IntsAt w a zs) (hl : zs.length ≤ 9223372036854775807) :
    Calls Tryz.prog 53 #[.pointer none, .pointer none, .agg #[.int .i64 2, .slice a zs.length c, .int .u8 (y.toNat : Int), .bool sh]] w fun e w' => e = .returned (.bool true) ∧ Below w.heap.size w w' := by
  obtain ⟨W0, hW0⟩ : ∃ W0, W0 = w.alloc (.cells #[.int .i64 2, .slice a zs.length c, .int .u8 (y.toNat : Int), .bool sh] 79) := ⟨_, rfl⟩
  have b0 : Below w.heap.size w W0 := by rw [hW0]; exact (Below.refl _ w).alloc (Nat.le_refl _) _
  have hbox : BoxAt W0 w.heap.size 2 a zs.length c y sh := by rw [hW0]; exact heap_alloc_new w _
  have hlt := heap_lt hbox
  have k0 := hbox.b0
  have k1 := hbox.b1
  have k2 := hbox.b2
  have k3 := hbox.b3
  rw [hW0] at k0 k1 k2 k3
  have HB0 := hid b0
  have Hbox := hid hbox
  have HW0 := hid hW0
  have Hi := hid (fun (u : World) (hu : Below w.heap.size w u) => ints_below hi hu)
  clear hi b0 hbox
  go_enter Tryz.func53, Tryz.ntmps53
  go_wp2_with (fail)
  refine (pgCommit_nil _).mono ?_
  rintro e u ⟨rfl, hu⟩
  subst u
  go_wp2_with (fail)
  refine (rCommit_nil4 _).mono ?_
  rintro e u ⟨rfl, hu⟩
  subst u
  clear hW0
  go_wp2
  go_ret
  have h9 := HB0.out
  rw [HW0.out] at h9
  exact ⟨ret_bool4 (by simp), h9⟩
set_option maxHeartbeats 4000000 in
theorem don_3 (w : World) (a : Option Addr) (zs : List Int) (c : Nat) (y : UInt8) (sh : Bool) (hi : IntsAt w a zs) (hl : zs.length ≤ 9223372036854775807) :
    Calls Tryz.prog 53 #[.pointer none, .pointer none, .agg #[.int .i64 3, .slice a zs.length c, .int .u8 (y.toNat : Int), .bool sh]] w fun e w' => e = .returned (.bool true) ∧ Below w.heap.size w w' := by
  obtain ⟨W0, hW0⟩ : ∃ W0, W0 = w.alloc (.cells #[.int .i64 3, .slice a zs.length c, .int .u8 (y.toNat : Int), .bool sh] 79) := ⟨_, rfl⟩
  have b0 : Below w.heap.size w W0 := by rw [hW0]; exact (Below.refl _ w).alloc (Nat.le_refl _) _
  have hbox : BoxAt W0 w.heap.size 3 a zs.length c y sh := by rw [hW0]; exact heap_alloc_new w _
  have hlt := heap_lt hbox
  have k0 := hbox.b0
  have k1 := hbox.b1
  have k2 := hbox.b2
  have k3 := hbox.b3
  rw [hW0] at k0 k1 k2 k3
  have HB0 := hid b0
  have Hbox := hid hbox
  have HW0 := hid hW0
  have Hi := hid (fun (u : World) (hu : Below w.heap.size w u) => ints_below hi hu)
  clear hi b0 hbox
  go_enter Tryz.func53, Tryz.ntmps53
  go_wp2_with (fail)
  refine (pgAbort_nil _).mono ?_
  rintro e u ⟨rfl, hu⟩
  subst u
  go_wp2_with (fail)
  refine (rAbort_nil4 _).mono ?_
  rintro e u ⟨rfl, hu⟩
  subst u
  clear hW0
  go_wp2
  go_ret
  have h9 := HB0.out
  rw [HW0.out] at h9
  exact ⟨ret_bool4 (by simp), h9⟩
set_option maxHeartbeats 4000000 in
theorem don_4 (w : World) (a : Option Addr) (zs : List Int) (c : Nat) (y : UInt8) (sh : Bool) (hi : IntsAt w a zs) (hl : zs.length ≤ 9223372036854775807) :
    Calls Tryz.prog 53 #[.pointer none, .pointer none, .agg #[.int .i64 4, .slice a zs.length c, .int .u8 (y.toNat : Int), .bool sh]] w fun e w' => e = .returned (.bool true) ∧ Below w.heap.size w w' := by
  obtain ⟨W0, hW0⟩ : ∃ W0, W0 = w.alloc (.cells #[.int .i64 4, .slice a zs.length c, .int .u8 (y.toNat : Int), .bool sh] 79) := ⟨_, rfl⟩
  have b0 : Below w.heap.size w W0 := by rw [hW0]; exact (Below.refl _ w).alloc (Nat.le_refl _) _
  have hbox : BoxAt W0 w.heap.size 4 a zs.length c y sh := by rw [hW0]; exact heap_alloc_new w _
  have hlt := heap_lt hbox
  have k0 := hbox.b0
  have k1 := hbox.b1
  have k2 := hbox.b2
  have k3 := hbox.b3
  rw [hW0] at k0 k1 k2 k3
  have HB0 := hid b0
  have Hbox := hid hbox
  have HW0 := hid hW0
  have Hi := hid (fun (u : World) (hu : Below w.heap.size w u) => ints_below hi hu)
  have c1 := k1
  have hwd : w.heap.size ≤ W0.heap.size := b0.size
  clear hi b0 hbox k1 k2 k3
  go_enter Tryz.func53, Tryz.ntmps53
  go_wp2
  go_region_held3 (fun w9 => w9.cell? ⟨w.heap.size, 1, none⟩ = some (.slice a zs.length c)) (first | exact c1 | exact q2.out | exact q1.out)
    (first
      | ((go_at_call 112; refine (rPin_nil4 u1 _).mono ?_; rintro e u2 ⟨rfl, hu2⟩; have q2 := hid (show u2.cell? ⟨w.heap.size, 1, none⟩ = some (.slice a zs.length c) from (by rw [hu2]; exact q1.out)); have HB2 : Hid (Below w.heap.size w u2) := (by rw [hu2]; exact HB1.out); clear hu2))
      | ((go_at_call 70; refine (pgPin_nil _ _).mono ?_; rintro e u1 ⟨rfl, hu1⟩; have q1 := hid (show u1.cell? ⟨w.heap.size, 1, none⟩ = some (.slice a zs.length c) from (by rw [hu1]; exact c1)); have HB1 : Hid (Below w.heap.size w u1) := (by rw [hu1, ← HW0.out]; exact HB0.out.trans ⟨rfl, rfl, rfl, Nat.le_refl _, fun _ _ => rfl⟩); clear hu1)))
  clear c1 q1 q2
  go_wp2
  go_ret
  exact ⟨ret_bool4 (by simp), HB2.out⟩
set_option maxHeartbeats 4000000 in
theorem don_5 (w : World) (kd : Int) (hkd : kd ≠ 0 ∧ kd ≠ 1 ∧ kd ≠ 2 ∧ kd ≠ 3 ∧ kd ≠ 4) (a : Option Addr) (zs : List Int) (c : Nat) (y : UInt8) (sh : Bool) (hi : IntsAt w a zs) (hl : zs.length ≤ 9223372036854775807) :
    Calls Tryz.prog 53 #[.pointer none, .pointer none, .agg #[.int .i64 kd, .slice a zs.length c, .int .u8 (y.toNat : Int), .bool sh]] w fun e w' => e = .returned (.bool true) ∧ Below w.heap.size w w' := by
  obtain ⟨W0, hW0⟩ : ∃ W0, W0 = w.alloc (.cells #[.int .i64 kd, .slice a zs.length c, .int .u8 (y.toNat : Int), .bool sh] 79) := ⟨_, rfl⟩
  have b0 : Below w.heap.size w W0 := by rw [hW0]; exact (Below.refl _ w).alloc (Nat.le_refl _) _
  have hbox : BoxAt W0 w.heap.size kd a zs.length c y sh := by rw [hW0]; exact heap_alloc_new w _
  have hlt := heap_lt hbox
  have k0 := hbox.b0
  have k1 := hbox.b1
  have k2 := hbox.b2
  have k3 := hbox.b3
  rw [hW0] at k0 k1 k2 k3
  have HB0 := hid b0
  have Hbox := hid hbox
  have HW0 := hid hW0
  have Hi := hid (fun (u : World) (hu : Below w.heap.size w u) => ints_below hi hu)
  obtain ⟨d0, d1, d2, d3, d4⟩ := hkd
  have c1 := k1
  have hwd : w.heap.size ≤ W0.heap.size := b0.size
  clear hi b0 hbox k1 k2 k3
  go_enter Tryz.func53, Tryz.ntmps53
  go_wp2
  go_region_held3 (fun w9 => w9.cell? ⟨w.heap.size, 1, none⟩ = some (.slice a zs.length c)) (first | exact c1 | exact q2.out | exact q1.out)
    (first
      | ((go_at_call 114; refine (rUnpin_nil4 u1 _).mono ?_; rintro e u2 ⟨rfl, hu2⟩; have q2 := hid (show u2.cell? ⟨w.heap.size, 1, none⟩ = some (.slice a zs.length c) from (by rw [hu2]; exact q1.out)); have HB2 : Hid (Below w.heap.size w u2) := (by rw [hu2]; exact HB1.out); clear hu2))
      | ((go_at_call 113; refine (pgUnpin_nil _ _).mono ?_; rintro e u1 ⟨rfl, hu1⟩; have q1 := hid (show u1.cell? ⟨w.heap.size, 1, none⟩ = some (.slice a zs.length c) from (by rw [hu1]; exact c1)); have HB1 : Hid (Below w.heap.size w u1) := (by rw [hu1, ← HW0.out]; exact HB0.out.trans ⟨rfl, rfl, rfl, Nat.le_refl _, fun _ _ => rfl⟩); clear hu1)))
  clear c1 q1 q2
  go_wp2
  go_ret
  exact ⟨ret_bool4 (by simp), HB2.out⟩
theorem don_any (w : World) (kd : Int) (a : Option Addr) (zs : List Int) (c : Nat) (y : UInt8) (sh : Bool) (hi : IntsAt w a zs) (hl : zs.length ≤ 9223372036854775807) :
    Calls Tryz.prog 53 #[.pointer none, .pointer none, .agg #[.int .i64 kd, .slice a zs.length c, .int .u8 (y.toNat : Int), .bool sh]] w fun e w' => e = .returned (.bool true) ∧ Below w.heap.size w w' := by
  by_cases h0 : kd = 0
  · subst h0; exact don_0 w a zs c y sh hi hl
  by_cases h1 : kd = 1
  · subst h1; exact don_1 w a zs c y sh hi hl
  by_cases h2 : kd = 2
  · subst h2; exact don_2 w a zs c y sh hi hl
  by_cases h3 : kd = 3
  · subst h3; exact don_3 w a zs c y sh hi hl
  by_cases h4 : kd = 4
  · subst h4; exact don_4 w a zs c y sh hi hl
  exact don_5 w kd ⟨h0, h1, h2, h3, h4⟩ a zs c y sh hi hl
set_option maxHeartbeats 400000 in
theorem refFork_ok {w : World} {B r : Nat} {F L : Value} {vs us : List Value} {fs : List (List UInt8)} {ls : List (Nat × List UInt8)} (h : RefAt w B r F L vs us fs ls) (hB : B ≤ w.heap.size) :
    Calls Tryz.prog 84 #[.pointer (some ⟨r, 0, none⟩)] w fun e w' => ∃ f, e = .returned (.pointer (some ⟨f, 0, none⟩)) ∧ RefAt w' B f F L vs us fs ls ∧ Below w.heap.size w w' := by
  have H := hid h
  have c0 := cell_of_row _ _ 0 _ _ _ h.obj
  have c1 := cell_of_row _ _ 1 _ _ _ h.obj
  simp only [List.getElem?_toArray, List.getElem?_cons_zero, List.getElem?_cons_succ] at c0 c1
  obtain ⟨fa, fn, fc, rfl⟩ : ∃ fa fn fc, F = .slice fa fn fc := by
    rcases h.first.2 with ⟨hv, h0⟩ | ⟨g, cap, cur, hv, _⟩
    · exact ⟨none, 0, 0, hv⟩
    · exact ⟨_, _, _, hv⟩
  obtain ⟨la, ln, lc, rfl⟩ : ∃ la ln lc, L = .slice la ln lc := by
    rcases h.log.2 with ⟨hv, h0⟩ | ⟨g, cap, cur, hv, _⟩
    · exact ⟨none, 0, 0, hv⟩
    · exact ⟨_, _, _, hv⟩
  clear h
  go_enter Tryz.func84, Tryz.ntmps84
  go_wp2
  go_region
  all_goals
    go_wp2
    go_ret
    refine ⟨_, rfl, ?_, ?_⟩
    · have hlt := H.out.lts
      have hb : Below w.heap.size w (w.alloc (.cells #[.slice fa fn fc, .slice la ln lc] 125)).drew := ((Below.refl _ w).alloc (Nat.le_refl _) _).trans (below_drewN _ _ 1)
      have h1 := H.out.below hb
      exact ⟨heap_alloc_new w _, h1.first, h1.vlen, h1.rows, h1.log, h1.ulen, h1.lrows, h1.lnil, hB, fun k hk => by have := (hlt.2 k hk).2; omega⟩
    · exact ((Below.refl _ w).alloc (Nat.le_refl _) _).trans (below_drewN _ _ 1)
set_option maxHeartbeats 400000 in
theorem rdisk_any {w : World} {B m r : Nat} {F L : Value} {vs us : List Value} {S G U : Nat} {fs : List (List UInt8)} {ls : List (Nat × List UInt8)} (h : RefLog w B m r F L vs us S G U fs ls) (hB : B ≤ w.heap.size) :
    Calls Tryz.prog 33 #[.pointer (some ⟨m, 0, none⟩)] w fun e w' => ∃ f, e = .returned (.pointer (some ⟨f, 0, none⟩)) ∧ RefAt w' B f F L vs us fs ls ∧ Below w.heap.size w w' := by
  have Hf := hid (refFork_ok h.disk hB)
  have c0 := h.c0
  clear h
  go_enter Tryz.func33, Tryz.ntmps33
  go_wp2_with (fail)
  refine Hf.out.mono ?_
  rintro e w1 ⟨f, rfl, hR, hb⟩
  have HR := hid hR
  have HB := hid hb
  clear hR hb
  go_wp2
  go_ret
  exact ⟨f, rfl, HR.out, HB.out⟩
end Go.Proofs.YthdcjepkehifoaaGreat

/- open of law 4: both caches, or none. -/
namespace Go.Proofs.YthdcjepkehifoaaGreat
open Go.RowKit Go.Maps Go.Sort Go.Shelf
set_option linter.unusedVariables false
set_option maxRecDepth 20000
theorem pgNew_bad (w : World) (l : Nat) (x : Int) (hx : x < 1 ∨ 64 < x) : Calls Tryz.prog 72 #[.pointer (some ⟨l, 0, none⟩), .int .i64 x] w fun e w' => e = .returned (.tuple #[.pointer none, .int .i64 2]) ∧ w' = w := by
  by_cases h1 : x < 1
  · go_enter Tryz.func72, Tryz.ntmps72
    go_wp2
    go_ret2
    exact ⟨rfl, rfl⟩
  · have h2 : 64 < x := by omega
    go_enter Tryz.func72, Tryz.ntmps72
    go_wp2
    go_ret2
    exact ⟨rfl, rfl⟩
theorem refPgNew_bad (w : World) (l : Nat) (x : Int) (hx : x < 1 ∨ 64 < x) : Calls Tryz.prog 106 #[.pointer (some ⟨l, 0, none⟩), .int .i64 x] w fun e w' => e = .returned (.tuple #[.pointer none, .int .i64 2]) ∧ w' = w := by
  by_cases h1 : x < 1
  · go_enter Tryz.func106, Tryz.ntmps106
    go_wp2
    go_ret2
    exact ⟨rfl, rfl⟩
  · have h2 : 64 < x := by omega
    go_enter Tryz.func106, Tryz.ntmps106
    go_wp2
    go_ret2
    exact ⟨rfl, rfl⟩
def rnewS (S mo : Nat) : RS := ⟨S, 11, 0, [], [], mo, [], [], [], 0, 0⟩
set_option maxHeartbeats 400000 in
theorem refPgNew_two (w : World) (l mo : Nat) (h1 : 1 ≤ mo) (h2 : mo ≤ 64) :
    Calls Tryz.prog 106 #[.pointer (some ⟨l, 0, none⟩), .int .i64 (mo : Int)] w fun e w' => e = .returned (.tuple #[.pointer (some ⟨w.heap.size, 0, none⟩), .int .i64 0]) ∧ w'.heap[w.heap.size]? = some (.cells #[.pointer (some ⟨l, 0, none⟩), .int .i64 (mo : Int), .slice none 0 0, .slice none 0 0, .slice none 0 0, .int .i64 0, .int .i64 0] 82 (0, 0)) ∧ Below w.heap.size w w' := by
  have g1 : decide ((mo : Int) < 1) = false := decide_eq_false (by omega)
  have g2 : decide ((64 : Int) < (mo : Int)) = false := decide_eq_false (by omega)
  go_enter Tryz.func106, Tryz.ntmps106
  go_wp2
  go_ret2
  exact ⟨rfl, heap_alloc_new w _, (Below.refl _ w).alloc (Nat.le_refl _) _⟩
def Open4b (S mo : Nat) (w : World) (e : Ending) (w' : World) : Prop :=
  ∃ p q m, e = .returned (.tuple #[.pointer (some ⟨p, 0, none⟩), .pointer (some ⟨q, 0, none⟩), .bool true]) ∧ Duo4 w' w.heap.size p q (newS S 11 0 0 [] [] mo) (rnewS S mo) (fun k => k < w.heap.size) m ∧ Below w.heap.size w w'
set_option maxHeartbeats 1600000 in
theorem lawOpen4_two (w : World) (S mo : Nat) (hS : 2 ≤ S) (h2 : S + 12 ≤ 1024) (hm1 : 1 ≤ mo) (hm2 : mo ≤ 64) :
    Calls Tryz.prog 51 #[.int .i64 (S : Int), .int .i64 (mo : Int)] w (Open4b S mo w) := by
  obtain ⟨n, hn⟩ : ∃ n, n = S + 12 := ⟨_, rfl⟩
  have Hn := hid hn
  have hw : IntKind.i64.wrap ((S : Int) + 12) = (n : Int) := by rw [IntKind.wrap_i64]; omega
  rw [← hn] at h2
  clear hn
  have h1 : 1 ≤ n := by have := Hn.out; omega
  have Hnn : Hid (n = S + 1 + 11) := by show _ = _; have := Hn.out; omega
  go_enter Tryz.func51, Tryz.ntmps51
  go_wp2_with (fail)
  refine (new_ok n w h1 h2).mono ?_
  rintro e w1 ⟨d0, g0, cap0, rfl, hD, hb1⟩
  have HD := hid hD
  have Hb1 := hid hb1
  clear hD hb1
  go_wp2_with (fail)
  refine (refNew_ok n w1 h1 h2).mono ?_
  rintro e w2 ⟨r, F, vs, rfl, hR, hb2⟩
  have HR := hid hR
  have HD2 := hid (HD.out.below hb2)
  have Hb2 := hid (Hb1.out.trans (hb2.mono Hb1.out.size))
  clear hR hb2 HD Hb1
  have Ho := hid (open_ok HD2.out S 0 11 [] (by exact inv_new n S 11 Hnn.out hS (by omega) h2) (by omega) (by simp))
  go_wp2_with (fail)
  refine Ho.out.mono ?_
  rintro e w3 ⟨l, d, g, cap, mb, n0, rfl, hn0, hM, hb3⟩
  obtain rfl : n0 = 0 := by
    have : usedOf [] = 0 := rfl
    omega
  have HM := hid (hM.mono Hb2.out.size)
  have Hltm := hid (hM.mono Hb2.out.size).lts
  have HR3 := hid (HR.out.below hb3)
  have Hb3 := hid (Hb2.out.trans (hb3.mono Hb2.out.size))
  clear hM hb3 HR HD2 Ho Hb2
  go_wp2_with (fail)
  refine (refOpen_two HR3.out S 11 Hnn.out hS (by omega) h2).mono ?_
  rintro e w4 ⟨m, r3, F3, vs3, rfl, hL3, hfar, hb4⟩
  have HM4 := hid (HM.out.below hb4)
  have Hb4 := hid (Hb3.out.trans (hb4.mono Hb3.out.size))
  have HL3 := hid hL3
  have Hfar := hid hfar
  have Hs3 := hid Hb3.out.size
  have Hs34 := hid hb4.size
  clear hb4 HM Hb3 HR3 hL3 hfar
  have hA : At1 w4 0 S 11 0 l d g cap mb 0 (.slice none 0 0) 0 [] [] := by
    have h0 := HM4.out.mono (B' := 0) (Nat.zero_le _)
    rw [Hnn.out] at h0
    exact ⟨h0, inv_new _ S 11 rfl hS (by omega) (by have := Hn.out; omega), Nat.le_refl _, Nat.zero_le _, Nat.zero_le _⟩
  have HN := hid (pgNew_ok hA (by omega) mo hm1 hm2)
  clear hA
  go_wp2_with (fail)
  refine HN.out.mono ?_
  rintro e w5 ⟨p, pm, rfl, hP, hb5, hfr, hl5⟩
  have HP := hid hP
  have Hb45 := hid hb5
  have Hb5 := hid (Hb4.out.trans (hb5.mono Hb4.out.size))
  have Hfr := hid hfr
  clear hP hb5 hfr HN
  go_wp2_with (fail)
  refine (refPgNew_two w5 m mo hm1 hm2).mono ?_
  rintro e w6 ⟨rfl, hobj, hb6⟩
  have HP6 := hid (HP.out.below hb6)
  have Hb56 := hid hb6
  have Hb6 := hid (Hb5.out.trans (hb6.mono Hb5.out.size))
  have Hobj := hid hobj
  clear hb6 hobj
  go_wp2
  go_ret3
  have en : List.replicate n zpage = fresh S 11 := by unfold fresh; rw [Hnn.out]
  have hiv : LogInv (psOf (fresh S 11) []) S 0 [] 11 := inv_new _ S 11 rfl hS (by omega) (by have := Hn.out; omega)
  have hRW : RW w4 w3.heap.size m r3 F3 (.slice none 0 0) vs3 [] S 0 (usedOf []) (fresh S 11) [] := by
    have h := HL3.out
    rw [en] at h
    exact ⟨h, Hfar.out, (fun c hc => by cases hc), fun p hp => by rw [(List.mem_replicate.1 hp).2, zpage_length]⟩
  have href : RQ w4 w.heap.size m S 0 [] 11 [] (fun j => w3.heap.size ≤ j ∧ j < w4.heap.size) := ⟨r3, F3, _, vs3, [], hRW.mono Hs3.out, hiv, fun j hj => hRW.lts j hj⟩
  have hs45 := Hb45.out.size
  have hs56 := Hb56.out.size
  have hs34 := Hs34.out
  have hs3 := Hs3.out
  have hq6 := heap_lt Hobj.out
  have href6 := (href.below Hb45.out).below Hb56.out
  obtain ⟨mm, hmm⟩ : ∃ mm : RM, mm = ⟨m, .slice none 0 0, .slice none 0 0, .slice none 0 0, fun _ => 0, fun _ => 0, fun j => w3.heap.size ≤ j ∧ j < w4.heap.size⟩ := ⟨_, rfl⟩
  have hRP : RPm w6 w.heap.size w5.heap.size mm (rnewS S mo) := by
    rw [hmm]
    exact ⟨Hobj.out, href6, World.ownsRow_nil _ _ _ _, World.ownsRow_nil _ _ _ _, World.ownsRow_nil _ _ _ _, fun c hc => (by cases hc), fun c hc => (by cases hc), List.nodup_nil, fun k e => (by simp [Value.ownBlock] at e), fun k e => (by simp [Value.ownBlock] at e), fun k e => (by simp [Value.ownBlock] at e), fun hR => (by have := hR.2; omega), fun j hj => ⟨by have := hj.1; omega, by have := hj.2; omega⟩, by omega⟩
  have hall : ∀ k, rAll w5.heap.size mm (rnewS S mo) k → k = w5.heap.size ∨ (w3.heap.size ≤ k ∧ k < w4.heap.size) := fun k hk => by
    rw [hmm] at hk
    rcases hk with e | e | e | e | e | ⟨c, hc, _⟩
    · exact .inl e
    · exact .inr e
    · simp [Value.ownBlock] at e
    · simp [Value.ownBlock] at e
    · simp [Value.ownBlock] at e
    · cases hc
  refine ⟨p, w5.heap.size, mm, by simp, ⟨hRP, ⟨pm, HP6.out, newS_ext _ _ _ _ _ _ _, fun k hk => ?_⟩, ⟨rfl, rfl, rfl, rfl, rfl, rfl, rfl, rfl, rfl, List.Perm.refl _, List.nodup_nil, fun x => by show x ∈ [] ↔ x ∈ [] ∧ _; simp⟩, fun k hk => ⟨by omega, fun ha => ?_⟩⟩, Hb6.out⟩
  · have hap : allB p pm (newS S 11 0 0 [] [] mo) k → (w.heap.size ≤ k ∧ k < w3.heap.size) ∨ (w4.heap.size ≤ k ∧ k < w5.heap.size) := fun ha => by
      have h5 := HP.out.lts k ha
      rcases Hfr.out k ha with h7 | h7
      · exact .inl (Hltm.out k h7)
      · exact .inr ⟨h7, h5⟩
    rcases hk with hk | hk
    · refine ⟨hRP.lts k hk, fun ha => ?_⟩
      rcases hall k hk with h7 | h7 <;> rcases hap ha with h8 | h8 <;> omega
    · refine ⟨by omega, fun ha => ?_⟩
      rcases hap ha with h8 | h8 <;> omega
  · rcases hall k ha with h7 | h7 <;> omega
set_option maxHeartbeats 1600000 in
theorem lawOpen4_none (w : World) (S : Nat) (x : Int) (hS : 2 ≤ S) (h2 : S + 12 ≤ 1024) (hx : x < 1 ∨ 64 < x) :
    Calls Tryz.prog 51 #[.int .i64 (S : Int), .int .i64 x] w fun e w' => e = .returned (.tuple #[.pointer none, .pointer none, .bool true]) ∧ Below w.heap.size w w' := by
  obtain ⟨n, hn⟩ : ∃ n, n = S + 12 := ⟨_, rfl⟩
  have Hn := hid hn
  have hw : IntKind.i64.wrap ((S : Int) + 12) = (n : Int) := by rw [IntKind.wrap_i64]; omega
  rw [← hn] at h2
  clear hn
  have h1 : 1 ≤ n := by have := Hn.out; omega
  have Hnn : Hid (n = S + 1 + 11) := by show _ = _; have := Hn.out; omega
  have Hx := hid hx
  clear hx
  go_enter Tryz.func51, Tryz.ntmps51
  go_wp2_with (fail)
  refine (new_ok n w h1 h2).mono ?_
  rintro e w1 ⟨d0, g0, cap0, rfl, hD, hb1⟩
  have HD := hid hD
  have Hb1 := hid hb1
  clear hD hb1
  go_wp2_with (fail)
  refine (refNew_ok n w1 h1 h2).mono ?_
  rintro e w2 ⟨r, F, vs, rfl, hR, hb2⟩
  have HR := hid hR
  have HD2 := hid (HD.out.below hb2)
  have Hb2 := hid (Hb1.out.trans (hb2.mono Hb1.out.size))
  clear hR hb2 HD Hb1
  have Ho := hid (open_ok HD2.out S 0 11 [] (by exact inv_new n S 11 Hnn.out hS (by omega) h2) (by omega) (by simp))
  go_wp2_with (fail)
  refine Ho.out.mono ?_
  rintro e w3 ⟨l, d, g, cap, mb, n0, rfl, hn0, hM, hb3⟩
  have HR3 := hid (HR.out.below hb3)
  have Hb3 := hid (Hb2.out.trans (hb3.mono Hb2.out.size))
  clear hM hb3 HR HD2 Ho Hb2 hn0
  go_wp2_with (fail)
  refine (refOpen_two HR3.out S 11 Hnn.out hS (by omega) h2).mono ?_
  rintro e w4 ⟨m, r3, F3, vs3, rfl, hL3, hfar, hb4⟩
  have Hb4 := hid (Hb3.out.trans (hb4.mono Hb3.out.size))
  clear hb4 Hb3 HR3 hL3 hfar
  go_wp2_with (fail)
  refine (pgNew_bad w4 l x Hx.out).mono ?_
  rintro e u ⟨rfl, hu⟩
  subst u
  go_wp2_with (fail)
  refine (refPgNew_bad w4 m x Hx.out).mono ?_
  rintro e u ⟨rfl, hu⟩
  subst u
  go_wp2
  go_ret3
  exact ⟨by simp, Hb4.out⟩
end Go.Proofs.YthdcjepkehifoaaGreat
