/- do of law 4: Write, Pin, Unpin. -/
import Derived.Test.YthdcjepkehifoaaGreatVD1
namespace Go.Proofs.YthdcjepkehifoaaGreat
open Go.RowKit Go.Maps Go.Sort Go.Shelf
set_option linter.unusedVariables false
set_option maxRecDepth 20000
theorem write_c2 {w : World} {p : Nat} {s : PS} {F : Nat → Prop} (h : Cache w p s F) (ht : s.t ≤ 100000) (x : Int) (hx : -9223372036854775808 ≤ x ∧ x ≤ 9223372036854775807) (y : List UInt8) (a : Option Addr) (c : Nat) (hy : Bytes w a y) (n : Nat) (hn : n = y.length) :
    Calls Tryz.prog 66 #[.pointer (some ⟨p, 0, none⟩), .int .i64 x, .slice a n c] w fun e w' => e = .returned (.int .i64 (writeE s x n)) ∧ Cache w' p (if writeE s x n = 0 then writeS s x.toNat y else s) F ∧ Kept F w w' := by
  refine (write_c h ht x hx y a c hy n hn).mono ?_
  subst hn
  rintro e w' (⟨h1, rfl, h2, h3⟩ | ⟨h1, rfl, h2, h3⟩)
  · rw [if_neg h1]; exact ⟨rfl, h2, h3⟩
  · rw [h1, if_pos rfl]; exact ⟨rfl, h2, h3⟩
theorem BoxAt.all {w : World} {D : Nat} {kd : Int} {a : Option Addr} {n c : Nat} {y : UInt8} {sh : Bool} (h : BoxAt w D kd a n c y sh) : w.cell? ⟨D, 0, none⟩ = some (.int .i64 kd) ∧ w.cell? ⟨D, 1, none⟩ = some (.slice a n c) ∧ w.cell? ⟨D, 2, none⟩ = some (.int .u8 (y.toNat : Int)) ∧ w.cell? ⟨D, 3, none⟩ = some (.bool sh) := ⟨h.b0, h.b1, h.b2, h.b3⟩
theorem pins_all (ns : List Nat) : ∀ {s : PS} {r : RS}, Agree s r → CaOk s → Ext s → (∀ x ∈ ns, x < s.P ∧ (s.dl.lookup x).isSome = false) → (pinL r.pins ns).length ≤ s.mo → Agree (ns.foldl pin1 s) (ns.foldl pinR r) ∧ (ns.foldl pin1 s).u = s.u + ns.length ∧ (ns.foldl pin1 s).t = s.t ∧ (ns.foldl pin1 s).P = s.P := by
  induction ns with
  | nil => intro s r ag _ _ _ _; exact ⟨ag, rfl, rfl, rfl⟩
  | cons x ns ih =>
    intro s r ag ok he hx hl
    obtain ⟨h1, h2⟩ := hx x (by simp)
    obtain ⟨ag2, _⟩ := ag.pin ok he x (Nat.le_trans (pinL_first ag.pn x ns) hl)
    obtain ⟨a1, a2, a3, a4, a5⟩ := pin1_same s x
    obtain ⟨g1, g2, g3, g4⟩ := ih ag2 (ok.pin1 he h1) (Ext.pin1 ok he h1 h2) (fun z hz => by rw [a1, a5]; exact hx z (by simp [hz])) (by rw [a2]; exact hl)
    refine ⟨g1, ?_, ?_, ?_⟩
    · show ((ns.foldl pin1 (pin1 s x)).u = s.u + (x :: ns).length)
      rw [g2, a4, List.length_cons]; omega
    · show ((ns.foldl pin1 (pin1 s x)).t = s.t)
      rw [g3, a3]
    · show ((ns.foldl pin1 (pin1 s x)).P = s.P)
      rw [g4, a1]
theorem pinS_agree {s : PS} {r : RS} (ag : Agree s r) (ok : CaOk s) (he : Ext s) {zs : List Int} (h : pinE s zs = 0) : Agree (pinS s zs) (rpinS r zs) ∧ (pinS s zs).u = s.u + zs.length ∧ (pinS s zs).t = s.t ∧ (pinS s zs).P = s.P := by
  unfold pinE at h
  by_cases h1 : reachE s.P zs = 0
  · rw [if_pos h1] at h
    by_cases h2 : ∃ x ∈ zs, isDi s x = true
    · rw [if_pos h2] at h; cases h
    · rw [if_neg h2] at h
      by_cases h3 : s.mo < (pinL (pinsOf s) (zs.map Int.toNat)).length
      · rw [if_pos h3] at h; cases h
      · have hm := reach_mem h1
        have hh := pins_all (zs.map Int.toNat) ag ok he (fun x hx => by
          obtain ⟨z, hz, rfl⟩ := List.mem_map.1 hx
          have h4 := hm z hz
          refine ⟨by omega, ?_⟩
          cases hb : (s.dl.lookup z.toNat).isSome with
          | false => rfl
          | true =>
            refine absurd ⟨z, hz, ?_⟩ h2
            unfold isDi
            rw [decide_eq_true h4.1, Bool.true_and, hb]) (by rw [← pinL_same ag ok]; omega)
        rw [List.length_map] at hh
        exact hh
  · rw [if_neg h1] at h; cases h
theorem unp_same {s : PS} {r : RS} (ag : Agree s r) (zs : List Int) : (zs.Nodup ∧ ∀ x ∈ zs, ∃ y ∈ r.pins, (y : Int) = x) ↔ (zs.Nodup ∧ ∀ x ∈ zs, isPi s x = true) := by
  have h : ∀ x : Int, (∃ y ∈ r.pins, (y : Int) = x) ↔ isPi s x = true := fun x => by
    unfold isPi
    rw [Bool.and_eq_true, Bool.and_eq_true, decide_eq_true_eq, decide_eq_true_eq]
    constructor
    · rintro ⟨y, hy, rfl⟩
      rw [Int.toNat_natCast]
      exact ⟨by omega, (ag.pm y).1 hy⟩
    · rintro ⟨h0, h1⟩
      exact ⟨x.toNat, (ag.pm _).2 h1, by omega⟩
  constructor
  · rintro ⟨h1, h2⟩; exact ⟨h1, fun x hx => (h x).1 (h2 x hx)⟩
  · rintro ⟨h1, h2⟩; exact ⟨h1, fun x hx => (h x).2 (h2 x hx)⟩
set_option maxHeartbeats 8000000 in
theorem do4_1 {w : World} {B p q t u : Nat} {s : PS} {r : RS} {m : RM} (h : Duo4 w B p q s r (fun k => k < B) m) (bn : Bnd s t u) (ht : t ≤ 900) (hu : u ≤ 1152921504606846976) (hB : B ≤ w.heap.size) (a : Option Addr) (zs : List Int) (c : Nat) (y : UInt8) (sh : Bool) (da : DArg w B a zs) :
    Calls Tryz.prog 53 #[.pointer (some ⟨p, 0, none⟩), .pointer (some ⟨q, 0, none⟩), .agg #[.int .i64 1, .slice a zs.length c, .int .u8 (y.toNat : Int), .bool sh]] w (Done4 w B p q t u) := by
  obtain ⟨W0, hW0⟩ : ∃ W0, W0 = w.alloc (.cells #[.int .i64 1, .slice a zs.length c, .int .u8 (y.toNat : Int), .bool sh] 79) := ⟨_, rfl⟩
  have b0 : Below w.heap.size w W0 := by rw [hW0]; exact (Below.refl _ w).alloc (Nat.le_refl _) _
  have hbox : BoxAt W0 w.heap.size 1 a zs.length c y sh := by rw [hW0]; exact heap_alloc_new w _
  have hD := h.box b0 (D := w.heap.size) (Nat.le_refl _) (heap_lt hbox)
  have da0 : DArg W0 B a zs := da.keep (fun k hk => b0.block k (by omega))
  obtain ⟨ok, hext⟩ := h.ok
  have ag := h.2.2.1
  have hfew := ag.few ok bn.P (by have := bn.u; omega)
  have hlogs := h.logs bn.P (by have := bn.t; omega)
  have k0 := hbox.b0
  have k1 := hbox.b1
  have k2 := hbox.b2
  have k3 := hbox.b3
  rw [hW0] at k0 k1 k2 k3
  have HB0 := hid (b0.mono hB)
  have HD := hid hD
  have Hbox := hid hbox
  have Hda := hid da0
  have HW0 := hid hW0
  have Hag := hid ag
  have Hok := hid ok
  have Hext := hid hext
  have hbt := bn.t
  have hbu := bn.u
  have HbP := hid bn.P
  have hwD : B ≤ W0.heap.size := Nat.le_trans hB b0.size
  unfold Done4
  obtain ⟨N, hN⟩ : ∃ N, N = dLen sh := ⟨_, rfl⟩
  have hN6 : N ≤ 256 := by rw [hN]; unfold dLen; split <;> omega
  obtain ⟨Y, hY⟩ : ∃ Y : List UInt8, Y = List.replicate N y := ⟨_, rfl⟩
  have hYl : Y.length = N := by rw [hY, List.length_replicate]
  obtain ⟨X, hX⟩ : ∃ X, X = firstOf zs := ⟨_, rfl⟩
  have hfw := da0.first
  rw [← hX] at hfw
  obtain ⟨Wc, hWc⟩ : ∃ Wc : Int, Wc = writeE s X N := ⟨_, rfl⟩
  have hEq : rwrE r X N = Wc := by
    rw [hWc]
    unfold rwrE writeE
    rw [ag.P]
    split
    · rfl
    · split
      · rfl
      · rw [if_neg]
        have := dl_few ok bn.P
        omega
  have bdr : Below W0.heap.size W0 W0.drew := ⟨rfl, rfl, rfl, Nat.le_refl _, fun _ _ => rfl⟩
  have HBd := hid (b0.mono hB)
  have Hbd : Hid (Below B w W0.drew) := HBd.out.trans (bdr.mono hwD)
  have hf1 := first4_any 1 a zs c y sh W0.drew ((da0.keep (fun k hk => bdr.block k (by omega))).ints) (by have := da0.len; omega)
  rw [← hX] at hf1
  have Hf1 := hid hf1
  have HDd := hid (hD.below bdr)
  have Hboxd : Hid (BoxAt W0.drew w.heap.size 1 a zs.length c y sh) := (bdr.block _ (heap_lt hbox)).trans hbox
  have Hdad := hid (da0.keep (fun k hk => bdr.block k (by omega)))
  have HN := hid hN
  have HY := hid hY
  have HX := hid hX
  have HWc := hid hWc
  have HEq := hid hEq
  have c0 := k0
  have c1 := k1
  have c2 := k2
  have c3 := k3
  rw [hW0] at Hf1
  clear h da b0 hbox hD da0 ok hext ag hf1 bdr hN hY hX hWc hEq bn k0 k1 k2 k3 Hbox Hda HD
  have hszd : W0.drew.heap.size = W0.heap.size := rfl
  go_enter Tryz.func53, Tryz.ntmps53
  go_wp2
  go_region_held3 (fun w9 => w9.cell? ⟨w.heap.size, 0, none⟩ = some (.int .i64 1) ∧ w9.cell? ⟨w.heap.size, 1, none⟩ = some (.slice a zs.length c) ∧ w9.cell? ⟨w.heap.size, 2, none⟩ = some (.int .u8 (y.toNat : Int)) ∧ w9.cell? ⟨w.heap.size, 3, none⟩ = some (.bool sh)) (first | exact ⟨c0, c1, c2, c3⟩ | exact q6.out | exact q5.out | exact q4.out | exact q3.out | exact q2.out | exact q1.out)
    (first
      | ((go_at_call 108; refine Hw6.out.mono ?_; rintro e u6 ⟨rfl, hpo⟩; have HB6 := hid (HB5.out.trans (RPo.below HRP5.out hpo)); obtain ⟨m6, hD6, hkp6⟩ := duo_ref HRP5.out HC5.out HE5.out hpo Hag6.out; have HD6 := hid hD6; have q6 := hid (BoxAt.all ((hkp6 _ (.inr rfl)).trans Hbox5.out)); clear hpo hD6 hkp6))
      | ((go_at_call 67; refine (Hby2.out u4).mono ?_; rintro e u5 ⟨g5, c5, rfl, hr5, hg5, hb5⟩; rw [← HN.out] at hr5; rw [← HN.out]; have HRP5 := hid (HRP4.out.below hb5); have HC5 := hid (HC4.out.below hb5); have HE5 : Hid (∀ k, (k < B ∨ k = w.heap.size) → k < u5.heap.size ∧ ¬ rAll q m r k) := fun k hk => ⟨Nat.lt_of_lt_of_le (HE4.out k hk).1 hb5.size, (HE4.out k hk).2⟩; have HB5 := hid (HB4.out.trans (hb5.mono (by have := HB4.out.size; omega))); have Hbox5 : Hid (BoxAt u5 w.heap.size 1 a zs.length c y sh) := (hb5.block _ (heap_lt Hbox4.out)).trans Hbox4.out; have q5 := hid Hbox5.out.all; rw [← HY.out] at hr5; have hw6 := rpWrite_any HRP5.out X hfw Y g5 c5 (bytes_of_row hr5 hYl) (by omega) (by omega) (by omega) (by omega); unfold RwPost at hw6; rw [hYl, HEq.out] at hw6; have Hw6 := hid hw6; clear hr5 hg5 hb5 hw6))
      | ((go_at_call 65; refine Hf4.out.mono ?_; rintro e u4 ⟨rfl, hb4⟩; have HRP4 := hid (HRP3.out.below hb4); have HC4 := hid (HC3.out.below hb4); have HE4 : Hid (∀ k, (k < B ∨ k = w.heap.size) → k < u4.heap.size ∧ ¬ rAll q m r k) := fun k hk => ⟨Nat.lt_of_lt_of_le (HE3.out k hk).1 hb4.size, (HE3.out k hk).2⟩; have HB4 := hid (HB3.out.trans (hb4.mono (by have := HB3.out.size; omega))); have Hbox4 : Hid (BoxAt u4 w.heap.size 1 a zs.length c y sh) := (hb4.block _ (heap_lt Hbox3.out)).trans Hbox3.out; have q4 := hid Hbox4.out.all; have Hby2 := hid (fun u : World => bytes4_any 1 (.slice a zs.length c) y sh u rfl); clear hb4))
      | ((go_at_call 66; refine Hw3.out.mono ?_; rintro e u3 ⟨rfl, hC3, hk3⟩; have hpr := HD2.out.prog hk3; have HRP3 := hid hpr.1; have HE3 : Hid (∀ k, (k < B ∨ k = w.heap.size) → k < u3.heap.size ∧ ¬ rAll q m r k) := hpr.2.1; have HC3 := hid hC3; have HB3 := hid (HB2.out.trans (hk3.below (by have := HB2.out.size; omega) (fun k hk => .inr (.inl hk)))); have Hbox3 : Hid (BoxAt u3 w.heap.size 1 a zs.length c y sh) := (hpr.2.2 _ (.inr rfl)).trans Hbox2.out; have q3 := hid Hbox3.out.all; have hf4 := first4_any 1 a zs c y sh u3 ((Hda2.out.keep (fun k hk => hpr.2.2 k (.inl hk))).ints) (by have := Hda2.out.len; omega); rw [← HX.out] at hf4; have Hf4 := hid hf4; clear hC3 hk3 hpr hf4))
      | ((go_at_call 67; refine (bytes4_any 1 (.slice a zs.length c) y sh u1 rfl).mono ?_; rintro e u2 ⟨g2, c2', rfl, hr2, hg2, hb2⟩; rw [← HN.out] at hr2; rw [← HN.out]; have HD2 := hid (HD1.out.below hb2); have HB2 := hid (HB1.out.trans (hb2.mono (by have := HB1.out.size; omega))); have Hbox2 : Hid (BoxAt u2 w.heap.size 1 a zs.length c y sh) := (hb2.block _ (heap_lt Hbox1.out)).trans Hbox1.out; have Hda2 := hid (Hda1.out.keep (fun k hk => hb2.block k (by have := HB1.out.size; omega))); have q2 := hid Hbox2.out.all; rw [← HY.out] at hr2; have hw3 := write_c2 HD2.out.2.1 (by omega) X hfw Y (some ⟨g2, 0, none⟩) c2' (bytes_of_row hr2 hYl) N hYl.symm; rw [← HWc.out] at hw3; have Hw3 := hid hw3; clear hr2 hg2 hb2 hw3))
      | ((go_at_call 65; refine Hf1.out.mono ?_; rintro e u1 ⟨rfl, hb1⟩; rw [← HW0.out] at hb1; have HD1 := hid (HDd.out.below hb1); have HB1 := hid (Hbd.out.trans (hb1.mono (by omega))); have Hbox1 : Hid (BoxAt u1 w.heap.size 1 a zs.length c y sh) := (hb1.block _ (heap_lt Hboxd.out)).trans Hboxd.out; have Hda1 := hid (Hdad.out.keep (fun k hk => hb1.block k (by omega))); have q1 := hid Hbox1.out.all; have Hag6 : Hid (Agree (if Wc = 0 then writeS s X.toNat Y else s) (if Wc = 0 then writeR r X.toNat Y else r)) := (by by_cases h0 : Wc = 0; rw [if_pos h0, if_pos h0]; exact Hag.out.write Hok.out X.toNat Y; rw [if_neg h0, if_neg h0]; exact Hag.out); clear hb1)))
  clear c0 c1 c2 c3 q1 q2 q3 q4 q5 q6
  go_wp2
  go_ret
  refine ⟨ret_bool4 (by simp), ⟨_, _, m6, HD6.out.less (fun k hk => .inl hk), ?_⟩, HB6.out⟩
  split
  · have e5 : (writeS s X.toNat Y).t = s.t + 1 := rfl
    have e6 : (writeS s X.toNat Y).u = s.u := rfl
    exact ⟨by omega, by omega, HbP.out⟩
  · exact ⟨by omega, by omega, HbP.out⟩
set_option maxHeartbeats 8000000 in
theorem do4_4 {w : World} {B p q t u : Nat} {s : PS} {r : RS} {m : RM} (h : Duo4 w B p q s r (fun k => k < B) m) (bn : Bnd s t u) (ht : t ≤ 900) (hu : u ≤ 1152921504606846976) (hB : B ≤ w.heap.size) (a : Option Addr) (zs : List Int) (c : Nat) (y : UInt8) (sh : Bool) (da : DArg w B a zs) :
    Calls Tryz.prog 53 #[.pointer (some ⟨p, 0, none⟩), .pointer (some ⟨q, 0, none⟩), .agg #[.int .i64 4, .slice a zs.length c, .int .u8 (y.toNat : Int), .bool sh]] w (Done4 w B p q t u) := by
  obtain ⟨W0, hW0⟩ : ∃ W0, W0 = w.alloc (.cells #[.int .i64 4, .slice a zs.length c, .int .u8 (y.toNat : Int), .bool sh] 79) := ⟨_, rfl⟩
  have b0 : Below w.heap.size w W0 := by rw [hW0]; exact (Below.refl _ w).alloc (Nat.le_refl _) _
  have hbox : BoxAt W0 w.heap.size 4 a zs.length c y sh := by rw [hW0]; exact heap_alloc_new w _
  have hD := h.box b0 (D := w.heap.size) (Nat.le_refl _) (heap_lt hbox)
  have da0 : DArg W0 B a zs := da.keep (fun k hk => b0.block k (by omega))
  obtain ⟨ok, hext⟩ := h.ok
  have ag := h.2.2.1
  have hfew := ag.few ok bn.P (by have := bn.u; omega)
  have hlogs := h.logs bn.P (by have := bn.t; omega)
  have k0 := hbox.b0
  have k1 := hbox.b1
  have k2 := hbox.b2
  have k3 := hbox.b3
  rw [hW0] at k0 k1 k2 k3
  have HB0 := hid (b0.mono hB)
  have HD := hid hD
  have Hbox := hid hbox
  have Hda := hid da0
  have HW0 := hid hW0
  have Hag := hid ag
  have Hok := hid ok
  have Hext := hid hext
  have hbt := bn.t
  have hbu := bn.u
  have HbP := hid bn.P
  have hwD : B ≤ W0.heap.size := Nat.le_trans hB b0.size
  unfold Done4
  have bdr : Below W0.heap.size W0 W0.drew := ⟨rfl, rfl, rfl, Nat.le_refl _, fun _ _ => rfl⟩
  have Hbd : Hid (Below B w W0.drew) := HB0.out.trans (bdr.mono hwD)
  have HDd := hid (hD.below bdr)
  have Hboxd : Hid (BoxAt W0.drew w.heap.size 4 a zs.length c y sh) := (bdr.block _ (heap_lt hbox)).trans hbox
  have Hdad := hid (da0.keep (fun k hk => bdr.block k (by omega)))
  have c1 := k1
  obtain ⟨Wc, hWc⟩ : ∃ Wc : Int, Wc = pinE s zs := ⟨_, rfl⟩
  obtain ⟨S1, hS1⟩ : ∃ S1 : PS, S1 = if Wc = 0 then pinS s zs else s := ⟨_, rfl⟩
  obtain ⟨R1, hR1⟩ : ∃ R1 : RS, R1 = if Wc = 0 then rpinS r zs else r := ⟨_, rfl⟩
  have hag1 : Agree S1 R1 ∧ S1.u ≤ s.u + zs.length ∧ S1.t = s.t ∧ S1.P = s.P := by
    rw [hS1, hR1]
    by_cases h0 : Wc = 0
    · rw [if_pos h0, if_pos h0]
      obtain ⟨h1, h2, h3, h4⟩ := pinS_agree ag ok hext (hWc ▸ h0)
      exact ⟨h1, by omega, h3, h4⟩
    · rw [if_neg h0, if_neg h0]
      exact ⟨ag, by omega, rfl, rfl⟩
  have hp1 := pin_c HDd.out.2.1 (by omega) (by omega) (by rw [bn.P]; omega) a zs c Hdad.out.ints (fun b o e h0 => .inr (.inl (Hdad.out.low b o e h0))) Hdad.out.len Hdad.out.wf
  unfold PinC at hp1
  rw [← hWc, ← hS1] at hp1
  have Hp1 := hid hp1
  rw [hW0] at Hp1
  have Hag1 := hid hag1
  have HWc := hid hWc
  have HR1 := hid hR1
  have hlen := Hdad.out.len
  clear h da b0 hbox hD da0 ok hext ag bdr hp1 hag1 hWc hR1 hS1 bn k1 k2 k3 Hbox Hda HD
  go_enter Tryz.func53, Tryz.ntmps53
  go_wp2
  go_region_held3 (fun w9 => w9.cell? ⟨w.heap.size, 1, none⟩ = some (.slice a zs.length c)) (first | exact c1 | exact q2.out | exact q1.out)
    (first
      | ((go_at_call 112; refine Hp2.out.mono ?_; intro e u2 hpost; obtain ⟨rfl, hpo⟩ := hpost; have HB2 := hid (HB1.out.trans (RPo.below HRP1.out hpo)); obtain ⟨m2, hD2, hkp2⟩ := duo_ref HRP1.out HC1.out HE1.out hpo Hag1.out.1; have HD2 := hid hD2; have q2 := hid (BoxAt.b1 ((hkp2 _ (.inr rfl)).trans Hbox1.out)); clear hpo hD2 hkp2))
      | ((go_at_call 70; refine Hp1.out.mono ?_; rintro e u1 ⟨rfl, hC1, hk1⟩; rw [← HW0.out] at hk1; have hpr := HDd.out.prog hk1; have HRP1 := hid hpr.1; have HE1 : Hid (∀ k, (k < B ∨ k = w.heap.size) → k < u1.heap.size ∧ ¬ rAll q m r k) := hpr.2.1; have HC1 := hid hC1; have HB1 := hid (Hbd.out.trans (hk1.below (show B ≤ W0.heap.size from hwD) (fun k hk => .inr (.inl hk)))); have Hbox1 : Hid (BoxAt u1 w.heap.size 4 a zs.length c y sh) := (hpr.2.2 _ (.inr rfl)).trans Hboxd.out; have q1 := hid Hbox1.out.b1; have hda1 := Hdad.out.keep (w' := u1) (fun k hk => hpr.2.2 k (.inl hk)); have hp2 := rpPin_any HRP1.out Hag.out Hok.out Hext.out (by omega) (by rw [HbP.out]; omega) (by omega) a zs c hda1.ints hda1.low (by omega) hda1.wf; unfold PinR at hp2; rw [← HWc.out, ← HR1.out] at hp2; have Hp2 := hid hp2; clear hC1 hk1 hpr hda1 hp2)))
  clear c1 q1 q2
  go_wp2
  go_ret
  obtain ⟨_, g1, g2, g3⟩ := Hag1.out
  exact ⟨ret_bool4 (by simp), ⟨S1, R1, m2, HD2.out.less (fun k hk => .inl hk), ⟨by omega, by omega, by rw [g3]; exact HbP.out⟩⟩, HB2.out⟩
set_option maxHeartbeats 8000000 in
theorem do4_5 {w : World} {B p q t u : Nat} {s : PS} {r : RS} {m : RM} (h : Duo4 w B p q s r (fun k => k < B) m) (bn : Bnd s t u) (ht : t ≤ 900) (hu : u ≤ 1152921504606846976) (hB : B ≤ w.heap.size) (kd : Int) (hkd : kd ≠ 0 ∧ kd ≠ 1 ∧ kd ≠ 2 ∧ kd ≠ 3 ∧ kd ≠ 4) (a : Option Addr) (zs : List Int) (c : Nat) (y : UInt8) (sh : Bool) (da : DArg w B a zs) :
    Calls Tryz.prog 53 #[.pointer (some ⟨p, 0, none⟩), .pointer (some ⟨q, 0, none⟩), .agg #[.int .i64 kd, .slice a zs.length c, .int .u8 (y.toNat : Int), .bool sh]] w (Done4 w B p q t u) := by
  obtain ⟨W0, hW0⟩ : ∃ W0, W0 = w.alloc (.cells #[.int .i64 kd, .slice a zs.length c, .int .u8 (y.toNat : Int), .bool sh] 79) := ⟨_, rfl⟩
  have b0 : Below w.heap.size w W0 := by rw [hW0]; exact (Below.refl _ w).alloc (Nat.le_refl _) _
  have hbox : BoxAt W0 w.heap.size kd a zs.length c y sh := by rw [hW0]; exact heap_alloc_new w _
  have hD := h.box b0 (D := w.heap.size) (Nat.le_refl _) (heap_lt hbox)
  have da0 : DArg W0 B a zs := da.keep (fun k hk => b0.block k (by omega))
  obtain ⟨ok, hext⟩ := h.ok
  have ag := h.2.2.1
  have hfew := ag.few ok bn.P (by have := bn.u; omega)
  have hlogs := h.logs bn.P (by have := bn.t; omega)
  have k0 := hbox.b0
  have k1 := hbox.b1
  have k2 := hbox.b2
  have k3 := hbox.b3
  rw [hW0] at k0 k1 k2 k3
  have HB0 := hid (b0.mono hB)
  have HD := hid hD
  have Hbox := hid hbox
  have Hda := hid da0
  have HW0 := hid hW0
  have Hag := hid ag
  have Hok := hid ok
  have Hext := hid hext
  have hbt := bn.t
  have hbu := bn.u
  have HbP := hid bn.P
  have hwD : B ≤ W0.heap.size := Nat.le_trans hB b0.size
  unfold Done4
  have bdr : Below W0.heap.size W0 W0.drew := ⟨rfl, rfl, rfl, Nat.le_refl _, fun _ _ => rfl⟩
  have Hbd : Hid (Below B w W0.drew) := HB0.out.trans (bdr.mono hwD)
  have HDd := hid (hD.below bdr)
  have Hboxd : Hid (BoxAt W0.drew w.heap.size kd a zs.length c y sh) := (bdr.block _ (heap_lt hbox)).trans hbox
  have Hdad := hid (da0.keep (fun k hk => bdr.block k (by omega)))
  have c1 := k1
  obtain ⟨Wc, hWc⟩ : ∃ Wc : Int, Wc = unpE s zs := ⟨_, rfl⟩
  obtain ⟨S1, hS1⟩ : ∃ S1 : PS, S1 = if Wc = 0 then unpS s zs else s := ⟨_, rfl⟩
  obtain ⟨R1, hR1⟩ : ∃ R1 : RS, R1 = if Wc = 0 then { r with pins := r.pins.filter (fun y : Nat => !zs.contains (y : Int)) } else r := ⟨_, rfl⟩
  have hag1 : Agree S1 R1 ∧ S1.u ≤ s.u + zs.length ∧ S1.t = s.t ∧ S1.P = s.P := by
    rw [hS1, hR1]
    by_cases h0 : Wc = 0
    · rw [if_pos h0, if_pos h0]
      exact ⟨ag.unpin zs, Nat.le_add_right _ _, rfl, rfl⟩
    · rw [if_neg h0, if_neg h0]
      exact ⟨ag, by omega, rfl, rfl⟩
  have hur : ∀ (V : World) (e : Ending) (V' : World), UnpR V B q m r zs e V' → e = .returned (.int .i64 Wc) ∧ RPo V B q m r R1 V' := fun V e V' hU => by
    have hsp := unpL_spec r.pins zs
    rcases hU with ⟨p', h1, rfl, h2⟩ | ⟨h1, rfl, h2⟩
    · rcases hsp with ⟨h3, h4⟩ | ⟨_, h4⟩
      · rw [h4] at h1
        cases h1
        have e0 : Wc = 0 := by rw [hWc]; unfold unpE; rw [if_pos ((unp_same ag zs).1 h3)]
        rw [hR1, if_pos e0, e0]
        exact ⟨rfl, h2⟩
      · rw [h4] at h1; cases h1
    · rcases hsp with ⟨_, h4⟩ | ⟨h3, h4⟩
      · rw [h4] at h1; cases h1
      · have e0 : Wc = 4 := by rw [hWc]; unfold unpE; rw [if_neg (fun hh => h3 ((unp_same ag zs).2 hh))]
        rw [hR1, if_neg (by rw [e0]; decide), e0]
        exact ⟨rfl, h2⟩
  have Hur := hid hur
  have hp1 := unpin_c HDd.out.2.1 (by rw [bn.P]; omega) a zs c Hdad.out.ints (fun b o e h0 => .inr (.inl (Hdad.out.low b o e h0))) Hdad.out.len Hdad.out.wf
  unfold UnpC at hp1
  rw [← hWc, ← hS1] at hp1
  obtain ⟨d0, d1, d2, d3, d4⟩ := hkd
  have Hp1 := hid hp1
  rw [hW0] at Hp1
  have Hag1 := hid hag1
  have HWc := hid hWc
  have HR1 := hid hR1
  have hlen := Hdad.out.len
  clear h da b0 hbox hD da0 ok hext ag bdr hp1 hag1 hWc hR1 hS1 bn k1 k2 k3 Hbox Hda HD hur
  go_enter Tryz.func53, Tryz.ntmps53
  go_wp2
  go_region_held3 (fun w9 => w9.cell? ⟨w.heap.size, 1, none⟩ = some (.slice a zs.length c)) (first | exact c1 | exact q2.out | exact q1.out)
    (first
      | ((go_at_call 114; refine Hp2.out.mono ?_; intro e u2 hpost; obtain ⟨rfl, hpo⟩ := Hur.out _ _ _ hpost; have HB2 := hid (HB1.out.trans (RPo.below HRP1.out hpo)); obtain ⟨m2, hD2, hkp2⟩ := duo_ref HRP1.out HC1.out HE1.out hpo Hag1.out.1; have HD2 := hid hD2; have q2 := hid (BoxAt.b1 ((hkp2 _ (.inr rfl)).trans Hbox1.out)); clear hpo hD2 hkp2 hpost))
      | ((go_at_call 113; refine Hp1.out.mono ?_; rintro e u1 ⟨rfl, hC1, hk1⟩; rw [← HW0.out] at hk1; have hpr := HDd.out.prog hk1; have HRP1 := hid hpr.1; have HE1 : Hid (∀ k, (k < B ∨ k = w.heap.size) → k < u1.heap.size ∧ ¬ rAll q m r k) := hpr.2.1; have HC1 := hid hC1; have HB1 := hid (Hbd.out.trans (hk1.below (show B ≤ W0.heap.size from hwD) (fun k hk => .inr (.inl hk)))); have Hbox1 : Hid (BoxAt u1 w.heap.size kd a zs.length c y sh) := (hpr.2.2 _ (.inr rfl)).trans Hboxd.out; have q1 := hid Hbox1.out.b1; have hda1 := Hdad.out.keep (w' := u1) (fun k hk => hpr.2.2 k (.inl hk)); have hp2 := rpUnpin_any HRP1.out a zs c hda1.ints (by omega) (by omega); have Hp2 := hid hp2; clear hC1 hk1 hpr hda1 hp2)))
  clear c1 q1 q2
  go_wp2
  go_ret
  obtain ⟨_, g1, g2, g3⟩ := Hag1.out
  exact ⟨ret_bool4 (by simp), ⟨S1, R1, m2, HD2.out.less (fun k hk => .inl hk), ⟨by omega, by omega, by rw [g3]; exact HbP.out⟩⟩, HB2.out⟩
end Go.Proofs.YthdcjepkehifoaaGreat
