/- YthdcjepkehifoaaGreatVD0 + YthdcjepkehifoaaGreatVD1 -/
import Derived.Test.YthdcjepkehifoaaGreatVR8
/- Both caches side by side; do of law 4: Read, Commit, Abort. -/
namespace Go.Proofs.YthdcjepkehifoaaGreat
open Go.RowKit Go.Maps Go.Sort Go.Shelf
set_option linter.unusedVariables false
set_option maxRecDepth 20000
/-- both caches, and blocks that are neither's -/
def Duo4 (w : World) (B p q : Nat) (s : PS) (r : RS) (E : Nat → Prop) (m : RM) : Prop := RPm w B q m r ∧ Cache w p s (fun k => rAll q m r k ∨ E k) ∧ Agree s r ∧ ∀ k, E k → k < w.heap.size ∧ ¬ rAll q m r k
section
variable {w w' : World} {B p q : Nat} {s s' : PS} {r r' : RS} {E : Nat → Prop} {m : RM}
theorem Duo4.ok (h : Duo4 w B p q s r E m) : CaOk s ∧ Ext s := by
  obtain ⟨_, ⟨m, h1, h2, _⟩, _⟩ := h
  exact ⟨h1.ok, h2⟩
theorem Duo4.below (h : Duo4 w B p q s r E m) (hb : Below w.heap.size w w') : Duo4 w' B p q s r E m := ⟨h.1.below hb, h.2.1.below hb, h.2.2.1, fun k hk => ⟨Nat.lt_of_lt_of_le (h.2.2.2 k hk).1 hb.size, (h.2.2.2 k hk).2⟩⟩
/-- a new block is neither's -/
theorem Duo4.box (h : Duo4 w B p q s r E m) (hb : Below w.heap.size w w') {D : Nat} (h1 : w.heap.size ≤ D) (h2 : D < w'.heap.size) : Duo4 w' B p q s r (fun k => E k ∨ k = D) m := by
  refine ⟨h.1.below hb, (h.2.1.add hb).mono (fun k hk => ?_), h.2.2.1, fun k hk => ?_⟩
  · rcases hk with hk | hk | rfl
    · exact .inl (.inl hk)
    · exact .inl (.inr hk)
    · exact .inr ⟨h1, h2⟩
  · rcases hk with hk | rfl
    · exact ⟨Nat.lt_of_lt_of_le (h.2.2.2 k hk).1 hb.size, (h.2.2.2 k hk).2⟩
    · exact ⟨h2, fun ha => by have := h.1.lts _ ha; omega⟩
theorem Duo4.less {E' : Nat → Prop} (h : Duo4 w B p q s r E m) (hE : ∀ k, E' k → E k) : Duo4 w B p q s r E' m := ⟨h.1, h.2.1.mono (fun k hk => hk.imp id (hE k)), h.2.2.1, fun k hk => h.2.2.2 k (hE k hk)⟩
theorem Duo4.prog (h : Duo4 w B p q s r E m) (hk : Kept (fun k => rAll q m r k ∨ E k) w w') : RPm w' B q m r ∧ (∀ k, E k → k < w'.heap.size ∧ ¬ rAll q m r k) ∧ ∀ k, E k → w'.heap[k]? = w.heap[k]? :=
  ⟨h.1.keep hk.size (fun k hk' => hk.get (.inl hk') (h.1.lts k hk')), fun k hE => ⟨Nat.lt_of_lt_of_le (h.2.2.2 k hE).1 hk.size, (h.2.2.2 k hE).2⟩, fun k hE => hk.get (.inr hE) (h.2.2.2 k hE).1⟩
theorem duo_ref (h1 : RPm w B q m r) (hc : Cache w p s (fun k => rAll q m r k ∨ E k)) (hE : ∀ k, E k → k < w.heap.size ∧ ¬ rAll q m r k) (hp : RPo w B q m r r' w') (ag : Agree s r') : ∃ m', Duo4 w' B p q s r' E m' ∧ ∀ k, E k → w'.heap[k]? = w.heap[k]? := by
  obtain ⟨m', h', ho, hR, hA⟩ := hp
  have hwr : ∀ k, rWr q m k → rAll q m r k := fun k hk => by
    rcases hk with e | e
    · exact .inl e
    · exact .inr (.inl e)
  have hE' : ∀ k, E k → k < w'.heap.size ∧ ¬ rAll q m' r' k := fun k hk => ⟨Nat.lt_of_lt_of_le (hE k hk).1 ho.size, fun ha => by
    rcases hA k ha with h2 | h2
    · exact (hE k hk).2 h2
    · have := (hE k hk).1; omega⟩
  refine ⟨m', ⟨h', ?_, ag, hE'⟩, fun k hk => ho.block k (hE k hk).1 (fun hw => (hE k hk).2 (hwr k hw))⟩
  obtain ⟨mp, g1, g2, g3⟩ := hc
  refine ⟨mp, g1.keep fun k hk => ho.block k (g1.lts k hk) (fun hw => (g3 k (.inl (hwr k hw))).2 hk), g2, fun k hk => ?_⟩
  rcases hk with hk | hk
  · refine ⟨h'.lts k hk, fun ha => ?_⟩
    rcases hA k hk with h2 | h2
    · exact (g3 k (.inl h2)).2 ha
    · have := g1.lts k ha; omega
  · exact ⟨(hE' k hk).1, (g3 k (.inr hk)).2⟩
end
/-- a deed in its box -/
def BoxAt (w : World) (D : Nat) (kd : Int) (a : Option Addr) (n c : Nat) (y : UInt8) (sh : Bool) : Prop := w.heap[D]? = some (.cells #[.int .i64 kd, .slice a n c, .int .u8 (y.toNat : Int), .bool sh] 79 (0, 0))
section
variable {w : World} {D : Nat} {kd : Int} {a : Option Addr} {n c : Nat} {y : UInt8} {sh : Bool}
theorem BoxAt.b0 (h : BoxAt w D kd a n c y sh) : w.cell? ⟨D, 0, none⟩ = some (.int .i64 kd) := cell_of_row _ _ 0 _ _ _ h
theorem BoxAt.b1 (h : BoxAt w D kd a n c y sh) : w.cell? ⟨D, 1, none⟩ = some (.slice a n c) := cell_of_row _ _ 1 _ _ _ h
theorem BoxAt.b2 (h : BoxAt w D kd a n c y sh) : w.cell? ⟨D, 2, none⟩ = some (.int .u8 (y.toNat : Int)) := cell_of_row _ _ 2 _ _ _ h
theorem BoxAt.b3 (h : BoxAt w D kd a n c y sh) : w.cell? ⟨D, 3, none⟩ = some (.bool sh) := cell_of_row _ _ 3 _ _ _ h
end
/-- what a deed asks of both, and leaves -/
structure DArg (w : World) (B : Nat) (a : Option Addr) (zs : List Int) : Prop where
  ints : IntsAt w a zs
  wf : ∀ x ∈ zs, -9223372036854775808 ≤ x ∧ x ≤ 9223372036854775807
  len : zs.length ≤ 17592186044000
  low : ∀ b o, a = some ⟨b, o, none⟩ → 0 < zs.length → b < B
theorem DArg.keep {w w' : World} {B : Nat} {a : Option Addr} {zs : List Int} (h : DArg w B a zs) (hk : ∀ k, k < B → w'.heap[k]? = w.heap[k]?) : DArg w' B a zs := ⟨fun i hi => by
  obtain ⟨b, o, e, hc⟩ := h.ints i hi
  exact ⟨b, o, e, (World.cell?_of_block (a := ⟨b, o + i, none⟩) (hk b (h.low b o e (by omega)))).trans hc⟩, h.wf, h.len, h.low⟩
theorem DArg.first {w : World} {B : Nat} {a : Option Addr} {zs : List Int} (h : DArg w B a zs) : -9223372036854775808 ≤ firstOf zs ∧ firstOf zs ≤ 9223372036854775807 := by
  unfold firstOf
  cases hq : zs with
  | nil => simp
  | cons x t => exact h.wf x (by rw [hq]; simp)
/-- what bounds a cache -/
structure Bnd (s : PS) (t u : Nat) : Prop where
  t : s.t ≤ t
  u : s.u ≤ u
  P : s.P = 11
def Done4 (w : World) (B p q : Nat) (t u : Nat) (e : Ending) (w' : World) : Prop := e = .returned (.bool true) ∧ (∃ s' r' m', Duo4 w' B p q s' r' (fun k => k < B) m' ∧ Bnd s' (t + 3) (u + 17592186044415)) ∧ Below B w w'
theorem dl_few {s : PS} (ok : CaOk s) (hP : s.P = 11) : s.dl.length ≤ 11 := by
  have h := len_lt ok.dn (P := s.P) (fun x hx => by obtain ⟨c, hc, rfl⟩ := List.mem_map.1 hx; exact (ok.dlt c hc).1)
  rw [List.length_map, hP] at h
  exact h
theorem Agree.few {s : PS} {r : RS} (ag : Agree s r) (ok : CaOk s) (hP : s.P = 11) (hu : s.u ≤ 2305843009213693952) : r.ord.length ≤ 100 ∧ r.pins.length ≤ 90 ∧ r.dd.length ≤ 11 ∧ r.hi ≤ 2305843009213693952 ∧ r.mi ≤ 2305843009213693952 := by
  refine ⟨by rw [ag.ord]; have := ok.ol; have := ok.mo2; omega, ?_, by rw [ag.dd.length_eq]; exact dl_few ok hP, by rw [ag.hi]; have := ok.hit; omega, by rw [ag.mi]; have := ok.mit; omega⟩
  have := len_lt ag.pn (P := s.P) (fun x hx => ok.olt x ((ag.pm x).1 hx).1)
  omega
theorem Duo4.logs {w : World} {B p q : Nat} {s : PS} {r : RS} {E : Nat → Prop} {m : RM} (h : Duo4 w B p q s r E m) (hP : s.P = 11) (ht : s.t ≤ 1000) : r.G ≤ 1000 ∧ r.ls.length ≤ 130000 := by
  obtain ⟨_, ⟨mp, g1, _, _⟩, ag, _⟩ := h
  have h1 := g1.log.gr
  have h2 := g1.log.lsl
  rw [ag.G, ag.ls]
  omega
theorem now_same {s : PS} {r : RS} (ag : Agree s r) (ok : CaOk s) (n : Nat) : r.now n = s.now n := by
  unfold RS.now RS.page PS.now PS.page
  rw [ag.look ok, ag.S, ag.P, ag.gs, ag.ls]
theorem kept_low {F : Nat → Prop} {w w' : World} {B : Nat} (hB : B ≤ w.heap.size) (h : ∀ k, k < B → w'.heap[k]? = w.heap[k]?) (ho : ∃ Q, Out Q w w') : Below B w w' := by
  obtain ⟨Q, ho⟩ := ho
  exact ⟨ho.os, ho.tape, ho.output, ho.size, h⟩
end Go.Proofs.YthdcjepkehifoaaGreat

/- do of law 4: Read, Commit, Abort. -/
namespace Go.Proofs.YthdcjepkehifoaaGreat
open Go.RowKit Go.Maps Go.Sort Go.Shelf
set_option linter.unusedVariables false
set_option maxRecDepth 20000
theorem ret_bool4 {b : Bool} (h : b = true) : Ending.returned (.bool b) = .returned (.bool true) := by rw [h]
set_option maxHeartbeats 4000000 in
theorem do4_0 {w : World} {B p q t u : Nat} {s : PS} {r : RS} {m : RM} (h : Duo4 w B p q s r (fun k => k < B) m) (bn : Bnd s t u) (ht : t ≤ 900) (hu : u ≤ 1152921504606846976) (hB : B ≤ w.heap.size) (a : Option Addr) (zs : List Int) (c : Nat) (y : UInt8) (sh : Bool) (da : DArg w B a zs) :
    Calls Tryz.prog 53 #[.pointer (some ⟨p, 0, none⟩), .pointer (some ⟨q, 0, none⟩), .agg #[.int .i64 0, .slice a zs.length c, .int .u8 (y.toNat : Int), .bool sh]] w (Done4 w B p q t u) := by
  obtain ⟨W0, hW0⟩ : ∃ W0, W0 = w.alloc (.cells #[.int .i64 0, .slice a zs.length c, .int .u8 (y.toNat : Int), .bool sh] 79) := ⟨_, rfl⟩
  have b0 : Below w.heap.size w W0 := by rw [hW0]; exact (Below.refl _ w).alloc (Nat.le_refl _) _
  have hbox : BoxAt W0 w.heap.size 0 a zs.length c y sh := by rw [hW0]; exact heap_alloc_new w _
  have hD := h.box b0 (D := w.heap.size) (Nat.le_refl _) (heap_lt hbox)
  have da0 : DArg W0 B a zs := da.keep (fun k hk => b0.block k (by omega))
  obtain ⟨ok, hext⟩ := h.ok
  have ag := h.2.2.1
  have hfew := ag.few ok bn.P (by have := bn.u; omega)
  have hlogs := h.logs bn.P (by have := bn.t; omega)
  have k0 := hbox.b0
  have k1 := hbox.b1
  have k2 := hbox.b2
  have k3 := hbox.b3
  rw [hW0] at k0 k1 k2 k3
  have HB0 := hid (b0.mono hB)
  have HD := hid hD
  have Hbox := hid hbox
  have Hda := hid da0
  have HW0 := hid hW0
  have Hag := hid ag
  have Hok := hid ok
  have Hext := hid hext
  have hbt := bn.t
  have hbu := bn.u
  have HbP := hid bn.P
  have hwD : B ≤ W0.heap.size := Nat.le_trans hB b0.size
  unfold Done4
  have hf := first4_any 0 a zs c y sh W0 da0.ints (by have := da0.len; omega)
  rw [hW0] at hf
  have Hf := hid hf
  have hfw := da0.first
  clear h da b0 hbox hD da0 ok hext ag hW0 hf bn
  go_enter Tryz.func53, Tryz.ntmps53
  go_wp2_with (fail)
  refine Hf.out.mono ?_
  rintro e w1 ⟨rfl, hb1⟩
  rw [← HW0.out] at hb1
  have HD1 := hid (HD.out.below hb1)
  have Hbox1 : Hid (BoxAt w1 w.heap.size 0 a zs.length c y sh) := (hb1.block _ (heap_lt Hbox.out)).trans Hbox.out
  have Hda1 := hid (Hda.out.keep (fun k hk => hb1.block k (by omega)))
  have HB1 := hid (HB0.out.trans (hb1.mono hwD))
  have hs1 := hb1.size
  have Hrd := hid (read_c HD1.out.2.1 (by omega) (by omega) (firstOf zs) hfw)
  clear hb1 Hf k0 k1 k2 k3
  go_wp2_with (fail)
  refine Hrd.out.mono ?_
  rintro e w2 (⟨hbad, rfl, hC2, hb2⟩ | ⟨hok, b2, c2, rfl, hr2, hC2, hk2, hbn2⟩)
  · have HD2 := hid (HD1.out.below hb2)
    have Hbox2 : Hid (BoxAt w2 w.heap.size 0 a zs.length c y sh) := (hb2.block _ (heap_lt Hbox1.out)).trans Hbox1.out
    have Hda2 := hid (Hda1.out.keep (fun k hk => hb2.block k (by omega)))
    have HB2 := hid (HB1.out.trans (hb2.mono (by omega)))
    have hs2 := hb2.size
    have k0 := Hbox2.out.b0
    have k1 := Hbox2.out.b1
    have k2 := Hbox2.out.b2
    have k3 := Hbox2.out.b3
    have Hf2 := hid (first4_any 0 a zs c y sh w2 Hda2.out.ints (by have := Hda2.out.len; omega))
    have Hbad := hid hbad
    clear hb2 hC2 hbad Hrd
    go_wp2_with (fail)
    refine Hf2.out.mono ?_
    rintro e w3 ⟨rfl, hb3⟩
    have HD3 := hid (HD2.out.below hb3)
    have HB3 := hid (HB2.out.trans (hb3.mono (by omega)))
    have hs3 := hb3.size
    have Hrr := hid (rpRead_any HD3.out.1 (firstOf zs) hfw (by omega) (by omega) (by omega) (by omega) (by omega) (by omega))
    clear hb3 Hf2 k0 k1 k2 k3
    go_wp2_with (fail)
    refine Hrr.out.mono ?_
    rintro e w4 (⟨hb4, rfl, hpo⟩ | ⟨hb4, _⟩)
    · have HB4 := hid (HB3.out.trans (RPo.below HD3.out.1 hpo))
      obtain ⟨m4, hD4, _⟩ := duo_ref HD3.out.1 HD3.out.2.1 HD3.out.2.2.2 hpo HD3.out.2.2.1
      have HD4 := hid hD4
      have hs4 := HB4.out.size
      have Hsb := hid (sameBytes_any [] [] none none 0 0 w4 (fun i hi => by simp at hi) (fun i hi => by simp at hi) (by simp) (by simp))
      clear hpo hD4 hb4 Hrr
      go_wp2_with (fail)
      refine Hsb.out.mono ?_
      rintro e w5 ⟨rfl, hb5⟩
      have HD5 := hid (HD4.out.below hb5)
      have HB5 := hid (HB4.out.trans (hb5.mono (by omega)))
      clear hb5 Hsb
      go_wp2
      go_ret
      exact ⟨ret_bool4 (by simp), ⟨s, r, m4, HD5.out.less (fun k hk => .inl hk), ⟨by omega, by omega, HbP.out⟩⟩, HB5.out⟩
    · exact absurd (by have h9 := Hbad.out; unfold badP at h9; rw [Hag.out.P]; exact h9) hb4
  · obtain ⟨n, hn⟩ : ∃ n : Nat, firstOf zs = (n : Int) := ⟨(firstOf zs).toNat, by unfold badP at hok; omega⟩
    rw [hn, Int.toNat_natCast] at hr2 hC2
    have hpr := HD1.out.prog hk2
    have HB2 := hid (HB1.out.trans (hk2.below (by omega) (fun k hk => .inr (.inl hk))))
    have hs2 := hk2.size
    have Hag2 := hid (Hag.out.read Hok.out Hext.out n)
    have hrs := readS_same (s := s) n
    have hru := readS_u (s := s) n
    have hC2' := hC2.mono (F' := fun k => rAll q m r k ∨ (fun k => ((k < B ∨ k = w.heap.size) ∨ k = b2)) k) (fun k hk => by
      rcases hk with hk | (hk | rfl)
      · exact .inl (.inl hk)
      · exact .inl (.inr hk)
      · exact .inr rfl)
    have hbl2 := hr2.lt b2 rfl
    have hE2 : ∀ k, (fun k => ((k < B ∨ k = w.heap.size) ∨ k = b2)) k → k < w2.heap.size ∧ ¬ rAll q m r k := fun k hk => by
      rcases hk with hk | rfl
      · exact hpr.2.1 k hk
      · exact ⟨hbl2.2, fun ha => by have := HD1.out.1.lts _ ha; omega⟩
    have Hbox2 : Hid (BoxAt w2 w.heap.size 0 a zs.length c y sh) := (hpr.2.2 _ (.inr rfl)).trans Hbox1.out
    have Hda2 := hid (Hda1.out.keep (fun k hk => hpr.2.2 k (.inl hk)))
    have HRP2 := hid hpr.1
    have HC2 := hid hC2'
    have HE2 := hid hE2
    have HR2 := hid hr2
    have k0 := Hbox2.out.b0
    have k1 := Hbox2.out.b1
    have k2 := Hbox2.out.b2
    have k3 := Hbox2.out.b3
    have Hf2 := hid (first4_any 0 a zs c y sh w2 Hda2.out.ints (by have := Hda2.out.len; omega))
    rw [hn] at Hf2 hfw
    have Hokn : Hid (n < s.P) := by
      show n < s.P
      unfold badP at hok
      omega
    clear hr2 hC2 hC2' hE2 hpr hk2 hbn2 Hrd hok
    go_wp2_with (fail)
    refine Hf2.out.mono ?_
    rintro e w3 ⟨rfl, hb3⟩
    have HRP3 := hid (HRP2.out.below hb3)
    have HC3 := hid (HC2.out.below hb3)
    have HE3 : Hid (∀ k, (fun k => ((k < B ∨ k = w.heap.size) ∨ k = b2)) k → k < w3.heap.size ∧ ¬ rAll q m r k) := fun k hk => ⟨Nat.lt_of_lt_of_le (HE2.out k hk).1 hb3.size, (HE2.out k hk).2⟩
    have HR3 := hid (own_below HR2.out hb3)
    have HB3 := hid (HB2.out.trans (hb3.mono (by omega)))
    have hs3 := hb3.size
    have Hrr := hid (rpRead_any HRP3.out (n : Int) hfw (by omega) (by omega) (by omega) (by omega) (by omega) (by omega))
    clear hb3 Hf2 k0 k1 k2 k3
    go_wp2_with (fail)
    refine Hrr.out.mono ?_
    rintro e w4 (⟨hb4, _⟩ | ⟨hb4, b4, c4, rfl, hr4, hpo⟩)
    · exfalso
      rw [Hag.out.P] at hb4
      have := Hokn.out
      omega
    · rw [Int.toNat_natCast] at hr4 hpo
      have HB4 := hid (HB3.out.trans (RPo.below HRP3.out hpo))
      obtain ⟨m4, hD4, hkp4⟩ := duo_ref HRP3.out HC3.out HE3.out hpo Hag2.out
      have HD4 := hid hD4
      have hs4 := HB4.out.size
      have HR4 : Hid (w4.ownsRow w1.heap.size 5 1 (.slice (some ⟨b2, 0, none⟩) 256 c2) 256 (cellsOf (s.now n))) := own_keep HR3.out (fun k e => by cases e; exact hkp4 b2 (.inr rfl))
      rw [now_same Hag.out Hok.out] at hr4
      have hl6 : (s.now n).length = 256 := by have h9 := HR4.out.1; rw [cellsOf_length] at h9; omega
      have hsb := sameBytes_any (s.now n) (s.now n) (some ⟨b2, 0, none⟩) (some ⟨b4, 0, none⟩) c2 c4 w4 (bytes_of_row HR4.out hl6) (bytes_of_row hr4 hl6) (by omega) (by omega)
      rw [hl6, decide_eq_true rfl] at hsb
      have Hsb := hid hsb
      clear hpo hD4 hb4 Hrr hr4 hkp4 hsb hl6
      go_wp2_with (fail)
      refine Hsb.out.mono ?_
      rintro e w5 ⟨rfl, hb5⟩
      have HD5 := hid (HD4.out.below hb5)
      have HB5 := hid (HB4.out.trans (hb5.mono (by omega)))
      clear hb5 Hsb
      go_wp2
      go_ret
      obtain ⟨r1, r2, r3, r4, _⟩ := hrs
      exact ⟨ret_bool4 (by simp), ⟨readS s n, readR r n, m4, HD5.out.less (fun k hk => .inl (.inl hk)), ⟨by omega, by omega, by rw [r2]; exact HbP.out⟩⟩, HB5.out⟩
set_option maxHeartbeats 4000000 in
theorem do4_2 {w : World} {B p q t u : Nat} {s : PS} {r : RS} {m : RM} (h : Duo4 w B p q s r (fun k => k < B) m) (bn : Bnd s t u) (ht : t ≤ 900) (hu : u ≤ 1152921504606846976) (hB : B ≤ w.heap.size) (a : Option Addr) (zs : List Int) (c : Nat) (y : UInt8) (sh : Bool) (da : DArg w B a zs) :
    Calls Tryz.prog 53 #[.pointer (some ⟨p, 0, none⟩), .pointer (some ⟨q, 0, none⟩), .agg #[.int .i64 2, .slice a zs.length c, .int .u8 (y.toNat : Int), .bool sh]] w (Done4 w B p q t u) := by
  obtain ⟨W0, hW0⟩ : ∃ W0, W0 = w.alloc (.cells #[.int .i64 2, .slice a zs.length c, .int .u8 (y.toNat : Int), .bool sh] 79) := ⟨_, rfl⟩
  have b0 : Below w.heap.size w W0 := by rw [hW0]; exact (Below.refl _ w).alloc (Nat.le_refl _) _
  have hbox : BoxAt W0 w.heap.size 2 a zs.length c y sh := by rw [hW0]; exact heap_alloc_new w _
  have hD := h.box b0 (D := w.heap.size) (Nat.le_refl _) (heap_lt hbox)
  have da0 : DArg W0 B a zs := da.keep (fun k hk => b0.block k (by omega))
  obtain ⟨ok, hext⟩ := h.ok
  have ag := h.2.2.1
  have hfew := ag.few ok bn.P (by have := bn.u; omega)
  have hlogs := h.logs bn.P (by have := bn.t; omega)
  have k0 := hbox.b0
  have k1 := hbox.b1
  have k2 := hbox.b2
  have k3 := hbox.b3
  rw [hW0] at k0 k1 k2 k3
  have HB0 := hid (b0.mono hB)
  have HD := hid hD
  have Hbox := hid hbox
  have Hda := hid da0
  have HW0 := hid hW0
  have Hag := hid ag
  have Hok := hid ok
  have Hext := hid hext
  have hbt := bn.t
  have hbu := bn.u
  have HbP := hid bn.P
  have hwD : B ≤ W0.heap.size := Nat.le_trans hB b0.size
  unfold Done4
  have hco := com_c hD.2.1 (by omega) (by rw [bn.P]; omega)
  rw [hW0] at hco
  have Hco := hid hco
  clear h da b0 hbox hD da0 ok hext ag hW0 hco bn
  go_enter Tryz.func53, Tryz.ntmps53
  go_wp2_with (fail)
  refine Hco.out.mono ?_
  intro e w1 hpost
  rw [← HW0.out] at hpost
  have hcs := commitS_same (s := s)
  have hcu := commitS_u (s := s)
  rcases hpost with ⟨hyes, rfl, hC1, hk1⟩ | ⟨hno, rfl, hC1, hk1⟩
  · have hpr := HD.out.prog hk1
    have HB1 := hid (HB0.out.trans (hk1.below hwD (fun k hk => .inr (.inl hk))))
    have hs1 := hk1.size
    have HC1 := hid hC1
    have HE1 := hid hpr.2.1
    have HRP1 := hid hpr.1
    have Hrc := hid (rpCommit_any hpr.1 Hag.out Hok.out (by omega) (by omega) (by omega) (by rw [Hag.out.P, HbP.out]; omega))
    have Hyes := hid hyes
    clear hC1 hk1 hpr hyes Hco k0 k1 k2 k3
    go_wp2_with (fail)
    refine Hrc.out.mono ?_
    rintro e w2 (⟨_, rfl, hpo⟩ | ⟨hno, _⟩)
    · have HB2 := hid (HB1.out.trans (RPo.below HRP1.out hpo))
      have ag2 : Agree (commitS s) { r with G := (commitS s).G, gs := (commitS s).gs, ls := (commitS s).ls, dd := [] } := by
        obtain ⟨e1, e2, e3, e4, e5, e6, e7⟩ := hcs
        have epin : (commitS s).pin = s.pin := by unfold commitS; split; rfl; split <;> rfl
        refine ⟨by rw [e3]; exact Hag.out.S, by rw [e4]; exact Hag.out.P, rfl, rfl, rfl, by rw [e2]; exact Hag.out.mo, by rw [e1]; exact Hag.out.ord, by rw [e6]; exact Hag.out.hi, by rw [e7]; exact Hag.out.mi, by rw [commitS_dl], Hag.out.pn, fun x => by rw [e1, epin]; exact Hag.out.pm x⟩
      obtain ⟨m2, hD2, _⟩ := duo_ref HRP1.out HC1.out HE1.out hpo ag2
      have HD2 := hid hD2
      clear hpo hD2 ag2 Hrc
      go_wp2
      go_ret
      obtain ⟨e1, e2, e3, e4, e5, e6, e7⟩ := hcs
      exact ⟨ret_bool4 (by simp), ⟨commitS s, _, m2, HD2.out.less (fun k hk => .inl hk), ⟨by omega, by omega, by rw [e4]; exact HbP.out⟩⟩, HB2.out⟩
    · exact absurd Hyes.out hno
  · have hpr := HD.out.prog hk1
    have HB1 := hid (HB0.out.trans (hk1.below hwD (fun k hk => .inr (.inl hk))))
    have hs1 := hk1.size
    have HC1 := hid hC1
    have HE1 := hid hpr.2.1
    have HRP1 := hid hpr.1
    have Hrc := hid (rpCommit_any hpr.1 Hag.out Hok.out (by omega) (by omega) (by omega) (by rw [Hag.out.P, HbP.out]; omega))
    have Hno := hid hno
    clear hC1 hk1 hpr hno Hco k0 k1 k2 k3
    go_wp2_with (fail)
    refine Hrc.out.mono ?_
    rintro e w2 (⟨hyes, _⟩ | ⟨_, rfl, hpo⟩)
    · exact absurd hyes Hno.out
    · have HB2 := hid (HB1.out.trans (RPo.below HRP1.out hpo))
      have ag2 : Agree (fullS s) { r with gs := (fullS s).gs, ls := (fullS s).ls } := ⟨Hag.out.S, Hag.out.P, Hag.out.G, rfl, rfl, Hag.out.mo, Hag.out.ord, Hag.out.hi, Hag.out.mi, Hag.out.dd, Hag.out.pn, Hag.out.pm⟩
      obtain ⟨m2, hD2, _⟩ := duo_ref HRP1.out HC1.out HE1.out hpo ag2
      have HD2 := hid hD2
      clear hpo hD2 ag2 Hrc
      go_wp2
      go_ret
      have e5 : (fullS s).t = s.t + 3 := rfl
      have e6 : (fullS s).u = s.u := rfl
      exact ⟨ret_bool4 (by simp), ⟨fullS s, _, m2, HD2.out.less (fun k hk => .inl hk), ⟨by omega, by omega, HbP.out⟩⟩, HB2.out⟩
set_option maxHeartbeats 4000000 in
theorem do4_3 {w : World} {B p q t u : Nat} {s : PS} {r : RS} {m : RM} (h : Duo4 w B p q s r (fun k => k < B) m) (bn : Bnd s t u) (ht : t ≤ 900) (hu : u ≤ 1152921504606846976) (hB : B ≤ w.heap.size) (a : Option Addr) (zs : List Int) (c : Nat) (y : UInt8) (sh : Bool) (da : DArg w B a zs) :
    Calls Tryz.prog 53 #[.pointer (some ⟨p, 0, none⟩), .pointer (some ⟨q, 0, none⟩), .agg #[.int .i64 3, .slice a zs.length c, .int .u8 (y.toNat : Int), .bool sh]] w (Done4 w B p q t u) := by
  obtain ⟨W0, hW0⟩ : ∃ W0, W0 = w.alloc (.cells #[.int .i64 3, .slice a zs.length c, .int .u8 (y.toNat : Int), .bool sh] 79) := ⟨_, rfl⟩
  have b0 : Below w.heap.size w W0 := by rw [hW0]; exact (Below.refl _ w).alloc (Nat.le_refl _) _
  have hbox : BoxAt W0 w.heap.size 3 a zs.length c y sh := by rw [hW0]; exact heap_alloc_new w _
  have hD := h.box b0 (D := w.heap.size) (Nat.le_refl _) (heap_lt hbox)
  have da0 : DArg W0 B a zs := da.keep (fun k hk => b0.block k (by omega))
  obtain ⟨ok, hext⟩ := h.ok
  have ag := h.2.2.1
  have hfew := ag.few ok bn.P (by have := bn.u; omega)
  have hlogs := h.logs bn.P (by have := bn.t; omega)
  have k0 := hbox.b0
  have k1 := hbox.b1
  have k2 := hbox.b2
  have k3 := hbox.b3
  rw [hW0] at k0 k1 k2 k3
  have HB0 := hid (b0.mono hB)
  have HD := hid hD
  have Hbox := hid hbox
  have Hda := hid da0
  have HW0 := hid hW0
  have Hag := hid ag
  have Hok := hid ok
  have Hext := hid hext
  have hbt := bn.t
  have hbu := bn.u
  have HbP := hid bn.P
  have hwD : B ≤ W0.heap.size := Nat.le_trans hB b0.size
  unfold Done4
  have hco := abort_c hD.2.1
  rw [hW0] at hco
  have Hco := hid hco
  clear h da b0 hbox hD da0 ok hext ag hW0 hco bn
  go_enter Tryz.func53, Tryz.ntmps53
  go_wp2_with (fail)
  refine Hco.out.mono ?_
  rintro e w1 ⟨rfl, hC1, hk1⟩
  rw [← HW0.out] at hk1
  have hpr := HD.out.prog hk1
  have HB1 := hid (HB0.out.trans (hk1.below hwD (fun k hk => .inr (.inl hk))))
  have HC1 := hid hC1
  have HE1 := hid hpr.2.1
  have HRP1 := hid hpr.1
  have hra := rabort_any hpr.1
  rw [Hag.out.dd.length_eq] at hra
  have Hra := hid hra
  clear hC1 hk1 hpr Hco hra k0 k1 k2 k3
  go_wp2_with (fail)
  refine Hra.out.mono ?_
  rintro e w2 ⟨rfl, hpo⟩
  have HB2 := hid (HB1.out.trans (RPo.below HRP1.out hpo))
  obtain ⟨m2, hD2, _⟩ := duo_ref HRP1.out HC1.out HE1.out hpo Hag.out.abort
  have HD2 := hid hD2
  clear hpo hD2 Hra
  go_wp2
  go_ret
  have e5 : (abortS s).t = s.t := rfl
  have e6 : (abortS s).u = s.u := rfl
  exact ⟨ret_bool4 (by simp), ⟨abortS s, _, m2, HD2.out.less (fun k hk => .inl hk), ⟨by omega, by omega, HbP.out⟩⟩, HB2.out⟩
end Go.Proofs.YthdcjepkehifoaaGreat
