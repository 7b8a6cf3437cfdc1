/- YthnciogaibhmcaaDoorZLaw + YthnciogaibhmcaaDoorZPlays -/
import Derived.Test.YthnciogaibhmcaaDoorZRows
import Derived.Test.YthnciogaibhmcaaDoorAInv
/- law 14's same: both chains have the same. -/
namespace Go.Proofs.YthnciogaibhmcaaDoor
open Go.RowKit Go.Shelf
set_option linter.unusedVariables false
set_option maxRecDepth 20000
attribute [local go_sem ↓] loadL_fold storeL_fold loadH_fold storeH_fold buildH_fold
/-- an event in a row of events -/
theorem ev_four {w : World} {B c6 N : Nat} {a6 : Option Addr} {l : List Ev} (h : w.ownsRow B 60 4 (.slice a6 N c6) N (eCells l)) (hN : N = l.length) (h0 : 0 < N) : ∃ b, a6 = some ⟨b, 0, none⟩ ∧ ∀ i (hi : i < l.length), w.cell? ⟨b, i * 4, none⟩ = some (.int .i64 (l[i].num : Int)) ∧ w.cell? ⟨b, i * 4 + 1, none⟩ = some (.int .i64 (l[i].tim : Int)) ∧ w.cell? ⟨b, i * 4 + 2, none⟩ = some (.string l[i].what) ∧ w.cell? ⟨b, i * 4 + 3, none⟩ = some (.string l[i].who) := by
  subst hN
  rcases h.2 with ⟨_, h9⟩ | ⟨b, cap', cur, hv, _, hg, _, _, _, ht⟩
  · omega
  · cases hv
    refine ⟨b, rfl, fun i hi => ?_⟩
    have key : ∀ k, k < 4 → w.cell? ⟨b, i * 4 + k, none⟩ = (eVals l[i])[k]? := fun k hk => by
      have h1 : (cur.toList.take (l.length * 4))[i * 4 + k]? = (eVals l[i])[k]? := by rw [ht, eCells_get _ _ hi _ hk]
      rw [List.getElem?_take_of_lt (by omega)] at h1
      rw [cell_of_row _ _ _ _ _ _ hg, ← Array.getElem?_toList]
      exact h1
    exact ⟨key 0 (by omega), key 1 (by omega), key 2 (by omega), key 3 (by omega)⟩
set_option maxHeartbeats 8000000 in
theorem same_any {w : World} {B g r : Nat} {v u : Value} {c : Ch} (h : ChAt w B g v c) (hr : RAt w B r u c) (ok : ChOk c) (hc : c.cnt < 1152921504606846976) (hT : Tabs w B) (hB : B ≤ w.heap.size) :
    Calls Tryd.prog 12 #[.pointer (some ⟨g, 0, none⟩), .pointer (some ⟨r, 0, none⟩)] w fun e w' => e = .returned (.bool true) ∧ Below w.heap.size w w' := by
  have HC := hid (fun (V : World) (hb : Below w.heap.size w V) => h.below hb)
  have HR := hid (fun (V : World) (hb : Below w.heap.size w V) => hr.below hb)
  have OK := hid ok
  have Hc := hid hc
  have HT := hid (fun (V : World) (hb : Below w.heap.size w V) => hT.below hB hb)
  have H0 := hid h
  obtain ⟨Z, hZ⟩ : ∃ Z, Z = bvs zero32 := ⟨_, rfl⟩
  have zh := (zero_of_info zero_hash).1
  rw [show bvs (List.replicate 32 0) = Z from hZ.symm] at zh
  obtain ⟨O, hO⟩ : ∃ O, O = bvs c.ah := ⟨_, rfl⟩
  obtain ⟨D, hD⟩ : ∃ D, D = bvs c.hd := ⟨_, rfl⟩
  have hSt : ∀ W : World, (storeH (.pointer (some ⟨W.heap.size, 0, none⟩)) (.agg O)).run Tryd.prog (W.alloc (.cells Z 49)) = .ok () (W.alloc (.cells O 49)) := fun W => by
    have := storeH_new W c.ah zero32 ok.lan (by decide)
    rw [← hO, show bvs zero32 = Z from hZ.symm] at this
    exact this
  have heq : ∀ W, (Op.equalIn 10000 49 (.agg O) (.agg O)).run Tryd.prog W = .ok true W := fun W => by
    rw [hO, hash_eq (a := c.ah) (b := c.ah) ⟨rfl, ok.lan⟩ ⟨rfl, ok.lan⟩]
    simp
  have heq2 : ∀ W, (Op.equalIn 10000 49 (.agg D) (.agg D)).run Tryd.prog W = .ok true W := fun W => by
    rw [hD, hash_eq (a := c.hd) (b := c.hd) ⟨rfl, ok.lh⟩ ⟨rfl, ok.lh⟩]
    simp
  have HO := hid hO
  have HD := hid hD
  have hfew := ok.few
  clear h hr ok hc hT hZ hO hD
  obtain ⟨n, hn⟩ : ∃ n, n = c.ev.length := ⟨_, rfl⟩
  rw [← hn] at hfew
  have Hn := hid hn
  clear hn
  go_enter Tryd.func12, Tryd.ntmps12
  go_wp2_with (first
    | (go_at_call 31; refine (events_any (HC.out w (Below.refl _ _)) OK.out).mono ?_; rintro e w1 ⟨a1, c1, rfl, ho1, hb1⟩; rw [← Hn.out] at ho1 ⊢; have Ho1 := hid ho1; have Hb1 := hid hb1; clear ho1 hb1)
    | (go_at_call 20; refine (rEvents_any (HR.out w1 Hb1.out) OK.out).mono ?_; rintro e w2 ⟨a2, c2, rfl, ho2, hb2⟩; rw [← Hn.out] at ho2 ⊢; have Ho2 := hid ho2; have Hb2 := hid (Below.on' Hb1.out hb2); have Hb21 := hid hb2; clear ho2 hb2)
    | (go_at_call 32; refine (anchored_any (HC.out w2 Hb2.out) OK.out.l).mono ?_; rintro e w3 ⟨rfl, hb3⟩; rw [← HO.out]; have Hb3 := hid (Below.on' Hb2.out hb3); have Hb32 := hid hb3; have ha3 : Below w3.heap.size w3 (w3.alloc (.cells O 49)) := ((Below.refl _ w3).alloc (Nat.le_refl _) _); have Ha3 := hid ha3; have X3 : Hid ((w3.alloc (.cells O 49)).heap[w3.heap.size]? = some (.cells O 49 (0, 0))) := heap_alloc_new w3 _; clear hb3 ha3)
    | (go_at_call 33; refine (rAnchored_any (HR.out _ (Below.on' Hb3.out Ha3.out)) OK.out.l).mono ?_; rintro e w4 ⟨rfl, hb4⟩; rw [← HO.out]; have Hb4 := hid (Below.on' (Below.on' Hb3.out Ha3.out) hb4); have Hb43 := hid hb4; have ha4 : Below w4.heap.size w4 (w4.alloc (.cells O 49)) := ((Below.refl _ w4).alloc (Nat.le_refl _) _); have Ha4 := hid ha4; have y1 := (ha4.block _ (heap_lt ((hb4.block _ (heap_lt X3.out)).trans X3.out))).trans ((hb4.block _ (heap_lt X3.out)).trans X3.out); have y2 : (w4.alloc (.cells O 49)).heap[w4.heap.size]? = some (.cells O 49 (0, 0)) := heap_alloc_new w4 _; have hL1 : (loadH (.pointer (some ⟨w3.heap.size, 0, none⟩))).run Tryd.prog (w4.alloc (.cells O 49)) = .ok (.agg O) (w4.alloc (.cells O 49)) := loadH_run (l := c.ah) ⟨HO.out, OK.out.lan⟩ y1; have hL2 : (loadH (.pointer (some ⟨w4.heap.size, 0, none⟩))).run Tryd.prog (w4.alloc (.cells O 49)) = .ok (.agg O) (w4.alloc (.cells O 49)) := loadH_run (l := c.ah) ⟨HO.out, OK.out.lan⟩ y2; clear hb4 ha4 y1 y2)
    | (go_at_call 23; refine (head_any (HC.out _ (Below.on' Hb4.out Ha4.out)) OK.out.l).mono ?_; rintro e w5 ⟨rfl, hb5⟩; rw [← HD.out]; have Hb5 := hid (Below.on' (Below.on' Hb4.out Ha4.out) hb5); have Hb54 := hid hb5; clear hb5)
    | (go_at_call 22; refine (rHead_any (HR.out _ Hb5.out) OK.out.l).mono ?_; rintro e w6 ⟨rfl, hb6⟩; rw [← HD.out]; have Hb6 := hid (Below.on' Hb5.out hb6); have Hb65 := hid hb6; clear hb6)
    | (go_at_call 34; refine (count_any (HC.out _ Hb6.out) OK.out Hc.out).mono ?_; rintro e w7 ⟨rfl, hb7⟩; have Hb7 := hid (Below.on' Hb6.out hb7); have Hb76 := hid hb7; clear hb7)
    | (go_at_call 35; refine (rCount_any (HR.out _ Hb7.out) OK.out Hc.out).mono ?_; rintro e w8 ⟨rfl, hb8⟩; have Hb8 := hid (Below.on' Hb7.out hb8); have Hb87 := hid hb8; clear hb8))
  have s1 : Hid (Below w1.heap.size w1 w8) := Below.on' (Below.on' (Below.on' (Below.on' (Below.on' (Below.on' (Below.on' (Below.on' Hb21.out Hb32.out) Ha3.out) Hb43.out) Ha4.out) Hb54.out) Hb65.out) Hb76.out) Hb87.out
  have s2 : Hid (Below w2.heap.size w2 w8) := Below.on' (Below.on' (Below.on' (Below.on' (Below.on' (Below.on' (Below.on' Hb32.out Ha3.out) Hb43.out) Ha4.out) Hb54.out) Hb65.out) Hb76.out) Hb87.out
  have P1 := hid (Ho1.out.onB s1.out)
  have P2 := hid (Ho2.out.onB s2.out)
  clear hL1 hL2 X3 Ho1 Ho2 Hb1 Hb2 Hb21 Hb3 Hb32 Hb4 Hb43 Ha3 Ha4 Hb5 Hb54 Hb6 Hb65 Hb7 Hb76 Hb87 s1 s2
  go_loopw [11] (fun i wr => ∃ k : Nat, k ≤ n ∧ i = .int .i64 (k : Int) ∧ Below w8.heap.size w8 wr) (fun i _ => n - (intOf i).toNat)
  case atStart => exact ⟨0, Nat.zero_le _, rfl, Below.refl _ _⟩
  case round =>
    obtain ⟨k, hk, rfl, hbel⟩ := hrel
    have Hbel := hid hbel
    clear hbel
    by_cases hlt : k < n
    · have g1 : decide ((k : Int) < (n : Int)) = true := by simp; omega
      obtain ⟨b1, rfl, q1⟩ := ev_four (P1.out.onB Hbel.out) Hn.out (by omega)
      obtain ⟨b2, rfl, q2⟩ := ev_four (P2.out.onB Hbel.out) Hn.out (by omega)
      have hlt2 : k < c.ev.length := by have := Hn.out; omega
      obtain ⟨d0, d1, d2, d3⟩ := q1 k hlt2
      obtain ⟨f0, f1, f2, f3⟩ := q2 k hlt2
      generalize (c.ev[k]'hlt2) = e at *
      clear q1 q2 hlt2
      go_wp2
      go_quiet (fail)
      go_wp2
      go_roundw
      case rel => exact ⟨k + 1, by omega, by go_num, Hbel.out.trans (below_drewN _ _ _)⟩
      case measure => simp [intOf]; omega
    · have g1 : decide ((k : Int) < (n : Int)) = false := by simp; omega
      have hbw : Below w.heap.size w wr := Below.on' Hb8.out Hbel.out
      have Hbw := hid hbw
      clear hbw
      have hBr : B ≤ wr.heap.size := Nat.le_trans hB Hbw.out.size
      go_wp2_with (first
        | (go_at_call 16; refine (rows_x (HC.out _ Hbw.out) OK.out Hc.out (HT.out _ Hbw.out) hBr).mono ?_; rintro e wA ⟨vA, rsA, rfl, hoA, hiA, hbA⟩; have HoA := hid hoA; have HiA := hid hiA; have HbA := hid hbA; clear hoA hiA hbA)
        | (go_at_call 19; refine (rRows_x (HR.out _ (Below.on' Hbw.out HbA.out)) OK.out Hc.out).mono ?_; rintro e wB ⟨vB, rsB, rfl, hoB, hiB, hbB⟩; have HoB := hid hoB; have HiB := hid hiB; have HbB := hid hbB; clear hoB hiB hbB)
        | (go_at_call 15; refine (Xr.sameRows_any (own_onW HoA.out HbB.out) HoB.out (HiA.out.below HbB.out) HiB.out (by rw [rowsX_len]; have := OK.out.few; omega) (rowsX_cols c)).mono ?_; rintro e wC ⟨rfl, hbC⟩; have HbC := hid (Below.on' (Below.on' HbA.out HbB.out) hbC); clear hbC))
      go_ret
      exact ⟨rfl, Below.on' Hbw.out HbC.out⟩
end Go.Proofs.YthnciogaibhmcaaDoor

/- AuditPlays: deeds on both chains and their forks. (Printed by gen/zplays.py.) -/
namespace Go.Proofs.YthnciogaibhmcaaDoor
open Go.RowKit Go.Shelf
set_option linter.unusedVariables false
set_option maxRecDepth 20000
attribute [local go_sem ↓] loadL_fold storeL_fold loadH_fold storeH_fold buildH_fold
/-- both forks, of the same chain, apart from the chains g, r -/
structure FkA (w : World) (B g r : Nat) (v : Value) (g2 r2 : Nat) (d : Ch) : Prop where
  ex : ∃ v2 u2, ChAt w B g2 v2 d ∧ RAt w B r2 u2 d ∧ ∀ k, (k = g2 ∨ v2.ownBlock = some k ∨ k = r2 ∨ u2.ownBlock = some k) → k < w.heap.size ∧ ¬ DoBlk g r v k
  md : Made d 1000
theorem FkA.out {w w' : World} {B g r g2 r2 : Nat} {v v' : Value} {d : Ch} (h : FkA w B g r v g2 r2 d) (ho : Out (DoBlk g r v) w w') (hg : Grew w v v') : FkA w' B g r v' g2 r2 d := by
  obtain ⟨⟨v2, u2, hc, hr, hk⟩, md⟩ := h
  refine ⟨⟨v2, u2, hc.out ho (hk _ (.inl rfl)).2 (fun k e => (hk _ (.inr (.inl e))).2), hr.out ho (hk _ (.inr (.inr (.inl rfl)))).2 (fun k e => (hk _ (.inr (.inr (.inr e)))).2), fun k e => ?_⟩, md⟩
  obtain ⟨h1, h2⟩ := hk k e
  refine ⟨Nat.lt_of_lt_of_le h1 ho.size, fun x => ?_⟩
  rcases x with (x | x) | x
  · exact h2 (.inl (.inl x))
  · rcases hg k x with y | y
    · exact h2 (.inl (.inr y))
    · omega
  · exact h2 (.inr x)
theorem FkA.below {w w' : World} {B g r g2 r2 : Nat} {v : Value} {d : Ch} (h : FkA w B g r v g2 r2 d) (hb : Below w.heap.size w w') : FkA w' B g r v g2 r2 d := h.out (Out.of_below hb) (fun k hk => .inl hk)
theorem fkA_mk {w1 w2 w3 : World} {B g r g2 r2 : Nat} {v v2 u : Value} {c : Ch} (hp : Pair w1 B g r v u c) (md : Made c 1000) (hB : B ≤ w1.heap.size) (f2 : ChAt w2 w1.heap.size g2 v2 c) (b2 : Below w1.heap.size w1 w2) (h2 : w2.heap.size ≤ r2) (f3 : RAt w3 B r2 u c) (b3 : Below w2.heap.size w2 w3) : FkA w3 B g r v g2 r2 c := by
  refine ⟨⟨v2, u, (f2.below b3).mono hB, f3, ?_⟩, md⟩
  have l1 := hp.ch.lt
  have l2 := hp.rf.lt
  have l3 := f2.bg
  have l4 := f2.lt
  have l5 := b2.size
  have l6 := b3.size
  have l7 := f3.lt
  have lv : ∀ k, v.ownBlock = some k → k < w1.heap.size := fun k e => (hp.ch.lts k e).2
  rintro k (rfl | e | rfl | e)
  · refine ⟨by omega, fun x => ?_⟩
    rcases x with (x | x) | x
    · omega
    · have := lv _ x; omega
    · omega
  · have h3 := f2.lts k e
    refine ⟨by omega, fun x => ?_⟩
    rcases x with (x | x) | x
    · omega
    · have := lv _ x; omega
    · omega
  · refine ⟨by omega, fun x => ?_⟩
    rcases x with (x | x) | x
    · omega
    · have := lv _ x; omega
    · omega
  · have h3 := hp.rf.lts k e
    refine ⟨by omega, fun x => ?_⟩
    rcases x with (x | x) | x
    · exact hp.ug (x ▸ e)
    · exact hp.sep k x e
    · exact hp.rf.ne k e x
/-- what is so behind k deeds -/
structure ZInv (W : World) (B g r g2 r2 k : Nat) (wr : World) : Prop where
  pr : ∃ v u c d, Pair wr B g r v u c ∧ Made c k ∧ FkA wr B g r v g2 r2 d
  tb : Tabs wr B
  bel : Below B W wr
set_option maxHeartbeats 8000000 in
theorem auditPlays_walk {W : World} (l : List ADeed) (a : Option Addr) (cap : Nat) (hl : ADs W a l) (hT : Tabs W W.heap.size) :
    Calls Tryd.prog 3 #[.slice a l.length cap] W fun e w' => e = .returned (.bool true) ∧ Below W.heap.size W w' := by
  have HT := hid hT
  have Hl := hid hl
  clear hT hl
  obtain ⟨B, hB⟩ : ∃ B, B = W.heap.size := ⟨_, rfl⟩
  have HB := hid hB
  rw [← hB] at HT
  clear hB
  go_enter Tryd.func3, Tryd.ntmps3
  go_wp2_with fail
  refine (new_any W).mono ?_
  rintro _ w1 ⟨g, rfl, h1, b1⟩
  rw [← HB.out] at h1 b1
  have H1 := hid h1
  have B1 := hid b1
  clear h1 b1
  go_wp2_with fail
  refine (rNew_any w1).mono ?_
  rintro _ w2 ⟨r, rfl, h2, b2⟩
  have hB1 : B ≤ w1.heap.size := by have := B1.out.size; have := HB.out; omega
  have hp2 : Pair w2 B g r (.slice none 0 0) (.slice none 0 0) ch0 := ⟨H1.out.below b2, h2.mono hB1, fun k hk => by cases hk⟩
  have B2 : Hid (Below B W w2) := B1.out.trans (b2.mono hB1)
  have hB2 : B ≤ w2.heap.size := Nat.le_trans hB1 b2.size
  have T2 := HT.out.keep B2.out
  have HL := hid (live_any (T2.mono hB2))
  have Hp2 := hid hp2
  have HT2 := hid T2
  clear h2 b2 hp2 T2 H1 B1
  go_wp2_with (first
    | (go_at_call 8; refine HL.out.mono ?_; rintro _ w3 ⟨rfl, b3⟩; have B3 := hid b3; have hB3 : B ≤ w3.heap.size := Nat.le_trans hB2 b3.size; have Hp3 := hid (Hp2.out.below b3); clear b3)
    | (go_at_call 9; refine (fork_any Hp3.out.ch ch0_ok).mono ?_; rintro _ w4 ⟨g2, v2, rfl, h4, b4⟩; have H4 := hid h4; have B4 := hid b4; clear h4 b4)
    | (go_at_call 10; refine (rFork_any (Hp3.out.rf.below B4.out) ch0_ok (Nat.le_trans hB3 B4.out.size)).mono ?_; rintro _ w5 ⟨r2, rfl, hr5, h5, b5⟩; have hi5 : Hid (ZInv W B g r g2 r2 0 w5) := ⟨⟨_, _, _, ch0, (Hp3.out.below B4.out).below b5, made0, fkA_mk Hp3.out (made0.mono (by omega)) hB3 H4.out B4.out hr5 h5 b5⟩, (HT2.out.below hB2 B3.out).below hB3 (Below.on' B4.out b5), (B2.out.trans (B3.out.mono hB2)).trans ((Below.on' B4.out b5).mono hB3)⟩; clear hr5 h5 b5))
  clear HL Hp2 HT2 B2 B3 Hp3 H4 B4 hB3
  go_loopw [5, 6, 7] (fun x y i wr => ∃ k g2 r2 : Nat, k ≤ l.length ∧ k ≤ 100 ∧ x = .pointer (some ⟨g2, 0, none⟩) ∧ y = .pointer (some ⟨r2, 0, none⟩) ∧ i = .int .i64 (k : Int) ∧ ZInv W B g r g2 r2 k wr) (fun _ _ i _ => 100 - (intOf i).toNat)
  case atStart => exact ⟨0, g2, r2, Nat.zero_le _, Nat.zero_le _, rfl, rfl, rfl, hi5.out⟩
  case round =>
    clear hi5
    obtain ⟨k, q2, s2, hk, hk100, rfl, rfl, rfl, ⟨v, u, c, d, hp, hm, hf⟩, htb, hbel⟩ := hrel
    have hlb := Hl.out.below HB.out hbel
    have Hp := hid hp
    have Hm := hid hm
    have Htb := hid htb
    have Hbel := hid hbel
    have HF := hid hf
    have Hlen : l.length ≤ 9223372036854775807 := Hl.out.len
    have hBr : B ≤ wr.heap.size := by have := hbel.size; have := HB.out; omega
    clear hp hm htb hbel hf
    by_cases hlt : k < l.length
    · have g1 : decide ((k : Int) < (l.length : Int)) = true := by simp; omega
      by_cases hlt2 : k < 100
      · have g2 : decide ((k : Int) < 100) = true := by simp; omega
        have hxs := Hl.out.sizes _ (List.getElem_mem hlt)
        obtain ⟨x, hx⟩ : ∃ x, l[k] = x := ⟨_, rfl⟩
        rw [hx] at hxs
        have Hx := hid hx
        clear hx
        by_cases hmid : k = l.length / 2
        · have g3 : ((k : Int) == ((l.length : Int) / 2)) = true := by simp; omega
          clear hmid hlb
          go_wp2_with (first
            | (go_at_call 9; refine (fork_any Hp.out.ch Hm.out.ok).mono ?_; rintro _ w4 ⟨g3, v3, rfl, h4, b4⟩; have H4 := hid h4; have B4 := hid b4; clear h4 b4)
            | (go_at_call 10; refine (rFork_any (Hp.out.rf.below B4.out) Hm.out.ok (Nat.le_trans hBr B4.out.size)).mono ?_; rintro _ w5 ⟨r3, rfl, hr5, h5, b5⟩; have hFk := hid (fkA_mk Hp.out (Hm.out.mono (by omega)) hBr H4.out B4.out hr5 h5 b5); have Hb5 := hid (Hbel.out.trans ((Below.on' B4.out b5).mono hBr)); have Hp5 := hid ((Hp.out.below B4.out).below b5); have Ht5 := hid (Htb.out.below hBr (Below.on' B4.out b5)); have hB5 : B ≤ w5.heap.size := Nat.le_trans (Nat.le_trans hBr B4.out.size) b5.size; obtain ⟨b, o, rfl, hbl, hr⟩ := (Hl.out.below HB.out Hb5.out).cells k hlt; rw [Hx.out] at hr; have d0 : w5.cell? ⟨b, o + k * 5, none⟩ = some (.int .i64 x.kind) := hr 0 _ rfl; have d1 : w5.cell? ⟨b, o + k * 5 + 1, none⟩ = some (.int .i64 x.at') := hr 1 _ rfl; have d2 : w5.cell? ⟨b, o + k * 5 + 2, none⟩ = some (.int .i64 x.n) := hr 2 _ rfl; have d3 : w5.cell? ⟨b, o + k * 5 + 3, none⟩ = some (.string x.what) := hr 3 _ rfl; have d4 : w5.cell? ⟨b, o + k * 5 + 4, none⟩ = some (.string x.who) := hr 4 _ rfl; have Hdo := hid (do_frame Hp5.out Hm.out (by omega) Ht5.out hB5 x hxs.1 hxs.2); clear hr5 h5 b5 hr hbl)
            | (go_at_call 11; refine Hdo.out.mono ?_; intro e w6 hd; obtain rfl := hd.1; have Hd := hid hd; clear hd))
          go_roundw
          case rel =>
            obtain ⟨_, ⟨v', u', hp', hgr⟩, hbw, hout⟩ := Hd.out
            exact ⟨k + 1, g3, r3, by omega, by omega, rfl, rfl, by go_num, ⟨⟨v', u', _, c, hp', Hm.out.step x, hFk.out.out hout hgr⟩, Ht5.out.keep hbw, Hb5.out.trans hbw⟩⟩
          case measure => simp [intOf]; omega
        · have g3 : ((k : Int) == ((l.length : Int) / 2)) = false := by simp; omega
          obtain ⟨b, o, rfl, hbl, hr⟩ := hlb.cells k hlt
          rw [Hx.out] at hr
          have Hdo := hid (do_frame Hp.out Hm.out (by omega) Htb.out hBr x hxs.1 hxs.2)
          have d0 : wr.cell? ⟨b, o + k * 5, none⟩ = some (.int .i64 x.kind) := hr 0 _ rfl
          have d1 : wr.cell? ⟨b, o + k * 5 + 1, none⟩ = some (.int .i64 x.at') := hr 1 _ rfl
          have d2 : wr.cell? ⟨b, o + k * 5 + 2, none⟩ = some (.int .i64 x.n) := hr 2 _ rfl
          have d3 : wr.cell? ⟨b, o + k * 5 + 3, none⟩ = some (.string x.what) := hr 3 _ rfl
          have d4 : wr.cell? ⟨b, o + k * 5 + 4, none⟩ = some (.string x.who) := hr 4 _ rfl
          clear hr hlb
          go_wp2_with ((go_at_call 11; refine Hdo.out.mono ?_; intro e w4 hd; obtain rfl := hd.1; have Hd := hid hd; clear hd))
          go_roundw
          case rel =>
            obtain ⟨_, ⟨v', u', hp', hgr⟩, hbw, hout⟩ := Hd.out
            exact ⟨k + 1, q2, s2, by omega, by omega, rfl, rfl, by go_num, ⟨⟨v', u', _, d, hp', Hm.out.step x, HF.out.out hout hgr⟩, Htb.out.keep hbw, Hbel.out.trans hbw⟩⟩
          case measure => simp [intOf]; omega
      · have g2 : decide ((k : Int) < 100) = false := by simp; omega
        obtain ⟨v2, u2, hc2, hr2, _⟩ := HF.out.ex
        have hcn : c.cnt < 1152921504606846976 := by have := Hm.out.cnt; omega
        have hdn : d.cnt < 1152921504606846976 := by have := HF.out.md.cnt; omega
        have S1 := hid (same_any Hp.out.ch Hp.out.rf Hm.out.ok hcn Htb.out hBr)
        have S2 := hid (fun (V : World) (hb : Below wr.heap.size wr V) => same_any (hc2.below hb) (hr2.below hb) HF.out.md.ok hdn (Htb.out.below hBr hb) (Nat.le_trans hBr hb.size))
        clear hc2 hr2 hlb
        go_wp2_with (first
          | (go_at_call 12; refine S1.out.mono ?_; rintro _ w5 ⟨rfl, b5⟩; have B5 := hid b5; clear b5 S1)
          | (go_at_call 12; refine (S2.out w5 B5.out).mono ?_; rintro _ w6 ⟨rfl, b6⟩; have B6 := hid b6; clear b6))
        go_ret
        exact ⟨rfl, by rw [← HB.out]; exact Hbel.out.trans ((Below.on' B5.out B6.out).mono hBr)⟩
    · have g1 : decide ((k : Int) < (l.length : Int)) = false := by simp; omega
      obtain ⟨v2, u2, hc2, hr2, _⟩ := HF.out.ex
      have hcn : c.cnt < 1152921504606846976 := by have := Hm.out.cnt; omega
      have hdn : d.cnt < 1152921504606846976 := by have := HF.out.md.cnt; omega
      have S1 := hid (same_any Hp.out.ch Hp.out.rf Hm.out.ok hcn Htb.out hBr)
      have S2 := hid (fun (V : World) (hb : Below wr.heap.size wr V) => same_any (hc2.below hb) (hr2.below hb) HF.out.md.ok hdn (Htb.out.below hBr hb) (Nat.le_trans hBr hb.size))
      clear hc2 hr2 hlb
      go_wp2_with (first
        | (go_at_call 12; refine S1.out.mono ?_; rintro _ w5 ⟨rfl, b5⟩; have B5 := hid b5; clear b5 S1)
        | (go_at_call 12; refine (S2.out w5 B5.out).mono ?_; rintro _ w6 ⟨rfl, b6⟩; have B6 := hid b6; clear b6))
      go_ret
      exact ⟨rfl, by rw [← HB.out]; exact Hbel.out.trans ((Below.on' B5.out B6.out).mono hBr)⟩
end Go.Proofs.YthnciogaibhmcaaDoor
