/- Commit of the reference's log, by a contract. -/
import Derived.Test.YthdcjepkehifoaaGreatWRChk
import Derived.BigQuiet
namespace Go.Proofs.YthdcjepkehifoaaGreat
open Go.RowKit Go.Maps
set_option linter.unusedVariables false
set_option maxRecDepth 20000

theorem rcommit_none (l : Nat) (a : Option Addr) (c : Nat) (w : World) : Calls Tryz.prog 75 #[.pointer (some ⟨l, 0, none⟩), .slice a 0 c] w fun e w' => e = .returned (.int .i64 0) ∧ w' = w := by
  go_enter Tryz.func75, Tryz.ntmps75
  go_wp2
  go_ret
  exact ⟨rfl, rfl⟩
theorem rcommit_long (l : Nat) (a : Option Addr) (n c : Nat) (w : World) (hn : 100 < n) : Calls Tryz.prog 75 #[.pointer (some ⟨l, 0, none⟩), .slice a n c] w fun e w' => e = .returned (.int .i64 6) ∧ w' = w := by
  have h1 : ((n : Int) == 0) = false := by rw [beq_eq_false_iff_ne]; omega
  have h2 : (100 : Int) < (n : Int) := by omega
  clear hn
  go_enter Tryz.func75, Tryz.ntmps75
  go_wp2
  go_ret
  exact ⟨rfl, rfl⟩

set_option maxHeartbeats 400000 in
theorem rpages_q {w : World} {B m r : Nat} {F L : Value} {vs us : List Value} {S G U : Nat} {fs : List (List UInt8)} {ls : List (Nat × List UInt8)} (h : RefLog w B m r F L vs us S G U fs ls) (P : Nat) (hl : fs.length = S + 1 + P) (hm : fs.length ≤ 1024) :
    Calls Tryz.prog 18 #[.pointer (some ⟨m, 0, none⟩)] w fun e w' => e = .returned (.int .i64 (P : Int)) ∧ ∃ n, w' = w.drewN n := by
  have Hb := hid (fun n => refBlocks_any (h.disk.below (w' := w.drewN n) (below_drewN _ _ _)))
  rw [hl] at Hb
  have c0 := h.c0
  have c1 := h.c1
  generalize hN : S + 1 + P = N at *
  have HN := hid hN
  have HP := hid (show N ≤ 1024 by omega)
  have g1 : IntKind.i64.wrap ((N : Int) - (S : Int)) = (N : Int) - (S : Int) := by rw [IntKind.wrap_i64]; omega
  have g2 : IntKind.i64.wrap ((N : Int) - (S : Int) - 1) = (P : Int) := by rw [IntKind.wrap_i64]; omega
  clear hN hl hm
  clear h
  go_enter Tryz.func18, Tryz.ntmps18
  go_wp2
  go_quiet ((go_at_call 77; refine Calls.quiet_of_same (Hb.out _)))
  go_wp2
  go_ret
  exact ⟨rfl, _, rfl⟩

/-- what Commit tells, and leaves -/
def RCm (w : World) (B m r : Nat) (F L : Value) (vs us : List Value) (S G U P : Nat) (ls : List (Nat × List UInt8)) (lp : List PgV) (e : Ending) (w' : World) : Prop :=
  (∃ c : Int, e = .returned (.int .i64 c) ∧ CErr S P U lp c ∧ Below w.heap.size w w') ∨
  (e = .returned (.int .i64 0) ∧ COk S P U lp ∧ RWPost w B m r F L vs us S (G + 1) (U + lp.length + 1) (fresh S P) (ls ++ commitWs U G (numsP (selN lp P)) ((selN lp P).map (bytesAt w))) w')

/-- so many pages are well formed -/
def NoBad (lp : List PgV) (k : Nat) : Prop := (∀ a b (hb : b < lp.length), a < b → b < k → ∀ ha : a < lp.length, lp[a].1 ≠ lp[b].1) ∧ ∀ b (hb : b < lp.length), b < k → lp[b].2.2.1 = 256
theorem NoBad.step {lp : List PgV} {k : Nat} (h : NoBad lp k) (hk : k < lp.length) (h1 : ∀ a (ha : a < lp.length), a < k → lp[a].1 ≠ lp[k].1) (h2 : lp[k].2.2.1 = 256) : NoBad lp (k + 1) := by
  refine ⟨fun a b hb hab hbk ha => ?_, fun b hb hbk => ?_⟩
  · rcases (show b < k ∨ b = k by omega) with h' | rfl
    · exact h.1 a b hb hab h' ha
    · exact h1 a ha hab
  · rcases (show b < k ∨ b = k by omega) with h' | rfl
    · exact h.2 b hb h'
    · exact h2
theorem NoBad.good {lp : List PgV} (h : NoBad lp lp.length) : ¬ BadForm lp := by
  rintro (hn | ⟨p, hp, hne⟩)
  · refine hn (List.pairwise_map.2 (List.pairwise_iff_getElem.2 fun a b ha hb hab => ?_))
    exact h.1 a b hb hab hb ha
  · obtain ⟨j, hj, rfl⟩ := List.getElem_of_mem hp
    exact hne (h.2 j hj hj)
/-- while the pages are picked: the index block and the pages so far -/
def SRel (W1 : World) (lp : List PgV) (n i : Nat) (v : Value) (wr : World) : Prop :=
  HRow W1 (ixB lp.length (numsP (selA lp n i))) wr ∧ wr.ownsRow (W1.heap.size + 1) 94 2 v (selA lp n i).length (pgCells (selA lp n i)) ∧ W1.heap.size < wr.heap.size
theorem SRel.below {W1 w w' : World} {lp : List PgV} {n i : Nat} {v : Value} (h : SRel W1 lp n i v w) (hb : Below w.heap.size w w') : SRel W1 lp n i v w' := by
  obtain ⟨⟨h1, h2⟩, h3, h4⟩ := h
  have := hb.size
  exact ⟨⟨own_below h1 hb, h2.trans (hb.mono h2.size)⟩, own_below h3 hb, by omega⟩
/-- two bytes of an index block stored -/
def pg2 (w : World) (g M : Nat) (x y : Int) : World := (w.setCell ⟨g, 2 + 2 * M, none⟩ (.int .u8 x)).setCell ⟨g, 3 + 2 * M, none⟩ (.int .u8 y)
theorem pg2_size (w : World) (g M : Nat) (x y : Int) : (pg2 w g M x y).heap.size = w.heap.size := by simp [pg2, World.setCell]
theorem alloc_at (w : World) (n : Nat) (hn : n = w.heap.size) (ob : Obj) : (w.alloc ob).heap[n]? = some ob := by
  subst hn
  exact heap_alloc_new w ob
theorem SRel.own2 {W1 wr : World} {lp : List PgV} {n k M : Nat} {v : Value} (h : SRel W1 lp n k v wr) (hM : (selA lp n k).length = M) {x y : Int} : (pg2 wr W1.heap.size M x y).ownsRow (W1.heap.size + 1) 94 2 v M (pgCells (selA lp n k)) := by
  rw [← hM]
  refine own_keep h.2.1 fun j e => ?_
  have := (h.2.1.lt j e).1
  exact (heap_setCell_other _ _ _ _ (by simp; omega)).trans (heap_setCell_other _ _ _ _ (by simp; omega))
theorem SRel.step {W1 wr w6 : World} {lp : List PgV} {n k M : Nat} {v v' : Value} (h : SRel W1 lp n k v wr) (hk : k < lp.length) (hx : lp[k].1 = (n : Int)) (hM : (selA lp n k).length = M) (hM2 : M < 127) (hn : n < 65536) (ob : Obj)
    (hown : w6.ownsRow (W1.heap.size + 1) 94 2 v' (M + 1) (pgCells (selA lp n k) ++ [.int .i64 lp[k].1, .slice lp[k].2.1 lp[k].2.2.1 lp[k].2.2.2])) (hg : ((pg2 wr W1.heap.size M ((n : Int) / 256) ((n : Int) % 256)).alloc ob).grownBy w6 v.ownBlock) : SRel W1 lp n (k + 1) v' w6 := by
  have hs := selA_hit lp n k hk hx
  have hr := (h.1.set (2 + 2 * M) (UInt8.ofNat (n / 256)) ((n : Int) / 256) (by rw [UInt8.toNat_ofNat']; omega)).set (3 + 2 * M) (UInt8.ofNat n) ((n : Int) % 256) (by rw [UInt8.toNat_ofNat']; omega)
  have hix := ixB_set lp.length (numsP (selA lp n k)) n (by rw [numsP_length]; omega)
  rw [numsP_length, hM] at hix
  rw [hix, ← numsP_snoc _ lp[k] n hx, ← hs] at hr
  have hW := h.2.2
  have hsz := pg2_size wr W1.heap.size M ((n : Int) / 256) ((n : Int) % 256)
  have hgs := hg.size
  rw [World.size_alloc] at hgs
  refine ⟨⟨own_keep hr.1 fun j e => ?_, (hr.2.alloc (by show W1.heap.size ≤ (pg2 wr W1.heap.size M ((n : Int) / 256) ((n : Int) % 256)).heap.size; omega) ob).grown hg (by rw [World.size_alloc]; show W1.heap.size ≤ (pg2 wr W1.heap.size M ((n : Int) / 256) ((n : Int) % 256)).heap.size + 1; omega) (fun j e => by have := (h.2.1.lt j e).1; omega)⟩, ?_, by omega⟩
  · obtain rfl : W1.heap.size = j := by simpa [Value.ownBlock] using e
    exact (hg.block _ (by rw [World.size_alloc]; omega) (fun e => by have := (h.2.1.lt _ e.symm).1; omega)).trans (Below.heap_alloc _ _ _ (by show W1.heap.size < (pg2 wr W1.heap.size M ((n : Int) / 256) ((n : Int) % 256)).heap.size; omega))
  · rw [hs, List.length_append, pgCells_snoc, hM]
    exact hown
set_option maxHeartbeats 3200000 in
theorem rcommit_any {w : World} {B m r : Nat} {F L : Value} {vs us : List Value} {S G U P : Nat} {ls : List (Nat × List UInt8)} (h : RW w B m r F L vs us S G U (fresh S P) ls) (hU : U ≤ S) (hm : S + 1 + P ≤ 1024) (hG : G + 1 < 9223372036854775808) (hls : ls.length ≤ 900000) (hbase : B ≤ w.heap.size)
    (lp : List PgV) (bp cp : Nat) (hp : PgsAt w bp 0 lp) (h1 : 1 ≤ lp.length) (h2 : lp.length ≤ 100) (hok : ∀ p ∈ lp, p.2.2.1 = 256 → PgOk w (rBlk m r F L vs us) p) :
    Calls Tryz.prog 75 #[.pointer (some ⟨m, 0, none⟩), .slice (some ⟨bp, 0, none⟩) lp.length cp] w (RCm w B m r F L vs us S G U P ls lp) := by
  obtain ⟨i0, hi, hz0, hz1, hz2⟩ := info_parts Tryz.info5
  obtain ⟨p0, pi, pz0, pz1, pz2⟩ := info_parts Tryz.info94
  have hbp : bp < w.heap.size := World.block_lt_of_cell? _ _ (hp 0 (by omega)).1
  have H := hid h
  have HP := hid hp
  have Hok := hid hok
  have d1 : ((lp.length : Int) == 0) = false := by rw [beq_eq_false_iff_ne]; omega
  have d2 : ¬ (100 : Int) < (lp.length : Int) := by omega
  clear h hp hok
  go_enter Tryz.func75, Tryz.ntmps75
  go_wp2
  clear d1 d2
  go_loopw [5] (fun i wr => ∃ k : Nat, k ≤ lp.length ∧ i = .int .i64 k ∧ (∀ j (hj : j < lp.length), j < k → 0 ≤ lp[j].1 ∧ lp[j].1 < (P : Int)) ∧ Below w.heap.size w wr) (fun i _ => lp.length - (intOf i).toNat)
  case atStart => exact ⟨0, Nat.zero_le _, rfl, fun _ _ h => absurd h (Nat.not_lt_zero _), Below.refl _ _⟩
  case round =>
    obtain ⟨k, hk, rfl, hg, hB⟩ := hrel
    have Hg := hid hg
    have HB := hid hB
    clear hg hB
    by_cases hlt : k < lp.length
    · have c1 := ((HP.out.keep (HB.out.block bp hbp)) k hlt).1
      have H1 := hid (H.out.below HB.out)
      have Hx : Hid (∀ x, lp[k].1 = x → x < 0 ∨ (P : Int) ≤ x → BadRange P lp) := fun x e hx => ⟨lp[k], List.getElem_mem hlt, by rw [e]; exact hx⟩
      have Hn : Hid (∀ x, lp[k].1 = x → 0 ≤ x → x < (P : Int) → ∀ j (hj : j < lp.length), j < k + 1 → 0 ≤ lp[j].1 ∧ lp[j].1 < (P : Int)) := fun x e hx1 hx2 j hj hjk => by
        rcases (show j < k ∨ j = k by omega) with h | rfl
        · exact Hg.out j hj h
        · rw [e]; exact ⟨hx1, hx2⟩
      have g1 : (k : Int) < (lp.length : Int) := by omega
      have g0 : (0 : Int) ≤ (k : Int) := by omega
      generalize hxx : lp[k].1 = x at *
      have Hxx := hid hxx
      clear hxx
      rw [Nat.zero_add] at c1
      rcases (show x < 0 ∨ (¬ x < 0 ∧ (P : Int) ≤ x) ∨ (¬ x < 0 ∧ ¬ (P : Int) ≤ x) by omega) with hx | ⟨hx1, hx2⟩ | ⟨hx1, hx2⟩
      · have d1 : decide (x < 0) = true := decide_eq_true hx
        go_wp2
        go_quiet ((go_at_call 18; refine Calls.quiet_of (rpages_q (H1.out.mem.below (below_drewN _ _ _)) P (fresh_length S P) (by rw [fresh_length]; exact hm))))
        go_wp2
        go_ret
        exact .inl ⟨2, rfl, .inr (.inr ⟨by omega, h2, .inl ⟨rfl, Hx.out x rfl (.inl hx)⟩⟩), HB.out.trans ((below_drewN _ _ _).mono HB.out.size)⟩
      · have d1 : decide (x < 0) = false := decide_eq_false hx1
        go_wp2
        go_quiet ((go_at_call 18; refine Calls.quiet_of (rpages_q (H1.out.mem.below (below_drewN _ _ _)) P (fresh_length S P) (by rw [fresh_length]; exact hm))))
        go_wp2
        go_ret
        exact .inl ⟨2, rfl, .inr (.inr ⟨by omega, h2, .inl ⟨rfl, Hx.out x rfl (.inr hx2)⟩⟩), HB.out.trans ((below_drewN _ _ _).mono HB.out.size)⟩
      · have d1 : decide (x < 0) = false := decide_eq_false hx1
        go_wp2
        go_quiet ((go_at_call 18; refine Calls.quiet_of (rpages_q (H1.out.mem.below (below_drewN _ _ _)) P (fresh_length S P) (by rw [fresh_length]; exact hm))))
        go_wp2
        go_roundw
        case rel => exact ⟨k + 1, by omega, by go_num, Hn.out x rfl (by omega) (by omega), HB.out.trans ((below_drewN _ _ _).mono HB.out.size)⟩
        case measure => simp [intOf]; omega
    · obtain rfl : k = lp.length := by omega
      have g1 : ¬ (lp.length : Int) < (lp.length : Int) := by omega
      have Hr : Hid (¬ BadRange P lp) := by
        rintro ⟨p, hp, hx⟩
        obtain ⟨j, hj, rfl⟩ := List.getElem_of_mem hp
        have := Hg.out j hj hj
        omega
      clear Hg
      obtain ⟨V, rfl⟩ : ∃ V, V = wr := ⟨_, rfl⟩
      go_wp2
      clear g1
      go_loopw [6] (fun i wr => ∃ k : Nat, k ≤ lp.length ∧ i = .int .i64 k ∧ NoBad lp k ∧ Below V.heap.size V wr) (fun i _ => lp.length - (intOf i).toNat)
      case atStart => exact ⟨0, Nat.zero_le _, rfl, ⟨fun _ _ _ _ h => absurd h (Nat.not_lt_zero _), fun _ _ h => absurd h (Nat.not_lt_zero _)⟩, Below.refl _ _⟩
      case round =>
        obtain ⟨k, hk, rfl, hg, hB2⟩ := hrel
        have Hg := hid hg
        have HB2 := hid (HB.out.trans (hB2.mono HB.out.size))
        have HBV := hid hB2
        clear hg hB2
        by_cases hlt : k < lp.length
        · have g1 : (k : Int) < (lp.length : Int) := by omega
          obtain ⟨V2, rfl⟩ : ∃ V2, V2 = wr := ⟨_, rfl⟩
          go_wp2
          go_loopw [7] (fun i wr => ∃ j : Nat, j ≤ k ∧ i = .int .i64 j ∧ (∀ a (ha : a < lp.length), a < j → lp[a].1 ≠ lp[k].1) ∧ Below V2.heap.size V2 wr) (fun i _ => k - (intOf i).toNat)
          case atStart => exact ⟨0, Nat.zero_le _, rfl, fun _ _ h => absurd h (Nat.not_lt_zero _), Below.refl _ _⟩
          case round =>
            obtain ⟨j, hj, rfl, hg3, hB3⟩ := hrel
            have Hg3 := hid hg3
            have HB3 := hid (HB2.out.trans (hB3.mono HB2.out.size))
            have HBV3 := hid hB3
            clear hg3 hB3
            have hPg := HP.out.keep (HB3.out.block bp hbp)
            by_cases hjk : j < k
            · have c1 := (hPg j (by omega)).1
              have c2 := (hPg k hlt).1
              have g2 : (j : Int) < (k : Int) := by omega
              have g3 : (j : Int) < (lp.length : Int) := by omega
              have g4 : (0 : Int) ≤ (j : Int) := by omega
              have g5 : (0 : Int) ≤ (k : Int) := by omega
              rw [Nat.zero_add] at c1 c2
              have Hd : Hid (lp[j].1 = lp[k].1 → BadForm lp) := fun e => .inl fun hn => by
                have := List.pairwise_iff_getElem.1 (List.pairwise_map.1 hn) j k (by omega) hlt hjk
                exact this e
              have Hn3 : Hid (lp[j].1 ≠ lp[k].1 → ∀ a (ha : a < lp.length), a < j + 1 → lp[a].1 ≠ lp[k].1) := fun hne a ha haj => by
                rcases (show a < j ∨ a = j by omega) with h | rfl
                · exact Hg3.out a ha h
                · exact hne
              clear hPg
              generalize hx : lp[j].1 = x at *
              generalize hy : lp[k].1 = y at *
              have Hy := hid hy
              have Hx := hid hx
              clear hx hy
              by_cases hxy : x = y
              · have d1 : (x == y) = true := by rw [beq_iff_eq]; exact hxy
                have Hxy := hid hxy
                clear hxy
                go_wp2
                go_quiet (fail)
                go_wp2
                go_ret
                exact .inl ⟨3, rfl, .inr (.inr ⟨by omega, h2, .inr (.inl ⟨rfl, Hr.out, Hd.out Hxy.out⟩)⟩), HB3.out.trans ((below_drewN _ _ _).mono HB3.out.size)⟩
              · have d1 : (x == y) = false := by rw [beq_eq_false_iff_ne]; exact hxy
                have Hxy := hid hxy
                clear hxy
                go_wp2
                go_quiet (fail)
                go_wp2
                go_roundw
                case rel => exact ⟨j + 1, by omega, by go_num, Hn3.out Hxy.out, HBV3.out.trans ((below_drewN _ _ _).mono HBV3.out.size)⟩
                case measure => simp [intOf]; omega
            · obtain rfl : j = k := by omega
              have g2 : ¬ (j : Int) < (j : Int) := by omega
              have c1 := (hPg j hlt).2
              have g5 : (0 : Int) ≤ (j : Int) := by omega
              rw [Nat.zero_add] at c1
              have Hd : Hid (lp[j].2.2.1 ≠ 256 → BadForm lp) := fun e => .inr ⟨lp[j], List.getElem_mem hlt, e⟩
              have Hn3 : Hid (lp[j].2.2.1 = 256 → NoBad lp (j + 1)) := fun e => Hg.out.step hlt (fun a ha h => Hg3.out a ha h) e
              clear hPg
              generalize lp[j].2.1 = xa at *
              generalize lp[j].2.2.1 = xn at *
              generalize lp[j].2.2.2 = xc at *
              by_cases hxn : xn = 256
              · subst hxn
                go_wp2
                go_roundw
                case rel => exact ⟨j + 1, by omega, by go_num, Hn3.out rfl, HBV.out.trans (HBV3.out.mono HBV.out.size)⟩
                case measure => simp [intOf]; omega
              · have d1 : ((xn : Int) != 256) = true := by rw [bne_iff_ne]; omega
                have Hxn := hid hxn
                clear hxn
                go_wp2
                go_ret
                exact .inl ⟨3, rfl, .inr (.inr ⟨by omega, h2, .inr (.inl ⟨rfl, Hr.out, Hd.out Hxn.out⟩)⟩), HB3.out⟩
        · obtain rfl : k = lp.length := by omega
          have g1 : ¬ (lp.length : Int) < (lp.length : Int) := by omega
          have Hf : Hid (¬ BadForm lp) := Hg.out.good
          clear Hg HBV HB
          have H3 := hid (H.out.below HB2.out)
          have c1 := H3.out.mem.c1
          have c3 := H3.out.mem.c3
          have Hnd : Hid (∀ w, Calls Tryz.prog 128 #[.int .i64 (lp.length : Int)] w fun e w' => e = .returned (.int .i64 ((lp.length : Int) + 1)) ∧ w' = w) := fun w => by
            have h := rneed_any (lp.length : Int) w
            rw [show needOf (lp.length : Int) = (lp.length : Int) + 1 by unfold needOf; rw [if_neg (by omega)]] at h
            exact h
          have g2 : IntKind.i64.wrap ((S : Int) - (U : Int)) = (S : Int) - (U : Int) := by rw [IntKind.wrap_i64]; omega
          by_cases hfull : S < U + lp.length + 1
          · have d1 : (S : Int) - (U : Int) < (lp.length : Int) + 1 := by omega
            go_wp2
            go_quiet ((go_at_call 128; refine Calls.quiet_of_same (Hnd.out _)))
            go_wp2
            go_ret
            exact .inl ⟨7, rfl, .inr (.inr ⟨by omega, h2, .inr (.inr ⟨rfl, Hr.out, Hf.out, hfull⟩)⟩), HB2.out.trans ((below_drewN _ _ _).mono HB2.out.size)⟩
          · have d1 : ¬ (S : Int) - (U : Int) < (lp.length : Int) + 1 := by omega
            have Hco : Hid (COk S P U lp) := ⟨by omega, h2, Hr.out, Hf.out, by omega⟩
            go_wp2
            go_quiet ((go_at_call 128; refine Calls.quiet_of_same (Hnd.out _)))
            have HB3 := hid (HB2.out.trans ((below_drewN _ wr nq).mono HB2.out.size))
            clear c1 c3 d1 g1 g2 H3 HB2 Hf Hr
            generalize wr.drewN nq = W1 at *
            go_wp2_with (at_make; refine wpList_make_full _ rfl _ _ 36 rfl W1.heap.size 5 i0 (.int .u8 0) 1 Tryz.underlying36 hi hz0 hz1 .i64 .i64 _ _ 256 rfl rfl (by omega) (by omega) (by rw [hz2]; omega) (by unfold maxLen; omega) (Nat.le_refl _) ?_; intro w1 hown1 hgrow1; have H1 : Hid (HRow W1 (List.replicate 256 0) w1) := ⟨made_own hown1, (Below.refl _ W1).grown hgrow1 (Nat.le_refl _) (by simp)⟩; clear hown1 hgrow1; obtain ⟨x0, k0⟩ := H1.out.cell List.length_replicate 0 (by omega); obtain ⟨x1, k1⟩ := H1.out.cell List.length_replicate 1 (by omega); have z0 := H1.out.1.frozenAt 0; have z1 := H1.out.1.frozenAt 1)
            have HS0 : Hid (SRel W1 lp 0 0 (.slice none 0 0) ((w1.setCell ⟨W1.heap.size, 0, none⟩ (.int .u8 ((lp.length : Int) / 256))).setCell ⟨W1.heap.size, 1, none⟩ (.int .u8 (lp.length : Int)))) := by
              have h := (H1.out.set 0 (UInt8.ofNat (lp.length / 256)) ((lp.length : Int) / 256) (by rw [UInt8.toNat_ofNat']; omega)).set 1 (UInt8.ofNat lp.length) (lp.length : Int) (by rw [UInt8.toNat_ofNat']; omega)
              rw [ixB_start] at h
              exact ⟨h, World.ownsRow_nil _ _ _ _, (h.1.lt _ rfl).2⟩
            clear H1 k0 k1 z0 z1
            obtain ⟨Hnd1, Hnd2, Hnd3⟩ := Hco.out.good
            have HND := hid (And.intro Hnd1 Hnd3)
            clear Hnd1 Hnd2 Hnd3
            go_loopw [9, 10] (fun v i wr => ∃ n : Nat, n ≤ P ∧ i = .int .i64 n ∧ SRel W1 lp n 0 v wr) (fun _ i _ => P - (intOf i).toNat)
            case atStart => exact ⟨0, Nat.zero_le _, rfl, HS0.out⟩
            case round =>
              obtain ⟨n, hn, rfl, hR⟩ := hrel
              have HR := hid hR
              clear hR HS0
              have HB4 := hid (HB3.out.trans (HR.out.1.2.mono HB3.out.size))
              have H4 := hid (H.out.below HB4.out)
              have Hpg := hid (rpages_any H4.out.mem P (fresh_length S P) (by rw [fresh_length]; exact hm))
              by_cases hlt : n < P
              · have g1 : (n : Int) < (P : Int) := by omega
                go_wp2_with (fail)
                refine Hpg.out.mono ?_
                rintro e w5 ⟨rfl, hb5⟩
                have HR5 := hid (HR.out.below hb5)
                clear hb5 Hpg H4 HB4 HR
                go_wp2
                go_loopw [9, 11] (fun v i wr => ∃ k : Nat, k ≤ lp.length ∧ i = .int .i64 k ∧ SRel W1 lp n k v wr) (fun _ i _ => lp.length - (intOf i).toNat)
                case atStart => exact ⟨0, Nat.zero_le _, rfl, HR5.out⟩
                case round =>
                  obtain ⟨k, hk, rfl, hR⟩ := hrel
                  have HR := hid hR
                  clear hR HR5
                  have HB6 := hid (HB3.out.trans (HR.out.1.2.mono HB3.out.size))
                  have hPg := HP.out.keep (HB6.out.block bp hbp)
                  by_cases hkl : k < lp.length
                  · have g2 : (k : Int) < (lp.length : Int) := by omega
                    have g3 : (0 : Int) ≤ (k : Int) := by omega
                    have c1 := (hPg k hkl).1
                    have c2 := (hPg k hkl).2
                    rw [Nat.zero_add] at c1 c2
                    clear hPg
                    by_cases hx : lp[k].1 = (n : Int)
                    · have Hht := hid (selA_hit lp n k hkl hx)
                      have hM1 : (selA lp n k).length + 1 ≤ lp.length := by
                        have h := selA_len HND.out.1 P HND.out.2 n (k + 1) hlt
                        rw [Hht.out, List.length_append] at h
                        exact h
                      obtain ⟨M, hM⟩ : ∃ M, (selA lp n k).length = M := ⟨_, rfl⟩
                      rw [hM] at hM1
                      have HM := hid hM
                      obtain ⟨va, vc, rfl⟩ : ∃ va vc, u9 = .slice va M vc := by
                        rcases HR.out.2.1.2 with ⟨h1, h2⟩ | ⟨g, cap, _, h1, _⟩
                        · exact ⟨none, 0, by rw [h1, ← hM, h2]⟩
                        · exact ⟨_, _, by rw [← hM]; exact h1⟩
                      have hix : (ixB lp.length (numsP (selA lp n k))).length = 256 := ixB_length _ _ (by rw [numsP_length]; omega)
                      obtain ⟨x0, k0⟩ := HR.out.1.cell hix (2 + 2 * M) (by omega)
                      obtain ⟨x1, k1⟩ := HR.out.1.cell hix (3 + 2 * M) (by omega)
                      have z0 := HR.out.1.1.frozenAt (2 + 2 * M)
                      have z1 := HR.out.1.1.frozenAt (3 + 2 * M)
                      have g4 : IntKind.i64.wrap (2 * (M : Int)) = 2 * (M : Int) := by rw [IntKind.wrap_i64]; omega
                      have g5 : IntKind.i64.wrap (2 + 2 * (M : Int)) = ((2 + 2 * M : Nat) : Int) := by rw [IntKind.wrap_i64]; omega
                      have g6 : IntKind.i64.wrap (3 + 2 * (M : Int)) = ((3 + 2 * M : Nat) : Int) := by rw [IntKind.wrap_i64]; omega
                      have g7 : ((2 + 2 * M : Nat) : Int) < 256 := by omega
                      have g8 : ((3 + 2 * M : Nat) : Int) < 256 := by omega
                      have hne : ¬ bp = W1.heap.size := by have := HB3.out.size; omega
                      have d1 : (lp[k].1 == (n : Int)) = true := by rw [beq_iff_eq]; exact hx
                      have Hx := hid hx
                      have hn2 : n < 1024 := by omega
                      clear hix hM hx
                      have HOr := hid (HR.out.own2 HM.out (x := (n : Int) / 256) (y := (n : Int) % 256))
                      have Hnw := hid (alloc_at (pg2 wr W1.heap.size M ((n : Int) / 256) ((n : Int) % 256)) wr.heap.size (pg2_size _ _ _ _ _).symm (.cells #[.int .i64 lp[k].1, .slice lp[k].2.1 lp[k].2.2.1 lp[k].2.2.2] 94))
                      have hs2 := pg2_size wr W1.heap.size M ((n : Int) / 256) ((n : Int) % 256)
                      unfold pg2 at HOr Hnw hs2
                      have hsW := HR.out.2.2
                      go_wp2_with (at_builtin; refine wpList_append_own_at _ rfl _ _ 67 rfl (W1.heap.size + 1) 94 p0 _ 2 32 Tryz.underlying67 pi pz0 pz1 pz2 rfl (by decide) (.slice va M vc) M (pgCells (selA lp n k)) rfl (HOr.out.alloc _) ⟨wr.heap.size, 0, none⟩ 1 1 [.int .i64 lp[k].1, .slice lp[k].2.1 lp[k].2.2.1 lp[k].2.2.2] rfl rfl (World.news_of_block (cs := #[.int .i64 lp[k].1, .slice lp[k].2.1 lp[k].2.2.1 lp[k].2.2.2]) (t := 94) (fr := (0, 0)) Hnw.out) (by simp [Value.oneCell']) (by unfold maxLen; omega) (by omega) (by rw [World.size_alloc]; omega) ?_; intro v' w6 hown6 hgrow6 hnil6 hloc6)
                      have HSt : Hid (SRel W1 lp n (k + 1) v' w6) := HR.out.step hkl Hx.out HM.out (by omega) (by omega) _ hown6 hgrow6
                      clear hown6 hgrow6 hnil6 hloc6
                      go_roundw
                      case rel => exact ⟨k + 1, by omega, by go_num, HSt.out⟩
                      case measure => simp [intOf]; omega
                    · have Hms := hid (selA_miss lp n k hkl hx)
                      generalize lp[k].1 = x at *
                      have d1 : (x == (n : Int)) = false := by rw [beq_eq_false_iff_ne]; exact hx
                      clear hx
                      go_wp2
                      go_roundw
                      case rel => exact ⟨k + 1, by omega, by go_num, by unfold SRel; rw [Hms.out]; exact HR.out⟩
                      case measure => simp [intOf]; omega
                  · obtain rfl : k = lp.length := by omega
                    have g2 : ¬ (lp.length : Int) < (lp.length : Int) := by omega
                    have HRn : Hid (SRel W1 lp (n + 1) 0 u9 wr) := by
                      unfold SRel
                      rw [selA_zero, ← selA_end]
                      exact HR.out
                    go_wp2
                    go_roundw
                    case rel => exact ⟨n + 1, by omega, by go_num, HRn.out⟩
                    case measure => simp [intOf]; omega
              · obtain rfl : n = P := by omega
                have g1 : ¬ (n : Int) < (n : Int) := by omega
                go_wp2_with (fail)
                refine Hpg.out.mono ?_
                rintro e w5 ⟨rfl, hb5⟩
                have HR5 := hid (HR.out.below hb5)
                have HB5 := hid (HB4.out.trans (hb5.mono HB4.out.size))
                clear hb5 Hpg H4 HB4 HR
                obtain ⟨hgi, hnl⟩ := Hco.out.nums
                have hsl : (selN lp n).length = lp.length := by rw [numsP_length] at hnl; exact hnl
                have HIx : Hid (HRow W1 (indexB (numsP (selN lp n))) w5) := by
                  have h := HR5.out.1
                  rw [selA_zero, ← hnl] at h
                  exact h
                have hrow : w5.ownsRow (W1.heap.size + 1) 94 2 u9 lp.length (pgCells (selN lp n)) := by
                  have h := HR5.out.2.1
                  rw [selA_zero, hsl] at h
                  exact h
                obtain ⟨gv, vc, rfl, _, _⟩ := hrow.form (by omega)
                have hgv := hrow.lt gv rfl
                have Hrow := hid (pgs_of_row (by rw [hsl]; exact hrow))
                have Hsm := hid (fun p (hp : p ∈ selN lp n) => (selN_mem.1 hp).1)
                have H256 := hid Hco.out.good.2.1
                have Hns := hid hnl
                have H5 := hid (H.out.below HB5.out)
                have hs5 := HB5.out.size
                have hsW := HB3.out.size
                have Hgn : Hid (∀ L2 us2, (∀ j, rBlk m r F L2 vs us2 j → rBlk m r F L vs us j ∨ w5.heap.size ≤ j) → ¬ rBlk m r F L2 vs us2 gv) := fun L2 us2 hn hg => by
                  rcases hn gv hg with hh | hh
                  · have := (H.out.lts gv hh).2; omega
                  · omega
                have hixl : (indexB (numsP (selN lp n))).length = 256 := indexB_length _ (by omega)
                have Hw := hid (rw_write (H5.out.below (below_drewN _ w5 1)) (U + 1) (by rw [fresh_length]; have := Hco.out.2.2.2.2; omega) (indexB (numsP (selN lp n))) hixl W1.heap.size 0 256 ((bytes_of_row HIx.out.1 hixl).below (below_drewN _ w5 1)) (by omega) (by show B ≤ w5.heap.size; omega))
                have hUS := Hco.out.2.2.2.2
                have Hsl := hid hsl
                clear HR5 hrow hgi hnl hsl hixl
                have c0 := H5.out.mem.c0
                have c3 := H5.out.mem.c3
                have g2 : IntKind.i64.wrap ((U : Int) + 1) = (U : Int) + 1 := by rw [IntKind.wrap_i64]; omega
                go_wp2
                go_region_held3 (fun w9 => w9.cell? ⟨m, 0, none⟩ = some (.pointer (some ⟨r, 0, none⟩)) ∧ w9.cell? ⟨m, 3, none⟩ = some (.int .i64 (U : Int))) (first | exact ⟨c0, c3⟩ | exact q1.out)
                  ((go_at_call 126; refine (Hw.out _ (by omega)).mono ?_; rintro e u1 ⟨rfl, hP1⟩; have HP1 := hid (RWPost.comp0 (below_drewN _ w5 1) hP1); have q1 := hid (by obtain ⟨L2, us2, hW2, _, _⟩ := HP1.out; exact And.intro hW2.mem.c0 hW2.mem.c3); clear hP1))
                clear c0 c3 q1 Hw g2
                obtain ⟨xs, hxs⟩ : ∃ xs, xs = (selN lp n).map (bytesAt w) := ⟨_, rfl⟩
                have Hxs := hid hxs
                have Hxl : Hid (xs.length = lp.length) := by rw [hxs, List.length_map]; exact Hsl.out
                clear hxs
                have HK0 : Hid (RWPost w5 B m r F L vs us S G U (fresh S n) (ls ++ ((U + 1, indexB (numsP (selN lp n))) :: putAt (U + 2) (xs.take 0))) u1) := by rw [List.take_zero]; exact HP1.out
                clear HP1
                go_wp2
                go_loopw [12] (fun i wr => ∃ k : Nat, k ≤ lp.length ∧ i = .int .i64 k ∧ RWPost w5 B m r F L vs us S G U (fresh S n) (ls ++ ((U + 1, indexB (numsP (selN lp n))) :: putAt (U + 2) (xs.take k))) wr) (fun i _ => lp.length - (intOf i).toNat)
                case atStart => exact ⟨0, Nat.zero_le _, rfl, HK0.out⟩
                case round =>
                  obtain ⟨k, hk, rfl, hR⟩ := hrel
                  obtain ⟨L1, us1, hW, hnw, hOw⟩ := hR
                  have HW := hid hW
                  have Hnw := hid hnw
                  have HO := hid hOw
                  have c0 := hW.mem.c0
                  have c3 := hW.mem.c3
                  have hso := hOw.size
                  have hlen1 : (ls ++ ((U + 1, indexB (numsP (selN lp n))) :: putAt (U + 2) (xs.take k))).length ≤ 1000000 := by
                    have := Hxl.out
                    rw [List.length_append, List.length_cons, putAt_length, List.length_take]; omega
                  clear hW hnw hOw HK0
                  by_cases hlt : k < lp.length
                  · have hks : k < (selN lp n).length := by rw [Hsl.out]; exact hlt
                    have hkx : k < xs.length := by rw [Hxl.out]; exact hlt
                    have hcell : wr.cell? ⟨gv, k * 2 + 1, none⟩ = some (.slice (selN lp n)[k].2.1 (selN lp n)[k].2.2.1 (selN lp n)[k].2.2.2) := by
                      have h1 := (Hrow.out k hks).2
                      rw [Nat.zero_add] at h1
                      exact (World.cell?_of_block (a := ⟨gv, k * 2 + 1, none⟩) (HO.out.block gv hgv.2 (fun hh => by have := (H.out.lts gv hh).2; omega))).trans h1
                    have hpm := Hsm.out _ (List.getElem_mem hks)
                    obtain ⟨b, o, hb1, hb2, hb3, hb4, hb5⟩ := Hok.out _ hpm (H256.out _ hpm)
                    have hxk : xs[k] = bytesAt w (selN lp n)[k] := by simp [Hxs.out]
                    have Hby : Hid (Bytes wr (some ⟨b, o, none⟩) xs[k]) := by
                      rw [hxk]
                      exact (hb3.keep (HB5.out.block b hb5)).keep (HO.out.block b (by omega) hb4)
                    have Hx256 : Hid (xs[k].length = 256) := by rw [hxk, bytesAt_length]; exact hb2
                    have Htk : Hid (putAt (U + 2) (xs.take (k + 1)) = putAt (U + 2) (xs.take k) ++ [(U + 2 + k, xs[k])]) := by
                      rw [List.take_succ_eq_append_getElem hkx, putAt_snoc, List.length_take, Nat.min_eq_left (by omega)]
                      exact rfl
                    rw [hb1, hb2] at hcell
                    clear hb1 hb2 hb3 hb4 hb5 hxk hpm
                    generalize (selN lp n)[k].2.2.2 = xc at *
                    generalize xs[k] = xx at *
                    have g1 : (k : Int) < (lp.length : Int) := by omega
                    have g0 : (0 : Int) ≤ (k : Int) := by omega
                    have g2 : IntKind.i64.wrap ((U : Int) + 2) = (U : Int) + 2 := by rw [IntKind.wrap_i64]; omega
                    have g3 : IntKind.i64.wrap ((U : Int) + 2 + (k : Int)) = (U : Int) + 2 + (k : Int) := by rw [IntKind.wrap_i64]; omega
                    have Hw := hid (rw_write (HW.out.below (below_drewN _ wr 1)) (U + 2 + k) (by rw [fresh_length]; omega) xx Hx256.out b o xc (Hby.out.below (below_drewN _ wr 1)) hlen1 (by show B ≤ wr.heap.size; omega))
                    go_wp2
                    go_region_held3 (fun w9 => w9.cell? ⟨m, 0, none⟩ = some (.pointer (some ⟨r, 0, none⟩)) ∧ w9.cell? ⟨m, 3, none⟩ = some (.int .i64 (U : Int)) ∧ w9.cell? ⟨gv, k * 2 + 1, none⟩ = some (.slice (some ⟨b, o, none⟩) 256 xc)) (first | exact ⟨c0, c3, hcell⟩ | exact q1.out)
                      ((go_at_call 126; refine (Hw.out _ (by omega)).mono ?_; rintro e u2 ⟨rfl, hP1⟩; have HP1 := hid (RWPost.comp0 (below_drewN _ wr 1) hP1); have q1 := hid (by obtain ⟨L2, us2, hW2, _, ho2⟩ := HP1.out; exact And.intro hW2.mem.c0 (And.intro hW2.mem.c3 ((World.cell?_of_block (a := ⟨gv, k * 2 + 1, none⟩) (ho2.block gv (by omega) (Hgn.out L1 us1 Hnw.out))).trans hcell))); clear hP1))
                    clear c0 c3 hcell q1 Hw
                    have HK : Hid (RWPost w5 B m r F L vs us S G U (fresh S n) (ls ++ ((U + 1, indexB (numsP (selN lp n))) :: putAt (U + 2) (xs.take (k + 1)))) u2) := by
                      have h3 := HP1.out
                      rw [List.append_assoc, List.cons_append, ← Htk.out] at h3
                      exact RWPost.trans Hnw.out HO.out h3
                    go_wp2
                    go_roundw
                    case rel => exact ⟨k + 1, by omega, by go_num, HK.out⟩
                    case measure => simp [intOf]; omega
                  · obtain rfl : k = lp.length := by omega
                    have g1 : ¬ (lp.length : Int) < (lp.length : Int) := by omega
                    have z3 := frozen_of_row _ _ 3 _ _ HW.out.mem.obj
                    have z2 := frozen_of_row _ _ 2 _ _ HW.out.mem.obj
                    have c2 := HW.out.mem.c2
                    have g2 : IntKind.i64.wrap ((U : Int) + ((lp.length : Int) + 1)) = (U : Int) + ((lp.length : Int) + 1) := by rw [IntKind.wrap_i64]; omega
                    have g3 : IntKind.i64.wrap ((G : Int) + 1) = (G : Int) + 1 := by rw [IntKind.wrap_i64]; omega
                    go_wp2
                    go_region_with ((go_at_call 128; refine (Hnd.out _).mono ?_; rintro e u2 ⟨rfl, hu2⟩; subst u2))
                    all_goals
                      have HS : Hid (RW (wr.setCell ⟨m, 3, none⟩ (.int .i64 ((U : Int) + ((lp.length : Int) + 1)))).drew B m r F L1 vs us1 S G (U + lp.length + 1) (fresh S n) (ls ++ ((U + 1, indexB (numsP (selN lp n))) :: putAt (U + 2) (xs.take lp.length)))) := by
                        have h := HW.out.set3 (U + lp.length + 1)
                        rw [show ((U + lp.length + 1 : Nat) : Int) = (U : Int) + ((lp.length : Int) + 1) by omega] at h
                        exact h.below ⟨rfl, rfl, rfl, Nat.le_refl _, fun _ _ => rfl⟩
                      have HOs : Hid (Out (rBlk m r F L vs us) w5 (wr.setCell ⟨m, 3, none⟩ (.int .i64 ((U : Int) + ((lp.length : Int) + 1)))).drew) := (HO.out.comp (out_set wr m 3 _) (fun j hj => .inl (.inl hj))).comp (Out.of_below (P := rBlk m r F L vs us) ⟨rfl, rfl, rfl, Nat.le_refl _, fun _ _ => rfl⟩) (fun _ h => .inl h)
                      generalize (wr.setCell ⟨m, 3, none⟩ (.int .i64 ((U : Int) + ((lp.length : Int) + 1)))).drew = V3 at *
                      clear c0 c3 c2 z2 z3
                      have c2 := HS.out.mem.c2
                      have z2 := frozen_of_row _ _ 2 _ _ HS.out.mem.obj
                      have HS2 : Hid (RW (V3.setCell ⟨m, 2, none⟩ (.int .i64 ((G : Int) + 1))) B m r F L1 vs us1 S (G + 1) (U + lp.length + 1) (fresh S n) (ls ++ ((U + 1, indexB (numsP (selN lp n))) :: putAt (U + 2) (xs.take lp.length)))) := HS.out.set2 (G + 1)
                      have HO2 := hid (HOs.out.comp (out_set V3 m 2 (.int .i64 ((G : Int) + 1))) (fun j hj => .inl (.inl hj)))
                      have Hh := hid (rhead_any HS2.out hG (by omega) (by rw [fresh_length]; omega) hlen1 (by have := HO2.out.size; omega))
                      go_wp2_with (fail)
                      refine Hh.out.mono ?_
                      rintro e w9 ⟨rfl, hP9⟩
                      have HP9 := hid hP9
                      clear hP9 Hh
                      go_wp2
                      go_ret
                      refine .inr ⟨rfl, Hco.out, ?_⟩
                      have ec : ls ++ commitWs U G (numsP (selN lp n)) ((selN lp n).map (bytesAt w)) = (ls ++ ((U + 1, indexB (numsP (selN lp n))) :: putAt (U + 2) (xs.take lp.length))) ++ [(0, headB (G + 1) (U + lp.length + 1))] := by
                        rw [← Hxs.out, List.take_of_length_le (by rw [Hxl.out]; exact Nat.le_refl _)]
                        unfold commitWs
                        rw [Hns.out, List.append_assoc, List.cons_append]
                      rw [ec]
                      refine RWPost.trans (w1 := V3.setCell ⟨m, 2, none⟩ (.int .i64 ((G : Int) + 1))) (fun j hj => ?_) ((Out.of_below HB5.out).comp HO2.out (fun _ h => .inl h)) HP9.out
                      rcases Hnw.out j hj with hh | hh
                      · exact .inl hh
                      · exact .inr (by omega)
/-- Commit of a whole reference's log -/
def CmR (w : World) (B m S P G : Nat) (gs : List (List Nat)) (ls : List (Nat × List UInt8)) (R : Nat → Prop) (lp : List PgV) (e : Ending) (w' : World) : Prop :=
  Out R w w' ∧ ((∃ c : Int, e = .returned (.int .i64 c) ∧ CErr S P (usedOf gs) lp c ∧ RQ w' B m S G gs P ls R) ∨
    (e = .returned (.int .i64 0) ∧ COk S P (usedOf gs) lp ∧ ∃ R', (∀ j, R' j → R j ∨ w.heap.size ≤ j) ∧ RQ w' B m S (G + 1) (gs ++ [numsP (selN lp P)]) P (ls ++ commitWs (usedOf gs) G (numsP (selN lp P)) ((selN lp P).map (bytesAt w))) R'))
theorem r_commit {w : World} {B m S G : Nat} {gs : List (List Nat)} {P : Nat} {ls : List (Nat × List UInt8)} {R : Nat → Prop} (h : RQ w B m S G gs P ls R) {H : Nat} (hRH : ∀ j, R j → j < H) (hG : G + 1 < 9223372036854775808) (hls : ls.length ≤ 900000) (hbase : B ≤ w.heap.size)
    {q : List Int} {sh : Bool} {y : UInt8} {lp : List PgV} (hd : DeedPgs w H q sh y lp) (a : Option Addr) (cp : Nat) (hp : 0 < lp.length → ∃ b, a = some ⟨b, 0, none⟩ ∧ PgsAt w b 0 lp) :
    Calls Tryz.prog 75 #[.pointer (some ⟨m, 0, none⟩), .slice a lp.length cp] w (CmR w B m S P G gs ls R lp) := by
  have h0 := h
  obtain ⟨r, F, L, vs, us, h, hi, hR⟩ := h
  have h1 := hi.len
  have h2 := hi.most
  rw [psOf_length, fresh_length] at h1 h2
  rcases (show lp.length = 0 ∨ 100 < lp.length ∨ (0 < lp.length ∧ lp.length ≤ 100) by omega) with hz | hz | ⟨hz1, hz2⟩
  · rw [hz]
    refine (rcommit_none _ _ _ _).mono ?_
    rintro e w' ⟨rfl, rfl⟩
    exact ⟨Out.refl _ _, .inl ⟨0, rfl, .inl ⟨rfl, hz⟩, h0⟩⟩
  · refine (rcommit_long _ _ _ _ _ hz).mono ?_
    rintro e w' ⟨rfl, rfl⟩
    exact ⟨Out.refl _ _, .inl ⟨6, rfl, .inr (.inl ⟨rfl, hz⟩), h0⟩⟩
  · obtain ⟨b, rfl, hpg⟩ := hp hz1
    refine (rcommit_any h hi.used h2 hG hls hbase lp b cp hpg hz1 hz2 (hd.ok (fun j hj => hRH j (hR j hj)))).mono ?_
    rintro e w' (⟨c, rfl, hc, hb⟩ | ⟨rfl, hcok, L', us', hW, hn, ho⟩)
    · exact ⟨Out.of_below hb, .inl ⟨c, rfl, hc, h0.below hb⟩⟩
    · obtain ⟨g1, g2, g3⟩ := hcok.good
      obtain ⟨hgi, hns⟩ := hcok.nums
      refine ⟨ho.imp fun j _ hj => hR j hj, .inr ⟨rfl, hcok, _, fun j hj => (hn j hj).imp (hR j) id, ⟨r, F, L', vs, us', ?_, ?_, fun j hj => hj⟩⟩⟩
      · rw [usedOf_snoc, hns]; exact hW
      · rw [psOf_append]
        refine hi.commit (numsP (selN lp P)) ((selN lp P).map (bytesAt w)) hgi (by rw [List.length_map, numsP_length]) (fun x hx => ?_) (by have := hcok.2.2.2.2; omega) (by omega)
        obtain ⟨p, hpm, rfl⟩ := List.mem_map.1 hx
        rw [bytesAt_length]
        exact g2 p (selN_mem.1 hpm).1
end Go.Proofs.YthdcjepkehifoaaGreat
