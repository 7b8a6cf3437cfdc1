/- YthdcjepkehifoaaGreatWDeed + YthdcjepkehifoaaGreatWLive -/
import Derived.Test.YthdcjepkehifoaaGreatWCommit2
import Derived.Maps.AppendAt
/- The pages of a deed, by a contract. -/
namespace Go.Proofs.YthdcjepkehifoaaGreat
open Go.RowKit Go.Maps
set_option linter.unusedVariables false
set_option maxRecDepth 20000
attribute [local go_sem ↓] Go.wp_at_zero Go.wp_at_succ

/-- whole numbers that lie in a row of the world -/
def IntsAt (w : World) (a : Option Addr) (l : List Int) : Prop := ∀ i (h : i < l.length), ∃ b o, a = some ⟨b, o, none⟩ ∧ w.cell? ⟨b, o + i, none⟩ = some (.int .i64 l[i])
theorem IntsAt.below {w w' : World} {a : Option Addr} {l : List Int} (h : IntsAt w a l) (hb : Below w.heap.size w w') : IntsAt w' a l := fun i hi => by
  obtain ⟨b, o, ha, hc⟩ := h i hi
  exact ⟨b, o, ha, (hb.cell (World.block_lt_of_cell? _ _ hc)).trans hc⟩

/-- how many bytes the page at a place of a deed has -/
def lenOf (sh : Bool) (i : Nat) : Nat := if sh = true ∧ i = 0 then 255 else 256
/-- A deed's pages, k of them, in memory from block H on. -/
structure DeedPgs (w : World) (H : Nat) (q : List Int) (sh : Bool) (y : UInt8) (l : List PgV) : Prop where
  nums : ∀ i (h : i < l.length), ∃ h' : i < q.length, l[i].1 = q[i]
  len : ∀ i (h : i < l.length), l[i].2.2.1 = lenOf sh i
  bytes : ∀ i (h : i < l.length), ∃ b, l[i].2.1 = some ⟨b, 0, none⟩ ∧ H ≤ b ∧ b < w.heap.size ∧ Bytes w (some ⟨b, 0, none⟩) (List.replicate (lenOf sh i) (y + UInt8.ofNat i))
  own : ∀ i (h : i < l.length), ∃ b x, l[i].2.1 = some ⟨b, 0, none⟩ ∧ l[i].2.2.2 = 256 ∧ x.length = 256 ∧ w.ownsRow H 5 1 (.slice (some ⟨b, 0, none⟩) 256 256) 256 (cellsOf x)
theorem DeedPgs.keep {w w' : World} {H : Nat} {q : List Int} {sh : Bool} {y : UInt8} {l : List PgV} (h : DeedPgs w H q sh y l) (hs : w.heap.size ≤ w'.heap.size) (hk : ∀ k, H ≤ k → k < w.heap.size → (∃ p ∈ l, ∃ o, p.2.1 = some ⟨k, o, none⟩) → w'.heap[k]? = w.heap[k]?) : DeedPgs w' H q sh y l :=
  ⟨h.nums, h.len, fun i hi => by
    obtain ⟨b, h1, h2, h3, h4⟩ := h.bytes i hi
    exact ⟨b, h1, h2, by omega, h4.keep (hk b h2 h3 ⟨_, List.getElem_mem hi, 0, h1⟩)⟩, fun i hi => by
    obtain ⟨b, x, h1, h0, h2, h3⟩ := h.own i hi
    refine ⟨b, x, h1, h0, h2, own_keep h3 fun k e => ?_⟩
    have hlt := h3.lt k e
    obtain rfl : b = k := by simpa [Value.ownBlock] using e
    exact hk b hlt.1 hlt.2 ⟨_, List.getElem_mem hi, 0, h1⟩⟩
theorem DeedPgs.below {w w' : World} {H : Nat} {q : List Int} {sh : Bool} {y : UInt8} {l : List PgV} (h : DeedPgs w H q sh y l) (hb : Below w.heap.size w w') : DeedPgs w' H q sh y l := h.keep hb.size fun k _ hk _ => hb.block k hk

theorem byte_add (y : UInt8) (i : Nat) : ((y.toNat : Int) + (i : Int)) % 256 = (((y + UInt8.ofNat i).toNat : Nat) : Int) := by
  rw [UInt8.toNat_add, UInt8.toNat_ofNat']
  omega
/-- what pages tells -/
def DPost (q : List Int) (sh : Bool) (y : UInt8) (w : World) (e : Ending) (w' : World) : Prop :=
  ∃ v l, e = .returned v ∧ l.length = min q.length 102 ∧ DeedPgs w' w.heap.size q sh y l ∧ w'.ownsRow w.heap.size 94 2 v l.length (pgCells l) ∧ (∀ k, v.ownBlock = some k → ∀ p ∈ l, ∀ o, p.2.1 ≠ some ⟨k, o, none⟩) ∧ Below w.heap.size w w'
/-- .. and what holds between two of its rounds -/
def DRel (ck sh : Bool) (a : Option Addr) (q : List Int) (c : Nat) (y : UInt8) (w : World) (l : List PgV) (v : Value) (wr : World) : Prop :=
  l.length ≤ min q.length 102 ∧ DeedPgs wr w.heap.size q sh y l ∧ wr.ownsRow (w.heap.size + 1) 94 2 v l.length (pgCells l) ∧ (∀ k, v.ownBlock = some k → ∀ p ∈ l, ∀ o, p.2.1 ≠ some ⟨k, o, none⟩) ∧ wr.heap[w.heap.size]? = some (.cells #[.bool ck, .bool sh, .slice a q.length c, .int .u8 (y.toNat : Int)] 32 (0, 0)) ∧ Below w.heap.size w wr ∧ w.heap.size < wr.heap.size

theorem pgCells_snoc (l : List PgV) (p : PgV) : pgCells (l ++ [p]) = pgCells l ++ encPg p := by unfold pgCells; rw [List.flatMap_append]; simp
theorem Bytes.pre {w : World} {b o : Nat} {n m : Nat} {x : UInt8} (h : Bytes w (some ⟨b, o, none⟩) (List.replicate n x)) (hm : m ≤ n) : Bytes w (some ⟨b, o, none⟩) (List.replicate m x) := fun i hi => by
  rw [List.length_replicate] at hi
  obtain ⟨b', o', e, hc⟩ := h i (by rw [List.length_replicate]; omega)
  refine ⟨b', o', e, ?_⟩
  rw [hc, List.getElem_replicate, List.getElem_replicate]
theorem drel_step {ck sh : Bool} {a : Option Addr} {q : List Int} {c : Nat} {y : UInt8} {w : World} {l : List PgV} {v : Value} {V wr w3 : World} (h : DRel ck sh a q c y w l v V) (hb : Below V.heap.size V wr) (ho : wr.ownsRow V.heap.size 5 1 (.slice (some ⟨V.heap.size, 0, none⟩) 256 256) 256 (cellsOf (List.replicate 256 (y + UInt8.ofNat l.length)))) (hlq : l.length < min q.length 102) (x : Int) (hx : ∀ h' : l.length < q.length, q[l.length] = x) (L : Nat) (hL : L = lenOf sh l.length) (v' : Value) (ob : Obj)
    (hown' : w3.ownsRow (w.heap.size + 1) 94 2 v' (l.length + 1) (pgCells l ++ [.int .i64 x, .slice (some ⟨V.heap.size, 0, none⟩) L 256])) (hgrow : (wr.alloc ob).grownBy w3 v.ownBlock) (hloc : v'.ownBlock = v.ownBlock ∨ v'.ownBlock = some (wr.alloc ob).heap.size) :
    DRel ck sh a q c y w (l ++ [(x, some ⟨V.heap.size, 0, none⟩, L, 256)]) v' w3 := by
  obtain ⟨h1, h2, h3, h4, h5, h6, h7⟩ := h
  have hs1 := hb.size
  have hs2 : (wr.alloc ob).heap.size = wr.heap.size + 1 := World.size_alloc _ _
  have hs3 := hgrow.size
  have hV : V.heap.size < wr.heap.size := (ho.lt _ rfl).2
  have hk : ∀ k, k < V.heap.size → v.ownBlock ≠ some k → w3.heap[k]? = V.heap[k]? := fun k hk hne => ((hgrow.block k (by omega) (fun e => hne e.symm)).trans (Below.heap_alloc _ _ k (by omega))).trans (hb.block k hk)
  have hvl : ∀ k, v.ownBlock = some k → w.heap.size + 1 ≤ k ∧ k < V.heap.size := fun k e => h3.lt k e
  have hkV : w3.heap[V.heap.size]? = wr.heap[V.heap.size]? := (hgrow.block _ (by omega) (fun e => by have := hvl _ e.symm; omega)).trans (Below.heap_alloc _ _ _ hV)
  have hD := h2.keep (w' := w3) (by omega) (fun k _ hk' ⟨p, hp, o, hpo⟩ => hk k hk' (fun e => h4 k e p hp o hpo))
  have hlen : (l ++ [((x, some ⟨V.heap.size, 0, none⟩, L, 256) : PgV)]).length = l.length + 1 := by simp
  refine ⟨by rw [hlen]; omega, ⟨fun i hi => ?_, fun i hi => ?_, fun i hi => ?_, fun i hi => ?_⟩, ?_, fun k hk' p hp o => ?_, ?_, ?_, by omega⟩
  · rw [hlen] at hi
    rcases Nat.lt_or_ge i l.length with e | e
    · rw [List.getElem_append_left e]; exact hD.nums i e
    · obtain rfl : i = l.length := by omega
      refine ⟨by omega, ?_⟩
      rw [List.getElem_append_right (Nat.le_refl _)]
      simp [hx (by omega)]
  · rw [hlen] at hi
    rcases Nat.lt_or_ge i l.length with e | e
    · rw [List.getElem_append_left e]; exact hD.len i e
    · obtain rfl : i = l.length := by omega
      rw [List.getElem_append_right (Nat.le_refl _)]
      simp [hL]
  · rw [hlen] at hi
    rcases Nat.lt_or_ge i l.length with e | e
    · rw [List.getElem_append_left e]; exact hD.bytes i e
    · obtain rfl : i = l.length := by omega
      rw [List.getElem_append_right (Nat.le_refl _)]
      refine ⟨V.heap.size, by simp, by omega, by omega, ?_⟩
      have hB := (bytes_of_row ho List.length_replicate).keep hkV
      exact hB.pre (by unfold lenOf; split <;> omega)
  · rw [hlen] at hi
    rcases Nat.lt_or_ge i l.length with e | e
    · rw [List.getElem_append_left e]; exact hD.own i e
    · obtain rfl : i = l.length := by omega
      rw [List.getElem_append_right (Nat.le_refl _)]
      refine ⟨V.heap.size, List.replicate 256 (y + UInt8.ofNat l.length), by simp, by simp, List.length_replicate, (own_keep ho fun k e => ?_).mono (by omega)⟩
      obtain rfl : V.heap.size = k := by simpa [Value.ownBlock] using e
      exact hkV
  · rw [hlen, pgCells_snoc]
    exact hown'
  · intro hpo
    rcases List.mem_append.1 hp with hp | hp
    · rcases hloc with e | e
      · exact h4 k (e ▸ hk') p hp o hpo
      · rw [e] at hk'
        cases hk'
        obtain ⟨i, hi, rfl⟩ := List.getElem_of_mem hp
        obtain ⟨b, hb1, _, hb3, _⟩ := h2.bytes i hi
        rw [hb1] at hpo
        cases hpo
        omega
    · rw [List.mem_singleton.1 hp] at hpo
      have : V.heap.size = k := by simpa using congrArg (fun z => z.map Addr.block) hpo
      rcases hloc with e | e
      · have := hvl k (e ▸ hk'); omega
      · rw [e] at hk'; cases hk'; omega
  · exact (hk _ h7 (fun e => by have := hvl _ e; omega)).trans h5
  · refine ((h6.trans (hb.mono (by omega))).alloc (by omega) ob).grown hgrow (by omega) (fun k e => ?_)
    have := hvl k e
    omega

set_option maxHeartbeats 1600000 in
theorem pages_deed (ck sh : Bool) (a : Option Addr) (q : List Int) (c : Nat) (y : UInt8) (w : World) (hq : IntsAt w a q) :
    Calls Tryz.prog 47 #[.agg #[.bool ck, .bool sh, .slice a q.length c, .int .u8 (y.toNat : Int)]] w (DPost q sh y w) := by
  obtain ⟨i0, hi, hz0, hz1, hz2⟩ := info_parts Tryz.info5
  obtain ⟨p0, pi, pz0, pz1, pz2⟩ := info_parts Tryz.info94
  have Hq := hid hq
  clear hq
  go_enter Tryz.func47, Tryz.ntmps47
  go_wp2
  have Hb0 := hid ((Below.refl _ w).alloc (Nat.le_refl _) (.cells #[.bool ck, .bool sh, .slice a q.length c, .int .u8 (y.toNat : Int)] 32))
  have Hd0 := hid (heap_alloc_new w (.cells #[.bool ck, .bool sh, .slice a q.length c, .int .u8 (y.toNat : Int)] 32))
  have Hs0 := hid (World.size_alloc w (.cells #[.bool ck, .bool sh, .slice a q.length c, .int .u8 (y.toNat : Int)] 32))
  generalize w.alloc (.cells #[.bool ck, .bool sh, .slice a q.length c, .int .u8 (y.toNat : Int)] 32) = W0 at *
  go_loopw [3, 4] (fun v i wr => ∃ l : List PgV, i = .int .i64 l.length ∧ DRel ck sh a q c y w l v wr) (fun _ i _ => 102 - (intOf i).toNat)
  case atStart =>
    refine ⟨[], rfl, Nat.zero_le _, ⟨fun i h => absurd h (Nat.not_lt_zero _), fun i h => absurd h (Nat.not_lt_zero _), fun i h => absurd h (Nat.not_lt_zero _), fun i h => absurd h (Nat.not_lt_zero _)⟩, World.ownsRow_nil _ _ _ _, (fun k h => by cases h), Hd0.out, Hb0.out, ?_⟩
    rw [Hs0.out]; omega
  case round =>
    obtain ⟨l, rfl, hR⟩ := hrel
    have HR := hid hR
    obtain ⟨hl, hP, hO, hap, hD, hB, hlt⟩ := hR
    have HP := hid hP
    have HO := hid hO
    have Hap := hid hap
    have HD := hid hD
    have HB := hid hB
    have c2 := cell_of_row _ _ 2 _ _ _ hD
    clear hP hO hap hD hB Hb0 Hd0 Hs0
    by_cases hend : l.length < min q.length 102
    · have d1 : (l.length : Int) < (q.length : Int) := by omega
      have d2 : (l.length : Int) < 102 := by omega
      go_wp2_with (at_make; refine wpList_make_full _ rfl _ _ 36 rfl wr.heap.size 5 i0 (.int .u8 0) 1 Tryz.underlying36 hi hz0 hz1 .i64 .i64 _ _ 256 rfl rfl (by omega) (by omega) (by rw [hz2]; omega) (by unfold maxLen; omega) (Nat.le_refl _) ?_; intro w1 hown1 hgrow1; have Hown1 := hid (made_own hown1); have Hb1 := hid ((Below.refl _ wr).grown hgrow1 (Nat.le_refl _) (by simp)); clear hown1 hgrow1)
      obtain ⟨V, rfl⟩ : ∃ V, V = wr := ⟨_, rfl⟩
      clear c2
      generalize hval : y + UInt8.ofNat l.length = val at *
      have Hval := hid hval
      have Hadd := hid (byte_add y l.length)
      rw [hval] at Hadd
      clear hval
      go_loopw [6] (fun i wr => ∃ k : Nat, k ≤ 256 ∧ i = .int .i64 k ∧ wr.ownsRow V.heap.size 5 1 (.slice (some ⟨V.heap.size, 0, none⟩) 256 256) 256 (cellsOf (laid 256 k val)) ∧ Below V.heap.size V wr) (fun i _ => 256 - (intOf i).toNat)
      case atStart => exact ⟨0, Nat.zero_le _, rfl, by rw [laid_zero]; exact Hown1.out, Hb1.out⟩
      case round =>
        obtain ⟨k, hk, rfl, hown, hbel⟩ := hrel
        have Hown := hid hown
        have Hbel := hid hbel
        clear hown hbel Hown1 Hb1
        have HD2 := hid ((Hbel.out.block _ hlt).trans HD.out)
        by_cases hk2 : k < 256
        · have c3 := cell_of_row _ _ 3 _ _ _ HD2.out
          have c1 := (Hown.out.cellAt k (by omega)).trans (cellsOf_get _ k (by rw [laid_length _ _ _ hk]; exact hk2))
          have z1 := Hown.out.frozenAt k
          have Hs := hid (Hown.out.stored k (.int .u8 (val.toNat : Int)))
          rw [laid_set 256 k val hk2] at Hs
          generalize ((laid 256 k val)[k]'(by rw [laid_length _ _ _ hk]; exact hk2)).toNat = c0 at c1
          go_wp2
          go_roundw
          case rel => exact ⟨k + 1, by omega, by go_num, by rw [Hadd.out]; exact Hs.out.1, Hbel.out.grown (by rw [Hadd.out]; exact Hs.out.2) Hbel.out.size (by simp)⟩
          case measure => simp [intOf]; omega
        · have ek : k = 256 := by omega
          subst ek
          have Ho2 : Hid (wr.ownsRow V.heap.size 5 1 (.slice (some ⟨V.heap.size, 0, none⟩) 256 256) 256 (cellsOf (List.replicate 256 val))) := by
            have h := Hown.out
            rw [laid_all] at h
            exact h
          have k1 := cell_of_row _ _ 1 _ _ _ HD2.out
          have k2 := cell_of_row _ _ 2 _ _ _ HD2.out
          have hlq : l.length < q.length := by omega
          obtain ⟨ab, ao, ha, hqc⟩ := (Hq.out.below HB.out) l.length hlq
          have hqc2 := (Hbel.out.cell (World.block_lt_of_cell? _ _ hqc)).trans hqc
          subst ha
          have HOr := hid (own_below HO.out Hbel.out)
          clear hqc Hown hk hk2
          by_cases hsh : sh = true ∧ l.length = 0
          · obtain ⟨hsh1, hl0⟩ := hsh
            have Hl0 := hid hl0
            have b1 : ((l.length : Int) == 0) = true := by rw [beq_iff_eq]; omega
            generalize hxq : q[l.length] = x at *
            have Hx : Hid (∀ h' : l.length < q.length, q[l.length] = x) := fun _ => hxq
            clear hxq
            subst hsh1
            clear hl0
            go_wp2_with (at_builtin; refine wpList_append_own_at _ rfl _ _ 67 rfl (w.heap.size + 1) 94 p0 _ 2 32 Tryz.underlying67 pi pz0 pz1 pz2 rfl (by decide) _ _ _ rfl (HOr.out.alloc _) ⟨wr.heap.size, 0, none⟩ 1 1 [.int .i64 x, .slice (some ⟨V.heap.size, 0, none⟩) 255 256] rfl rfl (World.news_of_block (cs := #[.int .i64 x, .slice (some ⟨V.heap.size, 0, none⟩) 255 256]) (t := 94) (fr := (0, 0)) (heap_alloc_new wr _)) (by simp [Value.oneCell']) (by unfold maxLen; omega) (by omega) (by rw [World.size_alloc]; have := Hbel.out.size; omega) ?_; intro v' w3 hown3 hgrow3 hnil3 hloc3)
            go_roundw
            case rel => exact ⟨l ++ [(x, some ⟨V.heap.size, 0, none⟩, 255, 256)], by rw [List.length_append]; rfl, drel_step HR.out Hbel.out (by rw [Hval.out]; exact Ho2.out) hend x Hx.out 255 (by unfold lenOf; rw [if_pos ⟨rfl, Hl0.out⟩]) v' _ hown3 hgrow3 hloc3⟩
            case measure => simp [intOf]; omega
          · have Hsh := hid hsh
            generalize hxq : q[l.length] = x at *
            have Hx : Hid (∀ h' : l.length < q.length, q[l.length] = x) := fun _ => hxq
            clear hxq
            rcases (show sh = false ∨ (sh = true ∧ l.length ≠ 0) by cases sh <;> simp_all) with hsf | ⟨hst, hl0⟩
            · subst hsf
              clear hsh
              go_wp2_with (at_builtin; refine wpList_append_own_at _ rfl _ _ 67 rfl (w.heap.size + 1) 94 p0 _ 2 32 Tryz.underlying67 pi pz0 pz1 pz2 rfl (by decide) _ _ _ rfl (HOr.out.alloc _) ⟨wr.heap.size, 0, none⟩ 1 1 [.int .i64 x, .slice (some ⟨V.heap.size, 0, none⟩) 256 256] rfl rfl (World.news_of_block (cs := #[.int .i64 x, .slice (some ⟨V.heap.size, 0, none⟩) 256 256]) (t := 94) (fr := (0, 0)) (heap_alloc_new wr _)) (by simp [Value.oneCell']) (by unfold maxLen; omega) (by omega) (by rw [World.size_alloc]; have := Hbel.out.size; omega) ?_; intro v' w3 hown3 hgrow3 hnil3 hloc3)
              go_roundw
              case rel => exact ⟨l ++ [(x, some ⟨V.heap.size, 0, none⟩, 256, 256)], by rw [List.length_append]; rfl, drel_step HR.out Hbel.out (by rw [Hval.out]; exact Ho2.out) hend x Hx.out 256 (by unfold lenOf; rw [if_neg Hsh.out]) v' _ hown3 hgrow3 hloc3⟩
              case measure => simp [intOf]; omega
            · subst hst
              have b1 : ((l.length : Int) == 0) = false := by rw [beq_eq_false_iff_ne]; omega
              clear hsh hl0
              go_wp2_with (at_builtin; refine wpList_append_own_at _ rfl _ _ 67 rfl (w.heap.size + 1) 94 p0 _ 2 32 Tryz.underlying67 pi pz0 pz1 pz2 rfl (by decide) _ _ _ rfl (HOr.out.alloc _) ⟨wr.heap.size, 0, none⟩ 1 1 [.int .i64 x, .slice (some ⟨V.heap.size, 0, none⟩) 256 256] rfl rfl (World.news_of_block (cs := #[.int .i64 x, .slice (some ⟨V.heap.size, 0, none⟩) 256 256]) (t := 94) (fr := (0, 0)) (heap_alloc_new wr _)) (by simp [Value.oneCell']) (by unfold maxLen; omega) (by omega) (by rw [World.size_alloc]; have := Hbel.out.size; omega) ?_; intro v' w3 hown3 hgrow3 hnil3 hloc3)
              go_roundw
              case rel => exact ⟨l ++ [(x, some ⟨V.heap.size, 0, none⟩, 256, 256)], by rw [List.length_append]; rfl, drel_step HR.out Hbel.out (by rw [Hval.out]; exact Ho2.out) hend x Hx.out 256 (by unfold lenOf; rw [if_neg Hsh.out]) v' _ hown3 hgrow3 hloc3⟩
              case measure => simp [intOf]; omega
    · rcases (show q.length ≤ l.length ∨ (l.length < q.length ∧ 102 ≤ l.length) by omega) with h1 | ⟨h1, h2⟩
      · have d1 : ¬ (l.length : Int) < (q.length : Int) := by omega
        go_wp2
        go_ret
        exact ⟨_, l, rfl, by omega, HP.out, HO.out.mono (by omega), Hap.out, HB.out⟩
      · have d1 : (l.length : Int) < (q.length : Int) := by omega
        have d2 : ¬ (l.length : Int) < 102 := by omega
        go_wp2
        go_ret
        exact ⟨_, l, rfl, by omega, HP.out, HO.out.mono (by omega), Hap.out, HB.out⟩
end Go.Proofs.YthdcjepkehifoaaGreat

/- live of the laws of layer 3: it tells true. -/

namespace Go.Proofs.YthdcjepkehifoaaGreat
open Go.RowKit Go.Maps
set_option linter.unusedVariables false
set_option maxRecDepth 20000

theorem pgs_of_row {w : World} {B g c : Nat} {l : List PgV} (h : w.ownsRow B 94 2 (.slice (some ⟨g, 0, none⟩) l.length c) l.length (pgCells l)) : PgsAt w g 0 l := fun i hi => by
  have h0 := h.cellAt (i * 2 + 0) (by omega)
  have h1 := h.cellAt (i * 2 + 1) (by omega)
  rw [pgCells_get l i hi 0 (by omega)] at h0
  rw [pgCells_get l i hi 1 (by omega)] at h1
  rw [Nat.zero_add]
  exact ⟨h0, h1⟩
/-- the bytes of a deed's page -/
theorem DeedPgs.at {w : World} {H : Nat} {q : List Int} {sh : Bool} {y : UInt8} {l : List PgV} (h : DeedPgs w H q sh y l) (i : Nat) (hi : i < l.length) : bytesAt w l[i] = List.replicate (lenOf sh i) (y + UInt8.ofNat i) := by
  obtain ⟨b, hb, _, _, hB⟩ := h.bytes i hi
  have hL := h.len i hi
  have e : l[i] = (l[i].1, some ⟨b, 0, none⟩, (List.replicate (lenOf sh i) (y + UInt8.ofNat i)).length, l[i].2.2.2) := by
    rw [List.length_replicate, ← hL, ← hb]
  rw [e]
  exact bytesAt_eq hB
theorem DeedPgs.ok {w : World} {H : Nat} {q : List Int} {sh : Bool} {y : UInt8} {l : List PgV} {F : Nat → Prop} (h : DeedPgs w H q sh y l) (hF : ∀ k, F k → k < H) : ∀ p ∈ l, p.2.2.1 = 256 → PgOk w F p := fun p hp h256 => by
  obtain ⟨i, hi, rfl⟩ := List.getElem_of_mem hp
  obtain ⟨b, hb, hH, hlt, hB⟩ := h.bytes i hi
  exact ⟨b, 0, hb, h256, by rw [h.at i hi]; exact hB, fun hf => by have := hF b hf; omega, hlt⟩
theorem chOf_fst (fs : List (List UInt8)) (ls : List (Nat × List UInt8)) : (chOf fs ls).map (·.1) = ls.map (·.1) := by
  induction ls generalizing fs with
  | nil => rfl
  | cons c ls ih => show c.1 :: _ = c.1 :: _; rw [ih]

set_option maxHeartbeats 1600000 in
theorem walLive_any (w : World) : Calls Tryz.prog 15 #[] w fun e w' => e = .returned (.bool true) ∧ Below w.heap.size w w' := by
  go_enter Tryz.func15, Tryz.ntmps15
  go_wp2_with (fail)
  refine (new_ok 8 w (by omega) (by omega)).mono ?_
  rintro e w1 ⟨d0, g0, cap0, rfl, hD, hB1⟩
  have Hop := hid (open_ok hD 3 0 4 [] (inv_new 8 3 4 rfl (by omega) (by omega) (by omega)) (by omega) (by simp))
  have HB1 := hid hB1
  clear hD hB1
  go_wp2_with (fail)
  refine Hop.out.mono ?_
  rintro e w2 ⟨l, d, g, cap, mb, n, rfl, hn, hM, hb2⟩
  rw [usedOf_nil, plOf_nil] at hM
  rw [usedOf_nil] at hn
  have HM := hid hM
  have HB2 := hid (HB1.out.trans (hb2.mono HB1.out.size))
  have hl2 : w.heap.size ≤ w1.heap.size := HB1.out.size
  clear hM hb2 Hop HB1
  go_wp2_with (fail)
  have Hints : Hid (IntsAt (w2.alloc (.cells #[.int .i64 2, .int .i64 0] 3)) (some ⟨w2.heap.size, 0, none⟩) [2, 0]) := fun i hi => by
    refine ⟨w2.heap.size, 0, rfl, ?_⟩
    have hh := heap_alloc_new w2 (.cells #[.int .i64 2, .int .i64 0] 3)
    have c0 := cell_of_row _ _ 0 _ _ _ hh
    have c1 := cell_of_row _ _ 1 _ _ _ hh
    rcases (show i = 0 ∨ i = 1 by simp at hi; omega) with rfl | rfl
    · exact c0
    · exact c1
  have Hpd := hid (pages_deed false false (some ⟨w2.heap.size, 0, none⟩) [2, 0] 2 5 _ Hints.out)
  have HB3 := hid (HB2.out.alloc HB2.out.size (.cells #[.int .i64 2, .int .i64 0] 3))
  have HM3 := hid (HM.out.below ((Below.refl _ w2).alloc (Nat.le_refl _) (.cells #[.int .i64 2, .int .i64 0] 3)))
  clear HM HB2 Hints
  generalize w2.alloc (.cells #[.int .i64 2, .int .i64 0] 3) = w3 at *
  refine Hpd.out.mono ?_
  rintro e w4 ⟨v, pl, rfl, hlen, hdp, hrow, hap, hb4⟩
  have hlen2 : pl.length = 2 := by rw [hlen]; rfl
  rw [hlen2] at hrow
  obtain ⟨gp, cp, rfl, _, _⟩ := hrow.form (by omega)
  have HM4 := hid (HM3.out.below hb4)
  have HB4 := hid (HB3.out.trans (hb4.mono HB3.out.size))
  obtain ⟨p0, p1, rfl⟩ : ∃ p0 p1, pl = [p0, p1] := by
    match pl, hlen2 with
    | [p0, p1], _ => exact ⟨p0, p1, rfl⟩
  have hpgs := pgs_of_row (l := [p0, p1]) hrow
  have n0 : p0.1 = 2 := (hdp.nums 0 (by simp)).2
  have n1 : p1.1 = 0 := (hdp.nums 1 (by simp)).2
  have e0 : p0.2.2.1 = 256 := hdp.len 0 (by simp)
  have e1 : p1.2.2.1 = 256 := hdp.len 1 (by simp)
  have x0 : bytesAt w4 p0 = List.replicate 256 5 := hdp.at 0 (by simp)
  have x1 : bytesAt w4 p1 = List.replicate 256 6 := hdp.at 1 (by simp)
  have hokF := hdp.ok (F := logBlock l d g mb (.slice none 0 0)) (fun k hk => by have := (HM3.out.lts k hk).2; omega)
  have Hcm := hid (commit_any (fs := List.replicate 8 zpage) (ls := []) HM4.out 4 (by rw [List.length_replicate]) (by rw [List.length_replicate]; omega) (by omega) [p0, p1] gp 0 cp hpgs (by simp) (by simp) hokF (by omega) (by simp) (by omega) (by have h1 := HM4.out.bl; have h2 := (HM4.out.lts l (.inl rfl)).2; omega))
  have hnr : ¬ BadRange 4 [p0, p1] := by
    rintro ⟨p, hp, h⟩
    rcases List.mem_cons.1 hp with rfl | hp
    · rw [n0] at h; omega
    · rw [List.mem_singleton.1 hp, n1] at h; omega
  have hnf : ¬ BadForm [p0, p1] := by
    rintro (h | ⟨p, hp, h⟩)
    · apply h; simp [n0, n1]
    · rcases List.mem_cons.1 hp with rfl | hp
      · exact h e0
      · rw [List.mem_singleton.1 hp] at h; exact h e1
  have Hcm2 : Hid (Calls Tryz.prog 48 #[.pointer (some ⟨l, 0, none⟩), .slice (some ⟨gp, 0, none⟩) 2 cp] w4 fun e w' => e = .returned (.int .i64 0) ∧ ∃ v' n', LogMem w' w1.heap.size l d g cap mb n' v' 3 1 3 (noted (fun _ => none) 2 [0, 2]) (psOf (List.replicate 8 zpage) (commitWs 0 0 [0, 2] [List.replicate 256 6, List.replicate 256 5])) (chOf (List.replicate 8 zpage) (commitWs 0 0 [0, 2] [List.replicate 256 6, List.replicate 256 5])) ∧ Out (logBlock l d g mb (.slice none 0 0)) w4 w') := by
    refine Hcm.out.mono ?_
    rintro e w' (⟨c, _, (⟨_, h⟩ | ⟨_, _, h⟩ | ⟨_, _, _, h⟩), _⟩ | ⟨he, _, _, _, s, v', hp, hs, hM, _, ho⟩)
    · exact absurd h hnr
    · exact absurd h hnf
    · exact absurd h (by show ¬ (3 < 0 + 2 + 1); omega)
    · have es : s = [p1, p0] := by
        have h1 : ([p1, p0] : List PgV).Perm [p0, p1] := List.Perm.swap ..
        have hs2 : ([p1, p0] : List PgV).Pairwise (fun a b => a.1 < b.1) := by simp [n0, n1]
        refine List.Perm.eq_of_pairwise (le := fun a b : PgV => a.1 < b.1) (fun a b _ _ h1 h2 => by omega) hs hs2 (hp.trans h1.symm)
      subst es
      have en : numsP [p1, p0] = [0, 2] := by simp [numsP, n0, n1]
      have ex : [p1, p0].map (bytesAt w4) = [List.replicate 256 6, List.replicate 256 5] := by simp only [List.map_cons, List.map_nil, x0, x1]
      rw [en, ex] at hM
      exact ⟨he, v', _, hM, ho⟩
  clear Hcm hnr hnf hokF hpgs hdp hrow hap hb4 hlen hlen2 n0 n1 e0 e1 x0 x1 HM3 HB3 Hpd
  have Hps : Hid ((psOf (List.replicate 8 zpage) (commitWs 0 0 [0, 2] [List.replicate 256 6, List.replicate 256 5]))[2]? = some (List.replicate 256 6)) := by
    have e : psOf (List.replicate 8 zpage) (commitWs 0 0 [0, 2] [List.replicate 256 6, List.replicate 256 5]) = ((((List.replicate 8 zpage).set 1 (indexB [0, 2])).set 2 (List.replicate 256 6)).set 3 (List.replicate 256 5)).set 0 (headB 1 3) := rfl
    show _ = _
    rw [e, List.getElem?_set_ne (by omega), List.getElem?_set_ne (by omega), List.getElem?_set_self (by rw [List.length_set, List.length_replicate]; omega)]
  have Hch : Hid ((chOf (List.replicate 8 zpage) (commitWs 0 0 [0, 2] [List.replicate 256 6, List.replicate 256 5])).map (·.1) = [1, 2, 3, 0]) := by show _ = _; rw [chOf_fst]; rfl
  have Hpl : Hid ((psOf (List.replicate 8 zpage) (commitWs 0 0 [0, 2] [List.replicate 256 6, List.replicate 256 5])).length = 8) := by show _ = _; rw [psOf_length, List.length_replicate]
  have Hcl : Hid ((chOf (List.replicate 8 zpage) (commitWs 0 0 [0, 2] [List.replicate 256 6, List.replicate 256 5])).length = 4) := by show _ = _; rw [chOf_length]; rfl
  have Hno : Hid (noted (fun _ => none) 2 [0, 2] 0 = some 2) := by show _ = _; unfold noted; rw [if_pos (by simp)]; rfl
  generalize psOf (List.replicate 8 zpage) (commitWs 0 0 [0, 2] [List.replicate 256 6, List.replicate 256 5]) = PS at *
  generalize chOf (List.replicate 8 zpage) (commitWs 0 0 [0, 2] [List.replicate 256 6, List.replicate 256 5]) = CH at *
  generalize noted (fun _ => none) 2 [0, 2] = NP at *
  generalize hx6 : List.replicate 256 (6 : UInt8) = x6 at *
  have Hx6l : Hid (x6.length = 256) := by show _ = _; rw [← hx6, List.length_replicate]
  have Hx6 := hid hx6
  clear hx6
  go_wp2_with (fail)
  refine Hcm2.out.mono ?_
  rintro e w5 ⟨rfl, v5, n5, hM5, ho5⟩
  have HB5 := hid (HB4.out.trans (ho5.below HB4.out.size (fun k hk => Nat.le_trans hl2 (HM4.out.lts k hk).1)))
  have HM5 := hid hM5
  clear hM5 ho5 Hcm2 HB4 HM4
  go_wp2_with (fail)
  refine (logDisk_ok HM5.out (by rw [Hpl.out]; omega) (by rw [Hpl.out]; omega) (by rw [Hcl.out]; omega)).mono ?_
  rintro e w6 ⟨d6, g6, cap6, v6, rfl, hD6, hb6⟩
  have Hwr := hid (writes_ok hD6 (by rw [Hcl.out]; omega))
  rw [Hcl.out, Hch.out] at Hwr
  have HM6 := hid (HM5.out.below hb6)
  have HB6 := hid (HB5.out.trans (hb6.mono HB5.out.size))
  clear hD6 hb6 HM5 HB5
  go_wp2_with (fail)
  refine Hwr.out.mono ?_
  rintro e w7 ⟨b7, rfl, ho7, hb7⟩
  have HM7 := hid (HM6.out.below hb7)
  have HB7 := hid (HB6.out.trans (hb7.mono HB6.out.size))
  have HO7 := hid ho7
  clear ho7 hb7 HM6 HB6 Hwr
  go_wp2_with (fail)
  refine (logRead_ok HM7.out 4 (by rw [Hpl.out]) (by rw [Hpl.out]; omega) 0 (by omega) x6 (by rw [Hno.out]; exact Hps.out)).mono ?_
  rintro e w8 ⟨g8, c8, rfl, ho8, hc8, hb8⟩
  have HM8 := hid (HM7.out.below hb8)
  have HB8 := hid (HB7.out.trans (hb8.mono HB7.out.size))
  have HO8 := hid (own_below HO7.out hb8)
  have HR8 := hid ho8
  clear ho8 hb8 HM7 HB7 HO7
  have Hb8 : Hid (w8.cell? ⟨g8, 0, none⟩ = some (.int .u8 6)) := by
    have h := HR8.out.cellAt 0 (by omega)
    rw [cellsOf_get _ 0 (by rw [Hx6l.out]; omega)] at h
    have e : x6[0]'(by rw [Hx6l.out]; omega) = 6 := by
      have h := Hx6.out
      subst h
      exact List.getElem_replicate ..
    rw [e] at h
    exact h
  have Hint : Hid (∀ ww : World, (ww.alloc (.cells #[.int .i64 1, .int .i64 2, .int .i64 3, .int .i64 0] 3)).ownsRow ww.heap.size 3 1 (.slice (some ⟨ww.heap.size, 0, none⟩) 4 4) 4 (nums [1, 2, 3, 0])) := fun ww => ⟨rfl, .inr ⟨ww.heap.size, 4, #[.int .i64 1, .int .i64 2, .int .i64 3, .int .i64 0], rfl, Nat.le_refl _, heap_alloc_new ww _, Nat.le_refl _, by unfold maxLen; omega, rfl, rfl⟩⟩
  go_wp2_with (fail)
  have HbA := hid ((Below.refl _ w8).alloc (Nat.le_refl _) (.cells #[.int .i64 1, .int .i64 2, .int .i64 3, .int .i64 0] 3))
  have Hsi := hid (sameInts_eq (l := [1, 2, 3, 0]) (own_below HO8.out HbA.out) (Hint.out w8) (by simp))
  refine Hsi.out.mono ?_
  rintro e w9 ⟨rfl, hb9⟩
  have hbb : Below w8.heap.size w8 w9 := HbA.out.trans (hb9.mono HbA.out.size)
  have HB9 := hid (HB8.out.trans (hbb.mono HB8.out.size))
  have HM9 := hid (HM8.out.below hbb)
  have c9 := (hbb.cell (World.block_lt_of_cell? _ _ Hb8.out)).trans Hb8.out
  clear hb9 hbb HM8 HB8 HO8 HR8 Hsi Hint HbA
  have Hus := hid (used_any HM9.out)
  have Hne : Hid (needOf 2 = 3) := rfl
  go_wp2_with (first | (go_at_call 19; refine Hus.out.mono ?_; rintro e w10 ⟨rfl, rfl⟩) | (go_at_call 49; refine (need_any _ _).mono ?_; rw [Hne.out]; rintro e w11 ⟨rfl, rfl⟩))
  go_ret
  exact ⟨ret_bool (by simp), HB9.out⟩
end Go.Proofs.YthdcjepkehifoaaGreat
