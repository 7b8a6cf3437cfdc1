/- The pages of a deed, by a contract. -/
import Derived.Test.YtcaifnenejjfaaaWCommit2
import Derived.Maps.AppendAt
namespace Go.Proofs.Ytcaifnenejjfaaa
open Go.RowKit Go.Maps
set_option linter.unusedVariables false
set_option maxRecDepth 20000
attribute [local go_sem ↓] Go.wp_at_zero Go.wp_at_succ

/-- whole numbers that lie in a row of the world -/
def IntsAt (w : World) (a : Option Addr) (l : List Int) : Prop := ∀ i (h : i < l.length), ∃ b o, a = some ⟨b, o, none⟩ ∧ w.cell? ⟨b, o + i, none⟩ = some (.int .i64 l[i])
theorem IntsAt.below {w w' : World} {a : Option Addr} {l : List Int} (h : IntsAt w a l) (hb : Below w.heap.size w w') : IntsAt w' a l := fun i hi => by
  obtain ⟨b, o, ha, hc⟩ := h i hi
  exact ⟨b, o, ha, (hb.cell (World.block_lt_of_cell? _ _ hc)).trans hc⟩

/-- how many bytes the page at a place of a deed has -/
def lenOf (sh : Bool) (i : Nat) : Nat := if sh = true ∧ i = 0 then 255 else 256
/-- A deed's pages, k of them, in memory from block H on. -/
structure DeedPgs (w : World) (H : Nat) (q : List Int) (sh : Bool) (y : UInt8) (l : List PgV) : Prop where
  nums : ∀ i (h : i < l.length), ∃ h' : i < q.length, l[i].1 = q[i]
  len : ∀ i (h : i < l.length), l[i].2.2.1 = lenOf sh i
  bytes : ∀ i (h : i < l.length), ∃ b, l[i].2.1 = some ⟨b, 0, none⟩ ∧ H ≤ b ∧ b < w.heap.size ∧ Bytes w (some ⟨b, 0, none⟩) (List.replicate (lenOf sh i) (y + UInt8.ofNat i))
theorem DeedPgs.keep {w w' : World} {H : Nat} {q : List Int} {sh : Bool} {y : UInt8} {l : List PgV} (h : DeedPgs w H q sh y l) (hs : w.heap.size ≤ w'.heap.size) (hk : ∀ k, H ≤ k → k < w.heap.size → (∃ p ∈ l, ∃ o, p.2.1 = some ⟨k, o, none⟩) → w'.heap[k]? = w.heap[k]?) : DeedPgs w' H q sh y l :=
  ⟨h.nums, h.len, fun i hi => by
    obtain ⟨b, h1, h2, h3, h4⟩ := h.bytes i hi
    exact ⟨b, h1, h2, by omega, h4.keep (hk b h2 h3 ⟨_, List.getElem_mem hi, 0, h1⟩)⟩⟩
theorem DeedPgs.below {w w' : World} {H : Nat} {q : List Int} {sh : Bool} {y : UInt8} {l : List PgV} (h : DeedPgs w H q sh y l) (hb : Below w.heap.size w w') : DeedPgs w' H q sh y l := h.keep hb.size fun k _ hk _ => hb.block k hk

theorem byte_add (y : UInt8) (i : Nat) : ((y.toNat : Int) + (i : Int)) % 256 = (((y + UInt8.ofNat i).toNat : Nat) : Int) := by
  rw [UInt8.toNat_add, UInt8.toNat_ofNat']
  omega
/-- what pages tells -/
def DPost (q : List Int) (sh : Bool) (y : UInt8) (w : World) (e : Ending) (w' : World) : Prop :=
  ∃ v l, e = .returned v ∧ l.length = min q.length 102 ∧ DeedPgs w' w.heap.size q sh y l ∧ w'.ownsRow w.heap.size 48 2 v l.length (pgCells l) ∧ (∀ k, v.ownBlock = some k → ∀ p ∈ l, ∀ o, p.2.1 ≠ some ⟨k, o, none⟩) ∧ Below w.heap.size w w'
/-- .. and what holds between two of its rounds -/
def DRel (ck sh : Bool) (a : Option Addr) (q : List Int) (c : Nat) (y : UInt8) (w : World) (l : List PgV) (v : Value) (wr : World) : Prop :=
  l.length ≤ min q.length 102 ∧ DeedPgs wr w.heap.size q sh y l ∧ wr.ownsRow (w.heap.size + 1) 48 2 v l.length (pgCells l) ∧ (∀ k, v.ownBlock = some k → ∀ p ∈ l, ∀ o, p.2.1 ≠ some ⟨k, o, none⟩) ∧ wr.heap[w.heap.size]? = some (.cells #[.bool ck, .bool sh, .slice a q.length c, .int .u8 (y.toNat : Int)] 45 (0, 0)) ∧ Below w.heap.size w wr ∧ w.heap.size < wr.heap.size

theorem pgCells_snoc (l : List PgV) (p : PgV) : pgCells (l ++ [p]) = pgCells l ++ encPg p := by unfold pgCells; rw [List.flatMap_append]; simp
theorem Bytes.pre {w : World} {b o : Nat} {n m : Nat} {x : UInt8} (h : Bytes w (some ⟨b, o, none⟩) (List.replicate n x)) (hm : m ≤ n) : Bytes w (some ⟨b, o, none⟩) (List.replicate m x) := fun i hi => by
  rw [List.length_replicate] at hi
  obtain ⟨b', o', e, hc⟩ := h i (by rw [List.length_replicate]; omega)
  refine ⟨b', o', e, ?_⟩
  rw [hc, List.getElem_replicate, List.getElem_replicate]
theorem drel_step {ck sh : Bool} {a : Option Addr} {q : List Int} {c : Nat} {y : UInt8} {w : World} {l : List PgV} {v : Value} {V wr w3 : World} (h : DRel ck sh a q c y w l v V) (hb : Below V.heap.size V wr) (ho : wr.ownsRow V.heap.size 5 1 (.slice (some ⟨V.heap.size, 0, none⟩) 256 256) 256 (cellsOf (List.replicate 256 (y + UInt8.ofNat l.length)))) (hlq : l.length < min q.length 102) (x : Int) (hx : ∀ h' : l.length < q.length, q[l.length] = x) (L : Nat) (hL : L = lenOf sh l.length) (v' : Value) (ob : Obj)
    (hown' : w3.ownsRow (w.heap.size + 1) 48 2 v' (l.length + 1) (pgCells l ++ [.int .i64 x, .slice (some ⟨V.heap.size, 0, none⟩) L 256])) (hgrow : (wr.alloc ob).grownBy w3 v.ownBlock) (hloc : v'.ownBlock = v.ownBlock ∨ v'.ownBlock = some (wr.alloc ob).heap.size) :
    DRel ck sh a q c y w (l ++ [(x, some ⟨V.heap.size, 0, none⟩, L, 256)]) v' w3 := by
  obtain ⟨h1, h2, h3, h4, h5, h6, h7⟩ := h
  have hs1 := hb.size
  have hs2 : (wr.alloc ob).heap.size = wr.heap.size + 1 := World.size_alloc _ _
  have hs3 := hgrow.size
  have hV : V.heap.size < wr.heap.size := (ho.lt _ rfl).2
  have hk : ∀ k, k < V.heap.size → v.ownBlock ≠ some k → w3.heap[k]? = V.heap[k]? := fun k hk hne => ((hgrow.block k (by omega) (fun e => hne e.symm)).trans (Below.heap_alloc _ _ k (by omega))).trans (hb.block k hk)
  have hvl : ∀ k, v.ownBlock = some k → w.heap.size + 1 ≤ k ∧ k < V.heap.size := fun k e => h3.lt k e
  have hkV : w3.heap[V.heap.size]? = wr.heap[V.heap.size]? := (hgrow.block _ (by omega) (fun e => by have := hvl _ e.symm; omega)).trans (Below.heap_alloc _ _ _ hV)
  have hD := h2.keep (w' := w3) (by omega) (fun k _ hk' ⟨p, hp, o, hpo⟩ => hk k hk' (fun e => h4 k e p hp o hpo))
  have hlen : (l ++ [((x, some ⟨V.heap.size, 0, none⟩, L, 256) : PgV)]).length = l.length + 1 := by simp
  refine ⟨by rw [hlen]; omega, ⟨fun i hi => ?_, fun i hi => ?_, fun i hi => ?_⟩, ?_, fun k hk' p hp o => ?_, ?_, ?_, by omega⟩
  · rw [hlen] at hi
    rcases Nat.lt_or_ge i l.length with e | e
    · rw [List.getElem_append_left e]; exact hD.nums i e
    · obtain rfl : i = l.length := by omega
      refine ⟨by omega, ?_⟩
      rw [List.getElem_append_right (Nat.le_refl _)]
      simp [hx (by omega)]
  · rw [hlen] at hi
    rcases Nat.lt_or_ge i l.length with e | e
    · rw [List.getElem_append_left e]; exact hD.len i e
    · obtain rfl : i = l.length := by omega
      rw [List.getElem_append_right (Nat.le_refl _)]
      simp [hL]
  · rw [hlen] at hi
    rcases Nat.lt_or_ge i l.length with e | e
    · rw [List.getElem_append_left e]; exact hD.bytes i e
    · obtain rfl : i = l.length := by omega
      rw [List.getElem_append_right (Nat.le_refl _)]
      refine ⟨V.heap.size, by simp, by omega, by omega, ?_⟩
      have hB := (bytes_of_row ho List.length_replicate).keep hkV
      exact hB.pre (by unfold lenOf; split <;> omega)
  · rw [hlen, pgCells_snoc]
    exact hown'
  · intro hpo
    rcases List.mem_append.1 hp with hp | hp
    · rcases hloc with e | e
      · exact h4 k (e ▸ hk') p hp o hpo
      · rw [e] at hk'
        cases hk'
        obtain ⟨i, hi, rfl⟩ := List.getElem_of_mem hp
        obtain ⟨b, hb1, _, hb3, _⟩ := h2.bytes i hi
        rw [hb1] at hpo
        cases hpo
        omega
    · rw [List.mem_singleton.1 hp] at hpo
      have : V.heap.size = k := by simpa using congrArg (fun z => z.map Addr.block) hpo
      rcases hloc with e | e
      · have := hvl k (e ▸ hk'); omega
      · rw [e] at hk'; cases hk'; omega
  · exact (hk _ h7 (fun e => by have := hvl _ e; omega)).trans h5
  · refine ((h6.trans (hb.mono (by omega))).alloc (by omega) ob).grown hgrow (by omega) (fun k e => ?_)
    have := hvl k e
    omega

set_option maxHeartbeats 1600000 in
theorem pages_deed (ck sh : Bool) (a : Option Addr) (q : List Int) (c : Nat) (y : UInt8) (w : World) (hq : IntsAt w a q) :
    Calls Try.prog 19 #[.agg #[.bool ck, .bool sh, .slice a q.length c, .int .u8 (y.toNat : Int)]] w (DPost q sh y w) := by
  obtain ⟨i0, hi, hz0, hz1, hz2⟩ := info_parts Try.info5
  obtain ⟨p0, pi, pz0, pz1, pz2⟩ := info_parts Try.info48
  have Hq := hid hq
  clear hq
  go_enter Try.func19, Try.ntmps19
  go_wp2
  have Hb0 := hid ((Below.refl _ w).alloc (Nat.le_refl _) (.cells #[.bool ck, .bool sh, .slice a q.length c, .int .u8 (y.toNat : Int)] 45))
  have Hd0 := hid (heap_alloc_new w (.cells #[.bool ck, .bool sh, .slice a q.length c, .int .u8 (y.toNat : Int)] 45))
  have Hs0 := hid (World.size_alloc w (.cells #[.bool ck, .bool sh, .slice a q.length c, .int .u8 (y.toNat : Int)] 45))
  generalize w.alloc (.cells #[.bool ck, .bool sh, .slice a q.length c, .int .u8 (y.toNat : Int)] 45) = W0 at *
  go_loopw [3, 4] (fun v i wr => ∃ l : List PgV, i = .int .i64 l.length ∧ DRel ck sh a q c y w l v wr) (fun _ i _ => 102 - (intOf i).toNat)
  case atStart =>
    refine ⟨[], rfl, Nat.zero_le _, ⟨fun i h => absurd h (Nat.not_lt_zero _), fun i h => absurd h (Nat.not_lt_zero _), fun i h => absurd h (Nat.not_lt_zero _)⟩, World.ownsRow_nil _ _ _ _, (fun k h => by cases h), Hd0.out, Hb0.out, ?_⟩
    rw [Hs0.out]; omega
  case round =>
    obtain ⟨l, rfl, hR⟩ := hrel
    have HR := hid hR
    obtain ⟨hl, hP, hO, hap, hD, hB, hlt⟩ := hR
    have HP := hid hP
    have HO := hid hO
    have Hap := hid hap
    have HD := hid hD
    have HB := hid hB
    have c2 := cell_of_row _ _ 2 _ _ _ hD
    clear hP hO hap hD hB Hb0 Hd0 Hs0
    by_cases hend : l.length < min q.length 102
    · have d1 : (l.length : Int) < (q.length : Int) := by omega
      have d2 : (l.length : Int) < 102 := by omega
      go_wp2_with (at_make; refine wpList_make_full _ rfl _ _ 26 rfl wr.heap.size 5 i0 (.int .u8 0) 1 Try.underlying26 hi hz0 hz1 .i64 .i64 _ _ 256 rfl rfl (by omega) (by omega) (by rw [hz2]; omega) (by unfold maxLen; omega) (Nat.le_refl _) ?_; intro w1 hown1 hgrow1; have Hown1 := hid (made_own hown1); have Hb1 := hid ((Below.refl _ wr).grown hgrow1 (Nat.le_refl _) (by simp)); clear hown1 hgrow1)
      obtain ⟨V, rfl⟩ : ∃ V, V = wr := ⟨_, rfl⟩
      clear c2
      generalize hval : y + UInt8.ofNat l.length = val at *
      have Hval := hid hval
      have Hadd := hid (byte_add y l.length)
      rw [hval] at Hadd
      clear hval
      go_loopw [6] (fun i wr => ∃ k : Nat, k ≤ 256 ∧ i = .int .i64 k ∧ wr.ownsRow V.heap.size 5 1 (.slice (some ⟨V.heap.size, 0, none⟩) 256 256) 256 (cellsOf (laid 256 k val)) ∧ Below V.heap.size V wr) (fun i _ => 256 - (intOf i).toNat)
      case atStart => exact ⟨0, Nat.zero_le _, rfl, by rw [laid_zero]; exact Hown1.out, Hb1.out⟩
      case round =>
        obtain ⟨k, hk, rfl, hown, hbel⟩ := hrel
        have Hown := hid hown
        have Hbel := hid hbel
        clear hown hbel Hown1 Hb1
        have HD2 := hid ((Hbel.out.block _ hlt).trans HD.out)
        by_cases hk2 : k < 256
        · have c3 := cell_of_row _ _ 3 _ _ _ HD2.out
          have c1 := (Hown.out.cellAt k (by omega)).trans (cellsOf_get _ k (by rw [laid_length _ _ _ hk]; exact hk2))
          have z1 := Hown.out.frozenAt k
          have Hs := hid (Hown.out.stored k (.int .u8 (val.toNat : Int)))
          rw [laid_set 256 k val hk2] at Hs
          generalize ((laid 256 k val)[k]'(by rw [laid_length _ _ _ hk]; exact hk2)).toNat = c0 at c1
          go_wp2
          go_roundw
          case rel => exact ⟨k + 1, by omega, by go_num, by rw [Hadd.out]; exact Hs.out.1, Hbel.out.grown (by rw [Hadd.out]; exact Hs.out.2) Hbel.out.size (by simp)⟩
          case measure => simp [intOf]; omega
        · have ek : k = 256 := by omega
          subst ek
          have Ho2 : Hid (wr.ownsRow V.heap.size 5 1 (.slice (some ⟨V.heap.size, 0, none⟩) 256 256) 256 (cellsOf (List.replicate 256 val))) := by
            have h := Hown.out
            rw [laid_all] at h
            exact h
          have k1 := cell_of_row _ _ 1 _ _ _ HD2.out
          have k2 := cell_of_row _ _ 2 _ _ _ HD2.out
          have hlq : l.length < q.length := by omega
          obtain ⟨ab, ao, ha, hqc⟩ := (Hq.out.below HB.out) l.length hlq
          have hqc2 := (Hbel.out.cell (World.block_lt_of_cell? _ _ hqc)).trans hqc
          subst ha
          have HOr := hid (own_below HO.out Hbel.out)
          clear hqc Hown hk hk2
          by_cases hsh : sh = true ∧ l.length = 0
          · obtain ⟨hsh1, hl0⟩ := hsh
            have Hl0 := hid hl0
            have b1 : ((l.length : Int) == 0) = true := by rw [beq_iff_eq]; omega
            generalize hxq : q[l.length] = x at *
            have Hx : Hid (∀ h' : l.length < q.length, q[l.length] = x) := fun _ => hxq
            clear hxq
            subst hsh1
            clear hl0
            go_wp2_with (at_builtin; refine wpList_append_own_at _ rfl _ _ 43 rfl (w.heap.size + 1) 48 p0 _ 2 32 Try.underlying43 pi pz0 pz1 pz2 rfl (by decide) _ _ _ rfl (HOr.out.alloc _) ⟨wr.heap.size, 0, none⟩ 1 1 [.int .i64 x, .slice (some ⟨V.heap.size, 0, none⟩) 255 256] rfl rfl (World.news_of_block (cs := #[.int .i64 x, .slice (some ⟨V.heap.size, 0, none⟩) 255 256]) (t := 48) (fr := (0, 0)) (heap_alloc_new wr _)) (by simp [Value.oneCell']) (by unfold maxLen; omega) (by omega) (by rw [World.size_alloc]; have := Hbel.out.size; omega) ?_; intro v' w3 hown3 hgrow3 hnil3 hloc3)
            go_roundw
            case rel => exact ⟨l ++ [(x, some ⟨V.heap.size, 0, none⟩, 255, 256)], by rw [List.length_append]; rfl, drel_step HR.out Hbel.out (by rw [Hval.out]; exact Ho2.out) hend x Hx.out 255 (by unfold lenOf; rw [if_pos ⟨rfl, Hl0.out⟩]) v' _ hown3 hgrow3 hloc3⟩
            case measure => simp [intOf]; omega
          · have Hsh := hid hsh
            generalize hxq : q[l.length] = x at *
            have Hx : Hid (∀ h' : l.length < q.length, q[l.length] = x) := fun _ => hxq
            clear hxq
            rcases (show sh = false ∨ (sh = true ∧ l.length ≠ 0) by cases sh <;> simp_all) with hsf | ⟨hst, hl0⟩
            · subst hsf
              clear hsh
              go_wp2_with (at_builtin; refine wpList_append_own_at _ rfl _ _ 43 rfl (w.heap.size + 1) 48 p0 _ 2 32 Try.underlying43 pi pz0 pz1 pz2 rfl (by decide) _ _ _ rfl (HOr.out.alloc _) ⟨wr.heap.size, 0, none⟩ 1 1 [.int .i64 x, .slice (some ⟨V.heap.size, 0, none⟩) 256 256] rfl rfl (World.news_of_block (cs := #[.int .i64 x, .slice (some ⟨V.heap.size, 0, none⟩) 256 256]) (t := 48) (fr := (0, 0)) (heap_alloc_new wr _)) (by simp [Value.oneCell']) (by unfold maxLen; omega) (by omega) (by rw [World.size_alloc]; have := Hbel.out.size; omega) ?_; intro v' w3 hown3 hgrow3 hnil3 hloc3)
              go_roundw
              case rel => exact ⟨l ++ [(x, some ⟨V.heap.size, 0, none⟩, 256, 256)], by rw [List.length_append]; rfl, drel_step HR.out Hbel.out (by rw [Hval.out]; exact Ho2.out) hend x Hx.out 256 (by unfold lenOf; rw [if_neg Hsh.out]) v' _ hown3 hgrow3 hloc3⟩
              case measure => simp [intOf]; omega
            · subst hst
              have b1 : ((l.length : Int) == 0) = false := by rw [beq_eq_false_iff_ne]; omega
              clear hsh hl0
              go_wp2_with (at_builtin; refine wpList_append_own_at _ rfl _ _ 43 rfl (w.heap.size + 1) 48 p0 _ 2 32 Try.underlying43 pi pz0 pz1 pz2 rfl (by decide) _ _ _ rfl (HOr.out.alloc _) ⟨wr.heap.size, 0, none⟩ 1 1 [.int .i64 x, .slice (some ⟨V.heap.size, 0, none⟩) 256 256] rfl rfl (World.news_of_block (cs := #[.int .i64 x, .slice (some ⟨V.heap.size, 0, none⟩) 256 256]) (t := 48) (fr := (0, 0)) (heap_alloc_new wr _)) (by simp [Value.oneCell']) (by unfold maxLen; omega) (by omega) (by rw [World.size_alloc]; have := Hbel.out.size; omega) ?_; intro v' w3 hown3 hgrow3 hnil3 hloc3)
              go_roundw
              case rel => exact ⟨l ++ [(x, some ⟨V.heap.size, 0, none⟩, 256, 256)], by rw [List.length_append]; rfl, drel_step HR.out Hbel.out (by rw [Hval.out]; exact Ho2.out) hend x Hx.out 256 (by unfold lenOf; rw [if_neg Hsh.out]) v' _ hown3 hgrow3 hloc3⟩
              case measure => simp [intOf]; omega
    · rcases (show q.length ≤ l.length ∨ (l.length < q.length ∧ 102 ≤ l.length) by omega) with h1 | ⟨h1, h2⟩
      · have d1 : ¬ (l.length : Int) < (q.length : Int) := by omega
        go_wp2
        go_ret
        exact ⟨_, l, rfl, by omega, HP.out, HO.out.mono (by omega), Hap.out, HB.out⟩
      · have d1 : (l.length : Int) < (q.length : Int) := by omega
        have d2 : ¬ (l.length : Int) < 102 := by omega
        go_wp2
        go_ret
        exact ⟨_, l, rfl, by omega, HP.out, HO.out.mono (by omega), Hap.out, HB.out⟩
end Go.Proofs.Ytcaifnenejjfaaa
