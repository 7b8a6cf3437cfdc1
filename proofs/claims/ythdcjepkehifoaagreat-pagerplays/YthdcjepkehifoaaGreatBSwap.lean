/- YthdcjepkehifoaaGreatBSame + YthdcjepkehifoaaGreatBLive + YthdcjepkehifoaaGreatBNil + YthdcjepkehifoaaGreatBEq + YthdcjepkehifoaaGreatBWAny + YthdcjepkehifoaaGreatBSwap -/
import Derived.Test.YthdcjepkehifoaaGreatBCutOk
import Derived.Stop.BytesEq
/- SameBytes of the reference, and what stays behind a write, by contracts and rules. -/
namespace Go.Proofs.YthdcjepkehifoaaGreat
open Go.RowKit
set_option linter.unusedVariables false
set_option maxRecDepth 20000

theorem below_drewN (B : Nat) (w : World) (n : Nat) : Below B w (w.drewN n) := ⟨rfl, rfl, rfl, Nat.le_refl _, fun _ _ => rfl⟩

set_option maxHeartbeats 400000 in
theorem sameBytes_any (x y : List UInt8) (a b : Option Addr) (ca cb : Nat) (w : World) (hx : Bytes w a x) (hy : Bytes w b y) (lx : x.length ≤ 140737488351232) (ly : y.length ≤ 140737488351232) :
    Calls Tryz.prog 30 #[.slice a x.length ca, .slice b y.length cb] w fun e w' => e = .returned (.bool (decide (x = y))) ∧ Below w.heap.size w w' := by
  have Hx := hid hx
  have Hy := hid hy
  clear hx hy
  by_cases hl : x.length = y.length
  · have d1 : ((x.length : Int) != (y.length : Int)) = false := by rw [bne_eq_false_iff_eq]; omega
    have Hl := hid hl
    clear hl
    go_enter Tryz.func30, Tryz.ntmps30
    go_wp2
    go_loopw [5] (fun i wr => ∃ k : Nat, k ≤ x.length ∧ i = .int .i64 k ∧ x.take k = y.take k ∧ Below w.heap.size w wr) (fun i _ => x.length - (intOf i).toNat)
    case atStart => exact ⟨0, Nat.zero_le _, rfl, rfl, Below.refl _ _⟩
    case round =>
      obtain ⟨k, hk, rfl, hpre, hbel⟩ := hrel
      have Hpre := hid hpre
      have Hbel := hid hbel
      clear hpre hbel
      by_cases hlt : k < x.length
      · have hlt2 : k < y.length := by have := Hl.out; omega
        obtain ⟨b1, o1, ha, hc1⟩ := (Hx.out.below Hbel.out) k hlt
        obtain ⟨b2, o2, hb, hc2⟩ := (Hy.out.below Hbel.out) k hlt2
        have HX : Hid (x.take (k + 1) = x.take k ++ [x[k]]) := List.take_succ_eq_append_getElem hlt
        have HY : Hid (y.take (k + 1) = y.take k ++ [y[k]]) := List.take_succ_eq_append_getElem hlt2
        have HN : Hid (x[k] ≠ y[k] → x ≠ y) := fun h e => h (by subst e; rfl)
        generalize x[k] = c1 at *
        generalize y[k] = c2 at *
        subst ha
        subst hb
        by_cases hc : c1 = c2
        · have e1 : ((c1.toNat : Int) != (c2.toNat : Int)) = false := by rw [hc]; simp
          have H12 := hid hc
          clear hc
          go_wp2
          go_quiet (fail)
          go_wp2
          go_roundw
          case rel => exact ⟨k + 1, by omega, by go_num, by rw [HX.out, HY.out, Hpre.out, H12.out], Hbel.out.trans (below_drewN _ _ _)⟩
          case measure => simp [intOf]; omega
        · have e1 : ((c1.toNat : Int) != (c2.toNat : Int)) = true := by
            rw [bne_iff_ne]
            intro e
            exact hc (UInt8.toNat_inj.1 (by omega))
          have Hne := hid (HN.out hc)
          clear hc
          go_wp2
          go_quiet (fail)
          go_wp2
          go_ret
          exact ⟨ret_bool (by simp [Hne.out]), Hbel.out.trans (below_drewN _ _ _)⟩
      · go_wp2
        go_ret
        refine ⟨ret_bool ?_, Hbel.out⟩
        have h := Hpre.out
        rw [List.take_of_length_le (by omega), List.take_of_length_le (by have := Hl.out; omega)] at h
        simp [h]
  · have d1 : ((x.length : Int) != (y.length : Int)) = true := by rw [bne_iff_ne]; omega
    have hne : decide (x = y) = false := by simp; intro e; exact hl (congrArg List.length e)
    rw [hne]
    clear hl hne
    go_enter Tryz.func30, Tryz.ntmps30
    go_wp2
    go_ret
    exact ⟨rfl, Below.refl _ _⟩


/-- a row stays where its block does -/
theorem own_keep {w w' : World} {B e s : Nat} {v : Value} {n : Nat} {xs : List Value} (h : w.ownsRow B e s v n xs) (hk : ∀ k, v.ownBlock = some k → w'.heap[k]? = w.heap[k]?) : w'.ownsRow B e s v n xs := by
  refine ⟨h.1, ?_⟩
  rcases h.2 with h | ⟨g, cap, cur, hv, hb, hh, r⟩
  · exact .inl h
  · exact .inr ⟨g, cap, cur, hv, hb, (hk g (by rw [hv]; rfl)).trans hh, r⟩
theorem own_below {w w' : World} {B e s : Nat} {v : Value} {n : Nat} {xs : List Value} (h : w.ownsRow B e s v n xs) (hb : Below w.heap.size w w') : w'.ownsRow B e s v n xs :=
  own_keep h fun k hk => hb.block k (h.lt k hk).2
theorem Bytes.keep {w w' : World} {b o : Nat} {l : List UInt8} (h : Bytes w (some ⟨b, o, none⟩) l) (hb : w'.heap[b]? = w.heap[b]?) : Bytes w' (some ⟨b, o, none⟩) l := fun i hi => by
  obtain ⟨b', o', ha, hc⟩ := h i hi
  cases ha
  exact ⟨b, o, rfl, (World.cell?_of_block (a := ⟨b, o + i, none⟩) hb).trans hc⟩
/-- what lies below a disk's own blocks is as it was behind a write -/
theorem Only.below {w w' : World} {B d g cap : Nat} {v : Value} {ps : List (List UInt8)} {ch : List (Nat × List UInt8)} (ho : Only d g v.ownBlock w w') (h : DiskAt w B d g cap v ps ch) (B' : Nat) (hB : B' ≤ B) (hs : B' ≤ w.heap.size) : Below B' w w' :=
  ⟨ho.os, ho.tape, ho.output, ho.size, fun k hk => ho.block k (by omega) (by have := h.bd; omega) (by have := (h.pages.lt g rfl).1; omega) (fun e => by have := (h.chs.lt k e.symm).1; omega)⟩
/-- the row of some bytes, written out -/
theorem own_form {w : World} {B e : Nat} {v : Value} {l : List UInt8} (h : w.ownsRow B e 1 v l.length (cellsOf l)) (h0 : 0 < l.length) : ∃ b c, v = .slice (some ⟨b, 0, none⟩) l.length c ∧ Bytes w (some ⟨b, 0, none⟩) l ∧ B ≤ b ∧ b < w.heap.size := by
  obtain ⟨b, c, rfl, hb, hl⟩ := h.form h0
  obtain ⟨a, c', hv, hB, _⟩ := bytes_of_own h
  cases hv
  exact ⟨b, c, rfl, hB, hb, hl⟩
end Go.Proofs.YthdcjepkehifoaaGreat

/- live of the laws of layer 1: it tells true. -/
namespace Go.Proofs.YthdcjepkehifoaaGreat
open Go.RowKit
set_option linter.unusedVariables false
set_option maxRecDepth 20000

theorem two_pages : List.replicate 2 zpage = [zpage, zpage] := rfl
theorem zpage_length : zpage.length = 256 := List.length_replicate
theorem zpage_cell {w : World} {b : Nat} (h : Bytes w (some ⟨b, 0, none⟩) zpage) : w.cell? ⟨b, 0, none⟩ = some (.int .u8 0) := by
  obtain ⟨b', o', e, hc⟩ := h 0 (by rw [zpage_length]; omega)
  cases e
  have : (zpage[0]'(by rw [zpage_length]; omega)) = 0 := List.getElem_replicate ..
  rw [this] at hc
  exact hc

end Go.Proofs.YthdcjepkehifoaaGreat

/- What a nil disk answers, and the walk of BlockNone. -/
namespace Go.Proofs.YthdcjepkehifoaaGreat
open Go.RowKit
set_option linter.unusedVariables false
set_option maxRecDepth 20000

theorem run_eql_nil_ptr {P : Program} (w : World) (t : TypeId) (a : Addr) (h : P.underlying t = some (.pointer (P.pointee t))) :
    (binOp .eql t (.pointer none) (.pointer (some a))).run P w = .ok (.bool false) w := by
  have e' : ∀ d : Nat, (Op.equalIn (d + 1) t (.pointer none) (.pointer (some a))).run P w = .ok false w := fun d => by simp [Op.equalIn, run_underlying h]
  have e : (Op.equal t (.pointer none) (.pointer (some a))).run P w = .ok false w := e' 9999
  simp only [binOp]
  simp [e]
attribute [local go_sem] run_eql_nil_ptr

set_option maxHeartbeats 800000 in
theorem writes_nil (w : World) : Calls Tryz.prog 32 #[.pointer none] w fun e w' => e = .returned (.slice none 0 0) ∧ w' = w := by
  go_enter Tryz.func32, Tryz.ntmps32
  go_wp2
  go_ret
  exact ⟨rfl, rfl⟩
set_option maxHeartbeats 800000 in
theorem image_nil (w : World) : Calls Tryz.prog 36 #[.pointer none] w fun e w' => e = .returned (.slice none 0 0) ∧ w' = w := by
  go_enter Tryz.func36, Tryz.ntmps36
  go_wp2
  go_ret
  exact ⟨rfl, rfl⟩
set_option maxHeartbeats 800000 in
theorem fork_nil (w : World) : Calls Tryz.prog 46 #[.pointer none] w fun e w' => e = .returned (.pointer none) ∧ w' = w := by
  go_enter Tryz.func46, Tryz.ntmps46
  go_wp2
  go_ret
  exact ⟨rfl, rfl⟩
set_option maxHeartbeats 800000 in
set_option maxRecDepth 20000 in
theorem same_nils (w : World) : Calls Tryz.prog 45 #[.pointer none, .pointer none] w fun e w' => e = .returned (.bool true) ∧ w' = w := by
  go_enter Tryz.func45, Tryz.ntmps45
  go_wp2
  go_ret
  exact ⟨rfl, rfl⟩
set_option maxHeartbeats 800000 in
set_option maxRecDepth 20000 in
theorem same_nil1 (d : Nat) (w : World) : Calls Tryz.prog 45 #[.pointer none, .pointer (some ⟨d, 0, none⟩)] w fun e w' => e = .returned (.bool false) ∧ w' = w := by
  go_enter Tryz.func45, Tryz.ntmps45
  go_wp2
  go_ret
  exact ⟨rfl, rfl⟩
set_option maxHeartbeats 800000 in
set_option maxRecDepth 20000 in
theorem same_nil2 (d : Nat) (w : World) : Calls Tryz.prog 45 #[.pointer (some ⟨d, 0, none⟩), .pointer none] w fun e w' => e = .returned (.bool false) ∧ w' = w := by
  go_enter Tryz.func45, Tryz.ntmps45
  go_wp2
  go_ret
  exact ⟨rfl, rfl⟩

end Go.Proofs.YthdcjepkehifoaaGreat

/- Same of package block, by a contract: it tells whether the pages are the same. -/
namespace Go.Proofs.YthdcjepkehifoaaGreat
open Go.RowKit
set_option linter.unusedVariables false
set_option maxRecDepth 20000

/-- comparing two pages, kept whole in the walk -/
def neqPg (x y : Value) : Sem Value := binOp .neq 120 x y
theorem neqPg_fold (x y : Value) : binOp .neq 120 x y = neqPg x y := rfl
theorem sizeOf_u8 (w : World) : (sizeOf 5).run Tryz.prog w = .ok 1 w := by
  have h : Tryz.t5.size = 1 := by kernel_rfl
  simp [sizeOf, h]
theorem neqPg_eq (x y : List UInt8) (hx : x.length = 256) (hy : y.length = 256) (w : World) : (neqPg (.agg (cellsOf x).toArray) (.agg (cellsOf y).toArray)).run Tryz.prog w = .ok (.bool (!(x == y))) w := by
  unfold neqPg
  rw [run_neq_struct]
  have := run_equalIn_bytes (P := Tryz.prog) w 9998 120 5 256 Tryz.underlying120 Tryz.underlying5 sizeOf_u8 x y hx hy
  have e : (Op.equalIn 10000 120 (.agg (cellsOf x).toArray) (.agg (cellsOf y).toArray)).run Tryz.prog w = .ok (x == y) w := this
  rw [e]
  rfl
attribute [local go_sem ↓] loadPg_fold neqPg_fold

/-- a page lies in the pages' row, as cells -/
theorem DiskAt.range {w : World} {B d g cap : Nat} {v : Value} {ps : List (List UInt8)} {ch : List (Nat × List UInt8)} (h : DiskAt w B d g cap v ps ch) (n : Nat) (hn : n < ps.length) : w.rangeAt g (n * 256) (cellsOf ps[n]) := fun j u hj => by
  have hj' : j < (ps[n]).length := by have := (List.getElem?_eq_some_iff.1 hj).1; simpa [cellsOf_length] using this
  obtain ⟨b', o', e', hc⟩ := h.page n hn j hj'
  cases e'
  rw [hc, ← hj, cellsOf_get _ j hj']

set_option maxHeartbeats 800000 in
set_option maxRecDepth 20000 in
theorem equalPages {w : World} {B1 d1 g1 cap1 : Nat} {v1 : Value} {ps1 : List (List UInt8)} {ch1 : List (Nat × List UInt8)} (h1 : DiskAt w B1 d1 g1 cap1 v1 ps1 ch1) {B2 d2 g2 cap2 : Nat} {v2 : Value} {ps2 : List (List UInt8)} {ch2 : List (Nat × List UInt8)} (h2 : DiskAt w B2 d2 g2 cap2 v2 ps2 ch2) (hl : ps1.length = ps2.length) :
    Calls Tryz.prog 94 #[.slice (some ⟨g1, 0, none⟩) ps1.length cap1, .slice (some ⟨g2, 0, none⟩) ps2.length cap2] w fun e w' => e = .returned (.bool (decide (ps1 = ps2))) ∧ ∃ m, w' = w.drewN m := by
  have H1 : Hid (∀ k (hk : k < ps1.length), w.rangeAt g1 (k * 256) (cellsOf ps1[k])) := fun k hk => h1.range k hk
  have H2 : Hid (∀ k (hk : k < ps2.length), w.rangeAt g2 (k * 256) (cellsOf ps2[k])) := fun k hk => h2.range k hk
  have F1 := hid h1.full
  have F2 := hid h2.full
  have hml := h1.plen
  unfold maxLen at hml
  have hm : Tryz.prog.eqGuardType Tryz.prog.depth 120 = false := by kernel_rfl
  clear h1 h2
  have d1 : ((ps1.length : Int) != (ps2.length : Int)) = false := by rw [bne_eq_false_iff_eq]; omega
  go_enter Tryz.func94, Tryz.ntmps94
  go_wp2
  go_loopw [13] (fun i wr => ∃ k n : Nat, k ≤ ps1.length ∧ i = .int .i64 k ∧ ps1.take k = ps2.take k ∧ wr = w.drewN n) (fun i _ => ps1.length - (intOf i).toNat)
  case atStart => exact ⟨0, 0, Nat.zero_le _, rfl, rfl, (World.drewN_zero _).symm⟩
  case round =>
    obtain ⟨k, n, hk, rfl, hpre, rfl⟩ := hrel
    have Hpre := hid hpre
    clear hpre
    by_cases hlt : k < ps1.length
    · have hlt2 : k < ps2.length := by omega
      have e1 := F1.out _ (List.getElem_mem hlt)
      have e2 := F2.out _ (List.getElem_mem hlt2)
      have l1 : ∀ q, (loadPg (.pointer (some ⟨g1, k * 256, none⟩))).run Tryz.prog (w.drewN q) = .ok (.agg (cellsOf ps1[k]).toArray) (w.drewN q) := fun q => loadPg_eq g1 (k * 256) _ (by rw [cellsOf_length, e1]) _ (H1.out k hlt)
      have l2 : ∀ q, (loadPg (.pointer (some ⟨g2, k * 256, none⟩))).run Tryz.prog (w.drewN q) = .ok (.agg (cellsOf ps2[k]).toArray) (w.drewN q) := fun q => loadPg_eq g2 (k * 256) _ (by rw [cellsOf_length, e2]) _ (H2.out k hlt2)
      have l3 : ∀ w', (neqPg (.agg (cellsOf ps1[k]).toArray) (.agg (cellsOf ps2[k]).toArray)).run Tryz.prog w' = .ok (.bool (!(ps1[k] == ps2[k]))) w' := fun w' => neqPg_eq _ _ e1 e2 w'
      have HX : Hid (ps1.take (k + 1) = ps1.take k ++ [ps1[k]]) := List.take_succ_eq_append_getElem hlt
      have HY : Hid (ps2.take (k + 1) = ps2.take k ++ [ps2[k]]) := List.take_succ_eq_append_getElem hlt2
      have HN : Hid (ps1[k] ≠ ps2[k] → ps1 ≠ ps2) := fun h e => h (by subst e; rfl)
      generalize (cellsOf ps1[k]).toArray = c1 at *
      generalize (cellsOf ps2[k]).toArray = c2 at *
      clear e1 e2
      generalize ps1[k] = p1 at *
      generalize ps2[k] = p2 at *
      have f1 : (k : Int) < (ps1.length : Int) := by omega
      have f2 : (k : Int) < (ps2.length : Int) := by omega
      have f0 : (0 : Int) ≤ (k : Int) := by omega
      by_cases hc : p1 = p2
      · have t3 : (!(p1 == p2)) = false := by rw [hc]; simp
        rw [t3] at l3
        have H12 := hid hc
        clear hc t3
        go_wp2
        go_quiet (fail)
        go_wp2
        go_roundw
        case rel => exact ⟨k + 1, _, by omega, by go_num, by rw [HX.out, HY.out, Hpre.out, H12.out], rfl⟩
        case measure => simp [intOf]; omega
      · have t3 : (!(p1 == p2)) = true := by simp [hc]
        rw [t3] at l3
        have Hne := hid (HN.out hc)
        clear hc t3
        go_wp2
        go_quiet (fail)
        go_wp2
        go_ret
        exact ⟨ret_bool (by simp [Hne.out]), _, World.drewN_drewN _ _ _⟩
    · go_wp2
      go_ret
      refine ⟨ret_bool ?_, _, rfl⟩
      have h := Hpre.out
      rw [List.take_of_length_le (by omega), List.take_of_length_le (by omega)] at h
      simp [h]

set_option maxHeartbeats 800000 in
set_option maxRecDepth 20000 in
theorem same_any {w : World} {B1 d1 g1 cap1 : Nat} {v1 : Value} {ps1 : List (List UInt8)} {ch1 : List (Nat × List UInt8)} (h1 : DiskAt w B1 d1 g1 cap1 v1 ps1 ch1) {B2 d2 g2 cap2 : Nat} {v2 : Value} {ps2 : List (List UInt8)} {ch2 : List (Nat × List UInt8)} (h2 : DiskAt w B2 d2 g2 cap2 v2 ps2 ch2) (hl : ps1.length = ps2.length) :
    Calls Tryz.prog 45 #[.pointer (some ⟨d1, 0, none⟩), .pointer (some ⟨d2, 0, none⟩)] w fun e w' => e = .returned (.bool (decide (ps1 = ps2))) ∧ Below w.heap.size w w' := by
  have a0 := h1.c0
  have b0 := h2.c0
  have Hq : Hid (∀ w9 : World, w9.heap = w.heap → Calls Tryz.prog 94 #[.slice (some ⟨g1, 0, none⟩) ps1.length cap1, .slice (some ⟨g2, 0, none⟩) ps2.length cap2] w9 fun e w' => e = .returned (.bool (decide (ps1 = ps2))) ∧ ∃ m, w' = w9.drewN m) :=
    fun w9 h9 => equalPages (w := w9) (h1.keep (w' := w9) (by rw [h9]) (by rw [h9]) fun _ _ => by rw [h9]) (h2.keep (w' := w9) (by rw [h9]) (by rw [h9]) fun _ _ => by rw [h9]) hl
  clear h1 h2 hl
  generalize decide (ps1 = ps2) = r at *
  go_enter Tryz.func45, Tryz.ntmps45
  go_wp2
  go_region_held3 (fun w9 => w9.heap = w.heap ∧ w9.cell? ⟨d1, 0, none⟩ = some (.slice (some ⟨g1, 0, none⟩) ps1.length cap1) ∧ w9.cell? ⟨d2, 0, none⟩ = some (.slice (some ⟨g2, 0, none⟩) ps2.length cap2)) (exact ⟨rfl, a0, b0⟩) (first | ((go_at_call 94; refine (Hq.out _ ?_).mono ?_; rfl; rintro e w9 ⟨rfl, m, rfl⟩)))
  go_wp2
  go_ret
  exact ⟨rfl, below_drewN _ _ _⟩
end Go.Proofs.YthdcjepkehifoaaGreat

/- Write of package block at whatever number and bytes, by one contract. -/
namespace Go.Proofs.YthdcjepkehifoaaGreat
open Go.RowKit
set_option linter.unusedVariables false
set_option maxRecDepth 20000

/-- what Write tells; what the pages, and the changes, are behind it -/
def wErr (m : Nat) (n : Int) (l : Nat) : Nat := if n < 0 ∨ (m : Int) ≤ n then 2 else if l ≠ 256 then 3 else 0
def wPs (ps : List (List UInt8)) (n : Int) (x : List UInt8) : List (List UInt8) := if wErr ps.length n x.length = 0 then ps.set n.toNat x else ps
def wCh (ps : List (List UInt8)) (ch : List (Nat × List UInt8)) (n : Int) (x : List UInt8) : List (Nat × List UInt8) := if wErr ps.length n x.length = 0 then ch ++ [(n.toNat, ps.getD n.toNat [])] else ch
theorem wPs_length (ps : List (List UInt8)) (n : Int) (x : List UInt8) : (wPs ps n x).length = ps.length := by unfold wPs; split <;> simp
theorem wCh_length (ps : List (List UInt8)) (ch : List (Nat × List UInt8)) (n : Int) (x : List UInt8) : (wCh ps ch n x).length = ch.length + (if wErr ps.length n x.length = 0 then 1 else 0) := by unfold wCh; split <;> simp
theorem Only.refl (d g : Nat) (r : Option Nat) (w : World) : Only d g r w w := ⟨rfl, rfl, rfl, Nat.le_refl _, fun _ _ _ _ _ => rfl⟩

theorem write_any {w : World} {B d g cap : Nat} {v : Value} {ps : List (List UInt8)} {ch : List (Nat × List UInt8)} (h : DiskAt w B d g cap v ps ch) (n : Int) (x : List UInt8) {vx : Value} {B2 : Nat} (hx : w.ownsRow B2 5 1 vx x.length (cellsOf x))
    (hap : d < B2 ∧ g < B2 ∧ ∀ k, v.ownBlock = some k → k < B2) (hch : ch.length ≤ 1000000) (hbase : B ≤ w.heap.size) :
    Calls Tryz.prog 103 #[.pointer (some ⟨d, 0, none⟩), .int .i64 n, vx] w fun e w' => e = .returned (.int .i64 (wErr ps.length n x.length : Int)) ∧
      ∃ v', DiskAt w' B d g cap v' (wPs ps n x) (wCh ps ch n x) ∧ (v'.ownBlock = v.ownBlock ∨ v'.ownBlock = some (w.heap.size + 1)) ∧ Only d g v.ownBlock w w' := by
  by_cases h1 : n < 0 ∨ (ps.length : Int) ≤ n
  · have e : wErr ps.length n x.length = 2 := by unfold wErr; rw [if_pos h1]
    obtain ⟨a, c, rfl, _, _⟩ := bytes_of_own hx
    refine (write_far h n h1 a x.length c).mono ?_
    rintro e' w' ⟨rfl, rfl⟩
    exact ⟨by rw [e]; rfl, v, by unfold wPs wCh; rw [e]; exact h, .inl rfl, Only.refl _ _ _ _⟩
  · obtain ⟨m, rfl⟩ : ∃ m : Nat, n = (m : Int) := ⟨n.toNat, by omega⟩
    have hm : m < ps.length := by omega
    by_cases h2 : x.length = 256
    · have e : wErr ps.length (m : Int) x.length = 0 := by unfold wErr; rw [if_neg h1, if_neg (by omega)]
      obtain ⟨b, c, rfl, hB, hb, _⟩ := own_form hx (by omega)
      rw [h2]
      refine (write_ok h m hm x h2 b 0 c hB ⟨by have := hap.1; omega, by have := hap.2.1; omega, fun e' => by have := hap.2.2 b e'.symm; omega⟩ hch hbase).mono ?_
      rintro e' w' ⟨rfl, v', hD, hv, ho⟩
      rw [h2] at e
      refine ⟨by rw [e]; rfl, v', ?_, hv, ho⟩
      unfold wPs wCh
      rw [h2, e, if_pos rfl, if_pos rfl]
      have : ps.getD m [] = ps[m] := by simp [List.getD, List.getElem?_eq_getElem hm]
      rw [show ((m : Int)).toNat = m from rfl, this]
      exact hD
    · have e : wErr ps.length (m : Int) x.length = 3 := by unfold wErr; rw [if_neg h1, if_pos h2]
      obtain ⟨a, c, rfl, _, _⟩ := bytes_of_own hx
      refine (write_form h m hm a x.length c h2).mono ?_
      rintro e' w' ⟨rfl, rfl⟩
      exact ⟨by rw [e]; rfl, v, by unfold wPs wCh; rw [e]; exact h, .inl rfl, Only.refl _ _ _ _⟩
end Go.Proofs.YthdcjepkehifoaaGreat

/- The walk of BlockSwaps. -/
namespace Go.Proofs.YthdcjepkehifoaaGreat
open Go.RowKit
set_option linter.unusedVariables false
set_option maxRecDepth 20000

theorem undrew {B : Nat} {w w' : World} (h : Below B w.drew w') : Below B w w' := ⟨h.os, h.tape, h.output, h.size, h.block⟩
/-- two disks that share nothing -/
def Sep (d1 g1 : Nat) (r1 : Option Nat) (d2 g2 : Nat) (r2 : Option Nat) : Prop := (d2 ≠ d1 ∧ d2 ≠ g1 ∧ some d2 ≠ r1) ∧ (g2 ≠ d1 ∧ g2 ≠ g1 ∧ some g2 ≠ r1) ∧ ∀ k, r2 = some k → k ≠ d1 ∧ k ≠ g1 ∧ some k ≠ r1
theorem Sep.symm {d1 g1 d2 g2 : Nat} {r1 r2 : Option Nat} (h : Sep d1 g1 r1 d2 g2 r2) : Sep d2 g2 r2 d1 g1 r1 := by
  obtain ⟨⟨a, b, c⟩, ⟨d, e, f⟩, i⟩ := h
  exact ⟨⟨Ne.symm a, Ne.symm d, fun h => (i _ h.symm).1 rfl⟩, ⟨Ne.symm b, Ne.symm e, fun h => (i _ h.symm).2.1 rfl⟩, fun k hk => ⟨fun h => c (by rw [hk, h]), fun h => f (by rw [hk, h]), fun h => (i k h.symm).2.2 hk.symm⟩⟩
theorem DiskAt.only {w w' : World} {B d g cap : Nat} {v : Value} {ps : List (List UInt8)} {ch : List (Nat × List UInt8)} (h : DiskAt w B d g cap v ps ch) {d1 g1 : Nat} {r1 : Option Nat} (ho : Only d1 g1 r1 w w') (hs : Sep d1 g1 r1 d g v.ownBlock) : DiskAt w' B d g cap v ps ch :=
  h.keep (ho.block d h.lts.1 hs.1.1 hs.1.2.1 hs.1.2.2) (ho.block g h.lts.2.1 hs.2.1.1 hs.2.1.2.1 hs.2.1.2.2) (fun k hk => ho.block k (h.lts.2.2 k hk) (hs.2.2 k hk).1 (hs.2.2 k hk).2.1 (hs.2.2 k hk).2.2)
theorem DiskAt.mono {w : World} {B B' d g cap : Nat} {v : Value} {ps : List (List UInt8)} {ch : List (Nat × List UInt8)} (h : DiskAt w B d g cap v ps ch) (hB : B' ≤ B) : DiskAt w B' d g cap v ps ch :=
  ⟨h.obj, h.pages.mono hB, h.full, h.chs.mono hB, h.chin, by have := h.bd; omega, h.dg, h.vd, h.vg, h.vnil⟩
structure Two (w : World) (B d1 g1 c1 : Nat) (v1 : Value) (ps1 : List (List UInt8)) (ch1 : List (Nat × List UInt8)) (d2 g2 c2 : Nat) (v2 : Value) (ps2 : List (List UInt8)) (ch2 : List (Nat × List UInt8)) : Prop where
  one : DiskAt w B d1 g1 c1 v1 ps1 ch1
  two : DiskAt w B d2 g2 c2 v2 ps2 ch2
  sep : Sep d1 g1 v1.ownBlock d2 g2 v2.ownBlock
theorem Two.symm {w : World} {B d1 g1 c1 : Nat} {v1 : Value} {ps1 : List (List UInt8)} {ch1 : List (Nat × List UInt8)} {d2 g2 c2 : Nat} {v2 : Value} {ps2 : List (List UInt8)} {ch2 : List (Nat × List UInt8)} (h : Two w B d1 g1 c1 v1 ps1 ch1 d2 g2 c2 v2 ps2 ch2) : Two w B d2 g2 c2 v2 ps2 ch2 d1 g1 c1 v1 ps1 ch1 := ⟨h.two, h.one, h.sep.symm⟩
theorem Two.below {w w' : World} {B d1 g1 c1 : Nat} {v1 : Value} {ps1 : List (List UInt8)} {ch1 : List (Nat × List UInt8)} {d2 g2 c2 : Nat} {v2 : Value} {ps2 : List (List UInt8)} {ch2 : List (Nat × List UInt8)} (h : Two w B d1 g1 c1 v1 ps1 ch1 d2 g2 c2 v2 ps2 ch2) (hb : Below w.heap.size w w') : Two w' B d1 g1 c1 v1 ps1 ch1 d2 g2 c2 v2 ps2 ch2 := ⟨h.one.below hb, h.two.below hb, h.sep⟩
theorem Sep.next {d1 g1 d2 g2 : Nat} {r1 r1' r2 : Option Nat} (h : Sep d1 g1 r1 d2 g2 r2) {n : Nat} (hn : d2 < n ∧ g2 < n ∧ ∀ k, r2 = some k → k < n) (hr : r1' = r1 ∨ r1' = some (n + 1)) : Sep d1 g1 r1' d2 g2 r2 := by
  rcases hr with rfl | rfl
  · exact h
  · obtain ⟨⟨a, b, c⟩, ⟨d, e, f⟩, i⟩ := h
    refine ⟨⟨a, b, fun h => ?_⟩, ⟨d, e, fun h => ?_⟩, fun k hk => ⟨(i k hk).1, (i k hk).2.1, fun h => ?_⟩⟩
    · cases h; omega
    · cases h; omega
    · cases h; have := hn.2.2 _ hk; omega

/-- a write to one of two disks -/
theorem two_write {w : World} {B d1 g1 c1 : Nat} {v1 : Value} {ps1 : List (List UInt8)} {ch1 : List (Nat × List UInt8)} {d2 g2 c2 : Nat} {v2 : Value} {ps2 : List (List UInt8)} {ch2 : List (Nat × List UInt8)} (h : Two w B d1 g1 c1 v1 ps1 ch1 d2 g2 c2 v2 ps2 ch2)
    (n : Int) (x : List UInt8) {vx : Value} {B2 : Nat} (hx : w.ownsRow B2 5 1 vx x.length (cellsOf x)) (hap : d1 < B2 ∧ g1 < B2 ∧ ∀ k, v1.ownBlock = some k → k < B2) (hch : ch1.length ≤ 1000000) (hbase : B ≤ w.heap.size) :
    Calls Tryz.prog 103 #[.pointer (some ⟨d1, 0, none⟩), .int .i64 n, vx] w fun e w' => e = .returned (.int .i64 (wErr ps1.length n x.length : Int)) ∧
      ∃ v', Two w' B d1 g1 c1 v' (wPs ps1 n x) (wCh ps1 ch1 n x) d2 g2 c2 v2 ps2 ch2 ∧ Below B w w' := by
  refine (write_any h.one n x hx hap hch hbase).mono ?_
  rintro e w' ⟨rfl, v', hD, hv, ho⟩
  exact ⟨rfl, v', ⟨hD, h.two.only ho h.sep, h.sep.next h.two.lts hv⟩, ho.below h.one B (Nat.le_refl _) hbase⟩

theorem wErr_len (ps : List (List UInt8)) (n m : Int) (x : List UInt8) (l : Nat) : wErr (wPs ps n x).length m l = wErr ps.length m l := by rw [wPs_length]
theorem swap_ps (ps : List (List UInt8)) (n m : Int) (x y : List UInt8) (h : n ≠ m) : wPs (wPs ps n x) m y = wPs (wPs ps m y) n x := by
  have e1 : wPs (wPs ps n x) m y = if wErr (wPs ps n x).length m y.length = 0 then (wPs ps n x).set m.toNat y else wPs ps n x := rfl
  have e2 : wPs (wPs ps m y) n x = if wErr (wPs ps m y).length n x.length = 0 then (wPs ps m y).set n.toNat x else wPs ps m y := rfl
  rw [e1, e2, wErr_len, wErr_len]
  unfold wPs
  by_cases h1 : wErr ps.length n x.length = 0
  · by_cases h2 : wErr ps.length m y.length = 0
    · rw [if_pos h1, if_pos h2, if_pos h1, if_pos h2]
      apply List.set_comm
      unfold wErr at h1 h2
      split at h1
      · cases h1
      · split at h2
        · cases h2
        · omega
    · rw [if_pos h1, if_neg h2, if_pos h1, if_neg h2]
  · by_cases h2 : wErr ps.length m y.length = 0
    · simp [h1, h2]
    · simp [h1, h2]
theorem swap_ch (ps : List (List UInt8)) (n m : Int) (x y : List UInt8) : (wCh (wPs ps n x) (wCh ps [] n x) m y).length = (wCh (wPs ps m y) (wCh ps [] m y) n x).length := by
  rw [wCh_length, wCh_length, wCh_length, wCh_length, wErr_len, wErr_len]
  omega
/-- a deed as a value -/
def deedV (N L : Int) (b : UInt8) : Value := .agg #[.int .i64 N, .int .i64 L, .int .u8 (b.toNat : Int)]
theorem wCh_le (ps : List (List UInt8)) (ch : List (Nat × List UInt8)) (n : Int) (x : List UInt8) : (wCh ps ch n x).length ≤ ch.length + 1 := by rw [wCh_length]; split <;> omega

end Go.Proofs.YthdcjepkehifoaaGreat
