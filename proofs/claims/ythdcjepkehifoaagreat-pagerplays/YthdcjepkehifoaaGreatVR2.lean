/- YthdcjepkehifoaaGreatVR0 + YthdcjepkehifoaaGreatVR1 + YthdcjepkehifoaaGreatVR2 -/
import Derived.Test.YthdcjepkehifoaaGreatVAgree
import Derived.Test.YthdcjepkehifoaaGreatWRCom
import Derived.Test.YthdcjepkehifoaaGreatYR
/- The reference's cache in memory. -/
namespace Go.Proofs.YthdcjepkehifoaaGreat
open Go.RowKit Go.Maps Go.Sort Go.Shelf
set_option linter.unusedVariables false
set_option maxRecDepth 20000
/-- where a reference's cache lies: its log, its rows, the bytes of its dirty pages; the blocks of its log -/
structure RM where
  ml : Nat
  dv : Value
  cv : Value
  pv : Value
  db : Nat → Nat
  dc : Nat → Nat
  R : Nat → Prop
def rpg (m : RM) (c : Nat × List UInt8) : PgV := ((c.1 : Int), some ⟨m.db c.1, 0, none⟩, 256, m.dc c.1)
def rpObj (m : RM) (r : RS) : Array Value := #[.pointer (some ⟨m.ml, 0, none⟩), .int .i64 (r.mo : Int), m.dv, m.cv, m.pv, .int .i64 (r.hi : Int), .int .i64 (r.mi : Int)]
structure RPm (w : World) (B q : Nat) (m : RM) (r : RS) : Prop where
  obj : w.heap[q]? = some (.cells (rpObj m r) 82 (0, 0))
  log : RQ w B m.ml r.S r.G r.gs r.P r.ls m.R
  crow : w.ownsRow B 3 1 m.cv r.ord.length (natCells r.ord)
  prow : w.ownsRow B 3 1 m.pv r.pins.length (natCells r.pins)
  drow : w.ownsRow B 94 2 m.dv (r.dd.map (rpg m)).length (pgCells (r.dd.map (rpg m)))
  dby : ∀ c ∈ r.dd, BBlk w (m.db c.1) c.2 ∧ ¬ m.R (m.db c.1) ∧ m.db c.1 ≠ q
  dok : ∀ c ∈ r.dd, c.1 < r.P ∧ c.2.length = 256
  dn : (r.dd.map (·.1)).Nodup
  cR : ∀ k, m.cv.ownBlock = some k → ¬ m.R k ∧ k ≠ q
  pR : ∀ k, m.pv.ownBlock = some k → ¬ m.R k ∧ k ≠ q
  dR : ∀ k, m.dv.ownBlock = some k → ¬ m.R k ∧ k ≠ q
  qR : ¬ m.R q
  Rb : ∀ j, m.R j → B ≤ j ∧ j < w.heap.size
  Bq : B ≤ q
/-- all its blocks; those that are written -/
def rAll (q : Nat) (m : RM) (r : RS) (k : Nat) : Prop := k = q ∨ m.R k ∨ m.cv.ownBlock = some k ∨ m.pv.ownBlock = some k ∨ m.dv.ownBlock = some k ∨ ∃ c ∈ r.dd, k = m.db c.1
def rWr (q : Nat) (m : RM) (k : Nat) : Prop := k = q ∨ m.R k
section
variable {w w' : World} {B q : Nat} {m : RM} {r : RS}
theorem RPm.lts (h : RPm w B q m r) : ∀ k, rAll q m r k → k < w.heap.size := by
  rintro k (rfl | h1 | h1 | h1 | h1 | ⟨c, hc, rfl⟩)
  · exact heap_lt h.obj
  · exact (h.Rb k h1).2
  · exact (h.crow.lt k h1).2
  · exact (h.prow.lt k h1).2
  · exact (h.drow.lt k h1).2
  · exact (h.dby c hc).1.lt
theorem RPm.keep (h : RPm w B q m r) (hs : w.heap.size ≤ w'.heap.size) (hk : ∀ k, rAll q m r k → w'.heap[k]? = w.heap[k]?) : RPm w' B q m r :=
  ⟨(hk q (.inl rfl)).trans h.obj, h.log.keep fun j _ hj => hk j (.inr (.inl hj)), ownsRow_keep h.crow fun k e => hk k (.inr (.inr (.inl e))), ownsRow_keep h.prow fun k e => hk k (.inr (.inr (.inr (.inl e)))), ownsRow_keep h.drow fun k e => hk k (.inr (.inr (.inr (.inr (.inl e))))), fun c hc => ⟨(h.dby c hc).1.keep (hk _ (.inr (.inr (.inr (.inr (.inr ⟨c, hc, rfl⟩)))))), (h.dby c hc).2⟩, h.dok, h.dn, h.cR, h.pR, h.dR, h.qR, fun j hj => ⟨(h.Rb j hj).1, Nat.lt_of_lt_of_le (h.Rb j hj).2 hs⟩, h.Bq⟩
theorem RPm.below (h : RPm w B q m r) (hb : Below w.heap.size w w') : RPm w' B q m r := h.keep hb.size fun k hk => hb.block k (h.lts k hk)
theorem RPm.c0 (h : RPm w B q m r) : w.cell? ⟨q, 0, none⟩ = some (.pointer (some ⟨m.ml, 0, none⟩)) := cell_of_row _ _ 0 _ _ _ h.obj
theorem RPm.c1 (h : RPm w B q m r) : w.cell? ⟨q, 1, none⟩ = some (.int .i64 (r.mo : Int)) := cell_of_row _ _ 1 _ _ _ h.obj
theorem RPm.c2 (h : RPm w B q m r) : w.cell? ⟨q, 2, none⟩ = some m.dv := cell_of_row _ _ 2 _ _ _ h.obj
theorem RPm.c3 (h : RPm w B q m r) : w.cell? ⟨q, 3, none⟩ = some m.cv := cell_of_row _ _ 3 _ _ _ h.obj
theorem RPm.c4 (h : RPm w B q m r) : w.cell? ⟨q, 4, none⟩ = some m.pv := cell_of_row _ _ 4 _ _ _ h.obj
theorem RPm.c5 (h : RPm w B q m r) : w.cell? ⟨q, 5, none⟩ = some (.int .i64 (r.hi : Int)) := cell_of_row _ _ 5 _ _ _ h.obj
theorem RPm.c6 (h : RPm w B q m r) : w.cell? ⟨q, 6, none⟩ = some (.int .i64 (r.mi : Int)) := cell_of_row _ _ 6 _ _ _ h.obj
theorem RPm.z (h : RPm w B q m r) (j : Nat) : w.frozen? ⟨q, j, none⟩ = false := frozen_of_row _ _ j _ _ h.obj
/-- a row that is new lies apart -/
theorem RPm.isNew (h : RPm w B q m r) {k : Nat} (hk : w.heap.size ≤ k) : ¬ m.R k ∧ k ≠ q := by
  constructor
  · intro hR; have := (h.Rb k hR).2; omega
  · have := heap_lt h.obj; omega
theorem setC_out (w : World) (q i : Nat) (v : Value) : Out (fun k => k = q) w (w.setCell ⟨q, i, none⟩ v) := ⟨rfl, rfl, rfl, by simp [World.setCell], fun j hj hp => heap_setCell_other _ _ _ _ hp⟩
theorem setC_size (w : World) (q i : Nat) (v : Value) : (w.setCell ⟨q, i, none⟩ v).heap.size = w.heap.size := by simp [World.setCell]
/-- the clean pages are others -/
theorem RPm.setC (h : RPm w B q m r) {v : Value} {l : List Nat} (hv : w.ownsRow B 3 1 v l.length (natCells l)) (hn : ∀ k, v.ownBlock = some k → ¬ m.R k ∧ k ≠ q) : RPm (w.setCell ⟨q, 3, none⟩ v) B q { m with cv := v } { r with ord := l } := by
  have o : ∀ k, k ≠ q → (w.setCell ⟨q, 3, none⟩ v).heap[k]? = w.heap[k]? := fun k hk => heap_setCell_other _ _ _ _ hk
  refine ⟨by rw [heap_setCell_same w q 3 _ _ v h.obj]; rfl, h.log.keep fun j _ hj => o j (fun e => h.qR (e ▸ hj)), ownsRow_keep hv fun k e => o k (hn k e).2, ownsRow_keep h.prow fun k e => o k (h.pR k e).2, ownsRow_keep h.drow fun k e => o k (h.dR k e).2, fun c hc => ⟨(h.dby c hc).1.keep (o _ (h.dby c hc).2.2), (h.dby c hc).2⟩, h.dok, h.dn, hn, h.pR, h.dR, h.qR, fun j hj => by rw [setC_size]; exact h.Rb j hj, h.Bq⟩
/-- the pins are others -/
theorem RPm.setP (h : RPm w B q m r) {v : Value} {l : List Nat} (hv : w.ownsRow B 3 1 v l.length (natCells l)) (hn : ∀ k, v.ownBlock = some k → ¬ m.R k ∧ k ≠ q) : RPm (w.setCell ⟨q, 4, none⟩ v) B q { m with pv := v } { r with pins := l } := by
  have o : ∀ k, k ≠ q → (w.setCell ⟨q, 4, none⟩ v).heap[k]? = w.heap[k]? := fun k hk => heap_setCell_other _ _ _ _ hk
  refine ⟨by rw [heap_setCell_same w q 4 _ _ v h.obj]; rfl, h.log.keep fun j _ hj => o j (fun e => h.qR (e ▸ hj)), ownsRow_keep h.crow fun k e => o k (h.cR k e).2, ownsRow_keep hv fun k e => o k (hn k e).2, ownsRow_keep h.drow fun k e => o k (h.dR k e).2, fun c hc => ⟨(h.dby c hc).1.keep (o _ (h.dby c hc).2.2), (h.dby c hc).2⟩, h.dok, h.dn, h.cR, hn, h.dR, h.qR, fun j hj => by rw [setC_size]; exact h.Rb j hj, h.Bq⟩
/-- a hit, a miss -/
theorem RPm.setH (h : RPm w B q m r) (x : Nat) : RPm (w.setCell ⟨q, 5, none⟩ (.int .i64 (x : Int))) B q m { r with hi := x } := by
  have o : ∀ k, k ≠ q → (w.setCell ⟨q, 5, none⟩ (.int .i64 (x : Int))).heap[k]? = w.heap[k]? := fun k hk => heap_setCell_other _ _ _ _ hk
  refine ⟨by rw [heap_setCell_same w q 5 _ _ _ h.obj]; rfl, h.log.keep fun j _ hj => o j (fun e => h.qR (e ▸ hj)), ownsRow_keep h.crow fun k e => o k (h.cR k e).2, ownsRow_keep h.prow fun k e => o k (h.pR k e).2, ownsRow_keep h.drow fun k e => o k (h.dR k e).2, fun c hc => ⟨(h.dby c hc).1.keep (o _ (h.dby c hc).2.2), (h.dby c hc).2⟩, h.dok, h.dn, h.cR, h.pR, h.dR, h.qR, fun j hj => by rw [setC_size]; exact h.Rb j hj, h.Bq⟩
theorem RPm.setM (h : RPm w B q m r) (x : Nat) : RPm (w.setCell ⟨q, 6, none⟩ (.int .i64 (x : Int))) B q m { r with mi := x } := by
  have o : ∀ k, k ≠ q → (w.setCell ⟨q, 6, none⟩ (.int .i64 (x : Int))).heap[k]? = w.heap[k]? := fun k hk => heap_setCell_other _ _ _ _ hk
  refine ⟨by rw [heap_setCell_same w q 6 _ _ _ h.obj]; rfl, h.log.keep fun j _ hj => o j (fun e => h.qR (e ▸ hj)), ownsRow_keep h.crow fun k e => o k (h.cR k e).2, ownsRow_keep h.prow fun k e => o k (h.pR k e).2, ownsRow_keep h.drow fun k e => o k (h.dR k e).2, fun c hc => ⟨(h.dby c hc).1.keep (o _ (h.dby c hc).2.2), (h.dby c hc).2⟩, h.dok, h.dn, h.cR, h.pR, h.dR, h.qR, fun j hj => by rw [setC_size]; exact h.Rb j hj, h.Bq⟩
/-- the dirty pages are others -/
theorem RPm.setD (h : RPm w B q m r) {v : Value} {l : List (Nat × List UInt8)} (db dc : Nat → Nat) (hv : w.ownsRow B 94 2 v (l.map (rpg { m with db := db, dc := dc })).length (pgCells (l.map (rpg { m with db := db, dc := dc })))) (hn : ∀ k, v.ownBlock = some k → ¬ m.R k ∧ k ≠ q)
    (hby : ∀ c ∈ l, BBlk w (db c.1) c.2 ∧ ¬ m.R (db c.1) ∧ db c.1 ≠ q) (hok : ∀ c ∈ l, c.1 < r.P ∧ c.2.length = 256) (hnd : (l.map (·.1)).Nodup) : RPm (w.setCell ⟨q, 2, none⟩ v) B q { m with dv := v, db := db, dc := dc } { r with dd := l } := by
  have o : ∀ k, k ≠ q → (w.setCell ⟨q, 2, none⟩ v).heap[k]? = w.heap[k]? := fun k hk => heap_setCell_other _ _ _ _ hk
  refine ⟨by rw [heap_setCell_same w q 2 _ _ v h.obj]; rfl, h.log.keep fun j _ hj => o j (fun e => h.qR (e ▸ hj)), ownsRow_keep h.crow fun k e => o k (h.cR k e).2, ownsRow_keep h.prow fun k e => o k (h.pR k e).2, ownsRow_keep hv fun k e => o k (hn k e).2, fun c hc => ⟨(hby c hc).1.keep (o _ (hby c hc).2.2), (hby c hc).2⟩, hok, hnd, h.cR, h.pR, hn, h.qR, fun j hj => by rw [setC_size]; exact h.Rb j hj, h.Bq⟩
end
/-- what a call leaves -/
def RPo (w : World) (B q : Nat) (m : RM) (r r' : RS) (w' : World) : Prop := ∃ m', RPm w' B q m' r' ∧ Out (rWr q m) w w' ∧ (∀ k, m'.R k → m.R k ∨ w.heap.size ≤ k) ∧ ∀ k, rAll q m' r' k → rAll q m r k ∨ w.heap.size ≤ k
section
variable {w w1 w2 : World} {B q : Nat} {m m1 : RM} {r r1 r2 : RS}
theorem RPo.then (ho : Out (rWr q m) w w1) (hR : ∀ k, m1.R k → m.R k ∨ w.heap.size ≤ k) (hA : ∀ k, rAll q m1 r1 k → rAll q m r k ∨ w.heap.size ≤ k) (h2 : RPo w1 B q m1 r1 r2 w2) : RPo w B q m r r2 w2 := by
  obtain ⟨m2, hm, ho2, hR2, hA2⟩ := h2
  have hs := ho.size
  refine ⟨m2, hm, ho.comp ho2 (fun j hj => ?_), fun k hk => ?_, fun k hk => ?_⟩
  · rcases hj with rfl | hj
    · exact .inl (.inl rfl)
    · exact (hR j hj).imp .inr id
  · rcases hR2 k hk with h | h
    · exact hR k h
    · exact .inr (by omega)
  · rcases hA2 k hk with h | h
    · exact hA k h
    · exact .inr (by omega)
theorem RPo.of_below (h : RPm w B q m r) (hb : Below w.heap.size w w1) : RPo w B q m r r w1 := ⟨m, h.below hb, Out.of_below hb, fun k hk => .inl hk, fun k hk => .inl hk⟩
theorem RPo.ahead (hb : Below w.heap.size w w1) (h : RPo w1 B q m r r2 w2) : RPo w B q m r r2 w2 := RPo.then (Out.of_below hb) (fun k hk => .inl hk) (fun k hk => .inl hk) h
end
end Go.Proofs.YthdcjepkehifoaaGreat

/- The reference's cache: has, without, written and what only reads, by contracts. -/
namespace Go.Proofs.YthdcjepkehifoaaGreat
open Go.RowKit Go.Maps Go.Sort Go.Shelf
set_option linter.unusedVariables false
set_option maxRecDepth 20000
theorem numsRow {w : World} {B n : Nat} {v : Value} {l : List Nat} (h : w.ownsRow B 3 1 v n (natCells l)) : ∃ a c, v = .slice a l.length c ∧ Nums w a l := by
  have hn : l.length = n := by have := h.1; simpa [natCells] using this
  subst hn
  rcases h.2 with ⟨rfl, h0⟩ | ⟨g, cap, cur, rfl, hg, hb, hc, hm, hs, ht⟩
  · exact ⟨none, 0, by rw [h0], fun i hi => by omega⟩
  · refine ⟨_, _, rfl, fun i hi => ⟨g, 0, rfl, ?_⟩⟩
    have h1 := h.cellAt i (by omega)
    rw [Nat.zero_add, h1]
    unfold natCells
    rw [List.getElem?_map, List.getElem?_eq_getElem hi]
    rfl
set_option maxHeartbeats 800000 in
theorem rhas_any (w : World) (a : Option Addr) (l : List Nat) (c : Nat) (hn : Nums w a l) (hl : l.length ≤ 1000000) (x : Int) :
    Calls Tryz.prog 154 #[.slice a l.length c, .int .i64 x] w fun e w' => e = .returned (.bool (decide (∃ y ∈ l, (y : Int) = x))) ∧ w' = w := by
  have Hn := hid hn
  clear hn
  go_enter Tryz.func154, Tryz.ntmps154
  go_wp2
  go_loopw [5] (fun i wr => ∃ k : Nat, k ≤ l.length ∧ i = .int .i64 k ∧ (∀ y ∈ l.take k, (y : Int) ≠ x) ∧ wr = w) (fun i _ => l.length - (intOf i).toNat)
  case atStart => exact ⟨0, Nat.zero_le _, rfl, fun y hy => by simp at hy, rfl⟩
  case round =>
    obtain ⟨k, hk, rfl, hno, rfl⟩ := hrel
    have Hno := hid hno
    clear hno
    by_cases hlt : k < l.length
    · obtain ⟨b, o, rfl, hc⟩ := Hn.out k hlt
      have Htk := hid (List.take_succ_eq_append_getElem hlt)
      have Hm := hid (List.getElem_mem hlt)
      generalize l[k] = y at *
      have g1 : (k : Int) < (l.length : Int) := by omega
      have g2 : (0 : Int) ≤ (k : Int) := by omega
      by_cases he : (y : Int) = x
      · have g3 : ((y : Int) == x) = true := by simp [he]
        go_wp2
        go_ret
        exact ⟨congrArg (fun b => Ending.returned (.bool b)) (decide_eq_true (⟨y, Hm.out, he⟩ : ∃ y ∈ l, (y : Int) = x)).symm, rfl⟩
      · have g3 : ((y : Int) == x) = false := by simp [he]
        go_wp2
        go_roundw
        case rel => exact ⟨k + 1, by omega, by go_num, by rw [Htk.out]; intro z hz; rcases List.mem_append.1 hz with hz | hz; exact Hno.out z hz; rw [List.mem_singleton.1 hz]; exact he, trivial⟩
        case measure => simp [intOf]; omega
    · have hkl : k = l.length := by omega
      subst hkl
      have g1 : ¬ (l.length : Int) < (l.length : Int) := by omega
      go_wp2
      go_ret
      exact ⟨congrArg (fun b => Ending.returned (.bool b)) (decide_eq_false (p := ∃ y ∈ l, (y : Int) = x) (by rintro ⟨y, hy, e⟩; exact Hno.out y (by rw [List.take_length]; exact hy) e)).symm, rfl⟩
set_option maxHeartbeats 800000 in
theorem rwithout_any (w : World) (a : Option Addr) (l : List Nat) (c : Nat) (hn : Nums w a l) (hl : l.length ≤ 1000) (x : Nat) :
    Calls Tryz.prog 151 #[.slice a l.length c, .int .i64 (x : Int)] w fun e w' => ∃ v, e = .returned v ∧ w'.ownsRow w.heap.size 3 1 v (l.filter (fun y => y != x)).length (natCells (l.filter fun y => y != x)) ∧ Below w.heap.size w w' := by
  obtain ⟨i0, hi0, hz0, hz1, hz2⟩ := info_parts Tryz.infoInt
  have Hn := hid hn
  clear hn
  go_enter Tryz.func151, Tryz.ntmps151
  go_wp2
  go_loopw [5, 6] (fun v i wr => ∃ k : Nat, k ≤ l.length ∧ i = .int .i64 k ∧ wr.ownsRow w.heap.size 3 1 v ((l.take k).filter (fun y => y != x)).length (natCells ((l.take k).filter fun y => y != x)) ∧ Below w.heap.size w wr) (fun _ i _ => l.length - (intOf i).toNat)
  case atStart => exact ⟨0, Nat.zero_le _, rfl, World.ownsRow_nil _ _ _ _, Below.refl _ _⟩
  case round =>
    obtain ⟨k, hk, rfl, hown, hB⟩ := hrel
    have Hown := hid hown
    have HB := hid hB
    clear hown hB
    by_cases hlt : k < l.length
    · obtain ⟨b, o, rfl, hc0⟩ := Hn.out k hlt
      have hc := (HB.out.cell (World.block_lt_of_cell? _ _ hc0)).trans hc0
      have Htk := hid (List.take_succ_eq_append_getElem hlt)
      have hfl : ((l.take k).filter (fun y => y != x)).length ≤ k := Nat.le_trans (List.length_filter_le _ _) (by rw [List.length_take]; omega)
      clear hc0
      generalize l[k] = y at *
      have g1 : (k : Int) < (l.length : Int) := by omega
      have g2 : (0 : Int) ≤ (k : Int) := by omega
      by_cases he : y = x
      · have g3 : ((y : Int) != (x : Int)) = false := by simp [he]
        have g4 : (y : Int) = (x : Int) := by omega
        have Hst : Hid ((l.take (k + 1)).filter (fun y => y != x) = (l.take k).filter (fun y => y != x)) := (by rw [Htk.out, List.filter_append]; simp [he] : (l.take (k + 1)).filter (fun y => y != x) = (l.take k).filter (fun y => y != x))
        go_wp2
        go_roundw
        case rel => exact ⟨k + 1, by omega, by go_num, by rw [Hst.out]; exact Hown.out, HB.out⟩
        case measure => simp [intOf]; omega
      · have g3 : ((y : Int) != (x : Int)) = true := by simp; omega
        have g4 : ¬ (y : Int) = (x : Int) := by omega
        have Hst : Hid ((l.take (k + 1)).filter (fun y => y != x) = (l.take k).filter (fun y => y != x) ++ [y]) := (by rw [Htk.out, List.filter_append]; simp [he] : (l.take (k + 1)).filter (fun y => y != x) = (l.take k).filter (fun y => y != x) ++ [y])
        generalize (l.take k).filter (fun y => y != x) = t at *
        go_wp2_with (at_builtin; refine wpList_append_own_at _ rfl _ _ 30 rfl w.heap.size 3 i0 (.int .i64 0) 1 8 Tryz.underlying30 hi0 hz0 hz1 hz2 rfl (by decide) _ _ _ rfl (Hown.out.alloc _) ⟨wr.heap.size, 0, none⟩ 1 1 [.int .i64 (y : Int)] rfl rfl (World.news_of_block (cs := #[.int .i64 (y : Int)]) (t := 3) (fr := (0, 0)) (heap_alloc_new wr _)) (by simp [Value.oneCell']) (by unfold maxLen; omega) (by omega) (by rw [World.size_alloc]; have := HB.out.size; omega) ?_; intro v' w6 hown6 hgrow6 hnil6 hloc6)
        go_roundw
        case rel => exact ⟨k + 1, by omega, by go_num, by rw [Hst.out, List.length_append]; unfold natCells at hown6 ⊢; rw [List.map_append]; exact hown6, (HB.out.alloc HB.out.size _).grown hgrow6 (by rw [World.size_alloc]; have := HB.out.size; omega) (fun j e => (Hown.out.lt j e).1)⟩
        case measure => simp [intOf]; omega
    · have hkl : k = l.length := by omega
      subst hkl
      have g1 : ¬ (l.length : Int) < (l.length : Int) := by omega
      go_wp2
      go_ret
      exact ⟨_, rfl, by have := Hown.out; rwa [List.take_length] at this, HB.out⟩

def WrPost (w : World) (r : RS) (n : Nat) (e : Ending) (w' : World) : Prop := Below w.heap.size w w' ∧
  ((∃ y b c, r.dd.lookup n = some y ∧ e = .returned (.tuple #[.slice (some ⟨b, 0, none⟩) 256 c, .bool true]) ∧ w'.ownsRow w.heap.size 5 1 (.slice (some ⟨b, 0, none⟩) 256 c) 256 (cellsOf y)) ∨ (r.dd.lookup n = none ∧ e = .returned (.tuple #[.slice none 0 0, .bool false])))
set_option maxHeartbeats 1600000 in
theorem rwritten_any {w : World} {B q : Nat} {m : RM} {r : RS} (h : RPm w B q m r) (n : Nat) (hl : r.dd.length ≤ 1000) :
    Calls Tryz.prog 117 #[.pointer (some ⟨q, 0, none⟩), .int .i64 (n : Int)] w (WrPost w r n) := by
  obtain ⟨da, dk, hdv⟩ := own_slc h.drow
  rw [List.length_map] at hdv
  have c2 := h.c2
  rw [hdv] at c2
  have H := hid h
  have Hdv := hid hdv
  clear h hdv
  go_enter Tryz.func117, Tryz.ntmps117
  go_wp2
  go_loopw [6] (fun i wr => ∃ k : Nat, k ≤ r.dd.length ∧ i = .int .i64 k ∧ (∀ c ∈ r.dd.take k, c.1 ≠ n) ∧ wr = w) (fun i _ => r.dd.length - (intOf i).toNat)
  case atStart => exact ⟨0, Nat.zero_le _, rfl, fun y hy => by simp at hy, rfl⟩
  case round =>
    obtain ⟨k, hk, rfl, hno, rfl⟩ := hrel
    have Hno := hid hno
    clear hno
    by_cases hlt : k < r.dd.length
    · have hrow := H.out.drow
      rw [Hdv.out, List.length_map] at hrow
      obtain ⟨g, c', e1, _, _⟩ := hrow.form (by omega)
      cases e1
      obtain ⟨hc0, hc1⟩ := pgs_of_row (l := r.dd.map (rpg m)) (by rw [List.length_map]; exact hrow) k (by rw [List.length_map]; exact hlt)
      rw [Nat.zero_add, List.getElem_map] at hc0 hc1
      have Htk := hid (List.take_succ_eq_append_getElem hlt)
      have hm := List.getElem_mem hlt
      obtain ⟨hby, _, _⟩ := H.out.dby _ hm
      have hyl := (H.out.dok _ hm).2
      have Hm := hid hm
      generalize r.dd[k] = cc at *
      obtain ⟨x, y⟩ := cc
      have hc0' : wr.cell? ⟨g, k * 2, none⟩ = some (.int .i64 (x : Int)) := hc0
      have hc1' : wr.cell? ⟨g, k * 2 + 1, none⟩ = some (.slice (some ⟨m.db x, 0, none⟩) 256 (m.dc x)) := hc1
      obtain ⟨_, _, _, hyb⟩ := hby
      have hyl2 : y.length = 256 := hyl
      have Hcp := hid (copyB y (m.db x) 0 (m.dc x) wr hyb (by omega) (by omega))
      have Hyl := hid hyl
      rw [hyl2] at Hcp
      have g1 : (k : Int) < (r.dd.length : Int) := by omega
      have g2 : (0 : Int) ≤ (k : Int) := by omega
      clear hc0 hc1 hrow hm hyb hyl hyl2
      by_cases he : x = n
      · subst he
        have g3 : ((x : Int) == (x : Int)) = true := by simp
        have Hlo : Hid (r.dd.lookup x = some y) := by
          show _ = _
          exact lookup_some' H.out.dn Hm.out
        go_wp2_with (fail)
        refine Hcp.out.mono ?_
        rintro e w1 ⟨v1, rfl, hr1, hb1⟩
        obtain ⟨b1, c1, rfl, _, _⟩ := hr1.form (by omega)
        have HR := hid hr1
        have HB := hid hb1
        clear hr1 hb1 Hcp
        go_wp2
        go_ret2
        exact ⟨HB.out, .inl ⟨y, b1, c1, Hlo.out, rfl, HR.out⟩⟩
      · have g3 : ((x : Int) == (n : Int)) = false := by simp; omega
        have g4 : ¬ (x : Int) = (n : Int) := by omega
        go_wp2_with (fail)
        go_roundw
        case rel => exact ⟨k + 1, by omega, by go_num, (by rw [Htk.out]; intro z hz; rcases List.mem_append.1 hz with hz | hz; exact Hno.out z hz; have e9 := List.mem_singleton.1 hz; subst e9; exact he), trivial⟩
        case measure => simp [intOf]; omega
    · have hkl : k = r.dd.length := by omega
      subst hkl
      have g1 : ¬ (r.dd.length : Int) < (r.dd.length : Int) := by omega
      have Hlo : Hid (r.dd.lookup n = none) := by
        show _ = _
        refine lookup_none' fun c hc => Hno.out c (by rw [List.take_length]; exact hc)
      go_wp2
      go_ret2
      exact ⟨Below.refl _ _, .inr ⟨Hlo.out, rfl⟩⟩
section
variable {w : World} {B q : Nat} {m : RM} {r : RS}
theorem rhits_any (h : RPm w B q m r) : Calls Tryz.prog 59 #[.pointer (some ⟨q, 0, none⟩)] w fun e w' => e = .returned (.int .i64 (r.hi : Int)) ∧ w' = w := by
  have c5 := h.c5
  clear h
  go_enter Tryz.func59, Tryz.ntmps59
  go_wp2
  go_ret
  exact ⟨rfl, rfl⟩
theorem rmisses_any (h : RPm w B q m r) : Calls Tryz.prog 61 #[.pointer (some ⟨q, 0, none⟩)] w fun e w' => e = .returned (.int .i64 (r.mi : Int)) ∧ w' = w := by
  have c6 := h.c6
  clear h
  go_enter Tryz.func61, Tryz.ntmps61
  go_wp2
  go_ret
  exact ⟨rfl, rfl⟩
set_option maxHeartbeats 800000 in
theorem rcached_any (h : RPm w B q m r) (hl : r.ord.length ≤ 100000) : Calls Tryz.prog 55 #[.pointer (some ⟨q, 0, none⟩)] w fun e w' => ∃ v, e = .returned v ∧ w'.ownsRow w.heap.size 3 1 v r.ord.length (natCells r.ord) ∧ Below w.heap.size w w' := by
  obtain ⟨i0, hi0, hz0, hz1, hz2⟩ := info_parts Tryz.infoInt
  obtain ⟨ca, ck, hcv, hnum⟩ := numsRow h.crow
  have c3 := h.c3
  rw [hcv] at c3
  have Hn := hid hnum
  clear h hcv hnum
  cases ca with
  | none =>
    have hl0 : r.ord = [] := by
      cases hr : r.ord with
      | nil => rfl
      | cons x t => obtain ⟨b, o, e, _⟩ := Hn.out 0 (by rw [hr]; simp); cases e
    rw [hl0] at c3 ⊢
    go_enter Tryz.func55, Tryz.ntmps55
    go_wp2
    go_ret
    exact ⟨_, rfl, World.ownsRow_nil _ _ _ _, Below.refl _ _⟩
  | some ad =>
    go_enter Tryz.func55, Tryz.ntmps55
    go_wp2_with (at_builtin; refine wpList_append_own _ rfl _ _ 30 rfl w.heap.size 3 i0 (.int .i64 0) 1 8 Tryz.underlying30 hi0 hz0 hz1 hz2 rfl (by decide) _ 0 [] rfl (World.ownsRow_nil _ _ _ _) ad r.ord.length ck (natCells r.ord) rfl ?qc1 ?qc2 ?qc3 ?qc4 ?qc5 ?qc6 ?_)
    case qc1 => simp [natCells_length]
    case qc2 =>
      intro j u hj
      have hjn : j < r.ord.length := by
        have := (List.getElem?_eq_some_iff.1 hj).1
        rwa [natCells_length] at this
      obtain ⟨b, o, e, hc⟩ := Hn.out j hjn
      cases e
      rw [addr_add, hc]
      unfold natCells at hj
      rw [List.getElem?_map, List.getElem?_eq_getElem hjn] at hj
      simpa using hj
    case qc3 =>
      intro u hu
      unfold natCells at hu
      obtain ⟨x, _, rfl⟩ := List.mem_map.1 hu
      rfl
    case qc4 => unfold maxLen; omega
    case qc5 => omega
    case qc6 => exact Nat.le_refl _
    intro v' w1 hown hgrow hnil
    go_wp2
    go_ret
    refine ⟨v', rfl, by simpa using hown, (Below.refl _ w).grown hgrow (Nat.le_refl _) (by intro k hk; simp [Value.ownBlock] at hk)⟩
/-- Abort -/
theorem RPm.dnone (h : RPm w B q m r) : RPm (w.setCell ⟨q, 2, none⟩ (.slice none 0 0)) B q { m with dv := .slice none 0 0 } { r with dd := [] } :=
  h.setD (l := []) m.db m.dc (World.ownsRow_nil _ _ _ _) (fun k e => by simp [Value.ownBlock] at e) (fun c hc => by cases hc) (fun c hc => by cases hc) List.nodup_nil
theorem RPm.noneO (h : RPm w B q m r) : RPo w B q m r { r with dd := [] } (w.setCell ⟨q, 2, none⟩ (.slice none 0 0)) := by
  refine ⟨_, h.dnone, (setC_out w q 2 _).imp (fun _ _ e => .inl e), fun k hk => .inl hk, fun k hk => ?_⟩
  rcases hk with e | e | e | e | e | ⟨c, hc, _⟩
  · exact .inl (.inl e)
  · exact .inl (.inr (.inl e))
  · exact .inl (.inr (.inr (.inl e)))
  · exact .inl (.inr (.inr (.inr (.inl e))))
  · simp [Value.ownBlock] at e
  · cases hc
theorem rabort_any (h : RPm w B q m r) : Calls Tryz.prog 111 #[.pointer (some ⟨q, 0, none⟩)] w fun e w' => e = .returned (.int .i64 (r.dd.length : Int)) ∧ RPo w B q m r { r with dd := [] } w' := by
  obtain ⟨da, dk, hdv⟩ := own_slc h.drow
  rw [List.length_map] at hdv
  have c2 := h.c2
  have z2 := h.z 2
  rw [hdv] at c2
  have HN := hid h.noneO
  clear h hdv
  go_enter Tryz.func111, Tryz.ntmps111
  go_wp2
  go_ret
  exact ⟨rfl, HN.out⟩
theorem RPm.refOk (h : RPm w B q m r) (hls : r.ls.length ≤ 1000000) : ∃ d F L vs us, RefOk w B m.ml d F L vs us r.S r.G r.gs r.P (fresh r.S r.P) r.ls := by
  obtain ⟨d, F, L, vs, us, hW, hi, _⟩ := h.log
  exact ⟨d, F, L, vs, us, hW.refOk hi hls⟩
theorem rlogPages (h : RPm w B q m r) : Calls Tryz.prog 18 #[.pointer (some ⟨m.ml, 0, none⟩)] w fun e w' => e = .returned (.int .i64 (r.P : Int)) ∧ Below w.heap.size w w' := by
  obtain ⟨d, F, L, vs, us, hW, hi, _⟩ := h.log
  have h1 := hi.len
  have h2 := hi.most
  rw [psOf_length] at h1 h2
  exact rpages_any hW.mem r.P h1 h2
/-- Dirty: the numbers that are dirty, rising -/
def dirN (r : RS) (k : Nat) : List Nat := (List.range k).filter fun n => (r.dd.lookup n).isSome
theorem dirN_succ (r : RS) (k : Nat) : dirN r (k + 1) = if (r.dd.lookup k).isSome then dirN r k ++ [k] else dirN r k := by
  unfold dirN
  rw [List.range_succ, List.filter_append]
  by_cases h : (r.dd.lookup k).isSome = true
  · rw [if_pos h]; simp [h]
  · rw [if_neg h]; simp [h]
theorem dirN_len (r : RS) (k : Nat) : (dirN r k).length ≤ k := by
  unfold dirN
  refine Nat.le_trans (List.length_filter_le _ _) ?_
  simp
set_option maxHeartbeats 1600000 in
theorem rdirty_any (h : RPm w B q m r) (hl : r.dd.length ≤ 1000) (hP : r.P ≤ 1024) : Calls Tryz.prog 57 #[.pointer (some ⟨q, 0, none⟩)] w fun e w' => ∃ v, e = .returned v ∧ w'.ownsRow w.heap.size 3 1 v (dirN r r.P).length (natCells (dirN r r.P)) ∧ Below w.heap.size w w' := by
  obtain ⟨i0, hi0, hz0, hz1, hz2⟩ := info_parts Tryz.infoInt
  have H := hid h
  clear h
  go_enter Tryz.func57, Tryz.ntmps57
  go_wp2
  go_loopw [3, 4] (fun v i wr => ∃ k : Nat, k ≤ r.P ∧ i = .int .i64 k ∧ wr.ownsRow w.heap.size 3 1 v (dirN r k).length (natCells (dirN r k)) ∧ Below w.heap.size w wr) (fun _ i _ => r.P - (intOf i).toNat)
  case atStart => exact ⟨0, Nat.zero_le _, rfl, World.ownsRow_nil _ _ _ _, Below.refl _ _⟩
  case round =>
    obtain ⟨k, hk, rfl, hown, hB⟩ := hrel
    have Hown := hid hown
    have HB := hid hB
    have h1 := H.out.below hB
    have c0 := h1.c0
    have Hpg := hid (rlogPages h1)
    have H1 := hid h1
    clear hown hB h1
    by_cases hlt : k < r.P
    · have g1 : (k : Int) < (r.P : Int) := by omega
      have hdl := dirN_len r k
      go_wp2_with (fail)
      refine Hpg.out.mono ?_
      rintro e w1 ⟨rfl, hb1⟩
      have Hwr := hid (rwritten_any (H1.out.below hb1) k hl)
      have Hown1 := hid (own_below Hown.out hb1)
      have HB1 := hid (HB.out.trans (hb1.mono HB.out.size))
      clear hb1 Hpg c0
      go_wp2_with (fail)
      refine Hwr.out.mono ?_
      rintro e w2 ⟨hb2, ⟨y, b, c, hlo, rfl, hr2⟩ | ⟨hlo, rfl⟩⟩
      · have Hown2 := hid (own_below Hown1.out hb2)
        have HB2 := hid (HB1.out.trans (hb2.mono HB1.out.size))
        have Hst : Hid (dirN r (k + 1) = dirN r k ++ [k]) := by
          show _ = _
          rw [dirN_succ, if_pos (by rw [hlo]; rfl)]
        generalize dirN r k = t at *
        clear hb2 hr2 hlo Hwr
        go_wp2_with (at_builtin; refine wpList_append_own_at _ rfl _ _ 30 rfl w.heap.size 3 i0 (.int .i64 0) 1 8 Tryz.underlying30 hi0 hz0 hz1 hz2 rfl (by decide) _ _ _ rfl (Hown2.out.alloc _) ⟨w2.heap.size, 0, none⟩ 1 1 [.int .i64 (k : Int)] rfl rfl (World.news_of_block (cs := #[.int .i64 (k : Int)]) (t := 3) (fr := (0, 0)) (heap_alloc_new w2 _)) (by simp [Value.oneCell']) (by unfold maxLen; omega) (by omega) (by rw [World.size_alloc]; have := HB2.out.size; omega) ?_; intro v' w6 hown6 hgrow6 hnil6 hloc6)
        go_roundw
        case rel => exact ⟨k + 1, by omega, by go_num, by rw [Hst.out, List.length_append]; unfold natCells at hown6 ⊢; rw [List.map_append]; exact hown6, (HB2.out.alloc HB2.out.size _).grown hgrow6 (by rw [World.size_alloc]; have := HB2.out.size; omega) (fun j e => (Hown2.out.lt j e).1)⟩
        case measure => simp [intOf]; omega
      · have Hown2 := hid (own_below Hown1.out hb2)
        have HB2 := hid (HB1.out.trans (hb2.mono HB1.out.size))
        have Hst : Hid (dirN r (k + 1) = dirN r k) := by
          show _ = _
          rw [dirN_succ, if_neg (by rw [hlo]; simp)]
        clear hb2 hlo Hwr
        go_wp2
        go_roundw
        case rel => exact ⟨k + 1, by omega, by go_num, by rw [Hst.out]; exact Hown2.out, HB2.out⟩
        case measure => simp [intOf]; omega
    · have hkl : k = r.P := by omega
      subst hkl
      have g1 : ¬ (r.P : Int) < (r.P : Int) := by omega
      go_wp2_with (fail)
      refine Hpg.out.mono ?_
      rintro e w1 ⟨rfl, hb1⟩
      have Hown1 := hid (own_below Hown.out hb1)
      have HB1 := hid (HB.out.trans (hb1.mono HB.out.size))
      clear hb1 Hpg c0
      go_wp2
      go_ret
      exact ⟨_, rfl, Hown1.out, HB1.out⟩
end
end Go.Proofs.YthdcjepkehifoaaGreat

/- use of the reference's cache, by a contract. -/
namespace Go.Proofs.YthdcjepkehifoaaGreat
open Go.RowKit Go.Maps Go.Sort Go.Shelf
set_option linter.unusedVariables false
set_option maxRecDepth 20000
theorem wp_storeI {o : Oper} {a : Act} {w : World} {K : Act → World → Prop} {Q : Exit → Act → World → Prop} (x y : Operand) (ho : o.op = .store 30 x y) (g k : Nat) (ad : Option Addr) (n c : Nat) (u : Value) (hx : a.eval x = .pointer (some ⟨g, k, none⟩)) (hy : a.eval y = .slice ad n c) (h1 : w.cell? ⟨g, k, none⟩ = some u) (h2 : w.frozen? ⟨g, k, none⟩ = false)
    (h : K (a.put o.dst undef) (w.setCell ⟨g, k, none⟩ (.slice ad n c))) : o.wp Tryz.prog a w K Q := by
  unfold Oper.wp execOp
  simp only [ho, hx, hy]
  simp [go_sem, h1, h2]
  exact h
theorem hf_without : ∀ (args : Array Value) (w : World), (callFunc 151 args).run Tryz.prog w = .ok (.enter 151 args) w := fun args w => by simp [go_sem]
noncomputable def codeRUse (n : Nat) : Code := ((Tryz.f150.body.bind (regionAt n)).getD .skip)
set_option maxHeartbeats 2000000 in
theorem use_region9 {V0 W5 : World} {B q g k N cap x : Nat} {m : RM} {r : RS} {A : Act} (sz : A.tmps.size = 84) (e0 : A.eval (.tmp 0) = .pointer (some ⟨q, 0, none⟩)) (e4 : A.eval (.tmp 4) = .int .i64 (k : Int)) (hV0 : V0 = W5.drew) (H : RPm V0 B q m r) (hcv : m.cv = .slice (some ⟨g, 0, none⟩) N cap) (hN : N = r.ord.length) (hk : k < N) (hx : V0.cell? ⟨g, k, none⟩ = some (.int .i64 (x : Int))) (hl : r.ord.length ≤ 1000) :
    (codeRUse 9).wp Tryz.prog (fun x' a V => x' = .normal ∧ ∃ a1 k1 M1 V1, a = (((((((((((((((A.put (some 69) (.pointer (some ⟨q, 0, none⟩))).put (some 70) (.pointer (some ⟨q, 0, none⟩))).put (some 71) (.pointer (some ⟨q, 0, none⟩))).put (some 72) (.pointer (some ⟨q, 3, none⟩))).put (some 73) (.slice (some ⟨g, 0, none⟩) N cap)).put (some 74) (.pointer (some ⟨q, 0, none⟩))).put (some 75) (.pointer (some ⟨q, 0, none⟩))).put (some 76) (.pointer (some ⟨q, 3, none⟩))).put (some 77) (.slice (some ⟨g, 0, none⟩) N cap)).put (some 78) (.int .i64 (k : Int))).put (some 79) (.pointer (some ⟨g, k, none⟩))).put (some 80) (.int .i64 (x : Int))).put (some 81) (.slice a1 M1 k1)).put (some 82) (.pointer (some ⟨q, 0, none⟩))).put (some 83) (.pointer (some ⟨q, 3, none⟩))) ∧ M1 = (r.ord.filter (fun y => y != x)).length ∧ V1.ownsRow V0.heap.size 3 1 (.slice a1 M1 k1) M1 (natCells (r.ord.filter (fun y => y != x))) ∧ Below V0.heap.size V0 V1 ∧ V = V1.setCell ⟨q, 3, none⟩ (.slice a1 M1 k1)) A W5 := by
  have hm : Tryz.prog.follows .mixedOrders = true := by kernel_rfl
  have hs0 : V0.cell? ⟨q, 3, none⟩ = some (.slice (some ⟨g, 0, none⟩) N cap) ∧ V0.cell? ⟨g, k, none⟩ = some (.int .i64 (x : Int)) := ⟨by rw [H.c3, hcv], hx⟩
  have hk1 : (0 : Int) ≤ (k : Int) := by omega
  have hk2 : (k : Int) < (N : Int) := by omega
  have hwo : Calls Tryz.prog 151 #[.slice (some ⟨g, 0, none⟩) N cap, .int .i64 (x : Int)] V0 fun e w' => ∃ v, e = .returned v ∧ w'.ownsRow V0.heap.size 3 1 v (r.ord.filter (fun y => y != x)).length (natCells (r.ord.filter fun y => y != x)) ∧ Below V0.heap.size V0 w' := by
    obtain ⟨a', c', hcv', hnum⟩ := numsRow H.crow
    rw [hcv] at hcv'
    cases hcv'
    exact rwithout_any V0 _ r.ord _ hnum hl x
  unfold codeRUse
  conv => arg 2; whnf
  refine wp_region_G (fun i => i == 15) (fun V => V.cell? ⟨q, 3, none⟩ = some (.slice (some ⟨g, 0, none⟩) N cap) ∧ V.cell? ⟨g, k, none⟩ = some (.int .i64 (x : Int))) hm ?_
  rw [show ({ W5 with drawn := W5.drawn + 1 } : World) = V0 from hV0.symm]
  refine wpAnyG_take (i := 0) (v := .pointer (some ⟨q, 0, none⟩)) rfl (by kernel_rfl) (by kernel_rfl) (by kernel_rfl) (fun _ _ _ h => nomatch h.1) (yg_mv (by simp [Region.wanted]) (.tmp 0) rfl e0) hs0 ?_
  show wpAnyG _ _ _ _ _ _ _ _ (A.put (some 69) (.pointer (some ⟨q, 0, none⟩))) _
  refine wpAnyG_take (i := 1) (v := .pointer (some ⟨q, 0, none⟩)) rfl (by kernel_rfl) (by kernel_rfl) (by kernel_rfl) (fun _ _ _ h => nomatch h.1) (yg_mv (by simp [Region.wanted]) (.tmp 0) rfl ((ev_ne _ _ (by decide)).trans e0)) hs0 ?_
  show wpAnyG _ _ _ _ _ _ _ _ ((A.put (some 69) (.pointer (some ⟨q, 0, none⟩))).put (some 70) (.pointer (some ⟨q, 0, none⟩))) _
  refine wpAnyG_take (i := 2) (v := .pointer (some ⟨q, 0, none⟩)) rfl (by kernel_rfl) (by kernel_rfl) (by kernel_rfl) (fun _ _ _ h => nomatch h.1) (yg_nil (by simp [Region.wanted]) (.tmp 70) rfl (ev_eq _ _ (by simp [put_sz, sz]))) hs0 ?_
  show wpAnyG _ _ _ _ _ _ _ _ (((A.put (some 69) (.pointer (some ⟨q, 0, none⟩))).put (some 70) (.pointer (some ⟨q, 0, none⟩))).put (some 71) (.pointer (some ⟨q, 0, none⟩))) _
  refine wpAnyG_take (i := 3) (v := .pointer (some ⟨q, 3, none⟩)) rfl (by kernel_rfl) (by kernel_rfl) (by kernel_rfl) (fun _ _ _ h => nomatch h.1) (yg_fld (by simp [Region.wanted]) (.tmp 71) rfl (ev_eq _ _ (by simp [put_sz, sz])) (fun w => by simp [go_sem])) hs0 ?_
  show wpAnyG _ _ _ _ _ _ _ _ ((((A.put (some 69) (.pointer (some ⟨q, 0, none⟩))).put (some 70) (.pointer (some ⟨q, 0, none⟩))).put (some 71) (.pointer (some ⟨q, 0, none⟩))).put (some 72) (.pointer (some ⟨q, 3, none⟩))) _
  refine wpAnyG_take (i := 4) (v := .slice (some ⟨g, 0, none⟩) N cap) rfl (by kernel_rfl) (by kernel_rfl) (by kernel_rfl) (fun _ _ _ h => nomatch h.1) (yg_ld (by simp [Region.wanted]) (.tmp 72) rfl (ev_eq _ _ (by simp [put_sz, sz])) (fun w hw => by have h1 := hw.1; simp [go_sem, h1])) hs0 ?_
  show wpAnyG _ _ _ _ _ _ _ _ (((((A.put (some 69) (.pointer (some ⟨q, 0, none⟩))).put (some 70) (.pointer (some ⟨q, 0, none⟩))).put (some 71) (.pointer (some ⟨q, 0, none⟩))).put (some 72) (.pointer (some ⟨q, 3, none⟩))).put (some 73) (.slice (some ⟨g, 0, none⟩) N cap)) _
  refine wpAnyG_take (i := 5) (v := .pointer (some ⟨q, 0, none⟩)) rfl (by kernel_rfl) (by kernel_rfl) (by kernel_rfl) (fun _ _ _ h => nomatch h.1) (yg_mv (by simp [Region.wanted]) (.tmp 0) rfl ((ev_ne _ _ (by decide)).trans ((ev_ne _ _ (by decide)).trans ((ev_ne _ _ (by decide)).trans ((ev_ne _ _ (by decide)).trans ((ev_ne _ _ (by decide)).trans e0)))))) hs0 ?_
  show wpAnyG _ _ _ _ _ _ _ _ ((((((A.put (some 69) (.pointer (some ⟨q, 0, none⟩))).put (some 70) (.pointer (some ⟨q, 0, none⟩))).put (some 71) (.pointer (some ⟨q, 0, none⟩))).put (some 72) (.pointer (some ⟨q, 3, none⟩))).put (some 73) (.slice (some ⟨g, 0, none⟩) N cap)).put (some 74) (.pointer (some ⟨q, 0, none⟩))) _
  refine wpAnyG_take (i := 6) (v := .pointer (some ⟨q, 0, none⟩)) rfl (by kernel_rfl) (by kernel_rfl) (by kernel_rfl) (fun _ _ _ h => nomatch h.1) (yg_nil (by simp [Region.wanted]) (.tmp 74) rfl (ev_eq _ _ (by simp [put_sz, sz]))) hs0 ?_
  show wpAnyG _ _ _ _ _ _ _ _ (((((((A.put (some 69) (.pointer (some ⟨q, 0, none⟩))).put (some 70) (.pointer (some ⟨q, 0, none⟩))).put (some 71) (.pointer (some ⟨q, 0, none⟩))).put (some 72) (.pointer (some ⟨q, 3, none⟩))).put (some 73) (.slice (some ⟨g, 0, none⟩) N cap)).put (some 74) (.pointer (some ⟨q, 0, none⟩))).put (some 75) (.pointer (some ⟨q, 0, none⟩))) _
  refine wpAnyG_take (i := 7) (v := .pointer (some ⟨q, 3, none⟩)) rfl (by kernel_rfl) (by kernel_rfl) (by kernel_rfl) (fun _ _ _ h => nomatch h.1) (yg_fld (by simp [Region.wanted]) (.tmp 75) rfl (ev_eq _ _ (by simp [put_sz, sz])) (fun w => by simp [go_sem])) hs0 ?_
  show wpAnyG _ _ _ _ _ _ _ _ ((((((((A.put (some 69) (.pointer (some ⟨q, 0, none⟩))).put (some 70) (.pointer (some ⟨q, 0, none⟩))).put (some 71) (.pointer (some ⟨q, 0, none⟩))).put (some 72) (.pointer (some ⟨q, 3, none⟩))).put (some 73) (.slice (some ⟨g, 0, none⟩) N cap)).put (some 74) (.pointer (some ⟨q, 0, none⟩))).put (some 75) (.pointer (some ⟨q, 0, none⟩))).put (some 76) (.pointer (some ⟨q, 3, none⟩))) _
  refine wpAnyG_take (i := 8) (v := .slice (some ⟨g, 0, none⟩) N cap) rfl (by kernel_rfl) (by kernel_rfl) (by kernel_rfl) (fun _ _ _ h => nomatch h.1) (yg_ld (by simp [Region.wanted]) (.tmp 76) rfl (ev_eq _ _ (by simp [put_sz, sz])) (fun w hw => by have h1 := hw.1; simp [go_sem, h1])) hs0 ?_
  show wpAnyG _ _ _ _ _ _ _ _ (((((((((A.put (some 69) (.pointer (some ⟨q, 0, none⟩))).put (some 70) (.pointer (some ⟨q, 0, none⟩))).put (some 71) (.pointer (some ⟨q, 0, none⟩))).put (some 72) (.pointer (some ⟨q, 3, none⟩))).put (some 73) (.slice (some ⟨g, 0, none⟩) N cap)).put (some 74) (.pointer (some ⟨q, 0, none⟩))).put (some 75) (.pointer (some ⟨q, 0, none⟩))).put (some 76) (.pointer (some ⟨q, 3, none⟩))).put (some 77) (.slice (some ⟨g, 0, none⟩) N cap)) _
  obtain ⟨Az1, hAz1⟩ : ∃ Az1, Az1 = (((((((((A.put (some 69) (.pointer (some ⟨q, 0, none⟩))).put (some 70) (.pointer (some ⟨q, 0, none⟩))).put (some 71) (.pointer (some ⟨q, 0, none⟩))).put (some 72) (.pointer (some ⟨q, 3, none⟩))).put (some 73) (.slice (some ⟨g, 0, none⟩) N cap)).put (some 74) (.pointer (some ⟨q, 0, none⟩))).put (some 75) (.pointer (some ⟨q, 0, none⟩))).put (some 76) (.pointer (some ⟨q, 3, none⟩))).put (some 77) (.slice (some ⟨g, 0, none⟩) N cap)) := ⟨_, rfl⟩
  have szAz1 : Az1.tmps.size = 84 := by rw [hAz1]; simp [put_sz, sz]
  have eAz14 : Az1.eval (.tmp 4) = .int .i64 (k : Int) := by rw [hAz1]; exact ((ev_ne _ _ (by decide)).trans ((ev_ne _ _ (by decide)).trans ((ev_ne _ _ (by decide)).trans ((ev_ne _ _ (by decide)).trans ((ev_ne _ _ (by decide)).trans ((ev_ne _ _ (by decide)).trans ((ev_ne _ _ (by decide)).trans ((ev_ne _ _ (by decide)).trans ((ev_ne _ _ (by decide)).trans e4)))))))))
  have eAz169 : Az1.eval (.tmp 69) = .pointer (some ⟨q, 0, none⟩) := by rw [hAz1]; exact ((ev_ne _ _ (by decide)).trans ((ev_ne _ _ (by decide)).trans ((ev_ne _ _ (by decide)).trans ((ev_ne _ _ (by decide)).trans ((ev_ne _ _ (by decide)).trans ((ev_ne _ _ (by decide)).trans ((ev_ne _ _ (by decide)).trans ((ev_ne _ _ (by decide)).trans (ev_eq _ _ (by simp [sz]))))))))))
  have eAz173 : Az1.eval (.tmp 73) = .slice (some ⟨g, 0, none⟩) N cap := by rw [hAz1]; exact ((ev_ne _ _ (by decide)).trans ((ev_ne _ _ (by decide)).trans ((ev_ne _ _ (by decide)).trans ((ev_ne _ _ (by decide)).trans (ev_eq _ _ (by simp [put_sz, sz]))))))
  have eAz177 : Az1.eval (.tmp 77) = .slice (some ⟨g, 0, none⟩) N cap := by rw [hAz1]; exact (ev_eq _ _ (by simp [put_sz, sz]))
  rw [← hAz1]
  refine wpAnyG_take (i := 9) (v := .int .i64 (k : Int)) rfl (by kernel_rfl) (by kernel_rfl) (by kernel_rfl) (fun _ _ _ h => nomatch h.1) (yg_mv (by simp [Region.wanted]) (.tmp 4) rfl eAz14) hs0 ?_
  show wpAnyG _ _ _ _ _ _ _ _ (Az1.put (some 78) (.int .i64 (k : Int))) _
  refine wpAnyG_take (i := 10) (v := .pointer (some ⟨g, k, none⟩)) rfl (by kernel_rfl) (by kernel_rfl) (by kernel_rfl) (fun _ _ _ h => nomatch h.1) (yg_ix (by simp [Region.wanted]) (.tmp 77) (.tmp 78) rfl ((ev_ne _ _ (by decide)).trans eAz177) (ev_eq _ _ (by simp [szAz1])) (fun w => by simp [go_sem, hk1, hk2])) hs0 ?_
  show wpAnyG _ _ _ _ _ _ _ _ ((Az1.put (some 78) (.int .i64 (k : Int))).put (some 79) (.pointer (some ⟨g, k, none⟩))) _
  refine wpAnyG_take (i := 11) (v := .int .i64 (x : Int)) rfl (by kernel_rfl) (by kernel_rfl) (by kernel_rfl) (fun _ _ _ h => nomatch h.1) (yg_ld (by simp [Region.wanted]) (.tmp 79) rfl (ev_eq _ _ (by simp [put_sz, szAz1])) (fun w hw => by have h1 := hw.2; simp [go_sem, h1])) hs0 ?_
  show wpAnyG _ _ _ _ _ _ _ _ (((Az1.put (some 78) (.int .i64 (k : Int))).put (some 79) (.pointer (some ⟨g, k, none⟩))).put (some 80) (.int .i64 (x : Int))) _
  refine wpAnyG_all (rs := [12]) (by kernel_rfl) (by simp) fun i1 hm1 => ?_
  obtain rfl : i1 = 12 := by simpa using hm1
  refine wpOp_own rfl rfl fun K1 hK1 => ?_
  refine wp_calls2 151 hf_without (.tmp 73) (.tmp 80) _ rfl (.slice (some ⟨g, 0, none⟩) N cap) (.int .i64 (x : Int)) ((ev_ne _ _ (by decide)).trans ((ev_ne _ _ (by decide)).trans ((ev_ne _ _ (by decide)).trans eAz173))) (ev_eq _ _ (by simp [put_sz, szAz1])) ?_
  refine (hwo).mono ?_
  rintro _ V1 ⟨v1, rfl, hr1, hb1⟩
  obtain ⟨a1, k1, hv1⟩ := own_slc hr1
  obtain ⟨M1, hM1⟩ : ∃ M1, M1 = (r.ord.filter (fun y => y != x)).length := ⟨_, rfl⟩
  rw [← hM1] at hv1 hr1
  subst hv1
  have H1 := H.below hb1
  have hs1 : V1.cell? ⟨q, 3, none⟩ = some (.slice (some ⟨g, 0, none⟩) N cap) ∧ V1.cell? ⟨g, k, none⟩ = some (.int .i64 (x : Int)) := ⟨by rw [H1.c3, hcv], (hb1.cell (World.block_lt_of_cell? _ _ hx)).trans hx⟩
  refine ⟨_, rfl, hK1 _ _ ⟨.inr hs1, ?_⟩⟩
  clear hK1 K1 hm1
  show wpAnyG _ _ _ _ _ _ _ _ ((((Az1.put (some 78) (.int .i64 (k : Int))).put (some 79) (.pointer (some ⟨g, k, none⟩))).put (some 80) (.int .i64 (x : Int))).put (some 81) (.slice a1 M1 k1)) _
  refine wpAnyG_one (i := 13) (v := .pointer (some ⟨q, 0, none⟩)) rfl (by kernel_rfl) (yg_nil (by simp [Region.wanted]) (.tmp 69) rfl ((ev_ne _ _ (by decide)).trans ((ev_ne _ _ (by decide)).trans ((ev_ne _ _ (by decide)).trans ((ev_ne _ _ (by decide)).trans eAz169))))) hs1 ?_
  show wpAnyG _ _ _ _ _ _ _ _ (((((Az1.put (some 78) (.int .i64 (k : Int))).put (some 79) (.pointer (some ⟨g, k, none⟩))).put (some 80) (.int .i64 (x : Int))).put (some 81) (.slice a1 M1 k1)).put (some 82) (.pointer (some ⟨q, 0, none⟩))) _
  refine wpAnyG_one (i := 14) (v := .pointer (some ⟨q, 3, none⟩)) rfl (by kernel_rfl) (yg_fld (by simp [Region.wanted]) (.tmp 82) rfl (ev_eq _ _ (by simp [put_sz, szAz1])) (fun w => by simp [go_sem])) hs1 ?_
  show wpAnyG _ _ _ _ _ _ _ _ ((((((Az1.put (some 78) (.int .i64 (k : Int))).put (some 79) (.pointer (some ⟨g, k, none⟩))).put (some 80) (.int .i64 (x : Int))).put (some 81) (.slice a1 M1 k1)).put (some 82) (.pointer (some ⟨q, 0, none⟩))).put (some 83) (.pointer (some ⟨q, 3, none⟩))) _
  obtain ⟨Az2, hAz2⟩ : ∃ Az2, Az2 = ((((((Az1.put (some 78) (.int .i64 (k : Int))).put (some 79) (.pointer (some ⟨g, k, none⟩))).put (some 80) (.int .i64 (x : Int))).put (some 81) (.slice a1 M1 k1)).put (some 82) (.pointer (some ⟨q, 0, none⟩))).put (some 83) (.pointer (some ⟨q, 3, none⟩))) := ⟨_, rfl⟩
  have szAz2 : Az2.tmps.size = 84 := by rw [hAz2]; simp [put_sz, szAz1]
  have eAz281 : Az2.eval (.tmp 81) = .slice a1 M1 k1 := by rw [hAz2]; exact ((ev_ne _ _ (by decide)).trans ((ev_ne _ _ (by decide)).trans (ev_eq _ _ (by simp [put_sz, szAz1]))))
  have eAz283 : Az2.eval (.tmp 83) = .pointer (some ⟨q, 3, none⟩) := by rw [hAz2]; exact (ev_eq _ _ (by simp [put_sz, szAz1]))
  rw [← hAz2]
  refine wpAnyG_all (rs := [15]) (by kernel_rfl) (by simp) fun i2 hm2 => ?_
  obtain rfl : i2 = 15 := by simpa using hm2
  refine wpOp_own rfl rfl fun K2 hK2 => ?_
  refine wp_storeI (.tmp 83) (.tmp 81) rfl q 3 a1 M1 k1 (.slice (some ⟨g, 0, none⟩) N cap) eAz283 eAz281 hs1.1 (H1.z 3) ?_
  refine hK2 _ _ ⟨.inl rfl, wpAnyG_done (by kernel_rfl) ⟨rfl, a1, k1, M1, V1, ?_, hM1, hr1, hb1, rfl⟩ _⟩
  show Az2 = _
  rw [hAz2, hAz1]
set_option maxHeartbeats 8000000 in
theorem ruse_any {w : World} {B q : Nat} {m : RM} {r : RS} (h : RPm w B q m r) (n : Nat) (ho : r.ord.length ≤ 100) (hp : r.pins.length ≤ 100) (hhi : r.hi ≤ 4611686018427387904) (hmi : r.mi ≤ 4611686018427387904) :
    Calls Tryz.prog 150 #[.pointer (some ⟨q, 0, none⟩), .int .i64 (n : Int)] w fun e w' => e = .returned (.tuple #[]) ∧ RPo w B q m r (useR r n) w' := by
  obtain ⟨ca, ck, hcv, hnum⟩ := numsRow h.crow
  have c3 := h.c3
  rw [hcv] at c3
  have Hha := hid (rhas_any w ca r.ord ck hnum (by omega) (n : Int))
  have H := hid h
  have hde : decide (∃ y ∈ r.ord, (y : Int) = (n : Int)) = decide (n ∈ r.ord) := by
    apply decide_eq_decide.2
    constructor
    · rintro ⟨y, hy, e⟩; have e2 : y = n := (by omega); rw [← e2]; exact hy
    · exact fun hy => ⟨n, hy, rfl⟩
  rw [hde] at Hha
  clear h hcv hnum hde
  go_enter Tryz.func150, Tryz.ntmps150
  go_wp2_with (fail)
  refine Hha.out.mono ?_
  rintro e u ⟨rfl, hu⟩
  subst u
  clear Hha c3
  by_cases hin : n ∈ r.ord
  · rw [decide_eq_true hin]
    · have cc := H.out.c5
      have zz := H.out.z 5
      obtain ⟨w1, hw1⟩ : ∃ w1, w1 = w.setCell ⟨q, 5, none⟩ (.int .i64 ((r.hi : Int) + 1)) := ⟨_, rfl⟩
      have H1 : Hid (RPm w1 B q m { r with hi := r.hi + 1 }) := by
        have e9 : ((r.hi + 1 : Nat) : Int) = (r.hi : Int) + 1 := by omega
        have h9 := H.out.setH (r.hi + 1)
        rw [e9, ← hw1] at h9
        exact h9
      have O1 := hid (setC_out w q 5 (.int .i64 ((r.hi : Int) + 1)))
      have Z1 := hid (setC_size w q 5 (.int .i64 ((r.hi : Int) + 1)))
      rw [← hw1] at O1 Z1
      obtain ⟨r1, hr1⟩ : ∃ r1 : RS, r1 = { r with hi := r.hi + 1 } := ⟨_, rfl⟩
      have Hr1 := hid hr1
      rw [← hr1] at H1
      have hord1 : r1.ord = r.ord := by rw [hr1]
      have Hu : Hid (useR r n = { r1 with ord := rEv r1.mo r1.pins (rPush r1.ord n) }) := by
        show _ = _
        unfold useR
        rw [if_pos hin, if_pos hin, hr1]
      obtain ⟨ca1, ck1, hcv1, hnum1⟩ := numsRow H1.out.crow
      have c31 := H1.out.c3
      rw [hcv1, hord1] at c31
      have Hwo := hid (rwithout_any w1 ca1 r1.ord ck1 hnum1 (by rw [hord1]; omega) n)
      have Hcv1 := hid hcv1
      have Hw1 := hid hw1
      rw [hw1] at c31
      rw [hord1] at Hwo
      rw [hw1] at Hwo
      clear hw1 hr1 hcv1 hnum1
      go_wp2_with (fail)
      refine Hwo.out.mono ?_
      rintro e w2 ⟨v2, rfl, hr2, hb2⟩
      rw [← Hw1.out] at hr2 hb2
      have HR2 := hid hr2
      have Hb2 := hid hb2
      obtain ⟨a2, k2, hv2⟩ := own_slc hr2
      subst hv2
      have hfl : (r.ord.filter (fun y => y != n)).length ≤ 100 := Nat.le_trans (List.length_filter_le _ _) ho
      clear hr2 hb2 Hwo c31 cc zz
      have H2 := hid (H1.out.below Hb2.out)
      have hsz := Hb2.out.size
      go_wp2_with (at_builtin; refine app_nat w2 rfl _ _ rfl w1.heap.size _ (r.ord.filter (fun y => y != n)) rfl (by exact HR2.out) n rfl (by omega) hsz ?_; intro g cap w3 hrow3 hg3 hk3; have hb13 : Below w1.heap.size w1 w3 := (Hb2.out.alloc Hb2.out.size _).grown hg3 (by rw [World.size_alloc]; omega) (fun j e => (HR2.out.lt j e).1); have H3 := hid (H1.out.below hb13); have Hb13 := hid hb13; have Hrow3 := hid hrow3; have c33 := H3.out.c3; have z33 := H3.out.z 3; obtain ⟨N, hNe⟩ : ∃ N, N = (r.ord.filter (fun y => y != n) ++ [n]).length := ⟨_, rfl⟩; have HNe := hid hNe; rw [← hNe] at Hrow3 ⊢; rw [Hcv1.out] at c33; clear hrow3 hg3 hk3 hb13 hNe)
      obtain ⟨w4, hw4⟩ : ∃ w4, w4 = w3.setCell ⟨q, 3, none⟩ (.slice (some ⟨g, 0, none⟩) N cap) := ⟨_, rfl⟩
      have hgl := Hrow3.out.lt g rfl
      have hfr := H1.out.isNew hgl.1
      have H4 : Hid (RPm w4 B q { m with cv := .slice (some ⟨g, 0, none⟩) N cap } { r1 with ord := rPush r.ord n }) := by
        rw [hw4]
        refine H3.out.setC (l := rPush r.ord n) ?_ (fun k e => by cases e; exact hfr)
        unfold rPush
        rw [← HNe.out]
        exact Hrow3.out.mono (by have := Z1.out; have := heap_lt H.out.obj; have := H.out.Bq; omega)
      have O4 : Hid (Out (rWr q m) w w4) := by
        rw [hw4]
        exact ((O1.out.imp (fun _ _ e => .inl e)).comp (Out.of_below (P := rWr q m) Hb13.out) (fun j hj => .inl hj)).comp ((setC_out w3 q 3 _).imp (fun _ _ e => .inl e)) (fun j hj => .inl hj)
      have A4 : Hid (∀ k, rAll q { m with cv := .slice (some ⟨g, 0, none⟩) N cap } { r1 with ord := rPush r.ord n } k → rAll q m r k ∨ w.heap.size ≤ k) := by
        have hz := Z1.out
        rintro k (e | e | e | e | e | ⟨c, hc, e⟩)
        · exact .inl (.inl e)
        · exact .inl (.inr (.inl e))
        · cases e; right; show w.heap.size ≤ g; omega
        · exact .inl (.inr (.inr (.inr (.inl e))))
        · exact .inl (.inr (.inr (.inr (.inr (.inl e)))))
        · rw [Hr1.out] at hc
          exact .inl (.inr (.inr (.inr (.inr (.inr ⟨c, hc, e⟩)))))
      rw [← hw4]
      have c43 : w4.cell? ⟨q, 3, none⟩ = some (.slice (some ⟨g, 0, none⟩) N cap) := H4.out.c3
      have c41 : w4.cell? ⟨q, 1, none⟩ = some (.int .i64 (r.mo : Int)) := by have h := H4.out.c1; rw [Hr1.out] at h; exact h
      have hN2 : N = (rPush r.ord n).length := HNe.out
      have hNb : N ≤ 101 := by rw [hN2]; unfold rPush; rw [List.length_append, List.length_singleton]; omega
      have Hw4 := hid hw4
      clear hw4 c33 z33 H2 HR2
      by_cases hle : N ≤ r.mo
      · have g1 : (N : Int) ≤ (r.mo : Int) := by omega
        have Hres : Hid (useR r n = { r1 with ord := rPush r.ord n }) := by
          show _ = _
          rw [Hu.out, hord1]
          unfold rEv
          rw [if_pos (by rw [Hr1.out]; show _ ≤ r.mo; omega)]
        go_quiet (fail)
        go_wp2_with fail
        refine bodyPost_ret (results_none rfl _ _ _) rfl ?_
        refine ⟨rfl, { m with cv := .slice (some ⟨g, 0, none⟩) N cap }, ?_, ?_, fun k hk => .inl hk, by rw [Hres.out]; exact A4.out⟩
        · rw [Hres.out]; exact H4.out.below ⟨rfl, rfl, rfl, Nat.le_refl _, fun _ _ => rfl⟩
        · exact ⟨O4.out.os, O4.out.tape, O4.out.output, O4.out.size, O4.out.block⟩
      · have g1 : ¬ (N : Int) ≤ (r.mo : Int) := by omega
        go_quiet (fail)
        go_wp2_with fail
        go_loopw [4] (fun i wr => ∃ k : Nat, k ≤ N ∧ i = .int .i64 k ∧ (∀ y ∈ (rPush r.ord n).take k, y ∈ r.pins) ∧ Below w4.heap.size w4 wr) (fun i _ => N - (intOf i).toNat)
        case atStart => exact ⟨0, Nat.zero_le _, rfl, fun y hy => by simp at hy, ⟨rfl, rfl, rfl, Nat.le_refl _, fun _ _ => rfl⟩⟩
        case round =>
          obtain ⟨k, hk, rfl, hall, hbk⟩ := hrel
          have Hall := hid hall
          have Hbk := hid hbk
          have Hk := hid (H4.out.below hbk)
          have c3k : wr.cell? ⟨q, 3, none⟩ = some (.slice (some ⟨g, 0, none⟩) N cap) := Hk.out.c3
          clear hall hbk c43 c41
          by_cases hlt : k < N
          · have hlt2 : k < (rPush r.ord n).length := by omega
            have hcx : wr.cell? ⟨g, k, none⟩ = some (.int .i64 ((rPush r.ord n)[k] : Int)) := by
              obtain ⟨a9, c9, e9, hnum9⟩ := numsRow Hk.out.crow
              cases e9
              obtain ⟨b, o, e, hc⟩ := hnum9 k hlt2
              cases e
              rw [Nat.zero_add] at hc
              exact hc
            have Htk := hid (List.take_succ_eq_append_getElem hlt2)
            have Hget : Hid ((rPush r.ord n)[k]? = some (rPush r.ord n)[k]) := List.getElem?_eq_getElem hlt2
            generalize (rPush r.ord n)[k] = x at *
            obtain ⟨pa, pk, hpv, hpn⟩ := numsRow Hk.out.prow
            have c4k : wr.cell? ⟨q, 4, none⟩ = some (.slice pa r.pins.length pk) := by
              have h := Hk.out.c4
              have h2 : m.pv = .slice pa r.pins.length pk := by rw [Hr1.out] at hpv; exact hpv
              rw [← h2]; exact h
            have hpn2 : Nums wr pa r.pins := by rw [Hr1.out] at hpn; exact hpn
            have Hpn := hid hpn2
            have Hha := hid (fun u : World => fun hu : Below wr.heap.size wr u => rhas_any u pa r.pins pk (fun i hi => by obtain ⟨b, o, e, hc⟩ := Hpn.out i hi; exact ⟨b, o, e, (hu.cell (World.block_lt_of_cell? _ _ hc)).trans hc⟩) (by omega) (x : Int))
            have g3 : (k : Int) < (N : Int) := by omega
            have g4 : (0 : Int) ≤ (k : Int) := by omega
            clear hpn hpn2 hpv
            go_wp2
            go_region_held3 (fun w9 => w9.cell? ⟨q, 4, none⟩ = some (.slice pa r.pins.length pk) ∧ w9.cell? ⟨q, 3, none⟩ = some (.slice (some ⟨g, 0, none⟩) N cap) ∧ w9.cell? ⟨g, k, none⟩ = some (.int .i64 (x : Int))) (first | exact ⟨c4k, c3k, hcx⟩)
              ((go_at_call 154; refine (Hha.out wr.drew ⟨rfl, rfl, rfl, Nat.le_refl _, fun _ _ => rfl⟩).mono ?_; rintro e u ⟨rfl, hu⟩; subst u))
            by_cases hp : x ∈ r.pins
            · have hd : decide (∃ y ∈ r.pins, (y : Int) = (x : Int)) = true := decide_eq_true ⟨x, hp, rfl⟩
              rw [hd]
              go_wp2
              go_roundw
              case rel => exact ⟨k + 1, by omega, by go_num, by rw [Htk.out]; intro z hz; rcases List.mem_append.1 hz with hz | hz; exact Hall.out z hz; rw [List.mem_singleton.1 hz]; exact hp, Hbk.out.trans ⟨rfl, rfl, rfl, Nat.le_refl _, fun _ _ => rfl⟩⟩
              case measure => simp [intOf]; omega
            · have hd : decide (∃ y ∈ r.pins, (y : Int) = (x : Int)) = false := decide_eq_false (by rintro ⟨y, hy, e⟩; exact hp (by have e2 : y = x := (by omega); rw [← e2]; exact hy))
              rw [hd]
              have Hp := hid hp
              clear hp
              go_wp2
              obtain ⟨V0, hV0⟩ : ∃ V0 : World, V0 = wr.drew.drew := ⟨_, rfl⟩
              have b10 : Below wr.heap.size wr V0 := by rw [hV0]; exact ⟨rfl, rfl, rfl, Nat.le_refl _, fun _ _ => rfl⟩
              have h0 := Hk.out.below b10
              refine wp_act _ fun A hA => ?_
              have sz : A.tmps.size = 84 := by rw [hA]; rfl
              have e0 : A.eval (.tmp 0) = .pointer (some ⟨q, 0, none⟩) := by rw [hA]; rfl
              have e4 : A.eval (.tmp 4) = .int .i64 (k : Int) := by rw [hA]; rfl
              refine wp_split _ (use_region9 (W5 := wr.drew) (x := x) sz e0 e4 hV0 h0 rfl hN2 hlt ((b10.cell (World.block_lt_of_cell? _ _ hcx)).trans hcx) (by show (rPush r.ord n).length ≤ 1000; omega)) ?_
              rintro _ V2 ⟨a1, k1, M1, V1, rfl, hM1, hrow1, hb1, rfl⟩
              rw [hA]
              simp only [Act.put, List.setIfInBounds_toArray, List.set_cons_succ, List.set_cons_zero]
              have Hres : Hid (useR r n = { r1 with ord := (rPush r.ord n).filter (fun y => y != x) }) := by
                show _ = _
                rw [Hu.out, hord1]
                have hnl : ¬ (rPush r.ord n).length ≤ r1.mo := by rw [Hr1.out]; show ¬ _ ≤ r.mo; omega
                have hfi : (rPush r.ord n).find? (fun y => decide (y ∉ r1.pins)) = some x := by
                  rw [Hr1.out]
                  have e5 : rPush r.ord n = (rPush r.ord n).take k ++ x :: (rPush r.ord n).drop (k + 1) := by
                    rw [show x :: (rPush r.ord n).drop (k + 1) = (rPush r.ord n).drop k from by
                      have h6 := Hget.out
                      rw [List.getElem?_eq_getElem hlt2] at h6
                      have h7 := List.drop_eq_getElem_cons hlt2
                      rw [h7]
                      simp at h6
                      rw [h6]]
                    exact (List.take_append_drop k _).symm
                  rw [e5, List.find?_append]
                  have e6 : ((rPush r.ord n).take k).find? (fun y => decide (y ∉ r.pins)) = none := List.find?_eq_none.2 (fun y hy => by simp [Hall.out y hy])
                  rw [e6]
                  simp [Hp.out]
                unfold rEv
                rw [if_neg hnl, hfi]
              have hz := Z1.out
              have hz4 := O4.out.size
              have hz5 := Hbk.out.size
              have hz6 := b10.size
              have h1 := h0.below hb1
              have hfin := h1.setC (l := (rPush r.ord n).filter (fun y => y != x)) (v := .slice a1 M1 k1) (by rw [← hM1]; exact hrow1.mono (by have := heap_lt h0.obj; have := h0.Bq; omega)) (fun j e => h0.isNew (hrow1.lt j e).1)
              have Hfin := hid hfin
              have Hlt1 := hid (fun j (e : (Value.slice a1 M1 k1).ownBlock = some j) => (hrow1.lt j e).1)
              have Hout : Hid (Out (rWr q m) w (V1.setCell ⟨q, 3, none⟩ (.slice a1 M1 k1))) := ((O4.out.comp (Out.of_below (P := rWr q m) Hbk.out) (fun j hj => .inl hj)).comp ((Out.of_below (P := rWr q m) b10).comp (Out.of_below (P := rWr q m) hb1) (fun j hj => .inl hj)) (fun j hj => .inl hj)).comp ((setC_out V1 q 3 _).imp (fun _ _ e => .inl e)) (fun j hj => .inl hj)
              clear hfin h1 h0 hrow1 hb1 hM1
              go_wp2
              refine bodyPost_ret (results_none rfl _ _ _) rfl ?_
              refine ⟨rfl, { m with cv := .slice a1 M1 k1 }, ?_, Hout.out, fun k hk => .inl hk, fun j hj => ?_⟩
              · rw [Hres.out]; exact Hfin.out
              · rw [Hres.out] at hj
                rcases hj with e | e | e | e | e | ⟨c, hc, e⟩
                · exact .inl (.inl e)
                · exact .inl (.inr (.inl e))
                · right; have := Hlt1.out j e; omega
                · exact .inl (.inr (.inr (.inr (.inl e))))
                · exact .inl (.inr (.inr (.inr (.inr (.inl e)))))
                · rw [Hr1.out] at hc
                  exact .inl (.inr (.inr (.inr (.inr (.inr ⟨c, hc, e⟩)))))
          · have hkl : k = N := by omega
            subst hkl
            have g3 : ¬ (k : Int) < (k : Int) := by omega
            have Hres : Hid (useR r n = { r1 with ord := rPush r.ord n }) := by
              show _ = _
              rw [Hu.out, hord1]
              have hnl : ¬ (rPush r.ord n).length ≤ r1.mo := by rw [Hr1.out]; show ¬ _ ≤ r.mo; omega
              have hfi : (rPush r.ord n).find? (fun y => decide (y ∉ r1.pins)) = none := by
                rw [Hr1.out]
                refine List.find?_eq_none.2 (fun y hy => ?_)
                have := Hall.out y (by rw [hN2, List.take_length]; exact hy)
                simp [this]
              unfold rEv
              rw [if_neg hnl, hfi]
            go_wp2
            go_end0
            refine ⟨rfl, { m with cv := .slice (some ⟨g, 0, none⟩) k cap }, ?_, O4.out.comp (Out.of_below (P := rWr q m) Hbk.out) (fun j hj => .inl hj), fun k hk => .inl hk, by rw [Hres.out]; exact A4.out⟩
            rw [Hres.out]; exact Hk.out
  · rw [decide_eq_false hin]
    · have cc := H.out.c6
      have zz := H.out.z 6
      obtain ⟨w1, hw1⟩ : ∃ w1, w1 = w.setCell ⟨q, 6, none⟩ (.int .i64 ((r.mi : Int) + 1)) := ⟨_, rfl⟩
      have H1 : Hid (RPm w1 B q m { r with mi := r.mi + 1 }) := by
        have e9 : ((r.mi + 1 : Nat) : Int) = (r.mi : Int) + 1 := by omega
        have h9 := H.out.setM (r.mi + 1)
        rw [e9, ← hw1] at h9
        exact h9
      have O1 := hid (setC_out w q 6 (.int .i64 ((r.mi : Int) + 1)))
      have Z1 := hid (setC_size w q 6 (.int .i64 ((r.mi : Int) + 1)))
      rw [← hw1] at O1 Z1
      obtain ⟨r1, hr1⟩ : ∃ r1 : RS, r1 = { r with mi := r.mi + 1 } := ⟨_, rfl⟩
      have Hr1 := hid hr1
      rw [← hr1] at H1
      have hord1 : r1.ord = r.ord := by rw [hr1]
      have Hu : Hid (useR r n = { r1 with ord := rEv r1.mo r1.pins (rPush r1.ord n) }) := by
        show _ = _
        unfold useR
        rw [if_neg hin, if_neg hin, hr1]
      obtain ⟨ca1, ck1, hcv1, hnum1⟩ := numsRow H1.out.crow
      have c31 := H1.out.c3
      rw [hcv1, hord1] at c31
      have Hwo := hid (rwithout_any w1 ca1 r1.ord ck1 hnum1 (by rw [hord1]; omega) n)
      have Hcv1 := hid hcv1
      have Hw1 := hid hw1
      rw [hw1] at c31
      rw [hord1] at Hwo
      rw [hw1] at Hwo
      clear hw1 hr1 hcv1 hnum1
      go_wp2_with (fail)
      refine Hwo.out.mono ?_
      rintro e w2 ⟨v2, rfl, hr2, hb2⟩
      rw [← Hw1.out] at hr2 hb2
      have HR2 := hid hr2
      have Hb2 := hid hb2
      obtain ⟨a2, k2, hv2⟩ := own_slc hr2
      subst hv2
      have hfl : (r.ord.filter (fun y => y != n)).length ≤ 100 := Nat.le_trans (List.length_filter_le _ _) ho
      clear hr2 hb2 Hwo c31 cc zz
      have H2 := hid (H1.out.below Hb2.out)
      have hsz := Hb2.out.size
      go_wp2_with (at_builtin; refine app_nat w2 rfl _ _ rfl w1.heap.size _ (r.ord.filter (fun y => y != n)) rfl (by exact HR2.out) n rfl (by omega) hsz ?_; intro g cap w3 hrow3 hg3 hk3; have hb13 : Below w1.heap.size w1 w3 := (Hb2.out.alloc Hb2.out.size _).grown hg3 (by rw [World.size_alloc]; omega) (fun j e => (HR2.out.lt j e).1); have H3 := hid (H1.out.below hb13); have Hb13 := hid hb13; have Hrow3 := hid hrow3; have c33 := H3.out.c3; have z33 := H3.out.z 3; obtain ⟨N, hNe⟩ : ∃ N, N = (r.ord.filter (fun y => y != n) ++ [n]).length := ⟨_, rfl⟩; have HNe := hid hNe; rw [← hNe] at Hrow3 ⊢; rw [Hcv1.out] at c33; clear hrow3 hg3 hk3 hb13 hNe)
      obtain ⟨w4, hw4⟩ : ∃ w4, w4 = w3.setCell ⟨q, 3, none⟩ (.slice (some ⟨g, 0, none⟩) N cap) := ⟨_, rfl⟩
      have hgl := Hrow3.out.lt g rfl
      have hfr := H1.out.isNew hgl.1
      have H4 : Hid (RPm w4 B q { m with cv := .slice (some ⟨g, 0, none⟩) N cap } { r1 with ord := rPush r.ord n }) := by
        rw [hw4]
        refine H3.out.setC (l := rPush r.ord n) ?_ (fun k e => by cases e; exact hfr)
        unfold rPush
        rw [← HNe.out]
        exact Hrow3.out.mono (by have := Z1.out; have := heap_lt H.out.obj; have := H.out.Bq; omega)
      have O4 : Hid (Out (rWr q m) w w4) := by
        rw [hw4]
        exact ((O1.out.imp (fun _ _ e => .inl e)).comp (Out.of_below (P := rWr q m) Hb13.out) (fun j hj => .inl hj)).comp ((setC_out w3 q 3 _).imp (fun _ _ e => .inl e)) (fun j hj => .inl hj)
      have A4 : Hid (∀ k, rAll q { m with cv := .slice (some ⟨g, 0, none⟩) N cap } { r1 with ord := rPush r.ord n } k → rAll q m r k ∨ w.heap.size ≤ k) := by
        have hz := Z1.out
        rintro k (e | e | e | e | e | ⟨c, hc, e⟩)
        · exact .inl (.inl e)
        · exact .inl (.inr (.inl e))
        · cases e; right; show w.heap.size ≤ g; omega
        · exact .inl (.inr (.inr (.inr (.inl e))))
        · exact .inl (.inr (.inr (.inr (.inr (.inl e)))))
        · rw [Hr1.out] at hc
          exact .inl (.inr (.inr (.inr (.inr (.inr ⟨c, hc, e⟩)))))
      rw [← hw4]
      have c43 : w4.cell? ⟨q, 3, none⟩ = some (.slice (some ⟨g, 0, none⟩) N cap) := H4.out.c3
      have c41 : w4.cell? ⟨q, 1, none⟩ = some (.int .i64 (r.mo : Int)) := by have h := H4.out.c1; rw [Hr1.out] at h; exact h
      have hN2 : N = (rPush r.ord n).length := HNe.out
      have hNb : N ≤ 101 := by rw [hN2]; unfold rPush; rw [List.length_append, List.length_singleton]; omega
      have Hw4 := hid hw4
      clear hw4 c33 z33 H2 HR2
      by_cases hle : N ≤ r.mo
      · have g1 : (N : Int) ≤ (r.mo : Int) := by omega
        have Hres : Hid (useR r n = { r1 with ord := rPush r.ord n }) := by
          show _ = _
          rw [Hu.out, hord1]
          unfold rEv
          rw [if_pos (by rw [Hr1.out]; show _ ≤ r.mo; omega)]
        go_quiet (fail)
        go_wp2_with fail
        refine bodyPost_ret (results_none rfl _ _ _) rfl ?_
        refine ⟨rfl, { m with cv := .slice (some ⟨g, 0, none⟩) N cap }, ?_, ?_, fun k hk => .inl hk, by rw [Hres.out]; exact A4.out⟩
        · rw [Hres.out]; exact H4.out.below ⟨rfl, rfl, rfl, Nat.le_refl _, fun _ _ => rfl⟩
        · exact ⟨O4.out.os, O4.out.tape, O4.out.output, O4.out.size, O4.out.block⟩
      · have g1 : ¬ (N : Int) ≤ (r.mo : Int) := by omega
        go_quiet (fail)
        go_wp2_with fail
        go_loopw [4] (fun i wr => ∃ k : Nat, k ≤ N ∧ i = .int .i64 k ∧ (∀ y ∈ (rPush r.ord n).take k, y ∈ r.pins) ∧ Below w4.heap.size w4 wr) (fun i _ => N - (intOf i).toNat)
        case atStart => exact ⟨0, Nat.zero_le _, rfl, fun y hy => by simp at hy, ⟨rfl, rfl, rfl, Nat.le_refl _, fun _ _ => rfl⟩⟩
        case round =>
          obtain ⟨k, hk, rfl, hall, hbk⟩ := hrel
          have Hall := hid hall
          have Hbk := hid hbk
          have Hk := hid (H4.out.below hbk)
          have c3k : wr.cell? ⟨q, 3, none⟩ = some (.slice (some ⟨g, 0, none⟩) N cap) := Hk.out.c3
          clear hall hbk c43 c41
          by_cases hlt : k < N
          · have hlt2 : k < (rPush r.ord n).length := by omega
            have hcx : wr.cell? ⟨g, k, none⟩ = some (.int .i64 ((rPush r.ord n)[k] : Int)) := by
              obtain ⟨a9, c9, e9, hnum9⟩ := numsRow Hk.out.crow
              cases e9
              obtain ⟨b, o, e, hc⟩ := hnum9 k hlt2
              cases e
              rw [Nat.zero_add] at hc
              exact hc
            have Htk := hid (List.take_succ_eq_append_getElem hlt2)
            have Hget : Hid ((rPush r.ord n)[k]? = some (rPush r.ord n)[k]) := List.getElem?_eq_getElem hlt2
            generalize (rPush r.ord n)[k] = x at *
            obtain ⟨pa, pk, hpv, hpn⟩ := numsRow Hk.out.prow
            have c4k : wr.cell? ⟨q, 4, none⟩ = some (.slice pa r.pins.length pk) := by
              have h := Hk.out.c4
              have h2 : m.pv = .slice pa r.pins.length pk := by rw [Hr1.out] at hpv; exact hpv
              rw [← h2]; exact h
            have hpn2 : Nums wr pa r.pins := by rw [Hr1.out] at hpn; exact hpn
            have Hpn := hid hpn2
            have Hha := hid (fun u : World => fun hu : Below wr.heap.size wr u => rhas_any u pa r.pins pk (fun i hi => by obtain ⟨b, o, e, hc⟩ := Hpn.out i hi; exact ⟨b, o, e, (hu.cell (World.block_lt_of_cell? _ _ hc)).trans hc⟩) (by omega) (x : Int))
            have g3 : (k : Int) < (N : Int) := by omega
            have g4 : (0 : Int) ≤ (k : Int) := by omega
            clear hpn hpn2 hpv
            go_wp2
            go_region_held3 (fun w9 => w9.cell? ⟨q, 4, none⟩ = some (.slice pa r.pins.length pk) ∧ w9.cell? ⟨q, 3, none⟩ = some (.slice (some ⟨g, 0, none⟩) N cap) ∧ w9.cell? ⟨g, k, none⟩ = some (.int .i64 (x : Int))) (first | exact ⟨c4k, c3k, hcx⟩)
              ((go_at_call 154; refine (Hha.out wr.drew ⟨rfl, rfl, rfl, Nat.le_refl _, fun _ _ => rfl⟩).mono ?_; rintro e u ⟨rfl, hu⟩; subst u))
            by_cases hp : x ∈ r.pins
            · have hd : decide (∃ y ∈ r.pins, (y : Int) = (x : Int)) = true := decide_eq_true ⟨x, hp, rfl⟩
              rw [hd]
              go_wp2
              go_roundw
              case rel => exact ⟨k + 1, by omega, by go_num, by rw [Htk.out]; intro z hz; rcases List.mem_append.1 hz with hz | hz; exact Hall.out z hz; rw [List.mem_singleton.1 hz]; exact hp, Hbk.out.trans ⟨rfl, rfl, rfl, Nat.le_refl _, fun _ _ => rfl⟩⟩
              case measure => simp [intOf]; omega
            · have hd : decide (∃ y ∈ r.pins, (y : Int) = (x : Int)) = false := decide_eq_false (by rintro ⟨y, hy, e⟩; exact hp (by have e2 : y = x := (by omega); rw [← e2]; exact hy))
              rw [hd]
              have Hp := hid hp
              clear hp
              go_wp2
              obtain ⟨V0, hV0⟩ : ∃ V0 : World, V0 = wr.drew.drew := ⟨_, rfl⟩
              have b10 : Below wr.heap.size wr V0 := by rw [hV0]; exact ⟨rfl, rfl, rfl, Nat.le_refl _, fun _ _ => rfl⟩
              have h0 := Hk.out.below b10
              refine wp_act _ fun A hA => ?_
              have sz : A.tmps.size = 84 := by rw [hA]; rfl
              have e0 : A.eval (.tmp 0) = .pointer (some ⟨q, 0, none⟩) := by rw [hA]; rfl
              have e4 : A.eval (.tmp 4) = .int .i64 (k : Int) := by rw [hA]; rfl
              refine wp_split _ (use_region9 (W5 := wr.drew) (x := x) sz e0 e4 hV0 h0 rfl hN2 hlt ((b10.cell (World.block_lt_of_cell? _ _ hcx)).trans hcx) (by show (rPush r.ord n).length ≤ 1000; omega)) ?_
              rintro _ V2 ⟨a1, k1, M1, V1, rfl, hM1, hrow1, hb1, rfl⟩
              rw [hA]
              simp only [Act.put, List.setIfInBounds_toArray, List.set_cons_succ, List.set_cons_zero]
              have Hres : Hid (useR r n = { r1 with ord := (rPush r.ord n).filter (fun y => y != x) }) := by
                show _ = _
                rw [Hu.out, hord1]
                have hnl : ¬ (rPush r.ord n).length ≤ r1.mo := by rw [Hr1.out]; show ¬ _ ≤ r.mo; omega
                have hfi : (rPush r.ord n).find? (fun y => decide (y ∉ r1.pins)) = some x := by
                  rw [Hr1.out]
                  have e5 : rPush r.ord n = (rPush r.ord n).take k ++ x :: (rPush r.ord n).drop (k + 1) := by
                    rw [show x :: (rPush r.ord n).drop (k + 1) = (rPush r.ord n).drop k from by
                      have h6 := Hget.out
                      rw [List.getElem?_eq_getElem hlt2] at h6
                      have h7 := List.drop_eq_getElem_cons hlt2
                      rw [h7]
                      simp at h6
                      rw [h6]]
                    exact (List.take_append_drop k _).symm
                  rw [e5, List.find?_append]
                  have e6 : ((rPush r.ord n).take k).find? (fun y => decide (y ∉ r.pins)) = none := List.find?_eq_none.2 (fun y hy => by simp [Hall.out y hy])
                  rw [e6]
                  simp [Hp.out]
                unfold rEv
                rw [if_neg hnl, hfi]
              have hz := Z1.out
              have hz4 := O4.out.size
              have hz5 := Hbk.out.size
              have hz6 := b10.size
              have h1 := h0.below hb1
              have hfin := h1.setC (l := (rPush r.ord n).filter (fun y => y != x)) (v := .slice a1 M1 k1) (by rw [← hM1]; exact hrow1.mono (by have := heap_lt h0.obj; have := h0.Bq; omega)) (fun j e => h0.isNew (hrow1.lt j e).1)
              have Hfin := hid hfin
              have Hlt1 := hid (fun j (e : (Value.slice a1 M1 k1).ownBlock = some j) => (hrow1.lt j e).1)
              have Hout : Hid (Out (rWr q m) w (V1.setCell ⟨q, 3, none⟩ (.slice a1 M1 k1))) := ((O4.out.comp (Out.of_below (P := rWr q m) Hbk.out) (fun j hj => .inl hj)).comp ((Out.of_below (P := rWr q m) b10).comp (Out.of_below (P := rWr q m) hb1) (fun j hj => .inl hj)) (fun j hj => .inl hj)).comp ((setC_out V1 q 3 _).imp (fun _ _ e => .inl e)) (fun j hj => .inl hj)
              clear hfin h1 h0 hrow1 hb1 hM1
              go_wp2
              refine bodyPost_ret (results_none rfl _ _ _) rfl ?_
              refine ⟨rfl, { m with cv := .slice a1 M1 k1 }, ?_, Hout.out, fun k hk => .inl hk, fun j hj => ?_⟩
              · rw [Hres.out]; exact Hfin.out
              · rw [Hres.out] at hj
                rcases hj with e | e | e | e | e | ⟨c, hc, e⟩
                · exact .inl (.inl e)
                · exact .inl (.inr (.inl e))
                · right; have := Hlt1.out j e; omega
                · exact .inl (.inr (.inr (.inr (.inl e))))
                · exact .inl (.inr (.inr (.inr (.inr (.inl e)))))
                · rw [Hr1.out] at hc
                  exact .inl (.inr (.inr (.inr (.inr (.inr ⟨c, hc, e⟩)))))
          · have hkl : k = N := by omega
            subst hkl
            have g3 : ¬ (k : Int) < (k : Int) := by omega
            have Hres : Hid (useR r n = { r1 with ord := rPush r.ord n }) := by
              show _ = _
              rw [Hu.out, hord1]
              have hnl : ¬ (rPush r.ord n).length ≤ r1.mo := by rw [Hr1.out]; show ¬ _ ≤ r.mo; omega
              have hfi : (rPush r.ord n).find? (fun y => decide (y ∉ r1.pins)) = none := by
                rw [Hr1.out]
                refine List.find?_eq_none.2 (fun y hy => ?_)
                have := Hall.out y (by rw [hN2, List.take_length]; exact hy)
                simp [this]
              unfold rEv
              rw [if_neg hnl, hfi]
            go_wp2
            go_end0
            refine ⟨rfl, { m with cv := .slice (some ⟨g, 0, none⟩) k cap }, ?_, O4.out.comp (Out.of_below (P := rWr q m) Hbk.out) (fun j hj => .inl hj), fun k hk => .inl hk, by rw [Hres.out]; exact A4.out⟩
            rw [Hres.out]; exact Hk.out
end Go.Proofs.YthdcjepkehifoaaGreat
