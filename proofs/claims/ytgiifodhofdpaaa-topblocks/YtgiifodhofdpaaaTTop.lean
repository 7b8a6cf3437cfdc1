/- The walk of TopBlocks. -/
import Derived.Test.YtgiifodhofdpaaaBPlay
import Derived.Test.YtgiifodhofdpaaaTMath
namespace Go.Proofs.Ytgiifodhofdpaaa
open Go.RowKit
set_option linter.unusedVariables false
attribute [local go_sem ↓] makePg_fold
attribute [local go_sem] makePg_eq

theorem mk_bs (l : List ByteArray) : (bs l).map mkText = l := by
  unfold bs
  rw [List.map_map]
  exact (List.map_congr_left (fun x _ => Lib.mk_data x)).trans (List.map_id l)
/-- a page that begins with these bytes -/
def pageOf (x : List UInt8) : List UInt8 := x ++ zpage.drop x.length
theorem pageOf_length (x : List UInt8) (h : x.length ≤ 256) : (pageOf x).length = 256 := by
  unfold pageOf; rw [List.length_append, List.length_drop, zpage_length]; omega
theorem splice_page (x : List UInt8) : splice (cellsOf zpage) 0 (cellsOf x) = cellsOf (pageOf x) := by
  unfold splice pageOf
  rw [List.take_zero, List.nil_append, Nat.zero_add, cellsOf_append, cellsOf_length]
  congr 1
  unfold cellsOf
  rw [List.map_drop]
theorem page_own {w : World} {B gp : Nat} {x : List UInt8} (hh : w.heap[gp]? = some (.cells (cellsOf x).toArray 5 (0, 0))) (hB : B ≤ gp) (hl : x.length = 256) : w.ownsRow B 5 1 (.slice (some ⟨gp, 0, none⟩) 256 256) 256 (cellsOf x) := by
  refine ⟨by rw [cellsOf_length, hl], .inr ⟨gp, 256, _, rfl, hB, hh, Nat.le_refl _, by unfold maxLen; omega, by simp [cellsOf_length, hl], ?_⟩⟩
  rw [List.take_of_length_le (by simp [cellsOf_length, hl])]
theorem row_nil : rowErr [] = 0 ∧ rowRes [] = [0] := by decide +kernel
/-- undoing writes to other pages leaves a page as it is -/
theorem undo_far (ps : List (List UInt8)) (ch : List (Nat × List UInt8)) (m : Nat) (h : ∀ c ∈ ch, c.1 ≠ m) (k : Nat) : (undo ps ch k)[m]? = ps[m]? := by
  unfold undo
  have h' : ∀ c ∈ ch.drop k, c.1 ≠ m := fun c hc => h c (List.mem_of_mem_drop hc)
  generalize ch.drop k = l at h'
  induction l with
  | nil => rfl
  | cons c l ih =>
    rw [List.foldr_cons, List.getElem?_set_ne (h' c List.mem_cons_self)]
    exact ih (fun q hq => h' q (List.mem_cons_of_mem _ hq))
theorem undo_snoc_le (ps : List (List UInt8)) (ch : List (Nat × List UInt8)) (c : Nat × List UInt8) (k : Nat) (hk : k ≤ ch.length) : undo ps (ch ++ [c]) k = undo (ps.set c.1 c.2) ch k := by
  unfold undo
  rw [List.drop_append_of_le_length hk, List.foldr_append]
  rfl

set_option maxHeartbeats 6400000 in
set_option maxRecDepth 20000 in
theorem topBlocks_walk (l : List ByteArray) (a : Option Addr) (ca : Nat) {w : World} (hT : Texts w a l) (hsz : ∀ s ∈ l, s.size ≤ 140737488351232) (hll : l.length ≤ 140737488351232) (o : List UInt8) (ao : Option Addr) (co : Nat) (ho : Bytes w ao o) (hol : o.length ≤ 140737488351232) (k : Int) (hk : (Lit.int .u8 k).wf = true) :
    Calls Try.prog 11 #[.slice a l.length ca, .slice ao o.length co, .int .u8 k] w fun e w' => e = .returned (.bool true) ∧ Below w.heap.size w w' := by
  have HT := hid hT
  have Hsz := hid hsz
  have Ho := hid ho
  have hkr : 0 ≤ k ∧ k ≤ 255 := by simpa [Lit.wf, IntKind.min, IntKind.max, IntKind.signed, IntKind.bits] using hk
  obtain ⟨kn, rfl⟩ : ∃ kn : Nat, k = (kn : Int) := ⟨k.toNat, by omega⟩
  have hkn : (kn : Int) ≤ 255 := hkr.2
  clear hT hsz ho hk hkr
  go_enter Try.func11, Try.ntmps11
  go_wp2_with (fail)
  refine (new_ok 4 w (by omega) (by omega)).mono ?_
  rintro e w1 ⟨d, g, cap, rfl, hD, hB1⟩
  have HD := hid hD
  have HB1 := hid hB1
  clear hD hB1
  go_wp2_with (fail)
  refine (row_any l a ca w1 (HT.out.below HB1.out) Hsz.out hll).mono ?_
  rintro e w2 ⟨ab, cb, rfl, hBr, hB2, hcb⟩
  have HBr := hid hBr
  have HD2 := hid (HD.out.below hB2)
  have HB2 := hid (HB1.out.trans (hB2.mono HB1.out.size))
  have Hlt := hid HD.out.lts
  have hs2 := hB2.size
  have Hle := hid (rowRes_le l)
  clear hBr hB2 hcb HD HB1
  by_cases hE : rowErr l = 0
  · have hpos := rowRes_pos l hE
    have hone : l.length = 0 → (rowRes l).length = 1 := fun h => by
      rw [List.length_eq_zero_iff.1 h, row_nil.2]; rfl
    have Hrow := hid (columnsOf_row l hE [])
    rw [List.append_nil, if_pos rfl] at Hrow
    rw [hE]
    generalize rowRes l = x at *
    have HE := hid hE
    clear hE
    by_cases hl0 : l.length = 0
    · have hx1 := hone hl0
      have g1 : ((l.length : Int) == 0) = true := by rw [hl0]; rfl
      have g2 : ((x.length : Int) != 1) = false := by rw [hx1]; rfl
      clear hone hx1 hl0
      obtain ⟨b0, o0, e0, _⟩ := HBr.out 0 hpos
      subst e0
      have hle := Hle.out
      go_wp2_with (fail)
      rw [run_copy_row (P := Try.prog) _ 28 28 3 5 w2.heap.size 0 256 256 ⟨b0, o0, none⟩ x.length cb zcells 5 (cellsOf x) Try.underlying28 (by kernel_rfl) (heap_alloc_new w2 _) (by rw [cellsOf_length]; show x.length = min x.length 256; omega) (fun j v hj => by
        have hj' : j < x.length := by have := (List.getElem?_eq_some_iff.1 hj).1; simpa [cellsOf_length] using this
        obtain ⟨b1, o1, e1, hc⟩ := HBr.out j hj'
        cases e1
        rw [addr_add, ← hj, cellsOf_get x j hj']
        exact (World.cell?_alloc_some _ _ _ (by rw [hc]; rfl)).trans hc) (by rw [cellsOf_length]; show 0 + x.length ≤ (cellsOf zpage).toArray.size; simp [cellsOf_length, zpage_length]; omega) (cellsOf_one x)]
      simp only [Result.andThen]
      rw [Oper.upon_value]
      obtain ⟨w4, hw4⟩ : ∃ w4, w4 = (w2.alloc (.cells zcells 5)).setRow w2.heap.size (zcells.toList.take 0 ++ (cellsOf x ++ zcells.toList.drop (0 + (cellsOf x).length))).toArray := ⟨_, rfl⟩
      have hh : w4.heap[w2.heap.size]? = some (.cells (splice (cellsOf zpage) 0 (cellsOf x)).toArray 5 (0, 0)) := by
        rw [hw4]; exact setRow_heap _ _ _ _ _ _ (heap_alloc_new w2 _)
      have hb4 : Below w2.heap.size w2 w4 := by rw [hw4]; exact below_setRow ((Below.refl _ w2).alloc (Nat.le_refl _) _) (Nat.le_refl _) _
      rw [List.append_assoc, ← hw4]
      clear hw4
      have hpg := page_own (B := w2.heap.size) (by rw [splice_page] at hh; exact hh) (Nat.le_refl _) (pageOf_length x (by have := Hle.out; omega))
      have Hpg := hid hpg
      have HD4 := hid (HD2.out.below hb4)
      have HB4 := hid (HB2.out.trans (hb4.mono HB2.out.size))
      have hs4 := (hpg.lt w2.heap.size rfl).2
      clear hh hpg hb4 HBr HD2 HB2
      obtain ⟨H2, hH2⟩ : ∃ H2, H2 = w2.heap.size := ⟨_, rfl⟩
      rw [← hH2] at Hpg hs4 hs2 ⊢
      clear hH2
      have Hps0 := hid (show (List.replicate 4 zpage).length = 4 ∧ (List.replicate 4 zpage)[3]? = some zpage from ⟨List.length_replicate, rfl⟩)
      generalize List.replicate 4 zpage = ps0 at *
      go_wp2
      go_loopw [12] (fun i wr => ∃ (j : Nat) (v : Value) (ps : List (List UInt8)) (ch : List (Nat × List UInt8)), j ≤ 20 ∧ j ≤ o.length ∧ i = .int .i64 (j : Int) ∧ DiskAt wr w.heap.size d g cap v ps ch ∧ ps.length = 4 ∧ ps[3]? = some zpage ∧ ch.length = j ∧ (∀ c ∈ ch, c.1 ≠ 3) ∧ (∀ q, v.ownBlock = some q → q ≠ H2) ∧ wr.ownsRow H2 5 1 (.slice (some ⟨H2, 0, none⟩) 256 256) 256 (cellsOf (pageOf x)) ∧ Below w.heap.size w wr) (fun i _ => 20 - (intOf i).toNat)
      case atStart => exact ⟨0, _, _, [], by omega, by omega, rfl, HD4.out, Hps0.out.1, Hps0.out.2, rfl, (fun c hc => by cases hc), (fun q e => by cases e), Hpg.out, HB4.out⟩
      case round =>
        obtain ⟨j, v, ps, ch, hj, hjo, rfl, hD, hpl, hp3, hcl, hc3, hv, hpg, hB⟩ := hrel
        have HD := hid hD
        have Hpl := hid hpl
        have Hp3 := hid hp3
        have Hcl := hid hcl
        have Hc3 := hid hc3
        have Hv := hid hv
        have Hpg2 := hid hpg
        have HB := hid hB
        clear hD hpl hp3 hcl hc3 hv hpg hB Hpg HD4 HB4 Hps0
        by_cases hlt : j < o.length
        · by_cases hlt2 : j < 20
          · obtain ⟨bo, oo, rfl, q0⟩ := (Ho.out.below HB.out) j hlt
            generalize o[j] = b8 at *
            have hb8 : (b8.toNat : Int) < 256 := by have := b8.toNat_lt; omega
            have f0 : (0 : Int) ≤ (j : Int) := by omega
            have f1 : (j : Int) < (o.length : Int) := by omega
            have f2 : (j : Int) < 20 := by omega
            have hbo : bo < wr.heap.size := World.block_lt_of_cell? _ _ q0
            have p1 : ∀ ob, (wr.alloc ob).cell? ⟨bo, oo + j, none⟩ = some (.int .u8 (b8.toNat : Int)) := fun ob => (World.cell?_alloc_some _ _ _ (by rw [q0]; rfl)).trans q0
            have hz := zcells_own wr
            have p2 : (wr.alloc (.cells zcells 5)).cell? ⟨wr.heap.size, 0, none⟩ = some (.int .u8 0) := (hz.cellAt 0 (by omega)).trans rfl
            have p3 := hz.frozenAt 0
            have hze : zcells.setIfInBounds 0 (.int .u8 (b8.toNat : Int)) = (cellsOf (zpage.set 0 b8)).toArray := by
              rw [← cellsOf_set]
              unfold zcells
              simp
            have hxl : (zpage.set 0 b8).length = 256 := by rw [List.length_set, zpage_length]
            have Hst := hid (page_own (w := wr.alloc (.cells (cellsOf (zpage.set 0 b8)).toArray 5)) (B := wr.heap.size) (heap_alloc_new wr _) (Nat.le_refl _) hxl)
            rw [← hze] at Hst
            have Hze := hid hze
            clear hz hze
            go_wp2_with (fail)
            obtain ⟨W, hW⟩ : ∃ W, W = wr.alloc (.cells (zcells.setIfInBounds 0 (.int .u8 (b8.toNat : Int))) 5) := ⟨_, rfl⟩
            have hWb : Below wr.heap.size wr W := by rw [hW]; exact (Below.refl _ wr).alloc (Nat.le_refl _) _
            rw [← hW] at Hst ⊢
            obtain ⟨m, hm, hm3⟩ : ∃ m : Nat, (b8.toNat : Int) % 3 = (m : Int) ∧ m < 3 := ⟨((b8.toNat : Int) % 3).toNat, by omega, by omega⟩
            rw [hm]
            have hst2 := Hst.out
            rw [← hxl] at hst2
            obtain ⟨bb, cc, hve, hBy, _, _⟩ := own_form hst2 (by omega)
            have hbb : bb = wr.heap.size := by cases hve; rfl
            subst hbb
            have hDW := HD.out.below hWb
            have hdl := HD.out.lts
            have hsW := hWb.size
            have hmp : m < ps.length := by rw [Hpl.out]; omega
            refine (write_ok hDW m hmp (zpage.set 0 b8) hxl wr.heap.size 0 256 hBy ⟨by omega, by omega, fun e => by have := hdl.2.2 _ e.symm; omega⟩ (by rw [Hcl.out]; omega) (Nat.le_trans HB.out.size hsW)).mono ?_
            rintro e w5 ⟨rfl, v5, hD5, hv5, ho5⟩
            have hHlt := (Hpg2.out.lt H2 rfl).2
            have HD5 := hid hD5
            have HB5 := hid ((HB.out.trans (hWb.mono HB.out.size)).trans (ho5.below hDW _ (Nat.le_refl _) (Nat.le_trans HB.out.size hsW)))
            have Hv5 : Hid (∀ q, v5.ownBlock = some q → q ≠ H2) := fun q e => by
              rcases hv5 with h | h
              · exact Hv.out q (by rw [← h]; exact e)
              · rw [h] at e; cases e; omega
            have Hpg5 := hid (own_keep (own_below Hpg2.out hWb) fun q e => by
              have hq := own_slice e
              exact ho5.block q (by omega) (by have := Hlt.out.1; omega) (by have := Hlt.out.2.1; omega) (fun e' => by have := Hv.out q e'.symm; omega))
            have Hend := hid (show (ps.set m (zpage.set 0 b8)).length = 4 ∧ (ps.set m (zpage.set 0 b8))[3]? = some zpage ∧ (ch ++ [(m, ps[m])]).length = j + 1 ∧ ∀ c ∈ ch ++ [(m, ps[m])], c.1 ≠ 3 from ⟨by rw [List.length_set, Hpl.out], by rw [List.getElem?_set_ne (by omega)]; exact Hp3.out, by rw [List.length_append, Hcl.out]; rfl, fun c hc => by
              rcases List.mem_append.1 hc with h | h
              · exact Hc3.out c h
              · rw [List.mem_singleton.1 h]; show m ≠ 3; omega⟩)
            clear hD5 hv5 ho5 hst2 hve hBy hDW hWb hW hm Hst p1 p2 p3 q0
            go_wp2
            go_roundw
            case rel => exact ⟨j + 1, v5, _, _, by omega, by omega, by go_num, HD5.out, Hend.out.1, Hend.out.2.1, Hend.out.2.2.1, Hend.out.2.2.2, Hv5.out, Hpg5.out, HB5.out⟩
            case measure => simp [intOf]; omega
          · have f2 : ¬ (j : Int) < 20 := by omega
            have f1 : (j : Int) < (o.length : Int) := by omega
            have hat := Hcl.out
            have hct := hid (count_any HD.out)
            rw [Hcl.out] at hct
            have Hfin := hid (show (pageOf x).length = 256 from pageOf_length x (by omega))
            go_wp2_with (fail)
            refine hct.out.mono ?_
            rintro e w5 ⟨rfl, rfl⟩
            go_wp2_with (fail)
            have h3 : 3 < ps.length := by rw [Hpl.out]; omega
            have hp3e : ps[3] = zpage := by have := Hp3.out; rw [List.getElem?_eq_getElem h3] at this; exact Option.some.inj this
            have hpgo := Hpg2.out
            rw [← Hfin.out] at hpgo
            obtain ⟨bb, cc, hve, hBy, _, _⟩ := own_form hpgo (by rw [Hfin.out]; omega)
            have hbb : bb = H2 := by cases hve; rfl
            subst hbb
            have Hw := hid (write_ok HD.out 3 h3 (pageOf x) Hfin.out bb 0 256 hBy ⟨by have := Hlt.out.1; omega, by have := Hlt.out.2.1; omega, fun e => Hv.out _ e.symm rfl⟩ (by omega) HB.out.size)
            rw [hp3e] at Hw
            refine Hw.out.mono ?_
            rintro e w6 ⟨rfl, v6, hD6, hv6, ho6⟩
            have HD6 := hid hD6
            have HB6 := hid (HB.out.trans (ho6.below HD.out _ (Nat.le_refl _) HB.out.size))
            clear hD6 hv6 ho6 Hw hpgo hve hBy hct
            have hct6 := hid (count_any HD6.out)
            have hcl6 : (ch ++ [((3 : Nat), zpage)]).length = j + 1 := by rw [List.length_append, hat]; rfl
            rw [hcl6] at hct6
            go_wp2_with (fail)
            refine hct6.out.mono ?_
            rintro e w7 ⟨rfl, rfl⟩
            go_wp2_with (fail)
            obtain ⟨n, hn, hnl⟩ : ∃ n : Nat, (kn : Int) % ((j : Int) + 1 + 1) = (n : Int) ∧ n ≤ j + 1 := ⟨kn % (j + 1 + 1), by rw [Int.natCast_emod]; rfl, by have := Nat.mod_lt kn (show 0 < j + 1 + 1 by omega); omega⟩
            rw [hn]
            clear hn hct6
            refine (cut_ok HD6.out n (by rw [hcl6]; exact hnl) (by rw [hcl6]; omega) (by rw [List.length_set, Hpl.out]; omega) (by rw [List.length_set, Hpl.out]; omega)).mono ?_
            rintro e w8 ⟨dc, gc, cc8, rfl, hC, hB8⟩
            obtain ⟨y, hy⟩ : ∃ y, y = (if n ≤ j then zpage else pageOf x) := ⟨_, rfl⟩
            have hyl : y.length = 256 := by rw [hy]; split; exact zpage_length; exact Hfin.out
            have hu3 : (undo (ps.set 3 (pageOf x)) (ch ++ [((3 : Nat), zpage)]) n)[3]? = some y := by
              rw [hy]
              by_cases hnj : n ≤ j
              · rw [if_pos hnj, undo_snoc_le _ _ _ _ (by omega), undo_far _ _ 3 Hc3.out, List.set_set, List.getElem?_set_self (by omega)]
              · have : n = (ch ++ [((3 : Nat), zpage)]).length := by omega
                rw [if_neg hnj, this, undo_all, List.getElem?_set_self (by omega)]
            have hul := undo_length (ps.set 3 (pageOf x)) (ch ++ [((3 : Nat), zpage)]) n
            rw [List.length_set, Hpl.out] at hul
            generalize undo (ps.set 3 (pageOf x)) (ch ++ [((3 : Nat), zpage)]) n = P at *
            have h3P : 3 < P.length := by omega
            have hPy : P[3] = y := by rw [List.getElem?_eq_getElem h3P] at hu3; exact Option.some.inj hu3
            have HC := hid hC
            have HB8 := hid (HB6.out.trans (hB8.mono HB6.out.size))
            have Hrd := hid (read_ok HC.out 3 h3P)
            rw [hPy, hyl] at Hrd
            clear hC hB8 hu3 hul hPy HD6 HB6
            go_wp2_with (fail)
            refine Hrd.out.mono ?_
            rintro e w9 ⟨u, rfl, hu, hB9, _⟩
            have hu' := hu
            rw [← hyl] at hu'
            obtain ⟨by_, cy, rfl, hBy, _, _⟩ := own_form hu' (by omega)
            obtain ⟨a9, c9, hv9, _, hc9⟩ := bytes_of_own hu'
            have hcy : 256 ≤ cy := by rw [hyl] at hc9; cases hv9; exact hc9
            clear hv9 hc9
            rw [hyl]
            have HBy := hid hBy
            have HB9 := hid (HB8.out.trans (hB9.mono HB8.out.size))
            have Hy := hid hy
            have Hyl := hid hyl
            clear hu hu' hB9 hBy Hrd HB8 HC hy hyl
            go_wp2_with (fail)
            obtain ⟨z, hz⟩ : ∃ z, z = y.take x.length := ⟨_, rfl⟩
            have hzl : z.length = x.length := by rw [hz, List.length_take, Hyl.out]; omega
            have hBz : Bytes w9 (some ⟨by_, 0, none⟩) z := by rw [hz]; exact HBy.out.head _
            have Hcol := hid (columns_any z (some ⟨by_, 0, none⟩) cy w9 hBz (by omega) (by omega))
            rw [hzl] at Hcol
            have Hz := hid hz
            clear hz hzl hBz
            refine Hcol.out.mono ?_
            rintro e w10 ⟨a10, c10, rfl, hT10, hB10, hc10⟩
            have HT10 := hid hT10
            have HBy10 := hid (HBy.out.below hB10)
            have HB10 := hid (HB9.out.trans (hB10.mono HB9.out.size))
            clear hT10 hB10 hc10 Hcol HBy HB9
            by_cases hnj : n ≤ j
            · have hyz : y = zpage := by rw [Hy.out, if_pos hnj]
              have k0 := zpage_cell (hyz ▸ HBy10.out)
              have g5 : (n : Int) ≤ (j : Int) := by omega
              generalize (colRes z).length = lz at *
              generalize colErr z = ez at *
              clear hyz hnj
              go_wp2
              go_ret
              exact ⟨ret_bool (by simp), HB10.out⟩
            · have hyz : y = pageOf x := by rw [Hy.out, if_neg hnj]
              have hzx : z = x := by rw [Hz.out, hyz]; unfold pageOf; rw [List.take_left]
              obtain ⟨hce, hcr⟩ := colErr_some x (by omega) (bs l) Hrow.out
              rw [mk_bs] at hcr
              rw [hzx, hcr] at HT10
              rw [hzx, hce, hcr]
              have g5 : ¬ (n : Int) ≤ (j : Int) := by omega
              clear hyz hzx hce hcr hnj
              go_wp2
              go_loopw [22] (fun i wq => ∃ q : Nat, q ≤ l.length ∧ i = .int .i64 (q : Int) ∧ Below w10.heap.size w10 wq) (fun i _ => l.length - (intOf i).toNat)
              case atStart => exact ⟨0, by omega, rfl, Below.refl _ _⟩
              case round =>
                obtain ⟨q, hq, rfl, hBq⟩ := hrel
                have HBq := hid hBq
                have HBw := hid (HB10.out.trans (hBq.mono HB10.out.size))
                clear hBq
                by_cases hql : q < l.length
                · obtain ⟨b1, o1, e1, k1⟩ := (HT10.out.below HBq.out) q hql
                  obtain ⟨b2, o2, e2, k2⟩ := (HT.out.below HBw.out) q hql
                  subst e1
                  subst e2
                  have hsq := Hsz.out _ (List.getElem_mem hql)
                  generalize l[q] = s at *
                  have r0 : (0 : Int) ≤ (q : Int) := by omega
                  have r1 : (q : Int) < (l.length : Int) := by omega
                  go_wp2
                  go_quiet (fail)
                  go_wp2
                  go_roundw
                  case rel => exact ⟨q + 1, by omega, by go_num, HBq.out.trans (below_drewN _ _ _)⟩
                  case measure => simp [intOf]; omega
                · have r1 : ¬ (q : Int) < (l.length : Int) := by omega
                  go_wp2
                  go_ret
                  exact ⟨rfl, HBw.out⟩
        · have f1 : ¬ (j : Int) < (o.length : Int) := by omega
          have hat := Hcl.out
          have hct := hid (count_any HD.out)
          rw [Hcl.out] at hct
          have Hfin := hid (show (pageOf x).length = 256 from pageOf_length x (by omega))
          go_wp2_with (fail)
          refine hct.out.mono ?_
          rintro e w5 ⟨rfl, rfl⟩
          go_wp2_with (fail)
          have h3 : 3 < ps.length := by rw [Hpl.out]; omega
          have hp3e : ps[3] = zpage := by have := Hp3.out; rw [List.getElem?_eq_getElem h3] at this; exact Option.some.inj this
          have hpgo := Hpg2.out
          rw [← Hfin.out] at hpgo
          obtain ⟨bb, cc, hve, hBy, _, _⟩ := own_form hpgo (by rw [Hfin.out]; omega)
          have hbb : bb = H2 := by cases hve; rfl
          subst hbb
          have Hw := hid (write_ok HD.out 3 h3 (pageOf x) Hfin.out bb 0 256 hBy ⟨by have := Hlt.out.1; omega, by have := Hlt.out.2.1; omega, fun e => Hv.out _ e.symm rfl⟩ (by omega) HB.out.size)
          rw [hp3e] at Hw
          refine Hw.out.mono ?_
          rintro e w6 ⟨rfl, v6, hD6, hv6, ho6⟩
          have HD6 := hid hD6
          have HB6 := hid (HB.out.trans (ho6.below HD.out _ (Nat.le_refl _) HB.out.size))
          clear hD6 hv6 ho6 Hw hpgo hve hBy hct
          have hct6 := hid (count_any HD6.out)
          have hcl6 : (ch ++ [((3 : Nat), zpage)]).length = j + 1 := by rw [List.length_append, hat]; rfl
          rw [hcl6] at hct6
          go_wp2_with (fail)
          refine hct6.out.mono ?_
          rintro e w7 ⟨rfl, rfl⟩
          go_wp2_with (fail)
          obtain ⟨n, hn, hnl⟩ : ∃ n : Nat, (kn : Int) % ((j : Int) + 1 + 1) = (n : Int) ∧ n ≤ j + 1 := ⟨kn % (j + 1 + 1), by rw [Int.natCast_emod]; rfl, by have := Nat.mod_lt kn (show 0 < j + 1 + 1 by omega); omega⟩
          rw [hn]
          clear hn hct6
          refine (cut_ok HD6.out n (by rw [hcl6]; exact hnl) (by rw [hcl6]; omega) (by rw [List.length_set, Hpl.out]; omega) (by rw [List.length_set, Hpl.out]; omega)).mono ?_
          rintro e w8 ⟨dc, gc, cc8, rfl, hC, hB8⟩
          obtain ⟨y, hy⟩ : ∃ y, y = (if n ≤ j then zpage else pageOf x) := ⟨_, rfl⟩
          have hyl : y.length = 256 := by rw [hy]; split; exact zpage_length; exact Hfin.out
          have hu3 : (undo (ps.set 3 (pageOf x)) (ch ++ [((3 : Nat), zpage)]) n)[3]? = some y := by
            rw [hy]
            by_cases hnj : n ≤ j
            · rw [if_pos hnj, undo_snoc_le _ _ _ _ (by omega), undo_far _ _ 3 Hc3.out, List.set_set, List.getElem?_set_self (by omega)]
            · have : n = (ch ++ [((3 : Nat), zpage)]).length := by omega
              rw [if_neg hnj, this, undo_all, List.getElem?_set_self (by omega)]
          have hul := undo_length (ps.set 3 (pageOf x)) (ch ++ [((3 : Nat), zpage)]) n
          rw [List.length_set, Hpl.out] at hul
          generalize undo (ps.set 3 (pageOf x)) (ch ++ [((3 : Nat), zpage)]) n = P at *
          have h3P : 3 < P.length := by omega
          have hPy : P[3] = y := by rw [List.getElem?_eq_getElem h3P] at hu3; exact Option.some.inj hu3
          have HC := hid hC
          have HB8 := hid (HB6.out.trans (hB8.mono HB6.out.size))
          have Hrd := hid (read_ok HC.out 3 h3P)
          rw [hPy, hyl] at Hrd
          clear hC hB8 hu3 hul hPy HD6 HB6
          go_wp2_with (fail)
          refine Hrd.out.mono ?_
          rintro e w9 ⟨u, rfl, hu, hB9, _⟩
          have hu' := hu
          rw [← hyl] at hu'
          obtain ⟨by_, cy, rfl, hBy, _, _⟩ := own_form hu' (by omega)
          obtain ⟨a9, c9, hv9, _, hc9⟩ := bytes_of_own hu'
          have hcy : 256 ≤ cy := by rw [hyl] at hc9; cases hv9; exact hc9
          clear hv9 hc9
          rw [hyl]
          have HBy := hid hBy
          have HB9 := hid (HB8.out.trans (hB9.mono HB8.out.size))
          have Hy := hid hy
          have Hyl := hid hyl
          clear hu hu' hB9 hBy Hrd HB8 HC hy hyl
          go_wp2_with (fail)
          obtain ⟨z, hz⟩ : ∃ z, z = y.take x.length := ⟨_, rfl⟩
          have hzl : z.length = x.length := by rw [hz, List.length_take, Hyl.out]; omega
          have hBz : Bytes w9 (some ⟨by_, 0, none⟩) z := by rw [hz]; exact HBy.out.head _
          have Hcol := hid (columns_any z (some ⟨by_, 0, none⟩) cy w9 hBz (by omega) (by omega))
          rw [hzl] at Hcol
          have Hz := hid hz
          clear hz hzl hBz
          refine Hcol.out.mono ?_
          rintro e w10 ⟨a10, c10, rfl, hT10, hB10, hc10⟩
          have HT10 := hid hT10
          have HBy10 := hid (HBy.out.below hB10)
          have HB10 := hid (HB9.out.trans (hB10.mono HB9.out.size))
          clear hT10 hB10 hc10 Hcol HBy HB9
          by_cases hnj : n ≤ j
          · have hyz : y = zpage := by rw [Hy.out, if_pos hnj]
            have k0 := zpage_cell (hyz ▸ HBy10.out)
            have g5 : (n : Int) ≤ (j : Int) := by omega
            generalize (colRes z).length = lz at *
            generalize colErr z = ez at *
            clear hyz hnj
            go_wp2
            go_ret
            exact ⟨ret_bool (by simp), HB10.out⟩
          · have hyz : y = pageOf x := by rw [Hy.out, if_neg hnj]
            have hzx : z = x := by rw [Hz.out, hyz]; unfold pageOf; rw [List.take_left]
            obtain ⟨hce, hcr⟩ := colErr_some x (by omega) (bs l) Hrow.out
            rw [mk_bs] at hcr
            rw [hzx, hcr] at HT10
            rw [hzx, hce, hcr]
            have g5 : ¬ (n : Int) ≤ (j : Int) := by omega
            clear hyz hzx hce hcr hnj
            go_wp2
            go_loopw [22] (fun i wq => ∃ q : Nat, q ≤ l.length ∧ i = .int .i64 (q : Int) ∧ Below w10.heap.size w10 wq) (fun i _ => l.length - (intOf i).toNat)
            case atStart => exact ⟨0, by omega, rfl, Below.refl _ _⟩
            case round =>
              obtain ⟨q, hq, rfl, hBq⟩ := hrel
              have HBq := hid hBq
              have HBw := hid (HB10.out.trans (hBq.mono HB10.out.size))
              clear hBq
              by_cases hql : q < l.length
              · obtain ⟨b1, o1, e1, k1⟩ := (HT10.out.below HBq.out) q hql
                obtain ⟨b2, o2, e2, k2⟩ := (HT.out.below HBw.out) q hql
                subst e1
                subst e2
                have hsq := Hsz.out _ (List.getElem_mem hql)
                generalize l[q] = s at *
                have r0 : (0 : Int) ≤ (q : Int) := by omega
                have r1 : (q : Int) < (l.length : Int) := by omega
                go_wp2
                go_quiet (fail)
                go_wp2
                go_roundw
                case rel => exact ⟨q + 1, by omega, by go_num, HBq.out.trans (below_drewN _ _ _)⟩
                case measure => simp [intOf]; omega
              · have r1 : ¬ (q : Int) < (l.length : Int) := by omega
                go_wp2
                go_ret
                exact ⟨rfl, HBw.out⟩
    · have g1 : ((l.length : Int) == 0) = false := by rw [beq_eq_false_iff_ne]; omega
      have g2 : ¬ (l.length : Int) = 0 := by omega
      clear hone hl0
      obtain ⟨b0, o0, e0, _⟩ := HBr.out 0 hpos
      subst e0
      have hle := Hle.out
      go_wp2_with (fail)
      rw [run_copy_row (P := Try.prog) _ 28 28 3 5 w2.heap.size 0 256 256 ⟨b0, o0, none⟩ x.length cb zcells 5 (cellsOf x) Try.underlying28 (by kernel_rfl) (heap_alloc_new w2 _) (by rw [cellsOf_length]; show x.length = min x.length 256; omega) (fun j v hj => by
        have hj' : j < x.length := by have := (List.getElem?_eq_some_iff.1 hj).1; simpa [cellsOf_length] using this
        obtain ⟨b1, o1, e1, hc⟩ := HBr.out j hj'
        cases e1
        rw [addr_add, ← hj, cellsOf_get x j hj']
        exact (World.cell?_alloc_some _ _ _ (by rw [hc]; rfl)).trans hc) (by rw [cellsOf_length]; show 0 + x.length ≤ (cellsOf zpage).toArray.size; simp [cellsOf_length, zpage_length]; omega) (cellsOf_one x)]
      simp only [Result.andThen]
      rw [Oper.upon_value]
      obtain ⟨w4, hw4⟩ : ∃ w4, w4 = (w2.alloc (.cells zcells 5)).setRow w2.heap.size (zcells.toList.take 0 ++ (cellsOf x ++ zcells.toList.drop (0 + (cellsOf x).length))).toArray := ⟨_, rfl⟩
      have hh : w4.heap[w2.heap.size]? = some (.cells (splice (cellsOf zpage) 0 (cellsOf x)).toArray 5 (0, 0)) := by
        rw [hw4]; exact setRow_heap _ _ _ _ _ _ (heap_alloc_new w2 _)
      have hb4 : Below w2.heap.size w2 w4 := by rw [hw4]; exact below_setRow ((Below.refl _ w2).alloc (Nat.le_refl _) _) (Nat.le_refl _) _
      rw [List.append_assoc, ← hw4]
      clear hw4
      have hpg := page_own (B := w2.heap.size) (by rw [splice_page] at hh; exact hh) (Nat.le_refl _) (pageOf_length x (by have := Hle.out; omega))
      have Hpg := hid hpg
      have HD4 := hid (HD2.out.below hb4)
      have HB4 := hid (HB2.out.trans (hb4.mono HB2.out.size))
      have hs4 := (hpg.lt w2.heap.size rfl).2
      clear hh hpg hb4 HBr HD2 HB2
      obtain ⟨H2, hH2⟩ : ∃ H2, H2 = w2.heap.size := ⟨_, rfl⟩
      rw [← hH2] at Hpg hs4 hs2 ⊢
      clear hH2
      have Hps0 := hid (show (List.replicate 4 zpage).length = 4 ∧ (List.replicate 4 zpage)[3]? = some zpage from ⟨List.length_replicate, rfl⟩)
      generalize List.replicate 4 zpage = ps0 at *
      go_wp2
      go_loopw [12] (fun i wr => ∃ (j : Nat) (v : Value) (ps : List (List UInt8)) (ch : List (Nat × List UInt8)), j ≤ 20 ∧ j ≤ o.length ∧ i = .int .i64 (j : Int) ∧ DiskAt wr w.heap.size d g cap v ps ch ∧ ps.length = 4 ∧ ps[3]? = some zpage ∧ ch.length = j ∧ (∀ c ∈ ch, c.1 ≠ 3) ∧ (∀ q, v.ownBlock = some q → q ≠ H2) ∧ wr.ownsRow H2 5 1 (.slice (some ⟨H2, 0, none⟩) 256 256) 256 (cellsOf (pageOf x)) ∧ Below w.heap.size w wr) (fun i _ => 20 - (intOf i).toNat)
      case atStart => exact ⟨0, _, _, [], by omega, by omega, rfl, HD4.out, Hps0.out.1, Hps0.out.2, rfl, (fun c hc => by cases hc), (fun q e => by cases e), Hpg.out, HB4.out⟩
      case round =>
        obtain ⟨j, v, ps, ch, hj, hjo, rfl, hD, hpl, hp3, hcl, hc3, hv, hpg, hB⟩ := hrel
        have HD := hid hD
        have Hpl := hid hpl
        have Hp3 := hid hp3
        have Hcl := hid hcl
        have Hc3 := hid hc3
        have Hv := hid hv
        have Hpg2 := hid hpg
        have HB := hid hB
        clear hD hpl hp3 hcl hc3 hv hpg hB Hpg HD4 HB4 Hps0
        by_cases hlt : j < o.length
        · by_cases hlt2 : j < 20
          · obtain ⟨bo, oo, rfl, q0⟩ := (Ho.out.below HB.out) j hlt
            generalize o[j] = b8 at *
            have hb8 : (b8.toNat : Int) < 256 := by have := b8.toNat_lt; omega
            have f0 : (0 : Int) ≤ (j : Int) := by omega
            have f1 : (j : Int) < (o.length : Int) := by omega
            have f2 : (j : Int) < 20 := by omega
            have hbo : bo < wr.heap.size := World.block_lt_of_cell? _ _ q0
            have p1 : ∀ ob, (wr.alloc ob).cell? ⟨bo, oo + j, none⟩ = some (.int .u8 (b8.toNat : Int)) := fun ob => (World.cell?_alloc_some _ _ _ (by rw [q0]; rfl)).trans q0
            have hz := zcells_own wr
            have p2 : (wr.alloc (.cells zcells 5)).cell? ⟨wr.heap.size, 0, none⟩ = some (.int .u8 0) := (hz.cellAt 0 (by omega)).trans rfl
            have p3 := hz.frozenAt 0
            have hze : zcells.setIfInBounds 0 (.int .u8 (b8.toNat : Int)) = (cellsOf (zpage.set 0 b8)).toArray := by
              rw [← cellsOf_set]
              unfold zcells
              simp
            have hxl : (zpage.set 0 b8).length = 256 := by rw [List.length_set, zpage_length]
            have Hst := hid (page_own (w := wr.alloc (.cells (cellsOf (zpage.set 0 b8)).toArray 5)) (B := wr.heap.size) (heap_alloc_new wr _) (Nat.le_refl _) hxl)
            rw [← hze] at Hst
            have Hze := hid hze
            clear hz hze
            go_wp2_with (fail)
            obtain ⟨W, hW⟩ : ∃ W, W = wr.alloc (.cells (zcells.setIfInBounds 0 (.int .u8 (b8.toNat : Int))) 5) := ⟨_, rfl⟩
            have hWb : Below wr.heap.size wr W := by rw [hW]; exact (Below.refl _ wr).alloc (Nat.le_refl _) _
            rw [← hW] at Hst ⊢
            obtain ⟨m, hm, hm3⟩ : ∃ m : Nat, (b8.toNat : Int) % 3 = (m : Int) ∧ m < 3 := ⟨((b8.toNat : Int) % 3).toNat, by omega, by omega⟩
            rw [hm]
            have hst2 := Hst.out
            rw [← hxl] at hst2
            obtain ⟨bb, cc, hve, hBy, _, _⟩ := own_form hst2 (by omega)
            have hbb : bb = wr.heap.size := by cases hve; rfl
            subst hbb
            have hDW := HD.out.below hWb
            have hdl := HD.out.lts
            have hsW := hWb.size
            have hmp : m < ps.length := by rw [Hpl.out]; omega
            refine (write_ok hDW m hmp (zpage.set 0 b8) hxl wr.heap.size 0 256 hBy ⟨by omega, by omega, fun e => by have := hdl.2.2 _ e.symm; omega⟩ (by rw [Hcl.out]; omega) (Nat.le_trans HB.out.size hsW)).mono ?_
            rintro e w5 ⟨rfl, v5, hD5, hv5, ho5⟩
            have hHlt := (Hpg2.out.lt H2 rfl).2
            have HD5 := hid hD5
            have HB5 := hid ((HB.out.trans (hWb.mono HB.out.size)).trans (ho5.below hDW _ (Nat.le_refl _) (Nat.le_trans HB.out.size hsW)))
            have Hv5 : Hid (∀ q, v5.ownBlock = some q → q ≠ H2) := fun q e => by
              rcases hv5 with h | h
              · exact Hv.out q (by rw [← h]; exact e)
              · rw [h] at e; cases e; omega
            have Hpg5 := hid (own_keep (own_below Hpg2.out hWb) fun q e => by
              have hq := own_slice e
              exact ho5.block q (by omega) (by have := Hlt.out.1; omega) (by have := Hlt.out.2.1; omega) (fun e' => by have := Hv.out q e'.symm; omega))
            have Hend := hid (show (ps.set m (zpage.set 0 b8)).length = 4 ∧ (ps.set m (zpage.set 0 b8))[3]? = some zpage ∧ (ch ++ [(m, ps[m])]).length = j + 1 ∧ ∀ c ∈ ch ++ [(m, ps[m])], c.1 ≠ 3 from ⟨by rw [List.length_set, Hpl.out], by rw [List.getElem?_set_ne (by omega)]; exact Hp3.out, by rw [List.length_append, Hcl.out]; rfl, fun c hc => by
              rcases List.mem_append.1 hc with h | h
              · exact Hc3.out c h
              · rw [List.mem_singleton.1 h]; show m ≠ 3; omega⟩)
            clear hD5 hv5 ho5 hst2 hve hBy hDW hWb hW hm Hst p1 p2 p3 q0
            go_wp2
            go_roundw
            case rel => exact ⟨j + 1, v5, _, _, by omega, by omega, by go_num, HD5.out, Hend.out.1, Hend.out.2.1, Hend.out.2.2.1, Hend.out.2.2.2, Hv5.out, Hpg5.out, HB5.out⟩
            case measure => simp [intOf]; omega
          · have f2 : ¬ (j : Int) < 20 := by omega
            have f1 : (j : Int) < (o.length : Int) := by omega
            have hat := Hcl.out
            have hct := hid (count_any HD.out)
            rw [Hcl.out] at hct
            have Hfin := hid (show (pageOf x).length = 256 from pageOf_length x (by omega))
            go_wp2_with (fail)
            refine hct.out.mono ?_
            rintro e w5 ⟨rfl, rfl⟩
            go_wp2_with (fail)
            have h3 : 3 < ps.length := by rw [Hpl.out]; omega
            have hp3e : ps[3] = zpage := by have := Hp3.out; rw [List.getElem?_eq_getElem h3] at this; exact Option.some.inj this
            have hpgo := Hpg2.out
            rw [← Hfin.out] at hpgo
            obtain ⟨bb, cc, hve, hBy, _, _⟩ := own_form hpgo (by rw [Hfin.out]; omega)
            have hbb : bb = H2 := by cases hve; rfl
            subst hbb
            have Hw := hid (write_ok HD.out 3 h3 (pageOf x) Hfin.out bb 0 256 hBy ⟨by have := Hlt.out.1; omega, by have := Hlt.out.2.1; omega, fun e => Hv.out _ e.symm rfl⟩ (by omega) HB.out.size)
            rw [hp3e] at Hw
            refine Hw.out.mono ?_
            rintro e w6 ⟨rfl, v6, hD6, hv6, ho6⟩
            have HD6 := hid hD6
            have HB6 := hid (HB.out.trans (ho6.below HD.out _ (Nat.le_refl _) HB.out.size))
            clear hD6 hv6 ho6 Hw hpgo hve hBy hct
            have hct6 := hid (count_any HD6.out)
            have hcl6 : (ch ++ [((3 : Nat), zpage)]).length = j + 1 := by rw [List.length_append, hat]; rfl
            rw [hcl6] at hct6
            go_wp2_with (fail)
            refine hct6.out.mono ?_
            rintro e w7 ⟨rfl, rfl⟩
            go_wp2_with (fail)
            obtain ⟨n, hn, hnl⟩ : ∃ n : Nat, (kn : Int) % ((j : Int) + 1 + 1) = (n : Int) ∧ n ≤ j + 1 := ⟨kn % (j + 1 + 1), by rw [Int.natCast_emod]; rfl, by have := Nat.mod_lt kn (show 0 < j + 1 + 1 by omega); omega⟩
            rw [hn]
            clear hn hct6
            refine (cut_ok HD6.out n (by rw [hcl6]; exact hnl) (by rw [hcl6]; omega) (by rw [List.length_set, Hpl.out]; omega) (by rw [List.length_set, Hpl.out]; omega)).mono ?_
            rintro e w8 ⟨dc, gc, cc8, rfl, hC, hB8⟩
            obtain ⟨y, hy⟩ : ∃ y, y = (if n ≤ j then zpage else pageOf x) := ⟨_, rfl⟩
            have hyl : y.length = 256 := by rw [hy]; split; exact zpage_length; exact Hfin.out
            have hu3 : (undo (ps.set 3 (pageOf x)) (ch ++ [((3 : Nat), zpage)]) n)[3]? = some y := by
              rw [hy]
              by_cases hnj : n ≤ j
              · rw [if_pos hnj, undo_snoc_le _ _ _ _ (by omega), undo_far _ _ 3 Hc3.out, List.set_set, List.getElem?_set_self (by omega)]
              · have : n = (ch ++ [((3 : Nat), zpage)]).length := by omega
                rw [if_neg hnj, this, undo_all, List.getElem?_set_self (by omega)]
            have hul := undo_length (ps.set 3 (pageOf x)) (ch ++ [((3 : Nat), zpage)]) n
            rw [List.length_set, Hpl.out] at hul
            generalize undo (ps.set 3 (pageOf x)) (ch ++ [((3 : Nat), zpage)]) n = P at *
            have h3P : 3 < P.length := by omega
            have hPy : P[3] = y := by rw [List.getElem?_eq_getElem h3P] at hu3; exact Option.some.inj hu3
            have HC := hid hC
            have HB8 := hid (HB6.out.trans (hB8.mono HB6.out.size))
            have Hrd := hid (read_ok HC.out 3 h3P)
            rw [hPy, hyl] at Hrd
            clear hC hB8 hu3 hul hPy HD6 HB6
            go_wp2_with (fail)
            refine Hrd.out.mono ?_
            rintro e w9 ⟨u, rfl, hu, hB9, _⟩
            have hu' := hu
            rw [← hyl] at hu'
            obtain ⟨by_, cy, rfl, hBy, _, _⟩ := own_form hu' (by omega)
            obtain ⟨a9, c9, hv9, _, hc9⟩ := bytes_of_own hu'
            have hcy : 256 ≤ cy := by rw [hyl] at hc9; cases hv9; exact hc9
            clear hv9 hc9
            rw [hyl]
            have HBy := hid hBy
            have HB9 := hid (HB8.out.trans (hB9.mono HB8.out.size))
            have Hy := hid hy
            have Hyl := hid hyl
            clear hu hu' hB9 hBy Hrd HB8 HC hy hyl
            go_wp2_with (fail)
            obtain ⟨z, hz⟩ : ∃ z, z = y.take x.length := ⟨_, rfl⟩
            have hzl : z.length = x.length := by rw [hz, List.length_take, Hyl.out]; omega
            have hBz : Bytes w9 (some ⟨by_, 0, none⟩) z := by rw [hz]; exact HBy.out.head _
            have Hcol := hid (columns_any z (some ⟨by_, 0, none⟩) cy w9 hBz (by omega) (by omega))
            rw [hzl] at Hcol
            have Hz := hid hz
            clear hz hzl hBz
            refine Hcol.out.mono ?_
            rintro e w10 ⟨a10, c10, rfl, hT10, hB10, hc10⟩
            have HT10 := hid hT10
            have HBy10 := hid (HBy.out.below hB10)
            have HB10 := hid (HB9.out.trans (hB10.mono HB9.out.size))
            clear hT10 hB10 hc10 Hcol HBy HB9
            by_cases hnj : n ≤ j
            · have hyz : y = zpage := by rw [Hy.out, if_pos hnj]
              have k0 := zpage_cell (hyz ▸ HBy10.out)
              have g5 : (n : Int) ≤ (j : Int) := by omega
              generalize (colRes z).length = lz at *
              generalize colErr z = ez at *
              clear hyz hnj
              go_wp2
              go_ret
              exact ⟨ret_bool (by simp), HB10.out⟩
            · have hyz : y = pageOf x := by rw [Hy.out, if_neg hnj]
              have hzx : z = x := by rw [Hz.out, hyz]; unfold pageOf; rw [List.take_left]
              obtain ⟨hce, hcr⟩ := colErr_some x (by omega) (bs l) Hrow.out
              rw [mk_bs] at hcr
              rw [hzx, hcr] at HT10
              rw [hzx, hce, hcr]
              have g5 : ¬ (n : Int) ≤ (j : Int) := by omega
              clear hyz hzx hce hcr hnj
              go_wp2
              go_loopw [22] (fun i wq => ∃ q : Nat, q ≤ l.length ∧ i = .int .i64 (q : Int) ∧ Below w10.heap.size w10 wq) (fun i _ => l.length - (intOf i).toNat)
              case atStart => exact ⟨0, by omega, rfl, Below.refl _ _⟩
              case round =>
                obtain ⟨q, hq, rfl, hBq⟩ := hrel
                have HBq := hid hBq
                have HBw := hid (HB10.out.trans (hBq.mono HB10.out.size))
                clear hBq
                by_cases hql : q < l.length
                · obtain ⟨b1, o1, e1, k1⟩ := (HT10.out.below HBq.out) q hql
                  obtain ⟨b2, o2, e2, k2⟩ := (HT.out.below HBw.out) q hql
                  subst e1
                  subst e2
                  have hsq := Hsz.out _ (List.getElem_mem hql)
                  generalize l[q] = s at *
                  have r0 : (0 : Int) ≤ (q : Int) := by omega
                  have r1 : (q : Int) < (l.length : Int) := by omega
                  go_wp2
                  go_quiet (fail)
                  go_wp2
                  go_roundw
                  case rel => exact ⟨q + 1, by omega, by go_num, HBq.out.trans (below_drewN _ _ _)⟩
                  case measure => simp [intOf]; omega
                · have r1 : ¬ (q : Int) < (l.length : Int) := by omega
                  go_wp2
                  go_ret
                  exact ⟨rfl, HBw.out⟩
        · have f1 : ¬ (j : Int) < (o.length : Int) := by omega
          have hat := Hcl.out
          have hct := hid (count_any HD.out)
          rw [Hcl.out] at hct
          have Hfin := hid (show (pageOf x).length = 256 from pageOf_length x (by omega))
          go_wp2_with (fail)
          refine hct.out.mono ?_
          rintro e w5 ⟨rfl, rfl⟩
          go_wp2_with (fail)
          have h3 : 3 < ps.length := by rw [Hpl.out]; omega
          have hp3e : ps[3] = zpage := by have := Hp3.out; rw [List.getElem?_eq_getElem h3] at this; exact Option.some.inj this
          have hpgo := Hpg2.out
          rw [← Hfin.out] at hpgo
          obtain ⟨bb, cc, hve, hBy, _, _⟩ := own_form hpgo (by rw [Hfin.out]; omega)
          have hbb : bb = H2 := by cases hve; rfl
          subst hbb
          have Hw := hid (write_ok HD.out 3 h3 (pageOf x) Hfin.out bb 0 256 hBy ⟨by have := Hlt.out.1; omega, by have := Hlt.out.2.1; omega, fun e => Hv.out _ e.symm rfl⟩ (by omega) HB.out.size)
          rw [hp3e] at Hw
          refine Hw.out.mono ?_
          rintro e w6 ⟨rfl, v6, hD6, hv6, ho6⟩
          have HD6 := hid hD6
          have HB6 := hid (HB.out.trans (ho6.below HD.out _ (Nat.le_refl _) HB.out.size))
          clear hD6 hv6 ho6 Hw hpgo hve hBy hct
          have hct6 := hid (count_any HD6.out)
          have hcl6 : (ch ++ [((3 : Nat), zpage)]).length = j + 1 := by rw [List.length_append, hat]; rfl
          rw [hcl6] at hct6
          go_wp2_with (fail)
          refine hct6.out.mono ?_
          rintro e w7 ⟨rfl, rfl⟩
          go_wp2_with (fail)
          obtain ⟨n, hn, hnl⟩ : ∃ n : Nat, (kn : Int) % ((j : Int) + 1 + 1) = (n : Int) ∧ n ≤ j + 1 := ⟨kn % (j + 1 + 1), by rw [Int.natCast_emod]; rfl, by have := Nat.mod_lt kn (show 0 < j + 1 + 1 by omega); omega⟩
          rw [hn]
          clear hn hct6
          refine (cut_ok HD6.out n (by rw [hcl6]; exact hnl) (by rw [hcl6]; omega) (by rw [List.length_set, Hpl.out]; omega) (by rw [List.length_set, Hpl.out]; omega)).mono ?_
          rintro e w8 ⟨dc, gc, cc8, rfl, hC, hB8⟩
          obtain ⟨y, hy⟩ : ∃ y, y = (if n ≤ j then zpage else pageOf x) := ⟨_, rfl⟩
          have hyl : y.length = 256 := by rw [hy]; split; exact zpage_length; exact Hfin.out
          have hu3 : (undo (ps.set 3 (pageOf x)) (ch ++ [((3 : Nat), zpage)]) n)[3]? = some y := by
            rw [hy]
            by_cases hnj : n ≤ j
            · rw [if_pos hnj, undo_snoc_le _ _ _ _ (by omega), undo_far _ _ 3 Hc3.out, List.set_set, List.getElem?_set_self (by omega)]
            · have : n = (ch ++ [((3 : Nat), zpage)]).length := by omega
              rw [if_neg hnj, this, undo_all, List.getElem?_set_self (by omega)]
          have hul := undo_length (ps.set 3 (pageOf x)) (ch ++ [((3 : Nat), zpage)]) n
          rw [List.length_set, Hpl.out] at hul
          generalize undo (ps.set 3 (pageOf x)) (ch ++ [((3 : Nat), zpage)]) n = P at *
          have h3P : 3 < P.length := by omega
          have hPy : P[3] = y := by rw [List.getElem?_eq_getElem h3P] at hu3; exact Option.some.inj hu3
          have HC := hid hC
          have HB8 := hid (HB6.out.trans (hB8.mono HB6.out.size))
          have Hrd := hid (read_ok HC.out 3 h3P)
          rw [hPy, hyl] at Hrd
          clear hC hB8 hu3 hul hPy HD6 HB6
          go_wp2_with (fail)
          refine Hrd.out.mono ?_
          rintro e w9 ⟨u, rfl, hu, hB9, _⟩
          have hu' := hu
          rw [← hyl] at hu'
          obtain ⟨by_, cy, rfl, hBy, _, _⟩ := own_form hu' (by omega)
          obtain ⟨a9, c9, hv9, _, hc9⟩ := bytes_of_own hu'
          have hcy : 256 ≤ cy := by rw [hyl] at hc9; cases hv9; exact hc9
          clear hv9 hc9
          rw [hyl]
          have HBy := hid hBy
          have HB9 := hid (HB8.out.trans (hB9.mono HB8.out.size))
          have Hy := hid hy
          have Hyl := hid hyl
          clear hu hu' hB9 hBy Hrd HB8 HC hy hyl
          go_wp2_with (fail)
          obtain ⟨z, hz⟩ : ∃ z, z = y.take x.length := ⟨_, rfl⟩
          have hzl : z.length = x.length := by rw [hz, List.length_take, Hyl.out]; omega
          have hBz : Bytes w9 (some ⟨by_, 0, none⟩) z := by rw [hz]; exact HBy.out.head _
          have Hcol := hid (columns_any z (some ⟨by_, 0, none⟩) cy w9 hBz (by omega) (by omega))
          rw [hzl] at Hcol
          have Hz := hid hz
          clear hz hzl hBz
          refine Hcol.out.mono ?_
          rintro e w10 ⟨a10, c10, rfl, hT10, hB10, hc10⟩
          have HT10 := hid hT10
          have HBy10 := hid (HBy.out.below hB10)
          have HB10 := hid (HB9.out.trans (hB10.mono HB9.out.size))
          clear hT10 hB10 hc10 Hcol HBy HB9
          by_cases hnj : n ≤ j
          · have hyz : y = zpage := by rw [Hy.out, if_pos hnj]
            have k0 := zpage_cell (hyz ▸ HBy10.out)
            have g5 : (n : Int) ≤ (j : Int) := by omega
            generalize (colRes z).length = lz at *
            generalize colErr z = ez at *
            clear hyz hnj
            go_wp2
            go_ret
            exact ⟨ret_bool (by simp), HB10.out⟩
          · have hyz : y = pageOf x := by rw [Hy.out, if_neg hnj]
            have hzx : z = x := by rw [Hz.out, hyz]; unfold pageOf; rw [List.take_left]
            obtain ⟨hce, hcr⟩ := colErr_some x (by omega) (bs l) Hrow.out
            rw [mk_bs] at hcr
            rw [hzx, hcr] at HT10
            rw [hzx, hce, hcr]
            have g5 : ¬ (n : Int) ≤ (j : Int) := by omega
            clear hyz hzx hce hcr hnj
            go_wp2
            go_loopw [22] (fun i wq => ∃ q : Nat, q ≤ l.length ∧ i = .int .i64 (q : Int) ∧ Below w10.heap.size w10 wq) (fun i _ => l.length - (intOf i).toNat)
            case atStart => exact ⟨0, by omega, rfl, Below.refl _ _⟩
            case round =>
              obtain ⟨q, hq, rfl, hBq⟩ := hrel
              have HBq := hid hBq
              have HBw := hid (HB10.out.trans (hBq.mono HB10.out.size))
              clear hBq
              by_cases hql : q < l.length
              · obtain ⟨b1, o1, e1, k1⟩ := (HT10.out.below HBq.out) q hql
                obtain ⟨b2, o2, e2, k2⟩ := (HT.out.below HBw.out) q hql
                subst e1
                subst e2
                have hsq := Hsz.out _ (List.getElem_mem hql)
                generalize l[q] = s at *
                have r0 : (0 : Int) ≤ (q : Int) := by omega
                have r1 : (q : Int) < (l.length : Int) := by omega
                go_wp2
                go_quiet (fail)
                go_wp2
                go_roundw
                case rel => exact ⟨q + 1, by omega, by go_num, HBq.out.trans (below_drewN _ _ _)⟩
                case measure => simp [intOf]; omega
              · have r1 : ¬ (q : Int) < (l.length : Int) := by omega
                go_wp2
                go_ret
                exact ⟨rfl, HBw.out⟩
  · have hr0 : rowRes l = [] := by unfold rowRes; rw [if_neg hE]
    have hl0 : l.length ≠ 0 := fun h => hE (by rw [List.length_eq_zero_iff.1 h]; exact row_nil.1)
    rw [hr0]
    have e1 : ((rowErr l : Int) != 0) = true := by rw [bne_iff_ne]; omega
    have e2 : ¬ (rowErr l : Int) = 0 := by omega
    have e3 : ((l.length : Int) == 0) = false := by rw [beq_eq_false_iff_ne]; omega
    have e4 : ¬ (l.length : Int) = 0 := by omega
    generalize rowErr l = er at *
    clear hE hr0 hl0 HBr
    go_wp2
    go_ret
    exact ⟨ret_bool (by simp), HB2.out⟩
end Go.Proofs.Ytgiifodhofdpaaa
