/- bytes.Equal; slot, a head's block and an index block of package wal, each by a contract. -/
import Derived.Test.YthdcjepkehifoaaGreatWNum
namespace Go.Proofs.YthdcjepkehifoaaGreat
open Go.RowKit
set_option linter.unusedVariables false
set_option maxRecDepth 20000

theorem conv_bytes (w : World) (a : Option Addr) (cap : Nat) (l : List UInt8) (h : Bytes w a l) (h0 : 0 < l.length) :
    (convert 36 9 (.slice a l.length cap)).run Tryz.prog w = .ok (.string ⟨l.toArray⟩) w := by
  obtain ⟨b, o, rfl, _⟩ := h 0 h0
  refine run_convert_bytes_back (P := Tryz.prog) w 36 9 5 ⟨b, o, none⟩ cap l Tryz.underlying36 Tryz.underlying5 Tryz.underlying9 (fun j hj => ?_)
  obtain ⟨b', o', e, hc⟩ := h j hj
  cases e
  rw [addr_add]
  exact hc

theorem Bytes.head {w : World} {a : Option Addr} {x : List UInt8} (h : Bytes w a x) (n : Nat) : Bytes w a (x.take n) := fun i hi => by
  rw [List.length_take] at hi
  obtain ⟨b, o, e, hc⟩ := h i (by omega)
  exact ⟨b, o, e, by rw [hc, List.getElem_take]⟩
theorem conv_all (w : World) (a : Option Addr) (cap : Nat) (l : List UInt8) (h : Bytes w a l) :
    (convert 36 9 (.slice a l.length cap)).run Tryz.prog w = .ok (.string ⟨l.toArray⟩) w := by
  by_cases h0 : 0 < l.length
  · exact conv_bytes w a cap l h h0
  · have : l = [] := List.length_eq_zero_iff.1 (by omega)
    subst this
    cases a with
    | none =>
      rw [run_convert_bytes_string w 36 9 5 none _ cap Tryz.underlying36 Tryz.underlying5 Tryz.underlying9]
      rfl
    | some x =>
      exact run_convert_bytes_back (P := Tryz.prog) w 36 9 5 x cap [] Tryz.underlying36 Tryz.underlying5 Tryz.underlying9 (fun j hj => by simp at hj)

theorem list_eq (x y : List UInt8) : (x == y) = decide (x = y) := by rw [Bool.eq_iff_iff]; simp

set_option maxHeartbeats 400000 in
theorem equal_any (x y : List UInt8) (a b : Option Addr) (ca cb : Nat) (w : World) (hx : Bytes w a x) (hy : Bytes w b y) :
    Calls Tryz.prog 166 #[.slice a x.length ca, .slice b y.length cb] w fun e w' => e = .returned (.bool (decide (x = y))) ∧ w' = w := by
  have h1 := conv_all w a ca x hx
  have h2 := conv_all w b cb y hy
  have He := hid (list_eq x y)
  clear hx hy
  go_enter Tryz.func166, Tryz.ntmps166
  go_wp2
  go_ret
  exact ⟨ret_bool He.out, rfl⟩

set_option maxHeartbeats 400000 in
theorem slot_any (b o cap i : Nat) (w : World) (hi : i < 127) (hc : 256 ≤ cap) :
    Calls Tryz.prog 167 #[.slice (some ⟨b, o, none⟩) 256 cap, .int .i64 (i : Int)] w fun e w' => e = .returned (.slice (some ⟨b, o + 2 * (i + 1), none⟩) 2 (cap - 2 * (i + 1))) ∧ w' = w := by
  have f1 : (0 : Int) ≤ 2 * ((i : Int) + 1) := by omega
  have f2 : 2 * ((i : Int) + 1) ≤ 2 * ((i : Int) + 2) := by omega
  have f3 : 2 * ((i : Int) + 2) ≤ (cap : Int) := by omega
  go_enter Tryz.func167, Tryz.ntmps167
  have E : Hid (2 * (i + 2) - 2 * (i + 1) = 2) := by show _ = _; omega
  go_wp2
  go_ret
  refine ⟨?_, rfl⟩
  show Ending.returned (.slice (some ⟨b, o + 2 * (i + 1), none⟩) (2 * (i + 2) - 2 * (i + 1)) (cap - 2 * (i + 1))) = _
  rw [E.out]

theorem head_lay (G U : Nat) : splice (splice (((List.replicate 256 (0 : UInt8)).set 0 72).set 1 70) 2 (be 8 G)) 10 (be 2 U) = headB G U := by
  have e0 : ((List.replicate 256 (0 : UInt8)).set 0 72).set 1 70 = [72, 70] ++ (List.replicate 8 0 ++ List.replicate 246 0) := rfl
  have e1 : splice ([72, 70] ++ (List.replicate 8 0 ++ List.replicate 246 0)) 2 (be 8 G) = [72, 70] ++ (be 8 G ++ List.replicate 246 0) := splice_mid [72, 70] (List.replicate 8 0) (List.replicate 246 0) (be 8 G) (by rw [be_length, List.length_replicate])
  have e2 := splice_mid ([72, 70] ++ be 8 G) (List.replicate 2 0) (List.replicate 244 0) (be 2 U) (by rw [be_length, List.length_replicate])
  have e3 : List.replicate 246 (0 : UInt8) = List.replicate 2 0 ++ List.replicate 244 0 := by rw [List.replicate_append_replicate]
  rw [e0, e1, e3, ← List.append_assoc, show (10 : Nat) = ([(72 : UInt8), 70] ++ be 8 G).length by rw [List.length_append, be_length]; rfl, e2]
  unfold headB
  rw [List.append_assoc]

theorem zeros_get (n k : Nat) (h : k < n) : (cellsOf (List.replicate n 0))[k]? = some (.int .u8 0) := by
  rw [cellsOf_get _ k (by rw [List.length_replicate]; exact h), List.getElem_replicate]; rfl
theorem made_own {w : World} {B g n : Nat} (h : w.ownsRow B 5 1 (.slice (some ⟨g, 0, none⟩) n n) n (madeCells (Value.int .u8 0).cells (n * 1)).toList) : w.ownsRow B 5 1 (.slice (some ⟨g, 0, none⟩) n n) n (cellsOf (List.replicate n 0)) := by
  rw [← made_zeros]; exact h
theorem undrew1 {B : Nat} {w w' : World} (h : Below B w.drew w') : Below B w w' := ⟨h.os, h.tape, h.output, h.size, h.block⟩
theorem ungrown {w w' : World} {r : Option Nat} (h : w.drew.grownBy w' r) : w.grownBy w' r := ⟨h.os, h.tape, h.output, h.size, h.block⟩

theorem putPage {l : List UInt8} {B g cap : Nat} {w : World} (hl : l.length = 256) (hown : w.ownsRow B 5 1 (.slice (some ⟨g, 0, none⟩) 256 cap) 256 (cellsOf l)) (o m c x : Nat) (ho : o + m ≤ 256) (hx : x < 18446744073709551616) :
    Calls Tryz.prog 178 #[.slice (some ⟨g, o, none⟩) m c, .int .u64 (x : Int)] w fun e w' => e = .returned (.tuple #[]) ∧ w'.ownsRow B 5 1 (.slice (some ⟨g, 0, none⟩) 256 cap) 256 (cellsOf (splice l o (be m x))) ∧ w.grownBy w' (some g) := by
  have h := putNumber_any l B g cap o m c x w (by rw [hl]; exact hown) (by omega) hx
  rw [hl] at h
  exact h
theorem splice_page {l : List UInt8} (hl : l.length = 256) (o m x : Nat) (ho : o + m ≤ 256) : (splice l o (be m x)).length = 256 := by
  rw [splice_length _ _ _ (by rw [be_length]; omega), hl]

set_option maxHeartbeats 800000 in
theorem headBytes_any (G U : Nat) (w : World) (hG : G < 9223372036854775808) (hU : U < 65536) :
    Calls Tryz.prog 149 #[.agg #[.int .i64 (G : Int), .int .i64 (U : Int)]] w fun e w' => ∃ g c, e = .returned (.slice (some ⟨g, 0, none⟩) 256 c) ∧ w'.ownsRow w.heap.size 5 1 (.slice (some ⟨g, 0, none⟩) 256 c) 256 (cellsOf (headB G U)) ∧ Below w.heap.size w w' := by
  obtain ⟨i0, hi, hz0, hz1, hz2⟩ := info_parts Tryz.info5
  have eG : IntKind.u64.wrap (G : Int) = (G : Int) := by rw [IntKind.wrap_u64]; omega
  have eU : IntKind.u64.wrap (U : Int) = (U : Int) := by rw [IntKind.wrap_u64]; omega
  have hw : Hid (∀ w1 : World, (w1.alloc (.cells #[.int .i64 (G : Int), .int .i64 (U : Int)] 96)).heap[w1.heap.size]? = some (.cells #[.int .i64 (G : Int), .int .i64 (U : Int)] 96 (0, 0))) := fun w1 => heap_alloc_new w1 _
  go_enter Tryz.func149, Tryz.ntmps149
  go_wp2_with (at_make; refine wpList_make_full _ rfl _ _ 36 rfl (w.heap.size + 1) 5 i0 (.int .u8 0) 1 Tryz.underlying36 hi hz0 hz1 .i64 .i64 _ _ 256 rfl rfl (by omega) (by omega) (by rw [hz2]; omega) (by unfold maxLen; omega) (by simp) ?_; intro w0 hown0 hgrow0; have Hown0 := hid (made_own hown0); rw [World.size_alloc] at Hown0; have k0 : w0.cell? ⟨w.heap.size + 1, 0, none⟩ = some (.int .u8 0) := (Hown0.out.cellAt 0 (by omega)).trans (zeros_get 256 0 (by omega)); have k1 : w0.cell? ⟨w.heap.size + 1, 1, none⟩ = some (.int .u8 0) := (Hown0.out.cellAt 1 (by omega)).trans (zeros_get 256 1 (by omega)); have z0 := Hown0.out.frozenAt 0; have z1 := Hown0.out.frozenAt 1; have Hc0 := hid ((hgrow0.block w.heap.size (by simp) (by simp)).trans (hw.out w)); have Hb0 := hid (((Below.refl _ w).alloc (Nat.le_refl _) _).grown hgrow0 (by simp) (by simp)); clear hown0 hgrow0)
  have hl0 : (((List.replicate 256 (0 : UInt8)).set 0 72).set 1 70).length = 256 := by rw [List.length_set, List.length_set, List.length_replicate]
  have s1 := Hown0.out.stored 0 (.int .u8 72)
  have s2 := s1.1.stored 1 (.int .u8 70)
  have Ho : Hid (((w0.setCell ⟨w.heap.size + 1, 0, none⟩ (.int .u8 72)).setCell ⟨w.heap.size + 1, 1, none⟩ (.int .u8 70)).ownsRow (w.heap.size + 1) 5 1 (.slice (some ⟨w.heap.size + 1, 0, none⟩) 256 256) 256 (cellsOf (((List.replicate 256 (0 : UInt8)).set 0 72).set 1 70))) := by
    rw [← cellsOf_put, ← cellsOf_put]; exact s2.1
  have Hx := hid (((heap_setCell_other (w0.setCell ⟨w.heap.size + 1, 0, none⟩ (.int .u8 72)) ⟨w.heap.size + 1, 1, none⟩ w.heap.size (.int .u8 70) (by simp)).trans (heap_setCell_other w0 ⟨w.heap.size + 1, 0, none⟩ w.heap.size (.int .u8 72) (by simp))).trans Hc0.out)
  have Hb := hid ((Hb0.out.setCell (p := ⟨w.heap.size + 1, 0, none⟩) (by simp) (.int .u8 72)).setCell (p := ⟨w.heap.size + 1, 1, none⟩) (by simp) (.int .u8 70))
  have Hlay := hid (head_lay G U)
  clear s1 s2 k0 k1 z0 z1 Hown0 Hc0 Hb0 hw
  generalize ((List.replicate 256 (0 : UInt8)).set 0 72).set 1 70 = l0 at *
  generalize (w0.setCell ⟨w.heap.size + 1, 0, none⟩ (.int .u8 72)).setCell ⟨w.heap.size + 1, 1, none⟩ (.int .u8 70) = W at *
  have hl1 := splice_page hl0 2 8 G (by omega)
  have Hl0 := hid hl0
  have Hl1 := hid hl1
  clear hl0 hl1
  have c0 := cell_of_row _ _ 0 _ _ _ Hx.out
  go_region_held3 (fun w9 => w9.cell? ⟨w.heap.size, 0, none⟩ = some (.int .i64 (G : Int))) (first | exact c0 | exact q.out)
    (first | ((go_at_call 178; refine (putPage (cap := 256) Hl0.out Ho.out.drew 2 8 _ G (by omega) (by omega)).mono ?_; rintro e w2 ⟨rfl, ho2, hg2'⟩; have hg2 := ungrown hg2'; have Hx2 := hid ((hg2.block w.heap.size (by have := Hb.out.size; exact (Array.getElem?_eq_some_iff.1 Hx.out).1) (by simp)).trans Hx.out); have q := hid (cell_of_row _ _ 0 _ _ _ Hx2.out); have Ho2 := hid ho2; have Hb2 := hid (Hb.out.grown hg2 Hb.out.size (by simp)); clear ho2 hg2 hg2')))
  clear c0 q
  go_wp2
  have c0 := cell_of_row _ _ 1 _ _ _ Hx2.out
  go_region_held3 (fun w9 => w9.cell? ⟨w.heap.size, 1, none⟩ = some (.int .i64 (U : Int))) (first | exact c0 | exact q.out)
    (first | ((go_at_call 178; refine (putPage (cap := 256) Hl1.out Ho2.out.drew 10 2 _ U (by omega) (by omega)).mono ?_; rintro e w3 ⟨rfl, ho3, hg3'⟩; have hg3 := ungrown hg3'; have q := hid (cell_of_row _ _ 1 _ _ _ ((hg3.block w.heap.size (Array.getElem?_eq_some_iff.1 Hx2.out).1 (by simp)).trans Hx2.out)); have Ho3 := hid ho3; have Hb3 := hid (Hb2.out.grown hg3 Hb2.out.size (by simp)); clear ho3 hg3 hg3')))
  clear c0 q
  go_wp2
  go_ret
  exact ⟨_, _, rfl, by rw [← Hlay.out]; exact Ho3.out.mono (by omega), Hb3.out⟩

/-- numbers that lie in a row of the world -/
def Nums (w : World) (a : Option Addr) (l : List Nat) : Prop := ∀ i (h : i < l.length), ∃ b o, a = some ⟨b, o, none⟩ ∧ w.cell? ⟨b, o + i, none⟩ = some (.int .i64 (l[i] : Int))
theorem Nums.below {w w' : World} {a : Option Addr} {l : List Nat} (h : Nums w a l) (hb : Below w.heap.size w w') : Nums w' a l := fun i hi => by
  obtain ⟨b, o, ha, hc⟩ := h i hi
  exact ⟨b, o, ha, (hb.cell (World.block_lt_of_cell? _ _ hc)).trans hc⟩

set_option maxHeartbeats 800000 in
theorem indexBytes_any (ns : List Nat) (a : Option Addr) (c : Nat) (w : World) (hns : Nums w a ns) (hl : ns.length ≤ 100) (hlt : ∀ n ∈ ns, n < 65536) :
    Calls Tryz.prog 146 #[.slice a ns.length c] w fun e w' => ∃ g c, e = .returned (.slice (some ⟨g, 0, none⟩) 256 c) ∧ w'.ownsRow w.heap.size 5 1 (.slice (some ⟨g, 0, none⟩) 256 c) 256 (cellsOf (indexB ns)) ∧ Below w.heap.size w w' := by
  obtain ⟨i0, hi, hz0, hz1, hz2⟩ := info_parts Tryz.info5
  have eL : IntKind.u64.wrap (ns.length : Int) = (ns.length : Int) := by rw [IntKind.wrap_u64]; omega
  have Hns := hid hns
  have Hlt := hid hlt
  clear hns hlt
  have hl0 : (List.replicate 256 (0 : UInt8)).length = 256 := List.length_replicate
  have Hl0 := hid hl0
  have Hix := hid (ixB_nil ns.length)
  clear hl0
  go_enter Tryz.func146, Tryz.ntmps146
  go_wp2_with (first | (at_make; refine wpList_make_full _ rfl _ _ 36 rfl w.heap.size 5 i0 (.int .u8 0) 1 Tryz.underlying36 hi hz0 hz1 .i64 .i64 _ _ 256 rfl rfl (by omega) (by omega) (by rw [hz2]; omega) (by unfold maxLen; omega) (by simp) ?_; intro w0 hown0 hgrow0; have Hown0 := hid (made_own hown0); have Hb0 := hid ((Below.refl _ w).grown hgrow0 (Nat.le_refl _) (by simp)); clear hown0 hgrow0) | (go_at_call 178; refine (putPage (cap := 256) Hl0.out Hown0.out 0 2 _ ns.length (by omega) (by omega)).mono ?_; rintro e w2 ⟨rfl, ho2, hg2⟩; rw [Hix.out] at ho2; have Ho2 := hid ho2; have Hb2 := hid (Hb0.out.grown hg2 Hb0.out.size (by simp)); clear ho2 hg2))
  go_loopw [15] (fun i wr => ∃ k : Nat, k ≤ ns.length ∧ i = .int .i64 k ∧ wr.ownsRow w.heap.size 5 1 (.slice (some ⟨w.heap.size, 0, none⟩) 256 256) 256 (cellsOf (ixB ns.length (ns.take k))) ∧ Below w.heap.size w wr) (fun i _ => ns.length - (intOf i).toNat)
  case atStart => exact ⟨0, Nat.zero_le _, rfl, Ho2.out, Hb2.out⟩
  case round =>
    obtain ⟨k, hk, rfl, hown, hbel⟩ := hrel
    have Hown := hid hown
    have Hbel := hid hbel
    clear hown hbel Ho2 Hb2 Hown0 Hb0
    by_cases hlt : k < ns.length
    · obtain ⟨b, o, ha, hc⟩ := (Hns.out.below Hbel.out) k hlt
      subst ha
      have hn := Hlt.out _ (List.getElem_mem hlt)
      have HX : Hid (ns.take (k + 1) = ns.take k ++ [ns[k]]) := List.take_succ_eq_append_getElem hlt
      have Htl : Hid ((ns.take k).length = k) := by show _ = _; rw [List.length_take]; omega
      have HL := hid (ixB_length ns.length (ns.take k) (by rw [Htl.out]; omega))
      have HS := hid (ixB_snoc ns.length (ns.take k) ns[k] (by rw [Htl.out]; omega))
      rw [Htl.out] at HS
      rw [← HX.out] at HS
      generalize ns[k] = n at *
      have eN : IntKind.u64.wrap (n : Int) = (n : Int) := by rw [IntKind.wrap_u64]; omega
      have Hs := hid (slot_any w.heap.size 0 256 k wr (by omega) (by omega))
      rw [Nat.zero_add] at Hs
      go_wp2_with (first | (go_at_call 167; refine Hs.out.mono ?_; rintro e w3 ⟨rfl, rfl⟩) | (go_at_call 178; refine (putPage (cap := 256) HL.out Hown.out (2 * (k + 1)) 2 _ n (by omega) (by omega)).mono ?_; rintro e w4 ⟨rfl, ho4, hg4⟩; rw [HS.out] at ho4; have Ho4 := hid ho4; have Hb4 := hid (Hbel.out.grown hg4 Hbel.out.size (by simp)); clear ho4 hg4))
      go_roundw
      case rel => exact ⟨k + 1, by omega, by go_num, Ho4.out, Hb4.out⟩
      case measure => simp [intOf]; omega
    · go_wp2
      go_ret
      have e : k = ns.length := by omega
      refine ⟨_, _, rfl, ?_, Hbel.out⟩
      have h := Hown.out
      rw [List.take_of_length_le (by omega)] at h
      exact h
end Go.Proofs.YthdcjepkehifoaaGreat
