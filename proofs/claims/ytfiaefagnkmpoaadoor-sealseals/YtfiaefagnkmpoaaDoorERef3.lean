/- The reference's Seal. -/
import Derived.Test.YtfiaefagnkmpoaaDoorERef2
namespace Go.Proofs.YtfiaefagnkmpoaaDoor
open Go.RowKit
set_option linter.unusedVariables false
set_option maxRecDepth 20000
theorem y_addiE {ops : Array Oper} {S : World → Prop} {op : Oper} {a : Act} (hw : Region.wanted op (yielded ops a.tmps) = true) (x y : Operand) (ho : op.op = .binOp .add 3 x y 3) (p q z : Int) (hx : a.eval x = .int .i64 p) (hy : a.eval y = .int .i64 q) (hz : IntKind.i64.wrap (p + q) = z) : YieldsIf Tryd.prog ops S op (.int .i64 z) a := y_addi hw x y ho p q z hx hy hz
/-- one append of named bytes, as an operation of its own -/
theorem wp_app1 (w : World) {o : Oper} {a : Act} {K : Act → World → Prop} {Q : Exit → Act → World → Prop} (hgd : o.guard = none) (s x : Operand)
    (ho : o.op = .call { callee := .builtin .append, args := #[s, x], argTypes := #[22, 22] }) (base : Nat) (v : Value) (xs : List UInt8) (hs : a.eval s = v)
    (hown : w.ownsRow base 5 1 v xs.length (cellsOf xs)) (cs : List UInt8) (m : Nat) (hm : cs.length = m) (hx : a.eval x = .slice (some ⟨w.heap.size, 0, none⟩) m m) (hb : xs.length + m ≤ 140737488355328) (hbase : base ≤ w.heap.size)
    (h : ∀ v' w', w'.ownsRow base 5 1 v' (xs ++ cs).length (cellsOf (xs ++ cs)) → Below base w w' → K (a.put o.dst v') w') : o.wp Tryd.prog a (w.alloc (.cells (cellsOf cs).toArray 5)) K Q := by
  refine wp_of_list (ops := #[]) hgd (fun A9 X9 => ∃ v9, A9 = a.put o.dst v9 ∧ X9.ownsRow base 5 1 v9 (xs ++ cs).length (cellsOf (xs ++ cs)) ∧ Below base w X9) (app_lits w hgd s x ho base v xs hs hown cs m hm hx hb hbase (fun v9 w9 h1 h2 h3 => wpList_nil ⟨rfl, v9, rfl, h1, h2⟩)) ?_
  rintro _ w9 ⟨v9, rfl, h1, h2⟩
  exact h v9 w9 h1 h2
/-- two cells that stay -/
def Two8 (A B : Addr) (P Q : UInt8) (w9 : World) : Prop := w9.cell? A = some (.int .u8 (P.toNat : Int)) ∧ w9.cell? B = some (.int .u8 (Q.toNat : Int))
theorem cells_alloc {A B : Addr} {P Q : UInt8} {w : World} (h : w.cell? A = some (.int .u8 (P.toNat : Int)) ∧ w.cell? B = some (.int .u8 (Q.toNat : Int))) (o : Obj) : (w.alloc o).cell? A = some (.int .u8 (P.toNat : Int)) ∧ (w.alloc o).cell? B = some (.int .u8 (Q.toNat : Int)) := by
  have hb : Below w.heap.size w (w.alloc o) := (Below.refl _ w).alloc (Nat.le_refl _) o
  exact ⟨(hb.cell (World.block_lt_of_cell? _ _ h.1)).trans h.1, (hb.cell (World.block_lt_of_cell? _ _ h.2)).trans h.2⟩
theorem cells_below {A B : Addr} {P Q : UInt8} {w w' : World} {n : Nat} (h : w.cell? A = some (.int .u8 (P.toNat : Int)) ∧ w.cell? B = some (.int .u8 (Q.toNat : Int))) (hb : Below n w w') (hl : A.block < n ∧ B.block < n) : w'.cell? A = some (.int .u8 (P.toNat : Int)) ∧ w'.cell? B = some (.int .u8 (Q.toNat : Int)) :=
  ⟨(hb.cell hl.1).trans h.1, (hb.cell hl.2).trans h.2⟩
theorem xor8_comm (a b : UInt8) : a ^^^ b = b ^^^ a := UInt8.xor_comm a b
/-- a text crossed, so far -/
theorem cross_step (key : List UInt8) (once : Nat) (l : List UInt8) (k : Nat) (h : k < l.length) :
    (cross key once l).take (k + 1) = (cross key once l).take k ++ [(l[k]) ^^^ ((strm key once (nblk l.length)).take l.length)[k]'(by rw [List.length_take, strm_len, nblk]; omega)] := by
  have hl : k < (cross key once l).length := by rw [cross_len]; exact h
  rw [List.take_succ_eq_append_getElem hl]
  congr 2
  have e := xor_get (strm key once (nblk l.length)) l k h (by rw [strm_len, nblk]; omega)
  rw [List.getElem_take, xor8_comm]
  exact e

set_option maxHeartbeats 400000 in
theorem refSeal_long {w : World} {K : Array Value} {key : List UInt8} (hK : HV K key) (once n : Nat) (a : Option Addr) (cap : Nat) (hl : 1024 < n) :
    Calls Tryd.prog 23 #[.agg K, .int .u64 (once : Int), .slice a n cap] w fun e w' => e = .returned (.tuple #[.slice none 0 0, .int .i64 6]) ∧ Below w.heap.size w w' := by
  have HK := hid hK
  have hinf : (Tryd.prog.info? 26).map (·.size) = some K.size := hK.info
  have x0 := hid (heap_alloc_new w (.cells K 26))
  have b0 : Hid (Below w.heap.size w (w.alloc (.cells K 26))) := (Below.refl _ w).alloc (Nat.le_refl _) _
  have hn : (n : Int) < 0 ∨ 1024 < (n : Int) := by omega
  have Hn := hid hn
  clear hK hn
  go_enter Tryd.func23, Tryd.ntmps23
  go_wp2_with (with_reducible show Go.wpList _ _ _ _ _ _; refine wpList_load_row rfl 26 _ rfl w.heap.size rfl _ _ _ _ x0.out Tryd.underlying26 rfl hinf ?_)
  refine (refStream_bad HK.out once (n : Int) Hn.out).mono ?_
  rintro _ W1 ⟨rfl, hb1⟩
  have b1 : Hid (Below w.heap.size w W1) := Below.on' b0.out hb1
  clear hb1
  go_wp2
  go_ret2
  exact ⟨rfl, b1.out⟩

set_option maxHeartbeats 4000000 in
theorem refSeal_any {w : World} {K : Array Value} {key : List UInt8} (hK : HV K key) (once : Nat) (plain : List UInt8) (a : Option Addr) (n cap : Nat) (hn : n = plain.length) (hB : Bytes w a plain) (hl : plain.length ≤ 1024) :
    Calls Tryd.prog 23 #[.agg K, .int .u64 (once : Int), .slice a n cap] w fun e w' => ∃ a' cap', e = .returned (.tuple #[.slice a' (n + 24) cap', .int .i64 0]) ∧ Bytes w' a' (sealB key once plain) ∧ Below w.heap.size w w' := by
  have HK := hid hK
  have HB := hid hB
  have Hn := hid hn
  have hinf : (Tryd.prog.info? 26).map (·.size) = some K.size := hK.info
  have x0 := hid (heap_alloc_new w (.cells K 26))
  have b0 : Hid (Below w.heap.size w (w.alloc (.cells K 26))) := (Below.refl _ w).alloc (Nat.le_refl _) _
  obtain ⟨np, hnp⟩ : ∃ np, np = n := ⟨_, rfl⟩
  rw [← hnp]
  have hnp1 : np ≤ 1024 := by omega
  have Hnp : Hid (np = plain.length) := hnp.trans hn
  clear hK hB hn hnp Hn
  go_enter Tryd.func23, Tryd.ntmps23
  go_wp2_with (with_reducible show Go.wpList _ _ _ _ _ _; refine wpList_load_row rfl 26 _ rfl w.heap.size rfl _ _ _ _ x0.out Tryd.underlying26 rfl hinf ?_)
  refine (refStream_any HK.out once np hnp1).mono ?_
  rintro _ W1 ⟨a2, c2, rfl, B2, lc2, hn2, hb1⟩
  have HB2 := hid B2
  have b1 : Hid (Below w.heap.size w W1) := Below.on' b0.out hb1
  have x1 : Hid (W1.heap[w.heap.size]? = some (.cells K 26 (0, 0))) := (hb1.block _ (heap_lt x0.out)).trans x0.out
  clear hb1 B2 hn2 x0 b0
  go_wp2_with fail
  refine (eight_any once).mono ?_
  rintro _ W2 ⟨v2, rfl, ho2, hb2⟩
  obtain ⟨B0, hB0⟩ : ∃ B0, B0 = W1.heap.size := ⟨_, rfl⟩
  rw [← hB0] at ho2 hb2
  have Ho2 : Hid (W2.ownsRow B0 5 1 v2 (be8 once ++ (cross key once plain).take 0).length (cellsOf (be8 once ++ (cross key once plain).take 0))) := by
    show World.ownsRow _ _ _ _ _ _ _
    rw [List.take_zero, List.append_nil, be8_length]; exact ho2
  have HB0 := hid hB0
  have b2 := hid hb2
  have hwB : w.heap.size < B0 := by rw [hB0]; exact heap_lt x1.out
  clear ho2 hb2 hB0
  go_wp2_with fail
  go_loopw [10, 11] (fun v10 v11 wr => ∃ k : Nat, k ≤ np ∧ v11 = .int .i64 (k : Int) ∧ wr.ownsRow B0 5 1 v10 (be8 once ++ (cross key once plain).take k).length (cellsOf (be8 once ++ (cross key once plain).take k)) ∧ Below B0 W1 wr) (fun _ v11 _ => np - (intOf v11).toNat)
  case atStart => exact ⟨0, Nat.zero_le _, rfl, Ho2.out, b2.out⟩
  case round =>
    clear Ho2 b2
    obtain ⟨k, hk, rfl, hown, hbel⟩ := hrel
    have Hown := hid hown
    have Hbel := hid hbel
    have Hbig : Hid (B0 ≤ wr.heap.size) := (by have := hbel.size; have := HB0.out; show _ ≤ _; omega)
    have Hlen : Hid ((be8 once ++ (cross key once plain).take k).length = 8 + k) := (by show _ = _; rw [List.length_append, be8_length, List.length_take, cross_len]; have := Hnp.out; omega)
    clear hown hbel
    by_cases hlt : k < np
    · have d1 : (k : Int) < (np : Int) := by omega
      have hkp : k < plain.length := by have := Hnp.out; omega
      have hkx : k < ((strm key once (nblk np)).take np).length := by rw [List.length_take, strm_len, nblk]; omega
      obtain ⟨b1', o1, e1, hc1⟩ := (HB.out.below b1.out) k hkp
      obtain ⟨b2', o2, e2, hc2⟩ := HB2.out k hkx
      subst e1
      subst e2
      obtain ⟨b1, rfl⟩ : ∃ b1, b1 = b1' := ⟨_, rfl⟩
      obtain ⟨b2, rfl⟩ : ∃ b2, b2 = b2' := ⟨_, rfl⟩
      have l1 : b1 < B0 := by rw [HB0.out]; exact World.block_lt_of_cell? _ _ hc1
      have l2 : b2 < B0 := by rw [HB0.out]; exact World.block_lt_of_cell? _ _ hc2
      have Hstep := hid (cross_step key once plain k hkp)
      have hQ : ((strm key once (nblk plain.length)).take plain.length)[k]'(by rw [List.length_take, strm_len, nblk]; omega) = ((strm key once (nblk np)).take np)[k]'hkx := by simp only [Hnp.out]
      rw [hQ] at Hstep
      generalize ((strm key once (nblk np)).take np)[k]'hkx = Q at hc2 Hstep
      generalize plain[k]'hkp = P at hc1 Hstep
      have s8 : wr.drew.cell? ⟨b1, o1 + k, none⟩ = some (.int .u8 (P.toNat : Int)) ∧ wr.drew.cell? ⟨b2, o2 + k, none⟩ = some (.int .u8 (Q.toNat : Int)) :=
        ⟨(Hbel.out.drew.cell l1).trans hc1, (Hbel.out.drew.cell l2).trans hc2⟩
      have Hlt : Hid ((⟨b1, o1 + k, none⟩ : Addr).block < B0 ∧ (⟨b2, o2 + k, none⟩ : Addr).block < B0) := ⟨l1, l2⟩
      clear hc1 hc2 hQ
      go_wp2_with fail
      refine wp_region_held (S := fun w9 => w9.cell? ⟨b1, o1 + k, none⟩ = some (.int .u8 (P.toNat : Int)) ∧ w9.cell? ⟨b2, o2 + k, none⟩ = some (.int .u8 (Q.toNat : Int))) (by kernel_rfl) ?_
      refine wpAnyH_take (i := 0) (v := u10) rfl (by kernel_rfl) (by kernel_rfl) (by kernel_rfl) (fun _ _ _ h => h) (yields_move (by simp [Region.wanted]) (.tmp 10) rfl _ rfl) s8 ?_
      show wpAnyH _ _ _ _ _ _ _ (Act.put _ (some 30) _) _
      simp only [Act.put, List.setIfInBounds_toArray, List.set_cons_zero, List.set_cons_succ]
      refine wpAnyH_take (i := 1) (v := .slice (some ⟨b1, o1, none⟩) np cap) rfl (by kernel_rfl) (by kernel_rfl) (by kernel_rfl) (fun _ _ _ h => h) (yields_move (by simp [Region.wanted]) (.tmp 2) rfl _ rfl) s8 ?_
      show wpAnyH _ _ _ _ _ _ _ (Act.put _ (some 31) _) _
      simp only [Act.put, List.setIfInBounds_toArray, List.set_cons_zero, List.set_cons_succ]
      refine wpAnyH_take (i := 2) (v := .int .i64 (k : Int)) rfl (by kernel_rfl) (by kernel_rfl) (by kernel_rfl) (fun _ _ _ h => h) (yields_move (by simp [Region.wanted]) (.tmp 11) rfl _ rfl) s8 ?_
      show wpAnyH _ _ _ _ _ _ _ (Act.put _ (some 32) _) _
      simp only [Act.put, List.setIfInBounds_toArray, List.set_cons_zero, List.set_cons_succ]
      refine wpAnyH_take (i := 3) (v := .pointer (some ⟨b1, o1 + k, none⟩)) rfl (by kernel_rfl) (by kernel_rfl) (by kernel_rfl) (fun _ _ _ h => h) (y_index8 (by simp [Region.wanted]) (.tmp 31) (.tmp 32) rfl b1 o1 np cap k rfl rfl (by omega)) s8 ?_
      show wpAnyH _ _ _ _ _ _ _ (Act.put _ (some 33) _) _
      simp only [Act.put, List.setIfInBounds_toArray, List.set_cons_zero, List.set_cons_succ]
      refine wpAnyH_take (i := 4) (v := .int .u8 (P.toNat : Int)) rfl (by kernel_rfl) (by kernel_rfl) (by kernel_rfl) (fun _ _ _ h => h) (y_load8 (by simp [Region.wanted]) (.tmp 33) rfl b1 (o1 + k) P rfl (fun _ h => h.1)) s8 ?_
      show wpAnyH _ _ _ _ _ _ _ (Act.put _ (some 34) _) _
      simp only [Act.put, List.setIfInBounds_toArray, List.set_cons_zero, List.set_cons_succ]
      refine wpAnyH_take (i := 5) (v := .slice (some ⟨b2, o2, none⟩) np c2) rfl (by kernel_rfl) (by kernel_rfl) (by kernel_rfl) (fun _ _ _ h => h) (yields_move (by simp [Region.wanted]) (.tmp 8) rfl _ rfl) s8 ?_
      show wpAnyH _ _ _ _ _ _ _ (Act.put _ (some 35) _) _
      simp only [Act.put, List.setIfInBounds_toArray, List.set_cons_zero, List.set_cons_succ]
      refine wpAnyH_take (i := 6) (v := .int .i64 (k : Int)) rfl (by kernel_rfl) (by kernel_rfl) (by kernel_rfl) (fun _ _ _ h => h) (yields_move (by simp [Region.wanted]) (.tmp 11) rfl _ rfl) s8 ?_
      show wpAnyH _ _ _ _ _ _ _ (Act.put _ (some 36) _) _
      simp only [Act.put, List.setIfInBounds_toArray, List.set_cons_zero, List.set_cons_succ]
      refine wpAnyH_take (i := 7) (v := .pointer (some ⟨b2, o2 + k, none⟩)) rfl (by kernel_rfl) (by kernel_rfl) (by kernel_rfl) (fun _ _ _ h => h) (y_index8 (by simp [Region.wanted]) (.tmp 35) (.tmp 36) rfl b2 o2 np c2 k rfl rfl (by omega)) s8 ?_
      show wpAnyH _ _ _ _ _ _ _ (Act.put _ (some 37) _) _
      simp only [Act.put, List.setIfInBounds_toArray, List.set_cons_zero, List.set_cons_succ]
      refine wpAnyH_take (i := 8) (v := .int .u8 (Q.toNat : Int)) rfl (by kernel_rfl) (by kernel_rfl) (by kernel_rfl) (fun _ _ _ h => h) (y_load8 (by simp [Region.wanted]) (.tmp 37) rfl b2 (o2 + k) Q rfl (fun _ h => h.2)) s8 ?_
      show wpAnyH _ _ _ _ _ _ _ (Act.put _ (some 38) _) _
      simp only [Act.put, List.setIfInBounds_toArray, List.set_cons_zero, List.set_cons_succ]
      refine wpAnyH_take (i := 9) (v := .int .u8 ((P ^^^ Q).toNat : Int)) rfl (by kernel_rfl) (by kernel_rfl) (by kernel_rfl) (fun _ _ _ h => h) (y_xor8 (by simp [Region.wanted]) (.tmp 34) (.tmp 38) rfl P Q rfl rfl) s8 ?_
      show wpAnyH _ _ _ _ _ _ _ (Act.put _ (some 39) _) _
      simp only [Act.put, List.setIfInBounds_toArray, List.set_cons_zero, List.set_cons_succ]
      refine wpAnyH_all (rs := [10]) (by kernel_rfl) (by simp) fun i hmem => ?_
      obtain rfl : i = 10 := by simpa using hmem
      refine wpOp_own rfl rfl fun K' hK' => ?_
      refine wp_build1 (.tmp 39) rfl (P ^^^ Q) rfl ?_
      refine hK' _ _ ⟨cells_alloc s8 _, ?_⟩
      clear hK' K' hmem
      show wpAnyH _ _ _ _ _ _ _ (Act.put _ (some 40) _) _
      simp only [Act.put, List.setIfInBounds_toArray, List.set_cons_zero, List.set_cons_succ]
      refine wpAnyH_all (rs := [11]) (by kernel_rfl) (by simp) fun i hmem => ?_
      obtain rfl : i = 11 := by simpa using hmem
      refine wpOp_own rfl rfl fun K' hK' => ?_
      refine wp_app1 wr.drew rfl (.tmp 30) (.tmp 40) rfl B0 u10 (be8 once ++ (cross key once plain).take k) rfl Hown.out.drew [P ^^^ Q] 1 rfl rfl (by have := Hlen.out; omega) Hbig.out ?_
      intro v9 W9 hown9 hb9
      have s9 := cells_below s8 hb9 Hlt.out
      refine hK' _ _ ⟨s9, ?_⟩
      clear hK' K' hmem
      show wpAnyH _ _ _ _ _ _ _ (Act.put _ (some 41) _) _
      simp only [Act.put, List.setIfInBounds_toArray, List.set_cons_zero, List.set_cons_succ]
      refine wpAnyH_take (i := 12) (v := v9) rfl (by kernel_rfl) (by kernel_rfl) (by kernel_rfl) (fun _ _ _ h => h) (yh_assign (by simp [Region.wanted]) (.tmp 41) rfl _ rfl) s9 ?_
      show wpAnyH _ _ _ _ _ _ _ (Act.put _ (some 10) _) _
      simp only [Act.put, List.setIfInBounds_toArray, List.set_cons_zero, List.set_cons_succ]
      refine wpAnyH_done (by kernel_rfl) ?_ _
      have Hown9 := hid hown9
      have Hb9 := hid hb9
      clear hown9 hb9 s8 s9
      go_wp2_with fail
      go_roundw
      case rel =>
        refine ⟨k + 1, by omega, by go_num, ?_, Hbel.out.drew.trans Hb9.out⟩
        rw [Hstep.out, ← List.append_assoc]
        exact Hown9.out
      case measure => simp [intOf]; omega
    · have d1 : ¬ (k : Int) < (np : Int) := by omega
      have hkn : k = np := by omega
      have Hall : Hid (be8 once ++ (cross key once plain).take k = headB key once plain) := (by
        show _ = _
        rw [hkn, Hnp.out, headB, List.take_of_length_le (by rw [cross_len]; omega)])
      rw [hkn] at Hlen
      obtain ⟨HD, hHD⟩ : ∃ HD, HD = headB key once plain := ⟨_, rfl⟩
      have Hown1 : Hid (wr.ownsRow B0 5 1 u10 HD.length (cellsOf HD)) := (by show World.ownsRow _ _ _ _ _ _ _; rw [hHD, ← Hall.out]; exact Hown.out)
      have lHD : HD.length = 8 + np := by rw [hHD, headB_len, ← Hnp.out]
      obtain ⟨a9, c9, rfl, B9, lc9, hn9⟩ := bytes_ofH Hown1.out
      have HB9 := hid B9
      have Hn9 := hid hn9
      have x9 : Hid (wr.heap[w.heap.size]? = some (.cells K 26 (0, 0))) := (Hbel.out.block _ hwB).trans x1.out
      have HHD := hid hHD
      obtain ⟨N9, hN9⟩ : ∃ N9, N9 = HD.length := ⟨_, rfl⟩
      have HN9 := hid hN9
      have Hown2 : Hid (wr.ownsRow B0 5 1 (.slice a9 N9 c9) HD.length (cellsOf HD)) := (by show World.ownsRow _ _ _ _ _ _ _; rw [hN9]; exact Hown1.out)
      have hN9l : N9 ≤ 1032 := by omega
      have HlHD := hid lHD
      rw [← hN9] at lc9 ⊢
      clear B9 hn9 hHD hN9 lHD hkn Hown Hown1 Hlen Hall
      go_wp2_with (with_reducible show Go.wpList _ _ _ _ _ _; refine wpList_load_row rfl 26 _ rfl w.heap.size rfl _ _ _ _ x9.out Tryd.underlying26 rfl hinf ?_)
      refine (refTag8_any HK.out HD a9 N9 c9 HN9.out HB9.out Hn9.out (by have := HN9.out; omega)).mono ?_
      rintro _ W6 ⟨g6, c6, rfl, lc6, hg6, B6, hb6⟩
      have HB6 := hid B6
      have Ho6 : Hid (W6.ownsRow B0 5 1 (.slice a9 N9 c9) HD.length (cellsOf HD)) := own_onH Hown2.out hb6
      have b6 : Hid (Below B0 W1 W6) := Hbel.out.trans (hb6.mono Hbig.out)
      have s6 : Hid (B0 ≤ W6.heap.size) := Nat.le_trans Hbig.out hb6.size
      clear B6 hb6
      go_wp2_with (at_builtin; refine app_src _ rfl (.tmp 42) (.tmp 45) rfl B0 _ HD rfl Ho6.out (some ⟨g6, 0, none⟩) 16 c6 (tagB key HD) (tagB_len _ _).symm rfl HB6.out (fun h => nomatch h) (by rw [tagB_len]; have := HN9.out; omega) s6.out ?_; intro v7 W7 ho7 hb7; have Ho7 := hid ho7; have b7 : Hid (Below B0 W1 W7) := b6.out.trans hb7; clear ho7 hb7)
      have Hseal : Hid (HD ++ tagB key HD = sealB key once plain) := (by show _ = _; rw [HHD.out]; rfl)
      obtain ⟨a7, c7, rfl, B7, _, _⟩ := bytes_ofH Ho7.out
      have l7 : (HD ++ tagB key HD).length = np + 24 := by rw [List.length_append, tagB_len, HlHD.out]; omega
      rw [l7]
      rw [Hseal.out] at B7
      have HB7 := hid B7
      clear B7 l7 Ho7
      go_ret2
      exact ⟨a7, c7, rfl, HB7.out, b1.out.trans (b7.out.mono (Nat.le_of_lt hwB))⟩
end Go.Proofs.YtfiaefagnkmpoaaDoor
