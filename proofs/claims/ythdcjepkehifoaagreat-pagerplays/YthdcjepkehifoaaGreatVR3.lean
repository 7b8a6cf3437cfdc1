/- Read and Write of the reference's cache, by contracts. -/
import Derived.Test.YthdcjepkehifoaaGreatVR2
namespace Go.Proofs.YthdcjepkehifoaaGreat
open Go.RowKit Go.Maps Go.Sort Go.Shelf
set_option linter.unusedVariables false
set_option maxRecDepth 20000
def RS.page (r : RS) (q : Nat) : List UInt8 := pageNow (psOf (fresh r.S r.P) r.ls) r.S r.gs q
def RS.now (r : RS) (q : Nat) : List UInt8 := (r.dd.lookup q).getD (r.page q)
theorem useR_log (r : RS) (n : Nat) : (useR r n).S = r.S ∧ (useR r n).P = r.P ∧ (useR r n).G = r.G ∧ (useR r n).gs = r.gs ∧ (useR r n).ls = r.ls := ⟨rfl, rfl, rfl, rfl, rfl⟩
def RdPost (w : World) (B q : Nat) (m : RM) (r : RS) (x : Int) (e : Ending) (w' : World) : Prop :=
  ((x < 0 ∨ (r.P : Int) ≤ x) ∧ e = .returned (.tuple #[.slice none 0 0, .int .i64 2]) ∧ RPo w B q m r r w') ∨
  (¬ (x < 0 ∨ (r.P : Int) ≤ x) ∧ ∃ b c, e = .returned (.tuple #[.slice (some ⟨b, 0, none⟩) 256 c, .int .i64 0]) ∧ w'.ownsRow w.heap.size 5 1 (.slice (some ⟨b, 0, none⟩) 256 c) 256 (cellsOf (r.now x.toNat)) ∧ RPo w B q m r (readR r x.toNat) w')
set_option maxHeartbeats 1600000 in
theorem rpRead_any {w : World} {B q : Nat} {m : RM} {r : RS} (h : RPm w B q m r) (x : Int) (hx : -9223372036854775808 ≤ x ∧ x ≤ 9223372036854775807) (ho : r.ord.length ≤ 100) (hp : r.pins.length ≤ 100) (hhi : r.hi ≤ 4611686018427387904) (hmi : r.mi ≤ 4611686018427387904) (hdd : r.dd.length ≤ 1000) (hls : r.ls.length ≤ 1000000) :
    Calls Tryz.prog 107 #[.pointer (some ⟨q, 0, none⟩), .int .i64 x] w (RdPost w B q m r x) := by
  have H := hid h
  have c0 := h.c0
  have Hpg := hid (rlogPages h)
  unfold RdPost
  clear h
  by_cases h0 : x < 0
  · go_enter Tryz.func107, Tryz.ntmps107
    go_wp2
    go_ret2
    exact .inl ⟨.inl h0, rfl, RPo.of_below H.out (Below.refl _ _)⟩
  · obtain ⟨n, rfl⟩ : ∃ n : Nat, x = (n : Int) := ⟨x.toNat, by omega⟩
    rw [Int.toNat_natCast]
    by_cases h1 : (r.P : Int) ≤ (n : Int)
    · go_enter Tryz.func107, Tryz.ntmps107
      go_wp2_with (fail)
      refine Hpg.out.mono ?_
      rintro e w1 ⟨rfl, hb1⟩
      have Hb1 := hid hb1
      clear hb1 Hpg
      go_wp2
      go_ret2
      exact .inl ⟨.inr h1, rfl, RPo.of_below H.out Hb1.out⟩
    · have hnP : n < r.P := by omega
      go_enter Tryz.func107, Tryz.ntmps107
      go_wp2_with (fail)
      refine Hpg.out.mono ?_
      rintro e w1 ⟨rfl, hb1⟩
      have H1 := hid (H.out.below hb1)
      have Hb1 := hid hb1
      have Hwr := hid (rwritten_any H1.out n hdd)
      clear hb1 Hpg c0
      go_wp2_with (fail)
      refine Hwr.out.mono ?_
      rintro e w2 ⟨hb2, ⟨y, b, c, hlo, rfl, hr2⟩ | ⟨hlo, rfl⟩⟩
      · have Hb2 := hid (Hb1.out.trans (hb2.mono Hb1.out.size))
        have HR2 := hid (hr2.mono Hb1.out.size)
        have Hlo := hid hlo
        clear hb2 hr2 hlo Hwr
        go_wp2
        go_ret2
        refine .inr ⟨by omega, b, c, rfl, ?_, ?_⟩
        · unfold RS.now
          rw [Hlo.out]
          exact HR2.out
        · unfold readR
          rw [Hlo.out, if_pos (by rfl)]
          exact RPo.of_below H.out Hb2.out
      · have H2 := hid (H1.out.below hb2)
        have Hb2 := hid (Hb1.out.trans (hb2.mono Hb1.out.size))
        have Hlo := hid hlo
        have Hu := hid (ruse_any H2.out n ho hp hhi hmi)
        clear hb2 hlo Hwr
        go_wp2_with (fail)
        refine Hu.out.mono ?_
        rintro e w3 ⟨rfl, m3, h3, ho3, hR3, hA3⟩
        have c03 := h3.c0
        obtain ⟨d, F, L, vs, us, hok⟩ := h3.refOk (by exact hls)
        have Hrd := hid (rread_ok hok n (by exact hnP))
        have H3 := hid h3
        have HO3 := hid ho3
        have HR3 := hid hR3
        have HA3 := hid hA3
        clear h3 ho3 hR3 hA3 hok Hu
        go_wp2_with (fail)
        refine Hrd.out.mono ?_
        rintro e w4 ⟨v4, rfl, hr4, hb4⟩
        obtain ⟨b4, c4, rfl, _, _⟩ := hr4.form (by omega)
        have HR4 := hid hr4
        have Hb4 := hid hb4
        clear hr4 hb4 Hrd
        go_wp2
        go_ret2
        have hs1 := Hb2.out.size
        have hs2 := HO3.out.size
        refine .inr ⟨by omega, b4, c4, rfl, ?_, ?_⟩
        · unfold RS.now
          rw [Hlo.out]
          exact HR4.out.mono (by omega)
        · unfold readR
          rw [Hlo.out, if_neg (by simp)]
          exact RPo.ahead Hb2.out (RPo.then HO3.out HR3.out HA3.out (RPo.of_below H3.out Hb4.out))
/-- the walk stands here -/
def Halt (p : Prop) : Prop := p
theorem halt {p : Prop} (h : Halt p) : p := h
/-- append(v, page), v a row of pages: what grows -/
theorem app_page2 (w : World) {ops : Array Oper} {rest : List Oper} {o : Oper} {a : Act} {Q : Exit → Act → World → Prop} (hgd : o.guard = none) (sl x : Operand)
    (ho : o.op = .call { callee := .builtin .append, args := #[sl, x], argTypes := #[67, 67] }) (base : Nat) (v : Value) (l : List PgV) (hs : a.eval sl = v)
    (hown : w.ownsRow base 94 2 v l.length (pgCells l)) (q : PgV) {qi : Int} {qa : Option Addr} {qn qc : Nat} (hqe : encPg q = [.int .i64 qi, .slice qa qn qc]) (hx : a.eval x = .slice (some ⟨w.heap.size, 0, none⟩) 1 1) (hb : l.length ≤ 100000) (hbase : base ≤ w.heap.size)
    (h : ∀ g cap w', w'.ownsRow base 94 2 (.slice (some ⟨g, 0, none⟩) (l ++ [q]).length cap) (l ++ [q]).length (pgCells (l ++ [q])) → Below base w w' → (∀ k, k < w.heap.size → v.ownBlock ≠ some k → w'.heap[k]? = w.heap[k]?) → wpList Tryz.prog ops Q rest (a.put o.dst (.slice (some ⟨g, 0, none⟩) (l ++ [q]).length cap)) w') :
    wpList Tryz.prog ops Q (o :: rest) a (w.alloc (.cells #[.int .i64 qi, .slice qa qn qc] 94)) := by
  rw [show (#[.int .i64 qi, .slice qa qn qc] : Array Value) = (encPg q).toArray by rw [hqe]]
  obtain ⟨i0, hi, hz0, hz1, hz2⟩ := info_parts Tryz.info94
  have hnew := heap_alloc_new w (.cells (encPg q).toArray 94)
  refine wpList_plain hgd fun _ hK => wp_append_lies _ sl x 67 ho base 94 i0 (.agg #[.int .i64 0, .slice none 0 0]) 2 32 Tryz.underlying67 hi hz0 hz1 hz2 rfl (by decide) v l.length (pgCells l) hs (hown.alloc _) ⟨w.heap.size, 0, none⟩ 1 1 (encPg q) hx rfl (fun j u hj => ?_) (encPg_one q) (by decide) (by unfold maxLen; omega) (by omega) (by simp; omega) _ rfl ?_
  · have hj2 : j < 2 := by have := (List.getElem?_eq_some_iff.1 hj).1; simpa [encPg] using this
    rw [addr_add, cell_of_row _ _ _ _ _ _ hnew]
    simpa using hj
  intro g cap w' h1 h2 h3 _
  have e : pgCells l ++ encPg q = pgCells (l ++ [q]) := (pgCells_snoc l q).symm
  have e2 : l.length + 1 = (l ++ [q]).length := by simp
  rw [e, e2] at h1
  have h4 := h g cap w' h1 (((Below.refl _ _).alloc hbase _).trans ((Below.refl _ _).grown h2 (by simp; omega) (fun k hk => (hown.lt k hk).1))) (fun k hk hn => (h2.block k (by rw [World.size_alloc]; omega) (fun e => hn e.symm)).trans (((Below.refl _ w).alloc (Nat.le_refl _) _).block k hk))
  rw [← e2] at h4
  exact hK _ _ h4
/-- what Write tells -/
def rwrE (r : RS) (x : Int) (n : Nat) : Int := if x < 0 ∨ (r.P : Int) ≤ x then 2 else if n ≠ 256 then 3 else 0
def RwPost (w : World) (B q : Nat) (m : RM) (r : RS) (x : Int) (y : List UInt8) (e : Ending) (w' : World) : Prop :=
  e = .returned (.int .i64 (rwrE r x y.length)) ∧ RPo w B q m r (if rwrE r x y.length = 0 then writeR r x.toNat y else r) w'
theorem rpg_congr {m m' : RM} {l : List (Nat × List UInt8)} (h : ∀ c ∈ l, m'.db c.1 = m.db c.1 ∧ m'.dc c.1 = m.dc c.1) : l.map (rpg m') = l.map (rpg m) := List.map_congr_left fun c hc => by
  unfold rpg
  rw [(h c hc).1, (h c hc).2]
set_option maxHeartbeats 4000000 in
theorem rpWrite_any {w : World} {B q : Nat} {m : RM} {r : RS} (h : RPm w B q m r) (x : Int) (hx : -9223372036854775808 ≤ x ∧ x ≤ 9223372036854775807) (y : List UInt8) (b c : Nat) (hy : Bytes w (some ⟨b, 0, none⟩) y) (hyl : y.length ≤ 256) (ho : r.ord.length ≤ 100) (hp : r.pins.length ≤ 100) (hdd : r.dd.length ≤ 90) :
    Calls Tryz.prog 108 #[.pointer (some ⟨q, 0, none⟩), .int .i64 x, .slice (some ⟨b, 0, none⟩) y.length c] w (RwPost w B q m r x y) := by
  have H := hid h
  have c0 := h.c0
  have Hpg := hid (rlogPages h)
  have Hy := hid hy
  unfold RwPost
  clear h hy
  by_cases h0 : x < 0
  · have Hpe : Hid (rwrE r x y.length = 2) := by
      show _ = _
      unfold rwrE
      rw [if_pos (.inl h0)]
    rw [Hpe.out, if_neg (by decide)]
    go_enter Tryz.func108, Tryz.ntmps108
    go_wp2
    go_ret
    exact ⟨rfl, RPo.of_below H.out (Below.refl _ _)⟩
  · obtain ⟨n, rfl⟩ : ∃ n : Nat, x = (n : Int) := ⟨x.toNat, by omega⟩
    rw [Int.toNat_natCast]
    by_cases h1 : (r.P : Int) ≤ (n : Int)
    · have Hpe : Hid (rwrE r (n : Int) y.length = 2) := by
        show _ = _
        unfold rwrE
        rw [if_pos (.inr h1)]
      rw [Hpe.out, if_neg (by decide)]
      go_enter Tryz.func108, Tryz.ntmps108
      go_wp2_with (fail)
      refine Hpg.out.mono ?_
      rintro e w1 ⟨rfl, hb1⟩
      have Hb1 := hid hb1
      clear hb1 Hpg
      go_wp2
      go_ret
      exact ⟨rfl, RPo.of_below H.out Hb1.out⟩
    · have hnP : n < r.P := by omega
      by_cases h256 : y.length = 256
      · have Hpe : Hid (rwrE r (n : Int) y.length = 0) := by
          show _ = _
          unfold rwrE
          rw [if_neg (by omega), if_neg (by omega)]
        rw [Hpe.out, if_pos rfl, h256]
        go_enter Tryz.func108, Tryz.ntmps108
        go_wp2_with (fail)
        refine Hpg.out.mono ?_
        rintro e w1 ⟨rfl, hb1⟩
        have H1 := hid (H.out.below hb1)
        have Hb1 := hid hb1
        have Hwr := hid (rwritten_any H1.out n (by omega))
        clear hb1 Hpg c0
        go_wp2_with (fail)
        refine Hwr.out.mono ?_
        rintro e w2 ⟨hb2, hcase⟩
        have H2 := hid (H1.out.below hb2)
        have Hb2 := hid (Hb1.out.trans (hb2.mono Hb1.out.size))
        obtain ⟨vx, bx, ex⟩ : ∃ vx bx, e = .returned (.tuple #[vx, .bool bx]) := by
          rcases hcase with ⟨y', b', c', _, e', _⟩ | ⟨_, e'⟩
          · exact ⟨_, _, e'⟩
          · exact ⟨_, _, e'⟩
        subst ex
        clear hb2 hcase Hwr
        obtain ⟨da, dk, hdv⟩ := own_slc H2.out.drow
        rw [List.length_map] at hdv
        have c22 := H2.out.c2
        rw [hdv] at c22
        have Hdv := hid hdv
        have g9 : ¬ (100 : Int) ≤ (r.dd.length : Int) := by omega
        clear hdv
        cases bx with
        | true =>
          go_wp2_with (fail)
          go_loopw [9, 10] (fun v i wr => ∃ k : Nat, k ≤ r.dd.length ∧ i = .int .i64 k ∧ wr.ownsRow w2.heap.size 94 2 v (((r.dd.take k).filter (fun c => c.1 != n)).map (rpg m)).length (pgCells (((r.dd.take k).filter (fun c => c.1 != n)).map (rpg m))) ∧ Below w2.heap.size w2 wr) (fun _ i _ => r.dd.length - (intOf i).toNat)
          case atStart => exact ⟨0, Nat.zero_le _, rfl, World.ownsRow_nil _ _ _ _, Below.refl _ _⟩
          case round =>
            obtain ⟨k, hk, rfl, hown, hB⟩ := hrel
            have Hown := hid hown
            have HB := hid hB
            have Hk := hid (H2.out.below hB)
            have c2k := Hk.out.c2
            rw [Hdv.out] at c2k
            clear hown hB c22
            by_cases hlt : k < r.dd.length
            · have hrow := Hk.out.drow
              rw [Hdv.out, List.length_map] at hrow
              obtain ⟨g, c', e1, _, _⟩ := hrow.form (by omega)
              cases e1
              obtain ⟨hc0, hc1⟩ := pgs_of_row (l := r.dd.map (rpg m)) (by rw [List.length_map]; exact hrow) k (by rw [List.length_map]; exact hlt)
              rw [Nat.zero_add, List.getElem_map] at hc0 hc1
              have Htk := hid (List.take_succ_eq_append_getElem hlt)
              generalize r.dd[k] = cc at *
              obtain ⟨z, yz⟩ := cc
              have hc0' : wr.cell? ⟨g, k * 2, none⟩ = some (.int .i64 (z : Int)) := hc0
              have hc1' : wr.cell? ⟨g, k * 2 + 1, none⟩ = some (.slice (some ⟨m.db z, 0, none⟩) 256 (m.dc z)) := hc1
              have g1 : (k : Int) < (r.dd.length : Int) := by omega
              have g2 : (0 : Int) ≤ (k : Int) := by omega
              have hfl : (((r.dd.take k).filter (fun c => c.1 != n)).map (rpg m)).length ≤ 90 := by
                rw [List.length_map]
                refine Nat.le_trans (List.length_filter_le _ _) ?_
                rw [List.length_take]; omega
              have hsz := HB.out.size
              clear hc0 hc1 hrow
              by_cases he : z = n
              · have g3 : ((z : Int) != (n : Int)) = false := by simp [he]
                have g4 : (z : Int) = (n : Int) := by omega
                have Hst : Hid ((r.dd.take (k + 1)).filter (fun c => c.1 != n) = (r.dd.take k).filter (fun c => c.1 != n)) := by
                  show _ = _
                  rw [Htk.out, List.filter_append, List.filter_cons_of_neg (by simp [he])]
                  simp
                go_wp2
                go_roundw
                case rel => exact ⟨k + 1, by omega, by go_num, by rw [Hst.out]; exact Hown.out, HB.out⟩
                case measure => simp [intOf]; omega
              · have g3 : ((z : Int) != (n : Int)) = true := by simp; omega
                have g4 : ¬ (z : Int) = (n : Int) := by omega
                have Hst : Hid (((r.dd.take (k + 1)).filter (fun c => c.1 != n)).map (rpg m) = ((r.dd.take k).filter (fun c => c.1 != n)).map (rpg m) ++ [rpg m (z, yz)]) := by
                  show _ = _
                  rw [Htk.out, List.filter_append, List.filter_cons_of_pos (by simp [he]), List.map_append]
                  rfl
                generalize ((r.dd.take k).filter (fun c => c.1 != n)).map (rpg m) = t at *
                go_wp2_with (at_builtin; refine app_page wr rfl _ _ rfl w2.heap.size _ t rfl (by exact Hown.out) (rpg m (z, yz)) rfl rfl (by omega) hsz ?_; intro g' cap' w6 hown6 hb6)
                go_roundw
                case rel => exact ⟨k + 1, by omega, by go_num, by rw [Hst.out, show t.length + 1 = (t ++ [rpg m (z, yz)]).length from by simp]; exact hown6, HB.out.trans hb6⟩
                case measure => simp [intOf]; omega
            · have hkl : k = r.dd.length := by omega
              subst hkl
              have g1 : ¬ (r.dd.length : Int) < (r.dd.length : Int) := by omega
              have h6 := Hown.out
              rw [List.take_length] at h6
              have Hown2 := hid h6
              clear h6
              have hyw : Bytes wr (some ⟨b, 0, none⟩) y := (Hy.out.below Hb2.out).below HB.out
              have hcp := copyB y b 0 c wr hyw (by omega) (by omega)
              rw [h256] at hcp
              have Hcp := hid hcp
              have hfl : ((r.dd.filter (fun c => c.1 != n)).map (rpg m)).length ≤ 90 := by
                rw [List.length_map]
                exact Nat.le_trans (List.length_filter_le _ _) hdd
              have hsz := HB.out.size
              clear hyw hcp Hown
              go_wp2_with (fail)
              refine Hcp.out.mono ?_
              rintro e w3 ⟨v3, rfl, hr3, hb3⟩
              obtain ⟨b3, c3, rfl, _, _⟩ := hr3.form (by omega)
              have HR3 := hid hr3
              have Hb3 := hid hb3
              have HB3 := hid (HB.out.trans (hb3.mono HB.out.size))
              have Hown3 := hid (own_below Hown2.out hb3)
              have hsz3 := hb3.size
              obtain ⟨m', hm'⟩ : ∃ m' : RM, m' = { m with db := upd m.db n b3, dc := upd m.dc n c3 } := ⟨_, rfl⟩
              have Hm' := hid hm'
              have Hpgn : Hid (encPg (rpg m' (n, y)) = [.int .i64 (n : Int), .slice (some ⟨b3, 0, none⟩) 256 c3]) := by
                show _ = _
                rw [hm']
                unfold encPg rpg
                simp only [upd_same]
              clear hr3 hb3 Hcp hm'
              generalize ht : (r.dd.filter (fun c => c.1 != n)).map (rpg m) = t at *
              have Ht := hid ht
              clear ht
              have Hvl := hid (fun k (e : _ = some k) => (Hown2.out.lt k e).2)
              go_wp2_with (at_builtin; refine app_page2 w3 rfl _ _ rfl w2.heap.size _ t rfl (by exact Hown3.out) (rpg m' (n, y)) Hpgn.out rfl (by omega) (by omega) ?_; intro g' cap' w6 hown6 hb6 hkp6; refine halt ?_)
              unfold Halt
              have hk63 := hkp6 b3 (HR3.out.lt b3 rfl).2 (fun e => by have h1 := Hvl.out _ e; have h2 := (HR3.out.lt b3 rfl).1; omega)
              have Hk63 := hid hk63
              clear hk63 hkp6
              have H6 := hid (H2.out.below (HB3.out.trans hb6))
              have HB6 := hid (HB3.out.trans hb6)
              have Hown6 := hid hown6
              have c62 := H6.out.c2
              have z62 := H6.out.z 2
              rw [Hdv.out] at c62
              obtain ⟨N, hNe⟩ : ∃ N, N = t.length + 1 := ⟨_, rfl⟩
              have HNe : Hid (N = (t ++ [rpg m' (n, y)]).length) := hNe.trans (by simp)
              rw [← HNe.out] at Hown6
              rw [← hNe]
              clear hown6 hb6 hNe
              obtain ⟨w7, hw7⟩ : ∃ w7, w7 = w6.setCell ⟨q, 2, none⟩ (.slice (some ⟨g', 0, none⟩) N cap') := ⟨_, rfl⟩
              have hgl := Hown6.out.lt g' rfl
              have hbl3 := HR3.out.lt b3 rfl
              obtain ⟨r7, hr7⟩ : ∃ r7 : RS, r7 = { r with dd := r.dd.filter (fun c => c.1 != n) ++ [(n, y)] } := ⟨_, rfl⟩
              have hmap : (r.dd.filter (fun c => c.1 != n) ++ [(n, y)]).map (rpg m') = t ++ [rpg m' (n, y)] := by
                rw [List.map_append, ← Ht.out, rpg_congr (m := m) (m' := m') (fun c hc => by
                  have hne : c.1 ≠ n := by simpa using (List.mem_filter.1 hc).2
                  rw [Hm'.out]
                  exact ⟨upd_ne _ _ hne, upd_ne _ _ hne⟩)]
                rfl
              have H7 : Hid (RPm w7 B q { m with dv := .slice (some ⟨g', 0, none⟩) N cap', db := upd m.db n b3, dc := upd m.dc n c3 } r7) := by
                rw [hw7, hr7]
                refine H6.out.setD (upd m.db n b3) (upd m.dc n c3) ?_ (fun k e => by cases e; exact H2.out.isNew hgl.1) (fun c' hc => ?_) (fun c' hc => ?_) ?_
                · have e8 : ({ m with db := upd m.db n b3, dc := upd m.dc n c3 } : RM) = m' := Hm'.out.symm
                  rw [e8, hmap, ← HNe.out]
                  exact Hown6.out.mono (by have := heap_lt H2.out.obj; have := H2.out.Bq; omega)
                · rcases List.mem_append.1 hc with hc | hc
                  · have hne : c'.1 ≠ n := by simpa using (List.mem_filter.1 hc).2
                    rw [upd_ne _ _ hne]
                    exact H6.out.dby c' (List.mem_filter.1 hc).1
                  · rw [List.mem_singleton.1 hc, upd_same]
                    have hbb := BBlk.of_own HR3.out h256.symm
                    exact ⟨hbb.keep Hk63.out, H2.out.isNew (by omega)⟩
                · rcases List.mem_append.1 hc with hc | hc
                  · exact H2.out.dok c' (List.mem_filter.1 hc).1
                  · rw [List.mem_singleton.1 hc]; exact ⟨hnP, h256⟩
                · rw [List.map_append, List.nodup_append]
                  refine ⟨?_, by simp, fun a ha b' hb' => ?_⟩
                  · have := H2.out.dn
                    exact this.sublist ((List.filter_sublist).map _)
                  · obtain ⟨c', hc, rfl⟩ := List.mem_map.1 ha
                    have hne : c'.1 ≠ n := by simpa using (List.mem_filter.1 hc).2
                    simp at hb'
                    rw [hb']
                    exact hne
              have O7 : Hid (Out (rWr q m) w w7) := by
                rw [hw7]
                exact ((Out.of_below (P := rWr q m) Hb2.out).comp (Out.of_below (P := rWr q m) HB6.out) (fun j hj => .inl hj)).comp ((setC_out w6 q 2 _).imp (fun _ _ e => .inl e)) (fun j hj => .inl hj)
              have A7 : Hid (∀ k, rAll q { m with dv := .slice (some ⟨g', 0, none⟩) N cap', db := upd m.db n b3, dc := upd m.dc n c3 } r7 k → rAll q m r k ∨ w.heap.size ≤ k) := by
                have hz2 := Hb2.out.size
                rintro k (e | e | e | e | e | ⟨c', hc, e⟩)
                · exact .inl (.inl e)
                · exact .inl (.inr (.inl e))
                · exact .inl (.inr (.inr (.inl e)))
                · exact .inl (.inr (.inr (.inr (.inl e))))
                · cases e; right; show w.heap.size ≤ g'; omega
                · rw [hr7] at hc
                  rcases List.mem_append.1 hc with hc | hc
                  · have hne : c'.1 ≠ n := by simpa using (List.mem_filter.1 hc).2
                    have e' : k = m.db c'.1 := by rw [e]; exact upd_ne _ _ hne
                    exact .inl (.inr (.inr (.inr (.inr (.inr ⟨c', (List.mem_filter.1 hc).1, e'⟩)))))
                  · have e' : k = b3 := by rw [e, List.mem_singleton.1 hc]; exact upd_same _ _ _
                    right; omega
              have Hr7 := hid hr7
              obtain ⟨m7, hm7⟩ : ∃ m7 : RM, m7 = { m with dv := .slice (some ⟨g', 0, none⟩) N cap', db := upd m.db n b3, dc := upd m.dc n c3 } := ⟨_, rfl⟩
              rw [← hm7] at H7 A7
              have hR7 : ∀ k, m7.R k → m.R k := fun k hk => by rw [hm7] at hk; exact hk
              have HR7 := hid hR7
              obtain ⟨ca7, ck7, hcv7, hnum7⟩ := numsRow H7.out.crow
              have ho7 : r7.ord = r.ord := by rw [hr7]
              have hp7 : r7.pins = r.pins := by rw [hr7]
              have Hp7 := hid hp7
              rw [ho7] at hcv7 hnum7
              have c73 := H7.out.c3
              have z73 := H7.out.z 3
              rw [hcv7] at c73
              rw [hw7] at c73 z73
              have Hwo := hid (rwithout_any w7 ca7 r.ord ck7 hnum7 (by omega) n)
              have Hcv7 := hid hcv7
              have Hw7 := hid hw7
              rw [hw7] at Hwo
              clear hw7 hr7 hm7 hR7 hcv7 hnum7 ho7 hp7 hmap Hown3 Hown6 H6
              go_wp2_with (fail)
              refine Hwo.out.mono ?_
              rintro e w8 ⟨v8, rfl, hr8, hb8⟩
              rw [← Hw7.out] at hr8 hb8
              clear c62 z62
              obtain ⟨a8, k8, hv8⟩ := own_slc hr8
              obtain ⟨M8, hM8⟩ : ∃ M8, M8 = (r.ord.filter (fun y => y != n)).length := ⟨_, rfl⟩
              have H8 := hid (H7.out.below hb8)
              have Hb8 := hid hb8
              have HR8 := hid hr8
              have c83 := H8.out.c3
              have z83 := H8.out.z 3
              rw [Hcv7.out] at c83
              rw [← hM8] at hv8
              subst hv8
              clear hr8 hb8 Hwo c73 z73
              have H9 := hid (H8.out.setC (v := .slice a8 M8 k8) (l := r.ord.filter (fun y => y != n)) (HR8.out.mono (by have := heap_lt H7.out.obj; have := H7.out.Bq; omega)) (fun k e => H7.out.isNew (HR8.out.lt k e).1))
              obtain ⟨w9, hw9⟩ : ∃ w9, w9 = w8.setCell ⟨q, 3, none⟩ (.slice a8 M8 k8) := ⟨_, rfl⟩
              rw [← hw9] at H9
              obtain ⟨pa9, pk9, hpv9, hpnum9⟩ := numsRow H9.out.prow
              have c94 := H9.out.c4
              have z94 := H9.out.z 4
              rw [hpv9] at c94
              have hp9 : ({ r7 with ord := r.ord.filter (fun y => y != n) } : RS).pins = r.pins := Hp7.out
              rw [hp9] at c94 hpnum9
              have Hp9 := hid hp9
              clear hp9
              have Hwo := hid (rwithout_any w9 pa9 r.pins pk9 hpnum9 (by omega) n)
              have Hpv9 := hid hpv9
              have HM8 := hid hM8
              rw [hw9] at c94 Hwo z94
              have Hw9 := hid hw9
              clear hw9 hpv9 hpnum9 hM8
              go_wp2_with (fail)
              refine Hwo.out.mono ?_
              rintro e w10 ⟨v10, rfl, hr10, hb10⟩
              rw [← Hw9.out] at hr10 hb10
              obtain ⟨a10, k10, hv10⟩ := own_slc hr10
              subst hv10
              have H10 := hid (H9.out.below hb10)
              have Hb10 := hid hb10
              have HR10 := hid hr10
              have c104 := H10.out.c4
              have z104 := H10.out.z 4
              rw [Hpv9.out, Hp9.out] at c104
              clear hr10 hb10 Hwo c94 z94
              have H11 := hid (H10.out.setP (v := .slice a10 (r.pins.filter (fun y => y != n)).length k10) (l := r.pins.filter (fun y => y != n)) (HR10.out.mono (by have := heap_lt H9.out.obj; have := H9.out.Bq; omega)) (fun k e => H9.out.isNew (HR10.out.lt k e).1))
              go_wp2
              go_ret
              refine ⟨rfl, ?_⟩
              have hs7 := O7.out.size
              have hs8 := Hb8.out.size
              have hs9 : w9.heap.size = w8.heap.size := by rw [Hw9.out]; exact setC_size _ _ _ _
              have hs10 := Hb10.out.size
              have O9 : Out (rWr q m) w w9 := by
                rw [Hw9.out]
                exact (O7.out.comp (Out.of_below (P := rWr q m) Hb8.out) (fun j hj => .inl hj)).comp ((setC_out w8 q 3 _).imp (fun _ _ e => .inl e)) (fun j hj => .inl hj)
              have hres : writeR r n y = { ({ r7 with ord := r.ord.filter (fun y => y != n) } : RS) with pins := r.pins.filter (fun y => y != n) } := by
                unfold writeR
                rw [Hr7.out]
              refine ⟨{ m7 with cv := .slice a8 M8 k8, pv := .slice a10 (r.pins.filter (fun y => y != n)).length k10 }, by rw [hres]; exact H11.out, (O9.comp (Out.of_below (P := rWr q m) Hb10.out) (fun j hj => .inl hj)).comp ((setC_out w10 q 4 _).imp (fun _ _ e => .inl e)) (fun j hj => .inl hj), fun k hk => .inl (HR7.out k hk), fun k hk => ?_⟩
              rw [hres] at hk
              rcases hk with e | e | e | e | e | ⟨c', hc, e⟩
              · exact .inl (.inl e)
              · exact .inl (.inr (.inl (HR7.out k e)))
              · right; have := (HR8.out.lt k e).1; omega
              · right; have := (HR10.out.lt k e).1; omega
              · exact A7.out k (.inr (.inr (.inr (.inr (.inl e)))))
              · exact A7.out k (.inr (.inr (.inr (.inr (.inr ⟨c', hc, e⟩)))))
        | false =>
          go_wp2_with (fail)
          go_loopw [9, 10] (fun v i wr => ∃ k : Nat, k ≤ r.dd.length ∧ i = .int .i64 k ∧ wr.ownsRow w2.heap.size 94 2 v (((r.dd.take k).filter (fun c => c.1 != n)).map (rpg m)).length (pgCells (((r.dd.take k).filter (fun c => c.1 != n)).map (rpg m))) ∧ Below w2.heap.size w2 wr) (fun _ i _ => r.dd.length - (intOf i).toNat)
          case atStart => exact ⟨0, Nat.zero_le _, rfl, World.ownsRow_nil _ _ _ _, Below.refl _ _⟩
          case round =>
            obtain ⟨k, hk, rfl, hown, hB⟩ := hrel
            have Hown := hid hown
            have HB := hid hB
            have Hk := hid (H2.out.below hB)
            have c2k := Hk.out.c2
            rw [Hdv.out] at c2k
            clear hown hB c22
            by_cases hlt : k < r.dd.length
            · have hrow := Hk.out.drow
              rw [Hdv.out, List.length_map] at hrow
              obtain ⟨g, c', e1, _, _⟩ := hrow.form (by omega)
              cases e1
              obtain ⟨hc0, hc1⟩ := pgs_of_row (l := r.dd.map (rpg m)) (by rw [List.length_map]; exact hrow) k (by rw [List.length_map]; exact hlt)
              rw [Nat.zero_add, List.getElem_map] at hc0 hc1
              have Htk := hid (List.take_succ_eq_append_getElem hlt)
              generalize r.dd[k] = cc at *
              obtain ⟨z, yz⟩ := cc
              have hc0' : wr.cell? ⟨g, k * 2, none⟩ = some (.int .i64 (z : Int)) := hc0
              have hc1' : wr.cell? ⟨g, k * 2 + 1, none⟩ = some (.slice (some ⟨m.db z, 0, none⟩) 256 (m.dc z)) := hc1
              have g1 : (k : Int) < (r.dd.length : Int) := by omega
              have g2 : (0 : Int) ≤ (k : Int) := by omega
              have hfl : (((r.dd.take k).filter (fun c => c.1 != n)).map (rpg m)).length ≤ 90 := by
                rw [List.length_map]
                refine Nat.le_trans (List.length_filter_le _ _) ?_
                rw [List.length_take]; omega
              have hsz := HB.out.size
              clear hc0 hc1 hrow
              by_cases he : z = n
              · have g3 : ((z : Int) != (n : Int)) = false := by simp [he]
                have g4 : (z : Int) = (n : Int) := by omega
                have Hst : Hid ((r.dd.take (k + 1)).filter (fun c => c.1 != n) = (r.dd.take k).filter (fun c => c.1 != n)) := by
                  show _ = _
                  rw [Htk.out, List.filter_append, List.filter_cons_of_neg (by simp [he])]
                  simp
                go_wp2
                go_roundw
                case rel => exact ⟨k + 1, by omega, by go_num, by rw [Hst.out]; exact Hown.out, HB.out⟩
                case measure => simp [intOf]; omega
              · have g3 : ((z : Int) != (n : Int)) = true := by simp; omega
                have g4 : ¬ (z : Int) = (n : Int) := by omega
                have Hst : Hid (((r.dd.take (k + 1)).filter (fun c => c.1 != n)).map (rpg m) = ((r.dd.take k).filter (fun c => c.1 != n)).map (rpg m) ++ [rpg m (z, yz)]) := by
                  show _ = _
                  rw [Htk.out, List.filter_append, List.filter_cons_of_pos (by simp [he]), List.map_append]
                  rfl
                generalize ((r.dd.take k).filter (fun c => c.1 != n)).map (rpg m) = t at *
                go_wp2_with (at_builtin; refine app_page wr rfl _ _ rfl w2.heap.size _ t rfl (by exact Hown.out) (rpg m (z, yz)) rfl rfl (by omega) hsz ?_; intro g' cap' w6 hown6 hb6)
                go_roundw
                case rel => exact ⟨k + 1, by omega, by go_num, by rw [Hst.out, show t.length + 1 = (t ++ [rpg m (z, yz)]).length from by simp]; exact hown6, HB.out.trans hb6⟩
                case measure => simp [intOf]; omega
            · have hkl : k = r.dd.length := by omega
              subst hkl
              have g1 : ¬ (r.dd.length : Int) < (r.dd.length : Int) := by omega
              have h6 := Hown.out
              rw [List.take_length] at h6
              have Hown2 := hid h6
              clear h6
              have hyw : Bytes wr (some ⟨b, 0, none⟩) y := (Hy.out.below Hb2.out).below HB.out
              have hcp := copyB y b 0 c wr hyw (by omega) (by omega)
              rw [h256] at hcp
              have Hcp := hid hcp
              have hfl : ((r.dd.filter (fun c => c.1 != n)).map (rpg m)).length ≤ 90 := by
                rw [List.length_map]
                exact Nat.le_trans (List.length_filter_le _ _) hdd
              have hsz := HB.out.size
              clear hyw hcp Hown
              go_wp2_with (fail)
              refine Hcp.out.mono ?_
              rintro e w3 ⟨v3, rfl, hr3, hb3⟩
              obtain ⟨b3, c3, rfl, _, _⟩ := hr3.form (by omega)
              have HR3 := hid hr3
              have Hb3 := hid hb3
              have HB3 := hid (HB.out.trans (hb3.mono HB.out.size))
              have Hown3 := hid (own_below Hown2.out hb3)
              have hsz3 := hb3.size
              obtain ⟨m', hm'⟩ : ∃ m' : RM, m' = { m with db := upd m.db n b3, dc := upd m.dc n c3 } := ⟨_, rfl⟩
              have Hm' := hid hm'
              have Hpgn : Hid (encPg (rpg m' (n, y)) = [.int .i64 (n : Int), .slice (some ⟨b3, 0, none⟩) 256 c3]) := by
                show _ = _
                rw [hm']
                unfold encPg rpg
                simp only [upd_same]
              clear hr3 hb3 Hcp hm'
              generalize ht : (r.dd.filter (fun c => c.1 != n)).map (rpg m) = t at *
              have Ht := hid ht
              clear ht
              have Hvl := hid (fun k (e : _ = some k) => (Hown2.out.lt k e).2)
              go_wp2_with (at_builtin; refine app_page2 w3 rfl _ _ rfl w2.heap.size _ t rfl (by exact Hown3.out) (rpg m' (n, y)) Hpgn.out rfl (by omega) (by omega) ?_; intro g' cap' w6 hown6 hb6 hkp6; refine halt ?_)
              unfold Halt
              have hk63 := hkp6 b3 (HR3.out.lt b3 rfl).2 (fun e => by have h1 := Hvl.out _ e; have h2 := (HR3.out.lt b3 rfl).1; omega)
              have Hk63 := hid hk63
              clear hk63 hkp6
              have H6 := hid (H2.out.below (HB3.out.trans hb6))
              have HB6 := hid (HB3.out.trans hb6)
              have Hown6 := hid hown6
              have c62 := H6.out.c2
              have z62 := H6.out.z 2
              rw [Hdv.out] at c62
              obtain ⟨N, hNe⟩ : ∃ N, N = t.length + 1 := ⟨_, rfl⟩
              have HNe : Hid (N = (t ++ [rpg m' (n, y)]).length) := hNe.trans (by simp)
              rw [← HNe.out] at Hown6
              rw [← hNe]
              clear hown6 hb6 hNe
              obtain ⟨w7, hw7⟩ : ∃ w7, w7 = w6.setCell ⟨q, 2, none⟩ (.slice (some ⟨g', 0, none⟩) N cap') := ⟨_, rfl⟩
              have hgl := Hown6.out.lt g' rfl
              have hbl3 := HR3.out.lt b3 rfl
              obtain ⟨r7, hr7⟩ : ∃ r7 : RS, r7 = { r with dd := r.dd.filter (fun c => c.1 != n) ++ [(n, y)] } := ⟨_, rfl⟩
              have hmap : (r.dd.filter (fun c => c.1 != n) ++ [(n, y)]).map (rpg m') = t ++ [rpg m' (n, y)] := by
                rw [List.map_append, ← Ht.out, rpg_congr (m := m) (m' := m') (fun c hc => by
                  have hne : c.1 ≠ n := by simpa using (List.mem_filter.1 hc).2
                  rw [Hm'.out]
                  exact ⟨upd_ne _ _ hne, upd_ne _ _ hne⟩)]
                rfl
              have H7 : Hid (RPm w7 B q { m with dv := .slice (some ⟨g', 0, none⟩) N cap', db := upd m.db n b3, dc := upd m.dc n c3 } r7) := by
                rw [hw7, hr7]
                refine H6.out.setD (upd m.db n b3) (upd m.dc n c3) ?_ (fun k e => by cases e; exact H2.out.isNew hgl.1) (fun c' hc => ?_) (fun c' hc => ?_) ?_
                · have e8 : ({ m with db := upd m.db n b3, dc := upd m.dc n c3 } : RM) = m' := Hm'.out.symm
                  rw [e8, hmap, ← HNe.out]
                  exact Hown6.out.mono (by have := heap_lt H2.out.obj; have := H2.out.Bq; omega)
                · rcases List.mem_append.1 hc with hc | hc
                  · have hne : c'.1 ≠ n := by simpa using (List.mem_filter.1 hc).2
                    rw [upd_ne _ _ hne]
                    exact H6.out.dby c' (List.mem_filter.1 hc).1
                  · rw [List.mem_singleton.1 hc, upd_same]
                    have hbb := BBlk.of_own HR3.out h256.symm
                    exact ⟨hbb.keep Hk63.out, H2.out.isNew (by omega)⟩
                · rcases List.mem_append.1 hc with hc | hc
                  · exact H2.out.dok c' (List.mem_filter.1 hc).1
                  · rw [List.mem_singleton.1 hc]; exact ⟨hnP, h256⟩
                · rw [List.map_append, List.nodup_append]
                  refine ⟨?_, by simp, fun a ha b' hb' => ?_⟩
                  · have := H2.out.dn
                    exact this.sublist ((List.filter_sublist).map _)
                  · obtain ⟨c', hc, rfl⟩ := List.mem_map.1 ha
                    have hne : c'.1 ≠ n := by simpa using (List.mem_filter.1 hc).2
                    simp at hb'
                    rw [hb']
                    exact hne
              have O7 : Hid (Out (rWr q m) w w7) := by
                rw [hw7]
                exact ((Out.of_below (P := rWr q m) Hb2.out).comp (Out.of_below (P := rWr q m) HB6.out) (fun j hj => .inl hj)).comp ((setC_out w6 q 2 _).imp (fun _ _ e => .inl e)) (fun j hj => .inl hj)
              have A7 : Hid (∀ k, rAll q { m with dv := .slice (some ⟨g', 0, none⟩) N cap', db := upd m.db n b3, dc := upd m.dc n c3 } r7 k → rAll q m r k ∨ w.heap.size ≤ k) := by
                have hz2 := Hb2.out.size
                rintro k (e | e | e | e | e | ⟨c', hc, e⟩)
                · exact .inl (.inl e)
                · exact .inl (.inr (.inl e))
                · exact .inl (.inr (.inr (.inl e)))
                · exact .inl (.inr (.inr (.inr (.inl e))))
                · cases e; right; show w.heap.size ≤ g'; omega
                · rw [hr7] at hc
                  rcases List.mem_append.1 hc with hc | hc
                  · have hne : c'.1 ≠ n := by simpa using (List.mem_filter.1 hc).2
                    have e' : k = m.db c'.1 := by rw [e]; exact upd_ne _ _ hne
                    exact .inl (.inr (.inr (.inr (.inr (.inr ⟨c', (List.mem_filter.1 hc).1, e'⟩)))))
                  · have e' : k = b3 := by rw [e, List.mem_singleton.1 hc]; exact upd_same _ _ _
                    right; omega
              have Hr7 := hid hr7
              obtain ⟨m7, hm7⟩ : ∃ m7 : RM, m7 = { m with dv := .slice (some ⟨g', 0, none⟩) N cap', db := upd m.db n b3, dc := upd m.dc n c3 } := ⟨_, rfl⟩
              rw [← hm7] at H7 A7
              have hR7 : ∀ k, m7.R k → m.R k := fun k hk => by rw [hm7] at hk; exact hk
              have HR7 := hid hR7
              obtain ⟨ca7, ck7, hcv7, hnum7⟩ := numsRow H7.out.crow
              have ho7 : r7.ord = r.ord := by rw [hr7]
              have hp7 : r7.pins = r.pins := by rw [hr7]
              have Hp7 := hid hp7
              rw [ho7] at hcv7 hnum7
              have c73 := H7.out.c3
              have z73 := H7.out.z 3
              rw [hcv7] at c73
              rw [hw7] at c73 z73
              have Hwo := hid (rwithout_any w7 ca7 r.ord ck7 hnum7 (by omega) n)
              have Hcv7 := hid hcv7
              have Hw7 := hid hw7
              rw [hw7] at Hwo
              clear hw7 hr7 hm7 hR7 hcv7 hnum7 ho7 hp7 hmap Hown3 Hown6 H6
              go_wp2_with (fail)
              refine Hwo.out.mono ?_
              rintro e w8 ⟨v8, rfl, hr8, hb8⟩
              rw [← Hw7.out] at hr8 hb8
              clear c62 z62
              obtain ⟨a8, k8, hv8⟩ := own_slc hr8
              obtain ⟨M8, hM8⟩ : ∃ M8, M8 = (r.ord.filter (fun y => y != n)).length := ⟨_, rfl⟩
              have H8 := hid (H7.out.below hb8)
              have Hb8 := hid hb8
              have HR8 := hid hr8
              have c83 := H8.out.c3
              have z83 := H8.out.z 3
              rw [Hcv7.out] at c83
              rw [← hM8] at hv8
              subst hv8
              clear hr8 hb8 Hwo c73 z73
              have H9 := hid (H8.out.setC (v := .slice a8 M8 k8) (l := r.ord.filter (fun y => y != n)) (HR8.out.mono (by have := heap_lt H7.out.obj; have := H7.out.Bq; omega)) (fun k e => H7.out.isNew (HR8.out.lt k e).1))
              obtain ⟨w9, hw9⟩ : ∃ w9, w9 = w8.setCell ⟨q, 3, none⟩ (.slice a8 M8 k8) := ⟨_, rfl⟩
              rw [← hw9] at H9
              obtain ⟨pa9, pk9, hpv9, hpnum9⟩ := numsRow H9.out.prow
              have c94 := H9.out.c4
              have z94 := H9.out.z 4
              rw [hpv9] at c94
              have hp9 : ({ r7 with ord := r.ord.filter (fun y => y != n) } : RS).pins = r.pins := Hp7.out
              rw [hp9] at c94 hpnum9
              have Hp9 := hid hp9
              clear hp9
              have Hwo := hid (rwithout_any w9 pa9 r.pins pk9 hpnum9 (by omega) n)
              have Hpv9 := hid hpv9
              have HM8 := hid hM8
              rw [hw9] at c94 Hwo z94
              have Hw9 := hid hw9
              clear hw9 hpv9 hpnum9 hM8
              go_wp2_with (fail)
              refine Hwo.out.mono ?_
              rintro e w10 ⟨v10, rfl, hr10, hb10⟩
              rw [← Hw9.out] at hr10 hb10
              obtain ⟨a10, k10, hv10⟩ := own_slc hr10
              subst hv10
              have H10 := hid (H9.out.below hb10)
              have Hb10 := hid hb10
              have HR10 := hid hr10
              have c104 := H10.out.c4
              have z104 := H10.out.z 4
              rw [Hpv9.out, Hp9.out] at c104
              clear hr10 hb10 Hwo c94 z94
              have H11 := hid (H10.out.setP (v := .slice a10 (r.pins.filter (fun y => y != n)).length k10) (l := r.pins.filter (fun y => y != n)) (HR10.out.mono (by have := heap_lt H9.out.obj; have := H9.out.Bq; omega)) (fun k e => H9.out.isNew (HR10.out.lt k e).1))
              go_wp2
              go_ret
              refine ⟨rfl, ?_⟩
              have hs7 := O7.out.size
              have hs8 := Hb8.out.size
              have hs9 : w9.heap.size = w8.heap.size := by rw [Hw9.out]; exact setC_size _ _ _ _
              have hs10 := Hb10.out.size
              have O9 : Out (rWr q m) w w9 := by
                rw [Hw9.out]
                exact (O7.out.comp (Out.of_below (P := rWr q m) Hb8.out) (fun j hj => .inl hj)).comp ((setC_out w8 q 3 _).imp (fun _ _ e => .inl e)) (fun j hj => .inl hj)
              have hres : writeR r n y = { ({ r7 with ord := r.ord.filter (fun y => y != n) } : RS) with pins := r.pins.filter (fun y => y != n) } := by
                unfold writeR
                rw [Hr7.out]
              refine ⟨{ m7 with cv := .slice a8 M8 k8, pv := .slice a10 (r.pins.filter (fun y => y != n)).length k10 }, by rw [hres]; exact H11.out, (O9.comp (Out.of_below (P := rWr q m) Hb10.out) (fun j hj => .inl hj)).comp ((setC_out w10 q 4 _).imp (fun _ _ e => .inl e)) (fun j hj => .inl hj), fun k hk => .inl (HR7.out k hk), fun k hk => ?_⟩
              rw [hres] at hk
              rcases hk with e | e | e | e | e | ⟨c', hc, e⟩
              · exact .inl (.inl e)
              · exact .inl (.inr (.inl (HR7.out k e)))
              · right; have := (HR8.out.lt k e).1; omega
              · right; have := (HR10.out.lt k e).1; omega
              · exact A7.out k (.inr (.inr (.inr (.inr (.inl e)))))
              · exact A7.out k (.inr (.inr (.inr (.inr (.inr ⟨c', hc, e⟩)))))
      · have Hpe : Hid (rwrE r (n : Int) y.length = 3) := by
          show _ = _
          unfold rwrE
          rw [if_neg (by omega), if_pos h256]
        rw [Hpe.out, if_neg (by decide)]
        have g3 : ¬ (y.length : Int) = 256 := by omega
        go_enter Tryz.func108, Tryz.ntmps108
        go_wp2_with (fail)
        refine Hpg.out.mono ?_
        rintro e w1 ⟨rfl, hb1⟩
        have Hb1 := hid hb1
        clear hb1 Hpg
        go_wp2
        go_ret
        exact ⟨rfl, RPo.of_below H.out Hb1.out⟩
end Go.Proofs.YthdcjepkehifoaaGreat
