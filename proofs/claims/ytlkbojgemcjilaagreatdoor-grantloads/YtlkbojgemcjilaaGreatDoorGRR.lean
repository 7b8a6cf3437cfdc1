/- Grants: the reference's Rows. -/
import Derived.Test.YtlkbojgemcjilaaGreatDoorGR1
import Derived.Test.YtlkbojgemcjilaaGreatDoorUR1
namespace Go.Proofs.YtlkbojgemcjilaaGreatDoor.Xr
open Go.RowKit Go.Maps Go.Shelf Go.Sort Go.Lib
set_option linter.unusedVariables false
set_option maxRecDepth 20000
theorem rNumG (n : Nat) (h : n ≤ 255) (w : World) : Calls Tryz.prog 45 #[.int .i64 (n : Int)] w fun e w' => e = .returned (.string (txtJ n)) ∧ Below w.heap.size w w' := refNum_any n (by omega) w
theorem rNumW (n : Nat) (h : n ≤ 255) (w : World) : Calls Tryz.prog 45 #[.int .i64 (IntKind.i64.wrap (n : Int))] w fun e w' => e = .returned (.string (txtJ n)) ∧ Below w.heap.size w w' := by
  rw [show IntKind.i64.wrap (n : Int) = (n : Int) by rw [IntKind.wrap_i64]; omega]
  exact rNumG n h w
set_option maxHeartbeats 8000000 in
theorem rRowsG_any {w : World} {B g : Nat} {s : GS} (h : RG w B g s) (ok : s.Ok) (hc4 : s.cs.length ≤ 400) (ha4 : s.al.length ≤ 900000) :
    Calls Tryz.prog 15 #[.pointer (some ⟨g, 0, none⟩)] w (PRowsG w s) := by
  obtain ⟨cv, av, h⟩ := h
  obtain ⟨ca, ccap, rfl, hx⟩ := clAt h.cs
  obtain ⟨aa, acap, rfl, hv⟩ := coAt h.al
  have Hx := hid hx
  have Hv := hid hv
  have Ok := hid ok
  obtain ⟨m, hm⟩ : ∃ m, m = s.cs.length := ⟨_, rfl⟩
  obtain ⟨N, hN⟩ : ∃ N, N = s.al.length := ⟨_, rfl⟩
  have H0 : Hid (∀ W, Below w.heap.size w W → W.cell? ⟨g, 0, none⟩ = some (.slice ca m ccap)) := fun W hW => by rw [hm]; exact (h.below hW).c0
  have H1 : Hid (∀ W, Below w.heap.size w W → W.cell? ⟨g, 1, none⟩ = some (.slice aa N acap)) := fun W hW => by rw [hN]; exact (h.below hW).c1
  rw [← hm] at hc4
  rw [← hN] at ha4
  have Hm := hid hm
  have HN := hid hN
  clear h ok hx hv hm hN
  go_enter Tryz.func15, Tryz.ntmps15
  go_wp2
  go_loopw [3, 4, 5] (fun v i _ wr => ∃ (k : Nat) (rs : List RC), k ≤ m ∧ i = .int .i64 (k : Int) ∧ RI w wr v rs ((s.cs.take k).map clRow)) (fun _ i _ _ => m - (intOf i).toNat)
  case atStart => exact ⟨0, [], Nat.zero_le _, rfl, RI.nil w⟩
  case round =>
    obtain ⟨k, rs, hk, rfl, hz⟩ := hrel
    have Z0 := hid hz
    have c0 := H0.out wr hz.be
    have Hrk : Hid (rs.length ≤ 400) := by
      show _ ≤ _
      rw [hz.is.length, List.length_map, List.length_take]
      omega
    clear hz
    by_cases hlt : k < m
    · have g1 : (k : Int) < (m : Int) := by omega
      have g2 : decide ((k : Int) < (m : Int)) = true := by simpa using hlt
      have hkl : k < s.cs.length := by have := Hm.out; omega
      obtain ⟨bb, rfl, d0, d1, d2, d3⟩ := Hx.out k hkl
      have Htk := hid (List.take_succ_eq_append_getElem hkl)
      have nm := Ok.out.names _ (List.getElem_mem hkl)
      have f : ∀ {a : Addr} {v : Value}, w.cell? a = some v → wr.cell? a = some v := fun hc => (Z0.out.be.cell (World.block_lt_of_cell? _ _ hc)).trans hc
      have e0 := f d0
      have e1 := f d1
      have e2 := f d2
      have e3 := f d3
      obtain ⟨x, hxk⟩ : ∃ x, x = s.cs[k] := ⟨_, rfl⟩
      rw [← hxk] at Htk e0 e1 e2 e3 nm
      clear hxk d0 d1 d2 d3 f hkl
      obtain ⟨xt, xn, xr, xs⟩ := x
      simp only at e0 e1 e2 e3 nm
      have zt : xt.size ≤ 9 := okN_len nm.1
      have zu : xn.size ≤ 9 := okN_len nm.2.1
      have q1 : ¬ 9223372036854775807 < xt.size + 1 := by omega
      have q2 : ¬ 9223372036854775807 < xt.size + 1 + xn.size := by omega
      obtain ⟨W, hW⟩ : ∃ W, W = wr.alloc (.cells #[.string xt, .string xn, .string xr, .int .u8 (xs : Int)] 56) := ⟨_, rfl⟩
      have bW : Below wr.heap.size wr W := by rw [hW]; exact (Below.refl _ _).alloc (Nat.le_refl _) _
      have xW : W.heap[wr.heap.size]? = some (.cells #[.string xt, .string xn, .string xr, .int .u8 (xs : Int)] 56 (0, 0)) := by rw [hW]; exact heap_allocN wr _
      have ZW := hid (Z0.out.below bW)
      have HW := hid hW.symm
      have HC := hid (fun (V : World) (hV : V.heap[wr.heap.size]? = some (.cells #[.string xt, .string xn, .string xr, .int .u8 (xs : Int)] 56 (0, 0))) => (show V.cell? ⟨wr.heap.size, 0, none⟩ = some (.string xt) ∧ V.cell? ⟨wr.heap.size, 1, none⟩ = some (.string xn) ∧ V.cell? ⟨wr.heap.size, 2, none⟩ = some (.string xr) ∧ V.cell? ⟨wr.heap.size, 3, none⟩ = some (.int .u8 (xs : Int)) from
        ⟨(cell_of_rowU _ _ 0 _ _ _ hV).trans rfl, (cell_of_rowU _ _ 1 _ _ _ hV).trans rfl, (cell_of_rowU _ _ 2 _ _ _ hV).trans rfl, (cell_of_rowU _ _ 3 _ _ _ hV).trans rfl⟩))
      have HS := hid (fun (V : World) (hV : Below W.heap.size W V) => HC.out V ((hV.block _ (heap_lt xW)).trans xW))
      have HK8 := hid (fun (V V' : World) (v : Value) (n9 : Nat) (xs9 : List Value) (hV : Below W.heap.size W V) (ho : V.ownsRow w.heap.size 79 2 v n9 xs9) (hg : V.grownBy V' v.ownBlock) => HC.out V' ((hg.block _ (heap_lt ((hV.block _ (heap_lt xW)).trans xW)) (own_ne_ty ho ((hV.block _ (heap_lt xW)).trans xW) (by decide)).symm).trans ((hV.block _ (heap_lt xW)).trans xW)))
      have Hnum := hid (fun (V : World) => rNumW xs nm.2.2.2 V)
      clear nm zt zu hW bW xW
      go_wp2_with go_in
      rw [HW.out]
      have z := hid (below_dN W.heap.size W 1)
      clear e0 e1 e2 e3 c0
      go_region_held3 (fun w9 => w9.cell? ⟨wr.heap.size, 0, none⟩ = some (.string xt) ∧ w9.cell? ⟨wr.heap.size, 1, none⟩ = some (.string xn) ∧ w9.cell? ⟨wr.heap.size, 2, none⟩ = some (.string xr) ∧ w9.cell? ⟨wr.heap.size, 3, none⟩ = some (.int .u8 (xs : Int)))
        (first
          | exact z8.out
          | exact HS.out _ z.out
          | exact HS.out _ (below_al z.out _)
          | exact HS.out _ (below_al (below_al z.out _) _))
        (first
          | ((with_reducible (show ite _ (Oper.wp _ { dst := some 44, op := _, type := _, pos := _, after := _, guard := _ } _ _ _ _) _)); rw [if_pos (by simp [Region.wanted])]; have bx := below_al z.out (.cells #[.string xr, .string (txtJ xs)] 9); have ro := ZW.out.below bx; refine app_rowR (.tmp 28) (.tmp 43) rfl (w1.alloc (.cells #[.string xr, .string (txtJ xs)] 9)) _ (some ⟨w1.heap.size, 0, none⟩) 2 2 rfl w.heap.size u3 rs rfl ro.own (by simp [go_sem]) (by have := Hrk.out; omega) ro.be.size ?_; intro v8 w8 h8 k8; have zz := hid (ro.app (cols := [xr, txtJ xs]) h8 k8 (Or.inr ⟨_, _, rfl, heap_allocN w1 _, rfl⟩) rfl); have z8 := hid (HK8.out _ _ _ _ _ bx ro.own k8); clear bx ro h8 k8)
          | (go_at_call 45; refine (Hnum.out _).mono ?_; rintro _ w1 ⟨rfl, b1⟩; have z := hid (Below.on' z.out b1); clear b1))
      all_goals go_wp2
      all_goals go_roundw
      all_goals first
        | exact ⟨k + 1, _, by omega, by go_num, by rw [Htk.out, List.map_append]; exact zz.out⟩
        | (simp [intOf]; omega)
    · have e : k = m := by omega
      subst e
      have g1 : ¬ (k : Int) < (k : Int) := by omega
      have g2 : decide ((k : Int) < (k : Int)) = false := by simp
      have R4 : Hid (RI w wr u3 rs (s.cs.map clRow)) := by
        have h3 := Z0.out
        rw [List.take_of_length_le (by have := Hm.out; omega)] at h3
        exact h3
      obtain ⟨Vr, hVr⟩ : ∃ Vr, Vr = wr := ⟨_, rfl⟩
      subst hVr
      go_wp2
      clear c0 g1 g2
      go_loopw [3, 6, 7] (fun v i _ wr => ∃ (j : Nat) (rs : List RC), j ≤ N ∧ i = .int .i64 (j : Int) ∧ RI w wr v rs (s.cs.map clRow ++ (s.al.take j).map coRow)) (fun _ i _ _ => N - (intOf i).toNat)
      case atStart => exact ⟨0, _, Nat.zero_le _, rfl, by rw [List.take_zero, List.map_nil, List.append_nil]; exact R4.out⟩
      case round =>
        obtain ⟨j, rs2, hj, rfl, hz2⟩ := hrel
        have Z2 := hid hz2
        have c1 := H1.out wr hz2.be
        have Hrk2 : Hid (rs2.length ≤ 1000000) := by
          show _ ≤ _
          rw [hz2.is.length, List.length_append, List.length_map, List.length_map, List.length_take]
          have := Hm.out
          omega
        clear hz2
        by_cases hlt2 : j < N
        · have g1 : (j : Int) < (N : Int) := by omega
          have g2 : decide ((j : Int) < (N : Int)) = true := by simpa using hlt2
          have hkl : j < s.al.length := by have := HN.out; omega
          obtain ⟨bb, rfl, d0, d1, d2, d3⟩ := Hv.out j hkl
          have Htk := hid (List.take_succ_eq_append_getElem hkl)
          have nm := Ok.out.anames _ (List.getElem_mem hkl)
          have hcs : ∀ c ∈ s.cs, c.n.size ≤ 9 := fun c hc => okN_len (Ok.out.names c hc).2.1
          have f : ∀ {a : Addr} {v : Value}, w.cell? a = some v → wr.cell? a = some v := fun hc => (Z2.out.be.cell (World.block_lt_of_cell? _ _ hc)).trans hc
          have e0 := f d0
          have e1 := f d1
          have e2 := f d2
          have e3 := f d3
          obtain ⟨x, hxk⟩ : ∃ x, x = s.al[j] := ⟨_, rfl⟩
          rw [← hxk] at Htk e0 e1 e2 e3 nm
          clear hxk d0 d1 d2 d3 f hkl
          obtain ⟨xt, xu, xn, xs⟩ := x
          simp only at e0 e1 e2 e3 nm
          have zt : xt.size ≤ 9 := okN_len nm.1
          have zu : xu.size ≤ 9 := okN_len nm.2.1
          have zn : xn.size ≤ 9 := by
            obtain ⟨_, _, _, c, hc, _, q, _⟩ := nm
            rw [← q]
            exact hcs c hc
          have q1 : ¬ 9223372036854775807 < xt.size + 1 := by omega
          have q2 : ¬ 9223372036854775807 < xt.size + 1 + xu.size := by omega
          have q3 : ¬ 9223372036854775807 < xt.size + 1 + xu.size + 1 := by omega
          have q4 : ¬ 9223372036854775807 < xt.size + 1 + xu.size + 1 + xn.size := by omega
          obtain ⟨W, hW⟩ : ∃ W, W = wr.alloc (.cells #[.string xt, .string xu, .string xn, .int .u8 (xs : Int)] 59) := ⟨_, rfl⟩
          have bW : Below wr.heap.size wr W := by rw [hW]; exact (Below.refl _ _).alloc (Nat.le_refl _) _
          have xW : W.heap[wr.heap.size]? = some (.cells #[.string xt, .string xu, .string xn, .int .u8 (xs : Int)] 59 (0, 0)) := by rw [hW]; exact heap_allocN wr _
          have ZW := hid (Z2.out.below bW)
          have HW := hid hW.symm
          have HC := hid (fun (V : World) (hV : V.heap[wr.heap.size]? = some (.cells #[.string xt, .string xu, .string xn, .int .u8 (xs : Int)] 59 (0, 0))) => (show V.cell? ⟨wr.heap.size, 0, none⟩ = some (.string xt) ∧ V.cell? ⟨wr.heap.size, 1, none⟩ = some (.string xu) ∧ V.cell? ⟨wr.heap.size, 2, none⟩ = some (.string xn) ∧ V.cell? ⟨wr.heap.size, 3, none⟩ = some (.int .u8 (xs : Int)) from
            ⟨(cell_of_rowU _ _ 0 _ _ _ hV).trans rfl, (cell_of_rowU _ _ 1 _ _ _ hV).trans rfl, (cell_of_rowU _ _ 2 _ _ _ hV).trans rfl, (cell_of_rowU _ _ 3 _ _ _ hV).trans rfl⟩))
          have HS := hid (fun (V : World) (hV : Below W.heap.size W V) => HC.out V ((hV.block _ (heap_lt xW)).trans xW))
          have HK8 := hid (fun (V V' : World) (v : Value) (n9 : Nat) (xs9 : List Value) (hV : Below W.heap.size W V) (ho : V.ownsRow w.heap.size 79 2 v n9 xs9) (hg : V.grownBy V' v.ownBlock) => HC.out V' ((hg.block _ (heap_lt ((hV.block _ (heap_lt xW)).trans xW)) (own_ne_ty ho ((hV.block _ (heap_lt xW)).trans xW) (by decide)).symm).trans ((hV.block _ (heap_lt xW)).trans xW)))
          have Hnum := hid (fun (V : World) => rNumW xs nm.2.2.1 V)
          clear nm zt zu zn hW bW xW hcs
          go_wp2_with go_in
          rw [HW.out]
          have z := hid (below_dN W.heap.size W 1)
          clear e0 e1 e2 e3 c1
          go_region_held3 (fun w9 => w9.cell? ⟨wr.heap.size, 0, none⟩ = some (.string xt) ∧ w9.cell? ⟨wr.heap.size, 1, none⟩ = some (.string xu) ∧ w9.cell? ⟨wr.heap.size, 2, none⟩ = some (.string xn) ∧ w9.cell? ⟨wr.heap.size, 3, none⟩ = some (.int .u8 (xs : Int)))
            (first
              | exact z8.out
              | exact HS.out _ z.out
              | exact HS.out _ (below_al z.out _)
              | exact HS.out _ (below_al (below_al z.out _) _))
            (first
              | ((with_reducible (show ite _ (Oper.wp _ { dst := some 85, op := _, type := _, pos := _, after := _, guard := _ } _ _ _ _) _)); rw [if_pos (by simp [Region.wanted])]; have bx := below_al z.out (.cells #[.string (txtJ xs)] 9); have ro := ZW.out.below bx; refine app_rowR (.tmp 65) (.tmp 84) rfl (w1.alloc (.cells #[.string (txtJ xs)] 9)) _ (some ⟨w1.heap.size, 0, none⟩) 1 1 rfl w.heap.size u3 rs2 rfl ro.own (by simp [go_sem]) (by have := Hrk2.out; omega) ro.be.size ?_; intro v8 w8 h8 k8; have zz := hid (ro.app (cols := [txtJ xs]) h8 k8 (Or.inr ⟨_, _, rfl, heap_allocN w1 _, rfl⟩) rfl); have z8 := hid (HK8.out _ _ _ _ _ bx ro.own k8); clear bx ro h8 k8)
              | (go_at_call 45; refine (Hnum.out _).mono ?_; rintro _ w1 ⟨rfl, b1⟩; have z := hid (Below.on' z.out b1); clear b1))
          all_goals go_wp2
          all_goals go_roundw
          all_goals first
            | exact ⟨j + 1, _, by omega, by go_num, by rw [Htk.out, List.map_append, ← List.append_assoc]; exact zz.out⟩
            | (simp [intOf]; omega)
        · have e : j = N := by omega
          subst e
          have g1 : ¬ (j : Int) < (j : Int) := by omega
          have g2 : decide ((j : Int) < (j : Int)) = false := by simp
          have h3 := Z2.out
          rw [List.take_of_length_le (by have := HN.out; omega)] at h3
          have HSo := hid (sortedG_any h3.own (by have := Hrk2.out; omega))
          have R5 := hid h3
          clear h3
          go_wp2_with (go_at_call 46; refine HSo.out.mono ?_; rintro _ w6 ⟨v6, S, rfl, ho6, hp6, hi6, hb6⟩; have O6 := hid ho6; have P6 := hid hp6; have I6 := hid hi6; have B6 := hid hb6; clear ho6 hp6 hi6 hb6)
          go_ret
          obtain ⟨m', p1, p2⟩ := RowsIs.perm P6.out (R5.out.is.below B6.out)
          exact ⟨_, S, m', rfl, own_mono O6.out R5.out.be.size, p2, p1, p2.order I6.out, R5.out.be.trans (B6.out.mono R5.out.be.size)⟩
end Go.Proofs.YtlkbojgemcjilaaGreatDoor.Xr
