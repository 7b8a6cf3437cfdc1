/- YthdcjepkehifoaaGreatVDrop + YthdcjepkehifoaaGreatVEvict + YthdcjepkehifoaaGreatVPush + YthdcjepkehifoaaGreatVUse + YthdcjepkehifoaaGreatVUse2 + YthdcjepkehifoaaGreatVRead -/
import Derived.Test.YthdcjepkehifoaaGreatVFn1
import Derived.Test.YthdcjepkehifoaaGreatYR
import Derived.Sort.OwnSortedInts
import Derived.Maps.AppendAt
import Derived.Deep.AppendLies
import Derived.BigQuiet
/- drop of package pager, by a contract. -/
namespace Go.Proofs.YthdcjepkehifoaaGreat
open Go.RowKit Go.Maps Go.Sort Go.Shelf
set_option linter.unusedVariables false
set_option maxRecDepth 20000
noncomputable def codeDrop (n : Nat) : Code := ((Tryz.f121.body.bind (regionAt n)).getD .skip)
set_option maxHeartbeats 1000000 in
theorem drop_region1 {V0 W5 V1 : World} {p X mb q : Nat} {A : Act} (sz : A.tmps.size = 18) (e0 : A.eval (.tmp 0) = .pointer (some ⟨p, 0, none⟩)) (e3 : A.eval (.tmp 3) = .pointer (some ⟨X, 0, none⟩)) (hV0 : V0 = W5.drew) (hs0 : V0.cell? ⟨p, 3, none⟩ = some (.map (some mb)) ∧ V0.cell? ⟨X, 0, none⟩ = some (.int .i64 (q : Int)))
    (hrun : (Builtin.delete_ #[151, 3] 0 #[.map (some mb), .int .i64 (q : Int)]).run Tryz.prog V0 = .ok (.tuple #[]) V1) (hs1 : V1.cell? ⟨p, 3, none⟩ = some (.map (some mb)) ∧ V1.cell? ⟨X, 0, none⟩ = some (.int .i64 (q : Int))) :
    (codeDrop 1).wp Tryz.prog (fun x a V => x = .normal ∧ a = (((((A.put (some 4) (.pointer (some ⟨p, 0, none⟩))).put (some 5) (.pointer (some ⟨p, 0, none⟩))).put (some 6) (.pointer (some ⟨p, 3, none⟩))).put (some 7) (.map (some mb))).put (some 8) (.int .i64 (q : Int))) ∧ V = V1) A W5 := by
  have hm : Tryz.prog.follows .mixedOrders = true := by kernel_rfl
  unfold codeDrop
  conv => arg 2; whnf
  refine wp_region_G (fun _ => false) (fun V => V.cell? ⟨p, 3, none⟩ = some (.map (some mb)) ∧ V.cell? ⟨X, 0, none⟩ = some (.int .i64 (q : Int))) hm ?_
  rw [show ({ W5 with drawn := W5.drawn + 1 } : World) = V0 from hV0.symm]
  refine wpAnyG_take (i := 0) (v := .pointer (some ⟨p, 0, none⟩)) rfl (by kernel_rfl) (by kernel_rfl) (by kernel_rfl) (fun _ _ _ h => nomatch h.1) (yg_mv (by simp [Region.wanted]) (.tmp 0) rfl e0) hs0 ?_
  show wpAnyG _ _ _ _ _ _ _ _ (A.put (some 4) (.pointer (some ⟨p, 0, none⟩))) _
  refine wpAnyG_take (i := 1) (v := .pointer (some ⟨p, 0, none⟩)) rfl (by kernel_rfl) (by kernel_rfl) (by kernel_rfl) (fun _ _ _ h => nomatch h.1) (yg_nil (by simp [Region.wanted]) (.tmp 4) rfl (ev_eq _ _ (by simp [sz]))) hs0 ?_
  show wpAnyG _ _ _ _ _ _ _ _ ((A.put (some 4) (.pointer (some ⟨p, 0, none⟩))).put (some 5) (.pointer (some ⟨p, 0, none⟩))) _
  refine wpAnyG_take (i := 2) (v := .pointer (some ⟨p, 3, none⟩)) rfl (by kernel_rfl) (by kernel_rfl) (by kernel_rfl) (fun _ _ _ h => nomatch h.1) (yg_fld (by simp [Region.wanted]) (.tmp 5) rfl (ev_eq _ _ (by simp [put_sz, sz])) (fun w => by simp [go_sem])) hs0 ?_
  show wpAnyG _ _ _ _ _ _ _ _ (((A.put (some 4) (.pointer (some ⟨p, 0, none⟩))).put (some 5) (.pointer (some ⟨p, 0, none⟩))).put (some 6) (.pointer (some ⟨p, 3, none⟩))) _
  refine wpAnyG_take (i := 3) (v := .map (some mb)) rfl (by kernel_rfl) (by kernel_rfl) (by kernel_rfl) (fun _ _ _ h => nomatch h.1) (yg_ld (by simp [Region.wanted]) (.tmp 6) rfl (ev_eq _ _ (by simp [put_sz, sz])) (fun w hw => by have h1 := hw.1; simp [go_sem, h1])) hs0 ?_
  show wpAnyG _ _ _ _ _ _ _ _ ((((A.put (some 4) (.pointer (some ⟨p, 0, none⟩))).put (some 5) (.pointer (some ⟨p, 0, none⟩))).put (some 6) (.pointer (some ⟨p, 3, none⟩))).put (some 7) (.map (some mb))) _
  refine wpAnyG_take (i := 4) (v := .int .i64 (q : Int)) rfl (by kernel_rfl) (by kernel_rfl) (by kernel_rfl) (fun _ _ _ h => nomatch h.1) (yg_ld (by simp [Region.wanted]) (.tmp 3) rfl ((ev_ne _ _ (by decide)).trans ((ev_ne _ _ (by decide)).trans ((ev_ne _ _ (by decide)).trans ((ev_ne _ _ (by decide)).trans e3)))) (fun w hw => by have h1 := hw.2; simp [go_sem, h1])) hs0 ?_
  show wpAnyG _ _ _ _ _ _ _ _ (((((A.put (some 4) (.pointer (some ⟨p, 0, none⟩))).put (some 5) (.pointer (some ⟨p, 0, none⟩))).put (some 6) (.pointer (some ⟨p, 3, none⟩))).put (some 7) (.map (some mb))).put (some 8) (.int .i64 (q : Int))) _
  refine wpAnyG_all (rs := [5]) (by kernel_rfl) (by simp) fun i1 hm1 => ?_
  obtain rfl : i1 = 5 := by simpa using hm1
  refine wpOp_own rfl rfl fun K1 hK1 => ?_
  refine wp_delete 7 8 rfl ((ev_ne _ _ (by decide)).trans (ev_eq _ _ (by simp [put_sz, sz]))) (ev_eq _ _ (by simp [put_sz, sz])) hrun ?_
  exact hK1 _ _ ⟨.inr hs1, wpAnyG_done (by kernel_rfl) ⟨rfl, rfl, rfl⟩ _⟩

set_option maxHeartbeats 400000 in
/-- the closure of drop: is it that number? -/
theorem drop1_any (q x : Int) (X : Nat) (W : World) (hc : W.cell? ⟨X, 0, none⟩ = some (.int .i64 q)) :
    FnGives Tryz.prog 159 #[.pointer (some ⟨X, 0, none⟩)] #[.int .i64 x] (.bool (x == q)) W := by
  show Calls Tryz.prog 159 #[.int .i64 x, .pointer (some ⟨X, 0, none⟩)] W _
  go_enter Tryz.func159, Tryz.ntmps159
  go_wp2
  go_ret
  exact ⟨rfl, 0, rfl⟩
/-- numbers as integers -/
def zOf (l : List Nat) : List Int := l.map fun (x : Nat) => (x : Int)
theorem natCells_z (l : List Nat) : natCells l = (zOf l).map (Value.int .i64) := by simp [natCells, zOf]
theorem zOf_length (l : List Nat) : (zOf l).length = l.length := by simp [zOf]
theorem zOf_filter (l : List Nat) (q : Nat) : (zOf l).filter (fun x => !(x == (q : Int))) = zOf (l.filter (fun x => x != q)) := by
  unfold zOf
  rw [List.filter_map]
  congr 1
  apply List.filter_congr
  intro x _
  show (!((x : Int) == (q : Int))) = (x != q)
  rw [bne, show ((x : Int) == (q : Int)) = (x == q) by rw [Bool.eq_iff_iff]; simp; omega]
/-- what DeleteFunc leaves of a row of numbers -/
theorem row_kept {w w' : World} {g cap k : Nat} {l : List Nat} {L : List Int} (h : w.ownsRow 0 3 1 (.slice (some ⟨g, 0, none⟩) l.length cap) l.length (natCells l)) (hw : w' = putRow (Value.int .i64) (Sort.ahead w k) g 0 (L ++ List.replicate (l.length - L.length) 0).toArray) (hL : L.length ≤ l.length) :
    w'.ownsRow 0 3 1 (.slice (some ⟨g, 0, none⟩) L.length cap) L.length (L.map (Value.int .i64)) ∧ w.grownBy w' (some g) := by
  subst hw
  have hg := grownBy_sortedI (w := w) (g := g) (n := k) (os := #[]) (L ++ List.replicate (l.length - L.length) 0).toArray
  rw [grow_empty] at hg
  refine ⟨?_, hg⟩
  rcases h.2 with ⟨e, _⟩ | ⟨g', cap', cur, e, hb, hh, hn, hc, hs, ht⟩
  · cases e
  · cases e
    have hh' := heap_sortedI (n := k) (os := #[]) (L ++ List.replicate (l.length - L.length) 0).toArray hh
    rw [grow_empty] at hh'
    refine ⟨by simp, .inr ⟨g, cap, _, rfl, hb, hh', by omega, hc, by simp [putCells, hs], ?_⟩⟩
    have hlen : (L ++ List.replicate (l.length - L.length) (0 : Int)).length = l.length := by simp; omega
    have h1 := take_putCellsI cur (L ++ List.replicate (l.length - L.length) 0) (by rw [hlen, hs]; omega)
    rw [Nat.mul_one]
    have h2 := congrArg (List.take L.length) h1
    rw [List.take_take, Nat.min_eq_left (by rw [hlen]; exact hL), List.map_append, List.take_append_of_le_length (by simp)] at h2
    rw [h2, List.take_of_length_le (by simp)]
theorem zeroInt (w : World) : (zeroValue 3).run Tryz.prog w = .ok (.int .i64 0) w := by kernel_rfl
set_option maxHeartbeats 1000000 in
/-- slices.DeleteFunc of a row of numbers, by the closure of drop -/
theorem delFunc_any {w : World} {X q : Nat} {v : Value} {l : List Nat} (h : w.ownsRow 0 3 1 v l.length (natCells l)) (hX : w.cell? ⟨X, 0, none⟩ = some (.int .i64 (q : Int))) (hne : v.ownBlock ≠ some X) (hl : l.length ≤ 1000) :
    Calls Tryz.prog 158 #[v, .func (.func 159) #[] #[.pointer (some ⟨X, 0, none⟩)]] w fun e w' => ∃ a n c, e = .returned (.slice a n c) ∧ w'.ownsRow 0 3 1 (.slice a n c) (l.filter (fun x => x != q)).length (natCells (l.filter (fun x => x != q))) ∧ (Value.slice a n c).ownBlock = v.ownBlock ∧ w.grownBy w' v.ownBlock := by
  have eg : ∀ args w, (callFunc 159 args).run Tryz.prog w = .ok (.enter 159 args) w := enters_of Tryz.func159 (by kernel_rfl) rfl
  have hXl : X < w.heap.size := World.block_lt_of_cell? _ _ hX
  have hp : PredAt Tryz.prog 159 #[.pointer (some ⟨X, 0, none⟩)] (Value.int .i64) (fun x => x == (q : Int)) w := fun W x hb => drop1_any q x X W ((hb.cell (p := ⟨X, 0, none⟩) hXl).trans hX)
  rcases h.2 with ⟨rfl, h0⟩ | ⟨g, cap, cur, rfl, hb, hh, hn, hc, hs, ht⟩
  · have hl0 : l = [] := List.eq_nil_of_length_eq_zero h0
    subst hl0
    have hI := AnyE.slices_IndexFunc_empty (P := Tryz.prog) (ρ := Tryz.idxF_ren) Tryz.idxF none 0 (.func (.func 159) #[] #[.pointer (some ⟨X, 0, none⟩)]) w
    change Calls Tryz.prog 160 _ _ _ at hI
    clear h hp eg hX
    go_enter Tryz.func158, Tryz.ntmps158
    go_wp2_with (go_at_call 160; refine hI.mono ?_; rintro e w' ⟨rfl, e9⟩; subst w')
    go_ret
    exact ⟨_, _, _, rfl, World.ownsRow_nil _ _ _ _, rfl, ⟨rfl, rfl, rfl, Nat.le_refl _, fun _ _ _ => rfl⟩⟩
  · have hH : Holds (Value.int .i64) w g 0 (zOf l).toArray := holds_of_blockI hh (by rw [zOf_length, ← natCells_z]; rw [Nat.mul_one] at ht; exact ht)
    have hgX : X ≠ g := fun e => hne (by rw [e]; rfl)
    have hpo : PredOver Tryz.prog 159 #[.pointer (some ⟨X, 0, none⟩)] (Value.int .i64) (fun x => x == (q : Int)) g 0 (zOf l).toArray.size w := fun n os dk x _ => drop1_any q x X _ (by
      unfold sortWorld
      rw [cell?_grow _ _ _ (by show X < (putRow _ _ _ _ _).heap.size; rw [size_putRow]; exact hXl), cell?_putRow_other _ _ g 0 _ _ (Or.inl hgX)]
      exact hX)
    have hcon := AnyE.slices_DeleteFunc (P := Tryz.prog) (ρ := Tryz.delF_ren) Tryz.delF (Value.int .i64) (fun _ => rfl) (fun x => x == (q : Int)) 159 #[.pointer (some ⟨X, 0, none⟩)] eg 0 zeroInt g 0 cap (zOf l).toArray w hp hpo hH (by simp [zOf]; omega) (by simp [zOf]; omega)
    change Calls Tryz.prog 158 _ _ _ at hcon
    rw [show (zOf l).toArray.size = l.length by simp [zOf], show (zOf l).toArray.toList = zOf l by simp, zOf_filter] at hcon
    have hle : (zOf (l.filter (fun x => x != q))).length ≤ l.length := by rw [zOf_length]; exact List.length_filter_le _ _
    refine hcon.mono ?_
    rintro e w' ⟨rfl, k, hw⟩
    obtain ⟨h1, h2⟩ := row_kept h hw hle
    rw [zOf_length, ← natCells_z] at h1
    exact ⟨_, _, _, by rw [zOf_length], h1, rfl, h2⟩
/-- a state whose clean pages are fewer -/
theorem CaOk.drop {s : PS} (h : CaOk s) (q : Nat) : CaOk { s with ord := s.ord.filter (fun x => x != q) } := by
  refine ⟨h.nd.filter _, fun x hx => h.olt x (List.mem_filter.1 hx).1, Nat.le_trans (List.length_filter_le _ _) h.ol, h.mo1, h.mo2, h.dup, h.dlt, h.dlen, h.hit, h.mit⟩
def dropS (s : PS) (q : Nat) : PS := { s with ord := s.ord.filter (fun x => x != q) }
def DropPost (w : World) (p : Nat) (m : PM) (s : PS) (q : Nat) (e : Ending) (w' : World) : Prop :=
  e = .returned (.tuple #[]) ∧ ∃ ov', PgMem w' p { m with ov := ov' } (dropS s q) ∧ ov'.ownBlock = m.ov.ownBlock ∧ Out (clB p m) w w'
set_option maxHeartbeats 2000000 in
theorem drop_any {w : World} {p : Nat} {m : PM} {s : PS} (h : PgMem w p m s) (q : Nat) (hq : q ≤ 9223372036854775807) :
    Calls Tryz.prog 121 #[.pointer (some ⟨p, 0, none⟩), .int .i64 (q : Int)] w (DropPost w p m s q) := by
  obtain ⟨W0, hW0⟩ : ∃ W0, W0 = w.alloc (.cells #[.int .i64 (q : Int)] 3) := ⟨_, rfl⟩
  have b0 : Below w.heap.size w W0 := by rw [hW0]; exact (Below.refl _ w).alloc (Nat.le_refl _) _
  have x0 : W0.heap[w.heap.size]? = some (.cells #[.int .i64 (q : Int)] 3 (0, 0)) := by rw [hW0]; exact heap_alloc_new w _
  obtain ⟨V0, hV0⟩ : ∃ V0, V0 = W0.drew := ⟨_, rfl⟩
  have bV : Below W0.heap.size W0 V0 := by rw [hV0]; exact (Below.refl _ W0).drew
  have bwV : Below w.heap.size w V0 := Below.on' b0 bV
  have h0 := h.below bwV
  obtain ⟨V1, hrun, hcm, hg⟩ := h0.cmap.del Tryz.underlying151 q hq 0
  have hXp : w.heap.size ≠ p := fun e => by have := h.lts p (.inl (.inl rfl)); omega
  have hXc : w.heap.size ≠ m.cm := fun e => by have := h.cmap.lt; omega
  have hXo : m.ov.ownBlock ≠ some w.heap.size := fun e => by have := (h.row.lt _ e).2; omega
  have xV0 : V0.heap[w.heap.size]? = some (.cells #[.int .i64 (q : Int)] 3 (0, 0)) := (bV.block _ (heap_lt x0)).trans x0
  have xV1 : V1.heap[w.heap.size]? = some (.cells #[.int .i64 (q : Int)] 3 (0, 0)) := (hg.block _ (heap_lt xV0) (fun e => hXc (Option.some.inj e))).trans xV0
  have pV1 : V1.heap[p]? = some (.cells (pgObj m s) 154 (0, 0)) := (hg.block _ (heap_lt h0.obj) (fun e => h.p_cm (Option.some.inj e))).trans h0.obj
  have rV1 : V1.ownsRow 0 3 1 m.ov s.ord.length (natCells s.ord) := ownsRow_keep h0.row (fun k hk => hg.block k (h0.row.lt k hk).2 (fun e => h.ov_cm (hk.trans e)))
  have o1 : Out (clB p m) w V1 := (Out.of_below bwV).trans (Out.of_grown (P := clB p m) hg (.inr (.inl rfl))) (fun _ _ x => x)
  have hlen : s.ord.length ≤ 65 := by have h1 := h.ok.ol; have h2 := h.ok.mo2; omega
  have HD := hid (delFunc_any rV1 (cell_of_row _ _ 0 _ _ _ xV1) hXo (by omega))
  have c4 : V1.cell? ⟨p, 4, none⟩ = some m.ov := cell_of_row _ _ 4 _ _ _ pV1
  have Hcm := hid hcm
  have PV1 := hid pV1
  have O1 := hid o1
  have H := hid h
  have hs0 : V0.cell? ⟨p, 3, none⟩ = some (.map (some m.cm)) ∧ V0.cell? ⟨w.heap.size, 0, none⟩ = some (.int .i64 (q : Int)) := ⟨h0.c3, cell_of_row _ _ 0 _ _ _ xV0⟩
  have hs1 : V1.cell? ⟨p, 3, none⟩ = some (.map (some m.cm)) ∧ V1.cell? ⟨w.heap.size, 0, none⟩ = some (.int .i64 (q : Int)) := ⟨cell_of_row _ _ 3 _ _ _ pV1, cell_of_row _ _ 0 _ _ _ xV1⟩
  have HW := hid hW0
  have HV := hid hV0
  have Hs0 := hid hs0
  have Hs1 := hid hs1
  have Hrun := hid hrun
  obtain ⟨ov, hov⟩ : ∃ ov, ov = m.ov := ⟨_, rfl⟩
  have Hov := hid hov
  obtain ⟨a4, n4, k4, hov4⟩ : ∃ a4 n4 k4, ov = .slice a4 n4 k4 := by
    rw [hov]
    rcases h.row.2 with ⟨e, _⟩ | ⟨g, cap, cur, e, _⟩
    · exact ⟨_, _, _, e⟩
    · exact ⟨_, _, _, e⟩
  rw [← hov] at HD c4
  rw [hov4] at c4 HD
  have Hov4 := hid hov4
  clear h h0 hW0 hV0 b0 x0 bV bwV hcm hg hXp hXc hXo xV0 xV1 pV1 rV1 o1 hlen hs0 hs1 hrun hov hov4
  go_enter Tryz.func121, Tryz.ntmps121
  go_wp2_with fail
  rw [show w.alloc (.cells #[.int .i64 (q : Int)] 3) = W0 from HW.out.symm]
  refine wp_act _ fun A hA => ?_
  have sz : A.tmps.size = 18 := by rw [hA]; rfl
  have e0 : A.eval (.tmp 0) = .pointer (some ⟨p, 0, none⟩) := by rw [hA]; rfl
  have e3 : A.eval (.tmp 3) = .pointer (some ⟨w.heap.size, 0, none⟩) := by rw [hA]; rfl
  refine wp_split _ (drop_region1 sz e0 e3 HV.out Hs0.out Hrun.out Hs1.out) ?_
  rintro _ V ⟨rfl, e9⟩
  subst V
  rw [hA]
  simp only [Act.put, List.setIfInBounds_toArray, List.set_cons_succ, List.set_cons_zero]
  clear sz e0 e3 hA A
  go_wp2_with (go_at_call 158; refine HD.out.mono ?_; rintro e w2 ⟨a2, n2, k2, rfl, hrow, hown, hg2⟩; have HR := hid hrow; have HO := hid hown; have HG := hid hg2; have PV2 : Hid (w2.heap[p]? = some (.cells (pgObj m s) 154 (0, 0))) := (hg2.block p (heap_lt PV1.out) (fun e => H.out.ov_p (by rw [← Hov.out, Hov4.out]; exact e.symm))).trans PV1.out; have d4 : w2.cell? ⟨p, 4, none⟩ = some (.slice a4 n4 k4) := (cell_of_row _ _ 4 _ _ _ PV2.out).trans (by rw [← Hov4.out, Hov.out]; rfl); have z4 : w2.frozen? ⟨p, 4, none⟩ = false := frozen_of_row _ _ 4 _ _ PV2.out; clear hrow hown hg2)
  go_end0
  have hovb : (Value.slice a2 n2 k2).ownBlock = m.ov.ownBlock := by rw [HO.out, ← Hov4.out, Hov.out]
  have ho2 : Out (clB p m) V1 w2 := ⟨HG.out.os, HG.out.tape, HG.out.output, HG.out.size, fun k hk hp => HG.out.block k hk (fun e => hp (.inr (.inr (by rw [← Hov.out, Hov4.out]; exact e.symm))))⟩
  have ho3 : Out (clB p m) w2 (w2.setCell ⟨p, 4, none⟩ (.slice a2 n2 k2)) := ⟨rfl, rfl, rfl, by simp [World.setCell], fun k hk hp => heap_setCell_other _ _ _ _ (fun e => hp (.inl e))⟩
  have hO : Out (clB p m) w (w2.setCell ⟨p, 4, none⟩ (.slice a2 n2 k2)) := (O1.out.trans ho2 (fun _ _ x => x)).trans ho3 (fun _ _ x => x)
  have hcm2 : w2.heap[m.cm]? = V1.heap[m.cm]? := HG.out.block _ Hcm.out.lt (fun e => H.out.ov_cm (by rw [← Hov.out, Hov4.out]; exact e.symm))
  refine ⟨rfl, .slice a2 n2 k2, ?_, hovb, hO⟩
  refine H.out.clean hO (.slice a2 n2 k2) m.cn m.fr m.fb m.fc (s.ord.filter (fun x => x != q)) s.pin s.hi s.mi s.u (Nat.le_refl _) ?_ ?_ ?_ ?_ ?_ ?_ H.out.cnt (H.out.ok.drop q)
  · rw [heap_setCell_same w2 p 4 _ _ _ PV2.out]
    rfl
  · exact ownsRow_keep HR.out (fun k hk => heap_setCell_other _ _ _ _ (fun e => H.out.ov_p (by rw [← hovb, hk]; exact congrArg some e)))
  · refine VMap.congr (VMap.keep Hcm.out (w' := w2.setCell ⟨p, 4, none⟩ (.slice a2 n2 k2)) ((heap_setCell_other _ _ _ _ (fun e => H.out.p_cm e.symm)).trans hcm2)) (fun x => ?_)
    unfold clOf
    by_cases hx : x = q
    · rw [if_pos hx, if_neg (by rw [List.mem_filter]; simp [hx])]
    · rw [if_neg hx]
      by_cases hm : x ∈ s.ord
      · rw [if_pos hm, if_pos (List.mem_filter.2 ⟨hm, by simp [hx]⟩)]
      · rw [if_neg hm, if_neg (fun h => hm (List.mem_filter.1 h).1)]
  · intro x hx
    have hx' := (List.mem_filter.1 hx).1
    have hf := H.out.fr_ne hx'
    exact (hO.block _ (heap_lt (H.out.frm x hx')) (by
      rintro (e | e | e)
      · exact hf.1 e
      · exact hf.2.2.2.1 e
      · exact hf.2.2.1 e)).trans (H.out.frm x hx')
  · intro x hx
    have hx' := (List.mem_filter.1 hx).1
    exact (H.out.fby x hx').keep (hO.block _ (H.out.fby x hx').lt (fun hc => H.out.byt (H.out.fby x hx') (by
      rcases hc with e | e | e
      · exact .inl e
      · exact .inr (.inr (.inr (.inl e)))
      · exact .inr (.inr (.inl e)))))
  · intro x hx y hy e
    exact H.out.inj x (List.mem_filter.1 hx).1 y (List.mem_filter.1 hy).1 e
end Go.Proofs.YthdcjepkehifoaaGreat

/- evict of package pager, by a contract. -/
namespace Go.Proofs.YthdcjepkehifoaaGreat
open Go.RowKit Go.Maps Go.Sort Go.Shelf
set_option linter.unusedVariables false
set_option maxRecDepth 20000
theorem hf_drop : ∀ (args : Array Value) (w : World), (callFunc 121 args).run Tryz.prog w = .ok (.enter 121 args) w := fun args w => by simp [go_sem]
noncomputable def codeEvict (n : Nat) : Code := ((Tryz.f157.body.bind (regionAt n)).getD .skip)
set_option maxHeartbeats 1000000 in
theorem evict_region2 {V0 W5 : World} {p X g i n c q : Nat} {m : PM} {s : PS} {A : Act} (sz : A.tmps.size = 18) (e1 : A.eval (.tmp 1) = .pointer (some ⟨X, 0, none⟩)) (e2 : A.eval (.tmp 2) = .int .i64 (i : Int)) (hV0 : V0 = W5.drew) (hs0 : V0.cell? ⟨X, 0, none⟩ = some (.pointer (some ⟨p, 0, none⟩)) ∧ V0.cell? ⟨p, 4, none⟩ = some (.slice (some ⟨g, 0, none⟩) n c) ∧ V0.cell? ⟨g, i, none⟩ = some (.int .i64 (q : Int))) (H : PgMem V0 p m s) (hq : q ≤ 9223372036854775807) (hin : i < n) :
    (codeEvict 2).wp Tryz.prog (fun x a V => x = .normal ∧ a = (((((((((A.put (some 9) (.pointer (some ⟨p, 0, none⟩))).put (some 10) (.pointer (some ⟨p, 0, none⟩))).put (some 11) (.pointer (some ⟨p, 0, none⟩))).put (some 12) (.pointer (some ⟨p, 4, none⟩))).put (some 13) (.slice (some ⟨g, 0, none⟩) n c)).put (some 14) (.int .i64 (i : Int))).put (some 15) (.pointer (some ⟨g, i, none⟩))).put (some 16) (.int .i64 (q : Int))).put (some 17) (.tuple #[])) ∧ ∃ ov', PgMem V p { m with ov := ov' } (dropS s q) ∧ ov'.ownBlock = m.ov.ownBlock ∧ Out (clB p m) V0 V) A W5 := by
  have hm : Tryz.prog.follows .mixedOrders = true := by kernel_rfl
  have hi0 : (0 : Int) ≤ (i : Int) := by omega
  have hi1 : (i : Int) < (n : Int) := by omega
  unfold codeEvict
  conv => arg 2; whnf
  refine wp_region_G (fun i => i == 8) (fun V => V.cell? ⟨X, 0, none⟩ = some (.pointer (some ⟨p, 0, none⟩)) ∧ V.cell? ⟨p, 4, none⟩ = some (.slice (some ⟨g, 0, none⟩) n c) ∧ V.cell? ⟨g, i, none⟩ = some (.int .i64 (q : Int))) hm ?_
  rw [show ({ W5 with drawn := W5.drawn + 1 } : World) = V0 from hV0.symm]
  refine wpAnyG_take (i := 0) (v := .pointer (some ⟨p, 0, none⟩)) rfl (by kernel_rfl) (by kernel_rfl) (by kernel_rfl) (fun _ _ _ h => nomatch h.1) (yg_ld (by simp [Region.wanted]) (.tmp 1) rfl e1 (fun w hw => by have h1 := hw.1; simp [go_sem, h1])) hs0 ?_
  show wpAnyG _ _ _ _ _ _ _ _ (A.put (some 9) (.pointer (some ⟨p, 0, none⟩))) _
  refine wpAnyG_take (i := 1) (v := .pointer (some ⟨p, 0, none⟩)) rfl (by kernel_rfl) (by kernel_rfl) (by kernel_rfl) (fun _ _ _ h => nomatch h.1) (yg_ld (by simp [Region.wanted]) (.tmp 1) rfl ((ev_ne _ _ (by decide)).trans e1) (fun w hw => by have h1 := hw.1; simp [go_sem, h1])) hs0 ?_
  show wpAnyG _ _ _ _ _ _ _ _ ((A.put (some 9) (.pointer (some ⟨p, 0, none⟩))).put (some 10) (.pointer (some ⟨p, 0, none⟩))) _
  refine wpAnyG_take (i := 2) (v := .pointer (some ⟨p, 0, none⟩)) rfl (by kernel_rfl) (by kernel_rfl) (by kernel_rfl) (fun _ _ _ h => nomatch h.1) (yg_nil (by simp [Region.wanted]) (.tmp 10) rfl (ev_eq _ _ (by simp [put_sz, sz]))) hs0 ?_
  show wpAnyG _ _ _ _ _ _ _ _ (((A.put (some 9) (.pointer (some ⟨p, 0, none⟩))).put (some 10) (.pointer (some ⟨p, 0, none⟩))).put (some 11) (.pointer (some ⟨p, 0, none⟩))) _
  refine wpAnyG_take (i := 3) (v := .pointer (some ⟨p, 4, none⟩)) rfl (by kernel_rfl) (by kernel_rfl) (by kernel_rfl) (fun _ _ _ h => nomatch h.1) (yg_fld (by simp [Region.wanted]) (.tmp 11) rfl (ev_eq _ _ (by simp [put_sz, sz])) (fun w => by simp [go_sem])) hs0 ?_
  show wpAnyG _ _ _ _ _ _ _ _ ((((A.put (some 9) (.pointer (some ⟨p, 0, none⟩))).put (some 10) (.pointer (some ⟨p, 0, none⟩))).put (some 11) (.pointer (some ⟨p, 0, none⟩))).put (some 12) (.pointer (some ⟨p, 4, none⟩))) _
  refine wpAnyG_take (i := 4) (v := .slice (some ⟨g, 0, none⟩) n c) rfl (by kernel_rfl) (by kernel_rfl) (by kernel_rfl) (fun _ _ _ h => nomatch h.1) (yg_ld (by simp [Region.wanted]) (.tmp 12) rfl (ev_eq _ _ (by simp [put_sz, sz])) (fun w hw => by have h1 := hw.2.1; simp [go_sem, h1])) hs0 ?_
  show wpAnyG _ _ _ _ _ _ _ _ (((((A.put (some 9) (.pointer (some ⟨p, 0, none⟩))).put (some 10) (.pointer (some ⟨p, 0, none⟩))).put (some 11) (.pointer (some ⟨p, 0, none⟩))).put (some 12) (.pointer (some ⟨p, 4, none⟩))).put (some 13) (.slice (some ⟨g, 0, none⟩) n c)) _
  refine wpAnyG_take (i := 5) (v := .int .i64 (i : Int)) rfl (by kernel_rfl) (by kernel_rfl) (by kernel_rfl) (fun _ _ _ h => nomatch h.1) (yg_mv (by simp [Region.wanted]) (.tmp 2) rfl ((ev_ne _ _ (by decide)).trans ((ev_ne _ _ (by decide)).trans ((ev_ne _ _ (by decide)).trans ((ev_ne _ _ (by decide)).trans ((ev_ne _ _ (by decide)).trans e2)))))) hs0 ?_
  show wpAnyG _ _ _ _ _ _ _ _ ((((((A.put (some 9) (.pointer (some ⟨p, 0, none⟩))).put (some 10) (.pointer (some ⟨p, 0, none⟩))).put (some 11) (.pointer (some ⟨p, 0, none⟩))).put (some 12) (.pointer (some ⟨p, 4, none⟩))).put (some 13) (.slice (some ⟨g, 0, none⟩) n c)).put (some 14) (.int .i64 (i : Int))) _
  refine wpAnyG_take (i := 6) (v := .pointer (some ⟨g, i, none⟩)) rfl (by kernel_rfl) (by kernel_rfl) (by kernel_rfl) (fun _ _ _ h => nomatch h.1) (yg_ix (by simp [Region.wanted]) (.tmp 13) (.tmp 14) rfl ((ev_ne _ _ (by decide)).trans (ev_eq _ _ (by simp [put_sz, sz]))) (ev_eq _ _ (by simp [put_sz, sz])) (fun w => by simp [go_sem, hi0, hi1])) hs0 ?_
  show wpAnyG _ _ _ _ _ _ _ _ (((((((A.put (some 9) (.pointer (some ⟨p, 0, none⟩))).put (some 10) (.pointer (some ⟨p, 0, none⟩))).put (some 11) (.pointer (some ⟨p, 0, none⟩))).put (some 12) (.pointer (some ⟨p, 4, none⟩))).put (some 13) (.slice (some ⟨g, 0, none⟩) n c)).put (some 14) (.int .i64 (i : Int))).put (some 15) (.pointer (some ⟨g, i, none⟩))) _
  refine wpAnyG_take (i := 7) (v := .int .i64 (q : Int)) rfl (by kernel_rfl) (by kernel_rfl) (by kernel_rfl) (fun _ _ _ h => nomatch h.1) (yg_ld (by simp [Region.wanted]) (.tmp 15) rfl (ev_eq _ _ (by simp [put_sz, sz])) (fun w hw => by have h1 := hw.2.2; simp [go_sem, h1])) hs0 ?_
  show wpAnyG _ _ _ _ _ _ _ _ ((((((((A.put (some 9) (.pointer (some ⟨p, 0, none⟩))).put (some 10) (.pointer (some ⟨p, 0, none⟩))).put (some 11) (.pointer (some ⟨p, 0, none⟩))).put (some 12) (.pointer (some ⟨p, 4, none⟩))).put (some 13) (.slice (some ⟨g, 0, none⟩) n c)).put (some 14) (.int .i64 (i : Int))).put (some 15) (.pointer (some ⟨g, i, none⟩))).put (some 16) (.int .i64 (q : Int))) _
  refine wpAnyG_all (rs := [8]) (by kernel_rfl) (by simp) fun i1 hm1 => ?_
  obtain rfl : i1 = 8 := by simpa using hm1
  refine wpOp_own rfl rfl fun K1 hK1 => ?_
  refine wp_calls2 121 hf_drop (.tmp 9) (.tmp 16) _ rfl (.pointer (some ⟨p, 0, none⟩)) (.int .i64 (q : Int)) ((ev_ne _ _ (by decide)).trans ((ev_ne _ _ (by decide)).trans ((ev_ne _ _ (by decide)).trans ((ev_ne _ _ (by decide)).trans ((ev_ne _ _ (by decide)).trans ((ev_ne _ _ (by decide)).trans ((ev_ne _ _ (by decide)).trans (ev_eq _ _ (by simp [sz]))))))))) (ev_eq _ _ (by simp [put_sz, sz])) ?_
  refine (drop_any H q hq).mono ?_
  rintro _ V1 ⟨rfl, ov', h1, h2, h3⟩
  refine ⟨_, rfl, hK1 _ _ ⟨.inl rfl, ?_⟩⟩
  clear hK1 K1 hm1
  show wpAnyG _ _ _ _ _ _ _ _ (((((((((A.put (some 9) (.pointer (some ⟨p, 0, none⟩))).put (some 10) (.pointer (some ⟨p, 0, none⟩))).put (some 11) (.pointer (some ⟨p, 0, none⟩))).put (some 12) (.pointer (some ⟨p, 4, none⟩))).put (some 13) (.slice (some ⟨g, 0, none⟩) n c)).put (some 14) (.int .i64 (i : Int))).put (some 15) (.pointer (some ⟨g, i, none⟩))).put (some 16) (.int .i64 (q : Int))).put (some 17) (.tuple #[])) _
  obtain ⟨Az1, hAz1⟩ : ∃ Az1, Az1 = (((((((((A.put (some 9) (.pointer (some ⟨p, 0, none⟩))).put (some 10) (.pointer (some ⟨p, 0, none⟩))).put (some 11) (.pointer (some ⟨p, 0, none⟩))).put (some 12) (.pointer (some ⟨p, 4, none⟩))).put (some 13) (.slice (some ⟨g, 0, none⟩) n c)).put (some 14) (.int .i64 (i : Int))).put (some 15) (.pointer (some ⟨g, i, none⟩))).put (some 16) (.int .i64 (q : Int))).put (some 17) (.tuple #[])) := ⟨_, rfl⟩
  have szAz1 : Az1.tmps.size = 18 := by rw [hAz1]; simp [put_sz, sz]
  rw [← hAz1]
  refine wpAnyG_done (by kernel_rfl) ⟨rfl, ?_, ov', h1, h2, h3⟩ _
  show Az1 = _
  rw [hAz1]

/-- the first page that is not pinned -/
def firstUn (s : PS) : Nat := (s.ord.find? (fun x => !s.pin x)).getD 0
set_option maxHeartbeats 400000 in
/-- the closure of evict: is it not pinned? -/
theorem evict1_any {W : World} {p X : Nat} {m : PM} {s : PS} (h : PgMem W p m s) (hc : W.cell? ⟨X, 0, none⟩ = some (.pointer (some ⟨p, 0, none⟩))) (q : Nat) (hq : q ≤ 9223372036854775807) :
    FnGives Tryz.prog 181 #[.pointer (some ⟨X, 0, none⟩)] #[.int .i64 (q : Int)] (.bool (!(decide (q ∈ s.ord) && s.pin q))) W := by
  show Calls Tryz.prog 181 #[.int .i64 (q : Int), .pointer (some ⟨X, 0, none⟩)] W _
  have HC := hid (isPinned_any h q hq)
  generalize (decide (q ∈ s.ord) && s.pin q) = b at *
  clear h
  go_enter Tryz.func181, Tryz.ntmps181
  go_wp2_with (go_at_call 153; refine HC.out.mono ?_; rintro e w1 ⟨rfl, e9⟩; subst w1)
  go_ret
  exact ⟨rfl, 0, rfl⟩
/-- small numbers -/
abbrev Sm := Fin 4096
def smOf (l : List Nat) : List Sm := l.map (fun x => Fin.ofNat 4096 x)
def encSm (x : Sm) : Value := .int .i64 ((x.val : Nat) : Int)
theorem smOf_get (l : List Nat) (hl : ∀ x ∈ l, x < 4096) (j : Nat) (hj : j < l.length) : ((smOf l)[j]!).val = l[j] := by
  have hj' : j < (smOf l).length := by simpa [smOf] using hj
  rw [getElem!_pos (smOf l) j hj']
  simp [smOf]
  exact hl _ (List.getElem_mem hj)
/-- the place of the first one -/
theorem idx_first (s : PS) (hl : ∀ x ∈ s.ord, x < 4096) (hex : ∃ x ∈ s.ord, s.pin x = false) : ∃ i, ∃ hi : i < s.ord.length, Lib.idxBy (fun _ y => !(decide (y.val ∈ s.ord) && s.pin y.val)) (smOf s.ord) (default : Sm) = (i : Int) ∧ s.ord[i] = firstUn s ∧ firstUn s ∈ s.ord ∧ s.pin (firstUn s) = false := by
  have hlen : (smOf s.ord).length = s.ord.length := by simp [smOf]
  have hmem : ∀ j (hj : j < s.ord.length), (!(decide (((smOf s.ord)[j]!).val ∈ s.ord) && s.pin ((smOf s.ord)[j]!).val)) = !s.pin s.ord[j] := fun j hj => by
    rw [smOf_get s.ord hl j hj, decide_eq_true (List.getElem_mem hj), Bool.true_and]
  rcases idxByFrom_spec (fun (_ : Sm) (y : Sm) => !(decide (y.val ∈ s.ord) && s.pin y.val)) default (smOf s.ord) 0 with ⟨e1, hall⟩ | ⟨k, hk, e1, ht, hall⟩
  · exfalso
    obtain ⟨x, hx, hp⟩ := hex
    obtain ⟨j, hj, rfl⟩ := List.mem_iff_getElem.1 hx
    have := hall j (by omega)
    rw [hmem j hj, hp] at this
    cases this
  · have hk' : k < s.ord.length := by omega
    rw [hmem k hk'] at ht
    have hf : s.ord.find? (fun x => !s.pin x) = some s.ord[k] := by
      rw [List.find?_eq_some_iff_getElem]
      refine ⟨ht, k, hk', rfl, fun j hj => ?_⟩
      have := hall j hj
      rw [hmem j (by omega)] at this
      simpa using this
    have hfu : firstUn s = s.ord[k] := by unfold firstUn; rw [hf]; rfl
    refine ⟨k, hk', by unfold Lib.idxBy; rw [e1]; simp, hfu.symm, by rw [hfu]; exact List.getElem_mem hk', by rw [hfu]; simpa using ht⟩
set_option maxHeartbeats 2000000 in
theorem evict_any {w : World} {p : Nat} {m : PM} {s : PS} (h : PgMem w p m s) (hex : ∃ x ∈ s.ord, s.pin x = false) :
    Calls Tryz.prog 157 #[.pointer (some ⟨p, 0, none⟩)] w (DropPost w p m s (firstUn s)) := by
  have hl : ∀ x ∈ s.ord, x < 4096 := fun x hx => by have h1 := h.ok.olt x hx; have h2 := h.log.inv.len; have h3 := h.log.inv.most; omega
  obtain ⟨i, hi, hidx, hget, hmem, hpin⟩ := idx_first s hl hex
  have hpos : 0 < s.ord.length := by omega
  obtain ⟨g, cap, hov, hgb⟩ : ∃ g cap, m.ov = .slice (some ⟨g, 0, none⟩) s.ord.length cap ∧ ∃ cs, w.heap[g]? = some (.cells cs 3 (0, 0)) := by
    rcases h.row.2 with ⟨e, h0⟩ | ⟨g, cap, cur, e, _, hh, _⟩
    · omega
    · exact ⟨g, cap, e, _, hh⟩
  obtain ⟨W0, hW0⟩ : ∃ W0, W0 = w.alloc (.cells #[.pointer (some ⟨p, 0, none⟩)] 73) := ⟨_, rfl⟩
  have b0 : Below w.heap.size w W0 := by rw [hW0]; exact (Below.refl _ w).alloc (Nat.le_refl _) _
  have x0 : W0.cell? ⟨w.heap.size, 0, none⟩ = some (.pointer (some ⟨p, 0, none⟩)) := by rw [hW0]; exact cell_of_row _ _ 0 _ _ _ (heap_alloc_new w _)
  have h0 := h.below b0
  have cells : ∀ W, Below W0.heap.size W0 W → ∀ j (hj : j < s.ord.length), W.cell? ⟨g, j, none⟩ = some (.int .i64 (s.ord[j] : Int)) := fun W hb j hj => by
    have h1 := (h0.below hb).row
    rw [hov] at h1
    have h2 := h1.cellAt j (by omega)
    rw [h2]
    simp [natCells, hj]
  have eg : ∀ args w, (callFunc 181 args).run Tryz.prog w = .ok (.enter 181 args) w := enters_of Tryz.func181 (by kernel_rfl) rfl
  have hp : PredAt Tryz.prog 181 #[.pointer (some ⟨w.heap.size, 0, none⟩)] encSm (fun y => !(decide (y.val ∈ s.ord) && s.pin y.val)) W0 := fun W x hb => evict1_any (h0.below hb) ((hb.cell (p := ⟨w.heap.size, 0, none⟩) (World.block_lt_of_cell? _ _ x0)).trans x0) x.val (by have := x.isLt; omega)
  have hcon := AnyE.slices_IndexFunc (P := Tryz.prog) (ρ := Tryz.idxF_ren) Tryz.idxF encSm (fun y => !(decide (y.val ∈ s.ord) && s.pin y.val)) 181 #[.pointer (some ⟨w.heap.size, 0, none⟩)] eg g 0 s.ord.length cap (smOf s.ord) W0 hp (by simp [smOf]) (by have h1 := h.ok.ol; have h2 := h.ok.mo2; omega) (fun j hj => by
    have hj' : j < s.ord.length := by simpa [smOf] using hj
    rw [Nat.zero_add, cells W0 (Below.refl _ _) j hj']
    unfold encSm
    rw [smOf_get s.ord hl j hj'])
  change Calls Tryz.prog 160 _ _ _ at hcon
  rw [List.take_of_length_le (by simp [smOf]), hidx] at hcon
  have HI := hid hcon
  have Hc := hid cells
  have H0 := hid h0
  have HW := hid hW0
  have HB0 := hid b0
  have X0 := hid x0
  have c4 : W0.cell? ⟨p, 4, none⟩ = some (.slice (some ⟨g, 0, none⟩) s.ord.length cap) := by rw [← hov]; exact h0.c4
  have C4 := hid c4
  have Hget := hid hget
  have hqb : firstUn s < 4096 := hl _ hmem
  have Hov := hid hov
  clear h h0 hex hl hidx hget hmem hpin hov hgb hW0 b0 cells eg hp hcon
  rw [HW.out] at x0 c4
  obtain ⟨N, hN⟩ : ∃ N, N = s.ord.length := ⟨_, rfl⟩
  have HN := hid hN
  rw [← hN] at HI C4 c4
  clear hN
  go_enter Tryz.func157, Tryz.ntmps157
  go_wp2_with (go_at_call 160; rw [show w.alloc (.cells #[.pointer (some ⟨p, 0, none⟩)] 73) = W0 from HW.out.symm]; refine HI.out.mono ?_; rintro e w1 ⟨rfl, k1, e9⟩; subst w1)
  obtain ⟨V0, hV0⟩ : ∃ V0, V0 = (W0.drewN k1).drew := ⟨_, rfl⟩
  have bV : Below W0.heap.size W0 V0 := by rw [hV0]; exact ⟨rfl, rfl, rfl, Nat.le_refl _, fun _ _ => rfl⟩
  refine wp_act _ fun A hA => ?_
  have sz : A.tmps.size = 18 := by rw [hA]; rfl
  have e1 : A.eval (.tmp 1) = .pointer (some ⟨w.heap.size, 0, none⟩) := by rw [hA]; rfl
  have e2 : A.eval (.tmp 2) = .int .i64 (i : Int) := by rw [hA]; rfl
  have hci := Hc.out V0 bV i hi
  rw [Hget.out] at hci
  refine wp_split _ (evict_region2 sz e1 e2 hV0 ⟨(bV.cell (p := ⟨w.heap.size, 0, none⟩) (World.block_lt_of_cell? _ _ X0.out)).trans X0.out, (bV.cell (p := ⟨p, 4, none⟩) (World.block_lt_of_cell? _ _ C4.out)).trans C4.out, hci⟩ (H0.out.below bV) (by omega) (by have := HN.out; omega)) ?_
  rintro _ V ⟨rfl, ov', h1, h2, h3⟩
  rw [hA]
  simp only [Act.put, List.setIfInBounds_toArray, List.set_cons_succ, List.set_cons_zero]
  have F1 := hid h1
  have F2 := hid h2
  have F3 : Hid (Out (clB p m) w V) := (Out.of_below (Below.on' HB0.out bV)).trans h3 (fun _ _ x => x)
  clear sz e1 e2 hA A h1 h2 h3 hci
  go_wp2_with fail
  go_end0
  exact ⟨rfl, ov', F1.out, F2.out, F3.out⟩
end Go.Proofs.YthdcjepkehifoaaGreat

/- A page comes into the cache: what is written, and what then lies in memory. -/
namespace Go.Proofs.YthdcjepkehifoaaGreat
open Go.RowKit Go.Maps Go.Sort Go.Shelf
set_option linter.unusedVariables false
set_option maxRecDepth 20000
theorem Tryz.infoInt : (Tryz.prog.info? 3).map (fun i => (i.zero, i.size, i.bytes)) = some (some (.int .i64 0), 1, 8) := by kernel_rfl
/-- append(v, n), v a row of numbers -/
theorem app_nat (w : World) {ops : Array Oper} {rest : List Oper} {o : Oper} {a : Act} {Q : Exit → Act → World → Prop} (hgd : o.guard = none) (sl x : Operand)
    (ho : o.op = .call { callee := .builtin .append, args := #[sl, x], argTypes := #[30, 30] }) (base : Nat) (v : Value) (l : List Nat) (hs : a.eval sl = v)
    (hown : w.ownsRow base 3 1 v l.length (natCells l)) (q : Nat) (hx : a.eval x = .slice (some ⟨w.heap.size, 0, none⟩) 1 1) (hb : l.length ≤ 100000) (hbase : base ≤ w.heap.size)
    (h : ∀ g cap w', w'.ownsRow base 3 1 (.slice (some ⟨g, 0, none⟩) (l ++ [q]).length cap) (l ++ [q]).length (natCells (l ++ [q])) → (w.alloc (.cells #[.int .i64 (q : Int)] 3)).grownBy w' v.ownBlock → (v.ownBlock = some g ∨ w.heap.size ≤ g) → wpList Tryz.prog ops Q rest (a.put o.dst (.slice (some ⟨g, 0, none⟩) (l ++ [q]).length cap)) w') :
    wpList Tryz.prog ops Q (o :: rest) a (w.alloc (.cells #[.int .i64 (q : Int)] 3)) := by
  obtain ⟨i0, hi, hz0, hz1, hz2⟩ := info_parts Tryz.infoInt
  refine wpList_plain hgd fun _ hK => wp_append_lies _ sl x 30 ho base 3 i0 (.int .i64 0) 1 8 Tryz.underlying30 hi hz0 hz1 hz2 rfl (by decide) v l.length (natCells l) hs (hown.alloc _) ⟨w.heap.size, 0, none⟩ 1 1 [.int .i64 (q : Int)] hx rfl (cell_one_new _ _ _) (fun u hu => by simp at hu; subst hu; rfl) (by decide) (by unfold maxLen; omega) (by omega) (by simp; omega) _ rfl ?_
  intro g cap w' h1 h2 h3 _
  have e : natCells l ++ [.int .i64 (q : Int)] = natCells (l ++ [q]) := by simp [natCells]
  have e2 : l.length + 1 = (l ++ [q]).length := by simp
  rw [e, e2] at h1
  have h4 := h g cap w' h1 h2 (h3.imp id (fun x => by rw [x]; simp))
  rw [← e2] at h4
  exact hK _ _ h4
def upd {α : Type} (f : Nat → α) (q : Nat) (a : α) (x : Nat) : α := if x = q then a else f x
theorem upd_same {α : Type} (f : Nat → α) (q : Nat) (a : α) : upd f q a q = a := by simp [upd]
theorem upd_ne {α : Type} (f : Nat → α) {q x : Nat} (a : α) (h : x ≠ q) : upd f q a x = f x := by simp [upd, h]
/-- a page comes last -/
def pushS (s : PS) (q : Nat) (b : Bool) : PS := { s with ord := s.ord ++ [q], pin := upd s.pin q b }
def pushM (m : PM) (q : Nat) (ov' : Value) (F b c : Nat) : PM := { m with ov := ov', cn := m.cn + 1, fr := upd m.fr q F, fb := upd m.fb q b, fc := upd m.fc q c }
theorem CaOk.push {s : PS} (h : CaOk s) {q : Nat} (hq : q ∉ s.ord) (hP : q < s.P) (hl : s.ord.length ≤ s.mo) (b : Bool) : CaOk (pushS s q b) := by
  refine ⟨?_, fun x hx => ?_, ?_, h.mo1, h.mo2, h.dup, h.dlt, h.dlen, h.hit, h.mit⟩
  · show (s.ord ++ [q]).Nodup
    rw [List.nodup_append]
    exact ⟨h.nd, by simp, fun a ha b hb => by simp at hb; subst hb; exact fun e => hq (e ▸ ha)⟩
  · rcases List.mem_append.1 hx with hx | hx
    · exact h.olt x hx
    · rw [List.mem_singleton.1 hx]; exact hP
  · show (s.ord ++ [q]).length ≤ s.mo + 1
    simp; exact hl
/-- the steps by which a page comes into the cache -/
theorem PgMem.push {w w1 w2 : World} {p : Nat} {m : PM} {s : PS} (h : PgMem w p m s) {q F b c : Nat} {bp : Bool} (hq : q ∉ s.ord) (hP : q < s.P) (hl : s.ord.length ≤ s.mo) (hcn : m.cn + 1 ≤ s.u)
    (hF : w.heap[F]? = some (.cells #[.slice (some ⟨b, 0, none⟩) 256 c, .bool bp] 162 (0, 0))) (hb : BBlk w b (s.page q)) (hFn : ∀ x ∈ s.ord, m.fr x ≠ F)
    (hcm : VMap w1 m.cm (m.cn + 1) (fun x => if x = q then some (.pointer (some ⟨F, 0, none⟩)) else clOf m s x)) (hg1 : w.grownBy w1 (some m.cm))
    {k kc : Nat} (hrow : w2.ownsRow 0 3 1 (.slice (some ⟨k, 0, none⟩) (s.ord ++ [q]).length kc) (s.ord ++ [q]).length (natCells (s.ord ++ [q]))) (hg2 : (w1.alloc (.cells #[.int .i64 (q : Int)] 3)).grownBy w2 m.ov.ownBlock) (hk : m.ov.ownBlock = some k ∨ w1.heap.size ≤ k) :
    PgMem (w2.setCell ⟨p, 4, none⟩ (.slice (some ⟨k, 0, none⟩) (s.ord ++ [q]).length kc)) p (pushM m q (.slice (some ⟨k, 0, none⟩) (s.ord ++ [q]).length kc) F b c) (pushS s q bp) ∧ Out (clB p m) w (w2.setCell ⟨p, 4, none⟩ (.slice (some ⟨k, 0, none⟩) (s.ord ++ [q]).length kc)) := by
  have o1 : Out (clB p m) w w1 := Out.of_grown hg1 (.inr (.inl rfl))
  have ba := (Below.refl w1.heap.size w1).alloc (Nat.le_refl _) (.cells #[.int .i64 (q : Int)] 3)
  have o2 : Out (clB p m) w1 w2 := ⟨hg2.os, hg2.tape, hg2.output, Nat.le_trans ba.size hg2.size, fun j hj hp => (hg2.block j (Nat.lt_of_lt_of_le hj ba.size) (fun e => hp (.inr (.inr e.symm)))).trans (ba.block j hj)⟩
  have hsz : w.heap.size ≤ w1.heap.size := hg1.size
  have hkp : k ≠ p := by
    rcases hk with e | e
    · exact fun x => h.ov_p (x ▸ e)
    · have := heap_lt h.obj; omega
  have o3 : Out (clB p m) w2 (w2.setCell ⟨p, 4, none⟩ (.slice (some ⟨k, 0, none⟩) (s.ord ++ [q]).length kc)) := ⟨rfl, rfl, rfl, by simp [World.setCell], fun j hj hp => heap_setCell_other _ _ _ _ (fun e => hp (.inl e))⟩
  have hO := (o1.trans o2 (fun _ _ x => x)).trans o3 (fun _ _ x => x)
  have op : w2.heap[p]? = some (.cells (pgObj m s) 154 (0, 0)) := by
    have h1 : w1.heap[p]? = w.heap[p]? := hg1.block p (heap_lt h.obj) (fun e => h.p_cm (Option.some.inj e))
    have h2 : w2.heap[p]? = w1.heap[p]? := by
      have hb := (Below.refl w1.heap.size w1).alloc (Nat.le_refl _) (.cells #[.int .i64 (q : Int)] 3)
      rw [hg2.block p (Nat.lt_of_lt_of_le (Nat.lt_of_lt_of_le (heap_lt h.obj) hsz) hb.size) (fun e => h.ov_p e.symm)]
      exact hb.block p (Nat.lt_of_lt_of_le (heap_lt h.obj) hsz)
    rw [h2, h1]
    exact h.obj
  have oc : w2.heap[m.cm]? = w1.heap[m.cm]? := by
    have hb := (Below.refl w1.heap.size w1).alloc (Nat.le_refl _) (.cells #[.int .i64 (q : Int)] 3)
    rw [hg2.block m.cm (Nat.lt_of_lt_of_le hcm.lt hb.size) (fun e => h.ov_cm e.symm)]
    exact hb.block m.cm hcm.lt
  have notB : ∀ {x : List UInt8} {j : Nat}, BBlk w j x → ¬ clB p m j := fun hj hc => h.byt hj (by
    rcases hc with e | e | e
    · exact .inl e
    · exact .inr (.inr (.inr (.inl e)))
    · exact .inr (.inr (.inl e)))
  have notF : ∀ {j : Nat} {cs : Array Value}, w.heap[j]? = some (.cells cs 162 (0, 0)) → ¬ clB p m j := fun {j cs} hj hc => by
    rcases hc with e | e | e
    · exact ty_ne hj (e ▸ h.obj) (by decide) rfl
    · obtain ⟨es, cl, hm⟩ := h.cmap.isMap
      exact map_ne hj (e ▸ hm) rfl
    · obtain ⟨cs', hm⟩ := row_ty h.row e
      exact ty_ne hj hm (by decide) rfl
  refine ⟨?_, hO⟩
  have hfin := h.clean hO (.slice (some ⟨k, 0, none⟩) (s.ord ++ [q]).length kc) (m.cn + 1) (upd m.fr q F) (upd m.fb q b) (upd m.fc q c) (s.ord ++ [q]) (upd s.pin q bp) s.hi s.mi s.u (Nat.le_refl _) ?_ ?_ ?_ ?_ ?_ ?_ hcn (h.ok.push hq hP hl bp)
  · exact hfin
  · rw [heap_setCell_same w2 p 4 _ _ _ op]
    rfl
  · exact ownsRow_keep hrow (fun j hj => heap_setCell_other _ _ _ _ (fun e => by cases hj; exact hkp e))
  · refine VMap.congr (VMap.keep hcm ((heap_setCell_other _ _ _ _ (fun e => h.p_cm e.symm)).trans oc)) (fun x => ?_)
    by_cases hx : x = q
    · subst hx
      rw [if_pos (by simp), if_pos rfl, upd_same]
    · rw [if_neg hx, upd_ne _ _ hx]
      unfold clOf
      by_cases hm : x ∈ s.ord
      · rw [if_pos hm, if_pos (List.mem_append_left _ hm)]
      · rw [if_neg hm, if_neg (by simp [hm, hx])]
  · intro x hx
    by_cases hxq : x = q
    · subst hxq
      rw [upd_same, upd_same, upd_same, upd_same]
      exact (hO.block F (heap_lt hF) (notF hF)).trans hF
    · have hxo : x ∈ s.ord := by
        rcases List.mem_append.1 hx with hx | hx
        · exact hx
        · exact absurd (List.mem_singleton.1 hx) hxq
      rw [upd_ne _ _ hxq, upd_ne _ _ hxq, upd_ne _ _ hxq, upd_ne _ _ hxq]
      exact (hO.block _ (heap_lt (h.frm x hxo)) (notF (h.frm x hxo))).trans (h.frm x hxo)
  · intro x hx
    by_cases hxq : x = q
    · subst hxq
      rw [upd_same]
      exact hb.keep (hO.block b hb.lt (notB hb))
    · have hxo : x ∈ s.ord := by
        rcases List.mem_append.1 hx with hx | hx
        · exact hx
        · exact absurd (List.mem_singleton.1 hx) hxq
      rw [upd_ne _ _ hxq]
      exact (h.fby x hxo).keep (hO.block _ (h.fby x hxo).lt (notB (h.fby x hxo)))
  · intro x hx y hy e
    by_cases hxq : x = q <;> by_cases hyq : y = q
    · rw [hxq, hyq]
    · exfalso
      subst hxq
      rw [upd_same, upd_ne _ _ hyq] at e
      refine hFn y ?_ e.symm
      rcases List.mem_append.1 hy with hy | hy
      · exact hy
      · exact absurd (List.mem_singleton.1 hy) hyq
    · exfalso
      subst hyq
      rw [upd_same, upd_ne _ _ hxq] at e
      refine hFn x ?_ e
      rcases List.mem_append.1 hx with hx | hx
      · exact hx
      · exact absurd (List.mem_singleton.1 hx) hxq
    · rw [upd_ne _ _ hxq, upd_ne _ _ hyq] at e
      have hxo : x ∈ s.ord := by
        rcases List.mem_append.1 hx with hx | hx
        · exact hx
        · exact absurd (List.mem_singleton.1 hx) hxq
      have hyo : y ∈ s.ord := by
        rcases List.mem_append.1 hy with hy | hy
        · exact hy
        · exact absurd (List.mem_singleton.1 hy) hyq
      exact h.inj x hxo y hyo e
/-- a hit, or a miss, is counted -/
theorem PgMem.count {w : World} {p : Nat} {m : PM} {s : PS} (h : PgMem w p m s) (hi' mi' u' : Nat) (ht : s.u ≤ u') (h1 : hi' ≤ u') (h2 : mi' ≤ u') {w' : World} (ho : Out (fun k => k = p) w w') (hp : w'.heap[p]? = some (.cells (pgObj m { s with hi := hi', mi := mi' }) 154 (0, 0))) : PgMem w' p m { s with hi := hi', mi := mi', u := u' } := by
  have hO : Out (clB p m) w w' := ho.imp (fun _ _ e => .inl e)
  have kp : ∀ j, j < w.heap.size → j ≠ p → w'.heap[j]? = w.heap[j]? := fun j hj hn => ho.block j hj hn
  have ok : CaOk { s with hi := hi', mi := mi', u := u' } := ⟨h.ok.nd, h.ok.olt, h.ok.ol, h.ok.mo1, h.ok.mo2, h.ok.dup, h.ok.dlt, h.ok.dlen, h1, h2⟩
  exact h.clean hO m.ov m.cn m.fr m.fb m.fc s.ord s.pin hi' mi' u' ht hp (ownsRow_keep h.row (fun k hk => kp k (h.row.lt k hk).2 (fun e => h.ov_p (e ▸ hk)))) (h.cmap.keep (kp _ h.cmap.lt (fun e => h.p_cm e.symm))) (fun q hq => (kp _ (heap_lt (h.frm q hq)) (h.fr_ne hq).1).trans (h.frm q hq)) (fun q hq => (h.fby q hq).keep (kp _ (h.fby q hq).lt (fun e => h.byt (h.fby q hq) (.inl e)))) h.inj (Nat.le_trans h.cnt ht) ok
end Go.Proofs.YthdcjepkehifoaaGreat

/- use of package pager: a page that is in the cache. -/
namespace Go.Proofs.YthdcjepkehifoaaGreat
open Go.RowKit Go.Maps Go.Sort Go.Shelf
set_option linter.unusedVariables false
set_option maxRecDepth 20000
theorem Out.on {P : Nat → Prop} {w w1 w2 : World} (h : Out P w w1) (k : Below w1.heap.size w1 w2) : Out P w w2 := h.trans (Out.of_below (P := P) k) (fun _ _ h => h)
theorem add_big (d o : Nat) (x : Int) (w : World) (hc : w.cell? ⟨d, o, none⟩ = some (.int .i64 x)) (hz : w.frozen? ⟨d, o, none⟩ = false) (h0 : 0 ≤ x) (h1 : x ≤ 4611686018427387904) :
    Calls Tryz.prog 148 #[.pointer (some ⟨d, o, none⟩), .int .i64 1] w fun e w' => e = .returned (.int .i64 (x + 1)) ∧ w' = w.setCell ⟨d, o, none⟩ (.int .i64 (x + 1)) := by
  have hs : (Op.intArith .add .i64 x 1).run Tryz.prog w = .ok (.int .i64 (x + 1)) w := by
    have : IntKind.i64.wrap (x + 1) = x + 1 := by rw [IntKind.wrap_i64]; omega
    simp [Op.intArith, this]
  go_enter Tryz.func148, Tryz.ntmps148
  go_wp2
  rw [run_call_add Tryz.func179 (by kernel_rfl) (by kernel_rfl) (by kernel_rfl) .i64 (by kernel_rfl) hc hz hs]
  rw [Oper.upon_value]
  go_wp2
  go_ret
  exact ⟨rfl, rfl⟩

/-- what use leaves -/
def hitS (s : PS) (q : Nat) : PS := pushS (dropS { s with hi := s.hi + 1, u := s.u + 1 } q) q (s.pin q)
def missS (s : PS) (q : Nat) : PS := pushS { s with mi := s.mi + 1, u := s.u + 1 } q false
def useS (s : PS) (q : Nat) : PS := if q ∈ s.ord then hitS s q else if s.mo < (missS s q).ord.length then dropS (missS s q) (firstUn (missS s q)) else missS s q
/-- no block is there that was not there, or is new -/
def Fresh (w : World) (p : Nat) (m : PM) (s : PS) (m' : PM) (s' : PS) : Prop := ∀ k, allB p m' s' k → allB p m s k ∨ w.heap.size ≤ k
def UsePost (w : World) (p : Nat) (m : PM) (s : PS) (q : Nat) (e : Ending) (w' : World) : Prop :=
  ∃ b c m', e = .returned (.slice (some ⟨b, 0, none⟩) 256 c) ∧ BBlk w' b (s.page q) ∧ PgMem w' p m' (useS s q) ∧ Out (clB p m) w w' ∧ Fresh w p m s m' (useS s q)
theorem filter_len {l : List Nat} (h : l.Nodup) {q : Nat} (hq : q ∈ l) : (l.filter (fun x => x != q)).length + 1 = l.length := by
  induction l with
  | nil => cases hq
  | cons a l ih =>
    rw [List.nodup_cons] at h
    by_cases e : a = q
    · subst e
      have hf : l.filter (fun x => x != a) = l := List.filter_eq_self.2 (fun x hx => by simp; exact fun e => h.1 (e ▸ hx))
      rw [List.filter_cons_of_neg (by simp), hf, List.length_cons]
    · have hq' : q ∈ l := by
        rcases List.mem_cons.1 hq with e' | e'
        · exact absurd e'.symm e
        · exact e'
      rw [List.filter_cons_of_pos (by simp [e]), List.length_cons, List.length_cons, ih h.2 hq']
theorem own_slc {w : World} {B e z n : Nat} {v : Value} {xs : List Value} (h : w.ownsRow B e z v n xs) : ∃ a k, v = .slice a n k := by
  rcases h.2 with ⟨rfl, h0⟩ | ⟨g, cap, cur, rfl, _⟩
  · exact ⟨none, 0, by rw [h0]⟩
  · exact ⟨_, _, rfl⟩

theorem fresh_push {w : World} {p : Nat} {m m1 : PM} {s s1 : PS} {q F b c : Nat} {v : Value} {bp : Bool} (hm : m1 = { m with ov := m1.ov }) (ho : ∀ x ∈ s1.ord, x ∈ s.ord) (hd : s1.dl = s.dl) (hv : ∀ k, v.ownBlock = some k → m.ov.ownBlock = some k ∨ w.heap.size ≤ k) (hF : (∃ x ∈ s.ord, F = m.fr x) ∨ w.heap.size ≤ F) (hb : bytB m s b ∨ w.heap.size ≤ b) : Fresh w p m s (pushM m1 q v F b c) (pushS s1 q bp) := by
  rw [hm]
  rintro k ((e | e | e | e | e | ⟨x, hx, e⟩) | (⟨x, hx, e⟩ | ⟨c, hc, e⟩))
  · exact .inl (.inl (.inl e))
  · exact .inl (.inl (.inr (.inl e)))
  · exact (hv k e).imp (fun e => .inl (.inr (.inr (.inl e)))) id
  · exact .inl (.inl (.inr (.inr (.inr (.inl e)))))
  · exact .inl (.inl (.inr (.inr (.inr (.inr (.inl e))))))
  · by_cases hxq : x = q
    · subst hxq
      rw [e, show (pushM { m with ov := m1.ov } x v F b c).fr x = F from upd_same _ _ _]
      exact hF.imp (fun h => .inl (.inr (.inr (.inr (.inr (.inr h)))))) id
    · rw [e, show (pushM { m with ov := m1.ov } q v F b c).fr x = m.fr x from upd_ne _ _ hxq]
      have hx' : x ∈ s.ord := by
        rcases List.mem_append.1 hx with hx | hx
        · exact ho x hx
        · exact absurd (List.mem_singleton.1 hx) hxq
      exact .inl (.inl (.inr (.inr (.inr (.inr (.inr ⟨x, hx', rfl⟩))))))
  · by_cases hxq : x = q
    · subst hxq
      rw [e, show (pushM { m with ov := m1.ov } x v F b c).fb x = b from upd_same _ _ _]
      exact hb.imp .inr id
    · rw [e, show (pushM { m with ov := m1.ov } q v F b c).fb x = m.fb x from upd_ne _ _ hxq]
      have hx' : x ∈ s.ord := by
        rcases List.mem_append.1 hx with hx | hx
        · exact ho x hx
        · exact absurd (List.mem_singleton.1 hx) hxq
      exact .inl (.inr (.inl ⟨x, hx', rfl⟩))
  · exact .inl (.inr (.inr ⟨c, hd ▸ hc, e⟩))

theorem all_drop {p : Nat} {m : PM} {s : PS} {ov' : Value} {x k : Nat} (hov : ov'.ownBlock = m.ov.ownBlock) (h : allB p { m with ov := ov' } (dropS s x) k) : allB p m s k := by
  rcases h with (e | e | e | e | e | ⟨y, hy, e⟩) | (⟨y, hy, e⟩ | ⟨c, hc, e⟩)
  · exact .inl (.inl e)
  · exact .inl (.inr (.inl e))
  · exact .inl (.inr (.inr (.inl (hov ▸ e))))
  · exact .inl (.inr (.inr (.inr (.inl e))))
  · exact .inl (.inr (.inr (.inr (.inr (.inl e)))))
  · exact .inl (.inr (.inr (.inr (.inr (.inr ⟨y, (List.mem_filter.1 hy).1, e⟩)))))
  · exact .inr (.inl ⟨y, (List.mem_filter.1 hy).1, e⟩)
  · exact .inr (.inr ⟨c, hc, e⟩)

set_option maxHeartbeats 4000000 in
theorem use_hit {w : World} {p : Nat} {m : PM} {s : PS} (h : PgMem w p m s) (q : Nat) (hq : q ∈ s.ord) (hfull : s.ord.length ≤ s.mo) (ht : s.t ≤ 100000) (hu : s.u ≤ 4611686018427387904) :
    Calls Tryz.prog 119 #[.pointer (some ⟨p, 0, none⟩), .int .i64 (q : Int)] w (UsePost w p m s q) := by
  have hqP := h.ok.olt q hq
  have hPm : s.P ≤ 1024 := by have h2 := h.log.inv.len; have h3 := h.log.inv.most; omega
  have HC := hid (freshen_any h (by omega))
  have H := hid h
  have hus : Hid (useS s q = hitS s q) := by show _ = _; unfold useS; rw [if_pos hq]
  have hhi := h.ok.hit
  have hmi := h.ok.mit
  clear h
  go_enter Tryz.func119, Tryz.ntmps119
  go_wp2_with fail
  refine HC.out.mono ?_
  rintro _ w1 ⟨rfl, b1⟩
  have h1 := H.out.below b1
  have B1 := hid b1
  have c3 := h1.c3
  have c6 := h1.c6
  have z6 := h1.z 6
  have hl := (h1.cl_in hq (by omega)).1
  have HA := hid (add_big p 6 (s.hi : Int) w1 c6 z6 (by omega) (by omega))
  have H1 := hid h1
  clear h1 b1 c6 z6
  go_wp2_with (go_at_call 148; refine HA.out.mono ?_; rintro _ w2 ⟨rfl, e2⟩; have E2 := hid e2; clear e2)
  have e2 := E2.out
  have o2 : Out (fun k => k = p) w1 w2 := by rw [e2]; exact ⟨rfl, rfl, rfl, by simp [World.setCell], fun j hj hp => heap_setCell_other _ _ _ _ hp⟩
  have p2 : w2.heap[p]? = some (.cells (pgObj m { s with hi := s.hi + 1, mi := s.mi }) 154 (0, 0)) := by
    rw [e2, heap_setCell_same w1 p 6 _ _ _ H1.out.obj]
    simp [pgObj]
  have h2 := H1.out.count (s.hi + 1) s.mi (s.u + 1) (by omega) (by omega) (by omega) o2 p2
  have HDr := hid (drop_any h2 q (by omega))
  have H2 := hid h2
  have O2 := hid o2
  clear h2 o2 p2 e2 E2 HA hl c3
  refine HDr.out.mono ?_
  rintro _ w3 ⟨rfl, ov1, h3, hov1, o3⟩
  obtain ⟨s1, hs1⟩ : ∃ s1 : PS, s1 = { s with hi := s.hi + 1, mi := s.mi, u := s.u + 1 } := ⟨_, rfl⟩
  have Hs1 := hid hs1
  rw [← hs1] at h3 H2
  obtain ⟨m1, hm1⟩ : ∃ m1 : PM, m1 = { m with ov := ov1 } := ⟨_, rfl⟩
  have Hm1 := hid hm1
  rw [← hm1] at h3
  have hord : (dropS s1 q).ord = s.ord.filter (fun x => x != q) := by rw [hs1]; rfl
  have hfl := filter_len H.out.ok.nd hq
  have hfrq : w3.heap[m.fr q]? = some (.cells #[.slice (some ⟨m.fb q, 0, none⟩) 256 (m.fc q), .bool (s.pin q)] 162 (0, 0)) := by
    have hf := H2.out.frm q (by rw [hs1]; exact hq)
    have hn := H2.out.fr_ne (q := q) (by rw [hs1]; exact hq)
    rw [o3.block _ (heap_lt hf) (by
      rintro (e | e | e)
      · exact hn.1 e
      · exact hn.2.2.2.1 e
      · exact hn.2.2.1 e), hf, hs1]
  have hfbq : BBlk w3 (m.fb q) (s.page q) := by
    have hf := H2.out.fby q (by rw [hs1]; exact hq)
    have hf' : BBlk w2 (m.fb q) (s.page q) := by rw [hs1] at hf; exact hf
    exact hf'.keep (o3.block _ hf.lt (fun hc => H2.out.byt hf (by
      rcases hc with e | e | e
      · exact .inl e
      · exact .inr (.inr (.inr (.inl e)))
      · exact .inr (.inr (.inl e)))))
  have hnq : q ∉ (dropS s1 q).ord := by rw [hord, List.mem_filter]; simp
  have hcn1 : m1.cn + 1 ≤ (dropS s1 q).u := by rw [hm1, hs1]; show m.cn + 1 ≤ s.u + 1; have := H.out.cnt; omega
  have hcn2 : m1.cn ≤ 4611686018427387904 := by rw [hm1]; show m.cn ≤ _; have := H.out.cnt; omega
  have hol : (dropS s1 q).ord.length ≤ (dropS s1 q).mo := by rw [hord, hs1]; show _ ≤ s.mo; omega
  have hFn : ∀ x ∈ (dropS s1 q).ord, m1.fr x ≠ m.fr q := fun x hx e => by
    rw [hord, List.mem_filter] at hx
    have hxq := H.out.inj x hx.1 q hq (by rw [hm1] at e; exact e)
    rw [hxq] at hx
    simp at hx
  obtain ⟨w4, hrun4, hcm4, hg4⟩ := h3.cmap.put Tryz.underlying151 hcn2 q (by omega) (.pointer (some ⟨m.fr q, 0, none⟩))
  have c3' := h3.c3
  have hcmE : m1.cm = m.cm := by rw [hm1]
  rw [hcmE] at hrun4 c3'
  have p4 : w4.heap[p]? = some (.cells (pgObj m1 (dropS s1 q)) 154 (0, 0)) := (hg4.block p (heap_lt h3.obj) (fun e => h3.p_cm (Option.some.inj e))).trans h3.obj
  have r4 : w4.ownsRow 0 3 1 m1.ov (dropS s1 q).ord.length (natCells (dropS s1 q).ord) := ownsRow_keep h3.row (fun k hk => hg4.block k (h3.row.lt k hk).2 (fun e => h3.ov_cm (hk.trans e)))
  obtain ⟨a4, k4, hov4⟩ := own_slc r4
  have c44 : w4.cell? ⟨p, 4, none⟩ = some m1.ov := cell_of_row _ _ 4 _ _ _ p4
  rw [hov4] at c44
  have hlL : (dropS s1 q).ord.length ≤ 100000 := by rw [hord]; have := H.out.ok.ol; have := H.out.ok.mo2; omega
  have Hov4 := hid hov4
  have R4 := hid r4
  have P4 := hid p4
  have H3 := hid h3
  have Hcm4 := hid hcm4
  have HG4 := hid hg4
  have Hfr := hid hfrq
  have Hfb := hid hfbq
  have Hpush := hid (fun w2' k kc hrow hg2 hk => h3.push (w1 := w4) (w2 := w2') (q := q) (F := m.fr q) (b := m.fb q) (c := m.fc q) (bp := s.pin q) hnq (by rw [hs1]; exact hqP) hol hcn1 hfrq (by rw [hs1]; exact hfbq) hFn hcm4 hg4 (k := k) (kc := kc) hrow hg2 hk)
  have Hord := hid hord
  have Hfl := hid hfl
  have O3 := hid o3
  have Hov1 := hid hov1
  have hlen1 : (dropS s1 q).ord.length + 1 ≤ s.mo := by rw [hord]; omega
  clear h3 r4 p4 hcm4 hg4 hov4 hfrq hfbq hnq hcn1 hol hFn hord hfl o3 hov1 hs1 hm1 hcmE
  go_wp2_with (first
    | (at_builtin; refine app_nat w4 rfl _ _ rfl 0 _ (dropS s1 q).ord rfl (by rw [← Hov4.out]; exact R4.out) q rfl hlL (Nat.zero_le _) ?_; intro k kc w5 hrow hg5 hk5; have p5 : w5.heap[p]? = some (.cells (pgObj m1 (dropS s1 q)) 154 (0, 0)) := (hg5.block p (Nat.lt_of_lt_of_le (heap_lt P4.out) ((Below.refl w4.heap.size w4).alloc (Nat.le_refl _) _).size) (fun e => H3.out.ov_p (by rw [Hov4.out]; exact e.symm))).trans (((Below.refl w4.heap.size w4).alloc (Nat.le_refl _) _).block p (heap_lt P4.out) |>.trans P4.out); have c45 : w5.cell? ⟨p, 4, none⟩ = some (.slice a4 (dropS s1 q).ord.length k4) := (cell_of_row _ _ 4 _ _ _ p5).trans (by rw [← Hov4.out]; rfl); have z45 : w5.frozen? ⟨p, 4, none⟩ = false := frozen_of_row _ _ 4 _ _ p5; have HP := hid (Hpush.out w5 k kc hrow (by rw [Hov4.out]; exact hg5) (by rw [Hov4.out]; exact hk5)); obtain ⟨N, hNe⟩ : ∃ N, N = ((dropS s1 q).ord ++ [q]).length := ⟨_, rfl⟩; have HNe := hid hNe; rw [← hNe] at HP ⊢; have Hk5 := hid hk5; clear hrow hg5 hk5 p5 hNe))
  obtain ⟨w6, hw6⟩ : ∃ w6, w6 = w5.setCell ⟨p, 4, none⟩ (.slice (some ⟨k, 0, none⟩) N kc) := ⟨_, rfl⟩
  rw [← hw6] at HP ⊢
  have h6 := HP.out.1
  have c64 : w6.cell? ⟨p, 4, none⟩ = some (.slice (some ⟨k, 0, none⟩) N kc) := h6.c4
  have c61 : w6.cell? ⟨p, 1, none⟩ = some (.int .i64 (s.mo : Int)) := by have h := h6.c1; rw [Hs1.out] at h; exact h
  have f6 := h6.frm q (by show q ∈ (dropS s1 q).ord ++ [q]; simp)
  have c60 : w6.cell? ⟨m.fr q, 0, none⟩ = some (.slice (some ⟨m.fb q, 0, none⟩) 256 (m.fc q)) := by
    have h := cell_of_row _ _ 0 _ _ _ f6
    have e1 : (pushM m1 q (.slice (some ⟨k, 0, none⟩) N kc) (m.fr q) (m.fb q) (m.fc q)).fr q = m.fr q := upd_same _ _ _
    have e2 : (pushM m1 q (.slice (some ⟨k, 0, none⟩) N kc) (m.fr q) (m.fb q) (m.fc q)).fb q = m.fb q := upd_same _ _ _
    have e3 : (pushM m1 q (.slice (some ⟨k, 0, none⟩) N kc) (m.fr q) (m.fb q) (m.fc q)).fc q = m.fc q := upd_same _ _ _
    rw [e1, e2, e3] at h
    exact h
  have by6 : BBlk w6 (m.fb q) (s.page q) := by
    have h := h6.fby q (by show q ∈ (dropS s1 q).ord ++ [q]; simp)
    rw [show (pushM m1 q (.slice (some ⟨k, 0, none⟩) N kc) (m.fr q) (m.fb q) (m.fc q)).fb q = m.fb q from upd_same _ _ _] at h
    rw [Hs1.out] at h
    exact h
  have hN : N ≤ s.mo := by rw [HNe.out]; simp; exact hlen1
  have g1 : ¬ (s.mo : Int) < (N : Int) := by omega
  have By6 := hid by6
  have Hw6 := hid hw6
  clear h6 f6 by6 hw6 hN
  go_quiet (fail)
  go_wp2_with fail
  go_ret
  have hh : hitS s q = pushS (dropS s1 q) q (s.pin q) := by rw [Hs1.out]; rfl
  have o6 : Out (clB p m) w w6 := by
    have hx := HP.out.2
    have hcl : ∀ j, clB p m1 j → clB p m j := fun j hj => by
      rw [Hm1.out] at hj
      rcases hj with e | e | e
      · exact .inl e
      · exact .inr (.inl e)
      · exact .inr (.inr (by rw [← Hov1.out]; exact e))
    exact ((((Out.of_below B1.out).trans (O2.out.imp (Q := clB p m) (fun _ _ e => .inl e)) (fun _ _ x => x)).trans O3.out (fun _ _ x => x))).trans (hx.imp (fun j _ hj => hcl j hj)) (fun _ _ x => x)
  have hsz4 : w.heap.size ≤ w4.heap.size := Nat.le_trans (Nat.le_trans (Nat.le_trans B1.out.size O2.out.size) O3.out.size) HG4.out.size
  refine ⟨m.fb q, m.fc q, pushM m1 q (.slice (some ⟨k, 0, none⟩) N kc) (m.fr q) (m.fb q) (m.fc q), rfl, By6.out.keep rfl, ?_, ?_, ?_⟩
  · rw [hus.out, hh]
    exact HP.out.1.below ⟨rfl, rfl, rfl, Nat.le_refl _, fun _ _ => rfl⟩
  · exact ⟨o6.os, o6.tape, o6.output, o6.size, o6.block⟩
  · rw [hus.out, hh]
    refine fresh_push (by rw [Hm1.out]) (fun x hx => ?_) (by rw [Hs1.out]; rfl) (fun j hj => ?_) (.inl ⟨q, hq, rfl⟩) (.inl (.inl ⟨q, hq, rfl⟩))
    · rw [Hord.out] at hx
      exact (List.mem_filter.1 hx).1
    · cases hj
      rcases Hk5.out with e | e
      · left
        rw [← Hov1.out, show ov1 = m1.ov by rw [Hm1.out], Hov4.out]
        exact e
      · right
        exact Nat.le_trans hsz4 e
end Go.Proofs.YthdcjepkehifoaaGreat

/- use of package pager: a page that is not in the cache; and both. -/
namespace Go.Proofs.YthdcjepkehifoaaGreat
open Go.RowKit Go.Maps Go.Sort Go.Shelf
set_option linter.unusedVariables false
set_option maxRecDepth 20000
set_option maxHeartbeats 4000000 in
theorem use_miss {w : World} {p : Nat} {m : PM} {s : PS} (h : PgMem w p m s) (q : Nat) (hq : q ∉ s.ord) (hqP : q < s.P) (hfull : s.ord.length ≤ s.mo) (ht : s.t ≤ 100000) (hu : s.u ≤ 4611686018427387904) :
    Calls Tryz.prog 119 #[.pointer (some ⟨p, 0, none⟩), .int .i64 (q : Int)] w (UsePost w p m s q) := by
  have hPm : s.P ≤ 1024 := by have h2 := h.log.inv.len; have h3 := h.log.inv.most; omega
  have HC := hid (freshen_any h (by omega))
  have H := hid h
  have hus : Hid (useS s q = if s.mo < (missS s q).ord.length then dropS (missS s q) (firstUn (missS s q)) else missS s q) := by show _ = _; unfold useS; rw [if_neg hq]
  have hhi := h.ok.hit
  have hmi := h.ok.mit
  clear h
  go_enter Tryz.func119, Tryz.ntmps119
  go_wp2_with fail
  refine HC.out.mono ?_
  rintro _ w1 ⟨rfl, b1⟩
  have h1 := H.out.below b1
  have B1 := hid b1
  have c3 := h1.c3
  have c7 := h1.c7
  have z7 := h1.z 7
  have hl := h1.cl_out hq (by omega)
  have HA := hid (add_big p 7 (s.mi : Int) w1 c7 z7 (by omega) (by omega))
  have H1 := hid h1
  clear h1 b1 c7 z7
  go_wp2_with (go_at_call 148; refine HA.out.mono ?_; rintro _ w2 ⟨rfl, e2⟩; have E2 := hid e2; clear e2)
  have e2 := E2.out
  have o2 : Out (fun k => k = p) w1 w2 := by rw [e2]; exact ⟨rfl, rfl, rfl, by simp [World.setCell], fun j hj hp => heap_setCell_other _ _ _ _ hp⟩
  have p2 : w2.heap[p]? = some (.cells (pgObj m { s with hi := s.hi, mi := s.mi + 1 }) 154 (0, 0)) := by
    rw [e2, heap_setCell_same w1 p 7 _ _ _ H1.out.obj]
    simp [pgObj]
  have h2 := H1.out.count s.hi (s.mi + 1) (s.u + 1) (by omega) (by omega) (by omega) o2 p2
  obtain ⟨s1, hs1⟩ : ∃ s1 : PS, s1 = { s with hi := s.hi, mi := s.mi + 1, u := s.u + 1 } := ⟨_, rfl⟩
  have Hs1 := hid hs1
  rw [← hs1] at h2
  have HF := hid (fetch_any h2 q (by rw [hs1]; exact hqP))
  have H2 := hid h2
  have O2 := hid o2
  clear h2 o2 p2 e2 E2 HA hl c3 hs1
  refine HF.out.mono ?_
  rintro _ w2b ⟨bb, bc, rfl, hbb, hby, hbc, b2b⟩
  obtain ⟨w3, hw3⟩ : ∃ w3, w3 = w2b.alloc (.cells #[.slice (some ⟨bb, 0, none⟩) 256 bc, .bool false] 162) := ⟨_, rfl⟩
  have b3 : Below w2b.heap.size w2b w3 := by rw [hw3]; exact (Below.refl _ w2b).alloc (Nat.le_refl _) _
  have h3 := (H2.out.below b2b).below b3
  have hF : w3.heap[w2b.heap.size]? = some (.cells #[.slice (some ⟨bb, 0, none⟩) 256 bc, .bool false] 162 (0, 0)) := by rw [hw3]; exact heap_alloc_new w2b _
  have hby3 : BBlk w3 bb (s.page q) := by
    rw [Hs1.out] at hby
    exact hby.keep (b3.block _ hby.lt)
  have hnq : q ∉ s1.ord := by rw [Hs1.out]; exact hq
  have hcn1 : m.cn + 1 ≤ s1.u := by rw [Hs1.out]; show m.cn + 1 ≤ s.u + 1; have := H.out.cnt; omega
  have hcn2 : m.cn ≤ 4611686018427387904 := by have := H.out.cnt; omega
  have hol : s1.ord.length ≤ s1.mo := by rw [Hs1.out]; exact hfull
  have hFn : ∀ x ∈ s1.ord, m.fr x ≠ w2b.heap.size := fun x hx e => by
    have := heap_lt ((H2.out.below b2b).frm x hx)
    omega
  obtain ⟨w4, hrun4, hcm4, hg4⟩ := h3.cmap.put Tryz.underlying151 hcn2 q (by omega) (.pointer (some ⟨w2b.heap.size, 0, none⟩))
  have c3' := h3.c3
  have p4 : w4.heap[p]? = some (.cells (pgObj m s1) 154 (0, 0)) := (hg4.block p (heap_lt h3.obj) (fun e => h3.p_cm (Option.some.inj e))).trans h3.obj
  have r4 : w4.ownsRow 0 3 1 m.ov s1.ord.length (natCells s1.ord) := ownsRow_keep h3.row (fun k hk => hg4.block k (h3.row.lt k hk).2 (fun e => h3.ov_cm (hk.trans e)))
  obtain ⟨a4, k4, hov4⟩ := own_slc r4
  have c44 : w4.cell? ⟨p, 4, none⟩ = some m.ov := cell_of_row _ _ 4 _ _ _ p4
  rw [hov4] at c44
  have hlL : s1.ord.length ≤ 100000 := by rw [Hs1.out]; have := H.out.ok.mo2; show s.ord.length ≤ _; omega
  have Hov4 := hid hov4
  have R4 := hid r4
  have P4 := hid p4
  have H3 := hid h3
  have HG4 := hid hg4
  have Hpush := hid (fun w2' k kc hrow hg2 hk => h3.push (w1 := w4) (w2 := w2') (q := q) (F := w2b.heap.size) (b := bb) (c := bc) (bp := false) hnq (by rw [Hs1.out]; exact hqP) hol hcn1 hF (by rw [Hs1.out]; exact hby3) hFn hcm4 hg4 (k := k) (kc := kc) hrow hg2 hk)
  have B3 := hid (Below.on' b2b b3)
  have Hbb := hid hbb
  have HW3 := hid hw3
  rw [hw3] at c3' hrun4
  have Hmo : Hid (s1.mo = s.mo) := by show _ = _; rw [Hs1.out]
  have hbsz : Hid (w2.heap.size ≤ w2b.heap.size) := b2b.size
  clear h3 r4 p4 hcm4 hg4 hov4 hF hby3 hnq hcn1 hol hFn hby b2b b3 hw3 hbb hbc
  go_wp2_with (first
    | (at_builtin; refine app_nat w4 rfl _ _ rfl 0 _ s1.ord rfl (by rw [← Hov4.out]; exact R4.out) q rfl hlL (Nat.zero_le _) ?_; intro k kc w5 hrow hg5 hk5; have p5 : w5.heap[p]? = some (.cells (pgObj m s1) 154 (0, 0)) := (hg5.block p (Nat.lt_of_lt_of_le (heap_lt P4.out) ((Below.refl w4.heap.size w4).alloc (Nat.le_refl _) _).size) (fun e => H3.out.ov_p (by rw [Hov4.out]; exact e.symm))).trans (((Below.refl w4.heap.size w4).alloc (Nat.le_refl _) _).block p (heap_lt P4.out) |>.trans P4.out); have c45 : w5.cell? ⟨p, 4, none⟩ = some (.slice a4 s1.ord.length k4) := (cell_of_row _ _ 4 _ _ _ p5).trans (by rw [← Hov4.out]; rfl); have z45 : w5.frozen? ⟨p, 4, none⟩ = false := frozen_of_row _ _ 4 _ _ p5; have HP := hid (Hpush.out w5 k kc hrow (by rw [Hov4.out]; exact hg5) (by rw [Hov4.out]; exact hk5)); obtain ⟨N, hNe⟩ : ∃ N, N = (s1.ord ++ [q]).length := ⟨_, rfl⟩; have HNe := hid hNe; rw [← hNe] at HP ⊢; have Hk5 := hid hk5; clear hrow hg5 hk5 p5 hNe))
  obtain ⟨w6, hw6⟩ : ∃ w6, w6 = w5.setCell ⟨p, 4, none⟩ (.slice (some ⟨k, 0, none⟩) N kc) := ⟨_, rfl⟩
  rw [← hw6] at HP ⊢
  have h6 := HP.out.1
  have c64 : w6.cell? ⟨p, 4, none⟩ = some (.slice (some ⟨k, 0, none⟩) N kc) := h6.c4
  have c61 : w6.cell? ⟨p, 1, none⟩ = some (.int .i64 (s.mo : Int)) := by have h := h6.c1; rw [Hs1.out] at h; exact h
  have f6 : w6.heap[w2b.heap.size]? = some (.cells #[.slice (some ⟨bb, 0, none⟩) 256 bc, .bool false] 162 (0, 0)) := by
    have h := h6.frm q (by show q ∈ s1.ord ++ [q]; simp)
    rw [show (pushM m q (.slice (some ⟨k, 0, none⟩) N kc) w2b.heap.size bb bc).fr q = w2b.heap.size from upd_same _ _ _, show (pushM m q (.slice (some ⟨k, 0, none⟩) N kc) w2b.heap.size bb bc).fb q = bb from upd_same _ _ _, show (pushM m q (.slice (some ⟨k, 0, none⟩) N kc) w2b.heap.size bb bc).fc q = bc from upd_same _ _ _, show (pushS s1 q false).pin q = false from upd_same _ _ _] at h
    exact h
  have by6 : BBlk w6 bb (s.page q) := by
    have h := h6.fby q (by show q ∈ s1.ord ++ [q]; simp)
    rw [show (pushM m q (.slice (some ⟨k, 0, none⟩) N kc) w2b.heap.size bb bc).fb q = bb from upd_same _ _ _] at h
    rw [Hs1.out] at h
    exact h
  have hh : missS s q = pushS s1 q false := by rw [Hs1.out]; rfl
  have hNl : N = (missS s q).ord.length := by rw [HNe.out, hh]; rfl
  have o6 : Out (clB p m) w w6 := by
    have hx := HP.out.2
    exact ((((Out.of_below B1.out).trans (O2.out.imp (Q := clB p m) (fun _ _ e => .inl e)) (fun _ _ x => x)).on B3.out)).trans hx (fun _ _ x => x)
  have hsz4 : w.heap.size ≤ w4.heap.size := Nat.le_trans (Nat.le_trans (Nat.le_trans B1.out.size O2.out.size) B3.out.size) HG4.out.size
  have hsz2 : w.heap.size ≤ w2.heap.size := Nat.le_trans B1.out.size O2.out.size
  have hfresh : Fresh w p m s (pushM m q (.slice (some ⟨k, 0, none⟩) N kc) w2b.heap.size bb bc) (pushS s1 q false) := by
    refine fresh_push rfl (fun x hx => by rw [Hs1.out] at hx; exact hx) (by rw [Hs1.out]) (fun j hj => ?_) (.inr (Nat.le_trans hsz2 hbsz.out)) (.inr (Nat.le_trans hsz2 Hbb.out))
    cases hj
    rcases Hk5.out with e | e
    · left
      rw [Hov4.out]
      exact e
    · right
      exact Nat.le_trans hsz4 e
  have By6 := hid by6
  have Hw6 := hid hw6
  have HNl := hid hNl
  have Hh := hid hh
  have O6 := hid o6
  have Hfresh := hid hfresh
  have F6 := hid f6
  clear h6 by6 hw6 hNl hh o6 hfresh
  by_cases hev : s.mo < N
  · have g1 : (s.mo : Int) < (N : Int) := by omega
    have hus2 : Hid (useS s q = dropS (missS s q) (firstUn (missS s q))) := by show _ = _; rw [hus.out, if_pos (by rw [← HNl.out]; exact hev)]
    have hex : ∃ x ∈ (pushS s1 q false).ord, (pushS s1 q false).pin x = false := ⟨q, by show q ∈ s1.ord ++ [q]; simp, upd_same _ _ _⟩
    have Hex := hid hex
    clear hex f6
    go_quiet (fail)
    go_wp2_with fail
    refine (evict_any (HP.out.1.below (w' := w6.drewN nq) ⟨rfl, rfl, rfl, Nat.le_refl _, fun _ _ => rfl⟩) Hex.out).mono ?_
    rintro _ w7 ⟨rfl, ov7, h7, hov7, o7⟩
    have f7 : w7.heap[w2b.heap.size]? = some (.cells #[.slice (some ⟨bb, 0, none⟩) 256 bc, .bool false] 162 (0, 0)) := by
      rw [o7.block _ (heap_lt F6.out) (by
        rintro (e | e | e)
        · exact ty_ne F6.out HP.out.1.obj (by decide) e
        · obtain ⟨es, cl, hm⟩ := HP.out.1.cmap.isMap
          exact map_ne F6.out hm e
        · obtain ⟨cs', hm⟩ := row_ty HP.out.1.row e
          exact ty_ne F6.out hm (by decide) rfl)]
      exact F6.out
    have by7 : BBlk w7 bb (s.page q) := By6.out.keep (o7.block _ By6.out.lt (fun hc => HP.out.1.byt By6.out (by
      rcases hc with e | e | e
      · exact .inl e
      · exact .inr (.inr (.inr (.inl e)))
      · exact .inr (.inr (.inl e)))))
    have o67 : Out (clB p m) w w7 := by
      refine ⟨o7.os.trans O6.out.os, o7.tape.trans O6.out.tape, o7.output.trans O6.out.output, Nat.le_trans O6.out.size o7.size, fun j hj hp => (o7.block j (Nat.lt_of_lt_of_le hj O6.out.size) ?_).trans (O6.out.block j hj hp)⟩
      rintro (e | e | e)
      · exact hp (.inl e)
      · exact hp (.inr (.inl e))
      · have ek : k = j := Option.some.inj e
        rcases Hk5.out with e | e
        · exact hp (.inr (.inr (by rw [Hov4.out, ← ek]; exact e)))
        · have h9 := Nat.le_trans hsz4 e
          rw [ek] at h9
          exact absurd hj (Nat.not_lt.2 h9)
    have c70 : w7.cell? ⟨w2b.heap.size, 0, none⟩ = some (.slice (some ⟨bb, 0, none⟩) 256 bc) := cell_of_row _ _ 0 _ _ _ f7
    have H7 := hid h7
    have By7 := hid by7
    have O67 := hid o67
    clear h7 o7 by7 o67 f7
    go_wp2_with fail
    go_ret
    refine ⟨bb, bc, { pushM m q (.slice (some ⟨k, 0, none⟩) N kc) w2b.heap.size bb bc with ov := ov7 }, rfl, By7.out, ?_, O67.out, ?_⟩
    · rw [hus2.out, Hh.out]
      exact H7.out
    · rw [hus2.out, Hh.out]
      intro j hj
      exact Hfresh.out j (all_drop hov7 hj)
  · have g1 : ¬ (s.mo : Int) < (N : Int) := by omega
    have hus2 : Hid (useS s q = missS s q) := by show _ = _; rw [hus.out, if_neg (by rw [← HNl.out]; exact hev)]
    have c60 : w6.cell? ⟨w2b.heap.size, 0, none⟩ = some (.slice (some ⟨bb, 0, none⟩) 256 bc) := cell_of_row _ _ 0 _ _ _ f6
    clear f6
    go_quiet (fail)
    go_wp2_with fail
    go_ret
    refine ⟨bb, bc, pushM m q (.slice (some ⟨k, 0, none⟩) N kc) w2b.heap.size bb bc, rfl, By6.out.keep rfl, ?_, ⟨O6.out.os, O6.out.tape, O6.out.output, O6.out.size, O6.out.block⟩, ?_⟩
    · rw [hus2.out, Hh.out]
      exact HP.out.1.below ⟨rfl, rfl, rfl, Nat.le_refl _, fun _ _ => rfl⟩
    · rw [hus2.out, Hh.out]
      exact Hfresh.out
theorem use_any {w : World} {p : Nat} {m : PM} {s : PS} (h : PgMem w p m s) (q : Nat) (hqP : q < s.P) (hfull : s.ord.length ≤ s.mo) (ht : s.t ≤ 100000) (hu : s.u ≤ 4611686018427387904) :
    Calls Tryz.prog 119 #[.pointer (some ⟨p, 0, none⟩), .int .i64 (q : Int)] w (UsePost w p m s q) := by
  by_cases hq : q ∈ s.ord
  · exact use_hit h q hq hfull ht hu
  · exact use_miss h q hq hqP hfull ht hu
end Go.Proofs.YthdcjepkehifoaaGreat

/- Read of package pager, by a contract. -/
namespace Go.Proofs.YthdcjepkehifoaaGreat
open Go.RowKit Go.Maps Go.Sort Go.Shelf
set_option linter.unusedVariables false
set_option maxRecDepth 20000
/-- what Read leaves -/
def readS (s : PS) (q : Nat) : PS := if (s.dl.lookup q).isSome then s else useS s q
def badP (s : PS) (x : Int) : Prop := x < 0 ∨ (s.P : Int) ≤ x
theorem reach1 (P : Nat) (x : Int) : reachE P [x] = if x < 0 ∨ (P : Int) ≤ x then 2 else 0 := by
  unfold reachE
  by_cases h : x < 0 ∨ (P : Int) ≤ x
  · rw [if_pos h, if_neg]
    simp
    omega
  · rw [if_neg h, if_pos]
    simp
    omega
theorem ints_new (w : World) (x : Int) : IntsAt (w.alloc (.cells #[.int .i64 x] 3)) (some ⟨w.heap.size, 0, none⟩) [x] := fun i hi => by
  obtain rfl : i = 0 := by simpa using hi
  exact ⟨w.heap.size, 0, rfl, cell_of_row _ _ 0 _ _ _ (heap_alloc_new w _)⟩
theorem own256 {w : World} {B n : Nat} {v : Value} {x : List UInt8} (h : w.ownsRow B 5 1 v n (cellsOf x)) (hn : n = x.length) (hx : 0 < x.length) : ∃ b c, v = .slice (some ⟨b, 0, none⟩) n c ∧ B ≤ b ∧ b < w.heap.size := by
  rcases h.2 with ⟨_, h0⟩ | ⟨g, cap, cur, rfl, hb, hg, _⟩
  · omega
  · exact ⟨g, cap, rfl, hb, (Array.getElem?_eq_some_iff.1 hg).1⟩
theorem lookup_mem {l : List (Nat × List UInt8)} {q : Nat} {x : List UInt8} (h : l.lookup q = some x) : (q, x) ∈ l := by
  induction l with
  | nil => cases h
  | cons a l ih =>
    rw [List.lookup_cons] at h
    by_cases e : (q == a.1) = true
    · rw [e] at h
      simp at h
      have : q = a.1 := by simpa using e
      subst h
      rw [this]
      exact List.mem_cons_self ..
    · rw [Bool.eq_false_iff.2 e] at h
      exact List.mem_cons_of_mem _ (ih h)
theorem lookup_none {l : List (Nat × List UInt8)} {q : Nat} (h : l.lookup q = none) : ∀ c ∈ l, c.1 ≠ q := by
  intro c hc e
  induction l with
  | nil => cases hc
  | cons a l ih =>
    rw [List.lookup_cons] at h
    rcases List.mem_cons.1 hc with rfl | hc
    · rw [show (q == c.1) = true by simp [e]] at h
      cases h
    · by_cases e' : (q == a.1) = true
      · rw [e'] at h; cases h
      · rw [Bool.eq_false_iff.2 e'] at h
        exact ih h hc
/-- what Read answers -/
def ReadPost (w : World) (p : Nat) (m : PM) (s : PS) (x : Int) (e : Ending) (w' : World) : Prop :=
  (badP s x ∧ e = .returned (.tuple #[.slice none 0 0, .int .i64 2]) ∧ Below w.heap.size w w') ∨
  (¬ badP s x ∧ ∃ b c m', e = .returned (.tuple #[.slice (some ⟨b, 0, none⟩) 256 c, .int .i64 0]) ∧ w'.ownsRow w.heap.size 5 1 (.slice (some ⟨b, 0, none⟩) 256 c) 256 (cellsOf (s.now x.toNat)) ∧ PgMem w' p m' (readS s x.toNat) ∧ Out (clB p m) w w' ∧ Fresh w p m s m' (readS s x.toNat) ∧ ¬ allB p m' (readS s x.toNat) b)
theorem page_len {w : World} {p : Nat} {m : PM} {s : PS} (h : PgMem w p m s) {q : Nat} (hq : q < s.P) : (s.page q).length = 256 := pageNow_length h.log.inv q hq
set_option maxHeartbeats 2000000 in
theorem read_any {w : World} {p : Nat} {m : PM} {s : PS} (h : PgMem w p m s) (hfull : s.ord.length ≤ s.mo) (ht : s.t ≤ 100000) (hu : s.u ≤ 4611686018427387904) (x : Int) (hx : -9223372036854775808 ≤ x ∧ x ≤ 9223372036854775807) :
    Calls Tryz.prog 64 #[.pointer (some ⟨p, 0, none⟩), .int .i64 x] w (ReadPost w p m s x) := by
  obtain ⟨W0, hW0⟩ : ∃ W0, W0 = w.alloc (.cells #[.int .i64 x] 3) := ⟨_, rfl⟩
  have b0 : Below w.heap.size w W0 := by rw [hW0]; exact (Below.refl _ w).alloc (Nat.le_refl _) _
  have HR := hid (pgReach_any (h.below b0) (some ⟨w.heap.size, 0, none⟩) [x] 1 (by rw [hW0]; exact ints_new w x) (by simp))
  rw [reach1] at HR
  have H := hid h
  have HW := hid hW0
  have HB0 := hid b0
  by_cases hb : badP s x
  · have hpost : Hid (∀ e w', (e = .returned (.tuple #[.slice none 0 0, .int .i64 2]) ∧ Below w.heap.size w w') → ReadPost w p m s x e w') := fun e w' hh => .inl ⟨hb, hh.1, hh.2⟩
    rw [if_pos (show x < 0 ∨ (s.P : Int) ≤ x from hb)] at HR
    clear h hW0 b0 hb
    refine Calls.mono ?_ hpost.out
    clear hpost
    go_enter Tryz.func64, Tryz.ntmps64
    go_wp2_with (go_at_call 118; rw [show w.alloc (.cells #[.int .i64 x] 3) = W0 from HW.out.symm]; refine HR.out.mono ?_; rintro _ w1 ⟨rfl, b1⟩; have B1 := hid b1; clear b1)
    go_ret2
    exact ⟨rfl, Below.on' HB0.out B1.out⟩
  · rw [if_neg (show ¬ (x < 0 ∨ (s.P : Int) ≤ x) from hb)] at HR
    obtain ⟨q, rfl⟩ : ∃ q : Nat, x = (q : Int) := ⟨x.toNat, by unfold badP at hb; omega⟩
    have hqP : q < s.P := by unfold badP at hb; omega
    have Hbad := hid hb
    clear hb hW0 b0
    cases hl : s.dl.lookup q with
    | some y =>
      have hr : readS s q = s := by unfold readS; rw [hl]; rfl
      have hn : s.now q = y := by unfold PS.now; rw [hl]; rfl
      have hmem := lookup_mem hl
      have hyl := (h.ok.dlt _ hmem).2
      have hpost : Hid (∀ e w', (∃ b c, e = .returned (.tuple #[.slice (some ⟨b, 0, none⟩) 256 c, .int .i64 0]) ∧ w'.ownsRow w.heap.size 5 1 (.slice (some ⟨b, 0, none⟩) 256 c) 256 (cellsOf y) ∧ w.heap.size ≤ b ∧ Below w.heap.size w w') → ReadPost w p m s (q : Int) e w') := fun e w' hh => by
        obtain ⟨b, c, h1, h2, h3, h4⟩ := hh
        refine .inr ⟨Hbad.out, b, c, m, h1, ?_, ?_, Out.of_below h4, ?_, ?_⟩
        · rw [Int.toNat_natCast, hn]; exact h2
        · rw [Int.toNat_natCast, hr]; exact H.out.below h4
        · rw [Int.toNat_natCast, hr]; exact fun k hk => .inl hk
        · rw [Int.toNat_natCast, hr]; exact fun hk => by have := H.out.lts b hk; omega
      have hsome : (s.dl.lookup q).isSome = true := by rw [hl]; rfl
      refine Calls.mono ?_ hpost.out
      clear hpost hr hn h
      go_enter Tryz.func64, Tryz.ntmps64
      go_wp2_with fail
      rw [show w.alloc (.cells #[.int .i64 (q : Int)] 3) = W0 from HW.out.symm]
      refine HR.out.mono ?_
      rintro _ w1 ⟨rfl, b1⟩
      have bw1 := Below.on' HB0.out b1
      have h1 := H.out.below bw1
      have c5 := h1.c5
      have hlk := (h1.di_in hsome (by omega)).1
      obtain ⟨cs, fz, hcb, hbytes⟩ := h1.dby _ hmem
      have HCl := hid (clone_any y (m.db q) 0 (m.dc q) w1 hbytes (by omega))
      rw [hyl] at HCl
      have BW1 := hid bw1
      have Hyl := hid hyl
      clear h1 bw1 b1 hcb hbytes hl hmem hyl hsome
      go_wp2_with (go_at_call 85; refine HCl.out.mono ?_; rintro _ w2 ⟨v2, rfl, hr2, hb2, hn2⟩; have HR2 := hid hr2; have HB2 := hid hb2; clear hr2 hb2 hn2; obtain ⟨b, c, hv, hbb, hbl⟩ := own256 HR2.out Hyl.out.symm (by rw [Hyl.out]; omega); subst hv)
      go_ret2
      exact ⟨b, c, rfl, ownsRow_base_a HR2.out BW1.out.size, Nat.le_trans BW1.out.size hbb, Below.on' BW1.out HB2.out⟩
    | none =>
      have hr : readS s q = useS s q := by unfold readS; rw [hl]; rfl
      have hn : s.now q = s.page q := by unfold PS.now; rw [hl]; rfl
      have hpl := page_len h hqP
      have hpost : Hid (∀ e w', (∃ b c m', e = .returned (.tuple #[.slice (some ⟨b, 0, none⟩) 256 c, .int .i64 0]) ∧ w'.ownsRow w.heap.size 5 1 (.slice (some ⟨b, 0, none⟩) 256 c) 256 (cellsOf (s.page q)) ∧ PgMem w' p m' (useS s q) ∧ Out (clB p m) w w' ∧ Fresh w p m s m' (useS s q) ∧ ¬ allB p m' (useS s q) b) → ReadPost w p m s (q : Int) e w') := fun e w' hh => by
        refine .inr ⟨Hbad.out, ?_⟩
        rw [Int.toNat_natCast, hr, hn]
        exact hh
      have hdi : isDi s (q : Int) = false := by unfold isDi; rw [Int.toNat_natCast, hl]; simp
      refine Calls.mono ?_ hpost.out
      clear hpost hr hn h
      go_enter Tryz.func64, Tryz.ntmps64
      go_wp2_with fail
      rw [show w.alloc (.cells #[.int .i64 (q : Int)] 3) = W0 from HW.out.symm]
      refine HR.out.mono ?_
      rintro _ w1 ⟨rfl, b1⟩
      have bw1 := Below.on' HB0.out b1
      have h1 := H.out.below bw1
      have c5 := h1.c5
      have hlk := h1.di_out hdi (WalkArith.wf_i64 hx)
      have HU := hid (use_any h1 q hqP hfull ht hu)
      have BW1 := hid bw1
      have Hpl := hid hpl
      clear h1 bw1 b1 hl hdi hpl
      go_wp2_with (go_at_call 119; refine HU.out.mono ?_; rintro _ w2 ⟨bu, cu, m2, rfl, hby, hm2, ho2, hf2⟩; obtain ⟨cs, fz, hcb, hbytes⟩ := hby; have HCl := hid (clone_any (s.page q) bu 0 cu w2 hbytes (by rw [Hpl.out]; omega)); rw [Hpl.out] at HCl; have HM2 := hid hm2; have HO2 := hid ho2; have HF2 := hid hf2; clear hm2 ho2 hf2 hcb hbytes)
      refine HCl.out.mono ?_
      rintro _ w3 ⟨v2, rfl, hr2, hb2, hn2⟩
      obtain ⟨b, c, hv, hbb, hbl⟩ := own256 hr2 Hpl.out.symm (by rw [Hpl.out]; omega)
      subst hv
      have HR2 := hid hr2
      have HB2 := hid hb2
      clear hr2 hb2 hn2
      go_wp2_with fail
      go_ret2
      have hsz : w.heap.size ≤ w2.heap.size := Nat.le_trans BW1.out.size HO2.out.size
      refine ⟨b, c, m2, rfl, ownsRow_base_a HR2.out hsz, HM2.out.below HB2.out, ((Out.of_below BW1.out).trans HO2.out (fun _ _ x => x)).on HB2.out, fun k hk => (HF2.out k hk).imp id (fun x => Nat.le_trans BW1.out.size x), fun hk => ?_⟩
      have := HM2.out.lts b hk
      omega
end Go.Proofs.YthdcjepkehifoaaGreat
