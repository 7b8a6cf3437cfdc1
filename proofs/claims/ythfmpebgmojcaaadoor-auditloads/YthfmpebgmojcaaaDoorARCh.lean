/- YthfmpebgmojcaaaDoorADel + YthfmpebgmojcaaaDoorADel2 + YthfmpebgmojcaaaDoorAPrune + YthfmpebgmojcaaaDoorARCh -/
import Derived.Test.YthfmpebgmojcaaaDoorTkH
import Derived.Test.YthfmpebgmojcaaaDoorAVer
import Derived.ArgAppend
import Derived.Deep.RegionLaw
import Derived.Laws.AppendOwnNone
import Derived.Test.YthfmpebgmojcaaaDoorARChain
/- Events cut off: slices.Delete at events; audit.Prune. -/
namespace Go.Proofs.YthfmpebgmojcaaaDoor
open Go.RowKit Go.Shelf
set_option linter.unusedVariables false
set_option maxRecDepth 20000
set_option maxHeartbeats 1000000 in
theorem delete_none (w : World) : Calls Tryd.prog 77 #[.slice none 0 0, .int .i64 0, .int .i64 0] w fun e w' => e = .returned (.slice none 0 0) ∧ w' = w := by
  go_enter Tryd.func77, Tryd.ntmps77
  go_wp2
  go_ret
  exact ⟨rfl, rfl⟩
set_option maxHeartbeats 1000000 in
theorem delete_zero (w : World) (b n cap : Nat) (hn : n ≤ cap) : Calls Tryd.prog 77 #[.slice (some ⟨b, 0, none⟩) n cap, .int .i64 0, .int .i64 0] w fun e w' => e = .returned (.slice (some ⟨b, 0, none⟩) n cap) ∧ w' = w := by
  go_enter Tryd.func77, Tryd.ntmps77
  go_wp2
  go_ret
  exact ⟨rfl, rfl⟩
def cutA (b cap k : Nat) : Addr := if cap = k then ⟨b, 0, none⟩ else ⟨b, k * 4, none⟩
section
variable {ops : Array Oper} {S : World → Prop} {op : Oper} {a : Act}
theorem y_cut0 (hw : Region.wanted op (yielded ops a.tmps) = true) (x y : Operand) (ho : op.op = .slice 63 x none (some y) none) (b n cap : Nat) (hx : a.eval x = .slice (some ⟨b, 0, none⟩) n cap) (hy : a.eval y = .int .i64 0) : YieldsIf Tryd.prog ops S op (.slice (some ⟨b, 0, none⟩) 0 cap) a := by
  refine .inl ⟨hw, fun w _ => ?_⟩
  unfold execOp
  simp only [ho, hx, Option.map_some, hy]
  simp [go_sem]
theorem y_cutK (hw : Region.wanted op (yielded ops a.tmps) = true) (x y : Operand) (ho : op.op = .slice 63 x (some y) none none) (b m k cap : Nat) (hc : m + k ≤ cap) (hx : a.eval x = .slice (some ⟨b, 0, none⟩) (m + k) cap) (hy : a.eval y = .int .i64 (k : Int)) : YieldsIf Tryd.prog ops S op (.slice (some (cutA b cap k)) m (cap - k)) a := by
  refine .inl ⟨hw, fun w _ => ?_⟩
  have d1 : (0 : Int) ≤ (k : Int) := by omega
  have d2 : (k : Int) ≤ ((m + k : Nat) : Int) := by omega
  have d3 : ((m + k : Nat) : Int) ≤ (cap : Int) := by omega
  unfold execOp
  simp only [ho, hx, Option.map_some, hy]
  by_cases h : cap = k
  · simp [go_sem, cutA, h]
    intro h9; omega
  · simp [go_sem, cutA, h]
    intro h9; omega
end
theorem wp_appRoom {ops : Array Oper} {o : Oper} {a : Act} {w : World} {K : Act → World → Prop} {Q : Exit → Act → World → Prop} (hg : o.guard = none) (s x : Operand) (hop : o.op = Op.call { callee := Callee.builtin Builtin.append, args := #[s, x], argTypes := #[63, 63] })
    (b cap : Nat) (hs : a.eval s = .slice (some ⟨b, 0, none⟩) 0 cap) (ad : Addr) (m c : Nat) (news : List Value) (hx : a.eval x = .slice (some ad) m c) (hn : news.length = m * 4) (hc : ∀ j u, news[j]? = some u → w.cell? (ad.add j) = some u) (h1c : ∀ u ∈ news, u.oneCell' = true)
    (hroom : m ≤ cap) (hspare : ∀ j, j < news.length → (w.cell? ⟨b, j, none⟩).isSome = true ∧ w.frozen? ⟨b, j, none⟩ = false)
    (hK : K (a.put o.dst (.slice (some ⟨b, 0, none⟩) m cap)) (w.setCells b 0 news)) : o.wp Tryd.prog a w K Q := by
  obtain ⟨i0, hi, hz0, hz1, hz2⟩ := info_parts Tryd.infoE
  have h := step_append_room (P := Tryd.prog) (ops := ops) (o := o) (a := a) (w := w) (K := K) (Q := Q) (E := True) hg s x 63 hop 55 i0 4 Tryd.underlying63 hi hz1 b 0 0 cap hs ad m c news hx hn hc h1c (by omega) (fun j hj => by simpa using hspare j hj) (by simpa using hK)
  rw [if_pos (by simp [Region.wanted, hg])] at h
  exact h
noncomputable def codeDel : Code := ((Tryd.f77.body.bind (regionAt 5)).getD .skip)
set_option maxHeartbeats 2000000 in
theorem delete_region {V0 W5 : World} {b m k cap : Nat} {news : List Value} {A : Act} (sz : A.tmps.size = 33) (e0 : A.eval (.tmp 0) = .slice (some ⟨b, 0, none⟩) (m + k) cap) (e1 : A.eval (.tmp 1) = .int .i64 0) (e2 : A.eval (.tmp 2) = .int .i64 (k : Int))
    (hV0 : V0 = W5.drew) (hcap : m + k ≤ cap) (hlen : news.length = m * 4) (hsrc : ∀ j u, news[j]? = some u → V0.cell? ((cutA b cap k).add j) = some u) (hone : ∀ u ∈ news, u.oneCell' = true) (hroom : ∀ j, j < news.length → (V0.cell? ⟨b, j, none⟩).isSome = true ∧ V0.frozen? ⟨b, j, none⟩ = false) :
    codeDel.wp Tryd.prog (fun x a V => x = .normal ∧ a = ((((((((A.put (some 20) (.slice (some ⟨b, 0, none⟩) (m + k) cap)).put (some 21) (.int .i64 0)).put (some 22) (.slice (some ⟨b, 0, none⟩) 0 cap)).put (some 23) (.slice (some ⟨b, 0, none⟩) (m + k) cap)).put (some 24) (.int .i64 (k : Int))).put (some 25) (.slice (some (cutA b cap k)) m (cap - k))).put (some 26) (.slice (some ⟨b, 0, none⟩) m cap)).put (some 0) (.slice (some ⟨b, 0, none⟩) m cap)) ∧ V = V0.setCells b 0 news) A W5 := by
  have hm : Tryd.prog.follows .mixedOrders = true := by kernel_rfl
  unfold codeDel
  conv => arg 2; whnf
  refine wp_region_held (S := fun _ => True) hm ?_
  rw [show ({ W5 with drawn := W5.drawn + 1 } : World) = V0 from hV0.symm]
  refine tkH (i := 0) (d := 20) (v := .slice (some ⟨b, 0, none⟩) (m + k) cap) rfl rfl (yields_move (by simp [Region.wanted]) (.tmp 0) rfl _ e0) trivial ?_
  refine tkH (i := 1) (d := 21) (v := .int .i64 0) rfl rfl (yields_move (by simp [Region.wanted]) (.tmp 1) rfl _ (evn e1)) trivial ?_
  refine tkH (i := 2) (d := 22) (v := .slice (some ⟨b, 0, none⟩) 0 cap) rfl rfl (y_cut0 (by simp [Region.wanted]) (.tmp 20) (.tmp 21) rfl b (m + k) cap (evn (ev_eq _ _ (by simp [sz]))) (ev_eq _ _ (by simp [put_sz, sz]))) trivial ?_
  refine tkH (i := 3) (d := 23) (v := .slice (some ⟨b, 0, none⟩) (m + k) cap) rfl rfl (yields_move (by simp [Region.wanted]) (.tmp 0) rfl _ (evn (evn (evn e0)))) trivial ?_
  refine tkH (i := 4) (d := 24) (v := .int .i64 (k : Int)) rfl rfl (yields_move (by simp [Region.wanted]) (.tmp 2) rfl _ (evn (evn (evn (evn e2))))) trivial ?_
  refine tkH (i := 5) (d := 25) (v := .slice (some (cutA b cap k)) m (cap - k)) rfl rfl (y_cutK (by simp [Region.wanted]) (.tmp 23) (.tmp 24) rfl b m k cap hcap (evn (ev_eq _ _ (by simp [put_sz, sz]))) (ev_eq _ _ (by simp [put_sz, sz]))) trivial ?_
  refine wpAnyH_all (rs := [6]) (by kernel_rfl) (by simp) fun i1 hm1 => ?_
  obtain rfl : i1 = 6 := by simpa using hm1
  refine wpOp_own rfl rfl fun K1 hK1 => ?_
  refine wp_appRoom (ops := #[]) rfl (.tmp 22) (.tmp 25) rfl b cap (evn (evn (evn (ev_eq _ _ (by simp [put_sz, sz]))))) (cutA b cap k) m (cap - k) news (ev_eq _ _ (by simp [put_sz, sz])) hlen hsrc hone (by omega) hroom ?_
  refine hK1 _ _ ⟨trivial, ?_⟩
  clear hK1 K1 hm1
  show wpAnyH _ _ _ _ _ _ _ (((((((A.put (some 20) (.slice (some ⟨b, 0, none⟩) (m + k) cap)).put (some 21) (.int .i64 0)).put (some 22) (.slice (some ⟨b, 0, none⟩) 0 cap)).put (some 23) (.slice (some ⟨b, 0, none⟩) (m + k) cap)).put (some 24) (.int .i64 (k : Int))).put (some 25) (.slice (some (cutA b cap k)) m (cap - k))).put (some 26) (.slice (some ⟨b, 0, none⟩) m cap)) _
  refine tkH (i := 7) (d := 0) (v := .slice (some ⟨b, 0, none⟩) m cap) rfl rfl (y_assign (by simp [Region.wanted]) (.tmp 26) rfl _ (ev_eq _ _ (by simp [put_sz, sz]))) trivial ?_
  exact wpAnyH_done (by kernel_rfl) ⟨rfl, rfl, rfl⟩ _
end Go.Proofs.YthfmpebgmojcaaaDoor
/- Events cut off: slices.Delete at events. -/
namespace Go.Proofs.YthfmpebgmojcaaaDoor
open Go.RowKit Go.Shelf
set_option linter.unusedVariables false
set_option maxRecDepth 20000
theorem clear_any (w : World) (ty : TypeId) (b o k c : Nat) (hk : 0 < k) (ht : w.there b o (k * 4)) : ∃ Z : List Value, Z.length = k * 4 ∧ ∀ ty, (Builtin.clear_ #[63] ty #[.slice (some ⟨b, o, none⟩) k c]).run Tryd.prog w = .ok (.tuple #[]) (w.setCells b o Z) := by
  have zv : ∀ w, (zeroValue 55).run Tryd.prog w = .ok (.agg (eVals ev0).toArray) w := (zero_of_info (show (Tryd.prog.info? 55).map (fun i => (i.zero, i.size)) = some (some (.agg (eVals ev0).toArray), 4) by kernel_rfl)).1
  obtain ⟨Z, hZ⟩ : ∃ Z, Z = (Builtin.zeroCells (Value.agg (eVals ev0).toArray).cells k).toList := ⟨_, rfl⟩
  have hl : Z.length = k * 4 := by rw [hZ, Array.length_toList, size_zeroCells]; rfl
  have hone : ∀ u ∈ Z, u.oneCell' = true := by
    intro u hu
    rw [hZ] at hu
    obtain ⟨i, hi, rfl⟩ := List.mem_iff_getElem.1 hu
    simp only [Builtin.zeroCells, Array.getElem_toList, Array.getElem_map]
    generalize hj : (Array.range (k * (Value.agg (eVals ev0).toArray).cells.size))[i]'(by simpa [Builtin.zeroCells] using hi) = j
    have h4 : j % (Value.agg (eVals ev0).toArray).cells.size < 4 := Nat.mod_lt _ (by decide)
    generalize j % (Value.agg (eVals ev0).toArray).cells.size = r at h4
    match r, h4 with
    | 0, _ => rfl
    | 1, _ => rfl
    | 2, _ => rfl
    | 3, _ => rfl
  refine ⟨Z, hl, fun ty => ?_⟩
  have hst := run_storeCells_cells (P := Tryd.prog) b o Z 0 w (by rw [hl]; intro j hj; simpa using (ht j hj).1) (by rw [hl]; intro j hj; simpa using (ht j hj).2) hone
  simp only [Nat.add_zero] at hst
  obtain ⟨k, rfl⟩ : ∃ k', k = k' + 1 := ⟨k - 1, by omega⟩
  simp [Builtin.clear_, run_underlying Tryd.underlying63, zv, ← hZ, hst]
structure Cut (w w' : World) (B b m k cap : Nat) (l : List Ev) : Prop where
  row : w'.ownsRow B 55 4 (.slice (some ⟨b, 0, none⟩) m cap) m (eCells (l.drop k))
  out : Out (fun j => j = b) w w'
set_option maxHeartbeats 2000000 in
theorem delete_some (w : World) (B b cap k m : Nat) (l : List Ev) (hl : l.length = m + k) (hown : w.ownsRow B 55 4 (.slice (some ⟨b, 0, none⟩) (m + k) cap) (m + k) (eCells l)) (h0 : 0 < k) :
    Calls Tryd.prog 77 #[.slice (some ⟨b, 0, none⟩) (m + k) cap, .int .i64 0, .int .i64 (k : Int)] w fun e w' => e = .returned (.slice (some ⟨b, 0, none⟩) m cap) ∧ Cut w w' B b m k cap l := by
  rcases hown.2 with ⟨h9, _⟩ | ⟨b', cap', cur, hv, hb, hg, hc, hmx, hsz, htk⟩
  · cases h9
  cases hv
  obtain ⟨C, hC⟩ : ∃ C, C = cur.toList := ⟨_, rfl⟩
  have hcur : cur = C.toArray := by rw [hC]
  have hCl : C.length = cap * 4 := by rw [hC, Array.length_toList, hsz]
  rw [hcur] at hg
  rw [← hC] at htk
  obtain ⟨news, hnews⟩ : ∃ news, news = eCells (l.drop k) := ⟨_, rfl⟩
  have hnl : news.length = m * 4 := by rw [hnews, eCells_length, List.length_drop, hl]; omega
  have hone : ∀ u ∈ news, u.oneCell' = true := by rw [hnews]; exact eCells_oneCell _
  have hget : ∀ j u, news[j]? = some u → C[k * 4 + j]? = some u := fun j u hj => by
    have hj' : j < m * 4 := by rw [← hnl]; exact (List.getElem?_eq_some_iff.1 hj).1
    have h1 : eCells l = eCells (l.take k) ++ eCells (l.drop k) := by rw [← eCells_append, List.take_append_drop]
    have h2 : (eCells (l.take k)).length = k * 4 := by rw [eCells_length, List.length_take, hl, Nat.min_eq_left (by omega)]
    have h3 : (C.take ((m + k) * 4))[k * 4 + j]? = some u := by
      rw [htk, h1, List.getElem?_append_right (by omega), h2, show k * 4 + j - k * 4 = j by omega, ← hnews]
      exact hj
    rw [List.getElem?_take_of_lt (by omega)] at h3
    exact h3
  obtain ⟨V0, hV0⟩ : ∃ V0, V0 = w.drew := ⟨_, rfl⟩
  have g0 : V0.heap[b]? = some (.cells C.toArray 55 (0, 0)) := by rw [hV0]; exact hg
  have hsrc : ∀ j u, news[j]? = some u → V0.cell? ((cutA b cap k).add j) = some u := fun j u hj => by
    have hj' : j < m * 4 := by rw [← hnl]; exact (List.getElem?_eq_some_iff.1 hj).1
    unfold cutA
    rw [if_neg (by omega), addr_add, cell_of_row _ _ _ _ _ _ g0, List.getElem?_toArray]
    exact hget j u hj
  have hroom : ∀ j, j < news.length → (V0.cell? ⟨b, j, none⟩).isSome = true ∧ V0.frozen? ⟨b, j, none⟩ = false := fun j hj => by
    have := there_row g0 0 (cap * 4) (by omega) j (by omega)
    rwa [Nat.zero_add] at this
  obtain ⟨V1, hV1⟩ : ∃ V1, V1 = V0.setCells b 0 news := ⟨_, rfl⟩
  have g1 : V1.heap[b]? = some (.cells (splice C 0 news).toArray 55 (0, 0)) := by rw [hV1]; exact heap_setCells_same b _ news 0 V0 C g0 (by omega)
  have hl1 : (splice C 0 news).length = cap * 4 := by rw [length_splice _ _ _ (by omega), hCl]
  obtain ⟨Z, hZl, hcl⟩ := clear_any V1 0 b (m * 4) k (cap - m) h0 (there_row g1 _ _ (by omega))
  have g2 : (V1.setCells b (m * 4) Z).heap[b]? = some (.cells (splice (splice C 0 news) (m * 4) Z).toArray 55 (0, 0)) := heap_setCells_same b _ Z (m * 4) V1 _ g1 (by omega)
  have fin : Cut w (V1.setCells b (m * 4) Z) B b m k cap l := by
    refine ⟨⟨by rw [← hnews, hnl], .inr ⟨b, cap, _, rfl, hb, g2, by omega, hmx, ?_, ?_⟩⟩, ?_⟩
    · rw [List.size_toArray, length_splice _ _ _ (by omega), hl1]
    · show (splice (splice C 0 news) (m * 4) Z).take (m * 4) = _
      have h1 : (splice C 0 news).take (m * 4) = news := by
        unfold splice
        rw [List.take_zero, List.nil_append, List.take_left' hnl]
      have h2 : ((splice C 0 news).take (m * 4)).length = m * 4 := by rw [h1, hnl]
      rw [show splice (splice C 0 news) (m * 4) Z = (splice C 0 news).take (m * 4) ++ (Z ++ (splice C 0 news).drop (m * 4 + Z.length)) from rfl, List.take_left' h2, h1]
      exact hnews
    · refine Out.setCells (P := fun j => j = b) b rfl _ _ _ ?_
      rw [hV1]
      refine Out.setCells (P := fun j => j = b) b rfl _ _ _ ?_
      rw [hV0]
      exact (Out.refl _ w).drew
  have Fin := hid fin
  have d1 : (0 : Int) ≤ (k : Int) := by omega
  have d2 : (k : Int) ≤ ((m : Int) + (k : Int)) := by omega
  have d3 : ((m : Int) + (k : Int)) ≤ (cap : Int) := by omega
  have d4 : ((0 : Int) == (k : Int)) = false := by rw [beq_eq_false_iff_ne]; omega
  have d5 : ¬ cap = m := by omega
  have HV1 := hid hV1
  have Hl := hid hnl
  have Hs := hid hsrc
  have Ho := hid hone
  have Hr := hid hroom
  have hcap : m + k ≤ cap := hc
  clear fin g0 g1 g2 hl1 hget hnews hnl hsrc hone hroom htk hC hcur hCl hg hsz hmx hV1 hown hl hZl
  go_enter Tryd.func77, Tryd.ntmps77
  go_wp2
  refine wp_act _ fun A hA => ?_
  have sz : A.tmps.size = 33 := by rw [hA]; rfl
  have e0 : A.eval (.tmp 0) = .slice (some ⟨b, 0, none⟩) (m + k) cap := by rw [hA]; rfl
  have e1 : A.eval (.tmp 1) = .int .i64 0 := by rw [hA]; rfl
  have e2 : A.eval (.tmp 2) = .int .i64 (k : Int) := by rw [hA]; rfl
  refine wp_split _ (delete_region sz e0 e1 e2 hV0 hcap Hl.out Hs.out Ho.out Hr.out) ?_
  rintro _ V ⟨rfl, rfl⟩
  rw [← HV1.out, hA]
  simp only [Act.put, List.setIfInBounds_toArray, List.set_cons_succ, List.set_cons_zero]
  clear sz e0 e1 e2 hA A hV0 Hs Hr
  go_wp2
  go_ret
  exact ⟨rfl, Fin.out⟩
def DelPost (w : World) (B : Nat) (v : Value) (l : List Ev) (k : Nat) (e : Ending) (w' : World) : Prop :=
  ∃ a cap, e = .returned (.slice a (l.length - k) cap) ∧ w'.ownsRow B 55 4 (.slice a (l.length - k) cap) (l.length - k) (eCells (l.drop k)) ∧ Out (fun j => v.ownBlock = some j) w w' ∧ (Value.slice a (l.length - k) cap).ownBlock = v.ownBlock
theorem delete_any (w : World) (B : Nat) (v : Value) (l : List Ev) (k : Nat) (hk : k ≤ l.length) (hown : w.ownsRow B 55 4 v l.length (eCells l)) :
    Calls Tryd.prog 77 #[v, .int .i64 0, .int .i64 (k : Int)] w (DelPost w B v l k) := by
  have h2 := hown
  rcases hown.2 with ⟨rfl, h0⟩ | ⟨b, cap, cur, rfl, hb, hg, hc, _⟩
  · have hk0 : k = 0 := by omega
    subst hk0
    refine (delete_none w).mono ?_
    rintro e w' ⟨rfl, rfl⟩
    rw [h0] at h2
    exact ⟨none, 0, by rw [h0], by rw [h0]; exact h2, Out.refl _ _, rfl⟩
  · by_cases hk0 : k = 0
    · subst hk0
      refine (delete_zero w b l.length cap hc).mono ?_
      rintro e w' ⟨rfl, rfl⟩
      exact ⟨_, cap, rfl, h2, Out.refl _ _, rfl⟩
    · obtain ⟨m, hm⟩ : ∃ m, l.length = m + k := ⟨l.length - k, by omega⟩
      rw [hm] at h2 ⊢
      refine (delete_some w B b cap k m l hm h2 (by omega)).mono ?_
      rintro e w' ⟨rfl, hcut⟩
      refine ⟨some ⟨b, 0, none⟩, cap, by rw [show l.length - k = m by omega], ?_, hcut.out.imp (fun j _ hj => by rw [hj]; rfl), rfl⟩
      rw [show l.length - k = m by omega]
      exact hcut.row
end Go.Proofs.YthfmpebgmojcaaaDoor
/- Prune, and Events, of a chain, by contracts. -/
namespace Go.Proofs.YthfmpebgmojcaaaDoor
open Go.RowKit Go.Shelf
set_option linter.unusedVariables false
set_option maxRecDepth 20000
attribute [local go_sem ↓] loadL_fold storeL_fold
def pruR (c : Ch) (n : Int) : Ch := if pruE c n = 0 then pruC c (n.toNat - c.bn) else c
def pruN (c : Ch) (n : Int) : Int := if pruE c n = 0 then n - (c.bn : Int) else 0
theorem pruR_ok {c : Ch} (ok : ChOk c) (n : Int) : ChOk (pruR c n) := by
  unfold pruR
  split
  · rename_i h
    obtain ⟨k, hk, hle⟩ := pruE_zero h
    rw [hk, Int.toNat_natCast, show c.bn + k - c.bn = k by omega]
    exact pruC_ok ok hle
  · exact ok
theorem pruR_sound {c : Ch} (ok : ChOk c) (hs : Sound c) (n : Int) : Sound (pruR c n) := by
  unfold pruR
  split
  · rename_i h
    obtain ⟨k, hk, hle⟩ := pruE_zero h
    rw [hk, Int.toNat_natCast, show c.bn + k - c.bn = k by omega]
    exact hs.pru ok hle
  · exact hs
theorem pruC_cnt {c : Ch} (ok : ChOk c) {k : Nat} (h : c.bn + k ≤ c.an) : (pruC c k).cnt = c.cnt := by
  have := ok.anc
  simp [pruC, Ch.cnt]
  omega
theorem pruR_cnt {c : Ch} (ok : ChOk c) (n : Int) : (pruR c n).cnt = c.cnt := by
  unfold pruR
  split
  · rename_i h
    obtain ⟨k, hk, hle⟩ := pruE_zero h
    rw [hk, Int.toNat_natCast, show c.bn + k - c.bn = k by omega]
    exact pruC_cnt ok hle
  · rfl
def PruPost (w : World) (B g : Nat) (v : Value) (c : Ch) (n : Int) (x : Ending) (w' : World) : Prop :=
  ∃ v', x = .returned (.tuple #[.int .i64 (pruN c n), .int .i64 (pruE c n)]) ∧ ChAt w' B g v' (pruR c n) ∧ Out (CBlk g v) w w' ∧ Grew w v v'
def PruOk (w : World) (B g : Nat) (v : Value) (c : Ch) (k : Nat) (x : Ending) (w' : World) : Prop :=
  ∃ v', x = .returned (.tuple #[.int .i64 (k : Int), .int .i64 0]) ∧ ChAt w' B g v' (pruC c k) ∧ Out (CBlk g v) w w' ∧ Grew w v v'
set_option maxHeartbeats 4000000 in
theorem prune_ok {w : World} {B g : Nat} {v : Value} {c : Ch} (h : ChAt w B g v c) (ok : ChOk c) (hc : c.cnt < 1152921504606846976) (hT : Tabs w B) (hB : B ≤ w.heap.size) (k : Nat) (hk : c.bn + k ≤ c.an) :
    Calls Tryd.prog 37 #[.pointer (some ⟨g, 0, none⟩), .int .i64 ((c.bn + k : Nat) : Int)] w (PruOk w B g v c k) := by
  have hkl : k ≤ c.ev.length := by have := ok.anc; omega
  have HL := hid (linkAt_any h ok hc hT hB k hkl)
  have c0 := h.c0
  have c33 := h.c33 ok.l
  have hat : (c.at k).length = 32 := Ch.at_length ok k
  obtain ⟨N, hN⟩ : ∃ N, N = c.bn + k := ⟨_, rfl⟩
  rw [← hN] at HL ⊢
  obtain ⟨b, hb⟩ : ∃ b, b = c.bn := ⟨_, rfl⟩
  rw [← hb] at c0
  obtain ⟨an, han⟩ : ∃ an, an = c.an := ⟨_, rfl⟩
  rw [← han] at c33
  have hc' := hc
  unfold Ch.cnt at hc'
  have hNb : N < 1152921504606846976 := by omega
  have hbN : b ≤ N := by omega
  have d1 : ¬ (an : Int) < (N : Int) := by omega
  have d2 : ¬ (N : Int) < (b : Int) := by omega
  have d3 : decide ((an : Int) < (N : Int)) = false := by simpa using d1
  have d4 : decide ((N : Int) < (b : Int)) = false := by simpa using d2
  have Hd : Hid ((N : Int) - (b : Int) = (k : Int)) := by show _ = _; omega
  obtain ⟨a0, cap, rfl⟩ := h.val
  have Hat := hid hat
  have HH := hid h
  have OK := hid ok
  have Hk := hid hkl
  have HN := hid hN
  have lens2 : Hid (Lens { c with bn := N, bh := c.at k }) := ⟨hat, ok.lan, ok.lh⟩
  clear h ok hT hat hkl hN hk hb han hc hc'
  go_enter Tryd.func37, Tryd.ntmps37
  go_wp2_with (first
    | (go_at_call 77; rw [Hd.out]; refine HD.out.mono ?_; rintro x w3 ⟨a3, cap3, rfl, hrow3, ho3, hbl3⟩; have g3 := (ho3.block g H2.out.lt (fun y => H2.out.ne g y rfl)).trans H2.out.obj; have k3 := cell_66 g3 lens2.out; have f3 : w3.frozen? ⟨g, 66, none⟩ = false := frozen_of_row _ _ _ _ _ g3)
    | (go_at_call 76; refine HL.out.mono ?_; rintro x w1 ⟨rfl, hb1⟩; have H1 := HH.out.below hb1; have hS6 := storeL_run (n := N) (H1.there OK.out.l 0 33 (by omega)) Hat.out; have h2 : ChAt (w1.setCells g 0 (lnkC N (c.at k))) B g (.slice a0 c.ev.length cap) { c with bn := N, bh := c.at k } := ⟨H1.setBase OK.out.l N (c.at k) Hat.out, H1.row_set 0 (lnkC N (c.at k)), H1.bg⟩; have o2 : Out (CBlk g (.slice a0 c.ev.length cap)) w (w1.setCells g 0 (lnkC N (c.at k))) := Out.setCells g (.inl rfl) _ _ _ (Out.of_below hb1); have c66 := h2.c66 lens2.out; have HD := hid (delete_any _ B _ c.ev k Hk.out h2.row); have H2 := hid h2; have O2 := hid o2; have HB1 := hid hb1; clear H1 h2 o2 hb1))
  go_ret2
  have o3 : Out (CBlk g (.slice a0 c.ev.length cap)) w w3 := O2.out.trans ho3 (fun j _ hj => .inr hj)
  have hne : ∀ j, (Value.slice a3 (c.ev.length - k) cap3).ownBlock = some j → j ≠ g := fun j hj => H2.out.ne j (by rw [← hbl3]; exact hj)
  have hpc : pruC c k = { c with bn := N, bh := c.at k, ev := c.ev.drop k } := by rw [HN.out]; rfl
  refine ⟨.slice a3 (c.ev.length - k) cap3, rfl, ?_, o3.setCell _ _ (.inl rfl), fun j hj => .inl (by rw [← hbl3]; exact hj)⟩
  rw [hpc]
  refine ⟨?_, ?_, HH.out.bg⟩
  · rw [heap_setCell_same w3 g 66 _ _ _ g3, ccells_set66 lens2.out]
    rfl
  · show World.ownsRow _ B 55 4 (.slice a3 (c.ev.length - k) cap3) (c.ev.drop k).length (eCells (c.ev.drop k))
    rw [List.length_drop]
    refine ⟨hrow3.1, ?_⟩
    rcases hrow3.2 with h0 | ⟨j, cap', cur, hv, hb, hj, r⟩
    · exact .inl h0
    · refine .inr ⟨j, cap', cur, hv, hb, (heap_setCell_other _ _ _ _ (hne j (by rw [hv]; rfl))).trans hj, r⟩
set_option maxHeartbeats 1000000 in
theorem prune_err {w : World} {B g : Nat} {v : Value} {c : Ch} (h : ChAt w B g v c) (ok : ChOk c) (n : Int) (he : pruE c n ≠ 0) :
    Calls Tryd.prog 37 #[.pointer (some ⟨g, 0, none⟩), .int .i64 n] w fun x w' => x = .returned (.tuple #[.int .i64 0, .int .i64 2]) ∧ Below w.heap.size w w' := by
  have c0 := h.c0
  have c33 := h.c33 ok.l
  have h2 : (c.an : Int) < n ∨ n < (c.bn : Int) := by
    unfold pruE at he
    split at he
    · assumption
    · exact absurd rfl he
  clear h ok he
  generalize c.an = an at *
  generalize c.bn = bn at *
  by_cases d1 : (an : Int) < n
  · have d3 : decide ((an : Int) < n) = true := by simpa using d1
    go_enter Tryd.func37, Tryd.ntmps37
    go_wp2
    go_ret2
    exact ⟨rfl, Below.refl _ _⟩
  · have d2 : n < (bn : Int) := by omega
    have d3 : decide ((an : Int) < n) = false := by simpa using d1
    have d4 : decide (n < (bn : Int)) = true := by simpa using d2
    go_enter Tryd.func37, Tryd.ntmps37
    go_wp2
    go_ret2
    exact ⟨rfl, Below.refl _ _⟩
theorem prune_any {w : World} {B g : Nat} {v : Value} {c : Ch} (h : ChAt w B g v c) (ok : ChOk c) (hc : c.cnt < 1152921504606846976) (hT : Tabs w B) (hB : B ≤ w.heap.size) (n : Int) :
    Calls Tryd.prog 37 #[.pointer (some ⟨g, 0, none⟩), .int .i64 n] w (PruPost w B g v c n) := by
  by_cases he : pruE c n = 0
  · obtain ⟨k, rfl, hle⟩ := pruE_zero he
    refine (prune_ok h ok hc hT hB k hle).mono ?_
    rintro x w' ⟨v', rfl, h1, h2, h3⟩
    refine ⟨v', ?_, ?_, h2, h3⟩
    · unfold pruN
      rw [if_pos he, he, show (((c.bn + k : Nat) : Int) - (c.bn : Int)) = (k : Int) by omega]
    · unfold pruR
      rw [if_pos he, Int.toNat_natCast, show c.bn + k - c.bn = k by omega]
      exact h1
  · refine (prune_err h ok n he).mono ?_
    rintro x w' ⟨rfl, hb⟩
    have he2 : pruE c n = 2 := by
      unfold pruE at he ⊢
      split
      · rfl
      · rename_i h9; rw [if_neg h9] at he; exact absurd rfl he
    refine ⟨v, ?_, ?_, Out.of_below hb, fun k hk => .inl hk⟩
    · unfold pruN
      rw [if_neg he, he2]
    · unfold pruR
      rw [if_neg he]
      exact h.below hb
theorem app_evs (w : World) {ops : Array Oper} {rest : List Oper} {o : Oper} {a : Act} {Q : Exit → Act → World → Prop} (hgd : o.guard = none) (s x : Operand)
    (ho : o.op = .call { callee := .builtin .append, args := #[s, x], argTypes := #[63, 63] }) (base : Nat) (v : Value) (hs : a.eval s = v)
    (hown : w.ownsRow base 55 4 v 0 []) (b n c : Nat) (l : List Ev) (hn : n = l.length) (hx : a.eval x = .slice (some ⟨b, 0, none⟩) n c) (hr : w.rangeAt b 0 (eCells l)) (hb : l.length ≤ 1000) (hbase : base ≤ w.heap.size)
    (h : ∀ v' w', w'.ownsRow base 55 4 v' l.length (eCells l) → Below base w w' → wpList Tryd.prog ops Q rest (a.put o.dst v') w') :
    wpList Tryd.prog ops Q (o :: rest) a w := by
  obtain ⟨i0, hi, hz0, hz1, hz2⟩ := info_parts Tryd.infoE
  refine wpList_append_own w hgd s x 63 ho base 55 i0 (.agg #[.int .i64 0, .int .i64 0, .string ⟨#[]⟩, .string ⟨#[]⟩]) 4 48 Tryd.underlying63 hi hz0 hz1 hz2 rfl (by decide) v 0 [] hs hown ⟨b, 0, none⟩ n c (eCells l) hx (by rw [eCells_length, hn]) (fun j u hj => by rw [addr_add]; exact hr j u hj) (eCells_oneCell l) (by unfold maxLen; omega) (by omega) hbase ?_
  intro v' w' h1 h2 _
  rw [Nat.zero_add, List.nil_append, hn] at h1
  exact h v' w' h1 ((Below.refl _ _).grown h2 hbase (fun k hk => (hown.lt k hk).1))
def EvPost (w : World) (l : List Ev) (e : Ending) (w' : World) : Prop := ∃ a cap, e = .returned (.slice a l.length cap) ∧ w'.ownsRow w.heap.size 55 4 (.slice a l.length cap) l.length (eCells l) ∧ Below w.heap.size w w'
theorem evPost_of {w w' : World} {l : List Ev} {v : Value} (h : w'.ownsRow w.heap.size 55 4 v l.length (eCells l)) (hb : Below w.heap.size w w') : EvPost w l (.returned v) w' := by
  have h2 := h
  rcases h.2 with ⟨rfl, h0⟩ | ⟨b, cap, cur, rfl, _⟩
  · exact ⟨none, 0, by rw [h0], by rw [h0] at h2 ⊢; exact h2, hb⟩
  · exact ⟨_, cap, rfl, h2, hb⟩
set_option maxHeartbeats 1000000 in
theorem clone_any (w : World) (B : Nat) (v : Value) (l : List Ev) (hl : l.length ≤ 1000) (hown : w.ownsRow B 55 4 v l.length (eCells l)) :
    Calls Tryd.prog 63 #[v] w (EvPost w l) := by
  have q22 : ∀ (w : World) (a : Option Addr) (n c n' c' : Nat), (binOp .eql 63 (.slice a n c) (.slice none n' c')).run Tryd.prog w = .ok (.bool a.isNone) w := fun w a n c n' c' => Lib.run_eql_slice_nil w _ _ a n c n' c' Tryd.underlying63
  rcases hown.2 with ⟨rfl, h0⟩ | ⟨b, cap, cur, rfl, hb, hg, hc, hmx, hsz, htk⟩
  · have hl0 : l = [] := List.length_eq_zero_iff.1 h0
    subst hl0
    clear hown
    go_enter Tryd.func63, Tryd.ntmps63
    go_wp2
    go_ret
    exact evPost_of (l := []) (World.ownsRow_nil _ _ _ _) (Below.refl _ _)
  · have hr : w.rangeAt b 0 (eCells l) := fun j u hj => by
      rw [Nat.zero_add, cell_of_row _ _ _ _ _ _ hg, ← Array.getElem?_toList]
      rw [← htk] at hj
      have := (List.getElem?_eq_some_iff.1 hj).1
      rw [List.length_take] at this
      rw [List.getElem?_take_of_lt (by omega)] at hj
      exact hj
    have hr1 := hid (World.rangeAt_alloc hr (.cells #[] 55))
    have B1 : Hid (Below w.heap.size w (w.alloc (.cells #[] 55))) := (Below.refl _ w).alloc (Nat.le_refl _) _
    have M1 : Hid ((w.alloc (.cells #[] 55)).ownsRow w.heap.size 55 4 (.slice (some ⟨w.heap.size, 0, none⟩) 0 0) 0 []) := World.ownsRow_made w #[] 0 (Nat.le_refl _) (by decide) rfl
    obtain ⟨n, hn⟩ : ∃ n, n = l.length := ⟨_, rfl⟩
    rw [← hn]
    have Hn := hid hn
    have Hl := hid hl
    clear hr hn hg htk hsz hmx hown hl hc
    go_enter Tryd.func63, Tryd.ntmps63
    go_wp2_with (at_builtin; refine app_evs _ rfl (.tmp 5) (.tmp 6) rfl w.heap.size _ rfl M1.out b n cap l Hn.out rfl hr1.out Hl.out (by simp) ?_; intro v' w' h1 h2)
    go_ret
    exact evPost_of h1 (B1.out.trans h2)
set_option maxHeartbeats 1000000 in
theorem events_any {w : World} {B g : Nat} {v : Value} {c : Ch} (h : ChAt w B g v c) (ok : ChOk c) :
    Calls Tryd.prog 24 #[.pointer (some ⟨g, 0, none⟩)] w (EvPost w c.ev) := by
  have HC := hid (clone_any w B v c.ev (by have := ok.few; omega) h.row)
  obtain ⟨a0, cap, rfl⟩ := h.val
  have c66 := h.c66 ok.l
  clear h ok
  go_enter Tryd.func24, Tryd.ntmps24
  go_wp2_with (go_at_call 63; refine HC.out.mono ?_; rintro x w1 ⟨a1, cap1, rfl, h1, h2⟩)
  go_ret
  exact ⟨a1, cap1, rfl, h1, h2⟩
end Go.Proofs.YthfmpebgmojcaaaDoor
/- The reference's chain in memory: base, anchor, last, three hashes and the row of events. -/
namespace Go.Proofs.YthfmpebgmojcaaaDoor
open Go.RowKit
set_option linter.unusedVariables false
set_option maxRecDepth 20000
def rfnums (c : Ch) : List Value := [.int .i64 (c.bn : Int), .int .i64 (c.an : Int), .int .i64 (c.la : Int)]
def rfcells (c : Ch) (v : Value) : List Value := rfnums c ++ (cellsOf c.bh ++ (cellsOf c.ah ++ (cellsOf c.hd ++ [v])))
structure RAt (w : World) (B g : Nat) (v : Value) (c : Ch) : Prop where
  obj : w.heap[g]? = some (.cells (rfcells c v).toArray 93 (0, 0))
  row : w.ownsRow B 55 4 v c.ev.length (eCells c.ev)
  bg : B ≤ g
section
variable {w w' : World} {B g : Nat} {v : Value} {c : Ch}
theorem RAt.lt (h : RAt w B g v c) : g < w.heap.size := (Array.getElem?_eq_some_iff.1 h.obj).1
theorem RAt.val (h : RAt w B g v c) : ∃ a cap, v = .slice a c.ev.length cap := by
  rcases h.row.2 with ⟨rfl, h0⟩ | ⟨k, cap, cur, rfl, _⟩
  · exact ⟨none, 0, by rw [h0]⟩
  · exact ⟨_, cap, rfl⟩
theorem RAt.lts (h : RAt w B g v c) : ∀ k, v.ownBlock = some k → B ≤ k ∧ k < w.heap.size := fun k hk => h.row.lt k hk
theorem RAt.ne (h : RAt w B g v c) : ∀ k, v.ownBlock = some k → k ≠ g := by
  rintro k hk rfl
  rcases h.row.2 with ⟨rfl, _⟩ | ⟨j, cap, cur, rfl, hb, hj, r⟩
  · cases hk
  · cases hk
    have := h.obj
    rw [hj] at this
    injection this with this
    injection this with _ this
    exact absurd this (by decide)
theorem RAt.c0 (h : RAt w B g v c) : w.cell? ⟨g, 0, none⟩ = some (.int .i64 (c.bn : Int)) := cell_mid (A := []) h.obj 0 rfl
theorem RAt.c1 (h : RAt w B g v c) : w.cell? ⟨g, 1, none⟩ = some (.int .i64 (c.an : Int)) := cell_mid (A := [.int .i64 (c.bn : Int)]) h.obj 1 rfl
theorem RAt.c2 (h : RAt w B g v c) : w.cell? ⟨g, 2, none⟩ = some (.int .i64 (c.la : Int)) := cell_mid (A := [.int .i64 (c.bn : Int), .int .i64 (c.an : Int)]) h.obj 2 rfl
theorem RAt.rb (h : RAt w B g v c) : w.rangeAt g 3 (cellsOf c.bh) := range_mid (A := rfnums c) h.obj 3 rfl
theorem rfcells_ah (c : Ch) (v : Value) : rfcells c v = (rfnums c ++ cellsOf c.bh) ++ (cellsOf c.ah ++ (cellsOf c.hd ++ [v])) := by simp [rfcells]
theorem rfcells_hd (c : Ch) (v : Value) : rfcells c v = (rfnums c ++ (cellsOf c.bh ++ cellsOf c.ah)) ++ (cellsOf c.hd ++ [v]) := by simp [rfcells]
theorem rfcells_v (c : Ch) (v : Value) : rfcells c v = (rfnums c ++ (cellsOf c.bh ++ (cellsOf c.ah ++ cellsOf c.hd))) ++ (v :: []) := by simp [rfcells]
theorem RAt.ra (h : RAt w B g v c) (ok : Lens c) : w.rangeAt g 35 (cellsOf c.ah) := by
  have h0 := h.obj
  rw [rfcells_ah] at h0
  exact range_mid h0 35 (by simp [rfnums, cellsOf_length, ok.lb])
theorem RAt.rh (h : RAt w B g v c) (ok : Lens c) : w.rangeAt g 67 (cellsOf c.hd) := by
  have h0 := h.obj
  rw [rfcells_hd] at h0
  exact range_mid h0 67 (by simp [rfnums, cellsOf_length, ok.lb, ok.lan])
theorem RAt.c99 (h : RAt w B g v c) (ok : Lens c) : w.cell? ⟨g, 99, none⟩ = some v := by
  have h0 := h.obj
  rw [rfcells_v] at h0
  exact cell_mid h0 99 (by simp [rfnums, cellsOf_length, ok.lb, ok.lan, ok.lh])
theorem rfcells_length (ok : Lens c) (v : Value) : (rfcells c v).length = 100 := by simp [rfcells, rfnums, cellsOf_length, ok.lb, ok.lan, ok.lh]
theorem RAt.there (h : RAt w B g v c) (ok : Lens c) (o n : Nat) (ho : o + n ≤ 100) : w.there g o n := there_row h.obj o n (by rw [rfcells_length ok]; exact ho)
theorem RAt.fz (h : RAt w B g v c) (o : Nat) : w.frozen? ⟨g, o, none⟩ = false := frozen_of_row _ _ _ _ _ h.obj
theorem RAt.keep (h : RAt w B g v c) (hg : w'.heap[g]? = w.heap[g]?) (hv : ∀ k, v.ownBlock = some k → w'.heap[k]? = w.heap[k]?) : RAt w' B g v c := by
  refine ⟨hg.trans h.obj, ⟨h.row.1, ?_⟩, h.bg⟩
  rcases h.row.2 with h0 | ⟨k, cap, cur, rfl, hb, hk, r⟩
  · exact .inl h0
  · exact .inr ⟨k, cap, cur, rfl, hb, (hv k rfl).trans hk, r⟩
theorem RAt.below (h : RAt w B g v c) (hb : Below w.heap.size w w') : RAt w' B g v c := h.keep (hb.block g h.lt) (fun k hk => hb.block k (h.lts k hk).2)
theorem RAt.out {P : Nat → Prop} (h : RAt w B g v c) (ho : Out P w w') (hg : ¬ P g) (hv : ∀ k, v.ownBlock = some k → ¬ P k) : RAt w' B g v c := h.keep (ho.block g h.lt hg) (fun k hk => ho.block k (h.lts k hk).2 (hv k hk))
theorem RAt.mono (h : RAt w B g v c) {B' : Nat} (hB : B' ≤ B) : RAt w B' g v c := by
  refine ⟨h.obj, ⟨h.row.1, ?_⟩, Nat.le_trans hB h.bg⟩
  rcases h.row.2 with h0 | ⟨k, cap, cur, rfl, hb, r⟩
  · exact .inl h0
  · exact .inr ⟨k, cap, cur, rfl, Nat.le_trans hB hb, r⟩
theorem RAt.row_set (h : RAt w B g v c) (o : Nat) (vs : List Value) : (w.setCells g o vs).ownsRow B 55 4 v c.ev.length (eCells c.ev) := by
  refine ⟨h.row.1, ?_⟩
  have hne := h.ne
  rcases h.row.2 with h0 | ⟨k, cap, cur, rfl, hb, hk, r⟩
  · exact .inl h0
  · exact .inr ⟨k, cap, cur, rfl, hb, (other_setCells g k (hne k rfl) vs o w).trans hk, r⟩
theorem RAt.setHd (h : RAt w B g v c) (ok : Lens c) (l : List UInt8) (hl : l.length = 32) : RAt (w.setCells g 67 (cellsOf l)) B g v { c with hd := l } := by
  refine ⟨?_, h.row_set _ _, h.bg⟩
  rw [heap_setCells_same g _ (cellsOf l) 67 w _ h.obj (by rw [rfcells_length ok, cellsOf_length, hl]; omega), rfcells_hd, rfcells_hd, splice_mid _ _ _ _ (by simp [cellsOf, hl, ok.lh]) 67 (by simp [rfnums, cellsOf_length, ok.lb, ok.lan])]
  rfl
theorem RAt.setAh (h : RAt w B g v c) (ok : Lens c) (l : List UInt8) (hl : l.length = 32) : RAt (w.setCells g 35 (cellsOf l)) B g v { c with ah := l } := by
  refine ⟨?_, h.row_set _ _, h.bg⟩
  rw [heap_setCells_same g _ (cellsOf l) 35 w _ h.obj (by rw [rfcells_length ok, cellsOf_length, hl]; omega), rfcells_ah, rfcells_ah, splice_mid _ _ _ _ (by simp [cellsOf, hl, ok.lan]) 35 (by simp [rfnums, cellsOf_length, ok.lb])]
  rfl
theorem RAt.setBh (h : RAt w B g v c) (ok : Lens c) (l : List UInt8) (hl : l.length = 32) : RAt (w.setCells g 3 (cellsOf l)) B g v { c with bh := l } := by
  refine ⟨?_, h.row_set _ _, h.bg⟩
  rw [heap_setCells_same g _ (cellsOf l) 3 w _ h.obj (by rw [rfcells_length ok, cellsOf_length, hl]; omega)]
  unfold rfcells
  rw [splice_mid _ _ _ _ (by simp [cellsOf, hl, ok.lb]) 3 (by simp [rfnums])]
  rfl
theorem RAt.setBn (h : RAt w B g v c) (n : Nat) : RAt (w.setCell ⟨g, 0, none⟩ (.int .i64 (n : Int))) B g v { c with bn := n } := by
  refine ⟨?_, h.row_set 0 [_], h.bg⟩
  rw [heap_setCell_same w g 0 _ _ _ h.obj, List.setIfInBounds_toArray]
  rfl
theorem RAt.setAn (h : RAt w B g v c) (n : Nat) : RAt (w.setCell ⟨g, 1, none⟩ (.int .i64 (n : Int))) B g v { c with an := n } := by
  refine ⟨?_, h.row_set 1 [_], h.bg⟩
  rw [heap_setCell_same w g 1 _ _ _ h.obj, List.setIfInBounds_toArray]
  rfl
theorem RAt.setLa (h : RAt w B g v c) (n : Nat) : RAt (w.setCell ⟨g, 2, none⟩ (.int .i64 (n : Int))) B g v { c with la := n } := by
  refine ⟨?_, h.row_set 2 [_], h.bg⟩
  rw [heap_setCell_same w g 2 _ _ _ h.obj, List.setIfInBounds_toArray]
  rfl
theorem rfcells_set99 (ok : Lens c) (v u : Value) : (rfcells c v).toArray.setIfInBounds 99 u = (rfcells c u).toArray := by
  rw [List.setIfInBounds_toArray, rfcells_v, rfcells_v, set_mid _ _ _ _ 99 (by simp [rfnums, cellsOf_length, ok.lb, ok.lan, ok.lh])]
theorem RAt.setV (h : RAt w B g v c) (ok : Lens c) (u : Value) (l : List Ev) (hu : w.ownsRow B 55 4 u l.length (eCells l)) (hne : ∀ k, u.ownBlock = some k → k ≠ g) : RAt (w.setCell ⟨g, 99, none⟩ u) B g u { c with ev := l } := by
  refine ⟨?_, ⟨hu.1, ?_⟩, h.bg⟩
  · rw [heap_setCell_same w g 99 _ _ _ h.obj, rfcells_set99 ok]
    rfl
  · rcases hu.2 with h0 | ⟨k, cap, cur, rfl, hb, hk, r⟩
    · exact .inl h0
    · exact .inr ⟨k, cap, cur, rfl, hb, (heap_setCell_other _ _ _ _ (hne k rfl)).trans hk, r⟩
end
set_option maxHeartbeats 400000 in
theorem rCount_any {w : World} {B g : Nat} {v : Value} {c : Ch} (h : RAt w B g v c) (ok : ChOk c) (hc : c.cnt < 1152921504606846976) :
    Calls Tryd.prog 52 #[.pointer (some ⟨g, 0, none⟩)] w fun e w' => e = .returned (.int .i64 (c.cnt : Int)) ∧ Below w.heap.size w w' := by
  obtain ⟨a, cap, rfl⟩ := h.val
  have c0 := h.c0
  have c99 := h.c99 ok.l
  unfold Ch.cnt at hc ⊢
  clear h ok
  generalize c.ev.length = n at *
  generalize c.bn = m at *
  go_enter Tryd.func52, Tryd.ntmps52
  go_wp2
  go_region
  all_goals go_wp2
  all_goals go_ret
  all_goals exact ⟨ret_int (by go_num), (Below.refl _ _).drew⟩
end Go.Proofs.YthfmpebgmojcaaaDoor
