/- Events cut off: slices.Delete at events. -/
import Derived.Test.YthnciogaibhmcaaDoorADel
namespace Go.Proofs.YthnciogaibhmcaaDoor
open Go.RowKit Go.Shelf
set_option linter.unusedVariables false
set_option maxRecDepth 20000

theorem clear_any (w : World) (ty : TypeId) (b o k c : Nat) (hk : 0 < k) (ht : w.there b o (k * 4)) : ∃ Z : List Value, Z.length = k * 4 ∧ ∀ ty, (Builtin.clear_ #[46] ty #[.slice (some ⟨b, o, none⟩) k c]).run Tryd.prog w = .ok (.tuple #[]) (w.setCells b o Z) := by
  have zv : ∀ w, (zeroValue 60).run Tryd.prog w = .ok (.agg (eVals ev0).toArray) w := (zero_of_info (show (Tryd.prog.info? 60).map (fun i => (i.zero, i.size)) = some (some (.agg (eVals ev0).toArray), 4) by kernel_rfl)).1
  obtain ⟨Z, hZ⟩ : ∃ Z, Z = (Builtin.zeroCells (Value.agg (eVals ev0).toArray).cells k).toList := ⟨_, rfl⟩
  have hl : Z.length = k * 4 := by rw [hZ, Array.length_toList, size_zeroCells]; rfl
  have hone : ∀ u ∈ Z, u.oneCell' = true := by
    intro u hu
    rw [hZ] at hu
    obtain ⟨i, hi, rfl⟩ := List.mem_iff_getElem.1 hu
    simp only [Builtin.zeroCells, Array.getElem_toList, Array.getElem_map]
    generalize hj : (Array.range (k * (Value.agg (eVals ev0).toArray).cells.size))[i]'(by simpa [Builtin.zeroCells] using hi) = j
    have h4 : j % (Value.agg (eVals ev0).toArray).cells.size < 4 := Nat.mod_lt _ (by decide)
    generalize j % (Value.agg (eVals ev0).toArray).cells.size = r at h4
    match r, h4 with
    | 0, _ => rfl
    | 1, _ => rfl
    | 2, _ => rfl
    | 3, _ => rfl
  refine ⟨Z, hl, fun ty => ?_⟩
  have hst := run_storeCells_cells (P := Tryd.prog) b o Z 0 w (by rw [hl]; intro j hj; simpa using (ht j hj).1) (by rw [hl]; intro j hj; simpa using (ht j hj).2) hone
  simp only [Nat.add_zero] at hst
  obtain ⟨k, rfl⟩ : ∃ k', k = k' + 1 := ⟨k - 1, by omega⟩
  simp [Builtin.clear_, run_underlying Tryd.underlying46, zv, ← hZ, hst]
/-- what Delete leaves -/
structure Cut (w w' : World) (B b m k cap : Nat) (l : List Ev) : Prop where
  row : w'.ownsRow B 60 4 (.slice (some ⟨b, 0, none⟩) m cap) m (eCells (l.drop k))
  out : Out (fun j => j = b) w w'
set_option maxHeartbeats 2000000 in
theorem delete_some (w : World) (B b cap k m : Nat) (l : List Ev) (hl : l.length = m + k) (hown : w.ownsRow B 60 4 (.slice (some ⟨b, 0, none⟩) (m + k) cap) (m + k) (eCells l)) (h0 : 0 < k) :
    Calls Tryd.prog 56 #[.slice (some ⟨b, 0, none⟩) (m + k) cap, .int .i64 0, .int .i64 (k : Int)] w fun e w' => e = .returned (.slice (some ⟨b, 0, none⟩) m cap) ∧ Cut w w' B b m k cap l := by
  rcases hown.2 with ⟨h9, _⟩ | ⟨b', cap', cur, hv, hb, hg, hc, hmx, hsz, htk⟩
  · cases h9
  cases hv
  obtain ⟨C, hC⟩ : ∃ C, C = cur.toList := ⟨_, rfl⟩
  have hcur : cur = C.toArray := by rw [hC]
  have hCl : C.length = cap * 4 := by rw [hC, Array.length_toList, hsz]
  rw [hcur] at hg
  rw [← hC] at htk
  obtain ⟨news, hnews⟩ : ∃ news, news = eCells (l.drop k) := ⟨_, rfl⟩
  have hnl : news.length = m * 4 := by rw [hnews, eCells_length, List.length_drop, hl]; omega
  have hone : ∀ u ∈ news, u.oneCell' = true := by rw [hnews]; exact eCells_oneCell _
  have hget : ∀ j u, news[j]? = some u → C[k * 4 + j]? = some u := fun j u hj => by
    have hj' : j < m * 4 := by rw [← hnl]; exact (List.getElem?_eq_some_iff.1 hj).1
    have h1 : eCells l = eCells (l.take k) ++ eCells (l.drop k) := by rw [← eCells_append, List.take_append_drop]
    have h2 : (eCells (l.take k)).length = k * 4 := by rw [eCells_length, List.length_take, hl, Nat.min_eq_left (by omega)]
    have h3 : (C.take ((m + k) * 4))[k * 4 + j]? = some u := by
      rw [htk, h1, List.getElem?_append_right (by omega), h2, show k * 4 + j - k * 4 = j by omega, ← hnews]
      exact hj
    rw [List.getElem?_take_of_lt (by omega)] at h3
    exact h3
  obtain ⟨V0, hV0⟩ : ∃ V0, V0 = w.drew := ⟨_, rfl⟩
  have g0 : V0.heap[b]? = some (.cells C.toArray 60 (0, 0)) := by rw [hV0]; exact hg
  have hsrc : ∀ j u, news[j]? = some u → V0.cell? ((cutA b cap k).add j) = some u := fun j u hj => by
    have hj' : j < m * 4 := by rw [← hnl]; exact (List.getElem?_eq_some_iff.1 hj).1
    unfold cutA
    rw [if_neg (by omega), addr_add, cell_of_row _ _ _ _ _ _ g0, List.getElem?_toArray]
    exact hget j u hj
  have hroom : ∀ j, j < news.length → (V0.cell? ⟨b, j, none⟩).isSome = true ∧ V0.frozen? ⟨b, j, none⟩ = false := fun j hj => by
    have := there_row g0 0 (cap * 4) (by omega) j (by omega)
    rwa [Nat.zero_add] at this
  obtain ⟨V1, hV1⟩ : ∃ V1, V1 = V0.setCells b 0 news := ⟨_, rfl⟩
  have g1 : V1.heap[b]? = some (.cells (splice C 0 news).toArray 60 (0, 0)) := by rw [hV1]; exact heap_setCells_same b _ news 0 V0 C g0 (by omega)
  have hl1 : (splice C 0 news).length = cap * 4 := by rw [length_splice _ _ _ (by omega), hCl]
  obtain ⟨Z, hZl, hcl⟩ := clear_any V1 0 b (m * 4) k (cap - m) h0 (there_row g1 _ _ (by omega))
  have g2 : (V1.setCells b (m * 4) Z).heap[b]? = some (.cells (splice (splice C 0 news) (m * 4) Z).toArray 60 (0, 0)) := heap_setCells_same b _ Z (m * 4) V1 _ g1 (by omega)
  have fin : Cut w (V1.setCells b (m * 4) Z) B b m k cap l := by
    refine ⟨⟨by rw [← hnews, hnl], .inr ⟨b, cap, _, rfl, hb, g2, by omega, hmx, ?_, ?_⟩⟩, ?_⟩
    · rw [List.size_toArray, length_splice _ _ _ (by omega), hl1]
    · show (splice (splice C 0 news) (m * 4) Z).take (m * 4) = _
      have h1 : (splice C 0 news).take (m * 4) = news := by
        unfold splice
        rw [List.take_zero, List.nil_append, List.take_left' hnl]
      have h2 : ((splice C 0 news).take (m * 4)).length = m * 4 := by rw [h1, hnl]
      rw [show splice (splice C 0 news) (m * 4) Z = (splice C 0 news).take (m * 4) ++ (Z ++ (splice C 0 news).drop (m * 4 + Z.length)) from rfl, List.take_left' h2, h1]
      exact hnews
    · refine Out.setCells (P := fun j => j = b) b rfl _ _ _ ?_
      rw [hV1]
      refine Out.setCells (P := fun j => j = b) b rfl _ _ _ ?_
      rw [hV0]
      exact (Out.refl _ w).drew
  have Fin := hid fin
  have d1 : (0 : Int) ≤ (k : Int) := by omega
  have d2 : (k : Int) ≤ ((m : Int) + (k : Int)) := by omega
  have d3 : ((m : Int) + (k : Int)) ≤ (cap : Int) := by omega
  have d4 : ((0 : Int) == (k : Int)) = false := by rw [beq_eq_false_iff_ne]; omega
  have d5 : ¬ cap = m := by omega
  have HV1 := hid hV1
  have Hl := hid hnl
  have Hs := hid hsrc
  have Ho := hid hone
  have Hr := hid hroom
  have hcap : m + k ≤ cap := hc
  clear fin g0 g1 g2 hl1 hget hnews hnl hsrc hone hroom htk hC hcur hCl hg hsz hmx hV1 hown hl hZl
  go_enter Tryd.func56, Tryd.ntmps56
  go_wp2
  refine wp_act _ fun A hA => ?_
  have sz : A.tmps.size = 33 := by rw [hA]; rfl
  have e0 : A.eval (.tmp 0) = .slice (some ⟨b, 0, none⟩) (m + k) cap := by rw [hA]; rfl
  have e1 : A.eval (.tmp 1) = .int .i64 0 := by rw [hA]; rfl
  have e2 : A.eval (.tmp 2) = .int .i64 (k : Int) := by rw [hA]; rfl
  refine wp_split _ (delete_region sz e0 e1 e2 hV0 hcap Hl.out Hs.out Ho.out Hr.out) ?_
  rintro _ V ⟨rfl, rfl⟩
  rw [← HV1.out, hA]
  simp only [Act.put, List.setIfInBounds_toArray, List.set_cons_succ, List.set_cons_zero]
  clear sz e0 e1 e2 hA A hV0 Hs Hr
  go_wp2
  go_ret
  exact ⟨rfl, Fin.out⟩
/-- what Delete answers and leaves -/
def DelPost (w : World) (B : Nat) (v : Value) (l : List Ev) (k : Nat) (e : Ending) (w' : World) : Prop :=
  ∃ a cap, e = .returned (.slice a (l.length - k) cap) ∧ w'.ownsRow B 60 4 (.slice a (l.length - k) cap) (l.length - k) (eCells (l.drop k)) ∧ Out (fun j => v.ownBlock = some j) w w' ∧ (Value.slice a (l.length - k) cap).ownBlock = v.ownBlock
theorem delete_any (w : World) (B : Nat) (v : Value) (l : List Ev) (k : Nat) (hk : k ≤ l.length) (hown : w.ownsRow B 60 4 v l.length (eCells l)) :
    Calls Tryd.prog 56 #[v, .int .i64 0, .int .i64 (k : Int)] w (DelPost w B v l k) := by
  have h2 := hown
  rcases hown.2 with ⟨rfl, h0⟩ | ⟨b, cap, cur, rfl, hb, hg, hc, _⟩
  · have hk0 : k = 0 := by omega
    subst hk0
    refine (delete_none w).mono ?_
    rintro e w' ⟨rfl, rfl⟩
    rw [h0] at h2
    exact ⟨none, 0, by rw [h0], by rw [h0]; exact h2, Out.refl _ _, rfl⟩
  · by_cases hk0 : k = 0
    · subst hk0
      refine (delete_zero w b l.length cap hc).mono ?_
      rintro e w' ⟨rfl, rfl⟩
      exact ⟨_, cap, rfl, h2, Out.refl _ _, rfl⟩
    · obtain ⟨m, hm⟩ : ∃ m, l.length = m + k := ⟨l.length - k, by omega⟩
      rw [hm] at h2 ⊢
      refine (delete_some w B b cap k m l hm h2 (by omega)).mono ?_
      rintro e w' ⟨rfl, hcut⟩
      refine ⟨some ⟨b, 0, none⟩, cap, by rw [show l.length - k = m by omega], ?_, hcut.out.imp (fun j _ hj => by rw [hj]; rfl), rfl⟩
      rw [show l.length - k = m by omega]
      exact hcut.row
end Go.Proofs.YthnciogaibhmcaaDoor
