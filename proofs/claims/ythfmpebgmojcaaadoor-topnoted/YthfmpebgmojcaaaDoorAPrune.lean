/- YthfmpebgmojcaaaDoorADel2 + YthfmpebgmojcaaaDoorAPrune -/
import Derived.Test.YthfmpebgmojcaaaDoorADel
import Derived.Laws.AppendOwnNone
/- Events cut off: slices.Delete at events. -/
namespace Go.Proofs.YthfmpebgmojcaaaDoor
open Go.RowKit Go.Shelf
set_option linter.unusedVariables false
set_option maxRecDepth 20000

theorem clear_any (w : World) (ty : TypeId) (b o k c : Nat) (hk : 0 < k) (ht : w.there b o (k * 4)) : ∃ Z : List Value, Z.length = k * 4 ∧ ∀ ty, (Builtin.clear_ #[63] ty #[.slice (some ⟨b, o, none⟩) k c]).run Tryd.prog w = .ok (.tuple #[]) (w.setCells b o Z) := by
  have zv : ∀ w, (zeroValue 55).run Tryd.prog w = .ok (.agg (eVals ev0).toArray) w := (zero_of_info (show (Tryd.prog.info? 55).map (fun i => (i.zero, i.size)) = some (some (.agg (eVals ev0).toArray), 4) by kernel_rfl)).1
  obtain ⟨Z, hZ⟩ : ∃ Z, Z = (Builtin.zeroCells (Value.agg (eVals ev0).toArray).cells k).toList := ⟨_, rfl⟩
  have hl : Z.length = k * 4 := by rw [hZ, Array.length_toList, size_zeroCells]; rfl
  have hone : ∀ u ∈ Z, u.oneCell' = true := by
    intro u hu
    rw [hZ] at hu
    obtain ⟨i, hi, rfl⟩ := List.mem_iff_getElem.1 hu
    simp only [Builtin.zeroCells, Array.getElem_toList, Array.getElem_map]
    generalize hj : (Array.range (k * (Value.agg (eVals ev0).toArray).cells.size))[i]'(by simpa [Builtin.zeroCells] using hi) = j
    have h4 : j % (Value.agg (eVals ev0).toArray).cells.size < 4 := Nat.mod_lt _ (by decide)
    generalize j % (Value.agg (eVals ev0).toArray).cells.size = r at h4
    match r, h4 with
    | 0, _ => rfl
    | 1, _ => rfl
    | 2, _ => rfl
    | 3, _ => rfl
  refine ⟨Z, hl, fun ty => ?_⟩
  have hst := run_storeCells_cells (P := Tryd.prog) b o Z 0 w (by rw [hl]; intro j hj; simpa using (ht j hj).1) (by rw [hl]; intro j hj; simpa using (ht j hj).2) hone
  simp only [Nat.add_zero] at hst
  obtain ⟨k, rfl⟩ : ∃ k', k = k' + 1 := ⟨k - 1, by omega⟩
  simp [Builtin.clear_, run_underlying Tryd.underlying63, zv, ← hZ, hst]
/-- what Delete leaves -/
structure Cut (w w' : World) (B b m k cap : Nat) (l : List Ev) : Prop where
  row : w'.ownsRow B 55 4 (.slice (some ⟨b, 0, none⟩) m cap) m (eCells (l.drop k))
  out : Out (fun j => j = b) w w'
set_option maxHeartbeats 2000000 in
theorem delete_some (w : World) (B b cap k m : Nat) (l : List Ev) (hl : l.length = m + k) (hown : w.ownsRow B 55 4 (.slice (some ⟨b, 0, none⟩) (m + k) cap) (m + k) (eCells l)) (h0 : 0 < k) :
    Calls Tryd.prog 77 #[.slice (some ⟨b, 0, none⟩) (m + k) cap, .int .i64 0, .int .i64 (k : Int)] w fun e w' => e = .returned (.slice (some ⟨b, 0, none⟩) m cap) ∧ Cut w w' B b m k cap l := by
  rcases hown.2 with ⟨h9, _⟩ | ⟨b', cap', cur, hv, hb, hg, hc, hmx, hsz, htk⟩
  · cases h9
  cases hv
  obtain ⟨C, hC⟩ : ∃ C, C = cur.toList := ⟨_, rfl⟩
  have hcur : cur = C.toArray := by rw [hC]
  have hCl : C.length = cap * 4 := by rw [hC, Array.length_toList, hsz]
  rw [hcur] at hg
  rw [← hC] at htk
  obtain ⟨news, hnews⟩ : ∃ news, news = eCells (l.drop k) := ⟨_, rfl⟩
  have hnl : news.length = m * 4 := by rw [hnews, eCells_length, List.length_drop, hl]; omega
  have hone : ∀ u ∈ news, u.oneCell' = true := by rw [hnews]; exact eCells_oneCell _
  have hget : ∀ j u, news[j]? = some u → C[k * 4 + j]? = some u := fun j u hj => by
    have hj' : j < m * 4 := by rw [← hnl]; exact (List.getElem?_eq_some_iff.1 hj).1
    have h1 : eCells l = eCells (l.take k) ++ eCells (l.drop k) := by rw [← eCells_append, List.take_append_drop]
    have h2 : (eCells (l.take k)).length = k * 4 := by rw [eCells_length, List.length_take, hl, Nat.min_eq_left (by omega)]
    have h3 : (C.take ((m + k) * 4))[k * 4 + j]? = some u := by
      rw [htk, h1, List.getElem?_append_right (by omega), h2, show k * 4 + j - k * 4 = j by omega, ← hnews]
      exact hj
    rw [List.getElem?_take_of_lt (by omega)] at h3
    exact h3
  obtain ⟨V0, hV0⟩ : ∃ V0, V0 = w.drew := ⟨_, rfl⟩
  have g0 : V0.heap[b]? = some (.cells C.toArray 55 (0, 0)) := by rw [hV0]; exact hg
  have hsrc : ∀ j u, news[j]? = some u → V0.cell? ((cutA b cap k).add j) = some u := fun j u hj => by
    have hj' : j < m * 4 := by rw [← hnl]; exact (List.getElem?_eq_some_iff.1 hj).1
    unfold cutA
    rw [if_neg (by omega), addr_add, cell_of_row _ _ _ _ _ _ g0, List.getElem?_toArray]
    exact hget j u hj
  have hroom : ∀ j, j < news.length → (V0.cell? ⟨b, j, none⟩).isSome = true ∧ V0.frozen? ⟨b, j, none⟩ = false := fun j hj => by
    have := there_row g0 0 (cap * 4) (by omega) j (by omega)
    rwa [Nat.zero_add] at this
  obtain ⟨V1, hV1⟩ : ∃ V1, V1 = V0.setCells b 0 news := ⟨_, rfl⟩
  have g1 : V1.heap[b]? = some (.cells (splice C 0 news).toArray 55 (0, 0)) := by rw [hV1]; exact heap_setCells_same b _ news 0 V0 C g0 (by omega)
  have hl1 : (splice C 0 news).length = cap * 4 := by rw [length_splice _ _ _ (by omega), hCl]
  obtain ⟨Z, hZl, hcl⟩ := clear_any V1 0 b (m * 4) k (cap - m) h0 (there_row g1 _ _ (by omega))
  have g2 : (V1.setCells b (m * 4) Z).heap[b]? = some (.cells (splice (splice C 0 news) (m * 4) Z).toArray 55 (0, 0)) := heap_setCells_same b _ Z (m * 4) V1 _ g1 (by omega)
  have fin : Cut w (V1.setCells b (m * 4) Z) B b m k cap l := by
    refine ⟨⟨by rw [← hnews, hnl], .inr ⟨b, cap, _, rfl, hb, g2, by omega, hmx, ?_, ?_⟩⟩, ?_⟩
    · rw [List.size_toArray, length_splice _ _ _ (by omega), hl1]
    · show (splice (splice C 0 news) (m * 4) Z).take (m * 4) = _
      have h1 : (splice C 0 news).take (m * 4) = news := by
        unfold splice
        rw [List.take_zero, List.nil_append, List.take_left' hnl]
      have h2 : ((splice C 0 news).take (m * 4)).length = m * 4 := by rw [h1, hnl]
      rw [show splice (splice C 0 news) (m * 4) Z = (splice C 0 news).take (m * 4) ++ (Z ++ (splice C 0 news).drop (m * 4 + Z.length)) from rfl, List.take_left' h2, h1]
      exact hnews
    · refine Out.setCells (P := fun j => j = b) b rfl _ _ _ ?_
      rw [hV1]
      refine Out.setCells (P := fun j => j = b) b rfl _ _ _ ?_
      rw [hV0]
      exact (Out.refl _ w).drew
  have Fin := hid fin
  have d1 : (0 : Int) ≤ (k : Int) := by omega
  have d2 : (k : Int) ≤ ((m : Int) + (k : Int)) := by omega
  have d3 : ((m : Int) + (k : Int)) ≤ (cap : Int) := by omega
  have d4 : ((0 : Int) == (k : Int)) = false := by rw [beq_eq_false_iff_ne]; omega
  have d5 : ¬ cap = m := by omega
  have HV1 := hid hV1
  have Hl := hid hnl
  have Hs := hid hsrc
  have Ho := hid hone
  have Hr := hid hroom
  have hcap : m + k ≤ cap := hc
  clear fin g0 g1 g2 hl1 hget hnews hnl hsrc hone hroom htk hC hcur hCl hg hsz hmx hV1 hown hl hZl
  go_enter Tryd.func77, Tryd.ntmps77
  go_wp2
  refine wp_act _ fun A hA => ?_
  have sz : A.tmps.size = 33 := by rw [hA]; rfl
  have e0 : A.eval (.tmp 0) = .slice (some ⟨b, 0, none⟩) (m + k) cap := by rw [hA]; rfl
  have e1 : A.eval (.tmp 1) = .int .i64 0 := by rw [hA]; rfl
  have e2 : A.eval (.tmp 2) = .int .i64 (k : Int) := by rw [hA]; rfl
  refine wp_split _ (delete_region sz e0 e1 e2 hV0 hcap Hl.out Hs.out Ho.out Hr.out) ?_
  rintro _ V ⟨rfl, rfl⟩
  rw [← HV1.out, hA]
  simp only [Act.put, List.setIfInBounds_toArray, List.set_cons_succ, List.set_cons_zero]
  clear sz e0 e1 e2 hA A hV0 Hs Hr
  go_wp2
  go_ret
  exact ⟨rfl, Fin.out⟩
/-- what Delete answers and leaves -/
def DelPost (w : World) (B : Nat) (v : Value) (l : List Ev) (k : Nat) (e : Ending) (w' : World) : Prop :=
  ∃ a cap, e = .returned (.slice a (l.length - k) cap) ∧ w'.ownsRow B 55 4 (.slice a (l.length - k) cap) (l.length - k) (eCells (l.drop k)) ∧ Out (fun j => v.ownBlock = some j) w w' ∧ (Value.slice a (l.length - k) cap).ownBlock = v.ownBlock
theorem delete_any (w : World) (B : Nat) (v : Value) (l : List Ev) (k : Nat) (hk : k ≤ l.length) (hown : w.ownsRow B 55 4 v l.length (eCells l)) :
    Calls Tryd.prog 77 #[v, .int .i64 0, .int .i64 (k : Int)] w (DelPost w B v l k) := by
  have h2 := hown
  rcases hown.2 with ⟨rfl, h0⟩ | ⟨b, cap, cur, rfl, hb, hg, hc, _⟩
  · have hk0 : k = 0 := by omega
    subst hk0
    refine (delete_none w).mono ?_
    rintro e w' ⟨rfl, rfl⟩
    rw [h0] at h2
    exact ⟨none, 0, by rw [h0], by rw [h0]; exact h2, Out.refl _ _, rfl⟩
  · by_cases hk0 : k = 0
    · subst hk0
      refine (delete_zero w b l.length cap hc).mono ?_
      rintro e w' ⟨rfl, rfl⟩
      exact ⟨_, cap, rfl, h2, Out.refl _ _, rfl⟩
    · obtain ⟨m, hm⟩ : ∃ m, l.length = m + k := ⟨l.length - k, by omega⟩
      rw [hm] at h2 ⊢
      refine (delete_some w B b cap k m l hm h2 (by omega)).mono ?_
      rintro e w' ⟨rfl, hcut⟩
      refine ⟨some ⟨b, 0, none⟩, cap, by rw [show l.length - k = m by omega], ?_, hcut.out.imp (fun j _ hj => by rw [hj]; rfl), rfl⟩
      rw [show l.length - k = m by omega]
      exact hcut.row
end Go.Proofs.YthfmpebgmojcaaaDoor

/- Prune, and Events, of a chain, by contracts. -/
namespace Go.Proofs.YthfmpebgmojcaaaDoor
open Go.RowKit Go.Shelf
set_option linter.unusedVariables false
set_option maxRecDepth 20000
attribute [local go_sem ↓] loadL_fold storeL_fold

/-- what Prune answers, and leaves -/
def pruR (c : Ch) (n : Int) : Ch := if pruE c n = 0 then pruC c (n.toNat - c.bn) else c
def pruN (c : Ch) (n : Int) : Int := if pruE c n = 0 then n - (c.bn : Int) else 0
theorem pruR_ok {c : Ch} (ok : ChOk c) (n : Int) : ChOk (pruR c n) := by
  unfold pruR
  split
  · rename_i h
    obtain ⟨k, hk, hle⟩ := pruE_zero h
    rw [hk, Int.toNat_natCast, show c.bn + k - c.bn = k by omega]
    exact pruC_ok ok hle
  · exact ok
theorem pruR_sound {c : Ch} (ok : ChOk c) (hs : Sound c) (n : Int) : Sound (pruR c n) := by
  unfold pruR
  split
  · rename_i h
    obtain ⟨k, hk, hle⟩ := pruE_zero h
    rw [hk, Int.toNat_natCast, show c.bn + k - c.bn = k by omega]
    exact hs.pru ok hle
  · exact hs
theorem pruC_cnt {c : Ch} (ok : ChOk c) {k : Nat} (h : c.bn + k ≤ c.an) : (pruC c k).cnt = c.cnt := by
  have := ok.anc
  simp [pruC, Ch.cnt]
  omega
theorem pruR_cnt {c : Ch} (ok : ChOk c) (n : Int) : (pruR c n).cnt = c.cnt := by
  unfold pruR
  split
  · rename_i h
    obtain ⟨k, hk, hle⟩ := pruE_zero h
    rw [hk, Int.toNat_natCast, show c.bn + k - c.bn = k by omega]
    exact pruC_cnt ok hle
  · rfl
def PruPost (w : World) (B g : Nat) (v : Value) (c : Ch) (n : Int) (x : Ending) (w' : World) : Prop :=
  ∃ v', x = .returned (.tuple #[.int .i64 (pruN c n), .int .i64 (pruE c n)]) ∧ ChAt w' B g v' (pruR c n) ∧ Out (CBlk g v) w w' ∧ Grew w v v'
/-- how it ends where it lets events go -/
def PruOk (w : World) (B g : Nat) (v : Value) (c : Ch) (k : Nat) (x : Ending) (w' : World) : Prop :=
  ∃ v', x = .returned (.tuple #[.int .i64 (k : Int), .int .i64 0]) ∧ ChAt w' B g v' (pruC c k) ∧ Out (CBlk g v) w w' ∧ Grew w v v'
theorem hf_del : ∀ (args : Array Value) (w : World), (callFunc 77 args).run Tryd.prog w = .ok (.enter 77 args) w := fun args w => by simp [go_sem]

set_option maxHeartbeats 4000000 in
theorem prune_ok {w : World} {B g : Nat} {v : Value} {c : Ch} (h : ChAt w B g v c) (ok : ChOk c) (hc : c.cnt < 1152921504606846976) (hT : Tabs w B) (hB : B ≤ w.heap.size) (k : Nat) (hk : c.bn + k ≤ c.an) :
    Calls Tryd.prog 37 #[.pointer (some ⟨g, 0, none⟩), .int .i64 ((c.bn + k : Nat) : Int)] w (PruOk w B g v c k) := by
  have hkl : k ≤ c.ev.length := by have := ok.anc; omega
  have HL := hid (linkAt_any h ok hc hT hB k hkl)
  have c0 := h.c0
  have c33 := h.c33 ok.l
  have hat : (c.at k).length = 32 := Ch.at_length ok k
  obtain ⟨N, hN⟩ : ∃ N, N = c.bn + k := ⟨_, rfl⟩
  rw [← hN] at HL ⊢
  obtain ⟨b, hb⟩ : ∃ b, b = c.bn := ⟨_, rfl⟩
  rw [← hb] at c0
  obtain ⟨an, han⟩ : ∃ an, an = c.an := ⟨_, rfl⟩
  rw [← han] at c33
  have hc' := hc
  unfold Ch.cnt at hc'
  have hNb : N < 1152921504606846976 := by omega
  have hbN : b ≤ N := by omega
  have d1 : ¬ (an : Int) < (N : Int) := by omega
  have d2 : ¬ (N : Int) < (b : Int) := by omega
  have d3 : decide ((an : Int) < (N : Int)) = false := by simpa using d1
  have d4 : decide ((N : Int) < (b : Int)) = false := by simpa using d2
  have Hd : Hid ((N : Int) - (b : Int) = (k : Int)) := by show _ = _; omega
  obtain ⟨a0, cap, rfl⟩ := h.val
  have Hat := hid hat
  have HH := hid h
  have OK := hid ok
  have Hk := hid hkl
  have HN := hid hN
  have lens2 : Hid (Lens { c with bn := N, bh := c.at k }) := ⟨hat, ok.lan, ok.lh⟩
  clear h ok hT hat hkl hN hk hb han hc hc'
  go_enter Tryd.func37, Tryd.ntmps37
  go_wp2_with (first
    | (go_at_call 77; rw [Hd.out]; refine HD.out.mono ?_; rintro x w3 ⟨a3, cap3, rfl, hrow3, ho3, hbl3⟩; have g3 := (ho3.block g H2.out.lt (fun y => H2.out.ne g y rfl)).trans H2.out.obj; have k3 := cell_66 g3 lens2.out; have f3 : w3.frozen? ⟨g, 66, none⟩ = false := frozen_of_row _ _ _ _ _ g3)
    | (go_at_call 76; refine HL.out.mono ?_; rintro x w1 ⟨rfl, hb1⟩; have H1 := HH.out.below hb1; have hS6 := storeL_run (n := N) (H1.there OK.out.l 0 33 (by omega)) Hat.out; have h2 : ChAt (w1.setCells g 0 (lnkC N (c.at k))) B g (.slice a0 c.ev.length cap) { c with bn := N, bh := c.at k } := ⟨H1.setBase OK.out.l N (c.at k) Hat.out, H1.row_set 0 (lnkC N (c.at k)), H1.bg⟩; have o2 : Out (CBlk g (.slice a0 c.ev.length cap)) w (w1.setCells g 0 (lnkC N (c.at k))) := Out.setCells g (.inl rfl) _ _ _ (Out.of_below hb1); have c66 := h2.c66 lens2.out; have HD := hid (delete_any _ B _ c.ev k Hk.out h2.row); have H2 := hid h2; have O2 := hid o2; have HB1 := hid hb1; clear H1 h2 o2 hb1))
  go_ret2
  have o3 : Out (CBlk g (.slice a0 c.ev.length cap)) w w3 := O2.out.trans ho3 (fun j _ hj => .inr hj)
  have hne : ∀ j, (Value.slice a3 (c.ev.length - k) cap3).ownBlock = some j → j ≠ g := fun j hj => H2.out.ne j (by rw [← hbl3]; exact hj)
  have hpc : pruC c k = { c with bn := N, bh := c.at k, ev := c.ev.drop k } := by rw [HN.out]; rfl
  refine ⟨.slice a3 (c.ev.length - k) cap3, rfl, ?_, o3.setCell _ _ (.inl rfl), fun j hj => .inl (by rw [← hbl3]; exact hj)⟩
  rw [hpc]
  refine ⟨?_, ?_, HH.out.bg⟩
  · rw [heap_setCell_same w3 g 66 _ _ _ g3, ccells_set66 lens2.out]
    rfl
  · show World.ownsRow _ B 55 4 (.slice a3 (c.ev.length - k) cap3) (c.ev.drop k).length (eCells (c.ev.drop k))
    rw [List.length_drop]
    refine ⟨hrow3.1, ?_⟩
    rcases hrow3.2 with h0 | ⟨j, cap', cur, hv, hb, hj, r⟩
    · exact .inl h0
    · refine .inr ⟨j, cap', cur, hv, hb, (heap_setCell_other _ _ _ _ (hne j (by rw [hv]; rfl))).trans hj, r⟩

set_option maxHeartbeats 1000000 in
theorem prune_err {w : World} {B g : Nat} {v : Value} {c : Ch} (h : ChAt w B g v c) (ok : ChOk c) (n : Int) (he : pruE c n ≠ 0) :
    Calls Tryd.prog 37 #[.pointer (some ⟨g, 0, none⟩), .int .i64 n] w fun x w' => x = .returned (.tuple #[.int .i64 0, .int .i64 2]) ∧ Below w.heap.size w w' := by
  have c0 := h.c0
  have c33 := h.c33 ok.l
  have h2 : (c.an : Int) < n ∨ n < (c.bn : Int) := by
    unfold pruE at he
    split at he
    · assumption
    · exact absurd rfl he
  clear h ok he
  generalize c.an = an at *
  generalize c.bn = bn at *
  by_cases d1 : (an : Int) < n
  · have d3 : decide ((an : Int) < n) = true := by simpa using d1
    go_enter Tryd.func37, Tryd.ntmps37
    go_wp2
    go_ret2
    exact ⟨rfl, Below.refl _ _⟩
  · have d2 : n < (bn : Int) := by omega
    have d3 : decide ((an : Int) < n) = false := by simpa using d1
    have d4 : decide (n < (bn : Int)) = true := by simpa using d2
    go_enter Tryd.func37, Tryd.ntmps37
    go_wp2
    go_ret2
    exact ⟨rfl, Below.refl _ _⟩
theorem prune_any {w : World} {B g : Nat} {v : Value} {c : Ch} (h : ChAt w B g v c) (ok : ChOk c) (hc : c.cnt < 1152921504606846976) (hT : Tabs w B) (hB : B ≤ w.heap.size) (n : Int) :
    Calls Tryd.prog 37 #[.pointer (some ⟨g, 0, none⟩), .int .i64 n] w (PruPost w B g v c n) := by
  by_cases he : pruE c n = 0
  · obtain ⟨k, rfl, hle⟩ := pruE_zero he
    refine (prune_ok h ok hc hT hB k hle).mono ?_
    rintro x w' ⟨v', rfl, h1, h2, h3⟩
    refine ⟨v', ?_, ?_, h2, h3⟩
    · unfold pruN
      rw [if_pos he, he, show (((c.bn + k : Nat) : Int) - (c.bn : Int)) = (k : Int) by omega]
    · unfold pruR
      rw [if_pos he, Int.toNat_natCast, show c.bn + k - c.bn = k by omega]
      exact h1
  · refine (prune_err h ok n he).mono ?_
    rintro x w' ⟨rfl, hb⟩
    have he2 : pruE c n = 2 := by
      unfold pruE at he ⊢
      split
      · rfl
      · rename_i h9; rw [if_neg h9] at he; exact absurd rfl he
    refine ⟨v, ?_, ?_, Out.of_below hb, fun k hk => .inl hk⟩
    · unfold pruN
      rw [if_neg he, he2]
    · unfold pruR
      rw [if_neg he]
      exact h.below hb

/-- append(v, src...), v the call's own row without events -/
theorem app_evs (w : World) {ops : Array Oper} {rest : List Oper} {o : Oper} {a : Act} {Q : Exit → Act → World → Prop} (hgd : o.guard = none) (s x : Operand)
    (ho : o.op = .call { callee := .builtin .append, args := #[s, x], argTypes := #[63, 63] }) (base : Nat) (v : Value) (hs : a.eval s = v)
    (hown : w.ownsRow base 55 4 v 0 []) (b n c : Nat) (l : List Ev) (hn : n = l.length) (hx : a.eval x = .slice (some ⟨b, 0, none⟩) n c) (hr : w.rangeAt b 0 (eCells l)) (hb : l.length ≤ 1000) (hbase : base ≤ w.heap.size)
    (h : ∀ v' w', w'.ownsRow base 55 4 v' l.length (eCells l) → Below base w w' → wpList Tryd.prog ops Q rest (a.put o.dst v') w') :
    wpList Tryd.prog ops Q (o :: rest) a w := by
  obtain ⟨i0, hi, hz0, hz1, hz2⟩ := info_parts Tryd.infoE
  refine wpList_append_own w hgd s x 63 ho base 55 i0 (.agg #[.int .i64 0, .int .i64 0, .string ⟨#[]⟩, .string ⟨#[]⟩]) 4 48 Tryd.underlying63 hi hz0 hz1 hz2 rfl (by decide) v 0 [] hs hown ⟨b, 0, none⟩ n c (eCells l) hx (by rw [eCells_length, hn]) (fun j u hj => by rw [addr_add]; exact hr j u hj) (eCells_oneCell l) (by unfold maxLen; omega) (by omega) hbase ?_
  intro v' w' h1 h2 _
  rw [Nat.zero_add, List.nil_append, hn] at h1
  exact h v' w' h1 ((Below.refl _ _).grown h2 hbase (fun k hk => (hown.lt k hk).1))
/-- a row of events of one's own -/
def EvPost (w : World) (l : List Ev) (e : Ending) (w' : World) : Prop := ∃ a cap, e = .returned (.slice a l.length cap) ∧ w'.ownsRow w.heap.size 55 4 (.slice a l.length cap) l.length (eCells l) ∧ Below w.heap.size w w'
theorem evPost_of {w w' : World} {l : List Ev} {v : Value} (h : w'.ownsRow w.heap.size 55 4 v l.length (eCells l)) (hb : Below w.heap.size w w') : EvPost w l (.returned v) w' := by
  have h2 := h
  rcases h.2 with ⟨rfl, h0⟩ | ⟨b, cap, cur, rfl, _⟩
  · exact ⟨none, 0, by rw [h0], by rw [h0] at h2 ⊢; exact h2, hb⟩
  · exact ⟨_, cap, rfl, h2, hb⟩
set_option maxHeartbeats 1000000 in
theorem clone_any (w : World) (B : Nat) (v : Value) (l : List Ev) (hl : l.length ≤ 1000) (hown : w.ownsRow B 55 4 v l.length (eCells l)) :
    Calls Tryd.prog 63 #[v] w (EvPost w l) := by
  have q22 : ∀ (w : World) (a : Option Addr) (n c n' c' : Nat), (binOp .eql 63 (.slice a n c) (.slice none n' c')).run Tryd.prog w = .ok (.bool a.isNone) w := fun w a n c n' c' => Lib.run_eql_slice_nil w _ _ a n c n' c' Tryd.underlying63
  rcases hown.2 with ⟨rfl, h0⟩ | ⟨b, cap, cur, rfl, hb, hg, hc, hmx, hsz, htk⟩
  · have hl0 : l = [] := List.length_eq_zero_iff.1 h0
    subst hl0
    clear hown
    go_enter Tryd.func63, Tryd.ntmps63
    go_wp2
    go_ret
    exact evPost_of (l := []) (World.ownsRow_nil _ _ _ _) (Below.refl _ _)
  · have hr : w.rangeAt b 0 (eCells l) := fun j u hj => by
      rw [Nat.zero_add, cell_of_row _ _ _ _ _ _ hg, ← Array.getElem?_toList]
      rw [← htk] at hj
      have := (List.getElem?_eq_some_iff.1 hj).1
      rw [List.length_take] at this
      rw [List.getElem?_take_of_lt (by omega)] at hj
      exact hj
    have hr1 := hid (World.rangeAt_alloc hr (.cells #[] 55))
    have B1 : Hid (Below w.heap.size w (w.alloc (.cells #[] 55))) := (Below.refl _ w).alloc (Nat.le_refl _) _
    have M1 : Hid ((w.alloc (.cells #[] 55)).ownsRow w.heap.size 55 4 (.slice (some ⟨w.heap.size, 0, none⟩) 0 0) 0 []) := World.ownsRow_made w #[] 0 (Nat.le_refl _) (by decide) rfl
    obtain ⟨n, hn⟩ : ∃ n, n = l.length := ⟨_, rfl⟩
    rw [← hn]
    have Hn := hid hn
    have Hl := hid hl
    clear hr hn hg htk hsz hmx hown hl hc
    go_enter Tryd.func63, Tryd.ntmps63
    go_wp2_with (at_builtin; refine app_evs _ rfl (.tmp 5) (.tmp 6) rfl w.heap.size _ rfl M1.out b n cap l Hn.out rfl hr1.out Hl.out (by simp) ?_; intro v' w' h1 h2)
    go_ret
    exact evPost_of h1 (B1.out.trans h2)
set_option maxHeartbeats 1000000 in
theorem events_any {w : World} {B g : Nat} {v : Value} {c : Ch} (h : ChAt w B g v c) (ok : ChOk c) :
    Calls Tryd.prog 24 #[.pointer (some ⟨g, 0, none⟩)] w (EvPost w c.ev) := by
  have HC := hid (clone_any w B v c.ev (by have := ok.few; omega) h.row)
  obtain ⟨a0, cap, rfl⟩ := h.val
  have c66 := h.c66 ok.l
  clear h ok
  go_enter Tryd.func24, Tryd.ntmps24
  go_wp2_with (go_at_call 63; refine HC.out.mono ?_; rintro x w1 ⟨a1, cap1, rfl, h1, h2⟩)
  go_ret
  exact ⟨a1, cap1, rfl, h1, h2⟩
end Go.Proofs.YthfmpebgmojcaaaDoor
