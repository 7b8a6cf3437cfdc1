/- Write of the reference's disks, by a contract. -/
import Derived.Test.YtcaifnenejjfaaaGreatBRefNew
namespace Go.Proofs.YtcaifnenejjfaaaGreat
open Go.RowKit
set_option linter.unusedVariables false
set_option maxRecDepth 20000

set_option maxHeartbeats 800000 in
set_option maxRecDepth 20000 in
theorem copyB (x : List UInt8) (b o cap : Nat) (w : World) (hB : Bytes w (some ⟨b, o, none⟩) x) (hlen : x.length ≤ 140737488351232) (h0 : 0 < x.length) :
    Calls Tryz.prog 91 #[.slice (some ⟨b, o, none⟩) x.length cap] w fun e w' => ∃ v, e = .returned v ∧ w'.ownsRow w.heap.size 5 1 v x.length (cellsOf x) ∧ Below w.heap.size w w' := by
  obtain ⟨i0, hi, hz0, hz1, hz2⟩ := info_parts Tryz.info5
  have HB := hid hB
  clear hB
  go_enter Tryz.func91, Tryz.ntmps91
  go_wp2_with (at_builtin; refine wpList_append_own _ rfl _ _ 36 rfl w.heap.size 5 i0 (.int .u8 0) 1 1 Tryz.underlying36 hi hz0 hz1 hz2 rfl (by decide) _ _ _ rfl (World.ownsRow_nil w _ _ _) ⟨b, o, none⟩ x.length cap (cellsOf x) rfl ?qc1 ?qc2 ?qc3 ?qc4 ?qc5 ?qc6 ?_)
  case qc1 => simp [cellsOf_length]
  case qc2 =>
    intro j u hj
    have hjn : j < x.length := by
      have := (List.getElem?_eq_some_iff.1 hj).1
      simpa [cellsOf_length] using this
    obtain ⟨b', o', e', hc⟩ := HB.out j hjn
    cases e'
    rw [addr_add, ← hj, cellsOf_get x j hjn]
    exact hc
  case qc3 => exact cellsOf_one x
  case qc4 => unfold maxLen; omega
  case qc5 => omega
  case qc6 => simp
  intro v' w1 hown hgrow hnil
  go_wp2
  go_ret
  refine ⟨v', rfl, by simpa using hown, (Below.refl _ w).grown hgrow (Nat.le_refl _) (by intro k hk; simp [Value.ownBlock] at hk)⟩

theorem Tryz.info108 : (Tryz.prog.info? 108).map (fun i => (i.zero, i.size, i.bytes)) = some (some (.agg #[.int .i64 0, .slice none 0 0]), 2, 32) := by kernel_rfl

theorem lcells_length (ls : List (Nat × List UInt8)) (us : List Value) (h : us.length = ls.length) : (lcells ls us).length = ls.length * 2 := by
  induction ls generalizing us with
  | nil => cases us <;> simp [lcells]
  | cons c ls ih =>
    cases us with
    | nil => simp at h
    | cons u us =>
      simp only [lcells, List.length_cons]
      rw [ih us (by simpa using h)]
      omega
theorem lcells_snoc (ls : List (Nat × List UInt8)) (us : List Value) (h : us.length = ls.length) (c : Nat × List UInt8) (u : Value) : lcells (ls ++ [c]) (us ++ [u]) = lcells ls us ++ [.int .i64 (c.1 : Int), u] := by
  induction ls generalizing us with
  | nil =>
    cases us with
    | nil => rfl
    | cons u us => simp at h
  | cons c' ls ih =>
    cases us with
    | nil => simp at h
    | cons u' us =>
      simp only [List.cons_append, lcells]
      rw [ih us (by simpa using h)]
theorem lcells_one (ls : List (Nat × List UInt8)) (us : List Value) (hu : ∀ u ∈ us, u.oneCell' = true) : ∀ u ∈ lcells ls us, u.oneCell' = true := by
  induction ls generalizing us with
  | nil => intro u h; cases us <;> simp [lcells] at h
  | cons c ls ih =>
    cases us with
    | nil => intro u h; simp [lcells] at h
    | cons u' us =>
      intro u h
      simp only [lcells, List.mem_cons] at h
      rcases h with rfl | rfl | h
      · rfl
      · exact hu _ (by simp)
      · exact ih us (fun v hv => hu v (by simp [hv])) u h
theorem own_one {w : World} {B e s n : Nat} {v : Value} {xs : List Value} (h : w.ownsRow B e s v n xs) : v.oneCell' = true := by
  rcases h.2 with ⟨rfl, _⟩ | ⟨g, cap, cur, rfl, _⟩ <;> rfl
theorem RefAt.us_one {w : World} {B r : Nat} {F L : Value} {vs us : List Value} {fs : List (List UInt8)} {ls : List (Nat × List UInt8)} (h : RefAt w B r F L vs us fs ls) : ∀ u ∈ us, u.oneCell' = true := fun u hu => by
  obtain ⟨i, hi, rfl⟩ := List.getElem_of_mem hu
  exact own_one (h.lrows i (by rw [← h.ulen]; exact hi) hi)

/-- a reference's disk behind a write -/
theorem refWrite_end {w w1 : World} {B r : Nat} {F L : Value} {vs us : List Value} {fs : List (List UInt8)} {ls : List (Nat × List UInt8)} (H : RefAt w B r F L vs us fs ls) (n : Nat) (x : List UInt8) (hx : x.length = 256) (u : Value) (gg cap1 : Nat)
    (hown1 : w1.ownsRow w.heap.size 108 2 (.slice (some ⟨gg, 0, none⟩) (ls.length + 1) cap1) (ls.length + 1) (lcells (ls ++ [(n, x)]) (us ++ [u])))
    (hu : w1.ownsRow w.heap.size 5 1 u x.length (cellsOf x)) (kb : ∀ j, j < w.heap.size → w1.heap[j]? = w.heap[j]?)
    (hos : w1.os = w.os) (htp : w1.tape = w.tape) (hou : w1.output = w.output) (hsz : w.heap.size ≤ w1.heap.size) (hB : B ≤ w.heap.size) :
    RefAt (w1.setCell ⟨r, 1, none⟩ (.slice (some ⟨gg, 0, none⟩) (ls.length + 1) cap1)) B r F (.slice (some ⟨gg, 0, none⟩) (ls.length + 1) cap1) vs (us ++ [u]) fs (ls ++ [(n, x)]) ∧
      (∀ k, refBlock F (.slice (some ⟨gg, 0, none⟩) (ls.length + 1) cap1) vs (us ++ [u]) k → refBlock F L vs us k ∨ w.heap.size ≤ k) ∧ Only r r none w (w1.setCell ⟨r, 1, none⟩ (.slice (some ⟨gg, 0, none⟩) (ls.length + 1) cap1)) := by
  have hr := H.lts.1
  have hgg := (hown1.lt gg rfl).1
  have r1 := (kb r hr).trans H.obj
  have d2 := heap_setCell_same w1 r 1 _ _ (.slice (some ⟨gg, 0, none⟩) (ls.length + 1) cap1) r1
  have o2 : ∀ j, j ≠ r → (w1.setCell ⟨r, 1, none⟩ (.slice (some ⟨gg, 0, none⟩) (ls.length + 1) cap1)).heap[j]? = w1.heap[j]? := fun j hj => heap_setCell_other _ _ _ _ hj
  have s2 : (w1.setCell ⟨r, 1, none⟩ (.slice (some ⟨gg, 0, none⟩) (ls.length + 1) cap1)).heap.size = w1.heap.size := by simp [World.setCell]
  have t2 : (w1.setCell ⟨r, 1, none⟩ (.slice (some ⟨gg, 0, none⟩) (ls.length + 1) cap1)).os = w1.os ∧ (w1.setCell ⟨r, 1, none⟩ (.slice (some ⟨gg, 0, none⟩) (ls.length + 1) cap1)).tape = w1.tape ∧ (w1.setCell ⟨r, 1, none⟩ (.slice (some ⟨gg, 0, none⟩) (ls.length + 1) cap1)).output = w1.output := ⟨rfl, rfl, rfl⟩
  generalize w1.setCell ⟨r, 1, none⟩ (.slice (some ⟨gg, 0, none⟩) (ls.length + 1) cap1) = w2 at *
  have hul := H.ulen
  have old : ∀ k, refBlock F L vs us k → w2.heap[k]? = w.heap[k]? := fun k hk => by rw [o2 k (H.far k hk), kb k (H.lts.2 k hk).2]
  have hcl : ∀ k, refBlock F (.slice (some ⟨gg, 0, none⟩) (ls.length + 1) cap1) vs (us ++ [u]) k → refBlock F L vs us k ∨ w.heap.size ≤ k := by
    rintro k (e | e | e | ⟨v, hv, e⟩)
    · exact .inl (.inl e)
    · exact .inr (by have := own_slice e; omega)
    · exact .inl (.inr (.inr (.inl e)))
    · rcases List.mem_append.1 hv with h | h
      · exact .inl (.inr (.inr (.inr ⟨v, h, e⟩)))
      · rw [List.mem_singleton.1 h] at e
        exact .inr (hu.lt k e).1
  refine ⟨⟨by rw [d2]; simp, own_keep H.first fun k e => old k (.inl e), H.vlen, fun i hi hi' => own_keep (H.rows i hi hi') fun k e => old k (.inr (.inr (.inl ⟨_, List.getElem_mem hi', e⟩))), ?_, by simp [hul], ?_, by simp, H.br, ?_⟩, hcl, ⟨t2.1.trans hos, t2.2.1.trans htp, t2.2.2.trans hou, by omega, ?_⟩⟩
  · rw [show (ls ++ [(n, x)]).length = ls.length + 1 by simp]
    exact (own_keep hown1 fun k e => o2 k (by have := own_slice e; omega)).mono hB
  · intro i hi hi'
    by_cases hlt : i < ls.length
    · rw [List.getElem_append_left (show i < us.length by omega)]
      simp only [List.getElem_append_left hlt]
      exact own_keep (H.lrows i hlt (by omega)) fun k e => old k (.inr (.inr (.inr ⟨_, List.getElem_mem _, e⟩)))
    · have hi2 : i = ls.length := by simp at hi; omega
      subst hi2
      rw [List.getElem_append_right (by omega)]
      simp only [List.getElem_concat_length, hul, Nat.sub_self, List.getElem_singleton]
      exact (own_keep hu fun k e => o2 k (by have := (hu.lt k e).1; omega)).mono hB
  · intro k hk
    rcases hcl k hk with h | h
    · exact H.far k h
    · omega
  · intro k hk hkr _ _
    rw [o2 k hkr, kb k hk]
end Go.Proofs.YtcaifnenejjfaaaGreat
