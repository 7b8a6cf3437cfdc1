/- codec.After and its reference, at bytes that end in 1 (keys do) and at none, each by a contract. -/
import Derived.Test.YtpdknoldcaaboaaDoorWhole
import Derived.Lib.LazyBuf
namespace Go.Proofs.YtpdknoldcaaboaaDoor
open Go.RowKit
set_option linter.unusedVariables false

/-- bytes are handed back, in memory of the call's own -/
def BytesPost (r : List UInt8) (w : World) (e : Ending) (w' : World) : Prop := ∃ a' cap', e = .returned (.slice a' r.length cap') ∧ Bytes w' a' r ∧ Below w.heap.size w w'

set_option maxHeartbeats 400000 in
theorem clone_any (x : List UInt8) (ad : Addr) (cap : Nat) (w : World) (hB : Bytes w (some ad) x) (hlen : x.length ≤ 140737488351232) :
    Calls Tryd.prog 43 #[.slice (some ad) x.length cap] w fun e w' => ∃ v, e = .returned v ∧ w'.ownsRow w.heap.size 5 1 v x.length (cellsOf x) ∧ Below w.heap.size w w' := by
  have hcell : Hid (∀ j (h : j < x.length), w.cell? (ad.add j) = some (.int .u8 (x[j].toNat : Int))) := fun j hj => by
    obtain ⟨b, o, e, hc⟩ := hB j hj
    cases e
    rw [addr_add]
    exact hc
  have Hlt : Hid (0 < x.length → ad.block < w.heap.size) := fun h => by
    obtain ⟨b, o, e, hc⟩ := hB 0 h
    cases e
    exact World.block_lt_of_cell? _ _ hc
  have hnil := fun wx => Lib.run_eql_slice_nil (P := Tryd.prog) wx 23 5 (some ad) x.length cap 0 0 Tryd.underlying23
  have Hown := hid (World.ownsRow_lit (base := w.heap.size) (e := 5) (size := 1) w #[] 0 (Nat.le_refl _) (by decide) rfl)
  have Hcell2 : Hid (∀ j (h : j < x.length), (w.alloc (.cells #[] 5)).cell? (ad.add j) = some (.int .u8 (x[j].toNat : Int))) := fun j hj => by
    have h := hcell.out j hj
    exact (((Below.refl w.heap.size w).alloc (Nat.le_refl _) _).cell (World.block_lt_of_cell? _ _ h)).trans h
  clear hB
  go_enter Tryd.func43, Tryd.ntmps43
  go_wp2_with (at_builtin; refine app_bytes _ rfl (.tmp 5) (.tmp 6) rfl w.heap.size _ [] rfl Hown.out ad x.length cap x rfl rfl Hcell2.out (by simp; omega) (by simp) ?_; intro v1 w1 ho1 hb1 hs1)
  go_ret
  exact ⟨_, rfl, by simpa using ho1, ((Below.refl _ _).alloc (Nat.le_refl _) _).trans hb1⟩

set_option maxHeartbeats 400000 in
theorem clone_nil (w : World) : Calls Tryd.prog 43 #[.slice none 0 0] w fun e w' => e = .returned (.slice none 0 0) ∧ w' = w := by
  have hnil := fun wx => Lib.run_eql_slice_nil (P := Tryd.prog) wx 23 5 none 0 0 0 0 Tryd.underlying23
  go_enter Tryd.func43, Tryd.ntmps43
  go_wp2
  go_ret
  exact ⟨rfl, rfl⟩

set_option maxHeartbeats 400000 in
theorem after_nil (w : World) : Calls Tryd.prog 31 #[.slice none 0 0] w (BytesPost [255] w) := by
  go_enter Tryd.func31, Tryd.ntmps31
  go_wp2_with (first | (go_at_call 43; refine (clone_nil _).mono ?_; rintro e w' ⟨rfl, hw⟩; rw [hw]; clear hw w') | (at_builtin; refine app_lits _ rfl (.tmp 19) (.tmp 20) rfl w.heap.size _ [] rfl (World.ownsRow_nil _ _ _ _) [255] 1 rfl rfl (by simp) (Nat.le_refl _) ?_; intro v1 w1 ho1 hb1 hs1))
  go_ret
  obtain ⟨a1, c1, rfl, hB, hc⟩ := bytes_of_own ho1
  exact ⟨a1, c1, rfl, hB, hb1⟩

theorem own_last {w : World} {base : Nat} {v : Value} {q : List UInt8} (h : w.ownsRow base 5 1 v (q ++ [1]).length (cellsOf (q ++ [1]))) :
    ∃ g cap, v = .slice (some ⟨g, 0, none⟩) (q.length + 1) cap ∧ base ≤ g ∧ w.cell? ⟨g, q.length, none⟩ = some (.int .u8 1) ∧ w.frozen? ⟨g, q.length, none⟩ = false ∧
      (w.setCell ⟨g, q.length, none⟩ (.int .u8 2)).ownsRow base 5 1 v (q ++ [2]).length (cellsOf (q ++ [2])) := by
  have hl : (q ++ [1]).length = q.length + 1 := by simp
  rcases h.2 with ⟨_, h0⟩ | ⟨g, cap, cur, rfl, hb, _⟩
  · rw [hl] at h0; omega
  · refine ⟨g, cap, by rw [hl], hb, ?_, h.frozenAt _, ?_⟩
    · rw [h.cellAt q.length (by simp)]
      simp [cellsOf]
    · have := (h.stored q.length (.int .u8 2)).1
      have e : (cellsOf (q ++ [1])).set q.length (.int .u8 2) = cellsOf (q ++ [2]) := by simp [cellsOf]
      rw [e] at this
      simpa using this

set_option maxHeartbeats 400000 in
theorem after_key (q : List UInt8) (a : Option Addr) (cap : Nat) (w : World) (hB : Bytes w a (q ++ [1])) (hlen : q.length ≤ 1000) :
    Calls Tryd.prog 31 #[.slice a (q.length + 1) cap] w (BytesPost (q ++ [2]) w) := by
  obtain ⟨ad, rfl⟩ : ∃ ad, a = some ad := by
    obtain ⟨b, o, e, _⟩ := hB 0 (by simp)
    exact ⟨_, e⟩
  have Hclone := hid (clone_any (q ++ [1]) ad cap w hB (by simp; omega))
  rw [show (q ++ [(1 : UInt8)]).length = q.length + 1 by simp] at Hclone
  clear hB
  go_enter Tryd.func31, Tryd.ntmps31
  go_wp2_with fail
  refine Hclone.out.mono ?_
  rintro e w1 ⟨v, rfl, ho, hb⟩
  rw [show q.length + 1 = (q ++ [(1 : UInt8)]).length by simp] at ho
  obtain ⟨g, c1, rfl, hg, hc, hf, hst⟩ := own_last ho
  have Hst := hid hst
  have Hb := hid hb
  clear ho hst hb Hclone
  go_wp2
  go_ret
  obtain ⟨a1, c1', hv, hB, _⟩ := bytes_of_own Hst.out
  simp only [Value.slice.injEq] at hv
  obtain ⟨rfl, _, rfl⟩ := hv
  refine ⟨_, c1, ?_, hB, Hb.out.setCell hg _⟩
  rw [show (q ++ [(2 : UInt8)]).length = q.length + 1 by simp]
  rfl

set_option maxHeartbeats 400000 in
theorem refAfter_key (q : List UInt8) (a : Option Addr) (cap : Nat) (w : World) (hB : Bytes w a (q ++ [1])) (hlen : q.length ≤ 1000) :
    Calls Tryd.prog 32 #[.slice a (q.length + 1) cap] w (BytesPost (q ++ [2]) w) := by
  obtain ⟨ad, rfl⟩ : ∃ ad, a = some ad := by
    obtain ⟨b, o, e, _⟩ := hB 0 (by simp)
    exact ⟨_, e⟩
  have Hcell : Hid (∀ j (h : j < (q ++ [(1 : UInt8)]).length), w.cell? (ad.add j) = some (.int .u8 ((q ++ [(1 : UInt8)])[j].toNat : Int))) := fun j hj => by
    obtain ⟨b, o, e, hc⟩ := hB j hj
    cases e
    rw [addr_add]
    exact hc
  have hl : (q ++ [(1 : UInt8)]).length = q.length + 1 := by simp
  have Hl := hid hl
  clear hB hl
  go_enter Tryd.func32, Tryd.ntmps32
  go_wp2_with (at_builtin; refine app_bytes _ rfl (.tmp 4) (.tmp 5) rfl w.heap.size _ [] rfl (World.ownsRow_nil _ _ _ _) ad (q.length + 1) cap (q ++ [1]) Hl.out rfl Hcell.out (by simp; omega) (Nat.le_refl _) ?_; intro v1 w1 ho1 hb1 hs1; rw [List.nil_append] at ho1; obtain ⟨g, c1, rfl, hg, hc, hf, hst⟩ := own_last ho1; have Hst := hid hst; have Hb := hid hb1; clear ho1 hst hb1 hs1)
  go_ret
  obtain ⟨a1, c1', hv, hB, _⟩ := bytes_of_own Hst.out
  simp only [Value.slice.injEq] at hv
  obtain ⟨rfl, _, rfl⟩ := hv
  refine ⟨_, c1, ?_, hB, Hb.out.setCell hg _⟩
  rw [show (q ++ [(2 : UInt8)]).length = q.length + 1 by simp]
  rfl
end Go.Proofs.YtpdknoldcaaboaaDoor
