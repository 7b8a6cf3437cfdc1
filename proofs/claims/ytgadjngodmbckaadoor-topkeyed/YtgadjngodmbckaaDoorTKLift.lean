/- TopKeyed: its second argument, opened. -/
import Derived.Test.YtgadjngodmbckaaDoorTKeyed
import Derived.Test.YtgadjngodmbckaaDoorELift
import Derived.Lib.SmallJoins
namespace Go.Proofs.YtgadjngodmbckaaDoor
open Go.ChangeShapes Go.WideShapes Go.ChangeAt Go.RowKit

theorem cellsText : Tryd.prog.cellsOf 9 = 1 := by kernel_rfl
theorem bytesText : Tryd.prog.bytesOf 9 = 16 := by kernel_rfl
theorem weights_strs {H : Type} (e : TypeId) (l : List ByteArray) (s : ByteArray) (hs : s ∈ l) : s.data.toList.length ∈ DataW.weightsAll (H := H) Tryd.prog e (strs l) := by
  induction l with
  | nil => cases hs
  | cons t l ih =>
    simp only [strs, List.map_cons, DataW.weightsAll]
    rcases List.mem_cons.1 hs with rfl | h
    · exact List.mem_append_left _ (by simp [DataW.weights])
    · exact List.mem_append_right _ (ih h)
/-- a field that is a row of texts -/
theorem open_texts1 {H : Type} {enc : TypeId × Value → H} {W : World} {ts : List TypeId} {ds : List (DataW H)} {j n : Nat} {v : Value} {y : DataW H × List MemPlace}
    (hsz : (DataW.weightsEach Tryd.prog ts ds).all (· ≤ reachBytes) = true) (ht : ts[j]? = some 43) (hd : ds[j]? = some y.1)
    (hf : DataW.trod enc Tryd.prog W 0 (fun _ => true) true n 43 [v] = some y) : ∃ a l cap, v = .slice a (List.length l) cap ∧ TextsIn W a cap l := by
  rcases open_strings Tryd.underlying43 Tryd.underlying9 cellsText hf with ⟨hcs, _⟩ | ⟨x, len, cap, ss, hcs, _, hl, hm, hz, hx, hcell, hws⟩
  · simp only [List.cons.injEq, and_true] at hcs
    exact ⟨none, [], 0, hcs, fun i hi => by simp at hi, by simp, by simp, fun s hs => by simp at hs⟩
  · simp only [List.cons.injEq, and_true] at hcs
    subst hx
    simp only [if_true] at hz
    have hlen : (ss.take len).length = len := by rw [List.length_take]; omega
    refine ⟨some x, ss.take len, cap, by rw [hlen]; exact hcs, fun i hi => ?_, by rw [hlen]; exact hl, ?_, fun s hs => ?_⟩
    · obtain ⟨b, o, spot⟩ := x
      have hc := hcell i (by omega)
      have hspot : spot = none := by simpa [Addr.add] using World.cell?_spot (hcell 0 (by omega))
      subst hspot
      refine ⟨b, o, rfl, ?_⟩
      rw [addr_add] at hc
      rw [hc, List.getElem_take]
      simp [List.getD, show i < ss.length by omega]
    · have := sized_slice hsz ht hd Tryd.underlying43
      rw [bytesText] at this
      simp only [strs, List.length_map, reachBytes] at this
      omega
    · have := List.all_eq_true.1 hsz _ (DataW.weights_mem_each ht hd s.data.toList.length (by
        simp only [DataW.weights, Tryd.underlying43]
        refine List.mem_cons_of_mem _ (List.mem_append_left _ ?_)
        exact weights_strs _ _ s hs))
      rw [← Lib.size_eq, decide_eq_true_eq] at this
      exact this
/-- a field that is a row of bytes -/
theorem open_bytes1 {H : Type} {enc : TypeId × Value → H} {W : World} {ts : List TypeId} {ds : List (DataW H)} {j n : Nat} {v : Value} {y : DataW H × List MemPlace}
    (hsz : (DataW.weightsEach Tryd.prog ts ds).all (· ≤ reachBytes) = true) (ht : ts[j]? = some 25) (hd : ds[j]? = some y.1)
    (hf : DataW.trod enc Tryd.prog W 0 (fun _ => true) true n 25 [v] = some y) : ∃ a l cap, v = .slice a (List.length l) cap ∧ BytesIn W a cap l := by
  have hs : ∃ a len cap, v = .slice a len cap := by
    rcases open_ints Tryd.underlying25 Tryd.underlying5 cellsByte hf with ⟨hcs, _⟩ | ⟨x, l', c', zs, hcs, _⟩
    · simp only [List.cons.injEq, and_true] at hcs
      exact ⟨_, _, _, hcs⟩
    · simp only [List.cons.injEq, and_true] at hcs
      exact ⟨_, _, _, hcs⟩
  obtain ⟨a, len, cap, rfl⟩ := hs
  obtain ⟨l, rfl, hl⟩ := open_bytes (enc := enc) (W := W) (a := a) (len := len) (cap := cap) (p := y.2) hsz ht hd ⟨n, hf⟩
  exact ⟨a, l, cap, rfl, hl⟩
/-- the argument of TopKeyed -/
theorem open_keyed {H : Type} {enc : TypeId × Value → H} {W : World} {ts : List TypeId} {ds : List (DataW H)} {j : Nat} {v : Value} {d : DataW H} {p : List MemPlace} {base0 : Nat}
    (hsz : (DataW.weightsEach Tryd.prog ts ds).all (· ≤ reachBytes) = true) (ht : ts[j]? = some 45) (hd : ds[j]? = some d)
    (hv : Value.okWide Tryd.prog W .any base0 45 v) (h : DataW.Trod enc Tryd.prog W 0 (fun _ => true) true 45 v d p) :
    ∃ la L lc oa M oc pa P pc, v = .agg #[.slice la (List.length L) lc, .slice oa (List.length M) oc, .slice pa (List.length P) pc] ∧ TextsIn W la lc L ∧ TextsIn W oa oc M ∧ BytesIn W pa pc P := by
  obtain ⟨v0, v1, v2, y0, y1, y2, n, rfl, rfl, _, h0, h1, h2⟩ := Joins.open_agg3 Tryd.underlying45 (by kernel_rfl) (by kernel_rfl) hv h
  have hz : (DataW.weightsEach Tryd.prog [43, 43, 25] [y0.1, y1.1, y2.1]).all (· ≤ reachBytes) = true := by
    refine List.all_eq_true.2 fun m hm => List.all_eq_true.1 hsz m (DataW.weights_mem_each ht hd m ?_)
    simp only [DataW.weights, Tryd.underlying45]
    exact hm
  obtain ⟨la, L, lc, rfl, hL⟩ := open_texts1 (j := 0) hz rfl rfl h0
  obtain ⟨oa, M, oc, rfl, hM⟩ := open_texts1 (j := 1) hz rfl rfl h1
  obtain ⟨pa, P, pc, rfl, hP⟩ := open_bytes1 (j := 2) hz rfl rfl h2
  exact ⟨la, L, lc, oa, M, oc, pa, P, pc, rfl, hL, hM, hP⟩
end Go.Proofs.YtgadjngodmbckaaDoor
