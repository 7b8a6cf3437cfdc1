/- An argument of two rows of bytes, opened. -/
import Derived.Test.YtfiaefagnkmpoaaDoorELift
namespace Go.Proofs.YtfiaefagnkmpoaaDoor
open Go.ChangeShapes Go.WideShapes Go.ChangeAt Go.RowKit Go.Shelf
set_option linter.unusedVariables false
set_option maxRecDepth 20000

/-- a row of bytes that came in -/
structure BytesAt (w : World) (a : Option Addr) (cap : Nat) (l : List UInt8) : Prop where
  bytes : Bytes w a l
  nilcap : a = none → cap = 0
  cap : l.length ≤ cap
theorem open_slice {H : Type} {enc : TypeId × Value → H} {W : World} {fuel : Nat} {cs : List Value} {x : DataW H × List MemPlace} (hf : DataW.trod enc Tryd.prog W 0 (fun _ => true) true fuel 22 cs = some x) : ∃ a l cap, cs = [.slice a (List.length l) cap] ∧ BytesAt W a cap l := by
  rcases open_ints Tryd.underlying22 Tryd.underlying5 cellsByte hf with ⟨hcs, _⟩ | ⟨x, l', c', zs, hcs, _, hl, hm, hz, hx, hcell, hwz⟩
  · exact ⟨none, [], 0, hcs, fun i hi => by simp at hi, fun _ => rfl, by simp⟩
  · simp only [if_true] at hz
    have hlen : ((zs.take l').map fun z => UInt8.ofNat z.toNat).length = l' := by rw [List.length_map, List.length_take]; omega
    refine ⟨some x, (zs.take l').map fun z => UInt8.ofNat z.toNat, c', by rw [hlen]; exact hcs, fun i hi => ?_, (fun h => by cases h), by rw [hlen]; exact hl⟩
    obtain ⟨b, o, spot⟩ := x
    have hc := hcell i (by omega)
    have hspot : spot = none := by simpa [Addr.add] using World.cell?_spot (hcell 0 (by omega))
    subst hspot
    refine ⟨b, o, rfl, ?_⟩
    rw [addr_add] at hc
    rw [hc]
    have hi' : i < zs.length := by omega
    have hw := hwz zs[i] (List.getElem_mem _)
    have hr : 0 ≤ zs[i] ∧ zs[i] ≤ 255 := by simpa [Lit.wf, IntKind.min, IntKind.max, IntKind.signed, IntKind.bits] using hw
    simp only [List.getD, List.getElem?_eq_getElem hi', Option.getD_some, List.getElem_map, List.getElem_take]
    congr 2
    rw [UInt8.toNat_ofNat']
    omega
theorem mapM_each {α β : Type} {f : α → Option β} : ∀ (L : List α) (xs : List β), L.mapM f = some xs → ∀ i ∈ L, ∃ y, f i = some y
  | [], xs, h, i, hi => by cases hi
  | j :: L, xs, h, i, hi => by
    rw [List.mapM_cons] at h
    simp only [bind, Option.bind_eq_some_iff, pure, Option.some.injEq] at h
    obtain ⟨y, hy, ys, hys, rfl⟩ := h
    rcases List.mem_cons.1 hi with rfl | hi
    · exact ⟨y, hy⟩
    · exact mapM_each L ys hys i hi
/-- an argument of two rows of bytes -/
theorem open_two {H : Type} {enc : TypeId × Value → H} {W : World} {v : Value} {d : DataW H} {p : List MemPlace} {base0 : Nat} (hv : Value.okWide Tryd.prog W .any base0 40 v)
    (h : DataW.Trod enc Tryd.prog W 0 (fun _ => true) true 40 v d p) : ∃ a k c b l e, v = .agg #[.slice a (List.length k) c, .slice b (List.length l) e] ∧ BytesAt W a c k ∧ BytesAt W b e l := by
  simp only [Value.okWide, Tryd.underlying40] at hv
  obtain ⟨xs, rfl, hs, _⟩ := hv
  have hs2 : xs.size = 2 := hs.trans (by kernel_rfl)
  have cS : Tryd.prog.cellsOf 22 = 1 := by kernel_rfl
  obtain ⟨fuel, hf⟩ := h
  cases fuel with
  | zero => simp [DataW.trod] at hf
  | succ m =>
    rw [DataW.trod_step] at hf
    unfold DataW.trodStep at hf
    simp only [Tryd.underlying40, Value.cells] at hf
    split at hf
    · simp only [Option.map_eq_some_iff] at hf
      obtain ⟨ys, hy, _⟩ := hf
      have hall := mapM_each _ ys hy
      rw [cS] at hall
      have get : ∀ i (hi : i < 2), ∃ a l cap, xs[i]'(by omega) = .slice a (List.length l) cap ∧ BytesAt W a cap l := fun i hi => by
        obtain ⟨y, ey⟩ := hall i (by simp; omega)
        have h3 : (xs.toList.drop (i * 1)).take 1 = [xs[i]'(by omega)] := by
          rw [Nat.mul_one, List.drop_eq_getElem_cons (by simpa using (by omega : i < xs.size))]
          simp
        rw [h3] at ey
        obtain ⟨a, l, cap, e, hb⟩ := open_slice ey
        exact ⟨a, l, cap, by simpa using e, hb⟩
      obtain ⟨a, k, c, ea, ha⟩ := get 0 (by omega)
      obtain ⟨b, l, e, eb, hb⟩ := get 1 (by omega)
      refine ⟨a, k, c, b, l, e, ?_, ha, hb⟩
      congr 1
      apply Array.ext
      · simp [hs2]
      · intro i h1 h2
        have : i = 0 ∨ i = 1 := by omega
        rcases this with rfl | rfl
        · simpa using ea
        · simpa using eb
    · cases hf
end Go.Proofs.YtfiaefagnkmpoaaDoor
