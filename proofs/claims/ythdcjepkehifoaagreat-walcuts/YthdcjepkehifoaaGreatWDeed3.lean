/- A deed of layer 3 as an argument. -/
import Derived.Test.YthdcjepkehifoaaGreatWDds
import Derived.Lib.SmallJoins
namespace Go.Proofs.YthdcjepkehifoaaGreat
open Go.RowKit Go.Maps Go.ChangeShapes Go.WideShapes Go.ChangeAt Go.Deep
set_option linter.unusedVariables false
set_option maxRecDepth 20000
theorem open_deed3 {H : Type} {enc : TypeId × Value → H} {W : World} {b0 : Nat} {r : Reach} {v : Value} {d : DataW H} {p : List MemPlace}
    (hv : Value.okWide Tryz.prog W r b0 32 v) (h : DataW.Trod enc Tryz.prog W 0 (fun _ => true) true 32 v d p) :
    ∃ x : Dd, v = .agg #[.bool x.ck, .bool x.sh, .slice x.a x.q.length x.c, .int .u8 (x.y.toNat : Int)] ∧ IntsAt W x.a x.q := by
  obtain ⟨v0, v1, v2, v3, y0, y1, y2, y3, n, rfl, _, _, h0, h1, h2, h3⟩ := Joins.open_agg4 Tryz.underlying32 (by kernel_rfl) cellsDd hv h
  obtain ⟨ck, e0, _⟩ := DataW.trod_bool Tryz.underlying4 h0
  obtain ⟨sh, e1, _⟩ := DataW.trod_bool Tryz.underlying4 h1
  obtain ⟨a, l, c, rfl, g2⟩ := open_ints3 h2
  obtain ⟨b, e3, _, hb⟩ := DataW.trod_int Tryz.underlying5 h3
  obtain ⟨b', rfl⟩ := byte_of' hb
  simp only [List.cons.injEq, and_true] at e0 e1 e3
  exact ⟨⟨ck, sh, a, l, c, b'⟩, by rw [e0, e1, e3], g2⟩
theorem dds_len {H : Type} {enc : TypeId × Value → H} {W : World} {a : Option Addr} {len cap : Nat} {d : DataW H} {p : List MemPlace}
    (h : DataW.Trod enc Tryz.prog W 0 (fun _ => true) true 22 (.slice a len cap) d p) : len ≤ 9223372036854775807 := by
  obtain ⟨fuel, hf⟩ := h
  rcases open_slice Tryz.underlying22 hf with ⟨hcs, _⟩ | ⟨x, l', c', m, n, D, Pl, hcs, hb, hl, hm, hmm, _, hx⟩
  · simp [Value.cells] at hcs
    omega
  · simp [Value.cells] at hcs
    obtain ⟨rfl, rfl, rfl⟩ := hcs
    unfold maxLen at *
    omega
end Go.Proofs.YthdcjepkehifoaaGreat
