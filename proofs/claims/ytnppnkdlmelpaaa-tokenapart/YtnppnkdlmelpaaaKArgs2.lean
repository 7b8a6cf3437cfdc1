/- What an argument that is a row of numbers gives to a walk; TokenApart, as a row asks for it. -/
import Derived.Test.YtnppnkdlmelpaaaKApart
import Derived.Test.YtnppnkdlmelpaaaKArgs
namespace Go.Proofs.Ytnppnkdlmelpaaa
open Go.RowKit Go.Maps
open Go.ChangeShapes Go.WideShapes Go.ChangeAt Go.Deep
set_option linter.unusedVariables false
set_option maxRecDepth 20000

theorem open_kints {H : Type} {enc : TypeId × Value → H} {W : World} {a : Option Addr} {len cap : Nat} {d : DataW H} {p : List MemPlace}
    (h : DataW.Trod enc Try.prog W 0 (fun _ => true) true 30 (.slice a len cap) d p) : ∃ l : List Int, l.length = len ∧ (Ints W a l ∧ l.length ≤ maxLen) := by
  obtain ⟨fuel, hf⟩ := h
  have hf' : DataW.trod enc Try.prog W 0 (fun _ => true) true fuel 30 [.slice a len cap] = some (d, p) := by simpa [Value.cells] using hf
  obtain ⟨a', l, c, e, hi, hl⟩ := open_ints7 hf'
  injection e with e1 e2 e3
  subst e1 e2 e3
  exact ⟨l, rfl, hi, hl⟩
theorem tokenApart_row {W : World} (l : List KDeed) (a : Option Addr) (cap : Nat) (hl : KDs W a l) (cli : ByteArray) (hc : cli.size ≤ maxLen) (zs : List Int) (sa : Option Addr) (sc : Nat) (hs : Ints W sa zs ∧ zs.length ≤ maxLen) :
    Calls Try.prog 6 #[.slice a l.length cap, .string cli, .slice sa zs.length sc] W fun e w' => e = .returned (.bool true) ∧ Below W.heap.size W w' := tokenApart_walk W hl cap cli hc hs.1 sc hs.2
end Go.Proofs.Ytnppnkdlmelpaaa
