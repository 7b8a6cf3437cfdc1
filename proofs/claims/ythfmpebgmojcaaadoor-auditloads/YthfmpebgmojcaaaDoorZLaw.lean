/- YthfmpebgmojcaaaDoorALift + YthfmpebgmojcaaaDoorAStr + YthfmpebgmojcaaaDoorADArgs + YthfmpebgmojcaaaDoorAOrd15 + YthfmpebgmojcaaaDoorAInv + YthfmpebgmojcaaaDoorZLaw -/
import Derived.Test.YthfmpebgmojcaaaDoorCards
import Derived.Test.YthfmpebgmojcaaaDoorTie
import Derived.Test.YthfmpebgmojcaaaDoorAFn
import Derived.ProofKit
import Derived.OpenShut
import Derived.ShutString
import Derived.ChangeOld
import Derived.Deep.DeepHandedRow
import Derived.Lib.LaidTab
import Derived.Stop.LaidErr
import Derived.SizedLaws
import Derived.SliceStrings
import Derived.Test.YthfmpebgmojcaaaDoorADo1
import Derived.Lib.SmallJoins
import Derived.Deep.Slices
import Derived.ChangeSlices
import Derived.BigQuiet
import Derived.Test.YthfmpebgmojcaaaDoorZRows
/- What the rows' list of variables gives, and what every law's lift shares (four tables). -/
namespace Go.Proofs.YthfmpebgmojcaaaDoor
open Go.ChangeShapes Go.WideShapes Go.ChangeAt Go.RowKit
set_option maxRecDepth 20000
theorem own : ownKnob Tryd.prog.godebug = none := by kernel_rfl
theorem laidOut : laidOutB Tryd.prog = true := by kernel_rfl
theorem gTab : Tryd.prog.globalNamed "holdfast/hash.roundWords" = some 0 := by kernel_rfl
theorem gTabType : (Tryd.prog.globals[0]?).map (·.type) = some 185 := by kernel_rfl
theorem cellsTab : Tryd.prog.cellsOf 185 = 64 := by kernel_rfl
theorem cellsWord : Tryd.prog.cellsOf 129 = 1 := by kernel_rfl
theorem cellsByte : Tryd.prog.cellsOf 5 = 1 := by kernel_rfl
theorem gTab8 : Tryd.prog.globalNamed "math/bits.deBruijn64tab" = some 4 := by kernel_rfl
theorem gTabType8 : (Tryd.prog.globals[4]?).map (·.type) = some 132 := by kernel_rfl
theorem cellsTab8 : Tryd.prog.cellsOf 132 = 64 := by kernel_rfl
abbrev laidList : List (String × DataW Unit) := Rows.auditLoadsRow.laid
def KZ : List Int := [1116352408, 1899447441, 3049323471, 3921009573, 961987163, 1508970993, 2453635748, 2870763221, 3624381080, 310598401, 607225278, 1426881987, 1925078388, 2162078206, 2614888103, 3248222580, 3835390401, 4022224774, 264347078, 604807628, 770255983, 1249150122, 1555081692, 1996064986, 2554220882, 2821834349, 2952996808, 3210313671, 3336571891, 3584528711, 113926993, 338241895, 666307205, 773529912, 1294757372, 1396182291, 1695183700, 1986661051, 2177026350, 2456956037, 2730485921, 2820302411, 3259730800, 3345764771, 3516065817, 3600352804, 4094571909, 275423344, 430227734, 506948616, 659060556, 883997877, 958139571, 1322822218, 1537002063, 1747873779, 1955562222, 2024104815, 2227730452, 2361852424, 2428436474, 2756734187, 3204031479, 3329325298]
theorem kz_at : ∀ i : Fin 64, KZ[i.val]'i.isLt = ((KL[i.val]'(by rw [KL_length]; exact i.isLt)).toNat : Int) := by decide +kernel
theorem kat_of {W : World} (h : laidMetH Tryd.prog laidList W) : KAt W := by
  have h0 : laidMet Tryd.prog laidList W := h
  have h1 := laidMet.tail (laidMet.tail (laidMet.tail h0))
  have h2 : Lib.TabIs Tryd.prog W "holdfast/hash.roundWords" .u32 KZ :=
    Lib.tabIs_of_head (rest := []) gTab gTabType Tryd.underlying185 Tryd.underlying129 cellsWord cellsTab h1
  intro i hi
  have h3 := h2.cell gTab i hi
  rw [h3]
  have h4 := kz_at ⟨i, hi⟩
  simp only at h4
  show some (Value.int .u32 (KZ.getD i 0)) = some (.int .u32 _)
  rw [← h4, List.getD_eq_getElem?_getD, List.getElem?_eq_getElem (show i < KZ.length from hi)]
  rfl
theorem tab8_of {W : World} (h : laidMetH Tryd.prog laidList W) : TabAt W := by
  have h0 : laidMet Tryd.prog laidList W := h
  have h1 := laidMet.tail h0
  have h2 : Lib.TabIs Tryd.prog W "math/bits.deBruijn64tab" .u8 [0, 1, 56, 2, 57, 49, 28, 3, 61, 58, 42, 50, 38, 29, 17, 4, 62, 47, 59, 36, 45, 43, 51, 22, 53, 39, 33, 30, 24, 18, 12, 5, 63, 55, 48, 27, 60, 41, 37, 16, 46, 35, 44, 21, 52, 32, 23, 11, 54, 26, 40, 15, 34, 20, 31, 10, 25, 14, 19, 9, 13, 8, 7, 6] :=
    Lib.tabIs_of_head (rest := [("internal/strconv.uint64pow10", Rows.laid_internal_strconv_uint64pow10), ("holdfast/hash.roundWords", Rows.laid_holdfast_hash_roundWords)]) gTab8 gTabType8 Tryd.underlying132 Tryd.underlying5 cellsByte cellsTab8 h1
  exact h2.cell gTab8 15 (by decide)
theorem tab_of {W : World} (h : laidMetH Tryd.prog laidList W) : Tabs W W.heap.size :=
  ⟨tab8_of h, kat_of h, World.block_lt_of_cell? W ⟨4, 15, none⟩ (tab8_of h), World.block_lt_of_cell? W ⟨0, 0, none⟩ (kat_of h 0 (by decide))⟩
def laidAs (c : Array Value) : Obj → Obj
  | .cells _ t frozen => .cells c t frozen
  | o => o
def laidWorld (w : World) : World :=
  { w with heap := (((w.heap.modify 2 (laidAs #[.int .u64 1, .int .u64 10, .int .u64 100, .int .u64 1000, .int .u64 10000, .int .u64 100000, .int .u64 1000000, .int .u64 10000000, .int .u64 100000000, .int .u64 1000000000, .int .u64 10000000000, .int .u64 100000000000, .int .u64 1000000000000, .int .u64 10000000000000, .int .u64 100000000000000, .int .u64 1000000000000000, .int .u64 10000000000000000, .int .u64 100000000000000000, .int .u64 1000000000000000000, .int .u64 10000000000000000000])).modify 3 (laidAs #[.int .u8 0, .int .u8 1, .int .u8 28, .int .u8 2, .int .u8 29, .int .u8 14, .int .u8 24, .int .u8 3, .int .u8 30, .int .u8 22, .int .u8 20, .int .u8 15, .int .u8 25, .int .u8 17, .int .u8 4, .int .u8 8, .int .u8 31, .int .u8 27, .int .u8 13, .int .u8 23, .int .u8 21, .int .u8 19, .int .u8 16, .int .u8 7, .int .u8 26, .int .u8 12, .int .u8 18, .int .u8 6, .int .u8 11, .int .u8 5, .int .u8 10, .int .u8 9])).modify 4 (laidAs #[.int .u8 0, .int .u8 1, .int .u8 56, .int .u8 2, .int .u8 57, .int .u8 49, .int .u8 28, .int .u8 3, .int .u8 61, .int .u8 58, .int .u8 42, .int .u8 50, .int .u8 38, .int .u8 29, .int .u8 17, .int .u8 4, .int .u8 62, .int .u8 47, .int .u8 59, .int .u8 36, .int .u8 45, .int .u8 43, .int .u8 51, .int .u8 22, .int .u8 53, .int .u8 39, .int .u8 33, .int .u8 30, .int .u8 24, .int .u8 18, .int .u8 12, .int .u8 5, .int .u8 63, .int .u8 55, .int .u8 48, .int .u8 27, .int .u8 60, .int .u8 41, .int .u8 37, .int .u8 16, .int .u8 46, .int .u8 35, .int .u8 44, .int .u8 21, .int .u8 52, .int .u8 32, .int .u8 23, .int .u8 11, .int .u8 54, .int .u8 26, .int .u8 40, .int .u8 15, .int .u8 34, .int .u8 20, .int .u8 31, .int .u8 10, .int .u8 25, .int .u8 14, .int .u8 19, .int .u8 9, .int .u8 13, .int .u8 8, .int .u8 7, .int .u8 6])).modify 0 (laidAs #[.int .u32 1116352408, .int .u32 1899447441, .int .u32 3049323471, .int .u32 3921009573, .int .u32 961987163, .int .u32 1508970993, .int .u32 2453635748, .int .u32 2870763221, .int .u32 3624381080, .int .u32 310598401, .int .u32 607225278, .int .u32 1426881987, .int .u32 1925078388, .int .u32 2162078206, .int .u32 2614888103, .int .u32 3248222580, .int .u32 3835390401, .int .u32 4022224774, .int .u32 264347078, .int .u32 604807628, .int .u32 770255983, .int .u32 1249150122, .int .u32 1555081692, .int .u32 1996064986, .int .u32 2554220882, .int .u32 2821834349, .int .u32 2952996808, .int .u32 3210313671, .int .u32 3336571891, .int .u32 3584528711, .int .u32 113926993, .int .u32 338241895, .int .u32 666307205, .int .u32 773529912, .int .u32 1294757372, .int .u32 1396182291, .int .u32 1695183700, .int .u32 1986661051, .int .u32 2177026350, .int .u32 2456956037, .int .u32 2730485921, .int .u32 2820302411, .int .u32 3259730800, .int .u32 3345764771, .int .u32 3516065817, .int .u32 3600352804, .int .u32 4094571909, .int .u32 275423344, .int .u32 430227734, .int .u32 506948616, .int .u32 659060556, .int .u32 883997877, .int .u32 958139571, .int .u32 1322822218, .int .u32 1537002063, .int .u32 1747873779, .int .u32 1955562222, .int .u32 2024104815, .int .u32 2227730452, .int .u32 2361852424, .int .u32 2428436474, .int .u32 2756734187, .int .u32 3204031479, .int .u32 3329325298]) }
theorem laid_met (os : Os) (args : Array Value) : laidMet Tryd.prog laidList ((laidWorld (World.holding Tryd.prog os ⟨#[], #[], []⟩)).forCall (fun _ _ => 0) ⟨#[], args, []⟩).memory :=
  laidMet_of_run' 8 (by kernel_rfl) (by kernel_rfl)
end Go.Proofs.YthfmpebgmojcaaaDoor
/- How long a text is that came in. -/
namespace Go.Proofs.YthfmpebgmojcaaaDoor
open Go.ChangeShapes Go.WideShapes Go.ChangeAt Go.RowKit
end Go.Proofs.YthfmpebgmojcaaaDoor
/- What an argument that is a row of deeds gives to a walk. -/
namespace Go.Proofs.YthfmpebgmojcaaaDoor
open Go.RowKit
open Go.ChangeShapes Go.WideShapes Go.ChangeAt Go.Deep
set_option linter.unusedVariables false
set_option maxRecDepth 20000
structure ADs (w : World) (a : Option Addr) (l : List ADeed) : Prop where
  cells : ∀ i (h : i < l.length), ∃ b o, a = some ⟨b, o, none⟩ ∧ b < w.heap.size ∧ w.rangeAt b (o + i * 5) l[i].vals
  sizes : ∀ q ∈ l, q.what.size ≤ 9223372036854775807 ∧ q.who.size ≤ 9223372036854775807
  len : l.length ≤ 9223372036854775807
theorem ADs.below {w w' : World} {a : Option Addr} {l : List ADeed} {B : Nat} (h : ADs w a l) (hB : B = w.heap.size) (hb : Below B w w') : ADs w' a l := by
  subst hB
  refine ⟨fun i hi => ?_, h.sizes, h.len⟩
  obtain ⟨b, o, e, hlt, hr⟩ := h.cells i hi
  exact ⟨b, o, e, Nat.lt_of_lt_of_le hlt hb.size, fun j u hj => (hb.cell (p := ⟨b, o + i * 5 + j, none⟩) hlt).trans (hr j u hj)⟩
theorem addr_addA (b o j : Nat) : (⟨b, o, none⟩ : Addr).add j = ⟨b, o + j, none⟩ := by unfold Addr.add; split <;> simp_all
theorem list5A {α : Type} {l : List α} (h : l.length = 5) : ∃ a b c d e, l = [a, b, c, d, e] := by
  match l, h with
  | [a, b, c, d, e], _ => exact ⟨a, b, c, d, e, rfl⟩
theorem choose_ltA {β : Type} [Inhabited β] {n : Nat} {P : Nat → β → Prop} (h : ∀ i, i < n → ∃ b, P i b) : ∃ f : Nat → β, ∀ i, i < n → P i (f i) := by
  classical
  refine ⟨fun i => if hi : i < n then Classical.choose (h i hi) else default, fun i hi => ?_⟩
  simp only [hi, dif_pos]
  exact Classical.choose_spec (h i hi)
theorem cellsAD : Tryd.prog.cellsOf 37 = 5 := by kernel_rfl
theorem open_adeeds {H : Type} {enc : TypeId × Value → H} {W : World} {a : Option Addr} {len cap : Nat} {d : DataW H} {p : List MemPlace}
    (h : DataW.Trod enc Tryd.prog W 0 (fun _ => true) true 23 (.slice a len cap) d p) : ∃ l : List ADeed, l.length = len ∧ ADs W a l := by
  obtain ⟨fuel, hf⟩ := h
  rcases open_slice Tryd.underlying23 hf with ⟨hcs, _⟩ | ⟨x, l', c', m, n, D, Pl, hcs, hb, hl, hm, hmm, _, hx⟩
  · simp [Value.cells] at hcs
    obtain ⟨rfl, rfl, rfl⟩ := hcs
    exact ⟨[], rfl, fun i hi => by simp at hi, fun x hx => by simp at hx, by simp⟩
  · simp [Value.cells] at hcs
    obtain ⟨rfl, rfl, rfl⟩ := hcs
    simp only [if_true] at hmm
    rw [cellsAD] at hx
    have each : ∀ i, i < len → ∃ q : ADeed, (∃ b o, x = ⟨b, o, none⟩ ∧ b < W.heap.size ∧ W.rangeAt b (o + i * 5) q.vals) ∧ q.what.size ≤ 9223372036854775807 ∧ q.who.size ≤ 9223372036854775807 := by
      intro i hi
      obtain ⟨cs', h1, h2⟩ := hx i (by omega)
      obtain ⟨_, hlen, hcell⟩ := World.cells?_some h1
      obtain ⟨xs, k, hk, hxy, _, hxl, hf⟩ := DataW.trod_struct Tryd.underlying37 h2
      obtain ⟨v0, v1, v2, v3, v4, rfl⟩ := list5A hlen
      have g0 := hf 0 _ rfl
      have g1 := hf 1 _ rfl
      have g2 := hf 2 _ rfl
      have g3 := hf 3 _ rfl
      have g4 := hf 4 _ rfl
      have s0 : Tryd.prog.cellsOf 3 = 1 := by kernel_rfl
      have s1 : Tryd.prog.cellsOf 9 = 1 := by kernel_rfl
      simp [s0, s1] at g0 g1 g2 g3 g4
      obtain ⟨y0, q0⟩ : ∃ y, DataW.trod enc Tryd.prog W 0 (fun _ => true) true k 3 [v0] = some y := ⟨_, g0.trans (List.getElem?_eq_getElem (by rw [hxl]; decide))⟩
      obtain ⟨y1, q1⟩ : ∃ y, DataW.trod enc Tryd.prog W 0 (fun _ => true) true k 3 [v1] = some y := ⟨_, g1.trans (List.getElem?_eq_getElem (by rw [hxl]; decide))⟩
      obtain ⟨y2, q2⟩ : ∃ y, DataW.trod enc Tryd.prog W 0 (fun _ => true) true k 3 [v2] = some y := ⟨_, g2.trans (List.getElem?_eq_getElem (by rw [hxl]; decide))⟩
      obtain ⟨y3, q3⟩ : ∃ y, DataW.trod enc Tryd.prog W 0 (fun _ => true) true k 9 [v3] = some y := ⟨_, g3.trans (List.getElem?_eq_getElem (by rw [hxl]; decide))⟩
      obtain ⟨y4, q4⟩ : ∃ y, DataW.trod enc Tryd.prog W 0 (fun _ => true) true k 9 [v4] = some y := ⟨_, g4.trans (List.getElem?_eq_getElem (by rw [hxl]; decide))⟩
      obtain ⟨n0, e0, _, _⟩ := DataW.trod_int Tryd.underlying3 q0
      obtain ⟨n1, e1, _, _⟩ := DataW.trod_int Tryd.underlying3 q1
      obtain ⟨n2, e2, _, _⟩ := DataW.trod_int Tryd.underlying3 q2
      obtain ⟨n3, e3, _, k3⟩ := DataW.trod_string Tryd.underlying9 q3
      obtain ⟨n4, e4, _, k4⟩ := DataW.trod_string Tryd.underlying9 q4
      simp only [List.cons.injEq, and_true] at e0 e1 e2 e3 e4
      subst e0 e1 e2 e3 e4
      obtain ⟨bb, o, spot⟩ := x
      have hspot : spot = none := by
        obtain ⟨cs0, z1, _⟩ := hx 0 (by omega)
        obtain ⟨_, zl, zc⟩ := World.cells?_some z1
        have := (zc 0 (by omega)).trans (List.getElem?_eq_getElem (by omega))
        simpa [Addr.add] using World.cell?_spot this
      subst hspot
      refine ⟨⟨n0, n1, n2, n3, n4⟩, ⟨bb, o, rfl, ?_, fun j u hj => ?_⟩, k3, k4⟩
      · have c0 := hcell 0 (by omega)
        rw [Deep.add_add, addr_addA] at c0
        exact World.block_lt_of_cell? _ _ (c0.trans rfl)
      · have hj5 : j < 5 := (List.getElem?_eq_some_iff.1 hj).1
        have c0 := hcell j hj5
        rw [Deep.add_add, addr_addA] at c0
        rw [Nat.add_assoc, c0]
        exact hj
    have hinh : Inhabited ADeed := ⟨⟨0, 0, 0, ⟨#[]⟩, ⟨#[]⟩⟩⟩
    obtain ⟨q, hq⟩ := choose_ltA each
    refine ⟨(List.range len).map q, by simp, fun i hi => ?_, fun y hy => ?_, by have h9 : maxLen = 9223372036854775807 := (by decide); rw [List.length_map, List.length_range]; omega⟩
    · have hi' : i < len := by simpa using hi
      obtain ⟨⟨b, o, e, hlt, hr⟩, _⟩ := hq i hi'
      exact ⟨b, o, by rw [e], hlt, by simpa using hr⟩
    · obtain ⟨i, hi, rfl⟩ := List.mem_map.1 hy
      exact (hq i (List.mem_range.1 hi)).2
end Go.Proofs.YthfmpebgmojcaaaDoor
/- AuditOrder's last region, over a frame that is a letter. -/
namespace Go.Proofs.YthfmpebgmojcaaaDoor
open Go.RowKit
set_option linter.unusedVariables false
set_option maxRecDepth 20000
section
variable {ops : Array Oper} {S : World → Prop} {op : Oper} {a : Act}
end
end Go.Proofs.YthfmpebgmojcaaaDoor
/- What the walks over deeds share (out of AOrder, by gen/aprunes2.py). -/
namespace Go.Proofs.YthfmpebgmojcaaaDoor
open Go.RowKit Go.Shelf
set_option linter.unusedVariables false
set_option maxRecDepth 20000
structure DInv (W : World) (B g r k : Nat) (wr : World) : Prop where
  pr : ∃ v u c, Pair wr B g r v u c ∧ Made c k
  tb : Tabs wr B
  bel : Below B W wr
theorem DInv.next {W wr w' : World} {B g r k : Nat} {c : Ch} {q : ADeed} {e : Ending} (hm : Made c k) (tb : Tabs wr B) (bel : Below B W wr) (h : DoPost wr B g r c q e w') : DInv W B g r (k + 1) w' := by
  obtain ⟨_, ⟨v', u', hp⟩, hb⟩ := h
  exact ⟨⟨v', u', _, hp, hm.step q⟩, tb.keep hb, bel.trans hb⟩
theorem _root_.Go.World.ownsRow.onB {w w' : World} {B e s n : Nat} {v : Value} {xs : List Value} (h : w.ownsRow B e s v n xs) (hb : Below w.heap.size w w') : w'.ownsRow B e s v n xs := by
  refine ⟨h.1, ?_⟩
  rcases h.2 with h0 | ⟨g, cap, cur, hv, hg, hgb, r⟩
  · exact .inl h0
  · exact .inr ⟨g, cap, cur, hv, hg, (hb.block _ (heap_lt hgb)).trans hgb, r⟩
end Go.Proofs.YthfmpebgmojcaaaDoor
/- law 14's same: both chains have the same. -/
namespace Go.Proofs.YthfmpebgmojcaaaDoor
open Go.RowKit Go.Shelf
set_option linter.unusedVariables false
set_option maxRecDepth 20000
attribute [local go_sem ↓] loadL_fold storeL_fold loadH_fold storeH_fold buildH_fold
theorem ev_four {w : World} {B c6 N : Nat} {a6 : Option Addr} {l : List Ev} (h : w.ownsRow B 55 4 (.slice a6 N c6) N (eCells l)) (hN : N = l.length) (h0 : 0 < N) : ∃ b, a6 = some ⟨b, 0, none⟩ ∧ ∀ i (hi : i < l.length), w.cell? ⟨b, i * 4, none⟩ = some (.int .i64 (l[i].num : Int)) ∧ w.cell? ⟨b, i * 4 + 1, none⟩ = some (.int .i64 (l[i].tim : Int)) ∧ w.cell? ⟨b, i * 4 + 2, none⟩ = some (.string l[i].what) ∧ w.cell? ⟨b, i * 4 + 3, none⟩ = some (.string l[i].who) := by
  subst hN
  rcases h.2 with ⟨_, h9⟩ | ⟨b, cap', cur, hv, _, hg, _, _, _, ht⟩
  · omega
  · cases hv
    refine ⟨b, rfl, fun i hi => ?_⟩
    have key : ∀ k, k < 4 → w.cell? ⟨b, i * 4 + k, none⟩ = (eVals l[i])[k]? := fun k hk => by
      have h1 : (cur.toList.take (l.length * 4))[i * 4 + k]? = (eVals l[i])[k]? := by rw [ht, eCells_get _ _ hi _ hk]
      rw [List.getElem?_take_of_lt (by omega)] at h1
      rw [cell_of_row _ _ _ _ _ _ hg, ← Array.getElem?_toList]
      exact h1
    exact ⟨key 0 (by omega), key 1 (by omega), key 2 (by omega), key 3 (by omega)⟩
set_option maxHeartbeats 8000000 in
theorem same_any {w : World} {B g r : Nat} {v u : Value} {c : Ch} (h : ChAt w B g v c) (hr : RAt w B r u c) (ok : ChOk c) (hc : c.cnt < 1152921504606846976) (hT : Tabs w B) (hB : B ≤ w.heap.size) :
    Calls Tryd.prog 14 #[.pointer (some ⟨g, 0, none⟩), .pointer (some ⟨r, 0, none⟩)] w fun e w' => e = .returned (.bool true) ∧ Below w.heap.size w w' := by
  have HC := hid (fun (V : World) (hb : Below w.heap.size w V) => h.below hb)
  have HR := hid (fun (V : World) (hb : Below w.heap.size w V) => hr.below hb)
  have OK := hid ok
  have Hc := hid hc
  have HT := hid (fun (V : World) (hb : Below w.heap.size w V) => hT.below hB hb)
  have H0 := hid h
  obtain ⟨Z, hZ⟩ : ∃ Z, Z = bvs zero32 := ⟨_, rfl⟩
  have zh := (zero_of_info zero_hash).1
  rw [show bvs (List.replicate 32 0) = Z from hZ.symm] at zh
  obtain ⟨O, hO⟩ : ∃ O, O = bvs c.ah := ⟨_, rfl⟩
  obtain ⟨D, hD⟩ : ∃ D, D = bvs c.hd := ⟨_, rfl⟩
  have hSt : ∀ W : World, (storeH (.pointer (some ⟨W.heap.size, 0, none⟩)) (.agg O)).run Tryd.prog (W.alloc (.cells Z 69)) = .ok () (W.alloc (.cells O 69)) := fun W => by
    have := storeH_new W c.ah zero32 ok.lan (by decide)
    rw [← hO, show bvs zero32 = Z from hZ.symm] at this
    exact this
  have heq : ∀ W, (Op.equalIn 10000 69 (.agg O) (.agg O)).run Tryd.prog W = .ok true W := fun W => by
    rw [hO, hash_eq (a := c.ah) (b := c.ah) ⟨rfl, ok.lan⟩ ⟨rfl, ok.lan⟩]
    simp
  have heq2 : ∀ W, (Op.equalIn 10000 69 (.agg D) (.agg D)).run Tryd.prog W = .ok true W := fun W => by
    rw [hD, hash_eq (a := c.hd) (b := c.hd) ⟨rfl, ok.lh⟩ ⟨rfl, ok.lh⟩]
    simp
  have HO := hid hO
  have HD := hid hD
  have hfew := ok.few
  clear h hr ok hc hT hZ hO hD
  obtain ⟨n, hn⟩ : ∃ n, n = c.ev.length := ⟨_, rfl⟩
  rw [← hn] at hfew
  have Hn := hid hn
  clear hn
  go_enter Tryd.func14, Tryd.ntmps14
  go_wp2_with (first
    | (go_at_call 24; refine (events_any (HC.out w (Below.refl _ _)) OK.out).mono ?_; rintro e w1 ⟨a1, c1, rfl, ho1, hb1⟩; rw [← Hn.out] at ho1 ⊢; have Ho1 := hid ho1; have Hb1 := hid hb1; clear ho1 hb1)
    | (go_at_call 48; refine (rEvents_any (HR.out w1 Hb1.out) OK.out).mono ?_; rintro e w2 ⟨a2, c2, rfl, ho2, hb2⟩; rw [← Hn.out] at ho2 ⊢; have Ho2 := hid ho2; have Hb2 := hid (Below.on' Hb1.out hb2); have Hb21 := hid hb2; clear ho2 hb2)
    | (go_at_call 49; refine (anchored_any (HC.out w2 Hb2.out) OK.out.l).mono ?_; rintro e w3 ⟨rfl, hb3⟩; rw [← HO.out]; have Hb3 := hid (Below.on' Hb2.out hb3); have Hb32 := hid hb3; have ha3 : Below w3.heap.size w3 (w3.alloc (.cells O 69)) := ((Below.refl _ w3).alloc (Nat.le_refl _) _); have Ha3 := hid ha3; have X3 : Hid ((w3.alloc (.cells O 69)).heap[w3.heap.size]? = some (.cells O 69 (0, 0))) := heap_alloc_new w3 _; clear hb3 ha3)
    | (go_at_call 50; refine (rAnchored_any (HR.out _ (Below.on' Hb3.out Ha3.out)) OK.out.l).mono ?_; rintro e w4 ⟨rfl, hb4⟩; rw [← HO.out]; have Hb4 := hid (Below.on' (Below.on' Hb3.out Ha3.out) hb4); have Hb43 := hid hb4; have ha4 : Below w4.heap.size w4 (w4.alloc (.cells O 69)) := ((Below.refl _ w4).alloc (Nat.le_refl _) _); have Ha4 := hid ha4; have y1 := (ha4.block _ (heap_lt ((hb4.block _ (heap_lt X3.out)).trans X3.out))).trans ((hb4.block _ (heap_lt X3.out)).trans X3.out); have y2 : (w4.alloc (.cells O 69)).heap[w4.heap.size]? = some (.cells O 69 (0, 0)) := heap_alloc_new w4 _; have hL1 : (loadH (.pointer (some ⟨w3.heap.size, 0, none⟩))).run Tryd.prog (w4.alloc (.cells O 69)) = .ok (.agg O) (w4.alloc (.cells O 69)) := loadH_run (l := c.ah) ⟨HO.out, OK.out.lan⟩ y1; have hL2 : (loadH (.pointer (some ⟨w4.heap.size, 0, none⟩))).run Tryd.prog (w4.alloc (.cells O 69)) = .ok (.agg O) (w4.alloc (.cells O 69)) := loadH_run (l := c.ah) ⟨HO.out, OK.out.lan⟩ y2; clear hb4 ha4 y1 y2)
    | (go_at_call 30; refine (head_any (HC.out _ (Below.on' Hb4.out Ha4.out)) OK.out.l).mono ?_; rintro e w5 ⟨rfl, hb5⟩; rw [← HD.out]; have Hb5 := hid (Below.on' (Below.on' Hb4.out Ha4.out) hb5); have Hb54 := hid hb5; clear hb5)
    | (go_at_call 51; refine (rHead_any (HR.out _ Hb5.out) OK.out.l).mono ?_; rintro e w6 ⟨rfl, hb6⟩; rw [← HD.out]; have Hb6 := hid (Below.on' Hb5.out hb6); have Hb65 := hid hb6; clear hb6)
    | (go_at_call 23; refine (count_any (HC.out _ Hb6.out) OK.out Hc.out).mono ?_; rintro e w7 ⟨rfl, hb7⟩; have Hb7 := hid (Below.on' Hb6.out hb7); have Hb76 := hid hb7; clear hb7)
    | (go_at_call 52; refine (rCount_any (HR.out _ Hb7.out) OK.out Hc.out).mono ?_; rintro e w8 ⟨rfl, hb8⟩; have Hb8 := hid (Below.on' Hb7.out hb8); have Hb87 := hid hb8; clear hb8))
  have s1 : Hid (Below w1.heap.size w1 w8) := Below.on' (Below.on' (Below.on' (Below.on' (Below.on' (Below.on' (Below.on' (Below.on' Hb21.out Hb32.out) Ha3.out) Hb43.out) Ha4.out) Hb54.out) Hb65.out) Hb76.out) Hb87.out
  have s2 : Hid (Below w2.heap.size w2 w8) := Below.on' (Below.on' (Below.on' (Below.on' (Below.on' (Below.on' (Below.on' Hb32.out Ha3.out) Hb43.out) Ha4.out) Hb54.out) Hb65.out) Hb76.out) Hb87.out
  have P1 := hid (Ho1.out.onB s1.out)
  have P2 := hid (Ho2.out.onB s2.out)
  clear hL1 hL2 X3 Ho1 Ho2 Hb1 Hb2 Hb21 Hb3 Hb32 Hb4 Hb43 Ha3 Ha4 Hb5 Hb54 Hb6 Hb65 Hb7 Hb76 Hb87 s1 s2
  go_loopw [11] (fun i wr => ∃ k : Nat, k ≤ n ∧ i = .int .i64 (k : Int) ∧ Below w8.heap.size w8 wr) (fun i _ => n - (intOf i).toNat)
  case atStart => exact ⟨0, Nat.zero_le _, rfl, Below.refl _ _⟩
  case round =>
    obtain ⟨k, hk, rfl, hbel⟩ := hrel
    have Hbel := hid hbel
    clear hbel
    by_cases hlt : k < n
    · have g1 : decide ((k : Int) < (n : Int)) = true := by simp; omega
      obtain ⟨b1, rfl, q1⟩ := ev_four (P1.out.onB Hbel.out) Hn.out (by omega)
      obtain ⟨b2, rfl, q2⟩ := ev_four (P2.out.onB Hbel.out) Hn.out (by omega)
      have hlt2 : k < c.ev.length := by have := Hn.out; omega
      obtain ⟨d0, d1, d2, d3⟩ := q1 k hlt2
      obtain ⟨f0, f1, f2, f3⟩ := q2 k hlt2
      generalize (c.ev[k]'hlt2) = e at *
      clear q1 q2 hlt2
      go_wp2
      go_quiet (fail)
      go_wp2
      go_roundw
      case rel => exact ⟨k + 1, by omega, by go_num, Hbel.out.trans (below_drewN _ _ _)⟩
      case measure => simp [intOf]; omega
    · have g1 : decide ((k : Int) < (n : Int)) = false := by simp; omega
      have hbw : Below w.heap.size w wr := Below.on' Hb8.out Hbel.out
      have Hbw := hid hbw
      clear hbw
      have hBr : B ≤ wr.heap.size := Nat.le_trans hB Hbw.out.size
      go_wp2_with (first
        | (go_at_call 10; refine (rows_x (HC.out _ Hbw.out) OK.out Hc.out (HT.out _ Hbw.out) hBr).mono ?_; rintro e wA ⟨vA, rsA, rfl, hoA, hiA, hbA⟩; have HoA := hid hoA; have HiA := hid hiA; have HbA := hid hbA; clear hoA hiA hbA)
        | (go_at_call 53; refine (rRows_x (HR.out _ (Below.on' Hbw.out HbA.out)) OK.out Hc.out).mono ?_; rintro e wB ⟨vB, rsB, rfl, hoB, hiB, hbB⟩; have HoB := hid hoB; have HiB := hid hiB; have HbB := hid hbB; clear hoB hiB hbB)
        | (go_at_call 9; refine (Xr.sameRows_any (own_onW HoA.out HbB.out) HoB.out (HiA.out.below HbB.out) HiB.out (by rw [rowsX_len]; have := OK.out.few; omega) (rowsX_cols c)).mono ?_; rintro e wC ⟨rfl, hbC⟩; have HbC := hid (Below.on' (Below.on' HbA.out HbB.out) hbC); clear hbC))
      go_ret
      exact ⟨rfl, Below.on' Hbw.out HbC.out⟩
end Go.Proofs.YthfmpebgmojcaaaDoor
