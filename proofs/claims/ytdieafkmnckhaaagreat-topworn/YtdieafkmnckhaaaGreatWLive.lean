/- YtdieafkmnckhaaaGreatWDeed + YtdieafkmnckhaaaGreatWLive -/
import Derived.Test.YtdieafkmnckhaaaGreatWCommit2
import Derived.Maps.AppendAt
/- The pages of a deed, by a contract. -/
namespace Go.Proofs.YtdieafkmnckhaaaGreat
open Go.RowKit Go.Maps
set_option linter.unusedVariables false
set_option maxRecDepth 20000
attribute [local go_sem ↓] Go.wp_at_zero Go.wp_at_succ

/-- whole numbers that lie in a row of the world -/
def IntsAt (w : World) (a : Option Addr) (l : List Int) : Prop := ∀ i (h : i < l.length), ∃ b o, a = some ⟨b, o, none⟩ ∧ w.cell? ⟨b, o + i, none⟩ = some (.int .i64 l[i])
theorem IntsAt.below {w w' : World} {a : Option Addr} {l : List Int} (h : IntsAt w a l) (hb : Below w.heap.size w w') : IntsAt w' a l := fun i hi => by
  obtain ⟨b, o, ha, hc⟩ := h i hi
  exact ⟨b, o, ha, (hb.cell (World.block_lt_of_cell? _ _ hc)).trans hc⟩

/-- how many bytes the page at a place of a deed has -/
def lenOf (sh : Bool) (i : Nat) : Nat := if sh = true ∧ i = 0 then 255 else 256
/-- A deed's pages, k of them, in memory from block H on. -/
structure DeedPgs (w : World) (H : Nat) (q : List Int) (sh : Bool) (y : UInt8) (l : List PgV) : Prop where
  nums : ∀ i (h : i < l.length), ∃ h' : i < q.length, l[i].1 = q[i]
  len : ∀ i (h : i < l.length), l[i].2.2.1 = lenOf sh i
  bytes : ∀ i (h : i < l.length), ∃ b, l[i].2.1 = some ⟨b, 0, none⟩ ∧ H ≤ b ∧ b < w.heap.size ∧ Bytes w (some ⟨b, 0, none⟩) (List.replicate (lenOf sh i) (y + UInt8.ofNat i))
theorem DeedPgs.keep {w w' : World} {H : Nat} {q : List Int} {sh : Bool} {y : UInt8} {l : List PgV} (h : DeedPgs w H q sh y l) (hs : w.heap.size ≤ w'.heap.size) (hk : ∀ k, H ≤ k → k < w.heap.size → (∃ p ∈ l, ∃ o, p.2.1 = some ⟨k, o, none⟩) → w'.heap[k]? = w.heap[k]?) : DeedPgs w' H q sh y l :=
  ⟨h.nums, h.len, fun i hi => by
    obtain ⟨b, h1, h2, h3, h4⟩ := h.bytes i hi
    exact ⟨b, h1, h2, by omega, h4.keep (hk b h2 h3 ⟨_, List.getElem_mem hi, 0, h1⟩)⟩⟩
theorem DeedPgs.below {w w' : World} {H : Nat} {q : List Int} {sh : Bool} {y : UInt8} {l : List PgV} (h : DeedPgs w H q sh y l) (hb : Below w.heap.size w w') : DeedPgs w' H q sh y l := h.keep hb.size fun k _ hk _ => hb.block k hk

theorem byte_add (y : UInt8) (i : Nat) : ((y.toNat : Int) + (i : Int)) % 256 = (((y + UInt8.ofNat i).toNat : Nat) : Int) := by
  rw [UInt8.toNat_add, UInt8.toNat_ofNat']
  omega
/-- what pages tells -/
def DPost (q : List Int) (sh : Bool) (y : UInt8) (w : World) (e : Ending) (w' : World) : Prop :=
  ∃ v l, e = .returned v ∧ l.length = min q.length 102 ∧ DeedPgs w' w.heap.size q sh y l ∧ w'.ownsRow w.heap.size 137 2 v l.length (pgCells l) ∧ (∀ k, v.ownBlock = some k → ∀ p ∈ l, ∀ o, p.2.1 ≠ some ⟨k, o, none⟩) ∧ Below w.heap.size w w'
theorem pgCells_snoc (l : List PgV) (p : PgV) : pgCells (l ++ [p]) = pgCells l ++ encPg p := by unfold pgCells; rw [List.flatMap_append]; simp
theorem Bytes.pre {w : World} {b o : Nat} {n m : Nat} {x : UInt8} (h : Bytes w (some ⟨b, o, none⟩) (List.replicate n x)) (hm : m ≤ n) : Bytes w (some ⟨b, o, none⟩) (List.replicate m x) := fun i hi => by
  rw [List.length_replicate] at hi
  obtain ⟨b', o', e, hc⟩ := h i (by rw [List.length_replicate]; omega)
  refine ⟨b', o', e, ?_⟩
  rw [hc, List.getElem_replicate, List.getElem_replicate]
end Go.Proofs.YtdieafkmnckhaaaGreat

/- live of the laws of layer 3: it tells true. -/

namespace Go.Proofs.YtdieafkmnckhaaaGreat
open Go.RowKit Go.Maps
set_option linter.unusedVariables false
set_option maxRecDepth 20000

theorem pgs_of_row {w : World} {B g c : Nat} {l : List PgV} (h : w.ownsRow B 137 2 (.slice (some ⟨g, 0, none⟩) l.length c) l.length (pgCells l)) : PgsAt w g 0 l := fun i hi => by
  have h0 := h.cellAt (i * 2 + 0) (by omega)
  have h1 := h.cellAt (i * 2 + 1) (by omega)
  rw [pgCells_get l i hi 0 (by omega)] at h0
  rw [pgCells_get l i hi 1 (by omega)] at h1
  rw [Nat.zero_add]
  exact ⟨h0, h1⟩
/-- the bytes of a deed's page -/
theorem DeedPgs.at {w : World} {H : Nat} {q : List Int} {sh : Bool} {y : UInt8} {l : List PgV} (h : DeedPgs w H q sh y l) (i : Nat) (hi : i < l.length) : bytesAt w l[i] = List.replicate (lenOf sh i) (y + UInt8.ofNat i) := by
  obtain ⟨b, hb, _, _, hB⟩ := h.bytes i hi
  have hL := h.len i hi
  have e : l[i] = (l[i].1, some ⟨b, 0, none⟩, (List.replicate (lenOf sh i) (y + UInt8.ofNat i)).length, l[i].2.2.2) := by
    rw [List.length_replicate, ← hL, ← hb]
  rw [e]
  exact bytesAt_eq hB
theorem DeedPgs.ok {w : World} {H : Nat} {q : List Int} {sh : Bool} {y : UInt8} {l : List PgV} {F : Nat → Prop} (h : DeedPgs w H q sh y l) (hF : ∀ k, F k → k < H) : ∀ p ∈ l, p.2.2.1 = 256 → PgOk w F p := fun p hp h256 => by
  obtain ⟨i, hi, rfl⟩ := List.getElem_of_mem hp
  obtain ⟨b, hb, hH, hlt, hB⟩ := h.bytes i hi
  exact ⟨b, 0, hb, h256, by rw [h.at i hi]; exact hB, fun hf => by have := hF b hf; omega, hlt⟩
theorem chOf_fst (fs : List (List UInt8)) (ls : List (Nat × List UInt8)) : (chOf fs ls).map (·.1) = ls.map (·.1) := by
  induction ls generalizing fs with
  | nil => rfl
  | cons c ls ih => show c.1 :: _ = c.1 :: _; rw [ih]

end Go.Proofs.YtdieafkmnckhaaaGreat
