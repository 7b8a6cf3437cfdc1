/- What is sealed is opened as it was; the laws' own look: live, of the laws on sealed texts. -/
import Derived.Test.YtkgengiopjjhbaaDoorEOpen
import Derived.Test.YtkgengiopjjhbaaDoorHEval
import Derived.Lib.SlBytesConst
import Derived.Deep.RegionLaw
namespace Go.Proofs.YtkgengiopjjhbaaDoor
open Go.RowKit Go.Shelf
set_option linter.unusedVariables false
set_option maxRecDepth 20000

theorem seal_take (key : List UInt8) (once : Nat) (plain : List UInt8) : (sealB key once plain).take ((sealB key once plain).length - 16) = headB key once plain := by
  have h1 := sealB_len key once plain
  have h2 := headB_len key once plain
  rw [h1]
  unfold sealB
  rw [List.take_append_of_le_length (by omega), List.take_of_length_le (by omega)]
theorem seal_drop (key : List UInt8) (once : Nat) (plain : List UInt8) : (sealB key once plain).drop ((sealB key once plain).length - 16) = tagB key (headB key once plain) := by
  have h1 := sealB_len key once plain
  have h2 := headB_len key once plain
  rw [h1]
  unfold sealB
  rw [show plain.length + 24 - 16 = (headB key once plain).length by omega, List.drop_left]
theorem seal_eight (key : List UInt8) (once : Nat) (plain : List UInt8) : (sealB key once plain).take 8 = be8 once := by
  unfold sealB headB
  rw [List.append_assoc, List.take_append_of_le_length (by rw [be8_length]; omega), List.take_of_length_le (by rw [be8_length]; omega)]
theorem head_drop (key : List UInt8) (once : Nat) (plain : List UInt8) : (headB key once plain).drop 8 = cross key once plain := by
  unfold headB
  rw [show 8 = (be8 once).length from rfl, List.drop_left]
theorem own_some {w : World} {B e : Nat} {v : Value} {n : Nat} {l : List UInt8} (h : w.ownsRow B e 1 v n (cellsOf l)) (h0 : 0 < l.length) : ∃ g cap, v = .slice (some ⟨g, 0, none⟩) l.length cap ∧ Bytes w (some ⟨g, 0, none⟩) l ∧ l.length ≤ cap ∧ B ≤ g := by
  obtain ⟨a, cap, rfl, h1, h2⟩ := bytes_of_own h
  rcases h.2 with ⟨h3, _⟩ | ⟨g, c, cur, h3, hB, _⟩
  · simp at h3; omega
  · simp at h3
    obtain ⟨rfl, _, _⟩ := h3
    exact ⟨g, cap, rfl, h1, h2, hB⟩
theorem conv_own {w : World} {B : Nat} {v : Value} {n : Nat} {l : List UInt8} (h : w.ownsRow B 5 1 v n (cellsOf l)) (h0 : 0 < l.length) : (convert 24 9 v).run Tryd.prog w = .ok (.string ⟨l.toArray⟩) w := by
  obtain ⟨a, cap, rfl, hB, hc⟩ := bytes_of_own h
  obtain ⟨b, o, rfl, _⟩ := hB 0 h0
  exact run_convert_bytes_back (P := Tryd.prog) w 24 9 5 ⟨b, o, none⟩ cap l Tryd.underlying24 Tryd.underlying5 Tryd.underlying9 (fun j hj => by
    obtain ⟨b', o', e', hcl⟩ := hB j hj
    cases e'
    rw [Addr.add_mid, hcl])
/-- what was sealed by a key is opened by it -/
theorem open_sealed {w : World} {K : Array Value} {key : List UInt8} (hK : HV K key) (once : Nat) (ho : once < 2 ^ 64) (plain : List UInt8) (hl : plain.length ≤ 1024) (g n cap : Nat) (hn : n = plain.length + 24) (hB : Bytes w (some ⟨g, 0, none⟩) (sealB key once plain)) (hcap : n ≤ cap) (hT : KAt w) :
    Calls Tryd.prog 18 #[.agg K, .slice (some ⟨g, 0, none⟩) n cap] w fun e w' => ∃ v, e = .returned (.tuple #[v, .int .u64 (once : Int), .int .i64 0]) ∧ w'.ownsRow w.heap.size 5 1 v plain.length (cellsOf plain) ∧ Below w.heap.size w w' := by
  have h1 := sealB_len key once plain
  refine (open_any hK (sealB key once plain) g 0 n cap (by omega) hB (by omega) (by omega) hcap hT).mono fun e w' h => ?_
  obtain ⟨v, he, hown⟩ := h.right (by rw [seal_take, seal_drop])
  rw [seal_take, seal_eight, numB_be8 once ho, head_drop, cross_back] at hown
  rw [seal_eight, numB_be8 once ho] at he
  exact ⟨v, he, hown, h.below⟩

theorem bytes_fr (l : List UInt8) (t : TypeId) {w : World} {g : Nat} {fr : Nat × Nat} (hg : w.heap[g]? = some (.cells (cellsOf l).toArray t fr)) : Bytes w (some ⟨g, 0, none⟩) l := fun i hi =>
  ⟨g, 0, rfl, by rw [Nat.zero_add]; simp [World.cell?, hg, cellsOf, hi]⟩
theorem heap_alloc_fr (w : World) (o : Obj) : (w.alloc o).heap[w.heap.size]? = some o := heap_alloc_last w o
/-- the keys of live -/
def key1 : List UInt8 := [1, 0, 0, 0, 0, 0, 0, 0, 0, 0, 0, 0, 0, 0, 0, 0, 0, 0, 0, 0, 0, 0, 0, 0, 0, 0, 0, 0, 0, 0, 0, 0]
def key2 : List UInt8 := [2, 0, 0, 0, 0, 0, 0, 0, 0, 0, 0, 0, 0, 0, 0, 0, 0, 0, 0, 0, 0, 0, 0, 0, 0, 0, 0, 0, 0, 0, 0, 0]
theorem other_tag : tagB key1 (headB key1 7 [97, 98]) ≠ tagB key2 (headB key1 7 [97, 98]) := by decide +kernel
theorem open_other {w : World} {K : Array Value} (hK : HV K key2) (g cap : Nat) (hB : Bytes w (some ⟨g, 0, none⟩) (sealB key1 7 [97, 98])) (hcap : 26 ≤ cap) (hT : KAt w) :
    Calls Tryd.prog 18 #[.agg K, .slice (some ⟨g, 0, none⟩) 26 cap] w fun e w' => e = .returned (.tuple #[.slice none 0 0, .int .u64 0, .int .i64 10]) ∧ Below w.heap.size w w' := by
  have h1 : (sealB key1 7 [97, 98]).length = 26 := sealB_len key1 7 [97, 98]
  refine (open_any hK (sealB key1 7 [97, 98]) g 0 26 cap h1.symm hB (by omega) (by omega) hcap hT).mono fun e w' h => ?_
  exact ⟨h.wrong (by rw [seal_take, seal_drop]; exact other_tag), h.below⟩

end Go.Proofs.YtkgengiopjjhbaaDoor
