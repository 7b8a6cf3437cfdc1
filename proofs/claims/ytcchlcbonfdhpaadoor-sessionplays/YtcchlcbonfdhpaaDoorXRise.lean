/- The keys of a table's rows rise; so the reference's Rows are the program's. -/
import Derived.Test.YtcchlcbonfdhpaaDoorXSort
import Derived.Test.YtcchlcbonfdhpaaDoorXRef
namespace Go.Proofs.YtcchlcbonfdhpaaDoor
open Go.RowKit Go.Maps Go.Sort Go.Shelf
open Go.Op (bytesLess)
set_option linter.unusedVariables false
set_option maxRecDepth 20000
theorem txt_list (n : Nat) : (txt n).toList = numT n := by
  rw [Lib.toList_data]
  rfl
theorem head_less (n : Nat) (h : n ≤ 4611686018427387904) : bytesLess [35] (numT n) = true := by
  unfold numT
  split
  · decide
  · rename_i h0
    have hl := log_le n h0 h
    have h1 : (35 : UInt8) < letr (n.log2 / 4) := by
      rw [UInt8.lt_iff_toNat_lt, letr_toNat _ hl]
      show 35 < _
      omega
    simp [bytesLess, h1]
theorem keys_rise {T : Tab} (ok : TabOk T) : ∀ k (h : k + 1 < (rowsM T).length), bytesLess (rowsM T)[k].key.toList (rowsM T)[k + 1].key.toList = true := by
  intro k h
  unfold rowsM at h ⊢
  cases k with
  | zero =>
    have h0 : 0 < T.l.length := by simpa using h
    simp only [List.getElem_cons_zero, List.getElem_cons_succ, List.getElem_map, sesRow]
    rw [txt_list, Lib.toList_data]
    have := ok.id1 T.l[0] (List.getElem_mem h0)
    exact head_less _ (by omega)
  | succ k =>
    have h0 : k + 1 < T.l.length := by simpa using h
    simp only [List.getElem_cons_succ, List.getElem_map, sesRow]
    rw [txt_list, txt_list]
    have h1 := ok.id1 T.l[k] (List.getElem_mem (by omega))
    have h2 := ok.id1 T.l[k + 1] (List.getElem_mem h0)
    have h3 := List.pairwise_iff_getElem.1 ok.up k (k + 1) (by omega) h0 (by omega)
    rw [numT_less _ _ (by omega) (by omega)]
    exact decide_eq_true (by omega)
theorem rise_of {w : World} {rs : List RC} {m : List Rw} (hi : RowsIs w rs m) (h : ∀ k (h : k + 1 < m.length), bytesLess m[k].key.toList m[k + 1].key.toList = true) : ∀ k (h : k + 1 < rs.length), bytesLess rs[k].key.toList rs[k + 1].key.toList = true := by
  intro k hk
  have hl := hi.length
  rw [(hi.get k (by omega) (by omega)).1, (hi.get (k + 1) hk (by omega)).1]
  exact h k (by omega)
theorem rRows_all {w : World} {B r : Nat} {a : Option Addr} {cap : Nat} {T : Tab} (h : RTab w B r a cap T) (ok : TabOk T) (hl : T.l.length ≤ 1000000) (hl2 : T.l.length < 1000000) :
    Calls Tryd.prog 12 #[.pointer (some ⟨r, 0, none⟩)] w (RowsPost w (rowsM T)) :=
  rRows_any h ok hl fun V v rs ho hi => sorted_any ho hi (by have h1 := hi.length; unfold rowsM at h1; simp at h1; omega) (rise_of hi (keys_rise ok))
end Go.Proofs.YtcchlcbonfdhpaaDoor
