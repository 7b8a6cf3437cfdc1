/- codec.Columns and the column that bytes begin with, each by a contract. -/
import Derived.Test.YtgjahhfpfdgjhaaDoorRow
import Derived.Test.YtgjahhfpfdgjhaaDoorLive
namespace Go.Proofs.YtgjahhfpfdgjhaaDoor
open Go.RowKit
set_option linter.unusedVariables false

/-- where s[l:] begins -/
def cutAt (a : Option Addr) (cap l : Nat) : Option Addr := if cap = l then a else a.map (fun x => x.add l)

theorem Bytes.cut {w : World} {a : Option Addr} {x : List UInt8} (h : Bytes w a x) {cap : Nat} (hc : x.length ≤ cap) (l : Nat) : Bytes w (cutAt a cap l) (x.drop l) := fun i hi => by
  rw [List.length_drop] at hi
  obtain ⟨b, o, rfl, hcell⟩ := h (l + i) (by omega)
  refine ⟨b, o + l, ?_, ?_⟩
  · unfold cutAt
    rw [if_neg (by omega)]
    simp [addr_add]
  · rw [List.getElem_drop, ← hcell, Nat.add_assoc]
theorem Bytes.head {w : World} {a : Option Addr} {x : List UInt8} (h : Bytes w a x) (n : Nat) : Bytes w a (x.take n) := fun i hi => by
  rw [List.length_take] at hi
  obtain ⟨b, o, e, hc⟩ := h i (by omega)
  exact ⟨b, o, e, by rw [hc, List.getElem_take]⟩

/-- s[l:h] of bytes -/
theorem slice_lh (a : Option Addr) (len cap : Nat) (L H : Int) (l h n m : Nat) (hL : L = l) (hH : H = h) (hn : h - l = n) (hm : cap - l = m) (h1 : l ≤ h) (h2 : h ≤ cap) (W : World) :
    (Instr.slice 23 (.slice a len cap) (some (.int .i64 L)) (some (.int .i64 H)) none).run Tryd.prog W = .ok (.slice (cutAt a cap l) n m) W := by
  subst hL
  subst hH
  subst hn
  subst hm
  have he : Tryd.prog.elem 23 = 5 := by kernel_rfl
  have hz : (sizeOf (Tryd.prog.elem 23)).run Tryd.prog W = .ok 1 W := by rw [he]; kernel_rfl
  rw [run_slice_lh W 23 a len cap (by rw [he]; exact Tryd.underlying23) .i64 .i64 (l : Int) (h : Int) (by omega) (by omega) (by omega), hz]
  simp only [Result.andThen, sliced, Int.toNat_natCast, Nat.mul_one]
  rfl
/-- s[l:] of bytes -/
theorem slice_l (a : Option Addr) (len cap : Nat) (L : Int) (l n m : Nat) (hL : L = l) (hn : len - l = n) (hm : cap - l = m) (h1 : l ≤ len) (W : World) :
    (Instr.slice 23 (.slice a len cap) (some (.int .i64 L)) none none).run Tryd.prog W = .ok (.slice (cutAt a cap l) n m) W := by
  subst hL
  subst hn
  subst hm
  have he : Tryd.prog.elem 23 = 5 := by kernel_rfl
  have hz : (sizeOf (Tryd.prog.elem 23)).run Tryd.prog W = .ok 1 W := by rw [he]; kernel_rfl
  rw [run_slice_l W 23 a len cap (by rw [he]; exact Tryd.underlying23) .i64 (l : Int) (by omega) (by omega), hz]
  simp only [Result.andThen, sliced, Int.toNat_natCast, Nat.mul_one]
  rfl

/-- string(b) -/
theorem conv_all (w : World) (a : Option Addr) (cap : Nat) (l : List UInt8) (h : Bytes w a l) :
    (convert 23 9 (.slice a l.length cap)).run Tryd.prog w = .ok (.string ⟨l.toArray⟩) w := by
  by_cases h0 : 0 < l.length
  · exact conv_bytes w a cap l h h0
  · have : l = [] := List.length_eq_zero_iff.1 (by omega)
    subst this
    cases a with
    | none =>
      rw [run_convert_bytes_string w 23 9 5 none _ cap Tryd.underlying23 Tryd.underlying5 Tryd.underlying9]
      rfl
    | some x =>
      exact run_convert_bytes_back (P := Tryd.prog) w 23 9 5 x cap [] Tryd.underlying23 Tryd.underlying5 Tryd.underlying9 (fun j hj => by simp at hj)

set_option maxHeartbeats 400000 in
theorem firstColumn_nil (a : Option Addr) (cap : Nat) (w : World) :
    Calls Tryd.prog 37 #[.slice a 0 cap] w fun e w' => e = .returned (.tuple #[.string ⟨#[]⟩, .bool false]) ∧ w' = w := by
  go_enter Tryd.func37, Tryd.ntmps37
  go_wp2
  go_ret2
  exact ⟨rfl, rfl⟩

set_option maxHeartbeats 400000 in
theorem firstColumn_short (d : UInt8) (t : List UInt8) (a : Option Addr) (cap : Nat) (w : World) (hB : Bytes w a (d :: t)) (ht : t.length ≤ 140737488351232) (hd : t.length < d.toNat) :
    Calls Tryd.prog 37 #[.slice a (t.length + 1) cap] w fun e w' => e = .returned (.tuple #[.string ⟨#[]⟩, .bool false]) ∧ w' = w := by
  obtain ⟨b, o, rfl, hc⟩ := hB 0 (by simp)
  simp only [List.getElem_cons_zero, Nat.add_zero] at hc
  clear hB
  have hd8 : d.toNat < 256 := d.toNat_lt
  have h0 : (((t.length : Int) + 1) == 0) = false := by rw [beq_eq_false_iff_ne]; omega
  have h1 : decide ((t.length : Int) < (d.toNat : Int)) = true := by simp; omega
  go_enter Tryd.func37, Tryd.ntmps37
  go_wp2
  go_ret2
  exact ⟨rfl, rfl⟩

set_option maxHeartbeats 400000 in
theorem firstColumn_ok (d : UInt8) (t : List UInt8) (a : Option Addr) (cap : Nat) (w : World) (hB : Bytes w a (d :: t)) (ht : t.length ≤ 140737488351232) (hcap : t.length + 1 ≤ cap) (hd : d.toNat ≤ t.length) :
    Calls Tryd.prog 37 #[.slice a (t.length + 1) cap] w fun e w' => e = .returned (.tuple #[.string ⟨(t.take d.toNat).toArray⟩, .bool true]) ∧ w' = w := by
  have HB := hid hB
  obtain ⟨b, o, rfl, hc⟩ := hB 0 (by simp)
  simp only [List.getElem_cons_zero, Nat.add_zero] at hc
  clear hB
  have hd8 : d.toNat < 256 := d.toNat_lt
  have h0 : (((t.length : Int) + 1) == 0) = false := by rw [beq_eq_false_iff_ne]; omega
  have h1 : decide ((t.length : Int) < (d.toNat : Int)) = false := by simp; omega
  have hsl := slice_lh (some ⟨b, o, none⟩) (t.length + 1) cap 1 (1 + (d.toNat : Int)) 1 (1 + d.toNat) d.toNat (cap - 1) rfl (by omega) (by omega) rfl (by omega) (by omega)
  have hcv := conv_all w (cutAt (some ⟨b, o, none⟩) cap 1) (cap - 1) (t.take d.toNat) (by
    have := (HB.out.cut (cap := cap) (by simpa using hcap) 1).head d.toNat
    simpa using this)
  rw [show (t.take d.toNat).length = d.toNat by rw [List.length_take]; omega] at hcv
  generalize cutAt (some ⟨b, o, none⟩) cap 1 = a1 at hsl hcv
  go_enter Tryd.func37, Tryd.ntmps37
  go_wp2
  go_ret2
  exact ⟨rfl, rfl⟩
end Go.Proofs.YtgjahhfpfdgjhaaDoor
