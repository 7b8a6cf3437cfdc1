/- Bytes appended from whatever slice; Copy and SameBytes of the reference (for the laws on sealed texts). -/
import Derived.Test.YthnciogaibhmcaaDoorHChain
import Derived.Laws.AppendOwnNone
import Derived.Stop.BytesEq
namespace Go.Proofs.YthnciogaibhmcaaDoor
open Go.RowKit
set_option linter.unusedVariables false
set_option maxRecDepth 20000
set_option maxRecDepth 20000

/-- loading a hash, kept whole in the walk -/
def loadH (x : Value) : Sem Value := Instr.loadAt 49 x
theorem loadH_fold (x : Value) : Instr.loadAt 49 x = loadH x := rfl
theorem loadH_run {w : World} {g : Nat} {O : Array Value} {l : List UInt8} (hO : HV O l) (hg : w.heap[g]? = some (.cells O 49 (0, 0))) : (loadH (.pointer (some ⟨g, 0, none⟩))).run Tryd.prog w = .ok (.agg O) w := by
  have h := run_loadAt_mid (P := Tryd.prog) w g 0 49 O.toList _ (fun j v hj => by rw [Nat.zero_add, cell_of_row _ _ _ _ _ _ hg, ← hj, Array.getElem?_toList]) Tryd.underlying49 rfl (by rw [Array.length_toList]; exact hO.info)
  rw [Array.toArray_toList] at h
  exact h
theorem sizeOf_u8 (w : World) : (sizeOf 5).run Tryd.prog w = .ok 1 w := by
  have h : Tryd.t5.size = 1 := by kernel_rfl
  simp [sizeOf, h]
/-- two hashes compared by == -/
theorem hash_eq {A B : Array Value} {a b : List UInt8} (hA : HV A a) (hB : HV B b) (w : World) : (Op.equalIn 10000 49 (.agg A) (.agg B)).run Tryd.prog w = .ok (a == b) w := by
  rw [hA.eq, hB.eq]
  exact run_equalIn_bytes (P := Tryd.prog) w 9998 49 5 32 Tryd.underlying49 Tryd.underlying5 sizeOf_u8 a b hA.len hB.len
theorem hash_same {A B : Array Value} {a : List UInt8} (hA : HV A a) (hB : HV B a) (w : World) : (Op.equalIn 10000 49 (.agg A) (.agg B)).run Tryd.prog w = .ok true w := by
  rw [hash_eq hA hB, beq_self_eq_true]
/-- append(v, src...) where v is the call's own, src whatever bytes -/
theorem app_src (w : World) {ops : Array Oper} {rest : List Oper} {o : Oper} {a : Act} {Q : Exit → Act → World → Prop} (hgd : o.guard = none) (s x : Operand)
    (ho : o.op = .call { callee := .builtin .append, args := #[s, x], argTypes := #[84, 84] }) (base : Nat) (v : Value) (xs : List UInt8) (hs : a.eval s = v)
    (hown : w.ownsRow base 5 1 v xs.length (cellsOf xs)) (ad : Option Addr) (n c : Nat) (news : List UInt8) (hn : n = news.length) (hx : a.eval x = .slice ad n c) (hB : Bytes w ad news) (hc : ad = none → c = 0)
    (hb : xs.length + news.length ≤ 140737488355328) (hbase : base ≤ w.heap.size)
    (h : ∀ v' w', w'.ownsRow base 5 1 v' (xs ++ news).length (cellsOf (xs ++ news)) → Below base w w' → wpList Tryd.prog ops Q rest (a.put o.dst v') w') :
    wpList Tryd.prog ops Q (o :: rest) a w := by
  cases ad with
  | none =>
    obtain ⟨i0, hi, hz0, hz1, hz2⟩ := info_parts Tryd.info5
    have hl : news = [] := by
      cases news with
      | nil => rfl
      | cons c x => obtain ⟨b, o, e, _⟩ := hB 0 (by simp); cases e
    subst hl
    have h0 : n = 0 := hn
    subst h0
    rw [hc rfl] at hx
    refine wpList_append_own_none hgd s x 84 ho base 5 i0 1 Tryd.underlying84 hi v xs.length (cellsOf xs) hs hown hx ?_
    refine h v w ?_ (Below.refl _ w)
    rw [List.append_nil]
    exact hown
  | some ad =>
    refine app_bytes w hgd s x ho base v xs hs hown ad n c news hn.symm hx (fun j hj => ?_) (by rw [hn]; exact hb) hbase (fun v' w' h1 h2 _ => h v' w' h1 h2)
    obtain ⟨b, o, e, hcl⟩ := hB j hj
    cases e
    rw [addr_add]
    exact hcl

theorem below_drewN (B : Nat) (w : World) (n : Nat) : Below B w (w.drewN n) := ⟨rfl, rfl, rfl, Nat.le_refl _, fun _ _ => rfl⟩

end Go.Proofs.YthnciogaibhmcaaDoor
