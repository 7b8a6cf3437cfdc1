/- The tag of what stands ahead of it: seal.tagOf. -/
import Derived.Test.YtomhcccjeadefaaGreatDoorECross
import Derived.Test.YtomhcccjeadefaaGreatDoorHDerive
namespace Go.Proofs.YtomhcccjeadefaaGreatDoor
open Go.RowKit Go.Shelf
set_option linter.unusedVariables false
set_option maxRecDepth 20000
theorem opAny {P : Program} {o : Oper} {a : Act} {w : World} {K : Act → World → Prop} {Q : Exit → Act → World → Prop} (h : o.wp P a w K (fun e a w => e = .normal)) : o.wp P a w K Q := by
  unfold Oper.wp at *
  generalize (execOp a.eval o).run P w = r at *
  cases r with
  | ok x w' =>
    cases x <;> simp only [Oper.upon] at h ⊢
    case value => exact h
    case skip => exact h
    case defer => exact h
    case enter =>
      refine Calls.mono h fun e w'' he => ?_
      cases e with
      | returned v => exact he
      | panicked c => cases he
      | outgrown => obtain ⟨_, _, he⟩ := he; cases he
    case row r s => exact h
  | halt x w' => cases x <;> simp only [Oper.upon] at h ⊢ <;> first | exact h.elim | cases h
theorem wp_of_list {P : Program} {ops : Array Oper} {o : Oper} {a : Act} {w : World} {K : Act → World → Prop} {Q : Exit → Act → World → Prop} (hg : o.guard = none) (R : Act → World → Prop) (h : wpList P ops (fun e a w => e = .normal ∧ R a w) [o] a w) (h2 : ∀ a w, R a w → K a w) : o.wp P a w K Q := by
  unfold wpList at h
  rw [if_pos (by simp [Region.wanted, hg])] at h
  rcases h with h | ⟨_, h⟩
  · exact opAny (Oper.wp_mono (fun a w h => h2 a w h.2) (opNone h))
  · exact absurd h noOut
theorem zero_tag : (Tryz.prog.info? 112).map (fun i => (i.zero, i.size)) = some (some (.agg (bvs (List.replicate 16 0))), 16) := by kernel_rfl
theorem size_tag : (Tryz.prog.info? 112).map (·.size) = some 16 := by kernel_rfl
structure TV (O : Array Value) (l : List UInt8) : Prop where
  eq : O = bvs l
  len : l.length = 16
theorem TV.size {O : Array Value} {l : List UInt8} (h : TV O l) : O.size = 16 := by rw [h.eq, bvs_size, h.len]
theorem TV.info {O : Array Value} {l : List UInt8} (h : TV O l) : (Tryz.prog.info? 112).map (·.size) = some O.size := by rw [h.size]; exact size_tag
theorem TV.one {O : Array Value} {l : List UInt8} (h : TV O l) : O.all (·.oneCell') = true := by rw [h.eq]; exact bvs_one _
theorem TV.bytes {O : Array Value} {l : List UInt8} (h : TV O l) {w : World} {g : Nat} (hg : w.heap[g]? = some (.cells O 112 (0, 0))) : Bytes w (some ⟨g, 0, none⟩) l := fun i hi =>
  ⟨g, 0, rfl, by rw [Nat.zero_add, cell_of_row _ _ _ _ _ _ hg, h.eq, bvs_get l i hi]⟩
theorem run_load_tag {w : World} {g o : Nat} {l : List UInt8} (hl : l.length = 16) (hB : Bytes w (some ⟨g, o, none⟩) l) : (Instr.loadAt 112 (.pointer (some ⟨g, o, none⟩))).run Tryz.prog w = .ok (.agg (bvs l)) w := by
  have h := run_loadAt_mid (P := Tryz.prog) w g o 112 (cellsOf l) _ (fun j v hj => by
    have hj' : j < l.length := by have := (List.getElem?_eq_some_iff.1 hj).1; simpa [cellsOf_length] using this
    obtain ⟨b', o', e', hcl⟩ := hB j hj'
    cases e'
    rw [cellsOf_get l j hj'] at hj
    rw [hcl, ← hj]) Tryz.underlying112 rfl (by rw [cellsOf_length, hl]; exact size_tag)
  exact h
theorem wpList_load_tag {ops : Array Oper} {rest : List Oper} {o : Oper} {a : Act} {w : World} {Q : Exit → Act → World → Prop} (hgd : o.guard = none) (x : Operand) (ho : o.op = .load 112 x) (g off : Nat) (hx : a.eval x = .pointer (some ⟨g, off, none⟩)) (l : List UInt8) (hl : l.length = 16) (hB : Bytes w (some ⟨g, off, none⟩) l)
    (h : wpList Tryz.prog ops Q rest (a.put o.dst (.agg (bvs l))) w) : wpList Tryz.prog ops Q (o :: rest) a w :=
  wpList_plain hgd fun K hK => by
    unfold Oper.wp execOp
    simp only [ho, hx, Sem.run_bind, run_load_tag hl hB, Result.andThen_ok, Sem.run_pure]
    exact hK _ _ h
theorem Bytes.take {w : World} {a : Option Addr} {l : List UInt8} (h : Bytes w a l) (k : Nat) : Bytes w a (l.take k) := fun i hi => by
  have hi' : i < l.length := by simp at hi; omega
  obtain ⟨b, o, e, hc⟩ := h i hi'
  refine ⟨b, o, e, ?_⟩
  rw [hc, List.getElem_take]
end Go.Proofs.YtomhcccjeadefaaGreatDoor
