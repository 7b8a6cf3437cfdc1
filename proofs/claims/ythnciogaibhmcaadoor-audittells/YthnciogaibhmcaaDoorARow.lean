/- codec.Row by a contract, beside the texts on hashes. -/
import Derived.Test.YthnciogaibhmcaaDoorANum
import Derived.Test.YthnciogaibhmcaaDoorRowMath
import Derived.Lib.AppendStr
namespace Go.Proofs.YthnciogaibhmcaaDoor
open Go.RowKit
set_option linter.unusedVariables false
set_option maxRecDepth 20000
set_option maxRecDepth 20000
/-- texts that lie in a row of the world -/
def Texts (w : World) (a : Option Addr) (l : List ByteArray) : Prop := ∀ i (h : i < l.length), ∃ b o, a = some ⟨b, o, none⟩ ∧ w.cell? ⟨b, o + i, none⟩ = some (.string l[i])
theorem Texts.below {w w' : World} {a : Option Addr} {l : List ByteArray} (h : Texts w a l) (hb : Below w.heap.size w w') : Texts w' a l := fun i hi => by
  obtain ⟨b, o, ha, hc⟩ := h i hi
  exact ⟨b, o, ha, (hb.cell (World.block_lt_of_cell? _ _ hc)).trans hc⟩
def bs (l : List ByteArray) : List (List UInt8) := l.map fun s => s.data.toList

/-- append(v, byte(n)) -/
theorem app_nat (w : World) {ops : Array Oper} {rest : List Oper} {o : Oper} {a : Act} {Q : Exit → Act → World → Prop} (hgd : o.guard = none) (s x : Operand)
    (ho : o.op = .call { callee := .builtin .append, args := #[s, x], argTypes := #[84, 84] }) (base : Nat) (v : Value) (xs : List UInt8) (hs : a.eval s = v)
    (hown : w.ownsRow base 5 1 v xs.length (cellsOf xs)) (n : Nat) (hn : n < 256) (hx : a.eval x = .slice (some ⟨w.heap.size, 0, none⟩) 1 1) (hb : xs.length + 1 ≤ 140737488355328) (hbase : base ≤ w.heap.size)
    (h : ∀ v' w', w'.ownsRow base 5 1 v' (xs ++ [UInt8.ofNat n]).length (cellsOf (xs ++ [UInt8.ofNat n])) → Below base w w' → (0 < (xs ++ [UInt8.ofNat n]).length → ∃ g cap, v' = .slice (some ⟨g, 0, none⟩) (xs ++ [UInt8.ofNat n]).length cap) → wpList Tryd.prog ops Q rest (a.put o.dst v') w') :
    wpList Tryd.prog ops Q (o :: rest) a (w.alloc (.cells #[.int .u8 (n : Int)] 5)) := by
  have e : (#[.int .u8 (n : Int)] : Array Value) = (cellsOf [UInt8.ofNat n]).toArray := by
    simp only [cellsOf, List.map_cons, List.map_nil, UInt8.toNat_ofNat']
    rw [Nat.mod_eq_of_lt (by omega)]
  rw [e]
  exact app_lits w hgd s x ho base v xs hs hown [UInt8.ofNat n] 1 rfl hx hb hbase h

/-- append(v, s...), s a text -/
theorem app_str (w : World) {ops : Array Oper} {rest : List Oper} {o : Oper} {a : Act} {Q : Exit → Act → World → Prop} (hgd : o.guard = none) (sl x : Operand)
    (ho : o.op = .call { callee := .builtin .append, args := #[sl, x], argTypes := #[84, 9] }) (base : Nat) (v : Value) (xs : List UInt8) (hs : a.eval sl = v)
    (hown : w.ownsRow base 5 1 v xs.length (cellsOf xs)) (s : ByteArray) (hx : a.eval x = .string s) (hb : xs.length + s.size ≤ 140737488355328) (hbase : base ≤ w.heap.size)
    (h : ∀ v' w', w'.ownsRow base 5 1 v' (xs ++ s.data.toList).length (cellsOf (xs ++ s.data.toList)) → Below base w w' → (0 < (xs ++ s.data.toList).length → ∃ g cap, v' = .slice (some ⟨g, 0, none⟩) (xs ++ s.data.toList).length cap) → wpList Tryd.prog ops Q rest (a.put o.dst v') w') :
    wpList Tryd.prog ops Q (o :: rest) a w := by
  obtain ⟨i0, hi, hz0, hz1, hz2⟩ := info_parts Tryd.info5
  refine Lib.wpList_append_own_string w hgd sl x 84 9 ho base 5 i0 Tryd.underlying84 Tryd.underlying9 hi hz0 hz1 hz2 v xs.length (cellsOf xs) hs hown s hx (by unfold maxLen; omega) hb hbase ?_
  intro v' w' h1 h2 h3
  have e : cellsOf xs ++ Lib.strCells s = cellsOf (xs ++ s.data.toList) := by rw [cellsOf_append]; rfl
  have e2 : xs.length + s.size = (xs ++ s.data.toList).length := by rw [List.length_append, ← Lib.size_eq]
  rw [e, e2] at h1
  refine h v' w' h1 ((Below.refl _ _).grown h2 hbase (fun k hk => (hown.lt k hk).1)) (fun hpos => ?_)
  rcases h1.2 with ⟨_, h0⟩ | ⟨g, cap, _, rfl, _⟩
  · omega
  · exact ⟨g, cap, rfl⟩

/-- codec.Row's error, and its bytes -/
def rowErr (l : List ByteArray) : Nat := if 8 < l.length then 2 else if l.any (fun s => decide (70 < s.size)) = true then 6 else if 72 < (rowOf (bs l)).length then 6 else 0
def rowRes (l : List ByteArray) : List UInt8 := if rowErr l = 0 then rowOf (bs l) else []

theorem own_lit (w : World) (n : Nat) (hn : n < 256) : (w.alloc (.cells #[.int .u8 (n : Int)] 5)).ownsRow w.heap.size 5 1 (.slice (some ⟨w.heap.size, 0, none⟩) 1 1) 1 (cellsOf [UInt8.ofNat n]) := by
  have e : (cellsOf [UInt8.ofNat n]) = [.int .u8 (n : Int)] := by
    simp only [cellsOf, List.map_cons, List.map_nil, UInt8.toNat_ofNat']
    rw [Nat.mod_eq_of_lt (by omega)]
  rw [e]
  exact ⟨rfl, .inr ⟨w.heap.size, 1, #[.int .u8 (n : Int)], rfl, Nat.le_refl _, heap_alloc_new w _, Nat.le_refl _, by decide, rfl, rfl⟩⟩

/-- what a row has behind k columns -/
def rowTo (l : List ByteArray) (k : Nat) : List UInt8 := UInt8.ofNat l.length :: body (bs (l.take k))
theorem rowTo_step (l : List ByteArray) (k : Nat) (h : k < l.length) : rowTo l (k + 1) = (rowTo l k ++ [UInt8.ofNat l[k].size]) ++ l[k].data.toList := by
  unfold rowTo
  rw [List.take_succ_eq_append_getElem h]
  simp only [bs, List.map_append, List.map_cons, List.map_nil, body_append, body, col, List.append_nil, ← Lib.size_eq, List.cons_append, List.append_assoc, List.nil_append]
theorem rowTo_bound (l : List ByteArray) (k : Nat) (hk : k ≤ l.length) (hs : ∀ s ∈ l.take k, s.size ≤ 70) : (rowTo l k).length ≤ 1 + k * 71 := by
  induction k with
  | zero => simp [rowTo, bs, body]
  | succ k ih =>
    have h1 := ih (by omega) (fun s hs' => hs s (by
      rw [List.take_succ_eq_append_getElem (show k < l.length by omega)]
      exact List.mem_append_left _ hs'))
    have h2 := hs l[k] (by
      rw [List.take_succ_eq_append_getElem (show k < l.length by omega)]
      exact List.mem_append_right _ (List.mem_singleton.2 rfl))
    rw [rowTo_step l k (by omega)]
    simp only [List.length_append, List.length_cons, List.length_nil]
    rw [← Lib.size_eq]
    omega

set_option maxHeartbeats 400000 in
theorem row_any (l : List ByteArray) (a : Option Addr) (cap : Nat) (w : World) (hT : Texts w a l) (hsz : ∀ s ∈ l, s.size ≤ 140737488351232) (hlen : l.length ≤ 140737488351232) :
    Calls Tryd.prog 72 #[.slice a l.length cap] w fun e w' => ∃ a' cap', e = .returned (.tuple #[.slice a' (rowRes l).length cap', .int .i64 (rowErr l : Int)]) ∧ Bytes w' a' (rowRes l) ∧ Below w.heap.size w w' ∧ (rowRes l).length ≤ cap' := by
  by_cases h8 : 8 < l.length
  · have e1 : rowErr l = 2 := by unfold rowErr; rw [if_pos h8]
    have e2 : rowRes l = [] := by unfold rowRes; rw [e1, if_neg (by omega)]
    rw [e1, e2]
    go_enter Tryd.func72, Tryd.ntmps72
    go_wp2
    go_ret2
    exact ⟨none, 0, rfl, fun i hi => by simp at hi, Below.refl _ _, Nat.le_refl _⟩
  have HT := hid hT
  have Hsz := hid hsz
  clear hT hsz
  have Hown := hid (own_lit w l.length (by omega))
  have E : Hid (∀ e r, rowErr l = e → rowRes l = r → rowErr l = e) := fun _ _ h _ => h
  generalize he : rowErr l = er
  generalize hr : rowRes l = rr
  have He := hid he
  have Hr := hid hr
  clear he hr E
  go_enter Tryd.func72, Tryd.ntmps72
  go_wp2_with fail
  go_loopw [4, 16] (fun v i wr => ∃ k : Nat, k ≤ l.length ∧ i = .int .i64 k ∧ wr.ownsRow w.heap.size 5 1 v (rowTo l k).length (cellsOf (rowTo l k)) ∧ Below w.heap.size w wr ∧ ∀ s ∈ l.take k, s.size ≤ 70) (fun _ i _ => l.length - (intOf i).toNat)
  case atStart => exact ⟨0, Nat.zero_le _, rfl, Hown.out, (Below.refl _ _).alloc (Nat.le_refl _) _, by simp⟩
  case round =>
    obtain ⟨k, hk, rfl, hownr, hbel, hsm⟩ := hrel
    have hbd := rowTo_bound l k hk hsm
    have Hownr := hid hownr
    have hszr := hbel.size
    have Hbel := hid hbel
    have Hsm := hid hsm
    clear hownr hbel hsm
    by_cases hlt : k < l.length
    · obtain ⟨b, o, ha, hc⟩ := (HT.out.below Hbel.out) k hlt
      have Hstep := hid (rowTo_step l k hlt)
      have Hmem : Hid (l[k]'hlt ∈ l) := List.getElem_mem _
      have Htk : Hid (l.take (k + 1) = l.take k ++ [l[k]'hlt]) := List.take_succ_eq_append_getElem hlt
      generalize (l[k]'hlt) = s at hc Hstep Hmem Htk
      subst ha
      have hs47 := Hsz.out s Hmem.out
      by_cases h70 : 70 < s.size
      · have e1 : er = 6 := by
          rw [← He.out]
          unfold rowErr
          rw [if_neg h8, if_pos (List.any_eq_true.2 ⟨s, Hmem.out, by simpa using h70⟩)]
        have e2 : rr = [] := by rw [← Hr.out]; unfold rowRes; rw [He.out, e1, if_neg (by omega)]
        subst e1
        subst e2
        go_wp2
        go_ret2
        exact ⟨none, 0, rfl, fun i hi => by simp at hi, Hbel.out, Nat.le_refl _⟩
      · generalize hys : rowTo l k = ys at Hownr hbd Hstep
        have Hys := hid hys
        clear hys
        go_wp2_with (first | (at_builtin; refine app_nat _ rfl (.tmp 23) (.tmp 27) rfl w.heap.size _ ys rfl Hownr.out s.size (by omega) rfl (by omega) (by omega) ?_; intro v1 w1 ho1 hb1 hs1) | (at_builtin; refine app_str _ rfl (.tmp 29) (.tmp 30) rfl w.heap.size _ (ys ++ [UInt8.ofNat s.size]) rfl ho1 s rfl (by simp; omega) (by have := hb1.size; omega) ?_; intro v2 w2 ho2 hb2 hs2))
        go_roundw
        case rel =>
          refine ⟨k + 1, by omega, by go_num, by rw [Hstep.out]; exact ho2, Hbel.out.trans (hb1.trans hb2), ?_⟩
          intro t ht
          rw [Htk.out] at ht
          rcases List.mem_append.1 ht with h | h
          · exact Hsm.out t h
          · have : t = s := by simpa using h
            subst this
            omega
        case measure => simp [intOf]; omega
    · have hk' : k = l.length := by omega
      have hany : l.any (fun s => decide (70 < s.size)) = false := by
        rw [← Bool.not_eq_true, List.any_eq_true]
        rintro ⟨s, hs, h⟩
        have := Hsm.out s (by rw [hk', List.take_length]; exact hs)
        simp at h
        omega
      have hrow : rowTo l k = rowOf (bs l) := by
        unfold rowTo rowOf
        rw [hk', List.take_length]
        simp [bs]
      rw [hrow] at Hownr hbd
      obtain ⟨av, cv, hv, hB, hcap⟩ := bytes_of_own Hownr.out
      have HB := hid hB
      clear hB
      by_cases h72 : 72 < (rowOf (bs l)).length
      · have e1 : er = 6 := by
          rw [← He.out]
          unfold rowErr
          rw [if_neg h8, hany, if_neg (by simp), if_pos h72]
        have e2 : rr = [] := by rw [← Hr.out]; unfold rowRes; rw [He.out, e1, if_neg (by omega)]
        subst e1
        subst e2
        subst hv
        clear hany hrow hk'
        go_wp2
        go_ret2
        exact ⟨none, 0, rfl, fun i hi => by simp at hi, Hbel.out, Nat.le_refl _⟩
      · have e1 : er = 0 := by
          rw [← He.out]
          unfold rowErr
          rw [if_neg h8, hany, if_neg (by simp), if_neg h72]
        have e2 : rr = rowOf (bs l) := by rw [← Hr.out]; unfold rowRes; rw [He.out, e1, if_pos rfl]
        subst e1
        subst e2
        subst hv
        clear hany hrow hk'
        go_wp2
        go_ret2
        exact ⟨av, cv, rfl, HB.out, Hbel.out, hcap⟩
end Go.Proofs.YthnciogaibhmcaaDoor
