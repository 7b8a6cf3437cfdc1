/- Bytes appended from whatever slice; Copy and SameBytes of the reference (for the laws on sealed texts). -/
import Derived.Test.YtkgengiopjjhbaaDoorHTag
import Derived.Laws.AppendOwnNone
import Derived.Stop.BytesEq
namespace Go.Proofs.YtkgengiopjjhbaaDoor
open Go.RowKit
set_option linter.unusedVariables false
set_option maxRecDepth 20000

/-- loading a hash, kept whole in the walk -/
def loadH (x : Value) : Sem Value := Instr.loadAt 23 x
theorem loadH_fold (x : Value) : Instr.loadAt 23 x = loadH x := rfl
theorem loadH_run {w : World} {g : Nat} {O : Array Value} {l : List UInt8} (hO : HV O l) (hg : w.heap[g]? = some (.cells O 23 (0, 0))) : (loadH (.pointer (some ⟨g, 0, none⟩))).run Tryd.prog w = .ok (.agg O) w := by
  have h := run_loadAt_mid (P := Tryd.prog) w g 0 23 O.toList _ (fun j v hj => by rw [Nat.zero_add, cell_of_row _ _ _ _ _ _ hg, ← hj, Array.getElem?_toList]) Tryd.underlying23 rfl (by rw [Array.length_toList]; exact hO.info)
  rw [Array.toArray_toList] at h
  exact h
theorem sizeOf_u8 (w : World) : (sizeOf 5).run Tryd.prog w = .ok 1 w := by
  have h : Tryd.t5.size = 1 := by kernel_rfl
  simp [sizeOf, h]
/-- two hashes compared by == -/
theorem hash_eq {A B : Array Value} {a b : List UInt8} (hA : HV A a) (hB : HV B b) (w : World) : (Op.equalIn 10000 23 (.agg A) (.agg B)).run Tryd.prog w = .ok (a == b) w := by
  rw [hA.eq, hB.eq]
  exact run_equalIn_bytes (P := Tryd.prog) w 9998 23 5 32 Tryd.underlying23 Tryd.underlying5 sizeOf_u8 a b hA.len hB.len
theorem hash_same {A B : Array Value} {a : List UInt8} (hA : HV A a) (hB : HV B a) (w : World) : (Op.equalIn 10000 23 (.agg A) (.agg B)).run Tryd.prog w = .ok true w := by
  rw [hash_eq hA hB, beq_self_eq_true]
/-- append(v, src...) where v is the call's own, src whatever bytes -/
theorem app_src (w : World) {ops : Array Oper} {rest : List Oper} {o : Oper} {a : Act} {Q : Exit → Act → World → Prop} (hgd : o.guard = none) (s x : Operand)
    (ho : o.op = .call { callee := .builtin .append, args := #[s, x], argTypes := #[24, 24] }) (base : Nat) (v : Value) (xs : List UInt8) (hs : a.eval s = v)
    (hown : w.ownsRow base 5 1 v xs.length (cellsOf xs)) (ad : Option Addr) (n c : Nat) (news : List UInt8) (hn : n = news.length) (hx : a.eval x = .slice ad n c) (hB : Bytes w ad news) (hc : ad = none → c = 0)
    (hb : xs.length + news.length ≤ 140737488355328) (hbase : base ≤ w.heap.size)
    (h : ∀ v' w', w'.ownsRow base 5 1 v' (xs ++ news).length (cellsOf (xs ++ news)) → Below base w w' → wpList Tryd.prog ops Q rest (a.put o.dst v') w') :
    wpList Tryd.prog ops Q (o :: rest) a w := by
  cases ad with
  | none =>
    obtain ⟨i0, hi, hz0, hz1, hz2⟩ := info_parts Tryd.info5
    have hl : news = [] := by
      cases news with
      | nil => rfl
      | cons c x => obtain ⟨b, o, e, _⟩ := hB 0 (by simp); cases e
    subst hl
    have h0 : n = 0 := hn
    subst h0
    rw [hc rfl] at hx
    refine wpList_append_own_none hgd s x 24 ho base 5 i0 1 Tryd.underlying24 hi v xs.length (cellsOf xs) hs hown hx ?_
    refine h v w ?_ (Below.refl _ w)
    rw [List.append_nil]
    exact hown
  | some ad =>
    refine app_bytes w hgd s x ho base v xs hs hown ad n c news hn.symm hx (fun j hj => ?_) (by rw [hn]; exact hb) hbase (fun v' w' h1 h2 _ => h v' w' h1 h2)
    obtain ⟨b, o, e, hcl⟩ := hB j hj
    cases e
    rw [addr_add]
    exact hcl

theorem below_drewN (B : Nat) (w : World) (n : Nat) : Below B w (w.drewN n) := ⟨rfl, rfl, rfl, Nat.le_refl _, fun _ _ => rfl⟩

set_option maxHeartbeats 400000 in
theorem sameBytes_any (x y : List UInt8) (a b : Option Addr) (ca cb : Nat) (w : World) (hx : Bytes w a x) (hy : Bytes w b y) (lx : x.length ≤ 140737488351232) (ly : y.length ≤ 140737488351232) :
    Calls Tryd.prog 10 #[.slice a x.length ca, .slice b y.length cb] w fun e w' => e = .returned (.bool (decide (x = y))) ∧ Below w.heap.size w w' := by
  have Hx := hid hx
  have Hy := hid hy
  clear hx hy
  by_cases hl : x.length = y.length
  · have d1 : ((x.length : Int) != (y.length : Int)) = false := by rw [bne_eq_false_iff_eq]; omega
    have Hl := hid hl
    clear hl
    go_enter Tryd.func10, Tryd.ntmps10
    go_wp2
    go_loopw [5] (fun i wr => ∃ k : Nat, k ≤ x.length ∧ i = .int .i64 k ∧ x.take k = y.take k ∧ Below w.heap.size w wr) (fun i _ => x.length - (intOf i).toNat)
    case atStart => exact ⟨0, Nat.zero_le _, rfl, rfl, Below.refl _ _⟩
    case round =>
      obtain ⟨k, hk, rfl, hpre, hbel⟩ := hrel
      have Hpre := hid hpre
      have Hbel := hid hbel
      clear hpre hbel
      by_cases hlt : k < x.length
      · have hlt2 : k < y.length := by have := Hl.out; omega
        obtain ⟨b1, o1, ha, hc1⟩ := (Hx.out.below Hbel.out) k hlt
        obtain ⟨b2, o2, hb, hc2⟩ := (Hy.out.below Hbel.out) k hlt2
        have HX : Hid (x.take (k + 1) = x.take k ++ [x[k]]) := List.take_succ_eq_append_getElem hlt
        have HY : Hid (y.take (k + 1) = y.take k ++ [y[k]]) := List.take_succ_eq_append_getElem hlt2
        have HN : Hid (x[k] ≠ y[k] → x ≠ y) := fun h e => h (by subst e; rfl)
        generalize x[k] = c1 at *
        generalize y[k] = c2 at *
        subst ha
        subst hb
        by_cases hc : c1 = c2
        · have e1 : ((c1.toNat : Int) != (c2.toNat : Int)) = false := by rw [hc]; simp
          have H12 := hid hc
          clear hc
          go_wp2
          go_quiet (fail)
          go_wp2
          go_roundw
          case rel => exact ⟨k + 1, by omega, by go_num, by rw [HX.out, HY.out, Hpre.out, H12.out], Hbel.out.trans (below_drewN _ _ _)⟩
          case measure => simp [intOf]; omega
        · have e1 : ((c1.toNat : Int) != (c2.toNat : Int)) = true := by
            rw [bne_iff_ne]
            intro e
            exact hc (UInt8.toNat_inj.1 (by omega))
          have Hne := hid (HN.out hc)
          clear hc
          go_wp2
          go_quiet (fail)
          go_wp2
          go_ret
          exact ⟨ret_bool (by simp [Hne.out]), Hbel.out.trans (below_drewN _ _ _)⟩
      · go_wp2
        go_ret
        refine ⟨ret_bool ?_, Hbel.out⟩
        have h := Hpre.out
        rw [List.take_of_length_le (by omega), List.take_of_length_le (by have := Hl.out; omega)] at h
        simp [h]
  · have d1 : ((x.length : Int) != (y.length : Int)) = true := by rw [bne_iff_ne]; omega
    have hne : decide (x = y) = false := by simp; intro e; exact hl (congrArg List.length e)
    rw [hne]
    clear hl hne
    go_enter Tryd.func10, Tryd.ntmps10
    go_wp2
    go_ret
    exact ⟨rfl, Below.refl _ _⟩


end Go.Proofs.YtkgengiopjjhbaaDoor
