/- What the laws on keys that play share: new trees, and what rotating and destroying leave of another purpose. -/
import Derived.Test.YtdglmoikgmlaaaaDoorJP3
import Derived.Test.YtdglmoikgmlaaaaDoorJ9
namespace Go.Proofs.YtdglmoikgmlaaaaDoor
open Go.RowKit Go.Maps
set_option linter.unusedVariables false
set_option maxRecDepth 20000
def TS0 : TS := ⟨[], [], 0⟩
theorem TS0_ok : TS0.Ok := ⟨(fun p hp => nomatch hp), List.nodup_nil, (fun p hp => nomatch hp), List.nodup_nil, by decide, by decide⟩
theorem treeM_new {w : World} {B B' g mv mg : Nat} {root : List UInt8} (h : TreeAt w B' g root mv mg 0 0 (.map []) (.map []) 0) (hne : mv ≠ mg) (hB : B ≤ B') : TreeM w B g mv mg root TS0 0 :=
  ⟨TS0_ok, hne, 0, 0, _, _, ⟨h.obj, h.vm, h.gm, h.len, Nat.le_trans hB h.bg, Nat.le_trans hB h.bv, Nat.le_trans hB h.bm⟩, vrel_new, grel_new, Nat.le_refl _, Nat.le_refl _⟩
theorem rt_new {w : World} {B B' g : Nat} {root : List UInt8} {gv lv : Value} {s : TS} (h : RTree w B' g root s gv lv) (hB : B ≤ B') : RT w B g root s :=
  ⟨gv, lv, h.obj, own_mono h.gone hB, own_mono h.vers hB, h.len, Nat.le_trans hB h.bg⟩
theorem verOf_filter (vs : List ((ByteArray × ByteArray) × Nat)) (f : (ByteArray × ByteArray) × Nat → Bool) (t u : ByteArray) (h : ∀ p, isAt t u p = true → f p = true) : verOf (vs.filter f) t u = verOf vs t u := by
  unfold verOf
  rw [List.find?_filter]
  congr 2
  have : (fun a => f a && isAt t u a) = isAt t u := funext fun p => by
    cases hp : isAt t u p with
    | false => simp
    | true => rw [h p hp]; rfl
  first
    | rw [this]
    | (congr 1; funext p; have := congrFun this p; simpa using this)
theorem verOf_snoc (vs : List ((ByteArray × ByteArray) × Nat)) (q : (ByteArray × ByteArray) × Nat) (t u : ByteArray) (h : isAt t u q = false) : verOf (vs ++ [q]) t u = verOf vs t u := by
  unfold verOf
  rw [List.find?_append]
  have : [q].find? (isAt t u) = none := by simp [h]
  rw [this, Option.or_none]
theorem rot_cur (s : TS) (t u c o : ByteArray) (h : ¬ (t = c ∧ u = o)) : (s.rotR t u).1.cur c o = s.cur c o := by
  unfold TS.rotR
  split
  · rfl
  · split
    · rfl
    · have hv : ∀ n, verOf (rotV s.vs t u n) c o = verOf s.vs c o := fun n => by
        unfold rotV
        rw [verOf_snoc _ _ _ _ (by unfold isAt; simp only [decide_eq_false_iff_not, Prod.mk.injEq]; exact h), verOf_filter _ _ _ _ (fun p hp => by
          have e := of_decide_eq_true hp
          unfold isAt
          simp only [Bool.not_eq_true', decide_eq_false_iff_not]
          rw [e]
          simp only [Prod.mk.injEq]
          exact fun h2 => h ⟨h2.1.symm, h2.2.symm⟩)]
      unfold TS.cur TS.rot
      simp only [hv]
theorem des_cur (s : TS) (t c o : ByteArray) (h : ¬ t = c) : (s.desR t).1.cur c o = s.cur c o := by
  unfold TS.desR
  split
  · split
    · rfl
    · split
      · rfl
      · have hv : verOf (s.vs.filter (keptT t)) c o = verOf s.vs c o := verOf_filter _ _ _ _ (fun p hp => by
          have e : p.1 = (c, o) := of_decide_eq_true hp
          unfold keptT
          rw [e]
          simp only [Bool.not_eq_true', decide_eq_false_iff_not]
          exact fun h2 => h h2.symm)
        have hg : isIn (s.gs ++ [t]) c = isIn s.gs c := by
          unfold isIn
          rw [List.any_append]
          simp [h]
        unfold TS.cur TS.des
        simp only [hv, hg]
  · rfl
theorem keyR_of {s s' : TS} {root : List UInt8} {c o : ByteArray} (h : s'.cur c o = s.cur c o) (v : Int) : s'.keyR root c o v = s.keyR root c o v := by
  unfold TS.keyR
  rw [h]
end Go.Proofs.YtdglmoikgmlaaaaDoor
