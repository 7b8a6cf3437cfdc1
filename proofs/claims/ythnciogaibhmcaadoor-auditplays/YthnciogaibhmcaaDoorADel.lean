/- Events cut off: slices.Delete at events; audit.Prune. -/
import Derived.Test.YthnciogaibhmcaaDoorAVer
import Derived.ArgAppend
import Derived.Deep.RegionLaw
namespace Go.Proofs.YthnciogaibhmcaaDoor
open Go.RowKit Go.Shelf
set_option linter.unusedVariables false
set_option maxRecDepth 20000

set_option maxHeartbeats 1000000 in
theorem delete_none (w : World) : Calls Tryd.prog 56 #[.slice none 0 0, .int .i64 0, .int .i64 0] w fun e w' => e = .returned (.slice none 0 0) ∧ w' = w := by
  go_enter Tryd.func56, Tryd.ntmps56
  go_wp2
  go_ret
  exact ⟨rfl, rfl⟩
set_option maxHeartbeats 1000000 in
theorem delete_zero (w : World) (b n cap : Nat) (hn : n ≤ cap) : Calls Tryd.prog 56 #[.slice (some ⟨b, 0, none⟩) n cap, .int .i64 0, .int .i64 0] w fun e w' => e = .returned (.slice (some ⟨b, 0, none⟩) n cap) ∧ w' = w := by
  go_enter Tryd.func56, Tryd.ntmps56
  go_wp2
  go_ret
  exact ⟨rfl, rfl⟩
/-- where a slice begins that is cut -/
def cutA (b cap k : Nat) : Addr := if cap = k then ⟨b, 0, none⟩ else ⟨b, k * 4, none⟩
section
variable {ops : Array Oper} {S : World → Prop} {op : Oper} {a : Act}
theorem y_cut0 (hw : Region.wanted op (yielded ops a.tmps) = true) (x y : Operand) (ho : op.op = .slice 46 x none (some y) none) (b n cap : Nat) (hx : a.eval x = .slice (some ⟨b, 0, none⟩) n cap) (hy : a.eval y = .int .i64 0) : YieldsIf Tryd.prog ops S op (.slice (some ⟨b, 0, none⟩) 0 cap) a := by
  refine .inl ⟨hw, fun w _ => ?_⟩
  unfold execOp
  simp only [ho, hx, Option.map_some, hy]
  simp [go_sem]
theorem y_cutK (hw : Region.wanted op (yielded ops a.tmps) = true) (x y : Operand) (ho : op.op = .slice 46 x (some y) none none) (b m k cap : Nat) (hc : m + k ≤ cap) (hx : a.eval x = .slice (some ⟨b, 0, none⟩) (m + k) cap) (hy : a.eval y = .int .i64 (k : Int)) : YieldsIf Tryd.prog ops S op (.slice (some (cutA b cap k)) m (cap - k)) a := by
  refine .inl ⟨hw, fun w _ => ?_⟩
  have d1 : (0 : Int) ≤ (k : Int) := by omega
  have d2 : (k : Int) ≤ ((m + k : Nat) : Int) := by omega
  have d3 : ((m + k : Nat) : Int) ≤ (cap : Int) := by omega
  unfold execOp
  simp only [ho, hx, Option.map_some, hy]
  by_cases h : cap = k
  · simp [go_sem, cutA, h]
    intro h9; omega
  · simp [go_sem, cutA, h]
    intro h9; omega
end
theorem wp_appRoom {ops : Array Oper} {o : Oper} {a : Act} {w : World} {K : Act → World → Prop} {Q : Exit → Act → World → Prop} (hg : o.guard = none) (s x : Operand) (hop : o.op = Op.call { callee := Callee.builtin Builtin.append, args := #[s, x], argTypes := #[46, 46] })
    (b cap : Nat) (hs : a.eval s = .slice (some ⟨b, 0, none⟩) 0 cap) (ad : Addr) (m c : Nat) (news : List Value) (hx : a.eval x = .slice (some ad) m c) (hn : news.length = m * 4) (hc : ∀ j u, news[j]? = some u → w.cell? (ad.add j) = some u) (h1c : ∀ u ∈ news, u.oneCell' = true)
    (hroom : m ≤ cap) (hspare : ∀ j, j < news.length → (w.cell? ⟨b, j, none⟩).isSome = true ∧ w.frozen? ⟨b, j, none⟩ = false)
    (hK : K (a.put o.dst (.slice (some ⟨b, 0, none⟩) m cap)) (w.setCells b 0 news)) : o.wp Tryd.prog a w K Q := by
  obtain ⟨i0, hi, hz0, hz1, hz2⟩ := info_parts Tryd.infoE
  have h := step_append_room (P := Tryd.prog) (ops := ops) (o := o) (a := a) (w := w) (K := K) (Q := Q) (E := True) hg s x 46 hop 60 i0 4 Tryd.underlying46 hi hz1 b 0 0 cap hs ad m c news hx hn hc h1c (by omega) (fun j hj => by simpa using hspare j hj) (by simpa using hK)
  rw [if_pos (by simp [Region.wanted, hg])] at h
  exact h
noncomputable def codeDel : Code := ((Tryd.f56.body.bind (regionAt 5)).getD .skip)
set_option maxHeartbeats 2000000 in
theorem delete_region {V0 W5 : World} {b m k cap : Nat} {news : List Value} {A : Act} (sz : A.tmps.size = 33) (e0 : A.eval (.tmp 0) = .slice (some ⟨b, 0, none⟩) (m + k) cap) (e1 : A.eval (.tmp 1) = .int .i64 0) (e2 : A.eval (.tmp 2) = .int .i64 (k : Int))
    (hV0 : V0 = W5.drew) (hcap : m + k ≤ cap) (hlen : news.length = m * 4) (hsrc : ∀ j u, news[j]? = some u → V0.cell? ((cutA b cap k).add j) = some u) (hone : ∀ u ∈ news, u.oneCell' = true) (hroom : ∀ j, j < news.length → (V0.cell? ⟨b, j, none⟩).isSome = true ∧ V0.frozen? ⟨b, j, none⟩ = false) :
    codeDel.wp Tryd.prog (fun x a V => x = .normal ∧ a = ((((((((A.put (some 20) (.slice (some ⟨b, 0, none⟩) (m + k) cap)).put (some 21) (.int .i64 0)).put (some 22) (.slice (some ⟨b, 0, none⟩) 0 cap)).put (some 23) (.slice (some ⟨b, 0, none⟩) (m + k) cap)).put (some 24) (.int .i64 (k : Int))).put (some 25) (.slice (some (cutA b cap k)) m (cap - k))).put (some 26) (.slice (some ⟨b, 0, none⟩) m cap)).put (some 0) (.slice (some ⟨b, 0, none⟩) m cap)) ∧ V = V0.setCells b 0 news) A W5 := by
  have hm : Tryd.prog.follows .mixedOrders = true := by kernel_rfl
  unfold codeDel
  conv => arg 2; whnf
  refine wp_region_held (S := fun _ => True) hm ?_
  rw [show ({ W5 with drawn := W5.drawn + 1 } : World) = V0 from hV0.symm]
  refine wpAnyH_take (i := 0) (v := .slice (some ⟨b, 0, none⟩) (m + k) cap) rfl (by kernel_rfl) (by kernel_rfl) (by kernel_rfl) (fun _ _ _ h => nomatch h.1) (yields_move (by simp [Region.wanted]) (.tmp 0) rfl _ e0) trivial ?_
  show wpAnyH _ _ _ _ _ _ _ (A.put (some 20) (.slice (some ⟨b, 0, none⟩) (m + k) cap)) _
  refine wpAnyH_take (i := 1) (v := .int .i64 0) rfl (by kernel_rfl) (by kernel_rfl) (by kernel_rfl) (fun _ _ _ h => nomatch h.1) (yields_move (by simp [Region.wanted]) (.tmp 1) rfl _ ((ev_ne _ _ (by decide)).trans e1)) trivial ?_
  show wpAnyH _ _ _ _ _ _ _ ((A.put (some 20) (.slice (some ⟨b, 0, none⟩) (m + k) cap)).put (some 21) (.int .i64 0)) _
  refine wpAnyH_take (i := 2) (v := .slice (some ⟨b, 0, none⟩) 0 cap) rfl (by kernel_rfl) (by kernel_rfl) (by kernel_rfl) (fun _ _ _ h => nomatch h.1) (y_cut0 (by simp [Region.wanted]) (.tmp 20) (.tmp 21) rfl b (m + k) cap ((ev_ne _ _ (by decide)).trans (ev_eq _ _ (by simp [sz]))) (ev_eq _ _ (by simp [put_sz, sz]))) trivial ?_
  show wpAnyH _ _ _ _ _ _ _ (((A.put (some 20) (.slice (some ⟨b, 0, none⟩) (m + k) cap)).put (some 21) (.int .i64 0)).put (some 22) (.slice (some ⟨b, 0, none⟩) 0 cap)) _
  refine wpAnyH_take (i := 3) (v := .slice (some ⟨b, 0, none⟩) (m + k) cap) rfl (by kernel_rfl) (by kernel_rfl) (by kernel_rfl) (fun _ _ _ h => nomatch h.1) (yields_move (by simp [Region.wanted]) (.tmp 0) rfl _ ((ev_ne _ _ (by decide)).trans ((ev_ne _ _ (by decide)).trans ((ev_ne _ _ (by decide)).trans e0)))) trivial ?_
  show wpAnyH _ _ _ _ _ _ _ ((((A.put (some 20) (.slice (some ⟨b, 0, none⟩) (m + k) cap)).put (some 21) (.int .i64 0)).put (some 22) (.slice (some ⟨b, 0, none⟩) 0 cap)).put (some 23) (.slice (some ⟨b, 0, none⟩) (m + k) cap)) _
  refine wpAnyH_take (i := 4) (v := .int .i64 (k : Int)) rfl (by kernel_rfl) (by kernel_rfl) (by kernel_rfl) (fun _ _ _ h => nomatch h.1) (yields_move (by simp [Region.wanted]) (.tmp 2) rfl _ ((ev_ne _ _ (by decide)).trans ((ev_ne _ _ (by decide)).trans ((ev_ne _ _ (by decide)).trans ((ev_ne _ _ (by decide)).trans e2))))) trivial ?_
  show wpAnyH _ _ _ _ _ _ _ (((((A.put (some 20) (.slice (some ⟨b, 0, none⟩) (m + k) cap)).put (some 21) (.int .i64 0)).put (some 22) (.slice (some ⟨b, 0, none⟩) 0 cap)).put (some 23) (.slice (some ⟨b, 0, none⟩) (m + k) cap)).put (some 24) (.int .i64 (k : Int))) _
  refine wpAnyH_take (i := 5) (v := .slice (some (cutA b cap k)) m (cap - k)) rfl (by kernel_rfl) (by kernel_rfl) (by kernel_rfl) (fun _ _ _ h => nomatch h.1) (y_cutK (by simp [Region.wanted]) (.tmp 23) (.tmp 24) rfl b m k cap hcap ((ev_ne _ _ (by decide)).trans (ev_eq _ _ (by simp [put_sz, sz]))) (ev_eq _ _ (by simp [put_sz, sz]))) trivial ?_
  show wpAnyH _ _ _ _ _ _ _ ((((((A.put (some 20) (.slice (some ⟨b, 0, none⟩) (m + k) cap)).put (some 21) (.int .i64 0)).put (some 22) (.slice (some ⟨b, 0, none⟩) 0 cap)).put (some 23) (.slice (some ⟨b, 0, none⟩) (m + k) cap)).put (some 24) (.int .i64 (k : Int))).put (some 25) (.slice (some (cutA b cap k)) m (cap - k))) _
  refine wpAnyH_all (rs := [6]) (by kernel_rfl) (by simp) fun i1 hm1 => ?_
  obtain rfl : i1 = 6 := by simpa using hm1
  refine wpOp_own rfl rfl fun K1 hK1 => ?_
  refine wp_appRoom (ops := #[]) rfl (.tmp 22) (.tmp 25) rfl b cap ((ev_ne _ _ (by decide)).trans ((ev_ne _ _ (by decide)).trans ((ev_ne _ _ (by decide)).trans (ev_eq _ _ (by simp [put_sz, sz]))))) (cutA b cap k) m (cap - k) news (ev_eq _ _ (by simp [put_sz, sz])) hlen hsrc hone (by omega) hroom ?_
  refine hK1 _ _ ⟨trivial, ?_⟩
  clear hK1 K1 hm1
  show wpAnyH _ _ _ _ _ _ _ (((((((A.put (some 20) (.slice (some ⟨b, 0, none⟩) (m + k) cap)).put (some 21) (.int .i64 0)).put (some 22) (.slice (some ⟨b, 0, none⟩) 0 cap)).put (some 23) (.slice (some ⟨b, 0, none⟩) (m + k) cap)).put (some 24) (.int .i64 (k : Int))).put (some 25) (.slice (some (cutA b cap k)) m (cap - k))).put (some 26) (.slice (some ⟨b, 0, none⟩) m cap)) _
  refine wpAnyH_take (i := 7) (v := .slice (some ⟨b, 0, none⟩) m cap) rfl (by kernel_rfl) (by kernel_rfl) (by kernel_rfl) (fun _ _ _ h => nomatch h.1) (y_assign (by simp [Region.wanted]) (.tmp 26) rfl _ (ev_eq _ _ (by simp [put_sz, sz]))) trivial ?_
  show wpAnyH _ _ _ _ _ _ _ ((((((((A.put (some 20) (.slice (some ⟨b, 0, none⟩) (m + k) cap)).put (some 21) (.int .i64 0)).put (some 22) (.slice (some ⟨b, 0, none⟩) 0 cap)).put (some 23) (.slice (some ⟨b, 0, none⟩) (m + k) cap)).put (some 24) (.int .i64 (k : Int))).put (some 25) (.slice (some (cutA b cap k)) m (cap - k))).put (some 26) (.slice (some ⟨b, 0, none⟩) m cap)).put (some 0) (.slice (some ⟨b, 0, none⟩) m cap)) _
  exact wpAnyH_done (by kernel_rfl) ⟨rfl, rfl, rfl⟩ _
end Go.Proofs.YthnciogaibhmcaaDoor
