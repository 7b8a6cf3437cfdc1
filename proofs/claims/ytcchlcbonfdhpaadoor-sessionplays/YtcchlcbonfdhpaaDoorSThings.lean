/- Things and Drop of numbered sessions, each by a contract. -/
import Derived.Test.YtcchlcbonfdhpaaDoorSNums
namespace Go.Proofs.YtcchlcbonfdhpaaDoor
open Go.RowKit Go.Maps Go.Sort Go.Shelf
set_option linter.unusedVariables false

/-- numbers that lie in a row of the world -/
def Ints (w : World) (a : Option Addr) (zs : List Int) : Prop := ∀ i (h : i < zs.length), ∃ b o, a = some ⟨b, o, none⟩ ∧ w.cell? ⟨b, o + i, none⟩ = some (.int .i64 zs[i])
theorem Ints.below {w w' : World} {a : Option Addr} {zs : List Int} (h : Ints w a zs) (hb : Below w.heap.size w w') : Ints w' a zs := fun i hi => by
  obtain ⟨b, o, ha, hc⟩ := h i hi
  exact ⟨b, o, ha, (hb.cell (World.block_lt_of_cell? _ _ hc)).trans hc⟩
theorem ints_of_own {w : World} {B n : Nat} {v : Value} {zs : List Int} (h : w.ownsRow B 3 1 v n (zCells zs)) : ∃ a cap, v = .slice a zs.length cap ∧ Ints w a zs ∧ zs.length ≤ cap := by
  have hn : zs.length = n := by have := h.1; simpa [zCells] using this
  subst hn
  rcases h.2 with ⟨rfl, h0⟩ | ⟨g, cap, cur, rfl, hb, hg, hc, hm, hs, ht⟩
  · refine ⟨none, 0, by rw [h0], fun i hi => ?_, by omega⟩
    omega
  · refine ⟨some ⟨g, 0, none⟩, cap, rfl, fun i hi => ⟨g, 0, rfl, ?_⟩, hc⟩
    have := World.ownsRow.cellAt h i (by omega)
    rw [Nat.zero_add, this]
    simp [zCells, hi]

theorem wantedIds_get {l : List Sess} {f : Sess → Bool} {k : Nat} (h : k < (wantedIds l f).length) : ∃ s, s ∈ l ∧ f s = true ∧ (wantedIds l f)[k] = s.id ∧ (l.filter f)[k]? = some s := by
  have h' : k < (l.filter f).length := by simpa [wantedIds] using h
  refine ⟨(l.filter f)[k], (List.mem_filter.1 (List.getElem_mem h')).1, (List.mem_filter.1 (List.getElem_mem h')).2, by simp [wantedIds], by simp [h']⟩
theorem take_snoc_get {α : Type} {l : List α} {k : Nat} {s : α} (h : l[k]? = some s) : l.take (k + 1) = l.take k ++ [s] := by
  obtain ⟨h1, h2⟩ := List.getElem?_eq_some_iff.1 h
  rw [List.take_succ_eq_append_getElem h1, h2]

set_option maxHeartbeats 1600000 in
theorem things_any {w : World} {p o mb n : Nat} {next : Int} {l : List Sess} (h : NumAt w p o mb n next l) (hup : l.Pairwise (fun a b => a.id < b.id)) (hln : l.length ≤ 1000000000) (hid1 : ∀ s ∈ l, 1 ≤ s.id ∧ s.id ≤ 1099511627776) (f : Sess → Bool) (F : Nat) (cap : Array Value)
    (heg : ∀ args w, (callFunc F args).run Tryd.prog w = .ok (.enter F args) w)
    (hcl : ∀ s ∈ l, ∀ W, Below w.heap.size w W → Calls Tryd.prog F (#[.agg #[.int .i64 s.id, .string s.ten, .string s.usr, .int .i64 s.since, .int .i64 s.used]] ++ cap) W fun e w' => e = .returned (.bool (f s)) ∧ Below W.heap.size W w') :
    Calls Tryd.prog 63 #[.pointer (some ⟨p, o, none⟩), .func (.func F) #[] cap] w fun e w' => ∃ v, e = .returned v ∧ w'.ownsRow w.heap.size 42 5 v (l.filter f).length (sCells (l.filter f)) ∧ Below w.heap.size w w' := by
  have Hn := hid (numbers_any h hup hln f F cap heg hcl)
  have H := hid h
  have hll : (l.filter f).length ≤ 1000000000 := Nat.le_trans (List.length_filter_le f l) hln
  have Hid1 := hid hid1
  clear h hup hcl heg hid1
  go_enter Tryd.func63, Tryd.ntmps63
  go_wp2_with (go_at_call 55; refine Hn.out.mono ?_; rintro e w2 ⟨v, rfl, hrow, hb2⟩; obtain ⟨a, c, rfl, hints, hcap⟩ := ints_of_own hrow)
  have Hints := hid hints
  have Hb2 := hid hb2
  have hzl : (wantedIds l f).length = (l.filter f).length := by simp [wantedIds]
  generalize hN : (wantedIds l f).length = N at *
  have HN := hid hN
  have Hzl := hid hzl
  have hN2 : N ≤ 1000000000 := by omega
  clear hints hb2 hrow hcap hN hzl
  go_loopw [5, 12] (fun v i wr => ∃ k : Nat, k ≤ N ∧ i = .int .i64 k ∧ wr.ownsRow w2.heap.size 42 5 v k (sCells ((l.filter f).take k)) ∧ Below w2.heap.size w2 wr)
    (fun _ i _ => N - (intOf i).toNat)
  case atStart => exact ⟨0, Nat.zero_le _, rfl, World.ownsRow_nil _ _ _ _, Below.refl _ _⟩
  case round =>
    obtain ⟨k, hk, rfl, hrow, hb⟩ := hrel
    have Hb := hid hb
    have Hrow := hid hrow
    clear hb hrow
    by_cases hlt : k < N
    · obtain ⟨s, hsl, hfs, he1, he2⟩ := wantedIds_get (l := l) (f := f) (k := k) (by rw [HN.out]; exact hlt)
      obtain ⟨b, o', ea, hc⟩ := (Hints.out.below Hb.out) k (by rw [HN.out]; exact hlt)
      cases ea
      rw [he1] at hc
      have Hs := hid (take_snoc_get he2)
      have hNum := H.out.below (Below.on' Hb2.out Hb.out)
      have c1 := hNum.c1
      have hlook : (Instr.lookup 37 (.map (some mb)) (.int .i64 s.id) false).run Tryd.prog wr = .ok (.agg #[.int .i64 s.id, .string s.ten, .string s.usr, .int .i64 s.since, .int .i64 s.used]) wr :=
        (hNum.map.look_in intKeyed Tryd.underlying37 (sessZero _) (sessR_mk sess0) sessR_inv hsl (zkey (by have := Hid1.out s hsl; omega) (by have := Hid1.out s hsl; omega))).2
      have hz : w2.heap.size ≤ wr.heap.size := Hb.out.size
      have Hkl : Hid (((l.filter f).take k).length = k) := by
        show _ = _
        rw [List.length_take]
        have := Hzl.out
        omega
      have hrow' : wr.ownsRow w2.heap.size 42 5 u5 ((l.filter f).take k).length (sCells ((l.filter f).take k)) := by rw [Hkl.out]; exact Hrow.out
      clear he1 he2 hNum
      go_wp2_with (first
        | (at_builtin; refine app_sess _ rfl _ _ rfl w2.heap.size u5 ((l.filter f).take k) rfl hrow' s rfl (by rw [Hkl.out]; omega) hz ?_; intro v' w3 hrow3 hg3)
        | go_in)
      go_roundw
      case rel =>
        rw [← Hs.out] at hrow3
        refine ⟨k + 1, by omega, by go_num, ?_, Hb.out.trans ⟨hg3.os, hg3.tape, hg3.output, hg3.size, fun i hi => hg3.block i (by omega) (row_ne_low hrow' hi)⟩⟩
        have e : ((l.filter f).take (k + 1)).length = k + 1 := by rw [Hs.out, List.length_append, Hkl.out]; rfl
        rw [e] at hrow3
        exact hrow3
      case measure => simp [intOf]; omega
    · have e : k = N := by omega
      subst e
      go_wp2
      go_ret
      have h3 := Hrow.out
      rw [show (l.filter f).take k = l.filter f from List.take_of_length_le (by have := Hzl.out; omega), Hzl.out] at h3
      exact ⟨_, rfl, h3.mono Hb2.out.size, Below.on' Hb2.out Hb.out⟩
end Go.Proofs.YtcchlcbonfdhpaaDoor
