/- Numbered things at holdfast/api.Family: how they lie in memory; Things, by a contract. -/
import Derived.Test.YtmnhhomkglffcaaGreatDoorKFam
namespace Go.Proofs.YtmnhhomkglffcaaGreatDoor.Fam
open Go.RowKit Go.Maps Go.Sort Go.Shelf
set_option linter.unusedVariables false

set_option maxHeartbeats 1600000 in
theorem things_any {w : World} {p o mb n : Nat} {next : Int} {l : List Sess} (h : NumAt w p o mb n next l) (hup : l.Pairwise (fun a b => a.id < b.id)) (hln : l.length ≤ 1000000000) (hid1 : ∀ s ∈ l, 1 ≤ s.id ∧ s.id ≤ 1099511627776) (f : Sess → Bool) (F : Nat) (cap : Array Value)
    (heg : ∀ args w, (callFunc F args).run Tryz.prog w = .ok (.enter F args) w)
    (hcl : ∀ s ∈ l, ∀ W, Below w.heap.size w W → Calls Tryz.prog F (#[.agg #[.int .i64 s.id, .int .i64 s.ses, .string s.cli, .int .u8 s.sco, .int .i64 s.nxt]] ++ cap) W fun e w' => e = .returned (.bool (f s)) ∧ Below W.heap.size W w') :
    Calls Tryz.prog 40 #[.pointer (some ⟨p, o, none⟩), .func (.func F) #[] cap] w fun e w' => ∃ v, e = .returned v ∧ w'.ownsRow w.heap.size 35 5 v (l.filter f).length (sCells (l.filter f)) ∧ Below w.heap.size w w' := by
  have Hn := hid (numbers_any h hup hln f F cap heg hcl)
  have H := hid h
  have hll : (l.filter f).length ≤ 1000000000 := Nat.le_trans (List.length_filter_le f l) hln
  have Hid1 := hid hid1
  clear h hup hcl heg hid1
  go_enter Tryz.func40, Tryz.ntmps40
  go_wp2_with (go_at_call 75; refine Hn.out.mono ?_; rintro e w2 ⟨v, rfl, hrow, hb2⟩; obtain ⟨a, c, rfl, hints, hcap⟩ := ints_of_own hrow)
  have Hints := hid hints
  have Hb2 := hid hb2
  have hzl : (wantedIds l f).length = (l.filter f).length := by simp [wantedIds]
  generalize hN : (wantedIds l f).length = N at *
  have HN := hid hN
  have Hzl := hid hzl
  have hN2 : N ≤ 1000000000 := by omega
  clear hints hb2 hrow hcap hN hzl
  go_loopw [5, 12] (fun v i wr => ∃ k : Nat, k ≤ N ∧ i = .int .i64 k ∧ wr.ownsRow w2.heap.size 35 5 v k (sCells ((l.filter f).take k)) ∧ Below w2.heap.size w2 wr)
    (fun _ i _ => N - (intOf i).toNat)
  case atStart => exact ⟨0, Nat.zero_le _, rfl, World.ownsRow_nil _ _ _ _, Below.refl _ _⟩
  case round =>
    obtain ⟨k, hk, rfl, hrow, hb⟩ := hrel
    have Hb := hid hb
    have Hrow := hid hrow
    clear hb hrow
    by_cases hlt : k < N
    · obtain ⟨s, hsl, hfs, he1, he2⟩ := wantedIds_get (l := l) (f := f) (k := k) (by rw [HN.out]; exact hlt)
      obtain ⟨b, o', ea, hc⟩ := (Hints.out.below Hb.out) k (by rw [HN.out]; exact hlt)
      cases ea
      rw [he1] at hc
      have Hs := hid (take_snoc_get he2)
      have hNum := H.out.below (Below.on' Hb2.out Hb.out)
      have c1 := hNum.c1
      have hlook : (Instr.lookup 46 (.map (some mb)) (.int .i64 s.id) false).run Tryz.prog wr = .ok (.agg #[.int .i64 s.id, .int .i64 s.ses, .string s.cli, .int .u8 s.sco, .int .i64 s.nxt]) wr :=
        (hNum.map.look_in intKeyed Tryz.underlying46 (sessZero _) (sessR_mk sess0) sessR_inv hsl (zkey (by have := Hid1.out s hsl; omega) (by have := Hid1.out s hsl; omega))).2
      have hz : w2.heap.size ≤ wr.heap.size := Hb.out.size
      have Hkl : Hid (((l.filter f).take k).length = k) := by
        show _ = _
        rw [List.length_take]
        have := Hzl.out
        omega
      have hrow' : wr.ownsRow w2.heap.size 35 5 u5 ((l.filter f).take k).length (sCells ((l.filter f).take k)) := by rw [Hkl.out]; exact Hrow.out
      clear he1 he2 hNum
      go_wp2_with (first
        | (at_builtin; refine app_sess _ rfl _ _ rfl w2.heap.size u5 ((l.filter f).take k) rfl hrow' s rfl (by rw [Hkl.out]; omega) hz ?_; intro v' w3 hrow3 hg3)
        | go_in)
      go_roundw
      case rel =>
        rw [← Hs.out] at hrow3
        refine ⟨k + 1, by omega, by go_num, ?_, Hb.out.trans ⟨hg3.os, hg3.tape, hg3.output, hg3.size, fun i hi => hg3.block i (by omega) (row_ne_low hrow' hi)⟩⟩
        have e : ((l.filter f).take (k + 1)).length = k + 1 := by rw [Hs.out, List.length_append, Hkl.out]; rfl
        rw [e] at hrow3
        exact hrow3
      case measure => simp [intOf]; omega
    · have e : k = N := by omega
      subst e
      go_wp2
      go_ret
      have h3 := Hrow.out
      rw [show (l.filter f).take k = l.filter f from List.take_of_length_le (by have := Hzl.out; omega), Hzl.out] at h3
      exact ⟨_, rfl, h3.mono Hb2.out.size, Below.on' Hb2.out Hb.out⟩
end Go.Proofs.YtmnhhomkglffcaaGreatDoor.Fam
