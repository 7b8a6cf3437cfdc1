/- Drop of numbered sessions, by a contract. -/
import Derived.Test.YtcchlcbonfdhpaaDoorSThings
namespace Go.Proofs.YtcchlcbonfdhpaaDoor
open Go.RowKit Go.Maps Go.Sort Go.Shelf
set_option linter.unusedVariables false

theorem NumAt.pne {w : World} {p o mb n : Nat} {next : Int} {l : List Sess} (h : NumAt w p o mb n next l) : p ≠ mb := by
  rintro rfl
  obtain ⟨es, clock, hb⟩ := h.map.isMap
  have := h.c0
  simp [World.cell?, hb] at this
theorem grown_of_out {w w' : World} {r : Nat} (h : Out (fun k => k = r) w w') : w.grownBy w' (some r) := ⟨h.os, h.tape, h.output, h.size, fun i hi hne => h.block i hi (fun e => hne (by rw [e]))⟩

/-- those whose numbers are not among some -/
def without (l : List Sess) (zs : List Int) : List Sess := l.filter fun s => !zs.contains s.id
theorem without_nil (l : List Sess) : without l [] = l := by unfold without; exact List.filter_eq_self.2 fun s _ => by simp
theorem without_snoc (l : List Sess) (zs : List Int) (x : Int) (t : Sess) : t ∈ without l (zs ++ [x]) ↔ (t ∈ without l zs ∧ t.id ≠ x) := by
  unfold without
  rw [List.mem_filter, List.mem_filter]
  simp only [List.contains_eq_mem, List.mem_append, List.mem_singleton, Bool.not_eq_true', decide_eq_false_iff_not, not_or]
  exact ⟨fun ⟨a, b, c⟩ => ⟨⟨a, b⟩, c⟩, fun ⟨⟨a, b⟩, c⟩ => ⟨a, b, c⟩⟩
theorem without_wanted {l : List Sess} (h1 : Nums1 Sess.id l) (f : Sess → Bool) : without l (wantedIds l f) = l.filter fun s => !f s := by
  unfold without
  refine List.filter_congr fun s hs => ?_
  congr 1
  rw [Bool.eq_iff_iff, List.contains_iff_mem]
  unfold wantedIds
  rw [List.mem_map]
  constructor
  · rintro ⟨t, ht, e⟩
    obtain ⟨h2, h3⟩ := List.mem_filter.1 ht
    have := h1.eq h2 hs e
    subst this
    exact h3
  · intro hf
    exact ⟨s, List.mem_filter.2 ⟨hs, hf⟩, rfl⟩

set_option maxHeartbeats 1600000 in
theorem drop_any {w : World} {p o mb n : Nat} {next : Int} {l : List Sess} (h : NumAt w p o mb n next l) (hup : l.Pairwise (fun a b => a.id < b.id)) (hln : l.length ≤ 1000000000) (hid1 : ∀ s ∈ l, 1 ≤ s.id ∧ s.id ≤ 1099511627776) (f : Sess → Bool) (F : Nat) (cap : Array Value)
    (heg : ∀ args w, (callFunc F args).run Tryd.prog w = .ok (.enter F args) w)
    (hcl : ∀ s ∈ l, ∀ W, Below w.heap.size w W → Calls Tryd.prog F (#[.agg #[.int .i64 s.id, .string s.ten, .string s.usr, .int .i64 s.since, .int .i64 s.used]] ++ cap) W fun e w' => e = .returned (.bool (f s)) ∧ Below W.heap.size W w') :
    Calls Tryd.prog 50 #[.pointer (some ⟨p, o, none⟩), .func (.func F) #[] cap] w fun e w' => ∃ v, e = .returned v ∧ w'.ownsRow w.heap.size 3 1 v (l.filter f).length (zCells (wantedIds l f)) ∧ NumAt w' p o mb n next (l.filter fun s => !f s) ∧ Out (fun k => k = mb) w w' := by
  have h1 : Nums1 Sess.id l := hup.imp (fun h => by omega)
  have Hn := hid (numbers_any h hup hln f F cap heg hcl)
  have H := hid h
  have H1 := hid h1
  have hpne := h.pne
  have hmlt := h.lts.2
  have hll : (l.filter f).length ≤ 1000000000 := Nat.le_trans (List.length_filter_le f l) hln
  have Hid1 := hid hid1
  clear h hup hcl heg hid1 h1
  go_enter Tryd.func50, Tryd.ntmps50
  go_wp2_with (go_at_call 55; refine Hn.out.mono ?_; rintro e w2 ⟨v, rfl, hrow, hb2⟩; obtain ⟨a, c, rfl, hints, hcap⟩ := ints_of_own hrow)
  have Hints := hid hints
  have Hb2 := hid hb2
  have Hrow := hid hrow
  have hzl : (wantedIds l f).length = (l.filter f).length := by simp [wantedIds]
  generalize hN : (wantedIds l f).length = N at *
  have HN := hid hN
  have Hzl := hid hzl
  have hN2 : N ≤ 1000000000 := by omega
  clear hints hb2 hrow hcap hN hzl
  go_loopw [13] (fun i wr => ∃ k : Nat, k ≤ N ∧ i = .int .i64 k ∧ NumAt wr p o mb n next (without l ((wantedIds l f).take k)) ∧ Out (fun k => k = mb) w2 wr)
    (fun i _ => N - (intOf i).toNat)
  case atStart => exact ⟨0, Nat.zero_le _, rfl, by rw [List.take_zero, without_nil]; exact H.out.below Hb2.out, Out.refl _ _⟩
  case round =>
    obtain ⟨k, hk, rfl, hNum, ho⟩ := hrel
    have Ho := hid ho
    have HNum := hid hNum
    clear ho hNum
    by_cases hlt : k < N
    · obtain ⟨s, hsl, hfs, he1, he2⟩ := wantedIds_get (l := l) (f := f) (k := k) (by rw [HN.out]; exact hlt)
      obtain ⟨b, o', ea, hc⟩ := Hints.out k (by rw [HN.out]; exact hlt)
      cases ea
      have hbb : b ≠ mb := by
        rintro rfl
        rcases Hrow.out.2 with ⟨h0, _⟩ | ⟨g, cap', cur, h0, hg, _⟩
        · cases h0
        · cases h0
          omega
      have hc2 := (World.cell?_of_block (a := ⟨b, o' + k, none⟩) (Ho.out.block b (World.block_lt_of_cell? _ _ hc) hbb)).trans hc
      rw [he1] at hc2
      have Hs : Hid ((wantedIds l f).take (k + 1) = (wantedIds l f).take k ++ [s.id]) := take_snoc_get (by rw [← he1]; simp [HN.out, hlt])
      have c1 := HNum.out.c1
      obtain ⟨D, hown, hh, ha⟩ := HNum.out.map
      have Hh := hid hh
      have Ha := hid ha
      have hkey : keyOf Tryd.prog 3 (.int .i64 s.id) = some (zk s.id) := zkey (by have := Hid1.out s hsl; omega) (by have := Hid1.out s hsl; omega)
      clear he1 he2 hc hh ha
      go_wp2_with (first
        | (at_delete; refine wpList_delete_own _ rfl _ _ 37 3 rfl 42 intKeyed Tryd.underlying37 _ mb n D rfl hown _ _ rfl hkey ?_; intro w3 hown3 hturn3)
        | go_in)
      go_roundw
      case rel =>
        have ho3 : Out (fun k => k = mb) wr w3 := Out.of_grown hturn3.grown rfl
        refine ⟨k + 1, by omega, by go_num, ?_, Ho.out.trans ho3 (fun _ _ e => e)⟩
        rw [Hs.out]
        have hp3 := ho3.block p HNum.out.lts.1 hpne
        exact ⟨(World.cell?_of_block (a := ⟨p, o, none⟩) hp3).trans HNum.out.c0, (World.cell?_of_block (a := ⟨p, o + 1, none⟩) hp3).trans HNum.out.c1, fun j => (World.frozen?_of_block (a := ⟨p, j, none⟩) hp3).trans (HNum.out.z j), NMap.del Hh.out Ha.out hown3 (fun t => without_snoc _ _ _ _)⟩
      case measure => simp [intOf]; omega
    · have e : k = N := by omega
      subst e
      go_wp2
      go_ret
      have h3 := HNum.out
      rw [show (wantedIds l f).take k = wantedIds l f from List.take_of_length_le (by have := HN.out; omega), without_wanted H1.out] at h3
      refine ⟨_, rfl, ?_, h3, (Out.of_below Hb2.out).trans Ho.out (fun _ _ e => e)⟩
      have h4 := Hrow.out.kept (grown_of_out Ho.out) (.inr (Ne.symm (row_ne_low Hrow.out hmlt)))
      exact h4
end Go.Proofs.YtcchlcbonfdhpaaDoor
