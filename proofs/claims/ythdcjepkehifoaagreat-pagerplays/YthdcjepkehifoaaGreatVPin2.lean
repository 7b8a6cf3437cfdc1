/- YthdcjepkehifoaaGreatVPin1 + YthdcjepkehifoaaGreatVPin2 -/
import Derived.Test.YthdcjepkehifoaaGreatVAgree
import Derived.Test.YthdcjepkehifoaaGreatWOne
import Derived.Shelf.SlicesG.CompactI
import Derived.Lib.RowBridge
/- distinct and pinnedWith of package pager; ContainsFunc by isDirty: exact. -/
namespace Go.Proofs.YthdcjepkehifoaaGreat
open Go.RowKit Go.Maps Go.Sort Go.Shelf
set_option linter.unusedVariables false
set_option maxRecDepth 20000

/-- cells of whole numbers -/
abbrev zCells (zs : List Int) : List Value := zs.map (Value.int .i64)
theorem nat_ints (l : List Nat) : natCells l = zCells (l.map fun (n : Nat) => (n : Int)) := by
  unfold natCells zCells
  rw [List.map_map]
  rfl
/-- a row of numbers of one's own is sorted -/
theorem sort_z {w : World} {B n : Nat} {v : Value} {zs : List Int} (h : w.ownsRow B 3 1 v n (zCells zs)) (hl : zs.length < 4611686018427387904) :
    Calls Tryz.prog 131 #[v] w fun e w' => e = .returned (.tuple #[]) ∧ w'.ownsRow B 3 1 v n (zCells (zs.mergeSort fun x y => decide (x ≤ y))) ∧ Below B w w' := by
  have hn : zs.length = n := by have := h.1; simpa using this
  subst hn
  rcases h.2 with ⟨rfl, h0⟩ | ⟨g, cap, cur, rfl, hg, hb, hc, hm, hs, ht⟩
  · have : zs = [] := List.length_eq_zero_iff.1 h0
    subst this
    refine (AnyM.slices_Sort_int_none Tryz.sortA none 0 w).mono ?_
    rintro e w' ⟨rfl, rfl⟩
    exact ⟨rfl, by rw [show ([] : List Int).mergeSort (fun x y => decide (x ≤ y)) = [] from by simp]; exact h, Below.refl _ _⟩
  · have hH : Holds (Value.int .i64) w g 0 zs.toArray := holds_of_blockI hb (by rw [Nat.mul_one] at ht; exact ht)
    refine (AnyM.slices_Sort_int Tryz.sortA g 0 cap zs w hH (Array.getElem?_eq_some_iff.1 hb).1 hl).mono ?_
    rintro e w' ⟨rfl, m, os, rfl⟩
    have hg2 := grownBy_sortedI (w := w) (g := g) (n := m) (os := os) (zs.mergeSort fun x y => decide (x ≤ y)).toArray
    refine ⟨rfl, ownsRow_sortedI (ss := zs) (ts := zs.mergeSort fun x y => decide (x ≤ y)) (List.length_mergeSort _) hg hb hc hm hs, hg2.os, hg2.tape, hg2.output, hg2.size, fun k hk => ?_⟩
    by_cases hk2 : k < w.heap.size
    · exact hg2.block k hk2 (fun e => by cases e; omega)
    · have := (Array.getElem?_eq_some_iff.1 hb).1
      omega
theorem put_below {w : World} {B g n : Nat} (hB : B ≤ g) (d : Array Int) : Below B w (putRow (Value.int .i64) (Sort.ahead w n) g 0 d) := by
  refine ⟨rfl, rfl, rfl, by simp, fun k hk => ?_⟩
  have : g ≠ k := by omega
  simp [putRow, mapBlock, Sort.ahead, Array.getElem?_modify, this]
/-- Compact -/
theorem compact_z {w : World} {B n : Nat} {v : Value} {zs : List Int} (h : w.ownsRow B 3 1 v n (zCells zs)) (hl : zs.length ≤ 4611686018427387904) :
    Calls Tryz.prog 180 #[v] w fun e w' => ∃ a c, e = .returned (.slice a (Lib.compact zs).length c) ∧ Below B w w' := by
  have hn : zs.length = n := by have := h.1; simpa using this
  subst hn
  rcases h.2 with ⟨rfl, h0⟩ | ⟨g, cap, cur, rfl, hg, hb, hc, hm, hs, ht⟩
  · have : zs = [] := List.length_eq_zero_iff.1 h0
    subst this
    refine (AnyG.slices_Compact_int_empty Tryz.compF none 0 w).mono ?_
    rintro e w' ⟨rfl, rfl⟩
    exact ⟨_, _, rfl, Below.refl _ _⟩
  · have hH : Holds (Value.int .i64) w g 0 zs.toArray := holds_of_blockI hb (by rw [Nat.mul_one] at ht; exact ht)
    refine (AnyG.slices_Compact_int Tryz.compF g 0 cap zs w hH (by omega) (by omega)).mono ?_
    rintro e w' ⟨rfl, q, rfl⟩
    exact ⟨_, _, rfl, put_below hg _⟩
set_option maxHeartbeats 800000 in
/-- Clone of numbers that lie anywhere -/
theorem clone_z (w : World) (a : Option Addr) (zs : List Int) (c : Nat) (hi : IntsAt w a zs) (hl : zs.length ≤ 17592186044415) :
    Calls Tryz.prog 115 #[.slice a zs.length c] w fun e w' => ∃ v', e = .returned v' ∧ w'.ownsRow w.heap.size 3 1 v' zs.length (zCells zs) ∧ Below w.heap.size w w' := by
  obtain ⟨i0, hi0, hz0, hz1, hz2⟩ := info_parts Tryz.info3
  have q22 : ∀ (w : World) (a : Option Addr) (n c n' c' : Nat), (binOp .eql 30 (.slice a n c) (.slice none n' c')).run Tryz.prog w = .ok (.bool a.isNone) w := fun w a n c n' c' => Lib.run_eql_slice_nil w _ _ a n c n' c' Tryz.underlying30
  cases a with
  | none =>
    have hl0 : zs = [] := by
      cases zs with
      | nil => rfl
      | cons x t => obtain ⟨b, o, e, _⟩ := hi 0 (by simp); cases e
    subst hl0
    clear hi
    go_enter Tryz.func115, Tryz.ntmps115
    go_wp2
    go_ret
    exact ⟨_, rfl, ⟨rfl, .inl ⟨rfl, rfl⟩⟩, Below.refl _ _⟩
  | some ad =>
    obtain ⟨n, hn⟩ : ∃ n, n = zs.length := ⟨_, rfl⟩
    have HB := hid hi
    rw [← hn]
    rw [← hn] at hl
    clear hi
    go_enter Tryz.func115, Tryz.ntmps115
    go_wp2_with (at_builtin; refine wpList_append_own _ rfl _ _ 30 rfl w.heap.size 3 i0 (.int .i64 0) 1 8 Tryz.underlying30 hi0 hz0 hz1 hz2 rfl (by decide) _ _ _ rfl (World.ownsRow_made w #[] 0 (Nat.le_refl _) (Nat.zero_le _) rfl) ad n c (zCells zs) rfl ?qc1 ?qc2 ?qc3 ?qc4 ?qc5 ?qc6 ?_)
    case qc1 => simp [hn]
    case qc2 =>
      intro j u hj
      have hjn : j < zs.length := by
        have := (List.getElem?_eq_some_iff.1 hj).1
        simpa using this
      obtain ⟨b, o, e, hc⟩ := HB.out j hjn
      cases e
      rw [addr_add]
      have hu : u = .int .i64 zs[j] := by
        rw [List.getElem?_map, List.getElem?_eq_getElem hjn] at hj
        simpa using hj.symm
      rw [hu]
      exact (World.cell?_alloc_some _ _ _ (by rw [hc]; rfl)).trans hc
    case qc3 =>
      intro u hu
      obtain ⟨x, _, rfl⟩ := List.mem_map.1 hu
      rfl
    case qc4 => unfold maxLen; omega
    case qc5 => omega
    case qc6 => simp
    intro v' w1 hown hgrow hnil
    go_wp2
    go_ret
    refine ⟨v', rfl, by subst hn; simpa using hown, ((Below.refl _ w).alloc (Nat.le_refl _) _).grown hgrow (by simp) (by intro k hk; simp [Value.ownBlock] at hk; omega)⟩
theorem own_ints {w : World} {B n : Nat} {v : Value} {zs : List Int} (h : w.ownsRow B 3 1 v n (zCells zs)) : ∃ a c, v = .slice a zs.length c ∧ IntsAt w a zs := by
  have hn : zs.length = n := by have := h.1; simpa using this
  subst hn
  rcases h.2 with ⟨rfl, h0⟩ | ⟨g, cap, cur, rfl, hg, hb, hc, hm, hs, ht⟩
  · exact ⟨none, 0, by rw [h0], fun i hi => by omega⟩
  · refine ⟨_, _, rfl, fun i hi => ⟨g, 0, rfl, ?_⟩⟩
    have h1 := h.cellAt i (by omega)
    rw [Nat.zero_add, h1, List.getElem?_map, List.getElem?_eq_getElem hi]
    rfl
set_option maxHeartbeats 400000 in
theorem distinct_z {w : World} (a : Option Addr) (zs : List Int) (c : Nat) (hi : IntsAt w a zs) (hl : zs.length ≤ 17592186044415) :
    Calls Tryz.prog 152 #[.slice a zs.length c] w fun e w' => ∃ a c, e = .returned (.slice a (dist zs).length c) ∧ Below w.heap.size w w' := by
  have Hc := hid (clone_z w a zs c hi hl)
  clear hi
  go_enter Tryz.func152, Tryz.ntmps152
  go_wp2_with (fail)
  refine Hc.out.mono ?_
  rintro e w1 ⟨v1, rfl, hr1, hb1⟩
  have Hs := hid (sort_z hr1 (by omega))
  have Hb1 := hid hb1
  clear hr1 hb1 Hc
  go_wp2_with (fail)
  refine Hs.out.mono ?_
  rintro e w2 ⟨rfl, hr2, hb2⟩
  have Hcp := hid (compact_z hr2 (by rw [List.length_mergeSort]; omega))
  have Hb2 := hid (Hb1.out.trans hb2)
  clear hr2 hb2 Hs Hb1
  go_wp2_with (fail)
  refine Hcp.out.mono ?_
  rintro e w3 ⟨a3, c3, rfl, hb3⟩
  have Hb3 := hid (Hb2.out.trans hb3)
  clear hb3 Hcp Hb2
  go_wp2
  go_ret
  exact ⟨_, _, rfl, Hb3.out⟩
set_option maxHeartbeats 800000 in
/-- IndexFunc by isDirty -/
theorem idxDi_any {w : World} {p : Nat} {m : PM} {s : PS} (h : PgMem w p m s) (a : Option Addr) (l : List Int) (c : Nat) (hn : IntsAt w a l) (hl : l.length ≤ 9223372036854775807) (hwf : ∀ x ∈ l, -9223372036854775808 ≤ x ∧ x ≤ 9223372036854775807) :
    Calls Tryz.prog 160 #[.slice a l.length c, .func (.func 120) #[.pointer (some ⟨p, 0, none⟩)] #[]] w fun e w' => (∃ i : Int, e = .returned (.int .i64 i) ∧ (0 ≤ i ↔ ∃ x ∈ l, isDi s x = true)) ∧ w' = w := by
  have H := hid h
  have Hn := hid hn
  have Hwf := hid hwf
  clear h hn hwf
  go_enter Tryz.func160, Tryz.ntmps160
  go_wp2
  go_loopw [8] (fun i wr => ∃ k : Nat, k ≤ l.length ∧ i = .int .i64 k ∧ (∀ x ∈ l.take k, isDi s x = false) ∧ wr = w) (fun i _ => l.length - (intOf i).toNat)
  case atStart => exact ⟨0, Nat.zero_le _, rfl, fun x hx => by simp at hx, rfl⟩
  case round =>
    obtain ⟨k, hk, rfl, hno, rfl⟩ := hrel
    have Hno := hid hno
    clear hno
    by_cases hlt : k < l.length
    · obtain ⟨b, o, rfl, hc⟩ := Hn.out k hlt
      have hx := Hwf.out _ (List.getElem_mem hlt)
      have Hm := hid (List.getElem_mem hlt)
      have Htk := hid (List.take_succ_eq_append_getElem hlt)
      generalize l[k] = x at *
      have Hi := hid (isDirty_any H.out x hx)
      have g1 : (k : Int) < (l.length : Int) := by omega
      have g2 : (0 : Int) ≤ (k : Int) := by omega
      cases hd : isDi s x with
      | true =>
        rw [hd] at Hi
        have Hd := hid hd
        clear hd
        go_wp2_with (fail)
        refine Hi.out.mono ?_
        rintro e u ⟨rfl, hu⟩
        subst u
        go_wp2
        go_ret
        exact ⟨⟨_, rfl, ⟨fun _ => ⟨x, Hm.out, Hd.out⟩, fun _ => g2⟩⟩, rfl⟩
      | false =>
        rw [hd] at Hi
        have Hd := hid hd
        clear hd
        go_wp2_with (fail)
        refine Hi.out.mono ?_
        rintro e u ⟨rfl, hu⟩
        subst u
        go_wp2
        go_roundw
        case rel => exact ⟨k + 1, by omega, by go_num, by rw [Htk.out]; intro z hz; rcases List.mem_append.1 hz with hz | hz; exact Hno.out z hz; rw [List.mem_singleton.1 hz]; exact Hd.out, trivial⟩
        case measure => simp [intOf]; omega
    · have hkl : k = l.length := by omega
      subst hkl
      have g1 : ¬ (l.length : Int) < (l.length : Int) := by omega
      go_wp2
      go_ret
      refine ⟨⟨-1, rfl, ?_⟩, rfl⟩
      constructor
      · intro hf; omega
      · rintro ⟨x, hx, e⟩
        rw [Hno.out x (by rw [List.take_length]; exact hx)] at e
        cases e
theorem contDi_any {w : World} {p : Nat} {m : PM} {s : PS} (h : PgMem w p m s) (a : Option Addr) (l : List Int) (c : Nat) (hn : IntsAt w a l) (hl : l.length ≤ 9223372036854775807) (hwf : ∀ x ∈ l, -9223372036854775808 ≤ x ∧ x ≤ 9223372036854775807) :
    Calls Tryz.prog 124 #[.slice a l.length c, .func (.func 120) #[.pointer (some ⟨p, 0, none⟩)] #[]] w fun e w' => e = .returned (.bool (decide (∃ x ∈ l, isDi s x = true))) ∧ w' = w := by
  have Hi := hid (idxDi_any h a l c hn hl hwf)
  clear h hn hwf
  by_cases hd : ∃ x ∈ l, isDi s x = true
  · rw [decide_eq_true hd]
    have Hd := hid hd
    clear hd
    go_enter Tryz.func124, Tryz.ntmps124
    go_wp2_with (fail)
    refine Hi.out.mono ?_
    rintro e u ⟨⟨i, rfl, hi⟩, hu⟩
    subst u
    have g1 := hi.2 Hd.out
    clear hi
    go_wp2
    go_ret
    exact ⟨rfl, rfl⟩
  · rw [decide_eq_false hd]
    have Hd := hid hd
    clear hd
    go_enter Tryz.func124, Tryz.ntmps124
    go_wp2_with (fail)
    refine Hi.out.mono ?_
    rintro e u ⟨⟨i, rfl, hi⟩, hu⟩
    subst u
    have g1 : ¬ 0 ≤ i := fun h => Hd.out (hi.1 h)
    clear hi
    go_wp2
    go_ret
    refine ⟨?_, rfl⟩
    show Ending.returned (Value.bool (decide (0 ≤ i))) = _
    rw [decide_eq_false (by omega)]
/-- whether a number is that of a pinned page -/
def isPi (s : PS) (x : Int) : Bool := decide (0 ≤ x) && (decide (x.toNat ∈ s.ord) && s.pin x.toNat)
set_option maxHeartbeats 400000 in
theorem isPi_any {w : World} {p : Nat} {m : PM} {s : PS} (h : PgMem w p m s) (x : Int) (hx : -9223372036854775808 ≤ x ∧ x ≤ 9223372036854775807) :
    Calls Tryz.prog 153 #[.pointer (some ⟨p, 0, none⟩), .int .i64 x] w fun e w' => e = .returned (.bool (isPi s x)) ∧ w' = w := by
  by_cases h0 : 0 ≤ x
  · obtain ⟨q, rfl⟩ : ∃ q : Nat, x = (q : Int) := ⟨x.toNat, by omega⟩
    have := isPinned_any h q (by omega)
    unfold isPi
    rw [decide_eq_true h0, Bool.true_and, Int.toNat_natCast]
    exact this
  · have c3 := h.c3
    have hl := (h.cmap.look_out Tryz.underlying151 (zeroFr w) (x := x) (by left; omega) (WalkArith.wf_i64 hx)).1
    unfold isPi
    rw [decide_eq_false h0, Bool.false_and]
    clear h
    go_enter Tryz.func153, Tryz.ntmps153
    go_wp2
    go_ret
    exact ⟨rfl, rfl⟩
/-- the pinned pages -/
def pinsOf (s : PS) : List Nat := s.ord.filter s.pin
def withZ (s : PS) (zs : List Int) (k : Nat) : List Int := zs ++ ((s.ord.take k).filter s.pin).map fun (n : Nat) => (n : Int)
set_option maxHeartbeats 1600000 in
/-- pinnedWith -/
theorem pinned_any {w : World} {p : Nat} {m : PM} {s : PS} (h : PgMem w p m s) (hP : s.P ≤ 1024) (a : Option Addr) (zs : List Int) (c : Nat) (hi : IntsAt w a zs) (hl : zs.length ≤ 17592186044000) :
    Calls Tryz.prog 125 #[.pointer (some ⟨p, 0, none⟩), .slice a zs.length c] w fun e w' => e = .returned (.int .i64 ((dist (zs ++ (pinsOf s).map fun (n : Nat) => (n : Int))).length : Int)) ∧ Below w.heap.size w w' := by
  obtain ⟨i0, hi0, hz0, hz1, hz2⟩ := info_parts Tryz.infoInt
  have Hc := hid (clone_z w a zs c hi (by omega))
  have H := hid h
  have hrow := h.row
  have hol : s.ord.length ≤ 100 := by have := h.ok.ol; have := h.ok.mo2; omega
  rw [nat_ints] at hrow
  obtain ⟨oa, oc, hov, _⟩ := own_ints hrow
  rw [List.length_map] at hov
  have Hov := hid hov
  have Holt := hid h.ok.olt
  clear h hrow hov hi
  go_enter Tryz.func125, Tryz.ntmps125
  go_wp2_with (fail)
  refine Hc.out.mono ?_
  rintro e w1 ⟨v1, rfl, hr1, hb1⟩
  have H1 := H.out.below hb1
  have c4 := H1.c4
  rw [Hov.out] at c4
  have Hb1 := hid hb1
  have Hr0 : Hid (w1.ownsRow w.heap.size 3 1 v1 (withZ s zs 0).length (zCells (withZ s zs 0))) := by
    show w1.ownsRow _ _ _ _ _ _
    have e : withZ s zs 0 = zs := by simp [withZ]
    rw [e]; exact hr1
  clear hr1 hb1 Hc H1
  go_wp2
  go_loopw [5, 15] (fun x i wr => ∃ k : Nat, k ≤ s.ord.length ∧ i = .int .i64 k ∧ wr.ownsRow w.heap.size 3 1 x (withZ s zs k).length (zCells (withZ s zs k)) ∧ Below w.heap.size w wr) (fun _ i _ => s.ord.length - (intOf i).toNat)
  case atStart => exact ⟨0, Nat.zero_le _, rfl, Hr0.out, Hb1.out⟩
  case round =>
    obtain ⟨k, hk, rfl, hr, hB⟩ := hrel
    have Hown := hid hr
    have HB := hid hB
    have Hk := H.out.below hB
    clear hr hB Hr0
    by_cases hlt : k < s.ord.length
    · have hrw := Hk.row
      rw [nat_ints] at hrw
      obtain ⟨oa', oc', hov', hia⟩ := own_ints hrw
      rw [Hov.out, List.length_map] at hov'
      cases hov'
      obtain ⟨b, o, rfl, hc⟩ := hia k (by rw [List.length_map]; exact hlt)
      rw [List.getElem_map] at hc
      have hxP := Holt.out _ (List.getElem_mem hlt)
      have hin := List.getElem_mem hlt
      have Htk := hid (List.take_succ_eq_append_getElem hlt)
      generalize s.ord[k] = x at *
      have Hi := hid (isPinned_any Hk x (by omega))
      rw [decide_eq_true hin, Bool.true_and] at Hi
      have g1 : (k : Int) < (s.ord.length : Int) := by omega
      have g2 : (0 : Int) ≤ (k : Int) := by omega
      have hwl : (withZ s zs k).length ≤ zs.length + 100 := by
        unfold withZ
        rw [List.length_append, List.length_map]
        have := List.length_filter_le s.pin (s.ord.take k)
        rw [List.length_take] at this
        omega
      clear hrw hia Hk hin
      cases hp : s.pin x with
      | true =>
        rw [hp] at Hi
        have Hst : Hid (withZ s zs (k + 1) = withZ s zs k ++ [(x : Int)]) := by
          show _ = _
          unfold withZ
          rw [Htk.out, List.filter_append, List.filter_cons_of_pos hp, List.map_append, List.append_assoc]
          rfl
        clear hp
        generalize withZ s zs k = t at *
        go_wp2_with (first
          | (go_at_call 153; refine Hi.out.mono ?_; rintro e u ⟨rfl, hu⟩; subst u)
          | (at_builtin; refine wpList_append_own_at _ rfl _ _ 30 rfl w.heap.size 3 i0 (.int .i64 0) 1 8 Tryz.underlying30 hi0 hz0 hz1 hz2 rfl (by decide) _ _ _ rfl (Hown.out.alloc _) ⟨wr.heap.size, 0, none⟩ 1 1 [.int .i64 (x : Int)] rfl rfl (World.news_of_block (cs := #[.int .i64 (x : Int)]) (t := 3) (fr := (0, 0)) (heap_alloc_new wr _)) (by simp [Value.oneCell']) (by unfold maxLen; omega) (by omega) (by rw [World.size_alloc]; have := HB.out.size; omega) ?_; intro v' w6 hown6 hgrow6 hnil6 hloc6))
        go_roundw
        case rel => exact ⟨k + 1, by omega, by go_num, by rw [Hst.out, List.length_append, zCells, List.map_append]; exact hown6, (HB.out.alloc HB.out.size _).grown hgrow6 (by rw [World.size_alloc]; have := HB.out.size; omega) (fun j e => (Hown.out.lt j e).1)⟩
        case measure => simp [intOf]; omega
      | false =>
        rw [hp] at Hi
        have Hst : Hid (withZ s zs (k + 1) = withZ s zs k) := by
          show _ = _
          unfold withZ
          rw [Htk.out, List.filter_append, List.filter_cons_of_neg (by rw [hp]; exact Bool.false_ne_true)]
          simp
        clear hp
        go_wp2_with (first
          | (go_at_call 153; refine Hi.out.mono ?_; rintro e u ⟨rfl, hu⟩; subst u))
        go_roundw
        case rel => exact ⟨k + 1, by omega, by go_num, by rw [Hst.out]; exact Hown.out, HB.out⟩
        case measure => simp [intOf]; omega
    · have hkl : k = s.ord.length := by omega
      subst hkl
      have g1 : ¬ (s.ord.length : Int) < (s.ord.length : Int) := by omega
      have hwl : (withZ s zs s.ord.length).length ≤ zs.length + 100 := by
        unfold withZ
        rw [List.length_append, List.length_map]
        have := List.length_filter_le s.pin (s.ord.take s.ord.length)
        rw [List.length_take] at this
        omega
      obtain ⟨a2, c2, hv2, hia2⟩ := own_ints Hown.out
      subst hv2
      have Hdi := hid (distinct_z a2 (withZ s zs s.ord.length) c2 hia2 (by omega))
      have Hw : Hid (withZ s zs s.ord.length = zs ++ (pinsOf s).map fun (n : Nat) => (n : Int)) := by
        show _ = _
        unfold withZ pinsOf
        rw [List.take_length]
      clear hia2 Hk
      go_wp2_with (fail)
      refine Hdi.out.mono ?_
      rintro e w2 ⟨a3, c3, rfl, hb2⟩
      have Hb2 := hid (HB.out.trans (hb2.mono HB.out.size))
      clear hb2 Hdi
      rw [Hw.out]
      go_wp2
      go_ret
      exact ⟨rfl, Hb2.out⟩
end Go.Proofs.YthdcjepkehifoaaGreat

/- Pin and Unpin of package pager, by contracts: any cache, any numbers. -/
namespace Go.Proofs.YthdcjepkehifoaaGreat
open Go.RowKit Go.Maps Go.Sort Go.Shelf
set_option linter.unusedVariables false
set_option maxRecDepth 20000
theorem upd_eq {α : Type} (f : Nat → α) (q : Nat) (v : α) : upd f q v q = v := by simp [upd]
theorem upd_ne' {α : Type} (f : Nat → α) {q x : Nat} (v : α) (h : x ≠ q) : upd f q v x = f x := by simp [upd, h]
section
variable {w w' : World} {p : Nat} {m : PM} {s : PS} {F : Nat → Prop}
theorem PgMem.setPin (h : PgMem w p m s) {q : Nat} (hq : q ∈ s.ord) (bv : Bool) : PgMem (w.setCell ⟨m.fr q, 1, none⟩ (.bool bv)) p m { s with pin := upd s.pin q bv } := by
  obtain ⟨n1, n2, n3, n4, n5⟩ := h.fr_ne hq
  have o : ∀ k, k ≠ m.fr q → (w.setCell ⟨m.fr q, 1, none⟩ (.bool bv)).heap[k]? = w.heap[k]? := fun k hk => heap_setCell_other _ _ _ _ hk
  have hb : ∀ (b : Nat) (x : List UInt8), BBlk w b x → b ≠ m.fr q := fun b x hx e => h.byt hx (.inr (.inr (.inr (.inr (.inr ⟨q, hq, e⟩)))))
  refine ⟨(o p (Ne.symm n1)).trans h.obj, h.log.keep (fun j hj => o j (fun e => n2 (e ▸ hj))) (Nat.le_refl _), ownsRow_keep h.row fun k e => o k (fun e' => n3 (by rw [e, e'])), h.cmap.keep (o _ (Ne.symm n4)), h.dmap.keep (o _ (Ne.symm n5)), fun x hx => ?_, fun x hx => (h.fby x hx).keep (o _ (hb _ _ (h.fby x hx))), fun c hc => (h.dby c hc).keep (o _ (hb _ _ (h.dby c hc))), h.inj, h.cd, h.cl, h.dm', h.cnt, h.dnt, ⟨h.ok.nd, h.ok.olt, h.ok.ol, h.ok.mo1, h.ok.mo2, h.ok.dup, h.ok.dlt, h.ok.dlen, h.ok.hit, h.ok.mit⟩⟩
  by_cases e : x = q
  · subst e
    show (w.setCell ⟨m.fr x, 1, none⟩ (.bool bv)).heap[m.fr x]? = some (.cells #[.slice (some ⟨m.fb x, 0, none⟩) 256 (m.fc x), .bool (upd s.pin x bv x)] 162 (0, 0))
    rw [upd_eq, heap_setCell_same w (m.fr x) 1 _ _ (.bool bv) (h.frm x hx)]
    simp
  · show (w.setCell ⟨m.fr q, 1, none⟩ (.bool bv)).heap[m.fr x]? = some (.cells #[.slice (some ⟨m.fb x, 0, none⟩) 256 (m.fc x), .bool (upd s.pin q bv x)] 162 (0, 0))
    rw [upd_ne' _ _ e]
    exact (o _ (fun e' => e (h.inj x hx q hq e'))).trans (h.frm x hx)
theorem Cache.setPin (h : PgMem w p m s) (he : Ext s) (h3 : ∀ k, F k → k < w.heap.size ∧ ¬ allB p m s k) {q : Nat} (hq : q ∈ s.ord) (bv : Bool) : Cache (w.setCell ⟨m.fr q, 1, none⟩ (.bool bv)) p { s with pin := upd s.pin q bv } F ∧ Kept F w (w.setCell ⟨m.fr q, 1, none⟩ (.bool bv)) := by
  refine ⟨⟨m, h.setPin hq bv, ⟨he.full, he.apart⟩, fun k hk => ⟨by simpa [World.setCell] using (h3 k hk).1, (h3 k hk).2⟩⟩, ⟨rfl, rfl, rfl, by simp [World.setCell], fun k hk hn => heap_setCell_other _ _ _ _ (fun e => hn (fun hF => (h3 k hF).2 ?_))⟩⟩
  exact .inl (.inr (.inr (.inr (.inr (.inr ⟨q, hq, e⟩)))))
theorem use_c (h : Cache w p s F) (ht : s.t ≤ 100000) (hu : s.u ≤ 4611686018427387904) (q : Nat) (hqP : q < s.P) (hd : (s.dl.lookup q).isSome = false) :
    Calls Tryz.prog 119 #[.pointer (some ⟨p, 0, none⟩), .int .i64 (q : Int)] w fun e w' => (∃ b c, e = .returned (.slice (some ⟨b, 0, none⟩) 256 c)) ∧ Cache w' p (useS s q) F ∧ Kept F w w' := by
  obtain ⟨m, h1, h2, h3⟩ := h
  refine (use_any h1 q hqP h2.full ht hu).mono ?_
  rintro e w' ⟨b, c, m', rfl, _, hm, ho, hf⟩
  refine ⟨⟨b, c, rfl⟩, kept_of h1 h2 h3 hm (useS_ext h1.ok h2 hqP hd) ho (fun k hq => by
      rcases hq with e | e | e
      · exact .inl (.inl e)
      · exact .inl (.inr (.inr (.inr (.inl e))))
      · exact .inl (.inr (.inr (.inl e)))) hf⟩
end
/-- the reference's view of a cache -/
def rOf (s : PS) : RS := ⟨s.S, s.P, s.G, s.gs, s.ls, s.mo, s.dl, s.ord, pinsOf s, s.hi, s.mi⟩
theorem agree_of {s : PS} (ok : CaOk s) : Agree s (rOf s) := ⟨rfl, rfl, rfl, rfl, rfl, rfl, rfl, rfl, rfl, List.Perm.refl _, ok.nd.filter _, fun x => by show x ∈ s.ord.filter s.pin ↔ _; rw [List.mem_filter]⟩
/-- how many pages would be pinned -/
theorem pin_len {pins : List Nat} (hp : pins.Nodup) (π : List Nat) (hπ : ∀ x, x ∈ π ↔ x ∈ pins) (zs : List Int) (h0 : ∀ x ∈ zs, 0 ≤ x) : (dist (zs ++ π.map fun (n : Nat) => (n : Int))).length = (pinL pins (zs.map Int.toNat)).length := by
  obtain ⟨d1, d2⟩ := dist_mem (zs ++ π.map fun (n : Nat) => (n : Int))
  obtain ⟨p1, p2⟩ := pinL_spec hp (zs.map Int.toNat)
  have hn : ((pinL pins (zs.map Int.toNat)).map fun (n : Nat) => (n : Int)).Nodup := by
    unfold List.Nodup
    rw [List.pairwise_map]
    exact p1.imp (fun h => by omega)
  rw [nodup_len d1 hn (fun x => ?_), List.length_map]
  rw [d2, List.mem_append, List.mem_map, List.mem_map]
  constructor
  · rintro (hx | ⟨n, hn, rfl⟩)
    · exact ⟨x.toNat, (p2 _).2 (.inr (List.mem_map.2 ⟨x, hx, rfl⟩)), by have := h0 x hx; omega⟩
    · exact ⟨n, (p2 _).2 (.inl ((hπ n).1 hn)), rfl⟩
  · rintro ⟨n, hn, rfl⟩
    rcases (p2 n).1 hn with h | h
    · exact .inr ⟨n, (hπ n).2 h, rfl⟩
    · obtain ⟨x, hx, e⟩ := List.mem_map.1 h
      have := h0 x hx
      exact .inl (by rw [← e]; rwa [Int.toNat_of_nonneg this])
/-- what Pin tells, and leaves -/
def pinE (s : PS) (zs : List Int) : Int := if reachE s.P zs = 0 then (if ∃ x ∈ zs, isDi s x = true then 3 else if s.mo < (pinL (pinsOf s) (zs.map Int.toNat)).length then 7 else 0) else 2
def pinS (s : PS) (zs : List Int) : PS := (zs.map Int.toNat).foldl pin1 s
theorem reach_mem {P : Nat} {zs : List Int} (h : reachE P zs = 0) : ∀ x ∈ zs, 0 ≤ x ∧ x < (P : Int) := by
  unfold reachE at h
  by_cases ha : zs.all (fun x => decide (0 ≤ x) && decide (x < (P : Int))) = true
  · intro x hx
    have := List.all_eq_true.1 ha x hx
    simpa using this
  · rw [if_neg ha] at h; cases h
theorem reach_two {P : Nat} {zs : List Int} (h : ¬ reachE P zs = 0) : reachE P zs = 2 := by
  unfold reachE at h ⊢
  split at h
  · exact absurd rfl h
  · rename_i h2; rw [if_neg h2]
theorem pin1_same (s : PS) (q : Nat) : (pin1 s q).P = s.P ∧ (pin1 s q).mo = s.mo ∧ (pin1 s q).t = s.t ∧ (pin1 s q).u = s.u + 1 ∧ (pin1 s q).dl = s.dl := by
  obtain ⟨a1, a2, a3, a4, a5, a6, a7, a8, a9, a10⟩ := useS_log (s := s) q
  exact ⟨a2, a6, a10, useS_u q, a7⟩
/-- between two rounds of Pin -/
def NRel (w : World) (p : Nat) (F : Nat → Prop) (s0 : PS) (ns : List Nat) (k : Nat) (wr : World) : Prop := ∃ s r, s = (ns.take k).foldl pin1 s0 ∧ Agree s r ∧ (pinL r.pins (ns.drop k)).length ≤ s0.mo ∧ Cache wr p s F ∧ s.P = s0.P ∧ s.mo = s0.mo ∧ s.t = s0.t ∧ s.u = s0.u + k ∧ s.dl = s0.dl ∧ Kept F w wr
def PinC (w : World) (p : Nat) (s : PS) (F : Nat → Prop) (zs : List Int) (e : Ending) (w' : World) : Prop := e = .returned (.int .i64 (pinE s zs)) ∧ Cache w' p (if pinE s zs = 0 then pinS s zs else s) F ∧ Kept F w w'
set_option maxHeartbeats 4000000 in
theorem pin_c {w : World} {p : Nat} {s : PS} {F : Nat → Prop} (h : Cache w p s F) (ht : s.t ≤ 100000) (hu : s.u ≤ 2305843009213693952) (hP : s.P ≤ 1024) (a : Option Addr) (zs : List Int) (c : Nat) (hi : IntsAt w a zs) (hF : ∀ b o, a = some ⟨b, o, none⟩ → 0 < zs.length → F b) (hl : zs.length ≤ 17592186044000) (hwf : ∀ x ∈ zs, -9223372036854775808 ≤ x ∧ x ≤ 9223372036854775807) :
    Calls Tryz.prog 70 #[.pointer (some ⟨p, 0, none⟩), .slice a zs.length c] w (PinC w p s F zs) := by
  have HC := hid h
  obtain ⟨m, h1, h2, h3⟩ := h
  have H1 := hid h1
  have Hi := hid hi
  have HF := hid hF
  have Hwf := hid hwf
  have hre := pgReach_any h1 a zs c hi (by omega)
  have hlt : ∀ u : World, Kept F w u → IntsAt u a zs := fun u hk i hi' => by
    obtain ⟨b, o, e, hc⟩ := Hi.out i hi'
    exact ⟨b, o, e, (World.cell?_of_block (a := ⟨b, o + i, none⟩) (hk.get (HF.out b o e (by omega)) (World.block_lt_of_cell? _ _ hc))).trans hc⟩
  have Hlt := hid hlt
  unfold PinC
  by_cases hz : reachE s.P zs = 0
  · rw [hz] at hre
    have Hre := hid hre
    have Hmem := hid (reach_mem hz)
    have Hz := hid hz
    clear h1 h2 h3 hi hF hwf hre hlt hz
    by_cases hd : ∃ x ∈ zs, isDi s x = true
    · have Hpe : Hid (pinE s zs = 3) := by
        show _ = _
        unfold pinE
        rw [if_pos Hz.out, if_pos hd]
      rw [Hpe.out, if_neg (by decide)]
      have hdd := decide_eq_true hd
      clear hd
      go_enter Tryz.func70, Tryz.ntmps70
      go_wp2_with (fail)
      refine Hre.out.mono ?_
      rintro e w1 ⟨rfl, hb1⟩
      have H2 := hid (H1.out.below hb1)
      have Hb1 := hid hb1
      have Hcd := hid (contDi_any H2.out a zs c (Hlt.out w1 (Kept.of_below hb1)) (by omega) Hwf.out)
      rw [hdd] at Hcd
      clear hb1 Hre
      go_wp2_with (fail)
      refine Hcd.out.mono ?_
      rintro e u ⟨rfl, hu'⟩
      subst u
      go_wp2
      go_ret
      exact ⟨rfl, HC.out.below Hb1.out, Kept.of_below Hb1.out⟩
    · have hdd := decide_eq_false hd
      have Hd := hid hd
      clear hd
      obtain ⟨D, hD⟩ : ∃ D, D = (dist (zs ++ (pinsOf s).map fun (n : Nat) => (n : Int))).length := ⟨_, rfl⟩
      have hDe : D = (pinL (pinsOf s) (zs.map Int.toNat)).length := by rw [hD]; exact pin_len (H1.out.ok.nd.filter _) (pinsOf s) (fun x => Iff.rfl) zs (fun x hx => (Hmem.out x hx).1)
      have Hpe : Hid (pinE s zs = if s.mo < D then 7 else 0) := by
        show _ = _
        unfold pinE
        rw [if_pos Hz.out, if_neg Hd.out, hDe]
      obtain ⟨E, hE⟩ : ∃ E : Int, E = pinE s zs := ⟨_, rfl⟩
      obtain ⟨S', hS'⟩ : ∃ S' : PS, S' = if E = 0 then pinS s zs else s := ⟨_, rfl⟩
      rw [← hE, ← hS']
      have HE := hid (hE.trans Hpe.out)
      have HS' := hid hS'
      clear hE hS'
      have HD := hid hD
      have HDe := hid hDe
      clear hD hDe
      go_enter Tryz.func70, Tryz.ntmps70
      go_wp2_with (fail)
      refine Hre.out.mono ?_
      rintro e w1 ⟨rfl, hb1⟩
      have H2 := hid (H1.out.below hb1)
      have Hb1 := hid hb1
      have Hia1 := hid (Hlt.out w1 (Kept.of_below hb1))
      have Hcd := hid (contDi_any H2.out a zs c Hia1.out (by omega) Hwf.out)
      rw [hdd] at Hcd
      clear hb1 Hre
      go_wp2_with (fail)
      refine Hcd.out.mono ?_
      rintro e u ⟨rfl, hu'⟩
      subst u
      have c1 := H2.out.c1
      have bdr : Below w1.heap.size w1 w1.drew := ⟨rfl, rfl, rfl, Nat.le_refl _, fun _ _ => rfl⟩
      have hpw := pinned_any (H2.out.below bdr) hP a zs c (Hlt.out w1.drew (Kept.of_below (Hb1.out.trans (bdr.mono Hb1.out.size)))) hl
      rw [← HD.out] at hpw
      have Hpw := hid hpw
      clear hpw bdr Hcd
      go_wp2
      go_region_held3 (fun w9 => w9.cell? ⟨p, 1, none⟩ = some (.int .i64 (s.mo : Int))) (first | exact c1 | exact q1.out)
        ((go_at_call 125; refine Hpw.out.mono ?_; rintro e w2 ⟨rfl, hb2'⟩; have hb2 := undrew1 hb2'; have q1 := hid ((hb2.cell (World.block_lt_of_cell? _ _ c1)).trans c1); have Hb2 := hid hb2; clear hb2 hb2'))
      clear c1 q1 Hpw
      have HBw := hid (Hb1.out.trans (Hb2.out.mono Hb1.out.size))
      by_cases hfull : s.mo < D
      · have g1 : (s.mo : Int) < (D : Int) := by omega
        have e7 : Hid (E = 7) := HE.out.trans (if_pos hfull)
        have s7 : Hid (S' = s) := HS'.out.trans (by rw [e7.out, if_neg (by decide)])
        clear hfull
        go_wp2
        go_ret
        rw [e7.out, s7.out]
        exact ⟨rfl, HC.out.below HBw.out, Kept.of_below HBw.out⟩
      · have g1 : ¬ (s.mo : Int) < (D : Int) := by omega
        have e7 : Hid (E = 0) := HE.out.trans (if_neg hfull)
        have s7 : Hid (S' = pinS s zs) := HS'.out.trans (by rw [e7.out, if_pos rfl])
        obtain ⟨ns, hns⟩ : ∃ ns, ns = zs.map Int.toNat := ⟨_, rfl⟩
        have hnl : ns.length = zs.length := by rw [hns, List.length_map]
        have HN0 : Hid (NRel w p F s ns 0 w2) := ⟨s, rOf s, by simp, agree_of H1.out.ok, by rw [hns, List.drop_zero]; show (pinL (pinsOf s) _).length ≤ _; rw [← HDe.out]; omega, HC.out.below HBw.out, rfl, rfl, rfl, rfl, rfl, Kept.of_below HBw.out⟩
        have Hns := hid hns
        clear hns H2 Hia1
        go_wp2
        clear g1
        go_loopw [28] (fun i wr => ∃ k : Nat, k ≤ zs.length ∧ i = .int .i64 k ∧ NRel w p F s ns k wr) (fun i _ => zs.length - (intOf i).toNat)
        case atStart => exact ⟨0, Nat.zero_le _, rfl, HN0.out⟩
        case round =>
          obtain ⟨k, hk, rfl, s1, r1, hs1, hag, hpl, hC, hP1, hmo1, ht1, hu1, hd1, hKe⟩ := hrel
          have HCk := hid hC
          have HKe := hid hKe
          have Hag := hid hag
          have Hpl := hid hpl
          have Hs1 := hid hs1
          clear hC hKe HN0 hag hpl hs1
          by_cases hlt : k < zs.length
          · obtain ⟨b, o, rfl, hc⟩ := Hlt.out wr HKe.out k hlt
            have hxm := Hmem.out _ (List.getElem_mem hlt)
            have hxd : isDi s zs[k] = false := by
              cases hb : isDi s zs[k] with
              | false => rfl
              | true => exact absurd ⟨_, List.getElem_mem hlt, hb⟩ Hd.out
            have hkn : k < ns.length := by omega
            have hnk : ns[k] = zs[k].toNat := by
              have := Hns.out
              subst this
              rw [List.getElem_map]
            have Htk := hid (List.take_succ_eq_append_getElem hkn)
            have Hdk := hid (List.drop_eq_getElem_cons hkn)
            rw [hnk] at Htk Hdk
            generalize zs[k] = xi at *
            obtain ⟨x, rfl⟩ : ∃ x : Nat, xi = (x : Int) := ⟨xi.toNat, by omega⟩
            rw [Int.toNat_natCast] at Htk Hdk
            have hxd2 : (s1.dl.lookup x).isSome = false := by
              rw [hd1]
              unfold isDi at hxd
              rw [decide_eq_true hxm.1, Bool.true_and, Int.toNat_natCast] at hxd
              exact hxd
            have g1 : (k : Int) < (zs.length : Int) := by omega
            have g2 : (0 : Int) ≤ (k : Int) := by omega
            have hxP : x < s1.P := by omega
            have Hstep : Hid (Agree (pin1 s1 x) (pinR r1 x) ∧ x ∈ (useS s1 x).ord) := by
              obtain ⟨m9, h9, e9, _⟩ := HCk.out
              refine Hag.out.pin h9.ok e9 x ?_
              have h5 := Hpl.out
              rw [Hdk.out] at h5
              rw [hmo1]
              exact Nat.le_trans (pinL_first Hag.out.pn x _) h5
            have Hus := hid (use_c HCk.out (by omega) (by omega) x hxP hxd2)
            go_wp2_with (fail)
            refine Hus.out.mono ?_
            rintro e w3 ⟨⟨b3, c3, rfl⟩, ⟨m3, g3, g4, g5⟩, hk3⟩
            have hin := Hstep.out.2
            have Hlk := hid (g3.cl_in hin (by omega)).2
            have hsp := Cache.setPin g3 g4 g5 hin true
            have HSP := hid hsp
            have c3' := g3.c3
            have f1 := cell_of_row _ _ 1 _ _ _ (g3.frm x hin)
            have z1 := frozen_of_row _ _ 1 _ _ (g3.frm x hin)
            have hl3 := Hlk.out
            have HK3 := hid (HKe.out.to hk3)
            clear hk3 g3 g4 g5 hsp Hus hin
            go_wp2
            go_roundw
            case rel =>
              obtain ⟨a1, a2, a3, a4, a5⟩ := pin1_same s1 x
              refine ⟨k + 1, by omega, by go_num, pin1 s1 x, pinR r1 x, ?_, Hstep.out.1, ?_, HSP.out.1, by omega, by omega, by omega, by omega, by rw [a5]; exact hd1, HK3.out.to HSP.out.2⟩
              · rw [Htk.out, List.foldl_append, ← Hs1.out]; rfl
              · have h5 := Hpl.out
                rw [Hdk.out] at h5
                exact h5
            case measure => simp [intOf]; omega
          · have hkl : k = zs.length := by omega
            subst hkl
            have g1 : ¬ (zs.length : Int) < (zs.length : Int) := by omega
            go_wp2
            go_ret
            rw [e7.out, s7.out]
            refine ⟨rfl, ?_, HKe.out⟩
            have h6 := HCk.out
            rw [Hs1.out, ← hnl, List.take_length, Hns.out] at h6
            exact h6
  · have h2z := reach_two hz
    rw [h2z] at hre
    have Hre := hid hre
    have Hpe : Hid (pinE s zs = 2) := by
      show _ = _
      unfold pinE
      rw [if_neg hz]
    rw [Hpe.out, if_neg (by decide)]
    clear h1 h2 h3 hi hF hwf hre hlt hz h2z
    go_enter Tryz.func70, Tryz.ntmps70
    go_wp2_with (fail)
    refine Hre.out.mono ?_
    rintro e w1 ⟨rfl, hb1⟩
    have Hb1 := hid hb1
    clear hb1 Hre
    go_wp2
    go_ret
    exact ⟨rfl, HC.out.below Hb1.out, Kept.of_below Hb1.out⟩
/-- what Unpin tells -/
def unpE (s : PS) (zs : List Int) : Int := if zs.Nodup ∧ ∀ x ∈ zs, isPi s x = true then 0 else 4
def UnpC (w : World) (p : Nat) (s : PS) (F : Nat → Prop) (zs : List Int) (e : Ending) (w' : World) : Prop := e = .returned (.int .i64 (unpE s zs)) ∧ Cache w' p (if unpE s zs = 0 then unpS s zs else s) F ∧ Kept F w w'
theorem unpS_zero (s : PS) : unpS s [] = s := by
  unfold unpS
  congr 1
  funext x
  simp
theorem unpS_succ (s : PS) (l : List Int) (x : Nat) : { unpS s l with pin := upd (unpS s l).pin x false } = unpS s (l ++ [(x : Int)]) := by
  have hp : upd (fun y : Nat => s.pin y && !l.contains (y : Int)) x false = fun y : Nat => s.pin y && !(l ++ [(x : Int)]).contains (y : Int) := by
    funext y
    by_cases e : y = x
    · subst e
      rw [upd_eq]
      simp
    · rw [upd_ne' _ _ e]
      have e2 : ((y : Int) == (x : Int)) = false := by rw [beq_eq_false_iff_ne]; omega
      have e3 : [(x : Int)].contains (y : Int) = false := by rw [List.contains_cons, e2]; rfl
      rw [List.contains_append, e3, Bool.or_false]
  show ({ s with pin := upd (fun y : Nat => s.pin y && !l.contains (y : Int)) x false } : PS) = { s with pin := fun y : Nat => s.pin y && !(l ++ [(x : Int)]).contains (y : Int) }
  rw [hp]
set_option maxHeartbeats 4000000 in
theorem unpin_c {w : World} {p : Nat} {s : PS} {F : Nat → Prop} (h : Cache w p s F) (hP : s.P ≤ 1024) (a : Option Addr) (zs : List Int) (c : Nat) (hi : IntsAt w a zs) (hF : ∀ b o, a = some ⟨b, o, none⟩ → 0 < zs.length → F b) (hl : zs.length ≤ 17592186044000) (hwf : ∀ x ∈ zs, -9223372036854775808 ≤ x ∧ x ≤ 9223372036854775807) :
    Calls Tryz.prog 113 #[.pointer (some ⟨p, 0, none⟩), .slice a zs.length c] w (UnpC w p s F zs) := by
  have HC := hid h
  have Hi := hid hi
  have HF := hid hF
  have Hwf := hid hwf
  have hdi := distinct_z a zs c hi (by omega)
  have hlt : ∀ u : World, Kept F w u → IntsAt u a zs := fun u hk i hi' => by
    obtain ⟨b, o, e, hc⟩ := Hi.out i hi'
    exact ⟨b, o, e, (World.cell?_of_block (a := ⟨b, o + i, none⟩) (hk.get (HF.out b o e (by omega)) (World.block_lt_of_cell? _ _ hc))).trans hc⟩
  have Hlt := hid hlt
  obtain ⟨D, hD⟩ : ∃ D, D = (dist zs).length := ⟨_, rfl⟩
  rw [← hD] at hdi
  have Hdi := hid hdi
  have HDf := hid (dist_full zs)
  have hdl := dist_le zs
  rw [← hD] at HDf hdl
  unfold UnpC
  obtain ⟨E, hE⟩ : ∃ E : Int, E = unpE s zs := ⟨_, rfl⟩
  obtain ⟨S', hS'⟩ : ∃ S' : PS, S' = if E = 0 then unpS s zs else s := ⟨_, rfl⟩
  rw [← hE, ← hS']
  have HE := hid hE
  have HS' := hid hS'
  clear h hi hF hwf hlt hdi hD hE hS'
  go_enter Tryz.func113, Tryz.ntmps113
  go_wp2_with (fail)
  refine Hdi.out.mono ?_
  rintro e w1 ⟨a1, c1, rfl, hb1⟩
  have Hb1 := hid hb1
  clear hb1 Hdi
  by_cases hfew : D < zs.length
  · have g1 : (D : Int) < (zs.length : Int) := by omega
    have Hpe : Hid (unpE s zs = 4) := by
      show _ = _
      unfold unpE
      rw [if_neg]
      rintro ⟨hn, _⟩
      have := HDf.out.2 hn
      omega
    have e4 : Hid (E = 4) := HE.out.trans Hpe.out
    have s4 : Hid (S' = s) := HS'.out.trans (by rw [e4.out, if_neg (by decide)])
    go_wp2
    go_ret
    rw [e4.out, s4.out]
    exact ⟨rfl, HC.out.below Hb1.out, Kept.of_below Hb1.out⟩
  · have g1 : ¬ (D : Int) < (zs.length : Int) := by omega
    have Hnd := hid (HDf.out.1 (by omega))
    go_wp2
    go_loopw [19] (fun i wr => ∃ k : Nat, k ≤ zs.length ∧ i = .int .i64 k ∧ (∀ x ∈ zs.take k, isPi s x = true) ∧ Below w.heap.size w wr) (fun i _ => zs.length - (intOf i).toNat)
    case atStart => exact ⟨0, Nat.zero_le _, rfl, fun x hx => by simp at hx, Hb1.out⟩
    case round =>
      obtain ⟨k, hk, rfl, hall, hbk⟩ := hrel
      have Hall := hid hall
      have Hbk := hid hbk
      clear hall hbk
      by_cases hlt : k < zs.length
      · obtain ⟨b, o, rfl, hc⟩ := Hlt.out wr (Kept.of_below Hbk.out) k hlt
        have hx := Hwf.out _ (List.getElem_mem hlt)
        have Hm := hid (List.getElem_mem hlt)
        have Htk := hid (List.take_succ_eq_append_getElem hlt)
        generalize zs[k] = x at *
        have Hip : Hid (Calls Tryz.prog 153 #[.pointer (some ⟨p, 0, none⟩), .int .i64 x] wr fun e w' => e = .returned (.bool (isPi s x)) ∧ w' = wr) := by
          obtain ⟨m9, h9, _, _⟩ := HC.out.below Hbk.out
          exact isPi_any h9 x hx
        have g3 : (k : Int) < (zs.length : Int) := by omega
        have g4 : (0 : Int) ≤ (k : Int) := by omega
        cases hp : isPi s x with
        | false =>
          rw [hp] at Hip
          have Hpe : Hid (unpE s zs = 4) := by
            show _ = _
            unfold unpE
            rw [if_neg]
            rintro ⟨_, hn⟩
            rw [hn x Hm.out] at hp
            cases hp
          have e4 : Hid (E = 4) := HE.out.trans Hpe.out
          have s4 : Hid (S' = s) := HS'.out.trans (by rw [e4.out, if_neg (by decide)])
          clear hp
          go_wp2_with (fail)
          refine Hip.out.mono ?_
          rintro e u ⟨rfl, hu⟩
          subst u
          go_wp2
          go_ret
          rw [e4.out, s4.out]
          exact ⟨rfl, HC.out.below Hbk.out, Kept.of_below Hbk.out⟩
        | true =>
          rw [hp] at Hip
          have Hp := hid hp
          clear hp
          go_wp2_with (fail)
          refine Hip.out.mono ?_
          rintro e u ⟨rfl, hu⟩
          subst u
          go_wp2
          go_roundw
          case rel => exact ⟨k + 1, by omega, by go_num, by rw [Htk.out]; intro z hz; rcases List.mem_append.1 hz with hz | hz; exact Hall.out z hz; rw [List.mem_singleton.1 hz]; exact Hp.out, Hbk.out⟩
          case measure => simp [intOf]; omega
      · have hkl : k = zs.length := by omega
        subst hkl
        have g3 : ¬ (zs.length : Int) < (zs.length : Int) := by omega
        have hall2 : ∀ x ∈ zs, isPi s x = true := fun x hx => Hall.out x (by rw [List.take_length]; exact hx)
        have Hpe : Hid (unpE s zs = 0) := by
          show _ = _
          unfold unpE
          rw [if_pos ⟨Hnd.out, hall2⟩]
        have e4 : Hid (E = 0) := HE.out.trans Hpe.out
        have s4 : Hid (S' = unpS s zs) := HS'.out.trans (by rw [e4.out, if_pos rfl])
        have Hal2 := hid hall2
        have HC0 : Hid (Cache wr p (unpS s (zs.take 0)) F ∧ Kept F w wr) := ⟨by rw [List.take_zero, unpS_zero]; exact HC.out.below Hbk.out, Kept.of_below Hbk.out⟩
        clear hall2
        go_wp2
        go_loopw [30] (fun i wr => ∃ k : Nat, k ≤ zs.length ∧ i = .int .i64 k ∧ Cache wr p (unpS s (zs.take k)) F ∧ Kept F w wr) (fun i _ => zs.length - (intOf i).toNat)
        case atStart => exact ⟨0, Nat.zero_le _, rfl, HC0.out⟩
        case round =>
          obtain ⟨k, hk, rfl, hC, hKe⟩ := hrel
          have HCk := hid hC
          have HKe := hid hKe
          clear hC hKe HC0
          by_cases hlt : k < zs.length
          · obtain ⟨b, o, rfl, hc⟩ := Hlt.out _ HKe.out k hlt
            have hxw := Hwf.out _ (List.getElem_mem hlt)
            have hpi := Hal2.out _ (List.getElem_mem hlt)
            have Htk := hid (List.take_succ_eq_append_getElem hlt)
            generalize zs[k] = xi at *
            have hpi2 := hpi
            unfold isPi at hpi2
            rw [Bool.and_eq_true, Bool.and_eq_true, decide_eq_true_eq, decide_eq_true_eq] at hpi2
            obtain ⟨x, rfl⟩ : ∃ x : Nat, xi = (x : Int) := ⟨xi.toNat, by omega⟩
            rw [Int.toNat_natCast] at hpi2
            have hin : x ∈ (unpS s (zs.take k)).ord := hpi2.2.1
            obtain ⟨m3, g3, g4, g5⟩ := HCk.out
            have hl3 := (g3.cl_in hin (by omega)).2
            have hsp := Cache.setPin g3 g4 g5 hin false
            have HSP := hid hsp
            have c3' := g3.c3
            have f1 := cell_of_row _ _ 1 _ _ _ (g3.frm x hin)
            have z1 := frozen_of_row _ _ 1 _ _ (g3.frm x hin)
            have g1' : (k : Int) < (zs.length : Int) := by omega
            have g2' : (0 : Int) ≤ (k : Int) := by omega
            clear g3 g4 g5 hsp hin hpi hpi2
            go_wp2
            go_roundw
            case rel => exact ⟨k + 1, by omega, by go_num, by rw [Htk.out, ← unpS_succ]; exact HSP.out.1, HKe.out.to HSP.out.2⟩
            case measure => simp [intOf]; omega
          · have hkl : k = zs.length := by omega
            subst hkl
            have g5 : ¬ (zs.length : Int) < (zs.length : Int) := by omega
            go_wp2
            go_ret
            rw [e4.out, s4.out]
            refine ⟨rfl, ?_, HKe.out⟩
            have h6 := HCk.out
            rw [List.take_length] at h6
            exact h6
end Go.Proofs.YthdcjepkehifoaaGreat
