/- The walk of holdfastlaw02.CodecWhole: it answers true, and writes nothing that was there. -/
import Derived.Test.YtpdknoldcaaboaaDoorCols
import Derived.Test.YtpdknoldcaaboaaDoorKeyLaws
import Derived.Laws.AppendOwnNone
namespace Go.Proofs.YtpdknoldcaaboaaDoor
open Go.RowKit
set_option linter.unusedVariables false

theorem cols_body (cs : List (List UInt8)) (hs : small cs) (s : List UInt8) : cols cs.length (body cs ++ s) = if s = [] then some cs else none := by
  induction cs with
  | nil => simp [cols, body]
  | cons c cs ih =>
    have hc : c.length < 256 := hs c (by simp)
    have e : (UInt8.ofNat c.length).toNat = c.length := by rw [UInt8.toNat_ofNat']; omega
    have ih' := ih (fun x hx => hs x (by simp [hx]))
    simp only [body, col, List.cons_append, List.append_assoc, List.length_cons]
    rw [cols_step _ _ _ (by rw [e]; simp), e, List.drop_left, List.take_left, ih']
    by_cases h : s = [] <;> simp [h]

theorem cols_cut (cs : List (List UInt8)) (hs : small cs) (j : Nat) (hj : j < (body cs).length) : cols cs.length ((body cs).take j) = none := by
  induction cs generalizing j with
  | nil => simp [body] at hj
  | cons c cs ih =>
    have hc : c.length < 256 := hs c (by simp)
    have e : (UInt8.ofNat c.length).toNat = c.length := by rw [UInt8.toNat_ofNat']; omega
    cases j with
    | zero => simp [cols]
    | succ j =>
      simp only [body, col, List.cons_append, List.take_succ_cons, List.length_cons]
      by_cases h : j < c.length
      · rw [cols, if_pos (by rw [e, List.length_take, List.length_append]; omega)]
      · have hl : (c ++ body cs).length = c.length + (body cs).length := List.length_append
        rw [cols_step _ _ _ (by rw [e, List.length_take, hl]; omega), e]
        have e2 : ((c ++ body cs).take j).drop c.length = (body cs).take (j - c.length) := by
          rw [List.take_append, List.take_of_length_le (by omega), List.drop_left]
        rw [e2, ih (fun x hx => hs x (by simp [hx])) (j - c.length) (by
          simp only [body, col, List.cons_append, List.length_cons, List.length_append] at hj
          omega)]
        rfl

theorem rowRes_ok (l : List ByteArray) (h : rowErr l = 0) : rowRes l = rowOf (bs l) := by unfold rowRes; rw [if_pos h]
theorem rowErr_facts (l : List ByteArray) (h : rowErr l = 0) : l.length ≤ 8 ∧ (rowOf (bs l)).length ≤ 72 ∧ small (bs l) := by
  unfold rowErr at h
  split at h
  · cases h
  · split at h
    · cases h
    · split at h
      · cases h
      · rename_i h1 h2 h3
        refine ⟨by omega, by omega, fun c hc => ?_⟩
        obtain ⟨s, hs, rfl⟩ := List.mem_map.1 hc
        have : ¬ 70 < s.size := fun h' => h2 (List.any_eq_true.2 ⟨s, hs, by simpa using h'⟩)
        rw [← Lib.size_eq]
        omega
theorem rowRes_le (l : List ByteArray) : (rowRes l).length ≤ 72 := by
  by_cases h : rowErr l = 0
  · rw [rowRes_ok l h]; exact (rowErr_facts l h).2.1
  · unfold rowRes; rw [if_neg h]; simp
theorem rowRes_pos (l : List ByteArray) (h : rowErr l = 0) : 0 < (rowRes l).length := by rw [rowRes_ok l h]; simp [rowOf]

theorem columnsOf_row (l : List ByteArray) (h : rowErr l = 0) (s : List UInt8) : columnsOf (rowRes l ++ s) = if s = [] then some (bs l) else none := by
  have hf := rowErr_facts l h
  rw [rowRes_ok l h]
  have e : (UInt8.ofNat (bs l).length).toNat = (bs l).length := by rw [UInt8.toNat_ofNat']; simp [bs]; omega
  have hb : (bs l).length = l.length := by simp [bs]
  simp only [rowOf, List.cons_append, columnsOf]
  rw [e, if_neg (by omega), cols_body _ hf.2.2]
theorem columnsOf_cut (l : List ByteArray) (h : rowErr l = 0) (m : Nat) (hm : m < (rowRes l).length) : columnsOf ((rowRes l).take m) = none := by
  have hf := rowErr_facts l h
  rw [rowRes_ok l h] at hm ⊢
  have e : (UInt8.ofNat (bs l).length).toNat = (bs l).length := by rw [UInt8.toNat_ofNat']; simp [bs]; omega
  have hb : (bs l).length = l.length := by simp [bs]
  cases m with
  | zero => rfl
  | succ m =>
    simp only [rowOf, List.take_succ_cons, columnsOf]
    rw [e, if_neg (by omega), cols_cut _ hf.2.2 m (by simp [rowOf] at hm; omega)]

theorem cut_err (l : List ByteArray) (h : rowErr l = 0) (m : Nat) (hm : m < (rowRes l).length) : colErr ((rowRes l).take m) = 3 := by
  have := rowRes_le l
  unfold colErr
  rw [if_neg (by rw [List.length_take]; omega), columnsOf_cut l h m hm]
  rfl
theorem on_err (l : List ByteArray) (h : rowErr l = 0) (c : UInt8) : colErr (rowRes l ++ [c]) = if (rowRes l).length = 72 then 6 else 3 := by
  have := rowRes_le l
  unfold colErr
  rw [columnsOf_row l h, List.length_append]
  by_cases h2 : (rowRes l).length = 72
  · rw [if_pos (by simp; omega), if_pos h2]
  · rw [if_neg (by simp; omega), if_neg h2]
    rfl

set_option maxHeartbeats 400000 in
theorem copy_any (x : List UInt8) (a : Option Addr) (cap : Nat) (w : World) (hB : Bytes w a x) (hn : a = none → cap = 0) (hlen : x.length ≤ 140737488351232) :
    Calls Tryd.prog 33 #[.slice a x.length cap] w fun e w' => ∃ v, e = .returned v ∧ w'.ownsRow w.heap.size 5 1 v x.length (cellsOf x) ∧ Below w.heap.size w w' := by
  have HB := hid hB
  clear hB
  cases a with
  | none =>
    have hx : x = [] := by
      cases x with
      | nil => rfl
      | cons c x => obtain ⟨b, o, e, _⟩ := HB.out 0 (by simp); cases e
    have hc := hn rfl
    subst hx
    subst hc
    simp only [List.length_nil]
    obtain ⟨i0, hi, hz0, hz1, hz2⟩ := info_parts Tryd.info5
    go_enter Tryd.func33, Tryd.ntmps33
    go_wp2_with (at_builtin; refine wpList_append_own_none rfl (.tmp 4) (.tmp 5) 23 rfl w.heap.size 5 i0 1 Tryd.underlying23 hi _ 0 [] rfl (World.ownsRow_nil _ _ _ _) rfl ?_)
    go_ret
    exact ⟨_, rfl, World.ownsRow_nil _ _ _ _, Below.refl _ _⟩
  | some ad =>
    have hcell : Hid (∀ j (h : j < x.length), w.cell? (ad.add j) = some (.int .u8 (x[j].toNat : Int))) := fun j hj => by
      obtain ⟨b, o, e, hc⟩ := HB.out j hj
      cases e
      rw [addr_add]
      exact hc
    go_enter Tryd.func33, Tryd.ntmps33
    go_wp2_with (at_builtin; refine app_bytes _ rfl (.tmp 4) (.tmp 5) rfl w.heap.size _ [] rfl (World.ownsRow_nil _ _ _ _) ad x.length cap x rfl rfl hcell.out (by simp; omega) (Nat.le_refl _) ?_; intro v1 w1 ho1 hb1 hs1)
    go_ret
    exact ⟨_, rfl, by simpa using ho1, hb1⟩

set_option maxHeartbeats 1000000 in
theorem codecWhole_walk {w : World} (x : List ByteArray) (a : Option Addr) (ca : Nat) (hx : TextsIn w a ca x) (k : Int) (hk : (Lit.int .u8 k).wf = true) (ht : TabAt w) :
    Calls Tryd.prog 11 #[.slice a x.length ca, .int .u8 k] w fun e w' => e = .returned (.bool true) ∧ Below w.heap.size w w' := by
  have hr : 0 ≤ k ∧ k ≤ 255 := by simpa [Lit.wf, IntKind.min, IntKind.max, IntKind.signed, IntKind.bits] using hk
  obtain ⟨c, rfl⟩ : ∃ c : UInt8, k = (c.toNat : Int) := ⟨UInt8.ofNat k.toNat, by rw [UInt8.toNat_ofNat']; omega⟩
  have hc8 : c.toNat < 256 := c.toNat_lt
  have Hx := hid hx
  have Ht := hid ht
  clear hx ht hk hr
  have Hcut := hid (cut_err x)
  have Hon := hid (fun h => on_err x h c)
  have Hpos := hid (rowRes_pos x)
  have hle := rowRes_le x
  have Hrow := hid (row_any x a ca w Hx.out.texts Hx.out.sizes Hx.out.length)
  generalize rowRes x = b at *
  generalize rowErr x = er at *
  go_enter Tryd.func11, Tryd.ntmps11
  go_wp2_with fail
  refine Hrow.out.mono ?_
  rintro e w1 ⟨a1, c1, rfl, hB1, hb1, hc1⟩
  have HB1 := hid hB1
  have Hb1 := hid hb1
  clear hB1 hb1 Hrow
  by_cases h0 : er = 0
  · have hpos := Hpos.out h0
    have Hcut' := hid (Hcut.out h0)
    have Hon' := hid (Hon.out h0)
    subst h0
    clear Hcut Hon Hpos
    have f0 : ((b.length : Int) == 0) = false := by rw [beq_eq_false_iff_ne]; omega
    have hm : c.toNat % b.length < b.length := Nat.mod_lt _ hpos
    have hsl := slice_to 23 5 Tryd.underlying23 a1 b.length c1 (c.toNat % b.length) (by omega) (by kernel_rfl) 1 sizeByte
    have hT : (b.take (c.toNat % b.length)).length = c.toNat % b.length := by rw [List.length_take]; omega
    have Hcols := hid (columns_any (b.take (c.toNat % b.length)) a1 c1 w1 (HB1.out.take _) (by rw [hT]; omega) (by rw [hT]; omega))
    rw [hT, Hcut'.out _ hm] at Hcols
    clear hT Hcut'
    go_wp2_with fail
    refine Hcols.out.mono ?_
    rintro e w2 ⟨a2, c2, rfl, _, hb2, _⟩
    have Hb2 := hid (Below.on' Hb1.out hb2)
    have HB2 := hid (HB1.out.below hb2)
    clear hb2 Hcols hsl
    go_wp2_with fail
    refine (copy_any b a1 c1 _ HB2.out (fun h => by obtain ⟨b', o', e', _⟩ := HB2.out 0 hpos; rw [h] at e'; cases e') (by omega)).mono ?_
    rintro e w3 ⟨v, rfl, ho3, hb3⟩
    have Hb3 := hid (Below.on' Hb2.out hb3)
    have Ho3 := hid ho3
    have hz3 := hb3.size
    clear ho3 hb3
    go_wp2_with (at_builtin; refine app_lits _ rfl (.tmp 35) (.tmp 37) rfl w2.heap.size _ b rfl Ho3.out [c] 1 rfl rfl (by omega) hz3 ?_; intro v4 w4 ho4 hb4 hs4)
    obtain ⟨a4, c4, hv4, hB4, hc4⟩ := bytes_of_own ho4
    subst hv4
    have Hb4 : Hid (Below w.heap.size w w4) := Hb3.out.trans (hb4.mono Hb2.out.size)
    have Hcols := hid (columns_any (b ++ [c]) a4 c4 w4 hB4 hc4 (by simp; omega))
    clear ho4 hb4 hB4
    go_wp2_with fail
    refine Hcols.out.mono ?_
    rintro e w5 ⟨a5, c5, rfl, _, hb5, _⟩
    have Hb5 := hid (Below.on' Hb4.out hb5)
    clear hb5 Hcols
    go_wp2_with fail
    refine (live_any _ (Ht.out.below Hb5.out)).mono ?_
    rintro e w6 ⟨rfl, hb6⟩
    have Hb6 := hid (Below.on' Hb5.out hb6)
    clear hb6
    rw [Hon'.out]
    by_cases h72 : b.length = 72
    · have f1 : ((b.length : Int) == 72) = true := by rw [beq_iff_eq]; omega
      rw [if_pos h72]
      clear h72
      go_wp2
      go_ret
      exact ⟨rfl, Hb6.out⟩
    · rw [if_neg h72]
      go_wp2
      go_ret
      exact ⟨rfl, Hb6.out⟩
  · have d1 : ((er : Int) != 0) = true := by rw [bne_iff_ne]; omega
    go_wp2_with (go_at_call 16; refine (live_any _ (Ht.out.below Hb1.out)).mono ?_; rintro e w3 ⟨rfl, hb3⟩)
    go_ret
    exact ⟨rfl, Below.on' Hb1.out hb3⟩
end Go.Proofs.YtpdknoldcaaboaaDoor
