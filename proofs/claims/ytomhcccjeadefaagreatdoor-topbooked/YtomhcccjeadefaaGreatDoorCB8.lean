/- YtomhcccjeadefaaGreatDoorCB7 + YtomhcccjeadefaaGreatDoorCB8 -/
import Derived.Test.YtomhcccjeadefaaGreatDoorCB6
/- A book of passwords: the rows of a record, and of a book. -/
namespace Go.Proofs.YtomhcccjeadefaaGreatDoor
open Go.RowKit Go.Maps
set_option linter.unusedVariables false
set_option maxRecDepth 20000
def OneRow (w : World) (B g : Nat) (key : ByteArray) (tr un k : Nat) (h : List UInt8) : Prop := ∃ q, w.heap[g]? = some (.cells #[.string key, .slice (some ⟨q, 0, none⟩) 5 5] 38 (0, 0)) ∧ w.heap[q]? = some (.cells #[.string (mkH h), .string saltB, .string (txtJ k), .string (txtJ tr), .string (txtJ un)] 9 (0, 0)) ∧ B ≤ g ∧ B ≤ q
theorem OneRow.below {w w' : World} {B g : Nat} {key : ByteArray} {tr un k : Nat} {h : List UInt8} (o : OneRow w B g key tr un k h) (hb : Below w.heap.size w w') : OneRow w' B g key tr un k h := by
  obtain ⟨q, h1, h2, h3, h4⟩ := o
  exact ⟨q, (hb.block _ (heap_lt h1)).trans h1, (hb.block _ (heap_lt h2)).trans h2, h3, h4⟩
set_option maxHeartbeats 4000000 in
theorem recRows_any {w : World} {r tr un k : Nat} {h : List UInt8} (hs : RecS r tr un h k w) (hl : h.length = 32) (ht1 : tr ≤ 4611686018427387904) (ht2 : un ≤ 4611686018427387904) (ht3 : k ≤ 4611686018427387904) (key : ByteArray) :
    Calls Tryz.prog 21 #[.pointer (some ⟨r, 0, none⟩), .string key] w fun e w' => ∃ g, e = .returned (.slice (some ⟨g, 0, none⟩) 1 1) ∧ OneRow w' w.heap.size g key tr un k h ∧ Below w.heap.size w w' := by
  have Hs := hid hs
  have Hl := hid hl
  clear hs hl
  go_enter Tryz.func21, Tryz.ntmps21
  go_wp2_with fail
  obtain ⟨V0, hV0⟩ : ∃ V0, V0 = w.drew := ⟨_, rfl⟩
  have b0 : Below w.heap.size w V0 := by rw [hV0]; exact (Below.refl _ w).drew
  refine wp_act _ fun A hA => ?_
  have sz : A.tmps.size = 65 := by rw [hA]; rfl
  have e0 : A.eval (.tmp 0) = .pointer (some ⟨r, 0, none⟩) := by rw [hA]; rfl
  refine wp_split _ (rr_region1 sz e0 Hl.out ht1 ht2 ht3 hV0 (Hs.out.below b0)) ?_
  rintro _ V ⟨q, rfl, hq, hq0, hb⟩
  rw [hA]
  simp only [Act.put, List.setIfInBounds_toArray, List.set_cons_succ, List.set_cons_zero]
  have B1 := hid (Below.on' b0 hb)
  have Hq := hid hq
  have Hq0 := hid (Nat.le_trans b0.size hq0)
  have c36 := (Hs.out.below B1.out).c36 Hl.out
  clear sz e0 hA A b0 hb hq hq0 hV0
  obtain ⟨V2, hV2⟩ : ∃ V2, V2 = V.alloc (.cells #[.string key, .slice (some ⟨q, 0, none⟩) 5 5] 38) := ⟨_, rfl⟩
  have b2 : Below V.heap.size V V2 := by rw [hV2]; exact (Below.refl _ V).alloc (Nat.le_refl _) _
  have x2 : V2.heap[V.heap.size]? = some (.cells #[.string key, .slice (some ⟨q, 0, none⟩) 5 5] 38 (0, 0)) := by rw [hV2]; exact heap_alloc_new V _
  have c36' : V2.cell? ⟨r, 36, none⟩ = some (.slice none 0 0) := ((Hs.out.below B1.out).below b2).c36 Hl.out
  have B2 := hid b2
  have X2 := hid x2
  have HV2 := hid hV2
  rw [hV2] at c36'
  clear b2 x2 hV2 c36
  go_wp2_with fail
  rw [← HV2.out] at c36' ⊢
  go_loopw [6, 45] (fun v i wr => v = .slice (some ⟨V.heap.size, 0, none⟩) 1 1 ∧ i = .int .i64 0 ∧ wr = V2) (fun _ _ _ => 0)
  case atStart => exact ⟨rfl, rfl, rfl⟩
  case round =>
    obtain ⟨rfl, rfl, rfl⟩ := hrel
    go_wp2_with fail
    go_ret
    exact ⟨_, rfl, ⟨q, X2.out, (B2.out.block _ (heap_lt Hq.out)).trans Hq.out, B1.out.size, Hq0.out⟩, Below.on' B1.out B2.out⟩
end Go.Proofs.YtomhcccjeadefaaGreatDoor
/- A book of passwords: the rows of a book. -/
namespace Go.Proofs.YtomhcccjeadefaaGreatDoor
open Go.RowKit Go.Maps
set_option linter.unusedVariables false
set_option maxRecDepth 20000
theorem infoRowC : (Tryz.prog.info? 38).map (fun i => (i.zero, i.size, i.bytes)) = some (some (.agg #[.string ⟨#[]⟩, .slice none 0 0]), 2, 40) := by kernel_rfl
def RowC (w : World) (B g : Nat) (key : ByteArray) (tr un k : Nat) (h : List UInt8) : Prop := ∃ q cur, w.heap[g]? = some (.cells cur 38 (0, 0)) ∧ cur[0]? = some (.string key) ∧ cur[1]? = some (.slice (some ⟨q, 0, none⟩) 5 5) ∧ w.heap[q]? = some (.cells #[.string (mkH h), .string saltB, .string (txtJ k), .string (txtJ tr), .string (txtJ un)] 9 (0, 0)) ∧ B ≤ g ∧ B ≤ q
theorem RowC.below {w w' : World} {B g : Nat} {key : ByteArray} {tr un k : Nat} {h : List UInt8} (o : RowC w B g key tr un k h) (hb : Below w.heap.size w w') : RowC w' B g key tr un k h := by
  obtain ⟨q, cur, h1, h2, h3, h4, h5, h6⟩ := o
  exact ⟨q, cur, (hb.block _ (heap_lt h1)).trans h1, h2, h3, (hb.block _ (heap_lt h4)).trans h4, h5, h6⟩
theorem RowC.keep {w w' : World} {B g : Nat} {key : ByteArray} {tr un k : Nat} {h : List UInt8} (o : RowC w B g key tr un k h) {x : Nat} (hg : w.grownBy w' (some x)) (hx : ∃ o, w.heap[x]? = some o ∧ ∀ c t f, o ≠ .cells c t f) : RowC w' B g key tr un k h := by
  obtain ⟨q, cur, h1, h2, h3, h4, h5, h6⟩ := o
  obtain ⟨ob, hx1, hx2⟩ := hx
  refine ⟨q, cur, (hg.block _ (heap_lt h1) (fun e => ?_)).trans h1, h2, h3, (hg.block _ (heap_lt h4) (fun e => ?_)).trans h4, h5, h6⟩
  · obtain rfl := Option.some.inj e
    rw [h1] at hx1; cases hx1; exact hx2 _ _ _ rfl
  · obtain rfl := Option.some.inj e
    rw [h4] at hx1; cases hx1; exact hx2 _ _ _ rfl
theorem RowC.mono {w : World} {B B' g : Nat} {key : ByteArray} {tr un k : Nat} {h : List UInt8} (o : RowC w B g key tr un k h) (hB : B' ≤ B) : RowC w B' g key tr un k h := by
  obtain ⟨q, cur, h1, h2, h3, h4, h5, h6⟩ := o
  exact ⟨q, cur, h1, h2, h3, h4, Nat.le_trans hB h5, Nat.le_trans hB h6⟩
theorem app_row1 {w : World} {ops : Array Oper} {rest : List Oper} {o : Oper} {a : Act} {Q : Exit → Act → World → Prop} (hgd : o.guard = none) (sl x : Operand)
    (ho : o.op = .call { callee := .builtin .append, args := #[sl, x], argTypes := #[34, 34] }) (hs : a.eval sl = .slice none 0 0) (g : Nat) {B : Nat} {key : ByteArray} {tr un k : Nat} {h : List UInt8} (hrow : OneRow w B g key tr un k h) (hx : a.eval x = .slice (some ⟨g, 0, none⟩) 1 1)
    (hB : B ≤ w.heap.size) (hK : ∀ g' c w', RowC w' B g' key tr un k h → 1 ≤ c → Below w.heap.size w w' → wpList Tryz.prog ops Q rest (a.put o.dst (.slice (some ⟨g', 0, none⟩) 1 c)) w') :
    wpList Tryz.prog ops Q (o :: rest) a w := by
  obtain ⟨q, h1, h2, h3, h4⟩ := hrow
  obtain ⟨i0, hi, hz0, hz1, hz2⟩ := info_parts infoRowC
  refine wpList_append_own w hgd sl x 34 ho B 38 i0 (.agg #[.string ⟨#[]⟩, .slice none 0 0]) 2 40 Tryz.underlying34 hi hz0 hz1 hz2 rfl (by decide) (.slice none 0 0) 0 [] hs (World.ownsRow_nil _ _ _ _) ⟨g, 0, none⟩ 1 1 [.string key, .slice (some ⟨q, 0, none⟩) 5 5] hx rfl (fun j u hj => ?_) (by simp [Value.oneCell']) (by unfold maxLen; omega) (by omega) hB ?_
  · rw [addr_add, Nat.zero_add, cell_of_row _ _ _ _ _ _ h1]
    simpa using hj
  · intro v' w' k1 k2 k3
    have kb : Below w.heap.size w w' := ⟨k2.os, k2.tape, k2.output, k2.size, fun i hi => k2.block i hi (by simp [Value.ownBlock])⟩
    rcases k1.2 with ⟨_, e0⟩ | ⟨g', c, cur, rfl, kB, kg, kc, _, _, kt⟩
    · cases e0
    · have e0 : cur[0]? = some (.string key) := by
        have := congrArg (fun l => l[0]?) kt
        simpa [List.getElem?_take] using this
      have e1 : cur[1]? = some (.slice (some ⟨q, 0, none⟩) 5 5) := by
        have := congrArg (fun l => l[1]?) kt
        simpa [List.getElem?_take] using this
      exact hK g' c w' ⟨q, cur, kg, e0, e1, (kb.block _ (heap_lt h2)).trans h2, kB, h4⟩ kc kb
set_option maxHeartbeats 2000000 in
theorem rowsNone {w : World} {B g mb n : Nat} (h : BookAt w B g mb n none) : Calls Tryz.prog 8 #[.pointer (some ⟨g, 0, none⟩)] w fun e w' => e = .returned (.slice none 0 0) ∧ Below w.heap.size w w' := by
  have c0 := h.c0
  obtain ⟨D, ho, hh, ha⟩ := h.mp
  have Ho := hid ho
  have hf := hh rfl
  have Hf := hid hf
  clear h ho hh ha hf
  go_enter Tryz.func8, Tryz.ntmps8
  go_wp2_with (first
    | (at_range; refine wpList_range_own _ rfl _ 52 rfl 31 68 lawOwner Tryz.underlying52 _ mb n _ rfl Ho.out ?_; intro w3 hrg3 hg3 hs3)
    | go_in)
  go_frame
  have B3 : Hid (Below w.heap.size w w3) := ⟨hg3.os, hg3.tape, hg3.output, hg3.size, fun k hk => hg3.block k hk (by simp)⟩
  go_loopw [3] (fun v wr => v = .slice none 0 0 ∧ wr = w3) (fun _ _ => 0)
  case atStart => exact ⟨rfl, rfl⟩
  case round =>
    obtain ⟨rfl, rfl⟩ := hrel
    go_wp2_with (first
      | (at_next; refine wpList_next_ranges (α := Value) (β := Value) _ rfl _ rfl 31 lawOwner RVo (fun x => x) (fun x => x) (fun key kl _ => ⟨key, rfl⟩) (fun v y _ => ⟨v, rfl⟩) mb w.heap.size n _ _ _ rfl hrg3 ?_ ?_)
      | go_in)
    · intro _ _
      go_wp2_with (go_at_call 22; refine (sortRow1 none 0 0 (by omega) _).mono ?_; rintro _ _ ⟨rfl, rfl⟩)
      go_ret
      exact ⟨rfl, B3.out⟩
    · intro _ _ kl _ _ _ _ _ hl
      have h9 : false = true := (Hf.out kl).symm.trans hl
      exact Bool.noConfusion h9
def kTU : ByteArray := oT ++ ⟨#[47]⟩ ++ oU
set_option maxHeartbeats 4000000 in
theorem rowsOne {w : World} {B g mb n r tr un k : Nat} {h : List UInt8} (hb : BookAt w B g mb n (some r)) (hs : RecS r tr un h k w) (hl : h.length = 32) (ht1 : tr ≤ 4611686018427387904) (ht2 : un ≤ 4611686018427387904) (ht3 : k ≤ 4611686018427387904) :
    Calls Tryz.prog 8 #[.pointer (some ⟨g, 0, none⟩)] w fun e w' => ∃ g' c, e = .returned (.slice (some ⟨g', 0, none⟩) 1 c) ∧ 1 ≤ c ∧ RowC w' w.heap.size g' kTU tr un k h ∧ Below w.heap.size w w' := by
  have c0 := hb.c0
  obtain ⟨D, ho, hh, ha⟩ := hb.mp
  have Ho := hid ho
  obtain ⟨ha1, ha2, ha3⟩ := ha _ rfl
  have Ha1 := hid ha1
  have Ha2 := hid ha2
  have Ha3 := hid ha3
  have Hs := hid hs
  have Hl := hid hl
  clear hb ho hh ha ha1 ha2 ha3 hs hl
  go_enter Tryz.func8, Tryz.ntmps8
  go_wp2_with (first
    | (at_range; refine wpList_range_own _ rfl _ 52 rfl 31 68 lawOwner Tryz.underlying52 _ mb n _ rfl Ho.out ?_; intro w3 hrg3 hg3 hs3)
    | go_in)
  have B3 : Hid (Below w.heap.size w w3) := ⟨hg3.os, hg3.tape, hg3.output, hg3.size, fun k hk => hg3.block k hk (by simp)⟩
  clear hg3 hs3
  go_loopw [3] (fun v wr => ∃ (left : Lit → Bool) (cnt : Nat), wr.ranges Tryz.prog 31 RVo mb w.heap.size n D left cnt ∧ Below w.heap.size w wr ∧ (∀ kl, left kl = true → kl = kO) ∧ ((v = .slice none 0 0 ∧ left kO = true) ∨ (∃ g' c, v = .slice (some ⟨g', 0, none⟩) 1 c ∧ 1 ≤ c ∧ left kO = false ∧ RowC wr w.heap.size g' kTU tr un k h))) (fun _ wr => wr.rangeLeft mb w.heap.size)
  case atStart => exact ⟨_, _, hrg3, B3.out, Ha2.out, .inl ⟨rfl, Ha1.out⟩⟩
  case round =>
    obtain ⟨left, cnt, hrg, hbw, hlk, hst⟩ := hrel
    have HL := hid hrg.left_eq
    have Hbw := hid hbw
    have Hlk := hid hlk
    clear hbw hlk hrg3
    rcases hst with ⟨rfl, hk1⟩ | ⟨g', c, rfl, hc, hk0, hrow⟩
    · have Hk1 := hid hk1
      clear hk1
      go_wp2_with (first
        | (at_next; refine wpList_next_ranges (α := Value) (β := Value) _ rfl _ rfl 31 lawOwner RVo (fun x => x) (fun x => x) (fun key kl _ => ⟨key, rfl⟩) (fun v y _ => ⟨v, rfl⟩) mb w.heap.size n _ _ _ rfl hrg ?_ ?_)
        | go_in)
      · intro _ hl0
        have h9 : true = false := Hk1.out.symm.trans (hl0 kO)
        exact Bool.noConfusion h9
      · intro x c kl y1 y2 w6 cnt' hk hl hv hat hrg6 hlt hg6 hs6 hen
        obtain rfl := Hlk.out kl hl
        have ex : x = .agg #[.string oT, .string oU] := lawOwner.inj hk keyOf_owner
        subst ex
        have ec : c = .pointer (some ⟨r, 0, none⟩) := by
          have h1 := Ha3.out (.held (.bool true))
          rw [hat] at h1
          have h2 : (DataW.held c, ([] : List MemPlace)) = (y1, y2) := Option.some.inj hv
          have h3 : DataW.held c = y1 := congrArg Prod.fst h2
          rw [← h3] at h1
          injection h1
        subst ec
        have b6 : Below w.heap.size w w6 := Hbw.out.trans ⟨hg6.os, hg6.tape, hg6.output, hg6.size, fun k hk => hg6.block k (by have := Hbw.out.size; omega) (fun e => by cases e; omega)⟩
        have hs6 := Hs.out.below b6
        obtain ⟨Y, hY⟩ : ∃ Y, Y = w6.alloc (.cells #[.string oT, .string oU] 31) := ⟨_, rfl⟩
        have bY : Below w6.heap.size w6 Y := by rw [hY]; exact (Below.refl _ w6).alloc (Nat.le_refl _) _
        have xY : Y.heap[w6.heap.size]? = some (.cells #[.string oT, .string oU] 31 (0, 0)) := by rw [hY]; exact heap_alloc_new w6 _
        have HRr := hid (recRows_any (hs6.below bY) Hl.out ht1 ht2 ht3 kTU)
        have Hrg := hid (hrg6.kept (grown_of_below bY) (by simp) (by simp))
        have Hlt := hid hlt
        have B6 := hid b6
        have BY := hid bY
        have y0 : Y.cell? ⟨w6.heap.size, 0, none⟩ = some (.string oT) := cell_of_row _ _ 0 _ _ _ xY
        have y1 : Y.cell? ⟨w6.heap.size, 1, none⟩ = some (.string oU) := cell_of_row _ _ 1 _ _ _ xY
        have HY := hid hY
        rw [hY] at y0 y1
        have q1 : ¬ 9223372036854775807 < oT.size + 1 := by unfold oT; decide
        have q2 : ¬ 9223372036854775807 < oT.size + 1 + oU.size := by unfold oT oU; decide
        clear hk hl hv hat hrg6 hlt hg6 hs6 b6 bY xY hY hrg
        go_wp2_with (first
          | (go_at_call 21; rw [← HY.out]; refine HRr.out.mono ?_; rintro _ w7 ⟨g7, rfl, o7, b7⟩; have O7 := hid o7; have B7 := hid b7; clear o7 b7)
          | (at_builtin; refine app_row1 rfl (.tmp 18) (.tmp 26) rfl rfl g7 O7.out rfl B7.out.size ?_; intro g8 c8 w8 hr8 hc8 hb8; have R8 := hid hr8; have C8 := hid hc8; have B8 := hid hb8; clear hr8 hc8 hb8)
          | go_in)
        have hw8 := (Hrg.out.kept (grown_of_below B7.out) (by simp) (by simp)).kept (grown_of_below B8.out) (by simp) (by simp)
        have hbY : Below w.heap.size w Y := B6.out.trans (BY.out.mono B6.out.size)
        have hb8 : Below w.heap.size w w8 := Below.on' (Below.on' hbY B7.out) B8.out
        refine ⟨⟨_, _, hw8, hb8, fun kl hkl => Hlk.out kl (by simp at hkl; exact hkl.1), .inr ⟨g8, c8, rfl, C8.out, ?_, R8.out.mono hbY.size⟩⟩, ?_⟩
        · rw [WideAt.sameKey_self (a := kO) kO_lit]
          simp
        · rw [hw8.left_eq, HL.out]
          exact Hlt.out
    · have Hrow := hid hrow
      have Hc := hid hc
      have Hk0 := hid hk0
      clear hrow hc hk0
      go_wp2_with (first
        | (at_next; refine wpList_next_ranges (α := Value) (β := Value) _ rfl _ rfl 31 lawOwner RVo (fun x => x) (fun x => x) (fun key kl _ => ⟨key, rfl⟩) (fun v y _ => ⟨v, rfl⟩) mb w.heap.size n _ _ _ rfl hrg ?_ ?_)
        | go_in)
      · intro _ _
        go_wp2_with (go_at_call 22; refine (sortRow1 _ 1 _ (by omega) _).mono ?_; rintro _ _ ⟨rfl, rfl⟩)
        go_ret
        exact ⟨g', c, rfl, Hc.out, Hrow.out, Hbw.out⟩
      · intro _ _ kl _ _ _ _ _ hl
        obtain rfl := Hlk.out kl hl
        have h9 : false = true := Hk0.out.symm.trans hl
        exact Bool.noConfusion h9
end Go.Proofs.YtomhcccjeadefaaGreatDoor
