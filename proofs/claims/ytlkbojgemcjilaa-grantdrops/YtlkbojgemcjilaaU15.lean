/- Grants: Narrow, the walk. -/
import Derived.Test.YtlkbojgemcjilaaU14
namespace Go.Proofs.Ytlkbojgemcjilaa
open Go.RowKit Go.Maps
set_option linter.unusedVariables false
set_option maxRecDepth 20000
def narR (L : List Reg) (t n : ByteArray) (m : Nat) : Nat := ((fC L t n).map fun p => p.c.sc &&& m).getD 0
section
variable {w : World} {B g mc d : Nat} {L : List Reg} {s : GS}
theorem nar_none (h : SAt w B g mc L s d) {t n : ByteArray} (hf : fC L t n = none) (m : Nat) : s.nar t n m = s := by
  have h2 : ∀ c ∈ s.cs, isC t n c = false := fun c hc => by
    cases h9 : isC t n c with
    | false => rfl
    | true => exact absurd (isC_iff.1 h9) (fC_none_cs h hf c hc)
  have h3 : ∀ a ∈ s.al, ofC t n a = false := fun a ha => by
    obtain ⟨_, _, _, c, hc, e1, e2, _⟩ := h.ok.anames a ha
    have e : ofC t n a = isC t n c := by unfold isC ofC; rw [e1, e2]
    rw [e, h2 c hc]
  have e1 : s.cs.map (narCs t n m) = s.cs := by
    have := List.map_congr_left (f := narCs t n m) (g := id) (l := s.cs) fun c hc => by unfold narCs; rw [h2 c hc]; rfl
    rw [this, List.map_id]
  have e2 : s.al.map (narAs t n m) = s.al := by
    have := List.map_congr_left (f := narAs t n m) (g := id) (l := s.al) fun a ha => by unfold narAs; rw [h3 a ha]; rfl
    rw [this, List.map_id]
  show (⟨s.cs.map (narCs t n m), s.al.map (narAs t n m)⟩ : GS) = s
  rw [e1, e2]
set_option maxHeartbeats 4000000 in
theorem narrow_any (h : SAt w B g mc L s d) (hd : d ≤ 17592186044416) (hB : B ≤ w.heap.size) (hal : s.al.length ≤ 17592186044416) (t n : ByteArray) (m : Nat) (ht : t.size ≤ maxLen) (hn : n.size ≤ maxLen) (hm : m ≤ 255) :
    Calls Try.prog 19 #[.pointer (some ⟨g, 0, none⟩), .string t, .string n, .int .u8 (m : Int)] w fun e w' => ∃ L' d', e = .returned (.tuple #[.int .u8 (narR L t n m : Nat), .int .i64 (noneE (fC L t n).isSome)]) ∧ OutJ (MineU g mc L) w w' ∧ d ≤ d' ∧ d' ≤ max d s.al.length ∧ SAt w' B g mc L' (s.nar t n m) d' ∧ (∀ k, MineU g mc L' k → MineU g mc L k ∨ w.heap.size ≤ k) := by
  have HF := hid (find_any h t n ht hn)
  have H := hid h
  unfold narR
  cases hf : fC L t n with
  | none =>
    rw [hf] at HF
    have He := hid (nar_none h hf m)
    rw [He.out]
    clear h hf He
    go_enter Try.func19, Try.ntmps19
    go_wp2_with (go_at_call 29; refine HF.out.mono ?_; rintro _ w1 ⟨rfl, e1⟩; subst w1; unfold noneE; simp only [Option.isSome_none, Bool.false_eq_true, if_false])
    go_ret2
    exact ⟨L, d, rfl, OutJ.of_below (Below.refl _ _), Nat.le_refl _, Nat.le_max_left _ _, H.out, fun k hk => .inl hk⟩
  | some p =>
    rw [hf] at HF
    obtain ⟨hp, rfl, rfl⟩ := fC_some hf
    simp only [Option.map_some, Option.getD_some, Option.isSome_some] at HF ⊢
    obtain ⟨r0, r1, r2⟩ := (h.regs p hp).c
    obtain ⟨_, _, hrow, k, D0, hm0, hk, hD0⟩ := h.regs p hp
    have f1 : w.frozen? ⟨p.r, 1, none⟩ = false := frozen_of_row _ _ _ _ _ hrow
    obtain ⟨q, hq⟩ : ∃ q, q = p.c.sc &&& m := ⟨_, rfl⟩
    have hb0 : bits BinOp.and IntKind.u8 (p.c.sc : Int) (m : Int) = (q : Int) := by rw [hq]; exact and_bits _ _ (by have := (h.ok.names _ (h.mem_cs hp)).2.2.2; omega) (by omega)
    obtain ⟨W1, hW1⟩ : ∃ W1, W1 = w.setCell ⟨p.r, 1, none⟩ (.int .u8 (q : Int)) := ⟨_, rfl⟩
    obtain ⟨W, hW⟩ : ∃ W, W = W1.alloc (.map #[] 0) := ⟨_, rfl⟩
    have s1 : W1.heap.size = w.heap.size := by rw [hW1]; simp
    have sW : W.heap.size = w.heap.size + 1 := by rw [hW]; simp [s1]
    have o1 : OutJ (fun j => j = p.r) w W1 := by rw [hW1]; exact OutJ.setCell w _ _ rfl
    have bW : Below W1.heap.size W1 W := by rw [hW]; exact (Below.refl _ W1).alloc (Nat.le_refl _) _
    have oW : OutJ (fun j => j = p.r) w W := o1.trans (OutJ.of_below bW)
    have hrow1 : W1.heap[p.r]? = some (.cells #[.string p.c.r, .int .u8 (q : Int), .map (some p.m)] 71 (0, 0)) := by rw [hW1, heap_setCell_same _ _ _ _ _ _ hrow]; rfl
    have hrowW := (bW.block _ (heap_lt hrow1)).trans hrow1
    have hg1 : w.grownBy W1 (some p.r) := ⟨o1.os, o1.tape, o1.output, o1.size, fun k hk hne => o1.block k hk (fun e => hne (by rw [e]))⟩
    have hmW1 : W1.ownsMap Try.prog 9 (plainElem Try.prog 25) p.m k D0 := hm0.kept hg1 (fun e => h.r_ne hp hp (Option.some.inj e).symm)
    have hmW : W.ownsMap Try.prog 9 (plainElem Try.prog 25) p.m k D0 := by rw [hW]; exact hmW1.alloc _
    have hnW : W.ownsMap Try.prog 9 (plainElem (H := Unit) Try.prog 25) w.heap.size 0 (.map []) := by rw [hW, ← s1]; exact World.ownsMap_made W1 _ _ _
    have c2 : W.cell? ⟨p.r, 2, none⟩ = some (.map (some p.m)) := (cell_of_rowU _ _ 2 _ _ _ hrowW).trans rfl
    have hpm : p.m ≠ w.heap.size := by have := map_new_ne hm0; omega
    have HW : Hid ((w.setCell ⟨p.r, 1, none⟩ (.int .u8 (q : Int))).alloc (.map #[] 0) = W) := by rw [Hid, hW, hW1]
    have HM := hid hmW
    have HNW := hid hnW
    have HD := hid hD0
    have HO := hid oW
    have HR := hid hrowW
    have SW := hid sW
    have Hpm := hid hpm
    have Hq := hid hq
    have Hp := hid hp
    have HB := hid (And.intro hd (And.intro hB (And.intro hal hk)))
    have hmm := @run_makeMap Try.prog
    rw [← HW.out] at c2
    clear h hf hrow hm0 hk hD0 hp s1 sW o1 bW oW hrow1 hrowW hg1 hmW1 hmW hnW hpm hq hd hB hal r0 hW hW1
    go_enter Try.func19, Try.ntmps19
    go_wp2_with (first
      | (go_at_call 29; refine HF.out.mono ?_; rintro _ w1 ⟨rfl, e1⟩; subst w1; unfold noneE; simp only [if_true])
      | (at_range; rw [HW.out]; refine wpList_range_own _ rfl _ 69 rfl 9 25 lawStr Try.underlying69 _ p.m k _ rfl HM.out ?_; intro w3 hrg3 hg3 hs3)
      | go_in)
    go_frame
    clear c2
    go_loopw [13, 14] (fun v9 v8 wr => ∃ (left : Lit → Bool) (cnt : Nat) (L' : List Co) (D : DataW Unit), wr.ranges Try.prog 9 (plainElem Try.prog 25) p.m W.heap.size k D0 left cnt ∧ wr.ownsMap Try.prog 9 (plainElem Try.prog 25) w.heap.size L'.length D ∧ ARel D (L'.map (narA m)) ∧ L'.Perm ((s.al.filter (ofC p.c.t p.c.n)).filter fun a => !left (.string a.u.data.toList)) ∧ OutJ (fun j => j = p.r) w wr ∧ wr.heap[p.r]? = W.heap[p.r]?) (fun _ _ wr => wr.rangeLeft p.m W.heap.size)
    case atStart =>
      refine ⟨_, _, [], .map [], hrg3, HNW.out.kept hg3 (by simp), ⟨tidy_empty, fun _ => rfl, (fun a ha => nomatch ha), rfl⟩, ?_, HO.out.trans ⟨hg3.os, hg3.tape, hg3.output, hg3.size, fun j hj _ => hg3.block j hj (by simp)⟩, hg3.block _ (heap_lt HR.out) (by simp)⟩
      rw [List.filter_eq_nil_iff.2 fun a ha => ?_]
      rw [HD.out.has, List.any_eq_true.2 ⟨a, ha, decide_eq_true rfl⟩]
      simp
    case round =>
      obtain ⟨left, cnt, L', D, hrg, hmp, hcn, hpm, ho, hrr⟩ := hrel
      have HL := hid hrg.left_eq
      have Hmp := hid hmp
      have Hcn := hid hcn
      have Hpr := hid hpm
      have Ho := hid ho
      have Hrr := hid hrr
      clear hmp hcn hpm ho hrr hrg3 hg3 hs3
      go_wp2_with (first
        | (at_next; refine wpList_next_ranges (α := ByteArray) (β := Int) _ rfl _ rfl 9 lawStr (plainElem Try.prog 25) (fun x => .string x) (fun x => .int .u8 x) (fun key kl hk => by obtain ⟨a, rfl, _⟩ := Go.WideMaps.string_of_keyOf Try.underlying9 hk; exact ⟨a, rfl⟩) (fun v y hv => by obtain ⟨c, rfl, _⟩ := plainElem_int_inv Try.underlying25 hv; exact ⟨c, rfl⟩) p.m W.heap.size k _ _ _ rfl hrg ?_ ?_)
        | go_in)
      · intro _ hl0
        have hLp : L'.Perm (s.al.filter (ofC p.c.t p.c.n)) := by
          have h1 := Hpr.out
          rw [List.filter_eq_self.2 (fun a _ => by rw [hl0]; rfl)] at h1
          exact h1
        have hrow := Hrr.out.trans HR.out
        have e1 : wr.cell? ⟨p.r, 1, none⟩ = some (.int .u8 (q : Int)) := (cell_of_rowU _ _ 1 _ _ _ hrow).trans rfl
        have e2 : wr.cell? ⟨p.r, 2, none⟩ = some (.map (some p.m)) := (cell_of_rowU _ _ 2 _ _ _ hrow).trans rfl
        have f2 : wr.frozen? ⟨p.r, 2, none⟩ = false := frozen_of_row _ _ _ _ _ hrow
        have hlen : L'.length ≤ s.al.length := by
          rw [hLp.length_eq]
          exact List.length_filter_le _ _
        have hpr : p.r < w.heap.size := heap_lt (H.out.regs p Hp.out).2.2.1
        have hS := H.out.nar Hp.out m w.heap.size L'.length D (w' := wr.setCell ⟨p.r, 2, none⟩ (.map (some w.heap.size))) (d' := max d L'.length) (Nat.le_max_left _ _) (Nat.le_max_right _ _) (Nat.le_refl _) HB.out.2.1 (Ho.out.trans (OutJ.setCell wr _ _ rfl)) (by rw [heap_setCell_same _ _ _ _ _ _ hrow, Hq.out]; rfl) (Hmp.out.setCell (a := ⟨p.r, 2, none⟩) (by show w.heap.size ≠ p.r; omega) _) (Hcn.out.perm (hLp.map _))
        have HS := hid hS
        have Hlen := hid hlen
        have O9 := hid ((Ho.out.trans (OutJ.setCell wr ⟨p.r, 2, none⟩ (.map (some w.heap.size)) rfl)).mono (fun k9 (e : k9 = p.r) => (show MineU g mc L k9 from .inr (.inr ⟨p, Hp.out, .inl e⟩))))
        clear hl0 hLp hrow hlen hpr hS hrg
        go_wp2_with go_in
        go_ret2
        refine ⟨_, _, by rw [Hq.out]; rfl, O9.out, Nat.le_max_left _ _, by have := Hlen.out; omega, HS.out, ?_⟩
        rintro k9 (h9 | h9 | ⟨p9, hp9, h9⟩)
        · exact .inl (.inl h9)
        · exact .inl (.inr (.inl h9))
        · obtain ⟨q0, hq0, rfl⟩ := List.mem_map.1 hp9
          unfold narP at h9
          split at h9
          · rcases h9 with h9 | h9
            · exact .inl (.inr (.inr ⟨q0, hq0, .inl h9⟩))
            · exact .inr (by rw [h9]; exact Nat.le_refl _)
          · exact .inl (.inr (.inr ⟨q0, hq0, h9⟩))
      · intro t2 c kl y1 y2 w6 cnt' hk hl hv hat hrg6 hlt hg6 hs6 hen
        obtain ⟨t9, e9, rfl, l1⟩ := Go.WideMaps.string_of_keyOf Try.underlying9 hk
        obtain rfl : t2 = t9 := by simpa using e9
        clear e9
        obtain ⟨c9, ec, ez, hwf9⟩ := plainElem_int_inv Try.underlying25 hv
        obtain rfl : c = c9 := by simpa using ec
        obtain ⟨rfl, _⟩ := Prod.mk.inj ez
        clear ec ez
        obtain ⟨a, ha, rfl⟩ : ∃ a ∈ s.al.filter (ofC p.c.t p.c.n), a.u = t2 := by
          have h2 := Maps.has_true_of_atKey hat
          rw [HD.out.has] at h2
          obtain ⟨a, ha1, ha2⟩ := List.any_eq_true.1 h2
          exact ⟨a, ha1, of_decide_eq_true ha2⟩
        obtain rfl : (a.sc : Int) = c := by
          have h3 := hat .nil
          rw [HD.out.at' a ha] at h3
          injection h3 with h3
          injection h3
        have hmore := hid (more_al (users_apart H.out.ok p.c.t p.c.n) ha hl Hpr.out)
        have hno := hid (fun (b : Co) (hb : b ∈ L'.map (narA m)) => (show ¬ b.u = (narA m a).u from fun e => by
          obtain ⟨x, hx, rfl⟩ := List.mem_map.1 hb
          have h3 := (List.mem_filter.1 (Hpr.out.mem_iff.1 hx)).2
          have h4 : x.u = a.u := e
          rw [h4, hl] at h3
          cases h3))
        have hsc : a.sc ≤ 255 := (H.out.ok.anames a (List.mem_filter.1 ha).1).2.2.1
        have hlen : L'.length ≤ 17592186044416 := by
          have h3 := Hpr.out.length_eq
          have h4 := List.length_filter_le (fun a : Co => !left (.string a.u.data.toList)) (s.al.filter (ofC p.c.t p.c.n))
          have h5 := List.length_filter_le (ofC p.c.t p.c.n) s.al
          have := HB.out.2.2.1
          omega
        obtain ⟨x, hx⟩ : ∃ x, x = a.sc &&& m := ⟨_, rfl⟩
        have hx9 : x ≤ 255 := by rw [hx]; exact Nat.le_trans Nat.and_le_left hsc
        have hb1 : bits BinOp.and IntKind.u8 (a.sc : Int) (m : Int) = (x : Int) := by rw [hx]; exact and_bits _ _ (by omega) (by omega)
        have hwf : (Lit.int .u8 (x : Int)).wf = true := by simp [Lit.wf, IntKind.min, IntKind.max, IntKind.signed, IntKind.bits]; omega
        have Hwf := hid hwf
        have Hx := hid hx
        have Hkl := hid (Go.WideMaps.keyOf_string_mk Try.underlying9 (s := a.u) l1)
        have O6 := hid (Hmp.out.kept hg6 (fun e => map_ne hrg Hmp.out (Option.some.inj e)))
        have hwW : w.heap.size < W.heap.size := by have := SW.out; omega
        have hpr : p.r < w.heap.size := heap_lt (H.out.regs p Hp.out).2.2.1
        have ho6 : Hid (OutJ (fun j => j = p.r) w w6) := ⟨hg6.os.trans Ho.out.os, hg6.tape.trans Ho.out.tape, hg6.output.trans Ho.out.output, Nat.le_trans Ho.out.size hg6.size, fun j hj hp9 => (hg6.block j (Nat.lt_of_lt_of_le hj Ho.out.size) (fun e => by have e9 := Option.some.inj e; omega)).trans (Ho.out.block j hj hp9)⟩
        have hr6 : Hid (w6.heap[p.r]? = W.heap[p.r]?) := (hg6.block p.r (Nat.lt_of_lt_of_le hpr Ho.out.size) (fun e => by have e9 := Option.some.inj e; omega)).trans Hrr.out
        have Hrg6 := hid hrg6
        have Hlt := hid hlt
        have HL9 := hid hlen
        have HwW := hid (And.intro hwW hpr)
        clear hk hl hv hat hrg6 hlt hg6 hs6 hrg ha hsc hlen hx hwf hwf9 l1 hwW hpr
        go_wp2_with (first
          | (at_mapUpdate; refine wpList_mapUpdate_own _ rfl _ _ _ 69 rfl 9 25 lawStr Try.underlying69 _ w.heap.size L'.length D rfl O6.out (by unfold maxLen; have := HL9.out; omega) _ _ _ rfl rfl Hkl.out _ [] (plainElem_int Try.underlying25 Hwf.out) ?_; intro w8 hown8 hg8)
          | go_in)
        have nr := map_ne Hrg6.out O6.out
        have R8 := Hrg6.out.kept hg8 (fun e => Hpm.out (Option.some.inj e)) (fun e => nr (Option.some.inj e).symm)
        simp only [Act.put]
        go_roundw
        case rel =>
          refine ⟨_, _, a :: L', _, R8, hown8, ?_, hmore.out, ?_, ?_⟩
          · have h9 := Hcn.out.put (narA m a) hno.out
            have e9 : (narA m a).sc = x := Hx.out.symm
            rw [e9] at h9
            exact h9
          · exact ⟨hg8.os.trans ho6.out.os, hg8.tape.trans ho6.out.tape, hg8.output.trans ho6.out.output, Nat.le_trans ho6.out.size hg8.size, fun j hj hp9 => (hg8.block j (Nat.lt_of_lt_of_le hj ho6.out.size) (fun e => by have e9 := Option.some.inj e; omega)).trans (ho6.out.block j hj hp9)⟩
          · exact (hg8.block p.r (Nat.lt_of_lt_of_le HwW.out.2 ho6.out.size) (fun e => by have e9 := Option.some.inj e; have := HwW.out.2; omega)).trans hr6.out
        case measure =>
          rw [R8.left_eq, HL.out]
          exact Hlt.out
end
end Go.Proofs.Ytlkbojgemcjilaa
