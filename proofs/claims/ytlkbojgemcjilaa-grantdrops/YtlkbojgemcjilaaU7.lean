/- Grants: hasRoom walked. -/
import Derived.Test.YtlkbojgemcjilaaU6
namespace Go.Proofs.Ytlkbojgemcjilaa
open Go.RowKit Go.Maps
set_option linter.unusedVariables false
set_option maxRecDepth 20000
theorem zeroIntU (w : World) : (zeroValue 3).run Try.prog w = .ok (.int .i64 0) w := by kernel_rfl
theorem Cnt.look {w : World} {m n : Nat} {D : DataW Unit} {ts : List ByteArray} (h : w.ownsMap Try.prog 9 (plainElem Try.prog 3) m n D) (hc : Cnt D ts) (t : ByteArray) (ht : t.size ≤ maxLen) :
    (Instr.lookup 86 (.map (some m)) (.string t) false).run Try.prog w = .ok (.int .i64 (cntT ts t : Int)) w := by
  obtain ⟨v, ps, hrun, hv⟩ := h.lookup (z := .int .i64 0) lawStr Try.underlying86 (zeroIntU _) (plainElem_int Try.underlying3 (by decide)) (Go.WideMaps.keyOf_string_mk Try.underlying9 ht)
  obtain ⟨c0, rfl, hc0, _⟩ := plainElem_int_inv Try.underlying3 hv
  have e9 : D.atKey (.string t.data.toList) (.lit (.int .i64 0)) = .lit (.int .i64 c0) := congrArg Prod.fst hc0
  rw [hc.at'] at e9
  injection e9 with e9
  injection e9 with _ e9
  rw [hrun, ← e9]
theorem range_ge {w : World} {H : Type} {k : TypeId} {R : Value → Option (DataW H × List MemPlace)} {b r c cnt : Nat} {D : DataW H} {left : Lit → Bool} (hr : w.ranges Try.prog k R b r c D left cnt) : ∀ es cl, w.heap[r]? ≠ some (.map es cl) := fun es cl h => by
  obtain ⟨es, clock, since, seen, c0, hb, _, _, _, hrr, _⟩ := hr
  rw [hrr] at h
  cases h
theorem map_ne {w : World} {H : Type} {k k2 : TypeId} {R : Value → Option (DataW H × List MemPlace)} {b r c cnt m n : Nat} {D : DataW H} {left : Lit → Bool} (hr : w.ranges Try.prog k R b r c D left cnt) {D2 : DataW Unit} {R2 : Value → Option (DataW Unit × List MemPlace)} (hm : w.ownsMap Try.prog k2 R2 m n D2) : m ≠ r := fun e => by
  obtain ⟨es, cl, hb, _⟩ := hm
  rw [e] at hb
  exact range_ge hr es cl hb
section
variable {w : World} {B g mc d : Nat} {L : List Reg} {s : GS}
set_option maxHeartbeats 4000000 in
theorem hasRoom_any (h : SAt w B g mc L s d) (hd : d ≤ 17592186044416) (t : ByteArray) (ht : t.size ≤ maxLen) (hl9 : L.length ≤ 100000) :
    Calls Try.prog 42 #[.pointer (some ⟨g, 0, none⟩), .string t] w fun e w' => e = .returned (.bool (roomR (L.map (·.c.t)) t)) ∧ Below w.heap.size w w' := by
  have H := hid h
  unfold roomR
  obtain ⟨K, hK⟩ : ∃ K, K = cntT (L.map (·.c.t)) t := ⟨_, rfl⟩
  obtain ⟨Q, hQ⟩ : ∃ Q, Q = (dist (L.map (·.c.t))).length := ⟨_, rfl⟩
  rw [← hK, ← hQ]
  have HK := hid hK
  have HQ := hid hQ
  obtain ⟨W, hW⟩ : ∃ W, W = w.alloc (.map #[] 0) := ⟨_, rfl⟩
  have b0 : Below w.heap.size w W := by rw [hW]; exact (Below.refl _ w).alloc (Nat.le_refl _) _
  have hm0 : W.ownsMap Try.prog 9 (plainElem (H := Unit) Try.prog 3) w.heap.size 0 (.map []) := by rw [hW]; exact World.ownsMap_made w _ _ _
  have h0 := h.below b0
  obtain ⟨nv, V, hcm, hnv, hV⟩ := h0.cm
  have c0 := h0.c0
  have hmk : ¬ mc = w.heap.size := by
    obtain ⟨n1, V1, q1, _⟩ := h.cm
    have := q1.lt
    omega
  have HW := hid hW.symm
  have B0 := hid b0
  have HM := hid hm0
  have HCM := hid hcm
  have HV := hid hV
  have hsz : W.heap.size = w.heap.size + 1 := by rw [hW]; simp
  have Hsz := hid hsz
  have Hmk := hid hmk
  have hmm := @run_makeMap Try.prog
  rw [hW] at c0
  clear h h0 hW b0 hm0 hcm hV hsz hmk hK hQ
  go_enter Try.func42, Try.ntmps42
  go_wp2_with (first
    | (at_range; rw [HW.out]; refine wpList_range_own _ rfl _ 56 rfl 74 64 lawPlace Try.underlying56 _ mc nv _ rfl HCM.out ?_; intro w3 hrg3 hg3 hs3)
    | go_in)
  go_frame
  clear c0
  go_loopw [6] (fun v wr => ∃ (left : Lit → Bool) (cnt : Nat) (L' : List Reg) (D : DataW Unit), wr.ranges Try.prog 74 RV mc W.heap.size nv V left cnt ∧ wr.ownsMap Try.prog 9 (plainElem Try.prog 3) w.heap.size L'.length D ∧ Cnt D (L'.map (·.c.t)) ∧ L'.Perm (L.filter fun p => !left (keyP p.c.t p.c.n)) ∧ Below w.heap.size w wr) (fun _ wr => wr.rangeLeft mc W.heap.size)
  case atStart =>
    refine ⟨_, _, [], .map [], hrg3, ?_, cnt_new, ?_, ?_⟩
    · exact HM.out.kept hg3 (by simp)
    · rw [List.filter_eq_nil_iff.2 fun p hp => ?_]
      obtain ⟨p1, p2⟩ := H.out.sizes hp
      rw [HV.out.has _ _ (by unfold maxLen; omega) (by unfold maxLen; omega), List.any_eq_true.2 ⟨p, hp, decide_eq_true ⟨rfl, rfl⟩⟩]
      simp
    · exact B0.out.trans ⟨hg3.os, hg3.tape, hg3.output, hg3.size, fun k hk => hg3.block k (by have := B0.out.size; omega) (by simp)⟩
  case round =>
    obtain ⟨left, cnt, L', D, hrg, hmp, hcn, hpm, hb⟩ := hrel
    have HL := hid hrg.left_eq
    have Hmp := hid hmp
    have Hcn := hid hcn
    have Hpm := hid hpm
    have Hb := hid hb
    clear hmp hcn hpm hb hrg3 hg3 hs3
    go_wp2_with (first
      | (at_next; refine wpList_next_ranges (α := ByteArray × ByteArray) (β := Value) _ rfl _ rfl 74 lawPlace RV (fun x => .agg #[.string x.1, .string x.2]) (fun v => v) (fun key kl hk => by obtain ⟨a, b, rfl, _⟩ := place_inv hk; exact ⟨(a, b), rfl⟩) (fun v y hv => ⟨v, rfl⟩) mc W.heap.size nv _ _ _ rfl hrg ?_ ?_)
      | go_in)
    · intro _ hl0
      have hLp : L'.Perm L := by
        have h1 := Hpm.out
        rw [List.filter_eq_self.2 (fun t _ => by rw [hl0]; rfl)] at h1
        exact h1
      have hlk := Hcn.out.look Hmp.out t ht
      rw [cntT_perm (hLp.map _) t] at hlk
      have hlen := Hmp.out.len Try.underlying86 3
      rw [Hcn.out.size, dist_perm (hLp.map _)] at hlen
      rw [← HK.out] at hlk
      rw [← HQ.out] at hlen
      clear hl0 hrg hLp
      by_cases hk0 : K = 0
      · subst hk0
        go_wp2_with go_in
        go_ret
        exact ⟨ret_bool (by simp; omega), Hb.out⟩
      · have d0 : ((K : Int) == 0) = false := by simp; omega
        have Hk0 := hid hk0
        clear hk0
        go_wp2_with go_in
        go_ret
        exact ⟨ret_bool (by simp; omega), Hb.out⟩
    · intro t2 u c kl y1 y2 w6 cnt' hk hl hv hat hrg6 hlt hg6 hs6 hen
      obtain ⟨t9, u9, e1, rfl, l1, l2⟩ := place_inv hk
      obtain ⟨rfl, rfl⟩ : t2 = t9 ∧ u = u9 := by simpa using e1
      clear e1
      obtain ⟨p, hp, e3, e4⟩ : ∃ p ∈ L, p.c.t = t2 ∧ p.c.n = u := by
        have h2 := Maps.has_true_of_atKey hat
        rw [HV.out.has _ _ l1 l2] at h2
        obtain ⟨p, hp1, hp2⟩ := List.any_eq_true.1 h2
        have e9 := of_decide_eq_true hp2
        exact ⟨p, hp1, e9.1, e9.2⟩
      have hmore := H.out.more hp (by rw [e3, e4]; exact hl) Hpm.out
      rw [e3, e4] at hmore
      have hlen : L'.length ≤ 100000 := by
        have h3 := Hpm.out.length_eq
        have h6 := List.length_filter_le (fun p : Reg => !left (keyP p.c.t p.c.n)) L
        omega
      have b6 := hid (Hb.out.trans ⟨hg6.os, hg6.tape, hg6.output, hg6.size, fun k hk => hg6.block k (by have := Hb.out.size; omega) (fun e => by cases e; have := Hsz.out; omega)⟩)
      have O6 := hid ((Hmp.out.kept hg6 (fun e => map_ne hrg Hmp.out (Option.some.inj e))).alloc (.cells #[.string t2, .string u] 74))
      have Hrg6 := hid (hrg6.alloc (.cells #[.string t2, .string u] 74))
      have hlk := Hcn.out.look O6.out t2 l1
      have Hlt := hid hlt
      have Hmore := hid hmore
      have Hkl := hid (Go.WideMaps.keyOf_string_mk Try.underlying9 (s := t2) l1)
      have hcl := cntT_le (L'.map (·.c.t)) t2
      rw [List.length_map] at hcl
      have Hcp := hid (Hcn.out.put t2)
      obtain ⟨k, hk9⟩ : ∃ k, k = cntT (L'.map (·.c.t)) t2 := ⟨_, rfl⟩
      rw [← hk9] at hlk hcl Hcp
      have hwf : (Lit.int .i64 ((k + 1 : Nat) : Int)).wf = true := by simp [Lit.wf, IntKind.min, IntKind.max, IntKind.signed, IntKind.bits]; omega
      have Hwf := hid hwf
      have hka : ((k : Int) + 1) = ((k + 1 : Nat) : Int) := by omega
      have Hka := hid hka
      have Et : Hid (p.c.t = t2) := e3
      clear hk hat hrg6 hlt hg6 hl hrg hmore hp e4 hv hk9 hwf hka hs6 e3
      go_wp2_with (first
        | (at_mapUpdate; rw [Hka.out]; refine wpList_mapUpdate_own _ rfl _ _ _ 86 rfl 9 3 lawStr Try.underlying86 _ w.heap.size L'.length D rfl O6.out (by unfold maxLen; omega) _ _ _ rfl rfl Hkl.out _ [] (plainElem_int Try.underlying3 Hwf.out) ?_; intro w8 hown8 hg8)
        | go_in)
      have nr := map_ne Hrg6.out O6.out
      have R8 := Hrg6.out.kept hg8 (fun e => Hmk.out (Option.some.inj e)) (fun e => nr (Option.some.inj e).symm)
      have c8 := b6.out.alloc b6.out.size (.cells #[.string t2, .string u] 74)
      simp only [Act.put]
      go_roundw
      case rel =>
        refine ⟨_, _, p :: L', _, R8, hown8, ?_, Hmore.out, c8.trans ((Below.refl _ _).grown hg8 c8.size (fun q hq => by cases hq; exact Nat.le_refl _))⟩
        rw [List.map_cons, Et.out]
        exact Hcp.out
      case measure =>
        rw [R8.left_eq, HL.out]
        exact Hlt.out
end
end Go.Proofs.Ytlkbojgemcjilaa
