/- YthfmpebgmojcaaaDoorU7 + YthfmpebgmojcaaaDoorU8 + YthfmpebgmojcaaaDoorU9 -/
import Derived.Test.YthfmpebgmojcaaaDoorU6
/- Grants: hasRoom walked. -/
namespace Go.Proofs.YthfmpebgmojcaaaDoor.Gr
open Go.RowKit Go.Maps
set_option linter.unusedVariables false
set_option maxRecDepth 20000
theorem zeroIntU (w : World) : (zeroValue 3).run Tryd.prog w = .ok (.int .i64 0) w := by kernel_rfl
theorem Cnt.look {w : World} {m n : Nat} {D : DataW Unit} {ts : List ByteArray} (h : w.ownsMap Tryd.prog 9 (plainElem Tryd.prog 3) m n D) (hc : Cnt D ts) (t : ByteArray) (ht : t.size ≤ maxLen) :
    (Instr.lookup 181 (.map (some m)) (.string t) false).run Tryd.prog w = .ok (.int .i64 (cntT ts t : Int)) w := by
  obtain ⟨v, ps, hrun, hv⟩ := h.lookup (z := .int .i64 0) lawStr Tryd.underlying181 (zeroIntU _) (plainElem_int Tryd.underlying3 (by decide)) (Go.WideMaps.keyOf_string_mk Tryd.underlying9 ht)
  obtain ⟨c0, rfl, hc0, _⟩ := plainElem_int_inv Tryd.underlying3 hv
  have e9 : D.atKey (.string t.data.toList) (.lit (.int .i64 0)) = .lit (.int .i64 c0) := congrArg Prod.fst hc0
  rw [hc.at'] at e9
  injection e9 with e9
  injection e9 with _ e9
  rw [hrun, ← e9]
theorem range_ge {w : World} {H : Type} {k : TypeId} {R : Value → Option (DataW H × List MemPlace)} {b r c cnt : Nat} {D : DataW H} {left : Lit → Bool} (hr : w.ranges Tryd.prog k R b r c D left cnt) : ∀ es cl, w.heap[r]? ≠ some (.map es cl) := fun es cl h => by
  obtain ⟨es, clock, since, seen, c0, hb, _, _, _, hrr, _⟩ := hr
  rw [hrr] at h
  cases h
theorem map_ne {w : World} {H : Type} {k k2 : TypeId} {R : Value → Option (DataW H × List MemPlace)} {b r c cnt m n : Nat} {D : DataW H} {left : Lit → Bool} (hr : w.ranges Tryd.prog k R b r c D left cnt) {D2 : DataW Unit} {R2 : Value → Option (DataW Unit × List MemPlace)} (hm : w.ownsMap Tryd.prog k2 R2 m n D2) : m ≠ r := fun e => by
  obtain ⟨es, cl, hb, _⟩ := hm
  rw [e] at hb
  exact range_ge hr es cl hb
section
variable {w : World} {B g mc d : Nat} {L : List Reg} {s : GS}
set_option maxHeartbeats 4000000 in
theorem hasRoom_any (h : SAt w B g mc L s d) (hd : d ≤ 17592186044416) (t : ByteArray) (ht : t.size ≤ maxLen) (hl9 : L.length ≤ 100000) :
    Calls Tryd.prog 85 #[.pointer (some ⟨g, 0, none⟩), .string t] w fun e w' => e = .returned (.bool (roomR (L.map (·.c.t)) t)) ∧ Below w.heap.size w w' := by
  have H := hid h
  unfold roomR
  obtain ⟨K, hK⟩ : ∃ K, K = cntT (L.map (·.c.t)) t := ⟨_, rfl⟩
  obtain ⟨Q, hQ⟩ : ∃ Q, Q = (dist (L.map (·.c.t))).length := ⟨_, rfl⟩
  rw [← hK, ← hQ]
  have HK := hid hK
  have HQ := hid hQ
  obtain ⟨W, hW⟩ : ∃ W, W = w.alloc (.map #[] 0) := ⟨_, rfl⟩
  have b0 : Below w.heap.size w W := by rw [hW]; exact (Below.refl _ w).alloc (Nat.le_refl _) _
  have hm0 : W.ownsMap Tryd.prog 9 (plainElem (H := Unit) Tryd.prog 3) w.heap.size 0 (.map []) := by rw [hW]; exact World.ownsMap_made w _ _ _
  have h0 := h.below b0
  obtain ⟨nv, V, hcm, hnv, hV⟩ := h0.cm
  have c0 := h0.c0
  have hmk : ¬ mc = w.heap.size := by
    obtain ⟨n1, V1, q1, _⟩ := h.cm
    have := q1.lt
    omega
  have HW := hid hW.symm
  have B0 := hid b0
  have HM := hid hm0
  have HCM := hid hcm
  have HV := hid hV
  have hsz : W.heap.size = w.heap.size + 1 := by rw [hW]; simp
  have Hsz := hid hsz
  have Hmk := hid hmk
  have hmm := @run_makeMap Tryd.prog
  rw [hW] at c0
  clear h h0 hW b0 hm0 hcm hV hsz hmk hK hQ
  go_enter Tryd.func85, Tryd.ntmps85
  go_wp2_with (first
    | (at_range; rw [HW.out]; refine wpList_range_own _ rfl _ 103 rfl 111 106 lawPlace Tryd.underlying103 _ mc nv _ rfl HCM.out ?_; intro w3 hrg3 hg3 hs3)
    | go_in)
  go_frame
  clear c0
  go_loopw [6] (fun v wr => ∃ (left : Lit → Bool) (cnt : Nat) (L' : List Reg) (D : DataW Unit), wr.ranges Tryd.prog 111 RV mc W.heap.size nv V left cnt ∧ wr.ownsMap Tryd.prog 9 (plainElem Tryd.prog 3) w.heap.size L'.length D ∧ Cnt D (L'.map (·.c.t)) ∧ L'.Perm (L.filter fun p => !left (keyP p.c.t p.c.n)) ∧ Below w.heap.size w wr) (fun _ wr => wr.rangeLeft mc W.heap.size)
  case atStart =>
    refine ⟨_, _, [], .map [], hrg3, ?_, cnt_new, ?_, ?_⟩
    · exact HM.out.kept hg3 (by simp)
    · rw [List.filter_eq_nil_iff.2 fun p hp => ?_]
      obtain ⟨p1, p2⟩ := H.out.sizes hp
      rw [HV.out.has _ _ (by unfold maxLen; omega) (by unfold maxLen; omega), List.any_eq_true.2 ⟨p, hp, decide_eq_true ⟨rfl, rfl⟩⟩]
      simp
    · exact B0.out.trans ⟨hg3.os, hg3.tape, hg3.output, hg3.size, fun k hk => hg3.block k (by have := B0.out.size; omega) (by simp)⟩
  case round =>
    obtain ⟨left, cnt, L', D, hrg, hmp, hcn, hpm, hb⟩ := hrel
    have HL := hid hrg.left_eq
    have Hmp := hid hmp
    have Hcn := hid hcn
    have Hpm := hid hpm
    have Hb := hid hb
    clear hmp hcn hpm hb hrg3 hg3 hs3
    go_wp2_with (first
      | (at_next; refine wpList_next_ranges (α := ByteArray × ByteArray) (β := Value) _ rfl _ rfl 111 lawPlace RV (fun x => .agg #[.string x.1, .string x.2]) (fun v => v) (fun key kl hk => by obtain ⟨a, b, rfl, _⟩ := place_inv hk; exact ⟨(a, b), rfl⟩) (fun v y hv => ⟨v, rfl⟩) mc W.heap.size nv _ _ _ rfl hrg ?_ ?_)
      | go_in)
    · intro _ hl0
      have hLp : L'.Perm L := by
        have h1 := Hpm.out
        rw [List.filter_eq_self.2 (fun t _ => by rw [hl0]; rfl)] at h1
        exact h1
      have hlk := Hcn.out.look Hmp.out t ht
      rw [cntT_perm (hLp.map _) t] at hlk
      have hlen := Hmp.out.len Tryd.underlying181 3
      rw [Hcn.out.size, dist_perm (hLp.map _)] at hlen
      rw [← HK.out] at hlk
      rw [← HQ.out] at hlen
      clear hl0 hrg hLp
      by_cases hk0 : K = 0
      · subst hk0
        go_wp2_with go_in
        go_ret
        exact ⟨ret_bool (by simp; omega), Hb.out⟩
      · have d0 : ((K : Int) == 0) = false := by simp; omega
        have Hk0 := hid hk0
        clear hk0
        go_wp2_with go_in
        go_ret
        exact ⟨ret_bool (by simp; omega), Hb.out⟩
    · intro t2 u c kl y1 y2 w6 cnt' hk hl hv hat hrg6 hlt hg6 hs6 hen
      obtain ⟨t9, u9, e1, rfl, l1, l2⟩ := place_inv hk
      obtain ⟨rfl, rfl⟩ : t2 = t9 ∧ u = u9 := by simpa using e1
      clear e1
      obtain ⟨p, hp, e3, e4⟩ : ∃ p ∈ L, p.c.t = t2 ∧ p.c.n = u := by
        have h2 := Maps.has_true_of_atKey hat
        rw [HV.out.has _ _ l1 l2] at h2
        obtain ⟨p, hp1, hp2⟩ := List.any_eq_true.1 h2
        have e9 := of_decide_eq_true hp2
        exact ⟨p, hp1, e9.1, e9.2⟩
      have hmore := H.out.more hp (by rw [e3, e4]; exact hl) Hpm.out
      rw [e3, e4] at hmore
      have hlen : L'.length ≤ 100000 := by
        have h3 := Hpm.out.length_eq
        have h6 := List.length_filter_le (fun p : Reg => !left (keyP p.c.t p.c.n)) L
        omega
      have b6 := hid (Hb.out.trans ⟨hg6.os, hg6.tape, hg6.output, hg6.size, fun k hk => hg6.block k (by have := Hb.out.size; omega) (fun e => by cases e; have := Hsz.out; omega)⟩)
      have O6 := hid ((Hmp.out.kept hg6 (fun e => map_ne hrg Hmp.out (Option.some.inj e))).alloc (.cells #[.string t2, .string u] 111))
      have Hrg6 := hid (hrg6.alloc (.cells #[.string t2, .string u] 111))
      have hlk := Hcn.out.look O6.out t2 l1
      have Hlt := hid hlt
      have Hmore := hid hmore
      have Hkl := hid (Go.WideMaps.keyOf_string_mk Tryd.underlying9 (s := t2) l1)
      have hcl := cntT_le (L'.map (·.c.t)) t2
      rw [List.length_map] at hcl
      have Hcp := hid (Hcn.out.put t2)
      obtain ⟨k, hk9⟩ : ∃ k, k = cntT (L'.map (·.c.t)) t2 := ⟨_, rfl⟩
      rw [← hk9] at hlk hcl Hcp
      have hwf : (Lit.int .i64 ((k + 1 : Nat) : Int)).wf = true := by simp [Lit.wf, IntKind.min, IntKind.max, IntKind.signed, IntKind.bits]; omega
      have Hwf := hid hwf
      have hka : ((k : Int) + 1) = ((k + 1 : Nat) : Int) := by omega
      have Hka := hid hka
      have Et : Hid (p.c.t = t2) := e3
      clear hk hat hrg6 hlt hg6 hl hrg hmore hp e4 hv hk9 hwf hka hs6 e3
      go_wp2_with (first
        | (at_mapUpdate; rw [Hka.out]; refine wpList_mapUpdate_own _ rfl _ _ _ 181 rfl 9 3 lawStr Tryd.underlying181 _ w.heap.size L'.length D rfl O6.out (by unfold maxLen; omega) _ _ _ rfl rfl Hkl.out _ [] (plainElem_int Tryd.underlying3 Hwf.out) ?_; intro w8 hown8 hg8)
        | go_in)
      have nr := map_ne Hrg6.out O6.out
      have R8 := Hrg6.out.kept hg8 (fun e => Hmk.out (Option.some.inj e)) (fun e => nr (Option.some.inj e).symm)
      have c8 := b6.out.alloc b6.out.size (.cells #[.string t2, .string u] 111)
      simp only [Act.put]
      go_roundw
      case rel =>
        refine ⟨_, _, p :: L', _, R8, hown8, ?_, Hmore.out, c8.trans ((Below.refl _ _).grown hg8 c8.size (fun q hq => by cases hq; exact Nat.le_refl _))⟩
        rw [List.map_cons, Et.out]
        exact Hcp.out
      case measure =>
        rw [R8.left_eq, HL.out]
        exact Hlt.out
end
end Go.Proofs.YthfmpebgmojcaaaDoor.Gr

/- Grants: registerError. -/
namespace Go.Proofs.YthfmpebgmojcaaaDoor.Gr
open Go.RowKit Go.Maps
set_option linter.unusedVariables false
set_option maxRecDepth 20000
def regE (L : List Reg) (c : Cl) : Nat :=
  if (okN c.t && okN c.n) = false then 8 else if 24 < c.r.size then 6 else if (fC L c.t c.n).isSome = true then 5 else if roomR (L.map (·.c.t)) c.t = false then 24 else 0
structure ClIn (c : Cl) : Prop where
  t : c.t.size ≤ 9223372036854775807
  n : c.n.size ≤ 9223372036854775807
  r : c.r.size ≤ 9223372036854775807
  sc : c.sc ≤ 255
theorem isName_q (t : ByteArray) (w : World) (ht : t.size ≤ 9223372036854775807) : Calls Tryd.prog 84 #[.string t] w fun e w' => e = .returned (.bool (okN t)) ∧ w' = w := isName_any t w (by unfold maxLen; omega)
section
variable {w : World} {B g mc d : Nat} {L : List Reg} {s : GS}
set_option maxHeartbeats 4000000 in
theorem registerError_any (h : SAt w B g mc L s d) (hd : d ≤ 17592186044416) (hl9 : L.length ≤ 100000) (c : Cl) (hc : ClIn c) :
    Calls Tryd.prog 54 #[.pointer (some ⟨g, 0, none⟩), .agg (clC c)] w fun e w' => e = .returned (.int .i64 (regE L c : Nat)) ∧ Below w.heap.size w w' := by
  obtain ⟨W, hW⟩ : ∃ W, W = w.alloc (.cells (clC c) 49) := ⟨_, rfl⟩
  have b0 : Below w.heap.size w W := by rw [hW]; exact (Below.refl _ w).alloc (Nat.le_refl _) _
  have x0 : W.heap[w.heap.size]? = some (.cells (clC c) 49 (0, 0)) := by rw [hW]; exact heap_allocN w _
  have h0 := h.below b0
  have y0 : W.cell? ⟨w.heap.size, 0, none⟩ = some (.string c.t) := (cell_of_rowU _ _ 0 _ _ _ x0).trans rfl
  have y1 : W.cell? ⟨w.heap.size, 1, none⟩ = some (.string c.n) := (cell_of_rowU _ _ 1 _ _ _ x0).trans rfl
  have y2 : W.cell? ⟨w.heap.size, 2, none⟩ = some (.string c.r) := (cell_of_rowU _ _ 2 _ _ _ x0).trans rfl
  have c0 := h0.c0
  have hlk : ∀ q, (Instr.lookup 103 (.map (some mc)) (.agg #[.string c.t, .string c.n]) true).run Tryd.prog (W.drewN q) = .ok (.tuple #[.pointer ((fC L c.t c.n).map fun p => ⟨p.r, 0, none⟩), .bool (fC L c.t c.n).isSome]) (W.drewN q) := fun q => (h0.below (below_dN _ _ q)).look _ _ (by have := hc.t; unfold maxLen; omega) (by have := hc.n; unfold maxLen; omega)
  have HR := hid (fun (q : Nat) => hasRoom_any (h0.below (below_dN W.heap.size W q)) hd c.t (by have := hc.t; unfold maxLen; omega) hl9)
  have HW := hid hW.symm
  have B0 := hid b0
  have HN1 := hid (fun (V : World) => isName_q c.t V hc.t)
  have HN2 := hid (fun (V : World) => isName_q c.n V hc.n)
  have hr9 := hc.r
  have Ht9 := hid (And.intro hc.t hc.n)
  have Y := hid (And.intro y0 (And.intro y1 c0))
  rw [hW] at y0 y1 y2 c0
  unfold clC at HW ⊢
  obtain ⟨E, hE⟩ : ∃ E, E = regE L c := ⟨_, rfl⟩
  rw [← hE]
  unfold regE at hE
  generalize okN c.t = o1 at *
  generalize okN c.n = o2 at *
  generalize (fC L c.t c.n).isSome = o3 at *
  generalize ((fC L c.t c.n).map fun p => (⟨p.r, 0, none⟩ : Addr)) = op at *
  generalize roomR (L.map (·.c.t)) c.t = o4 at *
  have HE := hid hE
  clear h h0 hW b0 x0 hc hE
  obtain ⟨t, n, r, sc⟩ := c
  simp only at *
  have hlk0 := hlk 0
  cases o1
  · go_enter Tryd.func54, Tryd.ntmps54
    go_wp2_with (go_at_call 84; refine (HN1.out _).mono ?_; rintro _ w9 ⟨rfl, e9⟩; subst w9)
    go_ret
    rw [HW.out]
    exact ⟨by rw [HE.out]; rfl, B0.out⟩
  · cases o2
    · go_enter Tryd.func54, Tryd.ntmps54
      go_wp2_with (first
        | (go_at_call 84; refine (HN1.out _).mono ?_; rintro _ w9 ⟨rfl, e9⟩; subst w9; clear HN1)
        | (go_at_call 84; refine (HN2.out _).mono ?_; rintro _ w9 ⟨rfl, e9⟩; subst w9; clear HN2))
      go_ret
      rw [HW.out]
      exact ⟨by rw [HE.out]; rfl, B0.out⟩
    · by_cases hr : 24 < r.size
      · have d1 : decide ((24 : Int) < (r.size : Int)) = true := by simp; omega
        have Hr := hid hr
        clear hr
        go_enter Tryd.func54, Tryd.ntmps54
        go_wp2_with (first
          | (go_at_call 84; refine (HN1.out _).mono ?_; rintro _ w9 ⟨rfl, e9⟩; subst w9; clear HN1)
          | (go_at_call 84; refine (HN2.out _).mono ?_; rintro _ w9 ⟨rfl, e9⟩; subst w9; clear HN2))
        go_ret
        rw [HW.out]
        exact ⟨by rw [HE.out, if_neg (by simp), if_pos Hr.out]; rfl, B0.out⟩
      · have d1 : decide ((24 : Int) < (r.size : Int)) = false := by simp; omega
        have Hr := hid hr
        clear hr
        go_enter Tryd.func54, Tryd.ntmps54
        go_wp2_with (first
          | (go_at_call 84; refine (HN1.out _).mono ?_; rintro _ w9 ⟨rfl, e9⟩; subst w9; clear HN1)
          | (go_at_call 84; refine (HN2.out _).mono ?_; rintro _ w9 ⟨rfl, e9⟩; subst w9; clear HN2))
        rw [HW.out]
        obtain ⟨v0, v1, v2⟩ := Y.out
        clear y0 y1 y2 c0
        cases o3
        · go_quiet (fail)
          cases o4
          · have hE9 : Hid (E = 24) := hid (by rw [HE.out]; simp [Hr.out])
            go_wp2_with (go_at_call 85; refine (HR.out _).mono ?_; rintro _ w1 ⟨rfl, b1⟩)
            go_ret
            exact ⟨by rw [hE9.out]; rfl, Below.on' (B0.out.trans (below_dN _ _ _)) b1⟩
          · have hE9 : Hid (E = 0) := hid (by rw [HE.out]; simp [Hr.out])
            go_wp2_with (go_at_call 85; refine (HR.out _).mono ?_; rintro _ w1 ⟨rfl, b1⟩)
            go_ret
            exact ⟨by rw [hE9.out]; rfl, Below.on' (B0.out.trans (below_dN _ _ _)) b1⟩
        · have hE9 : Hid (E = 5) := hid (by rw [HE.out]; simp [Hr.out])
          go_quiet (fail)
          go_wp2
          go_ret
          exact ⟨by rw [hE9.out]; rfl, B0.out.trans (below_dN _ _ _)⟩
end
end Go.Proofs.YthfmpebgmojcaaaDoor.Gr

/- Grants: Drop, Withdraw, New. -/
namespace Go.Proofs.YthfmpebgmojcaaaDoor.Gr
open Go.RowKit Go.Maps
set_option linter.unusedVariables false
set_option maxRecDepth 20000
theorem len_drop {α : Type} (p : α → Bool) : ∀ l : List α, (l.Pairwise fun a b => ¬ (p a = true ∧ p b = true)) → (l.filter fun a => !p a).length + (if l.any p = true then 1 else 0) = l.length
  | [], _ => rfl
  | a :: l, h => by
    obtain ⟨h1, h2⟩ := List.pairwise_cons.1 h
    have ih := len_drop p l h2
    cases hp : p a with
    | false =>
      simp only [List.filter_cons, hp, Bool.not_false, if_true, List.length_cons, List.any_cons, Bool.false_or]
      omega
    | true =>
      have hn : l.any p = false := by
        rw [List.any_eq_false]
        intro b hb e
        exact h1 b hb ⟨hp, e⟩
      rw [hn] at ih
      simp only [Bool.false_eq_true, if_false, Nat.add_zero] at ih
      simp only [List.filter_cons, hp, Bool.not_true, Bool.false_eq_true, if_false, List.length_cons, List.any_cons, Bool.true_or, if_true]
      omega
theorem isC_iff {t n : ByteArray} {c : Cl} : isC t n c = true ↔ c.t = t ∧ c.n = n := by unfold isC; exact decide_eq_true_iff
theorem CRel.drop {V : DataW Value} {L : List Reg} (h : CRel V L) (hz : ∀ p ∈ L, p.c.t.size ≤ maxLen ∧ p.c.n.size ≤ maxLen) (hk : L.Pairwise fun a b => ¬ (a.c.t = b.c.t ∧ a.c.n = b.c.n)) (t n : ByteArray) (ht : t.size ≤ maxLen) (hn : n.size ≤ maxLen) :
    CRel (V.del (keyP t n)) (L.filter fun p => !isC t n p.c) := by
  have hq : L.Pairwise fun a b => ¬ (isC t n a.c = true ∧ isC t n b.c = true) := hk.imp fun {a b} hne e => by
    obtain ⟨e1, e2⟩ := isC_iff.1 e.1
    obtain ⟨e3, e4⟩ := isC_iff.1 e.2
    exact hne ⟨e1.trans e3.symm, e2.trans e4.symm⟩
  refine ⟨h.tidy.del _, fun t' u' ht' hu' => ?_, fun p hp z => ?_, ?_⟩
  · by_cases e : (t', u') = (t, n)
    · obtain ⟨rfl, rfl⟩ := Prod.mk.inj e
      rw [has_del_same]
      symm
      rw [List.any_eq_false]
      intro p hp
      have := (List.mem_filter.1 hp).2
      simpa using this
    · rw [has_del_other (fun e' => e (keyP_inj ht' hu' ht hn e')), h.has _ _ ht' hu', List.any_filter]
      congr 1
      funext p
      cases h1 : isC t' u' p.c with
      | false => simp
      | true =>
        have h2 : isC t n p.c = false := by
          cases h3 : isC t n p.c with
          | false => rfl
          | true =>
            obtain ⟨e1, e2⟩ := isC_iff.1 h1
            obtain ⟨e3, e4⟩ := isC_iff.1 h3
            exact absurd (by rw [← e1, ← e2, e3, e4]) e
        simp [h2]
  · obtain ⟨h1, h2⟩ := List.mem_filter.1 hp
    obtain ⟨z1, z2⟩ := hz p h1
    have hne : keyP p.c.t p.c.n ≠ keyP t n := fun e => by
      obtain ⟨e1, e2⟩ := Prod.mk.inj (keyP_inj z1 z2 ht hn e)
      rw [isC_iff.2 ⟨e1, e2⟩] at h2
      cases h2
    rw [atKey_del_other hne, h.at' p h1]
  · have h1 := size_del (k := keyP t n) h.tidy
    rw [h.has t n ht hn, h.size] at h1
    have h2 := len_drop (fun p : Reg => isC t n p.c) L hq
    omega
theorem ARel.drop {D : DataW Unit} {l : List Co} (h : ARel D l) (hk : l.Pairwise fun a b => ¬ a.u = b.u) (u : ByteArray) :
    ARel (D.del (.string u.data.toList)) (l.filter fun a => !decide (a.u = u)) := by
  have hq : l.Pairwise fun a b => ¬ (decide (a.u = u) = true ∧ decide (b.u = u) = true) := hk.imp fun {a b} hne e => hne ((of_decide_eq_true e.1).trans (of_decide_eq_true e.2).symm)
  refine ⟨h.tidy.del _, fun v => ?_, fun a ha z => ?_, ?_⟩
  · by_cases e : v = u
    · subst e
      rw [has_del_same]
      symm
      rw [List.any_eq_false]
      intro p hp
      have := (List.mem_filter.1 hp).2
      simpa using this
    · rw [has_del_other (fun e' => e (str_inj e')), h.has, List.any_filter]
      congr 1
      funext a
      by_cases h1 : a.u = v
      · subst h1
        simp [e]
      · simp [h1]
  · obtain ⟨h1, h2⟩ := List.mem_filter.1 ha
    have hne : (Lit.string a.u.data.toList) ≠ .string u.data.toList := fun e => by
      rw [str_inj e] at h2
      simp at h2
    rw [atKey_del_other hne, h.at' a h1]
  · have h1 := size_del (k := .string u.data.toList) h.tidy
    rw [h.has, h.size] at h1
    have h2 := len_drop (fun a : Co => decide (a.u = u)) l hq
    omega
def GS.dropC (s : GS) (t n : ByteArray) : GS := ⟨s.cs.filter fun c => !isC t n c, s.al.filter fun a => !ofC t n a⟩
theorem ofC_iff {t n : ByteArray} {a : Co} : ofC t n a = true ↔ a.t = t ∧ a.n = n := by unfold ofC; exact decide_eq_true_iff
theorem GS.Ok.dropC {s : GS} (h : s.Ok) (t n : ByteArray) : (s.dropC t n).Ok := by
  refine ⟨fun c hc => h.names c (List.mem_filter.1 hc).1, h.keys.filter _, fun a ha => ?_, h.akeys.filter _⟩
  obtain ⟨h1, h2⟩ := List.mem_filter.1 ha
  obtain ⟨h3, h4, h5, c, hc, h6, h7, h8⟩ := h.anames a h1
  refine ⟨h3, h4, h5, c, List.mem_filter.2 ⟨hc, ?_⟩, h6, h7, h8⟩
  have e : isC t n c = ofC t n a := by unfold isC ofC; rw [h6, h7]
  rw [e]
  exact h2
section
variable {w w' : World} {B g mc d : Nat} {L : List Reg} {s : GS}
theorem RegIn.kept {p : Reg} {al : List Co} (h : RegIn w B p al d) {b : Nat} (hg : w.grownBy w' (some b)) (h1 : p.r ≠ b) (h2 : p.m ≠ b) : RegIn w' B p al d := by
  obtain ⟨k1, k2, k3, n, D, k4, k5⟩ := h
  exact ⟨k1, k2, (hg.block _ (heap_lt k3) (fun e => h1 (Option.some.inj e))).trans k3, n, D, k4.kept hg (fun e => h2 (Option.some.inj e)), k5⟩
theorem mapObj {H : Type} {k : TypeId} {R : Value → Option (DataW H × List MemPlace)} {b n : Nat} {D : DataW H} (h : w.ownsMap Tryd.prog k R b n D) : ∃ es clock, w.heap[b]? = some (.map es clock) := by
  obtain ⟨es, clock, hb, _⟩ := h
  exact ⟨es, clock, hb⟩
theorem cells_ne_map {H : Type} {k : TypeId} {R : Value → Option (DataW H × List MemPlace)} {b n r : Nat} {D : DataW H} (h : w.ownsMap Tryd.prog k R b n D) {cs : Array Value} {T : TypeId} {fr : Nat × Nat} (hr : w.heap[r]? = some (.cells cs T fr)) : r ≠ b := fun e => by
  obtain ⟨es, clock, hb⟩ := mapObj h
  rw [e, hb] at hr
  cases hr
theorem SAt.keysL (h : SAt w B g mc L s d) : L.Pairwise fun a b => ¬ (a.c.t = b.c.t ∧ a.c.n = b.c.n) := by
  have hk := h.ok.keys
  rw [← h.cs, List.pairwise_map] at hk
  exact hk
theorem SAt.m_ne (h : SAt w B g mc L s d) {p : Reg} (hp : p ∈ L) : p.m ≠ mc := fun e => (List.nodup_cons.1 h.ndm).1 (List.mem_map.2 ⟨p, hp, e⟩)
theorem SAt.dropC (h : SAt w B g mc L s d) (t n : ByteArray) (ht : t.size ≤ maxLen) (hn : n.size ≤ maxLen) (k : Nat) (V : DataW Value) (hk : k ≤ d) (hV : CRel V L) (hm : w'.ownsMap Tryd.prog 111 RV mc k (V.del (keyP t n))) (hm0 : w.ownsMap Tryd.prog 111 RV mc k V) (hg : w.grownBy w' (some mc)) :
    SAt w' B g mc (L.filter fun p => !isC t n p.c) (s.dropC t n) d := by
  have hsub : (L.filter fun p => !isC t n p.c).Sublist L := List.filter_sublist
  refine ⟨h.ok.dropC t n, ?_, ?_, ⟨k, _, hm, hk, hV.drop (fun p hp => ?_) h.keysL t n ht hn⟩, fun p hp => ?_, h.ndr.sublist (hsub.map _), h.ndm.sublist ((hsub.map _).cons_cons _), h.bg, h.bm⟩
  · unfold GS.dropC
    rw [← h.cs, List.filter_map]
    rfl
  · exact (hg.block g h.lt (fun e => cells_ne_map hm0 h.obj (Option.some.inj e))).trans h.obj
  · obtain ⟨z1, z2⟩ := h.sizes hp
    exact ⟨by unfold maxLen; omega, by unfold maxLen; omega⟩
  · obtain ⟨h1, h2⟩ := List.mem_filter.1 hp
    have hr := (h.regs p h1).kept hg (cells_ne_map hm0 (h.regs p h1).2.2.1) (h.m_ne h1)
    obtain ⟨k1, k2, k3, q, D, k4, k5, k6⟩ := hr
    refine ⟨k1, k2, k3, q, D, k4, k5, ?_⟩
    have e : (s.dropC t n).al.filter (ofC p.c.t p.c.n) = s.al.filter (ofC p.c.t p.c.n) := by
      unfold GS.dropC
      rw [List.filter_filter]
      congr 1
      funext a
      cases h3 : ofC p.c.t p.c.n a with
      | false => simp
      | true =>
        obtain ⟨e1, e2⟩ := ofC_iff.1 h3
        have e3 : ofC t n a = isC t n p.c := by unfold ofC isC; rw [e1, e2]
        rw [e3]
        simpa using h2
    rw [e]
    exact k6
theorem dropC_none (h : SAt w B g mc L s d) {t n : ByteArray} (hf : fC L t n = none) : (L.filter fun p => !isC t n p.c) = L ∧ s.dropC t n = s := by
  have h1 : ∀ p ∈ L, isC t n p.c = false := fun p hp => by
    have := List.find?_eq_none.1 hf p hp
    simpa using this
  have h2 : ∀ c ∈ s.cs, isC t n c = false := fun c hc => by
    rw [← h.cs] at hc
    obtain ⟨p, hp, rfl⟩ := List.mem_map.1 hc
    exact h1 p hp
  refine ⟨List.filter_eq_self.2 (fun p hp => by rw [h1 p hp]; rfl), ?_⟩
  unfold GS.dropC
  rw [List.filter_eq_self.2 (fun c hc => by rw [h2 c hc]; rfl), List.filter_eq_self.2 (fun a ha => by
    obtain ⟨_, _, _, c, hc, e1, e2, _⟩ := h.ok.anames a ha
    have e : ofC t n a = isC t n c := by unfold isC ofC; rw [e1, e2]
    rw [e, h2 c hc]
    rfl)]
set_option maxHeartbeats 4000000 in
theorem drop_any (h : SAt w B g mc L s d) (t n : ByteArray) (ht : t.size ≤ maxLen) (hn : n.size ≤ maxLen) :
    Calls Tryd.prog 19 #[.pointer (some ⟨g, 0, none⟩), .string t, .string n] w fun e w' => e = .returned (.int .i64 (noneE (fC L t n).isSome)) ∧ OutJ (MineU g mc L) w w' ∧ SAt w' B g mc (L.filter fun p => !isC t n p.c) (s.dropC t n) d := by
  have HF := hid (find_any h t n ht hn)
  have c0 := h.c0
  cases hf : fC L t n with
  | none =>
    rw [hf] at HF
    obtain ⟨e1, e2⟩ := dropC_none h hf
    rw [e1, e2]
    have H := hid h
    clear h hf e1 e2 c0
    go_enter Tryd.func19, Tryd.ntmps19
    go_wp2_with (go_at_call 56; refine HF.out.mono ?_; rintro _ w1 ⟨rfl, e1⟩; subst w1; unfold noneE; simp only [Option.isSome_none, Bool.false_eq_true, if_false])
    go_ret
    exact ⟨rfl, OutJ.of_below (Below.refl _ _), H.out⟩
  | some p =>
    rw [hf] at HF
    obtain ⟨k, V, hm, hk, hV⟩ := h.cm
    have H := hid h
    have HM := hid hm
    have HV := hid hV
    have Hk := hid hk
    have Hkl := hid (keyOf_place t n ht hn)
    have Ht := hid (And.intro ht hn)
    clear h hf hm hV hk
    go_enter Tryd.func19, Tryd.ntmps19
    go_wp2_with (first
      | (go_at_call 56; refine HF.out.mono ?_; rintro _ w1 ⟨rfl, e1⟩; subst w1; unfold noneE; simp only [Option.isSome_some, if_true])
      | (at_delete; refine wpList_delete_own _ rfl _ _ 103 111 rfl 106 lawPlace Tryd.underlying103 RV mc k V rfl HM.out _ _ rfl Hkl.out ?_; intro w2 hown2 ht2; have hg2 := ht2.grown; have HS := hid (H.out.dropC t n Ht.out.1 Ht.out.2 k V Hk.out HV.out hown2 HM.out hg2); have O2 := hid (OutJ.of_grown (P := MineU g mc L) hg2 (.inr (.inl rfl))); clear hown2 ht2 hg2))
    go_ret
    exact ⟨rfl, O2.out, HS.out⟩
end
end Go.Proofs.YthfmpebgmojcaaaDoor.Gr
