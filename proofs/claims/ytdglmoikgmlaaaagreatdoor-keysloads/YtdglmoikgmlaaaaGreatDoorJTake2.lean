/- take of a row; Rising. -/
import Derived.Test.YtdglmoikgmlaaaaGreatDoorJTake
import Derived.Sort.Walk0
namespace Go.Proofs.YtdglmoikgmlaaaaGreatDoor.Xr
open Go.RowKit Go.Maps
set_option linter.unusedVariables false
set_option maxRecDepth 20000
theorem takeR_head {s : TS} {r : Rw} (h : r.key = headK) : takeR s r = (oneN r.cols 0 1099511627776).map fun n => { s with n := n } := by
  unfold takeR
  rw [if_pos h]
theorem takeR_ver {s : TS} {r : Rw} (h : r.key ≠ headK) {p : ByteArray × ByteArray} (hc : cutS r.key = some p) : takeR s r = tvR s p.1 p.2 r.cols := by
  unfold takeR tvR
  rw [if_neg h, hc]
theorem takeR_gone {s : TS} {r : Rw} (h : r.key ≠ headK) (hc : cutS r.key = none) : takeR s r = if r.cols.length = 0 ∧ (s.desR r.key).2 = 0 then some (s.desR r.key).1 else none := by
  unfold takeR
  rw [if_neg h, hc]
theorem cutP_size (s : ByteArray) : (cutP s).1.size ≤ s.size ∧ (cutP s).2.size ≤ s.size := by
  unfold cutP cutS
  cases s.data.toList.findIdx? (· == 47) with
  | none => exact ⟨Nat.le_refl _, Nat.zero_le _⟩
  | some i =>
    simp only [Option.map_some, Option.getD_some]
    constructor
    · rw [ByteArray.size_extract]; omega
    · rw [ByteArray.size_extract]; omega
set_option maxHeartbeats 4000000 in
theorem take_any {w : World} {B g mv mg : Nat} {root : List UInt8} {s : TS} {d : Nat} (h : TreeM w B g mv mg root s d) (hd : d ≤ 900) (r : Rw) (a : Option Addr) (k cap : Nat) (hk : k = r.cols.length) (hx : Texts w a r.cols) (hl : r.cols.length ≤ 140737488351232) (hs : ∀ c ∈ r.cols, c.size ≤ 140737488351232) (hk9 : r.key.size ≤ 140737488351232) :
    Calls Tryz.prog 37 #[.pointer (some ⟨g, 0, none⟩), .agg #[.string r.key, .slice a k cap]] w (TakeP w B g mv mg root d (takeR s r)) := by
  obtain ⟨W0, hW0⟩ : ∃ W0, W0 = w.alloc (.cells #[.string r.key, .slice a k cap] 67) := ⟨_, rfl⟩
  have b0 : Below w.heap.size w W0 := by rw [hW0]; exact (Below.refl _ w).alloc (Nat.le_refl _) _
  have x0 : W0.heap[w.heap.size]? = some (.cells #[.string r.key, .slice a k cap] 67 (0, 0)) := by rw [hW0]; exact heap_alloc_new w _
  have HC := hid (cut_any r.key hk9 W0)
  have B0 := hid b0
  have X0 := hid x0
  have HW0 := hid hW0.symm
  have cK : W0.cell? ⟨w.heap.size, 0, none⟩ = some (.string r.key) := (cell_of_row _ _ 0 _ _ _ x0).trans rfl
  have hc2 : ∀ W, Below W0.heap.size W0 W → W.cell? ⟨w.heap.size, 0, none⟩ = some (.string r.key) ∧ W.cell? ⟨w.heap.size, 1, none⟩ = some (.slice a k cap) := fun W hW => by
    have h1 := (hW.block _ (heap_lt x0)).trans x0
    exact ⟨(cell_of_row _ _ 0 _ _ _ h1).trans rfl, (cell_of_row _ _ 1 _ _ _ h1).trans rfl⟩
  have HC2 := hid hc2
  have sz := hid (cutP_size r.key)
  by_cases hh : r.key = headK
  · rw [takeR_head hh]
    obtain ⟨ok, hne, nv, ng, V, G, h1, hV, hG, l1, l2⟩ := h
    have e1 : (r.key.toList == headK.toList) = true := by rw [hh]; simp
    have HS := hid (fun (W : World) (hW : Below w.heap.size w W) => takeSealed_any (h1.below hW) (a := a) (cols := r.cols) k cap hk (hx.below hW) hl hs)
    have hset : ∀ n, oneN r.cols 0 1099511627776 = some n → n ≤ 1099511627776 := fun n hn => (oneN_some hn).2.2
    have Ok := hid ok
    have HV := hid hV
    have HG := hid hG
    have Hne := hid hne
    generalize oneN r.cols 0 1099511627776 = o at *
    have e2 : (r.key.toList == [35]) = true := by rw [hh]; decide +kernel
    have E2 := hid e2
    generalize (cutP r.key).1 = p1 at *
    generalize (cutP r.key).2 = p2 at *
    generalize (cutS r.key).isSome = q at *
    generalize r.key = key at *
    clear hh h1 hx hl hs hk hW0 b0 x0 hc2 ok hV hG hne hset
    go_enter Tryz.func37, Tryz.ntmps37
    go_wp2_with (first
      | (go_at_call 56; rw [HW0.out]; refine HC.out.mono ?_; rintro _ w1 ⟨rfl, b1⟩; have B1 := hid b1; have c0 := (HC2.out w1 b1).1; have c1 := (HC2.out w1 b1).2; clear b1)
      | (go_at_call 57; refine (HS.out w1 (Below.on' B0.out B1.out)).mono ?_; rintro _ w2 ⟨rfl, t2, o2⟩))
    go_ret
    refine ⟨by rw [Option.isSome_map]; rfl, fun s' hs' => ?_, (OutJ.of_below (Below.on' B0.out B1.out)).trans (o2.mono fun k hk => .inl hk)⟩
    cases o with
    | none => cases hs'
    | some n =>
      obtain rfl := Option.some.inj hs'
      exact ⟨⟨Ok.out.names, Ok.out.nodup, Ok.out.gnames, Ok.out.gnodup, Ok.out.few, Ok.out.gfew⟩, Hne.out, nv, ng, V, G, t2, HV.out, HG.out, by omega, by omega⟩
  · have e2 : (r.key.toList == [35]) = false := by
      rw [beq_eq_false_iff_ne]
      intro e
      exact hh ((str_eq _ _).2 (e.trans (by decide +kernel)))
    have H := hid h
    cases hcut : cutS r.key with
    | some p =>
      rw [takeR_ver hh hcut]
      have hP : cutP r.key = p := by unfold cutP; rw [hcut]; rfl
      have hsz := sz.out
      rw [hP] at hsz HC
      rw [hcut] at HC
      simp only [Option.isSome_some] at HC
      obtain ⟨p1, p2⟩ := p
      simp only at hsz HC ⊢
      have HV := hid (fun (W : World) (hW : Below w.heap.size w W) => takeVersion_any (h.below hW) hd p1 p2 (by unfold maxLen; omega) (by unfold maxLen; omega) (a := a) (cols := r.cols) k cap hk (hx.below hW) hl hs)
      generalize tvR s p1 p2 r.cols = o at *
      clear sz hP hsz
      generalize r.key = key at *
      clear hh hx hl hs hk hW0 b0 x0 hc2 hcut h
      go_enter Tryz.func37, Tryz.ntmps37
      go_wp2_with (first
        | (go_at_call 56; rw [HW0.out]; refine HC.out.mono ?_; rintro _ w1 ⟨rfl, b1⟩; have B1 := hid b1; have c0 := (HC2.out w1 b1).1; have c1 := (HC2.out w1 b1).2; clear b1)
        | (go_at_call 58; refine (HV.out w1 (Below.on' B0.out B1.out)).mono ?_; rintro _ w2 ⟨rfl, t2, o2⟩))
      go_ret
      exact ⟨rfl, t2, (OutJ.of_below (Below.on' B0.out B1.out)).trans o2⟩
    | none =>
      rw [takeR_gone hh hcut]
      have hP : cutP r.key = (r.key, ⟨#[]⟩) := by unfold cutP; rw [hcut]; rfl
      rw [hP, hcut] at HC
      simp only [Option.isSome_none] at HC
      have HD := hid (fun (W : World) (hW : Below w.heap.size w W) => destroy_m (h.below hW) hd r.key (by unfold maxLen; omega))
      rw [← hk]
      generalize s.desR r.key = o at *
      obtain ⟨s1, e⟩ := o
      simp only at HD ⊢
      clear sz hP
      generalize r.key = key at *
      clear hh hx hl hs hk hW0 b0 x0 hc2 hcut h
      by_cases hk0 : k = 0
      · subst hk0
        by_cases he : e = 0
        · subst he
          rw [if_pos ⟨rfl, rfl⟩]
          go_enter Tryz.func37, Tryz.ntmps37
          go_wp2_with (first
            | (go_at_call 56; rw [HW0.out]; refine HC.out.mono ?_; rintro _ w1 ⟨rfl, b1⟩; have B1 := hid b1; have c0 := (HC2.out w1 b1).1; have c1 := (HC2.out w1 b1).2; clear b1)
            | (go_at_call 22; refine (HD.out w1 (Below.on' B0.out B1.out)).mono ?_; rintro _ w2 ⟨rfl, t2, o2⟩))
          go_ret
          exact ⟨rfl, (fun s' hs' => Option.some.inj hs' ▸ t2), (OutJ.of_below (Below.on' B0.out B1.out)).trans o2⟩
        · rw [if_neg (fun h => he h.2)]
          have he1 : ((e : Int) == 0) = false := by simp; omega
          generalize (e : Int) = e at *
          go_enter Tryz.func37, Tryz.ntmps37
          go_wp2_with (first
            | (go_at_call 56; rw [HW0.out]; refine HC.out.mono ?_; rintro _ w1 ⟨rfl, b1⟩; have B1 := hid b1; have c0 := (HC2.out w1 b1).1; have c1 := (HC2.out w1 b1).2; clear b1)
            | (go_at_call 22; refine (HD.out w1 (Below.on' B0.out B1.out)).mono ?_; rintro _ w2 ⟨rfl, t2, o2⟩))
          go_ret
          exact ⟨rfl, (fun s' hs' => nomatch hs'), (OutJ.of_below (Below.on' B0.out B1.out)).trans o2⟩
      · rw [if_neg (fun h => hk0 h.1)]
        have hk1 : ((k : Int) == 0) = false := by simp; omega
        clear hk0
        go_enter Tryz.func37, Tryz.ntmps37
        go_wp2_with (first
          | (go_at_call 56; rw [HW0.out]; refine HC.out.mono ?_; rintro _ w1 ⟨rfl, b1⟩; have B1 := hid b1; have c0 := (HC2.out w1 b1).1; have c1 := (HC2.out w1 b1).2; clear b1))
        go_ret
        exact TakeP.no (Below.on' B0.out B1.out)
def riseB : List Rw → Bool
  | a :: b :: m => decide (a.key.toList < b.key.toList) && riseB (b :: m)
  | _ => true
theorem lt_tr {x y z : List UInt8} (h1 : x < y) (h2 : y < z) : x < z := List.lt_trans h1 h2
theorem riseB_iff : ∀ m : List Rw, riseB m = true ↔ Rise m
  | [] => ⟨fun _ => List.Pairwise.nil, fun _ => rfl⟩
  | [a] => ⟨fun _ => List.pairwise_singleton _ _, fun _ => rfl⟩
  | a :: b :: m => by
    unfold riseB
    rw [Bool.and_eq_true, riseB_iff (b :: m), decide_eq_true_iff]
    constructor
    · rintro ⟨h1, h2⟩
      refine List.pairwise_cons.2 ⟨fun x hx => ?_, h2⟩
      rcases List.mem_cons.1 hx with rfl | hx
      · exact h1
      · exact lt_tr h1 ((List.pairwise_cons.1 h2).1 x hx)
    · intro h
      obtain ⟨h1, h2⟩ := List.pairwise_cons.1 h
      exact ⟨h1 b List.mem_cons_self, h2⟩
theorem riseB_snoc : ∀ (m : List Rw) (a b : Rw), riseB (m ++ [a, b]) = (riseB (m ++ [a]) && decide (a.key.toList < b.key.toList))
  | [], a, b => by simp [riseB]
  | [x], a, b => by simp [riseB]
  | x :: y :: m, a, b => by
    have ih := riseB_snoc (y :: m) a b
    simp only [List.cons_append] at ih ⊢
    rw [riseB, riseB, ih, Bool.and_assoc]
theorem riseB_take {m : List Rw} {k : Nat} (h0 : 0 < k) (hk : k < m.length) : riseB (m.take (k + 1)) = (riseB (m.take k) && decide ((m[k - 1]'(by omega)).key.toList < m[k].key.toList)) := by
  obtain ⟨j, rfl⟩ : ∃ j, k = j + 1 := ⟨k - 1, by omega⟩
  have e1 : m.take (j + 1) = m.take j ++ [m[j]] := List.take_succ_eq_append_getElem (by omega)
  have e2 : m.take (j + 1 + 1) = m.take j ++ [m[j], m[j + 1]] := by
    rw [List.take_succ_eq_append_getElem hk, e1, List.append_assoc]
    rfl
  rw [e2, riseB_snoc, e1]
  simp
theorem riseB_pre {m : List Rw} (k : Nat) (h : riseB m = true) : riseB (m.take k) = true := (riseB_iff _).2 (((riseB_iff _).1 h).sublist (List.take_sublist _ _))
set_option maxHeartbeats 4000000 in
theorem rising_any {w : World} {m : List Rw} (a : Option Addr) (n cap : Nat) (hn : n = m.length) (h : RIn w a m) (hs : m.length ≤ 140737488351232) :
    Calls Tryz.prog 36 #[.slice a n cap] w fun e w' => e = .returned (.bool (riseB m)) ∧ Below w.heap.size w w' := by
  have H := hid h
  have Hn := hid hn
  have hn9 : n ≤ 140737488351232 := by omega
  clear h hn hs
  go_enter Tryz.func36, Tryz.ntmps36
  go_wp2
  go_loopw [3] (fun i wr => ∃ k : Nat, i = .int .i64 (k : Int) ∧ 0 < k ∧ k ≤ max 1 n ∧ riseB (m.take k) = true ∧ Below w.heap.size w wr) (fun i _ => n + 1 - (intOf i).toNat)
  case atStart =>
    refine ⟨1, rfl, by omega, by omega, ?_, Below.refl _ _⟩
    cases m with
    | nil => rfl
    | cons x m => rfl
  case round =>
    obtain ⟨k, rfl, h0, hk, hpre, hb⟩ := hrel
    have Hpre := hid hpre
    have HB := hid hb
    clear hpre hb
    by_cases hlt : k < n
    · have g1 : (k : Int) < (n : Int) := by omega
      have hkm : k < m.length := by have := Hn.out; omega
      obtain ⟨j, rfl⟩ : ∃ j, k = j + 1 := ⟨k - 1, by omega⟩
      obtain ⟨b, o, ad, cp, rfl, c1, _⟩ := H.out.below HB.out j (by omega)
      obtain ⟨b2, o2, ad2, cp2, e2, c2, _⟩ := H.out.below HB.out (j + 1) hkm
      injection e2 with e3
      injection e3 with e3 e4
      subst e3 e4
      have Hst := hid (riseB_take h0 hkm)
      simp only [Nat.add_sub_cancel] at Hst
      generalize m[j].key = x at *
      generalize m[j + 1].key = y at *
      have g2 : IntKind.i64.wrap ((j + 1 : Nat) - 1 : Int) = (j : Int) := by rw [IntKind.wrap_i64]; omega
      have g3 : (j : Int) < (n : Int) := by omega
      have g4 : (0 : Int) ≤ (j : Int) := by omega
      have g5 : (0 : Int) ≤ ((j + 1 : Nat) : Int) := by omega
      have C1 := hid c1
      have C2 := hid c2
      by_cases hxy : x.toList < y.toList
      · have e5 : Go.Op.bytesLess x.toList y.toList = true := by rw [bytesLess_eq]; exact decide_eq_true hxy
        have Hlt := hid hxy
        clear hxy
        go_wp2
        go_quiet (fail)
        go_wp2
        go_roundw
        case rel => exact ⟨j + 1 + 1, by go_num, by omega, by omega, by rw [Hst.out, Hpre.out, decide_eq_true Hlt.out]; rfl, HB.out.trans (below_drewN _ _ _)⟩
        case measure => simp [intOf]; omega
      · have e5 : Go.Op.bytesLess x.toList y.toList = false := by rw [bytesLess_eq]; exact decide_eq_false hxy
        have Hlt := hid hxy
        clear hxy
        go_wp2
        go_quiet (fail)
        go_wp2
        go_ret
        refine ⟨?_, HB.out.trans (below_drewN _ _ _)⟩
        have : riseB m = false := by
          cases hr : riseB m with
          | false => rfl
          | true =>
            have h9 := riseB_pre (j + 1 + 1) hr
            rw [Hst.out, Hpre.out, decide_eq_false Hlt.out] at h9
            cases h9
        rw [this]
        rfl
    · have g1 : ¬ (k : Int) < (n : Int) := by omega
      have hm : Hid (riseB m = true) := by
        have h1 := Hpre.out
        by_cases h2 : m.length ≤ k
        · rw [List.take_of_length_le h2] at h1; exact h1
        · have := Hn.out; omega
      go_wp2
      go_ret
      refine ⟨?_, HB.out⟩
      rw [hm.out]
      rfl
end Go.Proofs.YtdglmoikgmlaaaaGreatDoor.Xr
