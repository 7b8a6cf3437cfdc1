/- The walk of holdfastlaw02.CodecUnder, where the two rows of parts have at most 1048576 texts each: it answers true, and writes nothing that was there. -/
import Derived.Test.YtpdknoldcaaboaaDoorAfter
namespace Go.Proofs.YtpdknoldcaaboaaDoor
open Go.RowKit
open Go.Op (bytesLess)
set_option linter.unusedVariables false

theorem key_end (l : List (List UInt8)) (h : l ≠ []) : ∃ q, keyOf l = q ++ [1] := by
  induction l with
  | nil => exact absurd rfl h
  | cons p r ih =>
    by_cases hr : r = []
    · subst hr
      exact ⟨esc p ++ [0], by simp [keyOf]⟩
    · obtain ⟨q, hq⟩ := ih hr
      exact ⟨esc p ++ 0 :: 1 :: q, by simp [keyOf, hq]⟩

/-- append(v, ys...), v a row of texts of the call's own, ys wherever it lies -/
theorem app_texts (w : World) {ops : Array Oper} {rest : List Oper} {o : Oper} {a : Act} {Q : Exit → Act → World → Prop} (hgd : o.guard = none) (sl x : Operand)
    (ho : o.op = .call { callee := .builtin .append, args := #[sl, x], argTypes := #[22, 22] }) (base : Nat) (v : Value) (xs : List ByteArray) (hs : a.eval sl = v)
    (hown : w.ownsRow base 9 1 v xs.length (strsOf xs)) (ad : Option Addr) (cap : Nat) (ys : List ByteArray) (hT : Texts w ad ys) (hn : ad = none → cap = 0) (hx : a.eval x = .slice ad ys.length cap) (hb : (xs.length + ys.length) * 16 ≤ 140737488355328) (hbase : base ≤ w.heap.size)
    (h : ∀ v' w', w'.ownsRow base 9 1 v' (xs ++ ys).length (strsOf (xs ++ ys)) → Below base w w' → wpList Tryd.prog ops Q rest (a.put o.dst v') w') :
    wpList Tryd.prog ops Q (o :: rest) a w := by
  obtain ⟨i0, hi, hz0, hz1, hz2⟩ := info_parts Tryd.info9
  cases ad with
  | none =>
    have hys : ys = [] := by
      cases ys with
      | nil => rfl
      | cons c x => obtain ⟨b, o, e, _⟩ := hT 0 (by simp); cases e
    have hc := hn rfl
    subst hys
    subst hc
    refine wpList_append_own_none hgd sl x 22 ho base 9 i0 1 Tryd.underlying22 hi v xs.length (strsOf xs) hs hown hx ?_
    exact h v w (by simpa using hown) (Below.refl _ _)
  | some p =>
    refine wpList_append_own w hgd sl x 22 ho base 9 i0 (.string ⟨#[]⟩) 1 16 Tryd.underlying22 hi hz0 hz1 hz2 rfl (by decide) v xs.length (strsOf xs) hs hown p ys.length cap (strsOf ys) hx (by simp [strsOf_length]) (fun j u hj => ?_) (fun u hu => ?_) (by unfold maxLen; omega) hb hbase ?_
    · have hj' : j < ys.length := by
        have := (List.getElem?_eq_some_iff.1 hj).1
        simpa [strsOf_length] using this
      obtain ⟨b, o, e, hc⟩ := hT j hj'
      cases e
      rw [addr_add, hc]
      have := (List.getElem?_eq_some_iff.1 hj).2
      simp [strsOf] at this
      rw [this]
    · obtain ⟨s, _, rfl⟩ := List.mem_map.1 hu
      rfl
    · intro v' w' h1 h2 h3
      have e : strsOf xs ++ strsOf ys = strsOf (xs ++ ys) := by simp [strsOf]
      rw [e, ← List.length_append] at h1
      exact h v' w' h1 ((Below.refl _ _).grown h2 hbase (fun k hk => (hown.lt k hk).1))

theorem between_key (q z : List UInt8) : (!bytesLess z (q ++ [1]) && bytesLess z (q ++ [2])) = decide ((q ++ [1]) <+: z) := by
  have h := between q z 1 2 rfl
  rw [Bool.eq_iff_iff, Bool.and_eq_true, Bool.not_eq_true', decide_eq_true_eq]
  exact h

set_option maxHeartbeats 4000000 in
theorem codecUnder_walk {w : World} (x : List ByteArray) (a : Option Addr) (ca : Nat) (hx : TextsIn w a ca x) (hnx : a = none → ca = 0) (lx : x.length ≤ 1048576) (y : List ByteArray) (b : Option Addr) (cb : Nat) (hy : TextsIn w b cb y) (hny : b = none → cb = 0) (ly : y.length ≤ 1048576) (ht : TabAt w) :
    Calls Tryd.prog 8 #[.slice a x.length ca, .slice b y.length cb] w fun e w' => e = .returned (.bool true) ∧ Below w.heap.size w w' := by
  have Hx := hid hx
  have Hy := hid hy
  have Ht := hid ht
  have Hnx := hid hnx
  have Hny := hid hny
  clear hx hy ht hnx hny
  go_enter Tryd.func8, Tryd.ntmps8
  go_wp2_with fail
  refine Hx.out.key.mono ?_
  rintro e w1 ⟨a1, c1, rfl, hB1, hb1, hc1⟩
  have HB1 := hid hB1
  have Hb1 := hid hb1
  clear hB1 hb1 hc1
  go_wp2_with (first
    | (at_builtin; refine app_texts _ rfl (.tmp 19) (.tmp 20) rfl w1.heap.size _ [] rfl (World.ownsRow_nil _ _ _ _) a ca x (Hx.out.below Hb1.out).texts Hnx.out rfl (by simp; omega) (Nat.le_refl _) ?_; intro v2 w2 ho2 hb2; rw [List.nil_append] at ho2; have Ho2 := hid ho2; have Hb2 := hid hb2; clear ho2 hb2)
    | (at_builtin; refine app_texts _ rfl (.tmp 21) (.tmp 22) rfl w1.heap.size _ x rfl Ho2.out b cb y (Hy.out.below (Below.on' Hb1.out Hb2.out)).texts Hny.out rfl (by omega) Hb2.out.size ?_; intro v3 w3 ho3 hb3; have Ho3 := hid ho3; have Hb3 := hid hb3; clear ho3 hb3))
  obtain ⟨a3, c3, hv3, hT3, hc3⟩ := texts_of_own Ho3.out
  subst hv3
  have Hw3 := hid (Below.on' Hb1.out (Hb2.out.trans Hb3.out))
  have HB13 := hid (HB1.out.below (Hb2.out.trans Hb3.out))
  have Hkey := hid (key_any (x ++ y) a3 c3 w3 hT3 (fun s hs => (List.mem_append.1 hs).elim (Hx.out.sizes s) (Hy.out.sizes s)) (by simp; omega))
  clear Ho2 Hb2 Hb3 Ho3 HB1 hT3 hc3
  go_wp2_with fail
  refine Hkey.out.mono ?_
  rintro e w4 ⟨a4, c4, rfl, hB4, hb4, hc4⟩
  have HB4 := hid hB4
  have HB14 := hid (HB13.out.below hb4)
  have Hb4 := hid (Below.on' Hw3.out hb4)
  clear hB4 hb4 HB13 Hkey hc4
  have Hl1 := hid (keyRes_le x)
  have Hl4 := hid (keyRes_le (x ++ y))
  have Hlz := hid (keyRes_le y)
  by_cases h1 : keyErr x = 0
  · by_cases h2 : keyErr (x ++ y) = 0
    · -- both are keys
      have hxne : bs x ≠ [] := by
        intro h
        have : x.length = 0 := by have := congrArg List.length h; simpa [bs] using this
        unfold keyErr at h1
        rw [if_pos (.inl (by omega))] at h1
        cases h1
      obtain ⟨q, hq⟩ := key_end _ hxne
      have e1 : keyRes x = q ++ [1] := by rw [keyRes_ok x h1, hq]
      have e2 : keyRes (x ++ y) = (q ++ [1]) ++ keyOf (bs y) := by
        rw [keyRes_ok _ h2, show bs (x ++ y) = bs x ++ bs y by simp [bs], key_append, hq]
      have Hle : Hid (bytesLess (keyRes (x ++ y)) (q ++ [1]) = false) := by rw [Hid, e2]; exact less_app _ _
      have Hlt : Hid (bytesLess (keyRes (x ++ y)) (q ++ [2]) = true) := by
        rw [Hid, e2]
        exact ((between q _ 1 2 rfl).2 (List.prefix_append _ _)).2
      have Hin : Hid (keyErr y = 0 → (!bytesLess (keyRes y) (q ++ [1]) && bytesLess (keyRes y) (q ++ [2])) = decide (x <+: y)) := fun h => by
        rw [between_key, keyRes_ok y h, ← hq, decide_eq_decide, key_pre, bs_pre]
      rw [h1, h2]
      rw [e1] at HB14 Hl1 ⊢
      have hql : (q ++ [(1 : UInt8)]).length = q.length + 1 := by simp
      have hq64 : q.length ≤ 64 := by have := Hl1.out; rw [hql] at this; omega
      rw [hql]
      clear h1 h2 hxne hq e1 e2 hql Hl1
      have Hkz := hid (((Hy.out.below Hb4.out)).key)
      generalize keyRes (x ++ y) = kall at *
      generalize keyRes y = kz at *
      generalize keyErr y = ez at *
      go_wp2_with fail
      refine Hkz.out.mono ?_
      rintro e w5 ⟨a5, c5, rfl, hB5, hb5, hc5⟩
      have HB5 := hid hB5
      have HB15 := hid (HB14.out.below hb5)
      have HB45 := hid (HB4.out.below hb5)
      have Hb5 := hid (Below.on' Hb4.out hb5)
      clear hB5 hb5 HB14 HB4 Hkz hc5
      go_wp2_with fail
      refine (after_key q a1 c1 w5 HB15.out (by omega)).mono ?_
      rintro e w6 ⟨a6, c6, rfl, hB6, hb6⟩
      have HB6 := hid hB6
      have HB16 := hid (HB15.out.below hb6)
      have HB46 := hid (HB45.out.below hb6)
      have HB56 := hid (HB5.out.below hb6)
      have Hb6 := hid (Below.on' Hb5.out hb6)
      clear hB6 hb6 HB15 HB45 HB5
      go_wp2_with fail
      refine (refAfter_key q a1 c1 w6 HB16.out (by omega)).mono ?_
      rintro e w7 ⟨a7, c7, rfl, hB7, hb7⟩
      have HB7 := hid hB7
      have HB67 := hid (HB6.out.below hb7)
      have HB17 := hid (HB16.out.below hb7)
      have HB47 := hid (HB46.out.below hb7)
      have HB57 := hid (HB56.out.below hb7)
      have Hb7 := hid (Below.on' Hb6.out hb7)
      clear hB7 hb7 HB6 HB16 HB46 HB56
      go_wp2_with fail
      have Hsm := hid (sameBytes_any (q ++ [2]) (q ++ [2]) a6 a7 c6 c7 _ HB67.out HB7.out (by simp; omega) (by simp; omega))
      rw [show (q ++ [(2 : UInt8)]).length = q.length + 1 by simp] at Hsm
      refine Hsm.out.mono ?_
      clear Hsm
      rintro e w8 ⟨rfl, hb8⟩
      rw [show decide (q ++ [(2 : UInt8)] = q ++ [2]) = true by simp]
      have HB18 := hid (HB17.out.below hb8)
      have HB48 := hid (HB47.out.below hb8)
      have HB58 := hid (HB57.out.below hb8)
      have Hb8 := hid (Below.on' Hb7.out hb8)
      clear hb8 HB67 HB7 HB17 HB47 HB57
      go_wp2_with fail
      refine (after_nil _).mono ?_
      rintro e w9 ⟨a9, c9, rfl, hB9, hb9⟩
      have HB9 := hid hB9
      have HB19 := hid (HB18.out.below hb9)
      have HB49 := hid (HB48.out.below hb9)
      have HB59 := hid (HB58.out.below hb9)
      have Hb9 := hid (Below.on' Hb8.out hb9)
      clear hB9 hb9 HB18 HB48 HB58
      go_wp2_with fail
      have Hbl := hid ((Below.refl w9.heap.size w9).alloc (Nat.le_refl _) (.cells #[.int .u8 255] 5))
      have HBlit : Hid (Bytes (w9.alloc (.cells #[.int .u8 255] 5)) (some ⟨w9.heap.size, 0, none⟩) [255]) := fun k hk => ⟨_, _, rfl, by
        have : k = 0 := by simpa using hk
        subst this
        simp⟩
      refine (sameBytes_any [255] [255] a9 (some ⟨w9.heap.size, 0, none⟩) c9 1 _ (HB9.out.below Hbl.out) HBlit.out (by simp) (by simp)).mono ?_
      rintro e w10 ⟨rfl, hb10⟩
      rw [show decide ([(255 : UInt8)] = [255]) = true by simp]
      have Hb10 := hid (Below.on' (Below.on' Hb9.out Hbl.out) hb10)
      have HB1t := hid ((HB19.out.below Hbl.out).below hb10)
      have HB4t := hid ((HB49.out.below Hbl.out).below hb10)
      have HB5t := hid ((HB59.out.below Hbl.out).below hb10)
      clear hb10 HB9 HB19 HB49 HB59 HBlit Hbl
      have HpT : Hid (decide (y.take x.length = x) = decide (x <+: y)) := pre_of_take x y
      have Hpn : Hid (¬ x.length ≤ y.length → decide (x <+: y) = false) := fun h => not_pre x y h
      generalize decide (x <+: y) = p at *
      have Hless1 := fun w' h1 h2 => hid (less_any kz (q ++ [1]) a5 a1 c5 c1 w' h1 h2 (by have := Hlz.out; omega) (by simp; omega))
      have Hless4 := fun w' h1 h2 => hid (less_any kall (q ++ [1]) a4 a1 c4 c1 w' h1 h2 (by have := Hl4.out; omega) (by simp; omega))
      have Hless2 := fun w' a' c' h1 h2 => hid (less_any kz (q ++ [2]) a5 a' c5 c' w' h1 h2 (by have := Hlz.out; omega) (by simp; omega))
      have Hless5 := fun w' a' c' h1 h2 => hid (less_any kall (q ++ [2]) a4 a' c4 c' w' h1 h2 (by have := Hl4.out; omega) (by simp; omega))
      rw [show (q ++ [(1 : UInt8)]).length = q.length + 1 by simp] at Hless1 Hless4
      rw [show (q ++ [(2 : UInt8)]).length = q.length + 1 by simp] at Hless2 Hless5
      rw [Hle.out] at Hless4
      rw [Hlt.out] at Hless5
      clear Hle Hlt
      by_cases hez : ez = 0
      · have Hin' := hid (Hin.out hez)
        subst hez
        clear Hin
        go_wp2_with fail
        refine (Hless1 _ HB5t.out HB1t.out).out.mono ?_
        rintro e w11 ⟨rfl, hb11⟩
        have HbI0 := hid (Below.on' Hb10.out hb11)
        have HB1I0 := hid (HB1t.out.below hb11)
        have HB4I0 := hid (HB4t.out.below hb11)
        have HB5I0 := hid (HB5t.out.below hb11)
        clear hb11
        generalize hl1 : bytesLess kz (q ++ [1]) = l1 at Hin'
        cases l1 with
        | true =>
          have hpf : p = false := by rw [← Hin'.out]; rfl
          subst hpf
          clear Hin' hl1
          have HbI := HbI0
          have HB1I := HB1I0
          have HB4I := HB4I0
          by_cases hle2 : x.length ≤ y.length
          · have f2 : decide ((x.length : Int) ≤ (y.length : Int)) = true := by simp; omega
            have hcy := Hy.out.cap
            have hsl := slice_to 22 9 Tryd.underlying22 b y.length cb x.length (by omega) (by kernel_rfl) 1 sizeText
            have hT : (y.take x.length).length = x.length := by rw [List.length_take]; omega
            have Hsame := hid (sameTexts_any (y.take x.length) x b a cb ca w11 ((Hy.out.below HbI.out).texts.take _) (Hx.out.below HbI.out).texts (by rw [hT]; exact Hx.out.length) Hx.out.length)
            rw [hT, HpT.out] at Hsame
            clear hT
            go_wp2_with fail
            refine Hsame.out.mono ?_
            rintro e w15 ⟨rfl, hb15⟩
            have HbT := hid (Below.on' HbI.out hb15)
            have HB1T := hid (HB1I.out.below hb15)
            have HB4T := hid (HB4I.out.below hb15)
            clear hb15 Hsame hsl
            go_wp2_with fail
            refine (live_any _ (Ht.out.below HbT.out)).mono ?_
            rintro e w20 ⟨rfl, hb20⟩
            have Hb20 := hid (Below.on' HbT.out hb20)
            have HB120 := hid (HB1T.out.below hb20)
            have HB420 := hid (HB4T.out.below hb20)
            clear hb20
            go_wp2_with fail
            refine (Hless4 _ HB420.out HB120.out).out.mono ?_
            rintro e w21 ⟨rfl, hb21⟩
            have Hb21 := hid (Below.on' Hb20.out hb21)
            have HB121 := hid (HB120.out.below hb21)
            have HB421 := hid (HB420.out.below hb21)
            clear hb21
            go_wp2_with fail
            refine (after_key q a1 c1 _ HB121.out (by omega)).mono ?_
            rintro e w22 ⟨a22, c22, rfl, hB22, hb22⟩
            have HB22 := hid hB22
            have Hb22 := hid (Below.on' Hb21.out hb22)
            have HB422 := hid (HB421.out.below hb22)
            clear hb22 hB22
            go_wp2_with fail
            refine (Hless5 _ a22 c22 HB422.out HB22.out).out.mono ?_
            rintro e w23 ⟨rfl, hb23⟩
            have Hb23 := hid (Below.on' Hb22.out hb23)
            clear hb23 Hless1 Hless2 Hless4 Hless5
            go_wp2
            go_ret
            exact ⟨rfl, Hb23.out⟩
          · have f2 : decide ((x.length : Int) ≤ (y.length : Int)) = false := by simp; omega
            have HbT := HbI
            have HB1T := HB1I
            have HB4T := HB4I
            go_wp2_with fail
            refine (live_any _ (Ht.out.below HbT.out)).mono ?_
            rintro e w20 ⟨rfl, hb20⟩
            have Hb20 := hid (Below.on' HbT.out hb20)
            have HB120 := hid (HB1T.out.below hb20)
            have HB420 := hid (HB4T.out.below hb20)
            clear hb20
            go_wp2_with fail
            refine (Hless4 _ HB420.out HB120.out).out.mono ?_
            rintro e w21 ⟨rfl, hb21⟩
            have Hb21 := hid (Below.on' Hb20.out hb21)
            have HB121 := hid (HB120.out.below hb21)
            have HB421 := hid (HB420.out.below hb21)
            clear hb21
            go_wp2_with fail
            refine (after_key q a1 c1 _ HB121.out (by omega)).mono ?_
            rintro e w22 ⟨a22, c22, rfl, hB22, hb22⟩
            have HB22 := hid hB22
            have Hb22 := hid (Below.on' Hb21.out hb22)
            have HB422 := hid (HB421.out.below hb22)
            clear hb22 hB22
            go_wp2_with fail
            refine (Hless5 _ a22 c22 HB422.out HB22.out).out.mono ?_
            rintro e w23 ⟨rfl, hb23⟩
            have Hb23 := hid (Below.on' Hb22.out hb23)
            clear hb23 Hless1 Hless2 Hless4 Hless5
            go_wp2
            go_ret
            exact ⟨rfl, Hb23.out⟩
        | false =>
          have hl2 : bytesLess kz (q ++ [2]) = p := by rw [← Hin'.out]; simp
          clear Hin' hl1
          go_wp2_with fail
          refine (after_key q a1 c1 _ HB1I0.out (by omega)).mono ?_
          rintro e w12 ⟨a12, c12, rfl, hB12, hb12⟩
          have HB12 := hid hB12
          have HbI1 := hid (Below.on' HbI0.out hb12)
          have HB1I1 := hid (HB1I0.out.below hb12)
          have HB4I1 := hid (HB4I0.out.below hb12)
          have HB5I1 := hid (HB5I0.out.below hb12)
          clear hB12 hb12
          go_wp2_with fail
          refine (Hless2 _ a12 c12 HB5I1.out HB12.out).out.mono ?_
          rintro e w13 ⟨rfl, hb13⟩
          rw [hl2]
          clear hl2
          have HbI := hid (Below.on' HbI1.out hb13)
          have HB1I := hid (HB1I1.out.below hb13)
          have HB4I := hid (HB4I1.out.below hb13)
          clear hb13
          by_cases hle2 : x.length ≤ y.length
          · have f2 : decide ((x.length : Int) ≤ (y.length : Int)) = true := by simp; omega
            have hcy := Hy.out.cap
            have hsl := slice_to 22 9 Tryd.underlying22 b y.length cb x.length (by omega) (by kernel_rfl) 1 sizeText
            have hT : (y.take x.length).length = x.length := by rw [List.length_take]; omega
            have Hsame := hid (sameTexts_any (y.take x.length) x b a cb ca w13 ((Hy.out.below HbI.out).texts.take _) (Hx.out.below HbI.out).texts (by rw [hT]; exact Hx.out.length) Hx.out.length)
            rw [hT, HpT.out] at Hsame
            clear hT
            go_wp2_with fail
            refine Hsame.out.mono ?_
            rintro e w15 ⟨rfl, hb15⟩
            have HbT := hid (Below.on' HbI.out hb15)
            have HB1T := hid (HB1I.out.below hb15)
            have HB4T := hid (HB4I.out.below hb15)
            clear hb15 Hsame hsl
            go_wp2_with fail
            refine (live_any _ (Ht.out.below HbT.out)).mono ?_
            rintro e w20 ⟨rfl, hb20⟩
            have Hb20 := hid (Below.on' HbT.out hb20)
            have HB120 := hid (HB1T.out.below hb20)
            have HB420 := hid (HB4T.out.below hb20)
            clear hb20
            go_wp2_with fail
            refine (Hless4 _ HB420.out HB120.out).out.mono ?_
            rintro e w21 ⟨rfl, hb21⟩
            have Hb21 := hid (Below.on' Hb20.out hb21)
            have HB121 := hid (HB120.out.below hb21)
            have HB421 := hid (HB420.out.below hb21)
            clear hb21
            go_wp2_with fail
            refine (after_key q a1 c1 _ HB121.out (by omega)).mono ?_
            rintro e w22 ⟨a22, c22, rfl, hB22, hb22⟩
            have HB22 := hid hB22
            have Hb22 := hid (Below.on' Hb21.out hb22)
            have HB422 := hid (HB421.out.below hb22)
            clear hb22 hB22
            go_wp2_with fail
            refine (Hless5 _ a22 c22 HB422.out HB22.out).out.mono ?_
            rintro e w23 ⟨rfl, hb23⟩
            have Hb23 := hid (Below.on' Hb22.out hb23)
            clear hb23 Hless1 Hless2 Hless4 Hless5
            go_wp2
            go_ret
            exact ⟨rfl, Hb23.out⟩
          · have f2 : decide ((x.length : Int) ≤ (y.length : Int)) = false := by simp; omega
            have hpf := Hpn.out hle2
            subst hpf
            have HbT := HbI
            have HB1T := HB1I
            have HB4T := HB4I
            go_wp2_with fail
            refine (live_any _ (Ht.out.below HbT.out)).mono ?_
            rintro e w20 ⟨rfl, hb20⟩
            have Hb20 := hid (Below.on' HbT.out hb20)
            have HB120 := hid (HB1T.out.below hb20)
            have HB420 := hid (HB4T.out.below hb20)
            clear hb20
            go_wp2_with fail
            refine (Hless4 _ HB420.out HB120.out).out.mono ?_
            rintro e w21 ⟨rfl, hb21⟩
            have Hb21 := hid (Below.on' Hb20.out hb21)
            have HB121 := hid (HB120.out.below hb21)
            have HB421 := hid (HB420.out.below hb21)
            clear hb21
            go_wp2_with fail
            refine (after_key q a1 c1 _ HB121.out (by omega)).mono ?_
            rintro e w22 ⟨a22, c22, rfl, hB22, hb22⟩
            have HB22 := hid hB22
            have Hb22 := hid (Below.on' Hb21.out hb22)
            have HB422 := hid (HB421.out.below hb22)
            clear hb22 hB22
            go_wp2_with fail
            refine (Hless5 _ a22 c22 HB422.out HB22.out).out.mono ?_
            rintro e w23 ⟨rfl, hb23⟩
            have Hb23 := hid (Below.on' Hb22.out hb23)
            clear hb23 Hless1 Hless2 Hless4 Hless5
            go_wp2
            go_ret
            exact ⟨rfl, Hb23.out⟩
      · have d0 : ((ez : Int) == 0) = false := by rw [beq_eq_false_iff_ne]; omega
        have d0' : ((ez : Int) != 0) = true := by rw [bne_iff_ne]; omega
        clear Hin
        have HbI := Hb10
        have HB1I := HB1t
        have HB4I := HB4t
        by_cases hle2 : x.length ≤ y.length
        · have f2 : decide ((x.length : Int) ≤ (y.length : Int)) = true := by simp; omega
          have hcy := Hy.out.cap
          have hsl := slice_to 22 9 Tryd.underlying22 b y.length cb x.length (by omega) (by kernel_rfl) 1 sizeText
          have hT : (y.take x.length).length = x.length := by rw [List.length_take]; omega
          have Hsame := hid (sameTexts_any (y.take x.length) x b a cb ca w10 ((Hy.out.below HbI.out).texts.take _) (Hx.out.below HbI.out).texts (by rw [hT]; exact Hx.out.length) Hx.out.length)
          rw [hT, HpT.out] at Hsame
          clear hT
          go_wp2_with fail
          refine Hsame.out.mono ?_
          rintro e w15 ⟨rfl, hb15⟩
          have HbT := hid (Below.on' HbI.out hb15)
          have HB1T := hid (HB1I.out.below hb15)
          have HB4T := hid (HB4I.out.below hb15)
          clear hb15 Hsame hsl
          go_wp2_with fail
          refine (live_any _ (Ht.out.below HbT.out)).mono ?_
          rintro e w20 ⟨rfl, hb20⟩
          have Hb20 := hid (Below.on' HbT.out hb20)
          have HB120 := hid (HB1T.out.below hb20)
          have HB420 := hid (HB4T.out.below hb20)
          clear hb20
          go_wp2_with fail
          refine (Hless4 _ HB420.out HB120.out).out.mono ?_
          rintro e w21 ⟨rfl, hb21⟩
          have Hb21 := hid (Below.on' Hb20.out hb21)
          have HB121 := hid (HB120.out.below hb21)
          have HB421 := hid (HB420.out.below hb21)
          clear hb21
          go_wp2_with fail
          refine (after_key q a1 c1 _ HB121.out (by omega)).mono ?_
          rintro e w22 ⟨a22, c22, rfl, hB22, hb22⟩
          have HB22 := hid hB22
          have Hb22 := hid (Below.on' Hb21.out hb22)
          have HB422 := hid (HB421.out.below hb22)
          clear hb22 hB22
          go_wp2_with fail
          refine (Hless5 _ a22 c22 HB422.out HB22.out).out.mono ?_
          rintro e w23 ⟨rfl, hb23⟩
          have Hb23 := hid (Below.on' Hb22.out hb23)
          clear hb23 Hless1 Hless2 Hless4 Hless5
          go_wp2
          go_ret
          exact ⟨rfl, Hb23.out⟩
        · have f2 : decide ((x.length : Int) ≤ (y.length : Int)) = false := by simp; omega
          have hpf := Hpn.out hle2
          subst hpf
          have HbT := HbI
          have HB1T := HB1I
          have HB4T := HB4I
          go_wp2_with fail
          refine (live_any _ (Ht.out.below HbT.out)).mono ?_
          rintro e w20 ⟨rfl, hb20⟩
          have Hb20 := hid (Below.on' HbT.out hb20)
          have HB120 := hid (HB1T.out.below hb20)
          have HB420 := hid (HB4T.out.below hb20)
          clear hb20
          go_wp2_with fail
          refine (Hless4 _ HB420.out HB120.out).out.mono ?_
          rintro e w21 ⟨rfl, hb21⟩
          have Hb21 := hid (Below.on' Hb20.out hb21)
          have HB121 := hid (HB120.out.below hb21)
          have HB421 := hid (HB420.out.below hb21)
          clear hb21
          go_wp2_with fail
          refine (after_key q a1 c1 _ HB121.out (by omega)).mono ?_
          rintro e w22 ⟨a22, c22, rfl, hB22, hb22⟩
          have HB22 := hid hB22
          have Hb22 := hid (Below.on' Hb21.out hb22)
          have HB422 := hid (HB421.out.below hb22)
          clear hb22 hB22
          go_wp2_with fail
          refine (Hless5 _ a22 c22 HB422.out HB22.out).out.mono ?_
          rintro e w23 ⟨rfl, hb23⟩
          have Hb23 := hid (Below.on' Hb22.out hb23)
          clear hb23 Hless1 Hless2 Hless4 Hless5
          go_wp2
          go_ret
          exact ⟨rfl, Hb23.out⟩
    · have d2 : ((keyErr (x ++ y) : Int) != 0) = true := by rw [bne_iff_ne]; omega
      generalize keyErr (x ++ y) = ey at *
      rw [h1]
      go_wp2_with (go_at_call 16; refine (live_any _ (Ht.out.below Hb4.out)).mono ?_; rintro e w5 ⟨rfl, hb5⟩)
      go_ret
      exact ⟨rfl, Below.on' Hb4.out hb5⟩
  · have d1 : ((keyErr x : Int) != 0) = true := by rw [bne_iff_ne]; omega
    generalize keyErr x = ex at *
    go_wp2_with (go_at_call 16; refine (live_any _ (Ht.out.below Hb4.out)).mono ?_; rintro e w5 ⟨rfl, hb5⟩)
    go_ret
    exact ⟨rfl, Below.on' Hb4.out hb5⟩
end Go.Proofs.YtpdknoldcaaboaaDoor
