/- Grants: the program's Rows, the walk. -/
import Derived.Test.YtlkbojgemcjilaaGreatDoorGR1
namespace Go.Proofs.YtlkbojgemcjilaaGreatDoor.Xr
open Go.RowKit Go.Maps Go.Shelf Go.Sort Go.Lib
set_option linter.unusedVariables false
set_option maxRecDepth 20000
section
variable {w : World} {B g mc d : Nat} {L : List Reg} {s : GS}
set_option maxHeartbeats 16000000 in
theorem rows_any (h : SAt w B g mc L s d) (hl9 : L.length ≤ 400) (ha9 : s.al.length ≤ 900000) (hT : TabAt w) :
    Calls Tryz.prog 14 #[.pointer (some ⟨g, 0, none⟩)] w (PRowsG w s) := by
  have H := hid h
  have HT := hid hT
  have Hl9 := hid (And.intro hl9 ha9)
  obtain ⟨nv, V, hcm, hnv, hV⟩ := h.cm
  have c0 := h.c0
  have HCM := hid hcm
  have HV := hid hV
  clear h hcm hV hl9 ha9 hT
  go_enter Tryz.func14, Tryz.ntmps14
  go_wp2_with (first
    | (at_range; refine wpList_range_own _ rfl _ 47 rfl 62 63 lawPlace Tryz.underlying47 _ mc nv _ rfl HCM.out ?_; intro w3 hrg3 hg3 hs3)
    | go_in)
  go_frame
  clear c0
  go_loopw [3, 4, 5, 6, 7] (fun v3 v4 v5 v6 v7 wr => ∃ (left : Lit → Bool) (cnt : Nat) (L' : List Reg) (rs : List RC) (m : List Rw), wr.ranges Tryz.prog 62 RV mc w.heap.size nv V left cnt ∧ RI w wr v3 rs m ∧ m.Perm ((L'.map (·.c)).flatMap (rowsOfC s.al)) ∧ L'.Perm (L.filter fun p => !left (keyP p.c.t p.c.n))) (fun _ _ _ _ _ wr => wr.rangeLeft mc w.heap.size)
  case atStart =>
    refine ⟨_, _, [], [], [], hrg3, (RI.nil w).below ⟨hg3.os, hg3.tape, hg3.output, hg3.size, fun k hk => hg3.block k hk (by simp)⟩, .refl _, ?_⟩
    rw [List.filter_eq_nil_iff.2 fun p hp => ?_]
    obtain ⟨p1, p2⟩ := H.out.sizes hp
    rw [HV.out.has _ _ (by unfold maxLen; omega) (by unfold maxLen; omega), List.any_eq_true.2 ⟨p, hp, decide_eq_true ⟨rfl, rfl⟩⟩]
    simp
  case round =>
    obtain ⟨left, cnt, L', rs, m, hrg, hri, hm, hpm⟩ := hrel
    have HL := hid hrg.left_eq
    have Hri := hid hri
    have Hm := hid hm
    have Hpm := hid hpm
    clear hri hm hpm hrg3 hg3 hs3
    go_wp2_with (first
      | (at_next; refine wpList_next_ranges (α := ByteArray × ByteArray) (β := Value) _ rfl _ rfl 62 lawPlace RV (fun x => .agg #[.string x.1, .string x.2]) (fun v => v) (fun key kl hk => by obtain ⟨a, b, rfl, _⟩ := place_inv hk; exact ⟨(a, b), rfl⟩) (fun v y hv => ⟨v, rfl⟩) mc w.heap.size nv _ _ _ rfl hrg ?_ ?_)
      | go_in)
    · intro _ hl0
      have hLp : L'.Perm L := by
        have h1 := Hpm.out
        rw [List.filter_eq_self.2 (fun t _ => by rw [hl0]; rfl)] at h1
        exact h1
      have hmp : Hid (m.Perm (mOfG s)) := by
        show m.Perm _
        refine (Hm.out.trans (flat_perm _ (hLp.map _))).trans ?_
        rw [H.out.cs]
        exact rows_perm H.out.ok
      have hlen : rs.length ≤ 1000000 := by
        rw [Hri.out.is.length, hmp.out.length_eq]
        unfold mOfG
        rw [List.length_append, List.length_map, List.length_map, ← H.out.cs, List.length_map]
        have := Hl9.out
        omega
      have HS := hid (sortO_any Hri.out.own hlen)
      clear hl0 hrg hLp hlen
      go_wp2_with (go_at_call 44; refine HS.out.mono ?_; rintro _ w8 ⟨rfl, S, p1, p2, p3, p4⟩; have P1 := hid p1; have P2 := hid p2; have P3 := hid p3; have P4 := hid p4; clear p1 p2 p3 p4)
      go_ret
      obtain ⟨m', q1, q2⟩ := RowsIs.perm P1.out (Hri.out.is.grown Hri.out.own P4.out)
      exact ⟨_, S, m', rfl, P3.out, q2, q1.trans hmp.out, q2.order P2.out, Hri.out.be.trans ((Below.refl _ _).grown P4.out Hri.out.be.size (fun q hq => (Hri.out.own.lt q hq).1))⟩
    · intro t2 u c kl y1 y2 w6 cnt' hk hl hv hat hrg6 hlt hg6 hs6 hen
      obtain ⟨t9, u9, e1, rfl, l1, l2⟩ := place_inv hk
      obtain ⟨rfl, rfl⟩ : t2 = t9 ∧ u = u9 := by simpa using e1
      clear e1
      obtain ⟨p, hp, rfl, rfl⟩ : ∃ p ∈ L, p.c.t = t2 ∧ p.c.n = u := by
        have h2 := Maps.has_true_of_atKey hat
        rw [HV.out.has _ _ l1 l2] at h2
        obtain ⟨p, hp1, hp2⟩ := List.any_eq_true.1 h2
        have e9 := of_decide_eq_true hp2
        exact ⟨p, hp1, e9.1, e9.2⟩
      obtain rfl : c = .pointer (some ⟨p.r, 0, none⟩) := by
        have h3 := hat .nil
        rw [HV.out.at' p hp] at h3
        have h4 : y1 = .held c := (congrArg Prod.fst (Option.some.inj hv)).symm
        rw [h4] at h3
        injection h3 with h3
        exact h3.symm
      have hmore := hid (H.out.more hp hl Hpm.out)
      obtain ⟨W, hW⟩ : ∃ W, W = w6.alloc (.cells #[.string p.c.t, .string p.c.n] 62) := ⟨_, rfl⟩
      have bW : Below w6.heap.size w6 W := by rw [hW]; exact (Below.refl _ _).alloc (Nat.le_refl _) _
      have hri6 := Hri.out.turn hrg hg6 (Nat.le_refl _)
      have hriW := hri6.below bW
      have szW : SZ W w6.heap.size p := ⟨by rw [hW]; exact heap_allocN w6 _, ((H.out.below hriW.be).regs p hp).2.2.1⟩
      have HRI := hid hriW
      have SW := hid szW
      have HrgW : Hid (W.ranges Tryz.prog 62 RV mc w.heap.size nv V (fun z => left z && !z.sameKey (keyP p.c.t p.c.n)) cnt') := by show W.ranges _ _ _ _ _ _ _ _ _; rw [hW]; exact hrg6.alloc _
      have Hlt := hid hlt
      have Hp := hid hp
      have sz2 := H.out.sizes hp
      have HLK : Hid (p.c.t.size + p.c.n.size ≤ 100) := by show _ ≤ 100; omega
      have hsc : p.c.sc ≤ 255 := (H.out.ok.names _ (H.out.mem_cs hp)).2.2.2
      have HSc := hid (fun (V : World) (hV : Below W.heap.size W V) => scopesText_any p.c.sc hsc V (HT.out.belowJ (Below.on' hriW.be hV)))
      have hlen : rs.length ≤ 400000000 := by
        rw [Hri.out.is.length, Hm.out.length_eq]
        refine Nat.le_trans (flat_len _ _) ?_
        rw [List.length_map, Hpm.out.length_eq]
        have h1 := List.length_filter_le (fun p : Reg => !left (keyP p.c.t p.c.n)) L
        have h2 := Hl9.out
        exact Nat.le_trans (Nat.mul_le_mul (show _ ≤ 400 by omega) (show 1 + s.al.length ≤ 900001 by omega)) (by omega)
      have HLen := hid hlen
      have HW := hid hW.symm
      have HS := hid (fun (V : World) (hV : Below W.heap.size W V) => (szW.below hV).four)
      have BW := hid bW
      obtain ⟨pc, pr, pm⟩ := p
      obtain ⟨pt, pn, prd, psc⟩ := pc
      dsimp only at *
      clear hk hl hv hat hrg6 hlt hg6 hs6 hrg hp hW bW hri6 hriW szW sz2 hsc hlen l1 l2
      go_wp2_with go_in
      rw [HW.out]
      have z := hid (below_dN W.heap.size W 1)
      go_region_held3 (fun w9 => w9.cell? ⟨w6.heap.size, 0, none⟩ = some (.string pt) ∧ w9.cell? ⟨w6.heap.size, 1, none⟩ = some (.string pn) ∧ w9.cell? ⟨pr, 0, none⟩ = some (.string prd) ∧ w9.cell? ⟨pr, 1, none⟩ = some (.int .u8 (psc : Int)))
        (first
          | exact z8.out.four
          | exact HS.out _ z.out
          | exact HS.out _ (below_al z.out _)
          | exact HS.out _ (below_al (below_al z.out _) _))
        (first
          | (with_reducible (show ite _ (Oper.wp _ { dst := some 38, op := _, type := _, pos := _, after := _, guard := _ } _ _ _ _) _); rw [if_pos (by simp [Region.wanted])]; refine app_rowR (.tmp 20) (.tmp 37) rfl w2 _ (some ⟨cb, 0, none⟩) 2 2 rfl w.heap.size u3 rs rfl (HRI.out.below z.out).own rfl (by have := HLen.out; omega) (HRI.out.below z.out).be.size ?_; intro v8 w8 h8 k8; have O8 := hid h8; have K8 := hid k8; have z8 := hid ((SW.out.below z.out).grown (HRI.out.below z.out).own k8); clear h8 k8)
          | (go_at_call 42; refine (rowOf2_z (W := W) (by first | exact below_al z.out _ | exact below_al (below_al z.out _) _) pt pn prd (txtJ psc) (by first | exact heap_alK NM.out _ | exact heap_al2a _ _ _ | exact heap_al2b _ _ _) (by first | exact heap_allocN _ _ | exact heap_al2b _ _ _ | exact heap_al2a _ _ _) HLK.out).mono ?_; rintro _ w2 ⟨cb, rfl, hcol, hb2⟩; have CC := hid hcol; have z := hid hb2; clear hcol hb2)
          | (go_at_call 43; refine (HSc.out W.drew z.out).mono ?_; rintro _ w1 ⟨rfl, b1⟩; have z := hid (Below.on' z.out b1); clear b1)
          | (go_at_call 43; refine (HSc.out (W.drew.alloc (.cells #[.string pt, .string pn] 9)) (below_al z.out _)).mono ?_; rintro _ w1 ⟨rfl, b1⟩; have NM := hid ((b1.block _ (heap_lt (heap_allocN W.drew (.cells #[.string pt, .string pn] 9)))).trans (heap_allocN W.drew (.cells #[.string pt, .string pn] 9))); have z := hid (Below.on' (below_al z.out _) b1); clear b1))
      all_goals
        obtain ⟨k2, D, hM, hk2, hD⟩ := ((H.out.below ((HRI.out.below z.out).app O8.out K8.out CC.out rfl).be).regs _ Hp.out).2.2.2
        have RI8 := hid (show RI w w8 v8 (rs ++ [RC.mk (pt ++ slash ++ pn) (some ⟨cb, 0, none⟩) 2 2]) (m ++ [clRow ⟨pt, pn, prd, psc⟩]) from (HRI.out.below z.out).app O8.out K8.out CC.out rfl)
        have R8 := hid ((HRI.out.below z.out).rng (HrgW.out.kept (grown_of_below z.out) (by simp) (by simp)) K8.out)
        have c2 := z8.out.mp
        dsimp only at c2 hM hD
        have HM := hid hM
        have HD := hid hD
        clear hM hD hk2 z O8 K8 CC HSc HRI SW HLK HS
        generalize rs ++ [RC.mk (pt ++ slash ++ pn) (some ⟨cb, 0, none⟩) 2 2] = rs1 at *
        go_wp2_with (first
          | (at_range; refine wpList_range_own _ rfl _ 64 rfl 9 31 lawStr Tryz.underlying64 _ pm k2 _ rfl HM.out ?_; intro w5 hrg5 hg5 hs5)
          | go_in)
        go_frame
        have hw8 : Hid (w.heap.size ≤ w8.heap.size ∧ mc < w8.heap.size ∧ w.heap.size < w8.heap.size) := by
          have h1 := R8.out.lt
          have h2 := RI8.out.be.size
          obtain ⟨_, _, h9, _⟩ := (H.out.below RI8.out.be).cm
          exact ⟨h2, map_new_ne h9, h1⟩
        have HmL : Hid (m.length ≤ 400000000) := by
          show _ ≤ _
          rw [← Hri.out.is.length]
          exact HLen.out
        obtain ⟨wo, rfl⟩ : ∃ wo, wo = wr := ⟨_, rfl⟩
        clear c2
        go_loopw [3, 6, 7] (fun v3 v6 v7 wq => ∃ (left2 : Lit → Bool) (cnt2 : Nat) (A : List Co) (rs2 : List RC) (m2 : List Rw), wq.ranges Tryz.prog 9 (plainElem (H := Unit) Tryz.prog 31) pm w8.heap.size k2 D left2 cnt2 ∧ wq.ranges Tryz.prog 62 RV mc w.heap.size nv V (fun z => left z && !z.sameKey (keyP pt pn)) cnt' ∧ RI w wq v3 rs2 m2 ∧ SZ wq w6.heap.size ⟨⟨pt, pn, prd, psc⟩, pr, pm⟩ ∧ m2.Perm (A.map coRow ++ (m ++ [clRow ⟨pt, pn, prd, psc⟩])) ∧ A.Perm ((s.al.filter (ofC pt pn)).filter fun a => !left2 (.string a.u.data.toList))) (fun _ _ _ wq => wq.rangeLeft pm w8.heap.size)
        case atStart =>
          refine ⟨_, _, [], _, _, hrg5, R8.out.kept hg5 (by simp) (by simp), RI8.out.below ⟨hg5.os, hg5.tape, hg5.output, hg5.size, fun k hk => hg5.block k hk (by simp)⟩, z8.out.below ⟨hg5.os, hg5.tape, hg5.output, hg5.size, fun k hk => hg5.block k hk (by simp)⟩, .refl _, ?_⟩
          rw [List.filter_eq_nil_iff.2 fun a ha => ?_]
          rw [HD.out.has, List.any_eq_true.2 ⟨a, ha, decide_eq_true rfl⟩]
          simp
        case round =>
          obtain ⟨left2, cnt2, A, rs2, m2, hrq, hro, hri2, hsz2, hm2, hA⟩ := hrel
          have HL2 := hid hrq.left_eq
          have Hro := hid hro
          have Hri2 := hid hri2
          have Hsz2 := hid hsz2
          have Hm2 := hid hm2
          have HA := hid hA
          clear hro hri2 hsz2 hm2 hA hrg5 hg5 hs5
          go_wp2_with (first
            | (at_next; refine wpList_next_ranges (α := ByteArray) (β := Int) _ rfl _ rfl 9 lawStr (plainElem Tryz.prog 31) (fun x => .string x) (fun x => .int .u8 x) (fun key kl hk => by obtain ⟨a, rfl, _⟩ := Go.WideMaps.string_of_keyOf Tryz.underlying9 hk; exact ⟨a, rfl⟩) (fun v y hv => by obtain ⟨c, rfl, _⟩ := plainElem_int_inv Tryz.underlying31 hv; exact ⟨c, rfl⟩) pm w8.heap.size k2 _ _ _ rfl hrq ?_ ?_)
            | go_in)
          · intro _ hl0
            have hAp : Hid (A.Perm (s.al.filter (ofC pt pn))) := by
              have h1 := HA.out
              rw [List.filter_eq_self.2 (fun a _ => by rw [hl0]; rfl)] at h1
              exact h1
            clear hl0 hrq
            go_wp2_with go_in
            go_roundw
            case rel =>
              refine ⟨_, _, ⟨⟨pt, pn, prd, psc⟩, pr, pm⟩ :: L', rs2, m2, Hro.out, Hri2.out, ?_, hmore.out⟩
              rw [List.map_cons, List.flatMap_cons]
              exact Hm2.out.trans (rows_step hAp.out Hm.out)
            case measure =>
              rw [Hro.out.left_eq, HL.out]
              exact Hlt.out
          · intro t2 c kl y1 y2 w7 cnt3 hk hl hv hat hrg7 hlt7 hg7 hs7 hen7
            obtain ⟨t9, e9, rfl, l1⟩ := Go.WideMaps.string_of_keyOf Tryz.underlying9 hk
            obtain rfl : t2 = t9 := by simpa using e9
            clear e9
            obtain ⟨c9, ec, ez, hwf9⟩ := plainElem_int_inv Tryz.underlying31 hv
            obtain rfl : c = c9 := by simpa using ec
            obtain ⟨rfl, _⟩ := Prod.mk.inj ez
            clear ec ez
            obtain ⟨a, ha, rfl⟩ : ∃ a ∈ s.al.filter (ofC pt pn), a.u = t2 := by
              have h2 := Maps.has_true_of_atKey hat
              rw [HD.out.has] at h2
              obtain ⟨a, ha1, ha2⟩ := List.any_eq_true.1 h2
              exact ⟨a, ha1, of_decide_eq_true ha2⟩
            obtain rfl : (a.sc : Int) = c := by
              have h3 := hat .nil
              rw [HD.out.at' a ha] at h3
              injection h3 with h3
              injection h3
            have hmore2 := hid (more_al (users_apart H.out.ok pt pn) ha hl HA.out)
            have hri7 := Hri2.out.turn hrq hg7 hw8.out.1
            have hsz7 := Hsz2.out.turn hg7 (range_objG hrq)
            have hro7 := hid (Hro.out.kept hg7 (fun e => by have := hw8.out.2.1; have e1 := Option.some.inj e; omega) (fun e => by have := hw8.out.2.2; have e1 := Option.some.inj e; omega))
            have HRI7 := hid hri7
            have SW7 := hid hsz7
            have Hrg7 := hid hrg7
            have Hlt7 := hid hlt7
            have HS7 := hid (fun (V : World) (hV : Below w7.heap.size w7 V) => (hsz7.below hV).two)
            obtain ⟨ha1, ha2⟩ := List.mem_filter.1 ha
            obtain ⟨e1, e2⟩ := ofC_iff.1 ha2
            obtain ⟨o1, o2, o3, _⟩ := H.out.ok.anames a ha1
            have hz2 := H.out.sizes Hp.out
            have hz3 := okN_len o2
            have HSc7 := hid (fun (V : World) (hV : Below w7.heap.size w7 V) => scopesText_any a.sc o3 V (HT.out.belowJ (Below.on' hri7.be hV)))
            have HLK7 : Hid (pt.size + a.u.size + pn.size ≤ 100) := by show _ ≤ 100; dsimp only at hz2; omega
            have HLn7 : Hid (rs2.length ≤ 2000000000) := by
              show _ ≤ _
              have h0 : A.length ≤ s.al.length := by
                rw [HA.out.length_eq]
                exact Nat.le_trans (List.length_filter_le _ _) (List.length_filter_le _ _)
              have h3 := Hl9.out
              have h4 := HmL.out
              rw [Hri2.out.is.length, Hm2.out.length_eq, List.length_append, List.length_append, List.length_map, List.length_cons, List.length_nil]
              omega
            obtain ⟨at', au, an, asc⟩ := a
            dsimp only at e1 e2 o2 hz3 HSc7 HLK7 hmore2 hrg7 Hrg7 ⊢
            subst e1 e2
            clear hk hl hv hat hrg7 hlt7 hg7 hs7 hrq ha ha1 ha2 o1 o2 o3 hz2 hz3 hri7 hsz7 l1 hwf9
            go_wp2_with go_in
            have z := hid (below_dN w7.heap.size w7 1)
            go_region_held3 (fun w9 => w9.cell? ⟨w6.heap.size, 0, none⟩ = some (.string at') ∧ w9.cell? ⟨w6.heap.size, 1, none⟩ = some (.string an))
              (first
                | exact z9.out.two
                | exact HS7.out _ z.out
                | exact HS7.out _ (below_al z.out _)
                | exact HS7.out _ (below_al (below_al z.out _) _))
              (first
                | (with_reducible (show ite _ (Oper.wp _ { dst := some 61, op := _, type := _, pos := _, after := _, guard := _ } _ _ _ _) _); rw [if_pos (by simp [Region.wanted])]; refine app_rowR (.tmp 49) (.tmp 60) rfl w2 _ (some ⟨cb2, 0, none⟩) 1 1 rfl w.heap.size u3 rs2 rfl (HRI7.out.below z.out).own rfl HLn7.out (HRI7.out.below z.out).be.size ?_; intro v9 w9 h9 k9; have O9 := hid h9; have K9 := hid k9; have z9 := hid ((SW7.out.below z.out).grown (HRI7.out.below z.out).own k9); clear h9 k9)
                | (go_at_call 42; refine (rowOf3_z (W := w7) (by first | exact below_al z.out _ | exact below_al (below_al z.out _) _) at' au an (txtJ asc) (by first | exact heap_alK NM.out _ | exact heap_al2a _ _ _ | exact heap_al2b _ _ _) (by first | exact heap_allocN _ _ | exact heap_al2b _ _ _ | exact heap_al2a _ _ _) HLK7.out).mono ?_; rintro _ w2 ⟨cb2, rfl, hcol, hb2⟩; have CC2 := hid hcol; have z := hid hb2; clear hcol hb2)
                | (go_at_call 43; refine (HSc7.out w7.drew z.out).mono ?_; rintro _ w1 ⟨rfl, b1⟩; have z := hid (Below.on' z.out b1); clear b1)
                | (go_at_call 43; refine (HSc7.out (w7.drew.alloc (.cells #[.string at', .string au, .string an] 9)) (below_al z.out _)).mono ?_; rintro _ w1 ⟨rfl, b1⟩; have NM := hid ((b1.block _ (heap_lt (heap_allocN w7.drew (.cells #[.string at', .string au, .string an] 9)))).trans (heap_allocN w7.drew (.cells #[.string at', .string au, .string an] 9))); have z := hid (Below.on' (below_al z.out _) b1); clear b1))
            all_goals
              have R9 := (HRI7.out.below z.out).rng (Hrg7.out.kept (grown_of_below z.out) (by simp) (by simp)) K9.out
              have Ro9 := (HRI7.out.below z.out).rng (hro7.out.kept (grown_of_below z.out) (by simp) (by simp)) K9.out
              have RI9 := (HRI7.out.below z.out).app O9.out K9.out CC2.out rfl
              go_roundw
              case rel =>
                refine ⟨_, _, _, _, _, _, _, _, _, _, _, _, _, _, _, _, _, _, _, _, _, ?_, rfl⟩
                refine ⟨_, _, ⟨at', au, an, asc⟩ :: A, _, _, R9, Ro9, RI9, z9.out, ?_, hmore2.out⟩
                rw [List.map_cons]
                exact (Hm2.out.append_right _).trans List.perm_append_comm
              case measure =>
                rw [R9.left_eq, HL2.out]
                exact Hlt7.out
end
end Go.Proofs.YtlkbojgemcjilaaGreatDoor.Xr
