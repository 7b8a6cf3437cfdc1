/- Grants: Clients. -/
import Derived.Test.YtlkbojgemcjilaaGreatDoorU17
namespace Go.Proofs.YtlkbojgemcjilaaGreatDoor
open Go.RowKit Go.Maps Go.Shelf Go.Sort Go.Lib
set_option linter.unusedVariables false
set_option maxRecDepth 20000
def inT (t : ByteArray) (c : Cl) : Bool := decide (c.t = t)
section
variable {w : World} {B g mc d : Nat} {L : List Reg} {s : GS}
set_option maxHeartbeats 4000000 in
theorem clients_any (h : SAt w B g mc L s d) (hl9 : L.length ≤ 100000) (t : ByteArray) (ht : t.size ≤ maxLen) :
    Calls Tryz.prog 37 #[.pointer (some ⟨g, 0, none⟩), .string t] w fun e w' => ∃ v S, e = .returned v ∧ S.Perm (s.cs.filter (inT t)) ∧ NameOrder S ∧ w'.ownsRow w.heap.size 56 4 v S.length (clCells S) ∧ Below w.heap.size w w' := by
  have H := hid h
  have Hl9 := hid hl9
  obtain ⟨nv, V, hcm, hnv, hV⟩ := h.cm
  have c0 := h.c0
  have HCM := hid hcm
  have HV := hid hV
  clear h hcm hV hl9
  go_enter Tryz.func37, Tryz.ntmps37
  go_wp2_with (first
    | (at_range; refine wpList_range_own _ rfl _ 47 rfl 62 63 lawPlace Tryz.underlying47 _ mc nv _ rfl HCM.out ?_; intro w3 hrg3 hg3 hs3)
    | go_in)
  go_frame
  clear c0
  go_loopw [5, 6, 7] (fun v5 v6 v7 wr => ∃ (left : Lit → Bool) (cnt : Nat) (L' : List Reg) (acc : List Cl), wr.ranges Tryz.prog 62 RV mc w.heap.size nv V left cnt ∧ wr.ownsRow w.heap.size 56 4 v5 acc.length (clCells acc) ∧ acc.Perm ((L'.map (·.c)).filter (inT t)) ∧ L'.Perm (L.filter fun p => !left (keyP p.c.t p.c.n)) ∧ Below w.heap.size w wr) (fun _ _ _ wr => wr.rangeLeft mc w.heap.size)
  case atStart =>
    refine ⟨_, _, [], [], hrg3, ⟨rfl, .inl ⟨rfl, rfl⟩⟩, .refl _, ?_, ⟨hg3.os, hg3.tape, hg3.output, hg3.size, fun k hk => hg3.block k hk (by simp)⟩⟩
    rw [List.filter_eq_nil_iff.2 fun p hp => ?_]
    obtain ⟨p1, p2⟩ := H.out.sizes hp
    rw [HV.out.has _ _ (by unfold maxLen; omega) (by unfold maxLen; omega), List.any_eq_true.2 ⟨p, hp, decide_eq_true ⟨rfl, rfl⟩⟩]
    simp
  case round =>
    obtain ⟨left, cnt, L', acc, hrg, hrow, hac, hpm, hb⟩ := hrel
    have HL := hid hrg.left_eq
    have Hrow := hid hrow
    have Hac := hid hac
    have Hpm := hid hpm
    have Hb := hid hb
    clear hrow hac hpm hb hrg3 hg3 hs3
    go_wp2_with (first
      | (at_next; refine wpList_next_ranges (α := ByteArray × ByteArray) (β := Value) _ rfl _ rfl 62 lawPlace RV (fun x => .agg #[.string x.1, .string x.2]) (fun v => v) (fun key kl hk => by obtain ⟨a, b, rfl, _⟩ := place_inv hk; exact ⟨(a, b), rfl⟩) (fun v y hv => ⟨v, rfl⟩) mc w.heap.size nv _ _ _ rfl hrg ?_ ?_)
      | go_in)
    · intro _ hl0
      have hLp : L'.Perm L := by
        have h1 := Hpm.out
        rw [List.filter_eq_self.2 (fun t _ => by rw [hl0]; rfl)] at h1
        exact h1
      have hperm : Hid (acc.Perm (s.cs.filter (inT t))) := by
        show acc.Perm _
        rw [← H.out.cs]
        exact Hac.out.trans ((hLp.map _).filter _)
      have hlen : acc.length ≤ 100000 := by
        rw [Hac.out.length_eq]
        refine Nat.le_trans (List.length_filter_le _ _) ?_
        rw [List.length_map, hLp.length_eq]
        exact Hl9.out
      have HS := hid (fun (W : World) (hW : W.ownsRow w.heap.size 56 4 u5 acc.length (clCells acc)) => sortOwn_any hW rfl hlen)
      clear hl0 hrg hLp hlen
      go_wp2_with (go_at_call 62; refine (HS.out _ Hrow.out).mono ?_; rintro _ w8 ⟨rfl, S, p1, p2, p3, p4, p5⟩; have P1 := hid p1; have P2 := hid p2; have P3 := hid p3; have P4 := hid p4; clear p1 p2 p3 p4 p5)
      go_ret
      exact ⟨_, S, rfl, P1.out.trans hperm.out, P2.out, P3.out, Hb.out.trans P4.out⟩
    · intro t2 u c kl y1 y2 w6 cnt' hk hl hv hat hrg6 hlt hg6 hs6 hen
      obtain ⟨t9, u9, e1, rfl, l1, l2⟩ := place_inv hk
      obtain ⟨rfl, rfl⟩ : t2 = t9 ∧ u = u9 := by simpa using e1
      clear e1
      obtain ⟨p, hp, rfl, rfl⟩ : ∃ p ∈ L, p.c.t = t2 ∧ p.c.n = u := by
        have h2 := Maps.has_true_of_atKey hat
        rw [HV.out.has _ _ l1 l2] at h2
        obtain ⟨p, hp1, hp2⟩ := List.any_eq_true.1 h2
        have e9 := of_decide_eq_true hp2
        exact ⟨p, hp1, e9.1, e9.2⟩
      obtain rfl : c = .pointer (some ⟨p.r, 0, none⟩) := by
        have h3 := hat .nil
        rw [HV.out.at' p hp] at h3
        have h4 : y1 = .held c := (congrArg Prod.fst (Option.some.inj hv)).symm
        rw [h4] at h3
        injection h3 with h3
        exact h3.symm
      have hmore := hid (H.out.more hp hl Hpm.out)
      have hne9 := own_ne_range Hrow.out hrg
      have b6 := hid (Hb.out.trans ⟨hg6.os, hg6.tape, hg6.output, hg6.size, fun k hk => hg6.block k (by have := Hb.out.size; omega) (fun e => by cases e; omega)⟩ : RowKit.Below w.heap.size w w6)
      have hlt9 := hid (fun (k : Nat) (hk : u5.ownBlock = some k) => (Hrow.out.kept hg6 (.inr hne9.2)).lt k hk)
      have hrow6 := hid ((Hrow.out.kept hg6 (.inr hne9.2)).alloc (.cells #[.string p.c.t, .string p.c.n] 62))
      have Hrg6 := hid (hrg6.alloc (.cells #[.string p.c.t, .string p.c.n] 62))
      have Hlt := hid hlt
      have Hp := hid hp
      have b7 := hid (b6.out.alloc b6.out.size (.cells #[.string p.c.t, .string p.c.n] 62))
      obtain ⟨r0, r1, r2⟩ := ((H.out.below b6.out).regs p hp).c
      have hlen : acc.length ≤ 100000 := by
        rw [Hac.out.length_eq]
        refine Nat.le_trans (List.length_filter_le _ _) ?_
        rw [List.length_map, Hpm.out.length_eq]
        exact Nat.le_trans (List.length_filter_le _ _) Hl9.out
      have HL9 := hid hlen
      clear hk hl hv hat hrg6 hlt hg6 hs6 hrg hp hne9 r2 hlen
      by_cases et : p.c.t = t
      · have q0 : (p.c.t.toList == t.toList) = true := by rw [et]; simp
        have Het := hid et
        clear et
        go_wp2_with go_in
        obtain ⟨W, hW⟩ : ∃ W, W = w6.alloc (.cells #[.string p.c.t, .string p.c.n] 62) := ⟨_, rfl⟩
        have a1 : W.cell? ⟨w6.heap.size, 1, none⟩ = some (.string p.c.n) := by rw [hW]; exact (cell_of_rowU _ _ 1 _ _ _ (heap_allocN w6 _)).trans rfl
        have a2 : W.cell? ⟨p.r, 0, none⟩ = some (.string p.c.r) := by rw [hW]; exact (World.cell?_alloc_some _ _ _ (by rw [r0]; rfl)).trans r0
        have a3 : W.cell? ⟨p.r, 1, none⟩ = some (.int .u8 (p.c.sc : Int)) := by rw [hW]; exact (World.cell?_alloc_some _ _ _ (by rw [r1]; rfl)).trans r1
        rw [← hW] at hrow6 Hrg6 b7 ⊢
        have hW9 := hid hW
        have hsW : W.heap.size = w6.heap.size + 1 := by rw [hW]; simp
        have hsz6 := b6.out.size
        have hpr : p.r < w.heap.size := heap_lt (H.out.regs p Hp.out).2.2.1
        have HKf := hid (fun (w' : World) (hg' : W.drew.grownBy w' u5.ownBlock) => (show w'.cell? ⟨w6.heap.size, 1, none⟩ = some (.string p.c.n) ∧ w'.cell? ⟨p.r, 0, none⟩ = some (.string p.c.r) ∧ w'.cell? ⟨p.r, 1, none⟩ = some (.int .u8 (p.c.sc : Int)) from
          ⟨(World.cell?_of_block (hg'.block w6.heap.size (by show _ < W.heap.size; omega) (fun e => by have := (hlt9.out _ e.symm).2; omega))).trans a1, (World.cell?_of_block (hg'.block p.r (by show _ < W.heap.size; omega) (fun e => by have := (hlt9.out _ e.symm).1; omega))).trans a2, (World.cell?_of_block (hg'.block p.r (by show _ < W.heap.size; omega) (fun e => by have := (hlt9.out _ e.symm).1; omega))).trans a3⟩))
        have hbz : Hid (w.heap.size ≤ W.drew.heap.size) := b7.out.size
        have HRW := hid (show W.drew.ownsRow w.heap.size 56 4 u5 acc.length (clCells acc) from hrow6.out.kept (row := none) ⟨rfl, rfl, rfl, Nat.le_refl _, fun _ _ _ => rfl⟩ (Classical.em _))
        clear hW r0 r1 hsW hsz6 hpr
        obtain ⟨X, hX⟩ : ∃ X, X = W.alloc (.cells #[.string t, .string p.c.n, .string p.c.r, .int .u8 (p.c.sc : Int)] 56) := ⟨_, rfl⟩
        have x1 : X.cell? ⟨w6.heap.size, 1, none⟩ = some (.string p.c.n) := by rw [hX]; exact (World.cell?_alloc_some _ _ _ (by rw [a1]; rfl)).trans a1
        have x2 : X.cell? ⟨p.r, 0, none⟩ = some (.string p.c.r) := by rw [hX]; exact (World.cell?_alloc_some _ _ _ (by rw [a2]; rfl)).trans a2
        have x3 : X.cell? ⟨p.r, 1, none⟩ = some (.int .u8 (p.c.sc : Int)) := by rw [hX]; exact (World.cell?_alloc_some _ _ _ (by rw [a3]; rfl)).trans a3
        rw [hX] at x1 x2 x3
        clear hX
        go_region_held3 (fun w9 => w9.cell? ⟨w6.heap.size, 1, none⟩ = some (.string p.c.n) ∧ w9.cell? ⟨p.r, 0, none⟩ = some (.string p.c.r) ∧ w9.cell? ⟨p.r, 1, none⟩ = some (.int .u8 (p.c.sc : Int)))
          (first
            | exact ⟨a1, a2, a3⟩
            | exact ⟨x1, x2, x3⟩
            | exact HK.out)
          (first
            | (with_reducible (show ite _ (Oper.wp _ { dst := some 38, op := _, type := _, pos := _, after := _, guard := _ } _ _ _ _) _); rw [if_pos (by simp [Region.wanted])]; refine app_clU (.tmp 24) (.tmp 37) rfl W.drew ⟨t, p.c.n, p.c.r, p.c.sc⟩ rfl w.heap.size u5 acc rfl HRW.out rfl (by have := HL9.out; omega) hbz.out ?_; intro g9 m9 w8 h8 k8; have HK := hid (HKf.out w8 k8); have H8 := hid h8; have K8 := hid k8; clear h8 k8))
        have hnr := own_ne_range hrow6.out Hrg6.out
        have R0 : W.drew.ranges Tryz.prog 62 RV mc w.heap.size nv V (fun z => left z && !z.sameKey (keyP p.c.t p.c.n)) cnt' := Hrg6.out.kept (row := none) ⟨rfl, rfl, rfl, Nat.le_refl _, fun _ _ _ => rfl⟩ (by simp) (by simp)
        have R8 := R0.kept K8.out (fun e => hnr.1 e.symm) (fun e => hnr.2 e.symm)
        have hb9 := hid (b7.out.trans ((below_dN w.heap.size W 1).grown K8.out b7.out.size (fun k hk => (HRW.out.lt k hk).1)))
        have hc9 : Hid ((⟨t, p.c.n, p.c.r, p.c.sc⟩ : Cl) = p.c) := by
          show (⟨t, p.c.n, p.c.r, p.c.sc⟩ : Cl) = p.c
          rw [← Het.out]
        clear hnr R0
        go_roundw
        case rel =>
          refine ⟨_, _, _, _, _, _, _, _, _, _, _, _, _, _, _, _, _, _, _, _, _, _, _, _, _, _, _, ?inv, rfl⟩
          refine ⟨_, _, p :: L', acc ++ [⟨t, p.c.n, p.c.r, p.c.sc⟩], R8, ?_, ?_, hmore.out, hb9.out⟩
          · have h9 := H8.out
            simpa using h9
          · rw [List.map_cons, List.filter_cons_of_pos (by unfold inT; simp [Het.out]), hc9.out]
            exact List.perm_append_comm.trans (Hac.out.cons p.c)
        case measure =>
          rw [R8.left_eq, HL.out]
          exact Hlt.out
      · have q0 : (p.c.t.toList == t.toList) = false := by
          rw [beq_eq_false_iff_ne]
          exact fun e => et ((str_eqU _ _).2 e)
        have Het := hid et
        clear et
        go_wp2_with go_in
        go_roundw
        case rel =>
          refine ⟨_, _, p :: L', acc, Hrg6.out, hrow6.out, ?_, hmore.out, b7.out⟩
          rw [List.map_cons, List.filter_cons_of_neg (by unfold inT; simp [Het.out])]
          exact Hac.out
        case measure =>
          rw [Hrg6.out.left_eq, HL.out]
          exact Hlt.out
end
end Go.Proofs.YtlkbojgemcjilaaGreatDoor
