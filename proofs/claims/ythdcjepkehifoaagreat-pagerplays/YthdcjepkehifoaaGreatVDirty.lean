/- YthdcjepkehifoaaGreatVWrite + YthdcjepkehifoaaGreatVWrite2 + YthdcjepkehifoaaGreatVDirty -/
import Derived.Test.YthdcjepkehifoaaGreatVRead
/- Write of package pager, by a contract. -/
namespace Go.Proofs.YthdcjepkehifoaaGreat
open Go.RowKit Go.Maps Go.Sort Go.Shelf
set_option linter.unusedVariables false
set_option maxRecDepth 20000
/-- a page is put among the dirty ones -/
def dIns (q : Nat) (y : List UInt8) : List (Nat × List UInt8) → List (Nat × List UInt8)
  | [] => [(q, y)]
  | a :: l => if q < a.1 then (q, y) :: a :: l else if q = a.1 then (q, y) :: l else a :: dIns q y l
theorem dIns_mem {q : Nat} {y : List UInt8} {l : List (Nat × List UInt8)} {c : Nat × List UInt8} (h : c ∈ dIns q y l) : c = (q, y) ∨ c ∈ l := by
  induction l with
  | nil => simp [dIns] at h; exact .inl h
  | cons a l ih =>
    unfold dIns at h
    split at h
    · rcases List.mem_cons.1 h with h | h
      · exact .inl h
      · exact .inr h
    · split at h
      · rcases List.mem_cons.1 h with h | h
        · exact .inl h
        · exact .inr (List.mem_cons_of_mem _ h)
      · rcases List.mem_cons.1 h with h | h
        · exact .inr (h ▸ List.mem_cons_self ..)
        · exact (ih h).imp id (List.mem_cons_of_mem _)
theorem dIns_up {q : Nat} {y : List UInt8} {l : List (Nat × List UInt8)} (h : l.Pairwise (fun a b => a.1 < b.1)) : (dIns q y l).Pairwise (fun a b => a.1 < b.1) := by
  induction l with
  | nil => simp [dIns]
  | cons a l ih =>
    rw [List.pairwise_cons] at h
    unfold dIns
    split
    · rename_i hq
      rw [List.pairwise_cons]
      refine ⟨fun c hc => ?_, List.pairwise_cons.2 h⟩
      rcases List.mem_cons.1 hc with rfl | hc
      · exact hq
      · have := h.1 c hc; show q < c.1; omega
    · split
      · rename_i hq
        rw [List.pairwise_cons]
        exact ⟨fun c hc => by have := h.1 c hc; show q < c.1; omega, h.2⟩
      · rename_i h1 h2
        rw [List.pairwise_cons]
        refine ⟨fun c hc => ?_, ih h.2⟩
        rcases dIns_mem hc with rfl | hc
        · show a.1 < q; omega
        · exact h.1 c hc
theorem dIns_lookup {q : Nat} {y : List UInt8} {l : List (Nat × List UInt8)} (h : l.Pairwise (fun a b => a.1 < b.1)) (x : Nat) : (dIns q y l).lookup x = if x = q then some y else l.lookup x := by
  induction l with
  | nil =>
    by_cases hx : x = q
    · simp [dIns, hx]
    · have : (x == q) = false := by simpa using hx
      simp [dIns, List.lookup_cons, this, hx]
  | cons a l ih =>
    rw [List.pairwise_cons] at h
    unfold dIns
    split
    · rw [List.lookup_cons]
      by_cases hx : x = q
      · simp [hx]
      · have : (x == q) = false := by simpa using hx
        simp [this, hx]
    · split
      · rename_i h1 h2
        rw [List.lookup_cons, List.lookup_cons]
        by_cases hx : x = q
        · simp [hx]
        · have e1 : (x == q) = false := by simpa using hx
          have e2 : (x == a.1) = false := by rw [← h2]; exact e1
          simp [e1, e2, hx]
      · rename_i h1 h2
        rw [List.lookup_cons, List.lookup_cons, ih h.2]
        by_cases hx : x = q
        · subst hx
          have e2 : (x == a.1) = false := by simpa using h2
          simp [e2]
        · by_cases hxa : x = a.1
          · simp [hxa]
            intro e
            exact absurd (hxa.trans e) hx
          · have e2 : (x == a.1) = false := by simpa using hxa
            simp [e2, hx]
theorem dIns_len (q : Nat) (y : List UInt8) (l : List (Nat × List UInt8)) : (dIns q y l).length ≤ l.length + 1 := by
  induction l with
  | nil => simp [dIns]
  | cons a l ih =>
    unfold dIns
    split
    · simp
    · split
      · simp
      · simp; omega
theorem dIns_len2 {q : Nat} {y : List UInt8} {l : List (Nat × List UInt8)} (h : (l.lookup q).isSome = true) (hp : l.Pairwise (fun a b => a.1 < b.1)) : (dIns q y l).length = l.length := by
  induction l with
  | nil => cases h
  | cons a l ih =>
    rw [List.pairwise_cons] at hp
    unfold dIns
    rw [List.lookup_cons] at h
    split
    · rename_i hq
      exfalso
      by_cases e : (q == a.1) = true
      · have : q = a.1 := by simpa using e
        omega
      · rw [Bool.eq_false_iff.2 e] at h
        obtain ⟨z, hz⟩ := Option.isSome_iff_exists.1 h
        have := hp.1 _ (lookup_mem hz)
        simp at this
        omega
    · split
      · simp
      · rename_i h1 h2
        have e : (q == a.1) = false := by simpa using h2
        rw [e] at h
        simp
        exact ih h hp.2
/-- the error of Write -/
def writeE (s : PS) (x : Int) (n : Nat) : Int := if x < 0 ∨ (s.P : Int) ≤ x then 2 else if n ≠ 256 then 3 else if (s.dl.lookup x.toNat).isSome = false ∧ 100 ≤ s.dl.length then 6 else 0
def writeS (s : PS) (q : Nat) (y : List UInt8) : PS := dropS { s with dl := dIns q y s.dl, t := s.t + 1 } q
theorem hf_clone : ∀ (args : Array Value) (w : World), (callFunc 85 args).run Tryz.prog w = .ok (.enter 85 args) w := fun args w => by simp [go_sem]
theorem clone256 (y : List UInt8) (b o cap : Nat) (w : World) (hB : Bytes w (some ⟨b, o, none⟩) y) (hy : y.length = 256) : Calls Tryz.prog 85 #[.slice (some ⟨b, o, none⟩) 256 cap] w fun e w' => ∃ bb bc, e = .returned (.slice (some ⟨bb, 0, none⟩) 256 bc) ∧ w'.ownsRow w.heap.size 5 1 (.slice (some ⟨bb, 0, none⟩) 256 bc) 256 (cellsOf y) ∧ w.heap.size ≤ bb ∧ Below w.heap.size w w' := by
  have h := clone_any y b o cap w hB (by omega)
  rw [hy] at h
  refine h.mono ?_
  rintro _ w' ⟨v, rfl, hr, hb, _⟩
  obtain ⟨bb, bc, hv, h1, h2⟩ := own256 hr hy.symm (by omega)
  subst hv
  exact ⟨bb, bc, rfl, hr, h1, hb⟩
noncomputable def codeWrite (n : Nat) : Code := ((Tryz.f66.body.bind (regionAt n)).getD .skip)
set_option maxHeartbeats 1000000 in
theorem write_region8 {V0 W5 : World} {p q b o cb : Nat} {y : List UInt8} {m : PM} {s : PS} {A : Act} (sz : A.tmps.size = 40) (e0 : A.eval (.tmp 0) = .pointer (some ⟨p, 0, none⟩)) (e1 : A.eval (.tmp 1) = .int .i64 (q : Int)) (e2 : A.eval (.tmp 2) = .slice (some ⟨b, o, none⟩) 256 cb) (hV0 : V0 = W5.drew) (H : PgMem V0 p m s) (hby : Bytes V0 (some ⟨b, o, none⟩) y) (hyl : y.length = 256) (hq : q ≤ 9223372036854775807) (hdn : m.dn ≤ 1000000) :
    (codeWrite 8).wp Tryz.prog (fun x a V => x = .normal ∧ ∃ bb bc V1, a = (((((((A.put (some 30) (.pointer (some ⟨p, 0, none⟩))).put (some 31) (.pointer (some ⟨p, 0, none⟩))).put (some 32) (.pointer (some ⟨p, 5, none⟩))).put (some 33) (.map (some m.dm))).put (some 34) (.int .i64 (q : Int))).put (some 35) (.slice (some ⟨b, o, none⟩) 256 cb)).put (some 36) (.slice (some ⟨bb, 0, none⟩) 256 bc)) ∧ V1.ownsRow V0.heap.size 5 1 (.slice (some ⟨bb, 0, none⟩) 256 bc) 256 (cellsOf y) ∧ V0.heap.size ≤ bb ∧ Below V0.heap.size V0 V1 ∧ VMap V m.dm (m.dn + 1) (fun x => if x = q then some (.slice (some ⟨bb, 0, none⟩) 256 bc) else diOf m s x) ∧ V1.grownBy V (some m.dm)) A W5 := by
  have hm : Tryz.prog.follows .mixedOrders = true := by kernel_rfl
  have hs0 := H.c5
  unfold codeWrite
  conv => arg 2; whnf
  refine wp_region_G (fun _ => false) (fun V => V.cell? ⟨p, 5, none⟩ = some (.map (some m.dm))) hm ?_
  rw [show ({ W5 with drawn := W5.drawn + 1 } : World) = V0 from hV0.symm]
  refine wpAnyG_take (i := 0) (v := .pointer (some ⟨p, 0, none⟩)) rfl (by kernel_rfl) (by kernel_rfl) (by kernel_rfl) (fun _ _ _ h => nomatch h.1) (yg_mv (by simp [Region.wanted]) (.tmp 0) rfl e0) hs0 ?_
  show wpAnyG _ _ _ _ _ _ _ _ (A.put (some 30) (.pointer (some ⟨p, 0, none⟩))) _
  refine wpAnyG_take (i := 1) (v := .pointer (some ⟨p, 0, none⟩)) rfl (by kernel_rfl) (by kernel_rfl) (by kernel_rfl) (fun _ _ _ h => nomatch h.1) (yg_nil (by simp [Region.wanted]) (.tmp 30) rfl (ev_eq _ _ (by simp [sz]))) hs0 ?_
  show wpAnyG _ _ _ _ _ _ _ _ ((A.put (some 30) (.pointer (some ⟨p, 0, none⟩))).put (some 31) (.pointer (some ⟨p, 0, none⟩))) _
  refine wpAnyG_take (i := 2) (v := .pointer (some ⟨p, 5, none⟩)) rfl (by kernel_rfl) (by kernel_rfl) (by kernel_rfl) (fun _ _ _ h => nomatch h.1) (yg_fld (by simp [Region.wanted]) (.tmp 31) rfl (ev_eq _ _ (by simp [put_sz, sz])) (fun w => by simp [go_sem])) hs0 ?_
  show wpAnyG _ _ _ _ _ _ _ _ (((A.put (some 30) (.pointer (some ⟨p, 0, none⟩))).put (some 31) (.pointer (some ⟨p, 0, none⟩))).put (some 32) (.pointer (some ⟨p, 5, none⟩))) _
  refine wpAnyG_take (i := 3) (v := .map (some m.dm)) rfl (by kernel_rfl) (by kernel_rfl) (by kernel_rfl) (fun _ _ _ h => nomatch h.1) (yg_ld (by simp [Region.wanted]) (.tmp 32) rfl (ev_eq _ _ (by simp [put_sz, sz])) (fun w hw => by have h1 := hw; simp [go_sem, h1])) hs0 ?_
  show wpAnyG _ _ _ _ _ _ _ _ ((((A.put (some 30) (.pointer (some ⟨p, 0, none⟩))).put (some 31) (.pointer (some ⟨p, 0, none⟩))).put (some 32) (.pointer (some ⟨p, 5, none⟩))).put (some 33) (.map (some m.dm))) _
  refine wpAnyG_take (i := 4) (v := .int .i64 (q : Int)) rfl (by kernel_rfl) (by kernel_rfl) (by kernel_rfl) (fun _ _ _ h => nomatch h.1) (yg_mv (by simp [Region.wanted]) (.tmp 1) rfl ((ev_ne _ _ (by decide)).trans ((ev_ne _ _ (by decide)).trans ((ev_ne _ _ (by decide)).trans ((ev_ne _ _ (by decide)).trans e1))))) hs0 ?_
  show wpAnyG _ _ _ _ _ _ _ _ (((((A.put (some 30) (.pointer (some ⟨p, 0, none⟩))).put (some 31) (.pointer (some ⟨p, 0, none⟩))).put (some 32) (.pointer (some ⟨p, 5, none⟩))).put (some 33) (.map (some m.dm))).put (some 34) (.int .i64 (q : Int))) _
  refine wpAnyG_take (i := 5) (v := .slice (some ⟨b, o, none⟩) 256 cb) rfl (by kernel_rfl) (by kernel_rfl) (by kernel_rfl) (fun _ _ _ h => nomatch h.1) (yg_mv (by simp [Region.wanted]) (.tmp 2) rfl ((ev_ne _ _ (by decide)).trans ((ev_ne _ _ (by decide)).trans ((ev_ne _ _ (by decide)).trans ((ev_ne _ _ (by decide)).trans ((ev_ne _ _ (by decide)).trans e2)))))) hs0 ?_
  show wpAnyG _ _ _ _ _ _ _ _ ((((((A.put (some 30) (.pointer (some ⟨p, 0, none⟩))).put (some 31) (.pointer (some ⟨p, 0, none⟩))).put (some 32) (.pointer (some ⟨p, 5, none⟩))).put (some 33) (.map (some m.dm))).put (some 34) (.int .i64 (q : Int))).put (some 35) (.slice (some ⟨b, o, none⟩) 256 cb)) _
  refine wpAnyG_all (rs := [6]) (by kernel_rfl) (by simp) fun i1 hm1 => ?_
  obtain rfl : i1 = 6 := by simpa using hm1
  refine wpOp_own rfl rfl fun K1 hK1 => ?_
  refine wp_calls1 85 hf_clone (.tmp 35) _ rfl (.slice (some ⟨b, o, none⟩) 256 cb) (ev_eq _ _ (by simp [put_sz, sz])) ?_
  refine (clone256 y b o cb V0 hby hyl).mono ?_
  rintro _ V1 ⟨bb, bc, rfl, hr1, hbb, hb1⟩
  have H1 := H.below hb1
  have hs1 := H1.c5
  obtain ⟨V2, hrun, hdm, hg⟩ := H1.dmap.put Tryz.underlying152 (Nat.le_trans hdn (by omega)) q hq (.slice (some ⟨bb, 0, none⟩) 256 bc)
  have p2 : V2.heap[p]? = some (.cells (pgObj m s) 154 (0, 0)) := (hg.block p (heap_lt H1.obj) (fun e => H1.p_dm (Option.some.inj e))).trans H1.obj
  refine ⟨_, rfl, hK1 _ _ ⟨.inr hs1, ?_⟩⟩
  clear hK1 K1 hm1
  show wpAnyG _ _ _ _ _ _ _ _ (((((((A.put (some 30) (.pointer (some ⟨p, 0, none⟩))).put (some 31) (.pointer (some ⟨p, 0, none⟩))).put (some 32) (.pointer (some ⟨p, 5, none⟩))).put (some 33) (.map (some m.dm))).put (some 34) (.int .i64 (q : Int))).put (some 35) (.slice (some ⟨b, o, none⟩) 256 cb)).put (some 36) (.slice (some ⟨bb, 0, none⟩) 256 bc)) _
  obtain ⟨Az1, hAz1⟩ : ∃ Az1, Az1 = (((((((A.put (some 30) (.pointer (some ⟨p, 0, none⟩))).put (some 31) (.pointer (some ⟨p, 0, none⟩))).put (some 32) (.pointer (some ⟨p, 5, none⟩))).put (some 33) (.map (some m.dm))).put (some 34) (.int .i64 (q : Int))).put (some 35) (.slice (some ⟨b, o, none⟩) 256 cb)).put (some 36) (.slice (some ⟨bb, 0, none⟩) 256 bc)) := ⟨_, rfl⟩
  have szAz1 : Az1.tmps.size = 40 := by rw [hAz1]; simp [put_sz, sz]
  have eAz133 : Az1.eval (.tmp 33) = .map (some m.dm) := by rw [hAz1]; exact ((ev_ne _ _ (by decide)).trans ((ev_ne _ _ (by decide)).trans ((ev_ne _ _ (by decide)).trans (ev_eq _ _ (by simp [put_sz, sz])))))
  have eAz134 : Az1.eval (.tmp 34) = .int .i64 (q : Int) := by rw [hAz1]; exact ((ev_ne _ _ (by decide)).trans ((ev_ne _ _ (by decide)).trans (ev_eq _ _ (by simp [put_sz, sz]))))
  have eAz136 : Az1.eval (.tmp 36) = .slice (some ⟨bb, 0, none⟩) 256 bc := by rw [hAz1]; exact (ev_eq _ _ (by simp [put_sz, sz]))
  rw [← hAz1]
  refine wpAnyG_all (rs := [7]) (by kernel_rfl) (by simp) fun i2 hm2 => ?_
  obtain rfl : i2 = 7 := by simpa using hm2
  refine wpOp_own rfl rfl fun K2 hK2 => ?_
  refine wp_update (.tmp 33) (.tmp 34) (.tmp 36) rfl eAz133 eAz134 eAz136 hrun ?_
  refine hK2 _ _ ⟨.inr (cell_of_row _ _ 5 _ _ _ p2), wpAnyG_done (by kernel_rfl) ⟨rfl, bb, bc, V1, ?_, hr1, hbb, hb1, hdm, hg⟩ _⟩
  show Az1 = _
  rw [hAz1]
end Go.Proofs.YthdcjepkehifoaaGreat

/- Write of package pager, walked. -/
namespace Go.Proofs.YthdcjepkehifoaaGreat
open Go.RowKit Go.Maps Go.Sort Go.Shelf
set_option linter.unusedVariables false
set_option maxRecDepth 20000
/-- what is written by a change of clean or dirty pages -/
def wrB (p : Nat) (m : PM) (k : Nat) : Prop := clB p m k ∨ k = m.dm
def WritePost (w : World) (p : Nat) (m : PM) (s : PS) (x : Int) (y : List UInt8) (e : Ending) (w' : World) : Prop :=
  (writeE s x y.length ≠ 0 ∧ e = .returned (.int .i64 (writeE s x y.length)) ∧ Below w.heap.size w w') ∨
  (writeE s x y.length = 0 ∧ e = .returned (.int .i64 0) ∧ ∃ m', m'.l = m.l ∧ PgMem w' p m' (writeS s x.toNat y) ∧ Out (wrB p m) w w' ∧ Fresh w p m s m' (writeS s x.toNat y))
theorem keys_up {l : List (Nat × List UInt8)} (h : l.Pairwise (fun a b => a.1 < b.1)) : (l.map (·.1)).Pairwise (· < ·) := by rw [List.pairwise_map]; exact h
theorem lookup_some_iff {l : List (Nat × List UInt8)} {q : Nat} : q ∈ l.map (·.1) ↔ (l.lookup q).isSome = true := by
  constructor
  · intro h
    cases hl : l.lookup q with
    | some y => rfl
    | none =>
      obtain ⟨c, hc, e⟩ := List.mem_map.1 h
      exact absurd e (lookup_none hl c hc)
  · intro h
    obtain ⟨y, hy⟩ := Option.isSome_iff_exists.1 h
    exact List.mem_map.2 ⟨_, lookup_mem hy, rfl⟩
theorem di_some {m : PM} {s : PS} (q : Nat) : q ∈ s.dl.map (·.1) ↔ (diOf m s q).isSome = true := by
  rw [lookup_some_iff]
  unfold diOf
  by_cases h : (s.dl.lookup q).isSome = true
  · rw [if_pos h]; simp [h]
  · rw [if_neg h]; simp [h]
theorem PgMem.dlen {w : World} {p : Nat} {m : PM} {s : PS} (h : PgMem w p m s) (ty : TypeId) : (Builtin.len_ #[152] ty #[.map (some m.dm)]).run Tryz.prog w = .ok (.int .i64 (s.dl.length : Int)) w := by
  have := h.dmap.len Tryz.underlying152 ty (s.dl.map (·.1)) (keys_up h.ok.dup) (fun q => di_some q)
  rw [List.length_map] at this
  exact this
theorem CaOk.ins {s : PS} (h : CaOk s) {q : Nat} {y : List UInt8} (hq : q < s.P) (hy : y.length = 256) (hl : (dIns q y s.dl).length ≤ 100) : CaOk { s with dl := dIns q y s.dl, t := s.t + 1 } := by
  refine ⟨h.nd, h.olt, h.ol, h.mo1, h.mo2, dIns_up h.dup, fun c hc => ?_, hl, h.hit, h.mit⟩
  rcases dIns_mem hc with rfl | hc
  · exact ⟨hq, hy⟩
  · exact h.dlt c hc
set_option maxHeartbeats 4000000 in
theorem pgWrite_ok {w : World} {p : Nat} {m : PM} {s : PS} (h : PgMem w p m s) (ht : s.t ≤ 100000) (q : Nat) (hqP : q < s.P) (y : List UInt8) (hyl : y.length = 256) (b o cb : Nat) (hby : Bytes w (some ⟨b, o, none⟩) y) (hroom : ¬ ((s.dl.lookup q).isSome = false ∧ 100 ≤ s.dl.length)) :
    Calls Tryz.prog 66 #[.pointer (some ⟨p, 0, none⟩), .int .i64 (q : Int), .slice (some ⟨b, o, none⟩) 256 cb] w fun e w' => e = .returned (.int .i64 0) ∧ ∃ m', m'.l = m.l ∧ PgMem w' p m' (writeS s q y) ∧ Out (wrB p m) w w' ∧ Fresh w p m s m' (writeS s q y) := by
  have hPm : s.P ≤ 1024 := by have h2 := h.log.inv.len; have h3 := h.log.inv.most; omega
  obtain ⟨W0, hW0⟩ : ∃ W0, W0 = w.alloc (.cells #[.int .i64 (q : Int)] 3) := ⟨_, rfl⟩
  have b0 : Below w.heap.size w W0 := by rw [hW0]; exact (Below.refl _ w).alloc (Nat.le_refl _) _
  have HR := hid (pgReach_any (h.below b0) (some ⟨w.heap.size, 0, none⟩) [(q : Int)] 1 (by rw [hW0]; exact ints_new w q) (by simp))
  rw [reach1, if_neg (by omega)] at HR
  have H := hid h
  have HW := hid hW0
  have HB0 := hid b0
  have Hby := hid hby
  have Hyl := hid hyl
  have Hroom := hid hroom
  clear h hW0 b0 hby hyl hroom
  go_enter Tryz.func66, Tryz.ntmps66
  go_wp2_with fail
  rw [show w.alloc (.cells #[.int .i64 (q : Int)] 3) = W0 from HW.out.symm]
  refine HR.out.mono ?_
  rintro _ w1 ⟨rfl, b1⟩
  have bw1 := Below.on' HB0.out b1
  have h1 := H.out.below bw1
  have HI := hid (isDirty_any h1 (q : Int) (by omega))
  have c5 := h1.c5
  have hlen := h1.dlen 3
  have H1 := hid h1
  have BW1 := hid bw1
  have hdlen := h1.ok.dlen
  obtain ⟨D, hD⟩ : ∃ D, D = isDi s (q : Int) := ⟨_, rfl⟩
  rw [← hD] at HI
  have hD2 : D = (s.dl.lookup q).isSome := by rw [hD]; unfold isDi; rw [Int.toNat_natCast]; simp
  have hnew : (dIns q y s.dl).length ≤ 100 := by
    have h9 := dIns_len q y s.dl
    by_cases hs : (s.dl.lookup q).isSome = true
    · rw [dIns_len2 hs H.out.ok.dup]; exact hdlen
    · have hs' : (s.dl.lookup q).isSome = false := Bool.eq_false_iff.2 hs
      have h8 := Hroom.out
      rw [hs'] at h8
      simp at h8
      omega
  have Hnew := hid hnew
  have g9 : D = false → ¬ (100 : Int) ≤ (s.dl.length : Int) := fun e => by
    have := Hroom.out
    rw [← hD2, e] at this
    simp at this
    omega
  obtain ⟨L, hL⟩ : ∃ L, L = s.dl.length := ⟨_, rfl⟩
  rw [← hL] at hlen g9
  clear h1 bw1 b1 hdlen hnew hD hD2 hL
  cases D with
  | true =>
    go_wp2_with (go_at_call 120; refine HI.out.mono ?_; rintro _ w2 ⟨rfl, e9⟩; subst w2)
    clear g9 HI c5 hlen
    obtain ⟨V0, hV0⟩ : ∃ V0, V0 = w1.drew := ⟨_, rfl⟩
    have b10 : Below w1.heap.size w1 V0 := by rw [hV0]; exact (Below.refl _ w1).drew
    have bwV := Below.on' BW1.out b10
    have h0 := H1.out.below b10
    refine wp_act _ fun A hA => ?_
    have sz : A.tmps.size = 40 := by rw [hA]; rfl
    have e0 : A.eval (.tmp 0) = .pointer (some ⟨p, 0, none⟩) := by rw [hA]; rfl
    have e1 : A.eval (.tmp 1) = .int .i64 (q : Int) := by rw [hA]; rfl
    have e2 : A.eval (.tmp 2) = .slice (some ⟨b, o, none⟩) 256 cb := by rw [hA]; rfl
    refine wp_split _ (write_region8 sz e0 e1 e2 hV0 h0 (Hby.out.below bwV) Hyl.out (by omega) (by have := h0.dnt; omega)) ?_
    rintro _ V2 ⟨bb, bc, V1, rfl, hrow, hbb, hb1, hdm, hg⟩
    rw [hA]
    simp only [Act.put, List.setIfInBounds_toArray, List.set_cons_succ, List.set_cons_zero]
    have h1 := h0.below hb1
    have od : Out (fun k => k = m.dm) V1 V2 := Out.of_grown hg rfl
    have hdup := H.out.ok.dup
    have hbb1 : BBlk V1 bb y := BBlk.of_own hrow Hyl.out.symm
    have nbb : bb ≠ m.dm := by
      obtain ⟨cs, fz, hc, _⟩ := hbb1
      obtain ⟨es, cl, hm⟩ := h1.dmap.isMap
      exact map_ne hc hm
    have h2 := h1.dirt od (m.dn + 1) (upd m.db q bb) (upd m.dc q bc) (dIns q y s.dl) (s.t + 1) (by omega) (VMap.congr hdm (fun x => by
        rw [dIns_lookup hdup]
        by_cases hx : x = q
        · subst hx; simp [upd_same]
        · rw [if_neg hx, if_neg hx, upd_ne _ _ hx, upd_ne _ _ hx]; rfl)) (fun c hc => by
        by_cases hcq : c.1 = q
        · have hl := dIns_lookup (q := q) (y := y) hdup q
          rw [if_pos rfl] at hl
          have hce : c = (q, y) := by
            have h3 := dIns_up (q := q) (y := y) hdup
            have hm := lookup_mem hl
            rw [List.pairwise_iff_getElem] at h3
            obtain ⟨i, hi, rfl⟩ := List.mem_iff_getElem.1 hc
            obtain ⟨j, hj, ej⟩ := List.mem_iff_getElem.1 hm
            have hij : i = j := by
              rcases Nat.lt_trichotomy i j with hij | hij | hij
              · have := h3 i j hi hj hij; rw [ej] at this; omega
              · exact hij
              · have := h3 j i hj hi hij; rw [ej] at this; omega
            subst hij
            exact ej
          rw [hce]
          show BBlk V2 (upd m.db q bb q) y
          rw [upd_same]
          exact hbb1.keep (hg.block bb hbb1.lt (fun e => nbb (Option.some.inj e)))
        · have hc' : c ∈ s.dl := by
            rcases dIns_mem hc with rfl | hc
            · exact absurd rfl hcq
            · exact hc
          rw [upd_ne _ _ hcq]
          have hb := h1.dby c hc'
          exact hb.keep (hg.block _ hb.lt (fun e => h1.byt hb (.inr (.inr (.inr (.inr (.inl (Option.some.inj e)))))))) ) (by have := h1.dnt; omega) (H.out.ok.ins hqP Hyl.out Hnew.out)
    have HDr := hid (drop_any h2 q (by omega))
    have OD : Hid (Out (wrB p m) w V2) := ((Out.of_below bwV).on hb1).trans (od.imp (Q := wrB p m) (fun _ _ e => .inr e)) (fun _ _ x => x)
    have hszV : w.heap.size ≤ bb := Nat.le_trans bwV.size hbb
    clear sz e0 e1 e2 hA A h1 h2 od hdup hbb1 nbb hrow hbb hb1 hdm hg h0 bwV b10 hV0
    go_wp2_with (go_at_call 121; refine HDr.out.mono ?_; rintro _ w4 ⟨rfl, ov4, h4, hov4, o4⟩; have H4 := hid h4; have O4 := hid o4; have Hov4 := hid hov4; clear h4 o4 hov4)
    go_ret
    refine ⟨rfl, _, (by rfl), H4.out, OD.out.trans (O4.out.imp (Q := wrB p m) (fun _ _ e => .inl e)) (fun _ _ x => x), fun k hk => ?_⟩
    have hk2 := all_drop (m := { m with dn := m.dn + 1, db := upd m.db q bb, dc := upd m.dc q bc }) (s := { s with dl := dIns q y s.dl, t := s.t + 1 }) (x := q) Hov4.out hk
    rcases hk2 with hk2 | (hk2 | ⟨c, hc, e⟩)
    · exact .inl (.inl hk2)
    · exact .inl (.inr (.inl hk2))
    · by_cases hcq : c.1 = q
      · right
        have e' : k = upd m.db q bb c.1 := e
        rw [e', hcq, upd_same]
        exact hszV
      · left
        have e' : k = upd m.db q bb c.1 := e
        rw [upd_ne _ _ hcq] at e'
        refine .inr (.inr ⟨c, ?_, e'⟩)
        rcases dIns_mem hc with rfl | hc
        · exact absurd rfl hcq
        · exact hc
  | false =>
    have g1 := g9 rfl
    have g2 : decide ((100 : Int) ≤ (L : Int)) = false := decide_eq_false g1
    go_wp2_with (go_at_call 120; refine HI.out.mono ?_; rintro _ w2 ⟨rfl, e9⟩; subst w2)
    clear g9 HI c5 hlen
    obtain ⟨V0, hV0⟩ : ∃ V0, V0 = w1.drew := ⟨_, rfl⟩
    have b10 : Below w1.heap.size w1 V0 := by rw [hV0]; exact (Below.refl _ w1).drew
    have bwV := Below.on' BW1.out b10
    have h0 := H1.out.below b10
    refine wp_act _ fun A hA => ?_
    have sz : A.tmps.size = 40 := by rw [hA]; rfl
    have e0 : A.eval (.tmp 0) = .pointer (some ⟨p, 0, none⟩) := by rw [hA]; rfl
    have e1 : A.eval (.tmp 1) = .int .i64 (q : Int) := by rw [hA]; rfl
    have e2 : A.eval (.tmp 2) = .slice (some ⟨b, o, none⟩) 256 cb := by rw [hA]; rfl
    refine wp_split _ (write_region8 sz e0 e1 e2 hV0 h0 (Hby.out.below bwV) Hyl.out (by omega) (by have := h0.dnt; omega)) ?_
    rintro _ V2 ⟨bb, bc, V1, rfl, hrow, hbb, hb1, hdm, hg⟩
    rw [hA]
    simp only [Act.put, List.setIfInBounds_toArray, List.set_cons_succ, List.set_cons_zero]
    have h1 := h0.below hb1
    have od : Out (fun k => k = m.dm) V1 V2 := Out.of_grown hg rfl
    have hdup := H.out.ok.dup
    have hbb1 : BBlk V1 bb y := BBlk.of_own hrow Hyl.out.symm
    have nbb : bb ≠ m.dm := by
      obtain ⟨cs, fz, hc, _⟩ := hbb1
      obtain ⟨es, cl, hm⟩ := h1.dmap.isMap
      exact map_ne hc hm
    have h2 := h1.dirt od (m.dn + 1) (upd m.db q bb) (upd m.dc q bc) (dIns q y s.dl) (s.t + 1) (by omega) (VMap.congr hdm (fun x => by
        rw [dIns_lookup hdup]
        by_cases hx : x = q
        · subst hx; simp [upd_same]
        · rw [if_neg hx, if_neg hx, upd_ne _ _ hx, upd_ne _ _ hx]; rfl)) (fun c hc => by
        by_cases hcq : c.1 = q
        · have hl := dIns_lookup (q := q) (y := y) hdup q
          rw [if_pos rfl] at hl
          have hce : c = (q, y) := by
            have h3 := dIns_up (q := q) (y := y) hdup
            have hm := lookup_mem hl
            rw [List.pairwise_iff_getElem] at h3
            obtain ⟨i, hi, rfl⟩ := List.mem_iff_getElem.1 hc
            obtain ⟨j, hj, ej⟩ := List.mem_iff_getElem.1 hm
            have hij : i = j := by
              rcases Nat.lt_trichotomy i j with hij | hij | hij
              · have := h3 i j hi hj hij; rw [ej] at this; omega
              · exact hij
              · have := h3 j i hj hi hij; rw [ej] at this; omega
            subst hij
            exact ej
          rw [hce]
          show BBlk V2 (upd m.db q bb q) y
          rw [upd_same]
          exact hbb1.keep (hg.block bb hbb1.lt (fun e => nbb (Option.some.inj e)))
        · have hc' : c ∈ s.dl := by
            rcases dIns_mem hc with rfl | hc
            · exact absurd rfl hcq
            · exact hc
          rw [upd_ne _ _ hcq]
          have hb := h1.dby c hc'
          exact hb.keep (hg.block _ hb.lt (fun e => h1.byt hb (.inr (.inr (.inr (.inr (.inl (Option.some.inj e)))))))) ) (by have := h1.dnt; omega) (H.out.ok.ins hqP Hyl.out Hnew.out)
    have HDr := hid (drop_any h2 q (by omega))
    have OD : Hid (Out (wrB p m) w V2) := ((Out.of_below bwV).on hb1).trans (od.imp (Q := wrB p m) (fun _ _ e => .inr e)) (fun _ _ x => x)
    have hszV : w.heap.size ≤ bb := Nat.le_trans bwV.size hbb
    clear sz e0 e1 e2 hA A h1 h2 od hdup hbb1 nbb hrow hbb hb1 hdm hg h0 bwV b10 hV0
    go_wp2_with (go_at_call 121; refine HDr.out.mono ?_; rintro _ w4 ⟨rfl, ov4, h4, hov4, o4⟩; have H4 := hid h4; have O4 := hid o4; have Hov4 := hid hov4; clear h4 o4 hov4)
    go_ret
    refine ⟨rfl, _, (by rfl), H4.out, OD.out.trans (O4.out.imp (Q := wrB p m) (fun _ _ e => .inl e)) (fun _ _ x => x), fun k hk => ?_⟩
    have hk2 := all_drop (m := { m with dn := m.dn + 1, db := upd m.db q bb, dc := upd m.dc q bc }) (s := { s with dl := dIns q y s.dl, t := s.t + 1 }) (x := q) Hov4.out hk
    rcases hk2 with hk2 | (hk2 | ⟨c, hc, e⟩)
    · exact .inl (.inl hk2)
    · exact .inl (.inr (.inl hk2))
    · by_cases hcq : c.1 = q
      · right
        have e' : k = upd m.db q bb c.1 := e
        rw [e', hcq, upd_same]
        exact hszV
      · left
        have e' : k = upd m.db q bb c.1 := e
        rw [upd_ne _ _ hcq] at e'
        refine .inr (.inr ⟨c, ?_, e'⟩)
        rcases dIns_mem hc with rfl | hc
        · exact absurd rfl hcq
        · exact hc
set_option maxHeartbeats 1000000 in
theorem pgWrite_bad {w : World} {p : Nat} {m : PM} {s : PS} (h : PgMem w p m s) (x : Int) (hx : -9223372036854775808 ≤ x ∧ x ≤ 9223372036854775807) (a : Option Addr) (n c : Nat) (hb : writeE s x n ≠ 0) :
    Calls Tryz.prog 66 #[.pointer (some ⟨p, 0, none⟩), .int .i64 x, .slice a n c] w fun e w' => e = .returned (.int .i64 (writeE s x n)) ∧ Below w.heap.size w w' := by
  obtain ⟨W0, hW0⟩ : ∃ W0, W0 = w.alloc (.cells #[.int .i64 x] 3) := ⟨_, rfl⟩
  have b0 : Below w.heap.size w W0 := by rw [hW0]; exact (Below.refl _ w).alloc (Nat.le_refl _) _
  have HR := hid (pgReach_any (h.below b0) (some ⟨w.heap.size, 0, none⟩) [x] 1 (by rw [hW0]; exact ints_new w x) (by simp))
  rw [reach1] at HR
  have H := hid h
  have HW := hid hW0
  have HB0 := hid b0
  clear h hW0 b0
  by_cases h1 : x < 0 ∨ (s.P : Int) ≤ x
  · have e : writeE s x n = 2 := by unfold writeE; rw [if_pos h1]
    rw [if_pos h1] at HR
    rw [e]
    clear hb e h1
    go_enter Tryz.func66, Tryz.ntmps66
    go_wp2_with (go_at_call 118; rw [show w.alloc (.cells #[.int .i64 x] 3) = W0 from HW.out.symm]; refine HR.out.mono ?_; rintro _ w1 ⟨rfl, b1⟩; have B1 := hid b1; clear b1)
    go_ret
    exact ⟨rfl, Below.on' HB0.out B1.out⟩
  · rw [if_neg h1] at HR
    by_cases h2 : n ≠ 256
    · have e : writeE s x n = 3 := by unfold writeE; rw [if_neg h1, if_pos h2]
      rw [e]
      have g1 : ((n : Int) == 256) = false := by rw [beq_eq_false_iff_ne]; omega
      have g2 : ((n : Int) != 256) = true := by simp [bne, g1]
      clear hb e h1 h2
      go_enter Tryz.func66, Tryz.ntmps66
      go_wp2_with (go_at_call 118; rw [show w.alloc (.cells #[.int .i64 x] 3) = W0 from HW.out.symm]; refine HR.out.mono ?_; rintro _ w1 ⟨rfl, b1⟩; have B1 := hid b1; clear b1)
      go_ret
      exact ⟨rfl, Below.on' HB0.out B1.out⟩
    · have h2' : n = 256 := by omega
      subst h2'
      have h3 : (s.dl.lookup x.toNat).isSome = false ∧ 100 ≤ s.dl.length := by
        apply Classical.byContradiction
        intro h3
        apply hb
        unfold writeE
        rw [if_neg h1, if_neg h2, if_neg h3]
      have e : writeE s x 256 = 6 := by unfold writeE; rw [if_neg h1, if_neg h2, if_pos h3]
      rw [e]
      have hd : isDi s x = false := by unfold isDi; rw [h3.1, Bool.and_false]
      have g3 : (100 : Int) ≤ (s.dl.length : Int) := by omega
      have g4 : decide ((100 : Int) ≤ (s.dl.length : Int)) = true := decide_eq_true g3
      obtain ⟨L, hL⟩ : ∃ L, L = s.dl.length := ⟨_, rfl⟩
      have HL := hid hL
      rw [← hL] at g3 g4
      clear hb e h1 h2 h3 hL
      go_enter Tryz.func66, Tryz.ntmps66
      go_wp2_with fail
      rw [show w.alloc (.cells #[.int .i64 x] 3) = W0 from HW.out.symm]
      refine HR.out.mono ?_
      rintro _ w1 ⟨rfl, b1⟩
      have bw1 := Below.on' HB0.out b1
      have h1 := H.out.below bw1
      have HI := hid (isDirty_any h1 x hx)
      rw [hd] at HI
      have c5 := h1.c5
      have hlen := h1.dlen 3
      rw [← HL.out] at hlen
      have BW1 := hid bw1
      clear h1 bw1 b1 hd
      go_wp2_with (go_at_call 120; refine HI.out.mono ?_; rintro _ w2 ⟨rfl, e9⟩; subst w2)
      go_ret
      exact ⟨rfl, BW1.out⟩
theorem pgWrite_any {w : World} {p : Nat} {m : PM} {s : PS} (h : PgMem w p m s) (ht : s.t ≤ 100000) (x : Int) (hx : -9223372036854775808 ≤ x ∧ x ≤ 9223372036854775807) (y : List UInt8) (a : Option Addr) (c : Nat) (hy : Bytes w a y) :
    Calls Tryz.prog 66 #[.pointer (some ⟨p, 0, none⟩), .int .i64 x, .slice a y.length c] w (WritePost w p m s x y) := by
  by_cases hb : writeE s x y.length = 0
  · have h1 : ¬ (x < 0 ∨ (s.P : Int) ≤ x) := fun h1 => by unfold writeE at hb; rw [if_pos h1] at hb; cases hb
    have h2 : y.length = 256 := Classical.byContradiction fun h2 => by unfold writeE at hb; rw [if_neg h1, if_pos h2] at hb; cases hb
    have h3 : ¬ ((s.dl.lookup x.toNat).isSome = false ∧ 100 ≤ s.dl.length) := fun h3 => by unfold writeE at hb; rw [if_neg h1, if_neg (by omega), if_pos h3] at hb; cases hb
    obtain ⟨q, rfl⟩ : ∃ q : Nat, x = (q : Int) := ⟨x.toNat, by omega⟩
    obtain ⟨b, o, rfl, _⟩ := hy 0 (by omega)
    rw [h2]
    refine (pgWrite_ok h ht q (by omega) y h2 b o c hy h3).mono ?_
    rintro e w' ⟨he, m', hl, h4, h5, h6⟩
    exact .inr ⟨hb, he, m', hl, h4, h5, h6⟩
  · refine (pgWrite_bad h x hx a y.length c hb).mono ?_
    rintro e w' ⟨he, h4⟩
    exact .inl ⟨hb, he, h4⟩
end Go.Proofs.YthdcjepkehifoaaGreat

/- Dirty and group of package pager, by contracts. -/
namespace Go.Proofs.YthdcjepkehifoaaGreat
open Go.RowKit Go.Maps Go.Sort Go.Shelf
set_option linter.unusedVariables false
set_option maxRecDepth 20000
set_option maxHeartbeats 1600000 in
theorem dirty_any {w : World} {p : Nat} {m : PM} {s : PS} (h : PgMem w p m s) (hn : m.dn ≤ 1000000) :
    Calls Tryz.prog 56 #[.pointer (some ⟨p, 0, none⟩)] w fun e w' => ∃ v, e = .returned v ∧ w'.ownsRow w.heap.size 3 1 v s.dl.length (natCells (s.dl.map (·.1))) ∧ Below w.heap.size w w' := by
  obtain ⟨D, hown, hh, _⟩ := h.dmap
  have c5 := h.c5
  refine (callsIn_wide (n := 6)).1 ?_
  have hbl := hown.lt
  have hsz := hown.size_le
  have hseq : SeqGives Fence.wide 2 Tryz.prog 155 #[.pointer (some ⟨w.heap.size, 0, none⟩)] encZ (fun ss => ss.Perm (intKeys D)) (Maps.size D) (w.alloc (.cells #[.map (some m.dm)] 152)) :=
    AnyZI.keys_gives (ρ := Tryz.keysD_ren) { Tryz.keysD with } Fence.wide _ trivial rfl (by omega) w.heap.size m.dm m.dn D _ (by simp) (by simp) (by
      obtain ⟨es, clock, hb, Ft, hs, hD⟩ := hown
      exact ⟨es, clock, (Below.heap_alloc _ _ m.dm hbl).trans hb, Ft, hs, hD⟩)
  have cK : ∀ mb W, CallsIn Fence.wide 5 Tryz.prog 116 #[.map mb] W fun e w' => e = .returned (.func (.func 155) #[] #[.pointer (some ⟨W.heap.size, 0, none⟩)]) ∧ w' = W.alloc (.cells #[.map mb] 152) := fun mb W => AnyZI.keys_in Tryz.keysD Fence.wide 5 trivial rfl mb W
  have cS := AnyZI.sorted_in Tryz.sortedA Fence.wide 5 trivial trivial trivial trivial rfl (by omega) (sorts_int _) (enters_of Tryz.func131 (by kernel_rfl) rfl) 155 #[.pointer (some ⟨w.heap.size, 0, none⟩)] trivial (enters_of Tryz.func155 (by kernel_rfl) rfl) _ _ (by unfold maxLen; omega) (by omega) _ hseq
  change CallsIn _ _ Tryz.prog 78 _ _ _ at cS
  have hfK : Fence.wide.fn 116 := trivial
  have hfS : Fence.wide.fn 78 := trivial
  have Hown := hid hown
  have Hh := hid hh
  have Hup := hid (keys_up h.ok.dup)
  have Hdi : Hid (∀ q, q ∈ s.dl.map (·.1) ↔ (diOf m s q).isSome = true) := fun q => di_some q
  clear hown hh hseq hsz h
  refine callsIn_of_wp Tryz.func56 rfl trivial ?_ rfl
  simp only [Tryz.ntmps56, List.size_toArray, List.length_cons, List.length_nil, Nat.reduceAdd, Nat.reduceSub, Array.replicate_succ, Array.replicate_zero, List.push_toArray, List.append_toArray, List.nil_append, List.cons_append]
  gi_wp2_with (first
    | (gi_at_call 116; refine (cK _ _).mono ?_; rintro e w' ⟨rfl, rfl⟩)
    | (gi_at_call 78; refine cS.mono ?_; rintro e w' ⟨v, ss, rfl, hS, hrow, hnil, hb⟩))
  go_ret
  obtain ⟨e1, e2⟩ := vkeys Hown.out Hh.out (s.dl.map (·.1)) Hup.out Hdi.out ss hS
  rw [e1, e2, List.length_map] at hrow
  exact ⟨v, rfl, ownsRow_base_a hrow (by simp), ((Below.refl _ w).alloc (Nat.le_refl _) _).trans (hb.mono (by simp))⟩
/-- a dirty page as it is handed to the log -/
def pgOf (m : PM) (c : Nat × List UInt8) : PgV := ((c.1 : Int), some ⟨m.db c.1, 0, none⟩, 256, m.dc c.1)
def pgsOf (m : PM) (l : List (Nat × List UInt8)) : List PgV := l.map (pgOf m)
theorem app_page (w : World) {ops : Array Oper} {rest : List Oper} {o : Oper} {a : Act} {Q : Exit → Act → World → Prop} (hgd : o.guard = none) (sl x : Operand)
    (ho : o.op = .call { callee := .builtin .append, args := #[sl, x], argTypes := #[67, 67] }) (base : Nat) (v : Value) (l : List PgV) (hs : a.eval sl = v)
    (hown : w.ownsRow base 94 2 v l.length (pgCells l)) (q : PgV) {qi : Int} {qa : Option Addr} {qn qc : Nat} (hqe : encPg q = [.int .i64 qi, .slice qa qn qc]) (hx : a.eval x = .slice (some ⟨w.heap.size, 0, none⟩) 1 1) (hb : l.length ≤ 100000) (hbase : base ≤ w.heap.size)
    (h : ∀ g cap w', w'.ownsRow base 94 2 (.slice (some ⟨g, 0, none⟩) (l ++ [q]).length cap) (l ++ [q]).length (pgCells (l ++ [q])) → Below base w w' → wpList Tryz.prog ops Q rest (a.put o.dst (.slice (some ⟨g, 0, none⟩) (l ++ [q]).length cap)) w') :
    wpList Tryz.prog ops Q (o :: rest) a (w.alloc (.cells #[.int .i64 qi, .slice qa qn qc] 94)) := by
  rw [show (#[.int .i64 qi, .slice qa qn qc] : Array Value) = (encPg q).toArray by rw [hqe]]
  obtain ⟨i0, hi, hz0, hz1, hz2⟩ := info_parts Tryz.info94
  have hnew := heap_alloc_new w (.cells (encPg q).toArray 94)
  refine wpList_plain hgd fun _ hK => wp_append_lies _ sl x 67 ho base 94 i0 (.agg #[.int .i64 0, .slice none 0 0]) 2 32 Tryz.underlying67 hi hz0 hz1 hz2 rfl (by decide) v l.length (pgCells l) hs (hown.alloc _) ⟨w.heap.size, 0, none⟩ 1 1 (encPg q) hx rfl (fun j u hj => ?_) (encPg_one q) (by decide) (by unfold maxLen; omega) (by omega) (by simp; omega) _ rfl ?_
  · have hj2 : j < 2 := by have := (List.getElem?_eq_some_iff.1 hj).1; simpa [encPg] using this
    rw [addr_add, cell_of_row _ _ _ _ _ _ hnew]
    simpa using hj
  intro g cap w' h1 h2 h3 _
  have e : pgCells l ++ encPg q = pgCells (l ++ [q]) := (pgCells_snoc l q).symm
  have e2 : l.length + 1 = (l ++ [q]).length := by simp
  rw [e, e2] at h1
  have h4 := h g cap w' h1 (((Below.refl _ _).alloc hbase _).trans ((Below.refl _ _).grown h2 (by simp; omega) (fun k hk => (hown.lt k hk).1)))
  rw [← e2] at h4
  exact hK _ _ h4
set_option maxHeartbeats 1600000 in
theorem group_any {w : World} {p : Nat} {m : PM} {s : PS} (h : PgMem w p m s) (hn : m.dn ≤ 1000000) :
    Calls Tryz.prog 123 #[.pointer (some ⟨p, 0, none⟩)] w fun e w' => ∃ v, e = .returned v ∧ w'.ownsRow w.heap.size 94 2 v (pgsOf m s.dl).length (pgCells (pgsOf m s.dl)) ∧ Below w.heap.size w w' := by
  have HD := hid (dirty_any h hn)
  have hdl := h.ok.dlen
  have H := hid h
  have hPm : s.P ≤ 1024 := by have h2 := h.log.inv.len; have h3 := h.log.inv.most; omega
  clear h
  go_enter Tryz.func123, Tryz.ntmps123
  go_wp2_with fail
  refine HD.out.mono ?_
  rintro _ w1 ⟨v1, rfl, hr1, b1⟩
  obtain ⟨a1, k1, hv1⟩ := own_slc hr1
  subst hv1
  have HR1 := hid hr1
  have B1 := hid b1
  have hlen : (s.dl.map (·.1)).length = s.dl.length := List.length_map _
  obtain ⟨N, hN⟩ : ∃ N, N = s.dl.length := ⟨_, rfl⟩
  have HN := hid hN
  rw [← hN] at HR1 hdl ⊢
  clear hr1 b1 hlen hN
  go_wp2_with fail
  go_loopw [3, 9] (fun v i wr => ∃ k : Nat, k ≤ N ∧ i = .int .i64 (k : Int) ∧ wr.ownsRow w1.heap.size 94 2 v (pgsOf m (s.dl.take k)).length (pgCells (pgsOf m (s.dl.take k))) ∧ Below w1.heap.size w1 wr) (fun _ i _ => N - (intOf i).toNat)
  case atStart => exact ⟨0, Nat.zero_le _, rfl, World.ownsRow_nil _ _ _ _, Below.refl _ _⟩
  case round =>
    obtain ⟨k, hk, rfl, hown, hbel⟩ := hrel
    have Hown := hid hown
    have Hbel := hid hbel
    obtain ⟨a3, k3, hv3⟩ := own_slc hown
    have hwb := Below.on' B1.out hbel
    by_cases hlt : k < N
    · have g1 : (k : Int) < (N : Int) := by omega
      have hkl : k < s.dl.length := by have := HN.out; omega
      have hr := (ownsRow_keep HR1.out (fun j hj => hbel.block j (HR1.out.lt j hj).2))
      obtain ⟨g, hg, hcell⟩ : ∃ g, a1 = some ⟨g, 0, none⟩ ∧ wr.cell? ⟨g, k, none⟩ = some (.int .i64 ((s.dl[k]).1 : Int)) := by
        rcases hr.2 with ⟨_, h0⟩ | ⟨g, cap, cur, e, _, hg, _, _, _, ht⟩
        · omega
        · cases e
          refine ⟨g, rfl, ?_⟩
          have := hr.cellAt k (by omega)
          rw [this]
          simp [natCells, hkl]
      subst hg
      have hw := H.out.below hwb
      have hmem := List.getElem_mem hkl
      have c5 := hw.c5
      have hqP := (H.out.ok.dlt _ hmem).1
      have hsome : (s.dl.lookup (s.dl[k]).1).isSome = true := lookup_some_iff.1 (List.mem_map.2 ⟨_, hmem, rfl⟩)
      have hlk := (hw.di_in hsome (by omega)).2
      have Hst : Hid (pgsOf m (s.dl.take (k + 1)) = pgsOf m (s.dl.take k) ++ [pgOf m s.dl[k]]) := by show _ = _; rw [List.take_succ_eq_append_getElem hkl]; simp only [pgsOf, List.map_append, List.map_cons, List.map_nil]
      have hpg : encPg (pgOf m s.dl[k]) = [.int .i64 ((s.dl[k]).1 : Int), .slice (some ⟨m.db (s.dl[k]).1, 0, none⟩) 256 (m.dc (s.dl[k]).1)] := rfl
      have Hpg := hid hpg
      have hL : (pgsOf m (s.dl.take k)).length ≤ 100000 := by simp [pgsOf]; omega
      have hsz : w1.heap.size ≤ wr.heap.size := hbel.size
      generalize pgOf m s.dl[k] = x at *
      generalize (s.dl[k]).1 = q at *
      generalize pgsOf m (s.dl.take k) = L at *
      have HL := hid Hown.out
      subst hv3
      clear hown hbel hwb hr hw hmem hsome hpg
      go_wp2_with (at_builtin; refine app_page wr rfl (.tmp 13) (.tmp 22) rfl w1.heap.size (.slice a3 L.length k3) L rfl Hown.out x Hpg.out rfl hL hsz ?_; intro gg kc w5 hrow hb5; have HR5 := hid hrow; have HB5 := hid hb5; clear hrow hb5)
      go_roundw
      case rel =>
        refine ⟨k + 1, by omega, by go_num, ?_, ?_⟩
        · rw [Hst.out]; have h := HR5.out; rw [show (L ++ [x]).length = L.length + 1 by simp] at h ⊢; exact h
        · exact Hbel.out.trans HB5.out
      case measure => simp [intOf]; omega
    · have g1 : ¬ (k : Int) < (N : Int) := by omega
      have hfin := Hown.out
      rw [List.take_of_length_le (by have := HN.out; omega)] at hfin
      have hfin := ownsRow_base_a hfin B1.out.size
      have Hfin := hid hfin
      have HWB := hid hwb
      subst hv3
      clear hown hbel hwb
      clear hfin
      go_wp2_with fail
      go_ret
      exact ⟨_, rfl, Hfin.out, HWB.out⟩
end Go.Proofs.YthdcjepkehifoaaGreat
