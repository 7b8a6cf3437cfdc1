/- YthdcjepkehifoaaGreatVLog + YthdcjepkehifoaaGreatVCommit + YthdcjepkehifoaaGreatVCommit2 + YthdcjepkehifoaaGreatVCommit3 + YthdcjepkehifoaaGreatVCommit4 -/
import Derived.Test.YthdcjepkehifoaaGreatVDirty
/- The log of a cache: Commit and Checkpoint, by contracts over its groups. -/
namespace Go.Proofs.YthdcjepkehifoaaGreat
open Go.RowKit Go.Maps Go.Sort Go.Shelf
set_option linter.unusedVariables false
set_option maxRecDepth 20000
section
variable {w : World} {S P t l d g c mm n G : Nat} {v : Value} {gs : List (List Nat)} {ls : List (Nat × List UInt8)}
theorem At1.le (h : At1 w 0 S P t l d g c mm n v G gs ls) {t' : Nat} (ht : t ≤ t') : At1 w 0 S P t' l d g c mm n v G gs ls := h.keep (fun _ _ => rfl) ht
/-- the sorted pages of a group are the pages -/
theorem sorted_eq {a b : List PgV} (hp : a.Perm b) (ha : a.Pairwise (fun x y => x.1 < y.1)) (hb : b.Pairwise (fun x y => x.1 < y.1)) : a = b :=
  List.Perm.eq_of_pairwise (le := fun a b : PgV => a.1 < b.1) (fun a b _ _ h1 h2 => by omega) ha hb hp
theorem log_commit (h : At1 w 0 S P t l d g c mm n v G gs ls) (ht : t ≤ 8000) (lp : List PgV) (hlp : lp.Pairwise (fun x y => x.1 < y.1)) (h1 : 1 ≤ lp.length) (h2 : lp.length ≤ 100) (hr : ∀ x ∈ lp, 0 ≤ x.1 ∧ x.1 < (P : Int)) (hf : ∀ x ∈ lp, x.2.2.1 = 256) (b cp : Nat) (hs : PgsAt w b 0 lp) (hok : ∀ x ∈ lp, PgOk w (logBlock l d g mm v) x) :
    Calls Tryz.prog 48 #[.pointer (some ⟨l, 0, none⟩), .slice (some ⟨b, 0, none⟩) lp.length cp] w fun e w' =>
      (S < usedOf gs + lp.length + 1 ∧ e = .returned (.int .i64 7) ∧ Below w.heap.size w w') ∨
      (usedOf gs + lp.length + 1 ≤ S ∧ e = .returned (.int .i64 0) ∧ ∃ n' v', At1 w' 0 S P (t + 1) l d g c mm n' v' (G + 1) (gs ++ [numsP lp]) (ls ++ commitWs (usedOf gs) G (numsP lp) (lp.map (bytesAt w))) ∧ NewV w v v' ∧ Out (logBlock l d g mm v) w w') := by
  have hl := h.inv.len
  have hm := h.inv.most
  rw [psOf_length] at hl hm
  have h3 := h.lsl
  have h4 := h.nl
  have h5 := h.gr
  have h6 := h.inv.used
  have hnr : ¬ BadRange P lp := fun ⟨x, hx, hb⟩ => by have := hr x hx; omega
  have hnf : ¬ BadForm lp := up_form hlp hf
  refine (commit_any h.mem P hl hm h6 lp b 0 cp hs h1 h2 (fun x hx _ => hok x hx) (by omega) (by omega) (by omega) (Nat.zero_le _)).mono ?_
  rintro e w' (⟨cc, rfl, hc, hb⟩ | ⟨rfl, _, _, hU, s, v', hp, hup, hM, hnv, ho⟩)
  · rcases hc with ⟨_, hx⟩ | ⟨_, _, hx⟩ | ⟨rfl, _, _, hx⟩
    · exact absurd hx hnr
    · exact absurd hx hnf
    · exact .inl ⟨hx, rfl, hb⟩
  · have hse : s = lp := sorted_eq hp hup hlp
    subst hse
    have hns : (numsP s).length = s.length := numsP_length s
    refine .inr ⟨hU, rfl, n + s.length, v', ⟨?_, ?_, by omega, ?_, by omega⟩, hnv, ho⟩
    · rw [usedOf_snoc, plOf_snoc, hns]; exact hM
    · rw [psOf_append]
      refine h.inv.commit (numsP s) (s.map (bytesAt w)) (good_nums h1 h2 hup hnr) (by rw [List.length_map, numsP_length]) (fun x hx => ?_) (by omega) (by omega)
      obtain ⟨q, hq, rfl⟩ := List.mem_map.1 hx
      rw [bytesAt_length]
      exact hf q hq
    · rw [List.length_append, commitWs_length, List.length_map]
      omega
theorem log_check (h : At1 w 0 S P t l d g c mm n v G gs ls) (ht : t ≤ 8000) (hP : P ≤ 100) :
    Calls Tryz.prog 50 #[.pointer (some ⟨l, 0, none⟩)] w fun e w' => e = .returned (.int .i64 0) ∧ ∃ n' v', At1 w' 0 S P (t + 1) l d g c mm n' v' G [] (ls ++ cpWs S P G gs ls) ∧ NewV w v v' ∧ Out (logBlock l d g mm v) w w' := by
  have h0 := h
  have h1 := h.inv.len
  have h2 := h.inv.most
  have h3 := h.lsl
  have h4 := h.nl
  have h5 := h.gr
  have h6 := h.inv.used
  by_cases hu : usedOf gs = 0
  · have hgs := gs_nil hu
    subst hgs
    refine (check_empty (by have := h.mem; rw [usedOf_nil] at this; exact this)).mono ?_
    rintro e w' ⟨rfl, rfl⟩
    refine ⟨rfl, n, v, ?_, NewV.refl _ _, Out.refl _ _⟩
    unfold cpWs
    rw [if_pos hu, List.append_nil]
    exact h0.le (Nat.le_succ t)
  · rw [psOf_length] at h1 h2
    refine (check_any h.mem P h1 h2 (by omega) (by omega) (by omega) (by omega) (Nat.zero_le _) (touchedOf P gs) (touchedOf_up P gs) (touched_iff h.inv) (pageNow (psOf (fresh S P) ls) S gs) (fun p hp => ?_) (Nat.le_trans (touched_len P gs) (by omega))).mono ?_
    · obtain ⟨hpP, hps⟩ := touched_lt hp
      refine ⟨hpP, pageNow_length h.inv p hpP, ?_⟩
      obtain ⟨q, hq⟩ := Option.isSome_iff_exists.1 hps
      have hql := plOf_le gs p q hq
      refine ⟨q, hq, by omega, ?_⟩
      have hpl : placeOf S gs p = q := by unfold placeOf; rw [hq]; rfl
      unfold pageNow
      rw [hpl]
      have hlt : q < (psOf (fresh S P) ls).length := by rw [← hpl]; exact placeOf_lt h.inv p hpP
      rw [List.getElem?_eq_getElem hlt]
      simp [List.getD, List.getElem?_eq_getElem hlt]
    · rintro e w' ⟨rfl, v', hM, hnv, ho⟩
      have ec : cpWs S P G gs ls = homeWs S (pageNow (psOf (fresh S P) ls) S gs) (touchedOf P gs) ++ [(0, headB G 0)] := by
        unfold cpWs; rw [if_neg hu]; rfl
      refine ⟨rfl, 0, v', ⟨?_, ?_, by omega, ?_, by omega⟩, hnv, ho⟩
      · rw [ec]; exact hM
      · have hc := (h.inv.check (by omega)).1
        rw [ec, psOf_append]
        exact hc
      · rw [ec, List.length_append, List.length_append]
        unfold homeWs
        rw [List.length_map]
        have := touched_len P gs
        simp
        omega
end
end Go.Proofs.YthdcjepkehifoaaGreat

/- Commit of package pager, by a contract. -/
namespace Go.Proofs.YthdcjepkehifoaaGreat
open Go.RowKit Go.Maps Go.Sort Go.Shelf
set_option linter.unusedVariables false
set_option maxRecDepth 20000
/-- the numbers and the bytes of the dirty pages -/
def dNs (s : PS) : List Nat := s.dl.map (·.1)
def dXs (s : PS) : List (List UInt8) := s.dl.map (·.2)
/-- a state whose log was emptied; one whose dirty pages were committed -/
def ckS (s : PS) : PS := { s with gs := [], ls := s.ls ++ cpWs s.S s.P s.G s.gs s.ls }
def cmS (s : PS) : PS := { s with G := s.G + 1, gs := s.gs ++ [dNs s], ls := s.ls ++ commitWs (usedOf s.gs) s.G (dNs s) (dXs s), dl := [] }
def fits (s : PS) : Prop := usedOf s.gs + s.dl.length + 1 ≤ s.S
def comOk (s : PS) : Prop := s.dl.length = 0 ∨ s.dl.length + 1 ≤ s.S
instance (s : PS) : Decidable (fits s) := by unfold fits; infer_instance
def commitS (s : PS) : PS := if s.dl.length = 0 then { s with t := s.t + 3 } else if fits s then { cmS s with t := s.t + 3 } else { cmS (ckS s) with t := s.t + 3 }
def fullS (s : PS) : PS := { ckS s with t := s.t + 3 }
/-- what a commit writes -/
def cmB (p : Nat) (m : PM) (k : Nat) : Prop := k = p ∨ k = m.dm ∨ logBlock m.l m.d m.g m.m m.v k
section
variable {w w1 w2 : World} {p : Nat} {m : PM} {s : PS}
/-- the log has changed, but not its number of groups -/
theorem PgMem.relog (h : PgMem w p m s) (ho : Out (logBlock m.l m.d m.g m.m m.v) w w1) {n' t' : Nat} {v' : Value} {gs' : List (List Nat)} {ls' : List (Nat × List UInt8)} (ht : s.t ≤ t') (ha : At1 w1 0 s.S s.P t' m.l m.d m.g m.c m.m n' v' s.G gs' ls') (hp : ∀ q ∈ s.ord, ({ s with gs := gs', ls := ls' } : PS).page q = s.page q) :
    PgMem w1 p { m with n := n', v := v' } { s with gs := gs', ls := ls', t := t' } := by
  have k : ∀ j, j < w.heap.size → ¬ logBlock m.l m.d m.g m.m m.v j → w1.heap[j]? = w.heap[j]? := fun j hj hn => ho.block j hj hn
  refine ⟨(k p (heap_lt h.obj) h.obj_not).trans h.obj, ha, ownsRow_keep h.row (fun j hj => k j (h.row.lt j hj).2 (h.ov_not hj)), h.cmap.keep (k _ h.cmap.lt h.cm_not), h.dmap.keep (k _ h.dmap.lt h.dm_not), fun q hq => (k _ (heap_lt (h.frm q hq)) (h.fr_ne hq).2.1).trans (h.frm q hq), fun q hq => ?_, fun c hc => (h.dby c hc).keep (k _ (h.dby c hc).lt (fun e => h.byt (h.dby c hc) (.inr (.inl e)))), h.inj, h.cd, h.cl, h.dm', h.cnt, Nat.le_trans h.dnt ht, ⟨h.ok.nd, h.ok.olt, h.ok.ol, h.ok.mo1, h.ok.mo2, h.ok.dup, h.ok.dlt, h.ok.dlen, h.ok.hit, h.ok.mit⟩⟩
  have hb := h.fby q hq
  have e : ({ s with gs := gs', ls := ls', t := t' } : PS).page q = s.page q := hp q hq
  rw [e]
  exact hb.keep (k _ hb.lt (fun e => h.byt hb (.inr (.inl e))))
/-- the dirty pages were written to the log, and forgotten -/
theorem PgMem.commit (h : PgMem w p m s) (ho : Out (logBlock m.l m.d m.g m.m m.v) w w1) {n' t' G' : Nat} {v' : Value} {gs' : List (List Nat)} {ls' : List (Nat × List UInt8)} (ht : s.t ≤ t') (ha : At1 w1 0 s.S s.P t' m.l m.d m.g m.c m.m n' v' G' gs' ls') (hp : ∀ q ∈ s.ord, ({ s with gs := gs', ls := ls' } : PS).page q = s.page q)
    (hdm : VMap w2 m.dm 0 (fun _ => none)) (hg : w1.grownBy w2 (some m.dm)) :
    PgMem (w2.setCell ⟨p, 2, none⟩ (.int .i64 (G' : Int))) p { m with n := n', v := v', dn := 0 } { s with G := G', gs := gs', ls := ls', dl := [], t := t' } ∧ Out (cmB p m) w (w2.setCell ⟨p, 2, none⟩ (.int .i64 (G' : Int))) := by
  have o2 : Out (fun k => k = m.dm) w1 w2 := Out.of_grown hg rfl
  have o3 : Out (fun k => k = p) w2 (w2.setCell ⟨p, 2, none⟩ (.int .i64 (G' : Int))) := ⟨rfl, rfl, rfl, by simp [World.setCell], fun j hj hp => heap_setCell_other _ _ _ _ hp⟩
  have k : ∀ j, j < w.heap.size → ¬ logBlock m.l m.d m.g m.m m.v j → j ≠ m.dm → j ≠ p → (w2.setCell ⟨p, 2, none⟩ (.int .i64 (G' : Int))).heap[j]? = w.heap[j]? := fun j hj h1 h2 h3 =>
    (o3.block j (Nat.lt_of_lt_of_le (Nat.lt_of_lt_of_le hj ho.size) o2.size) h3).trans ((o2.block j (Nat.lt_of_lt_of_le hj ho.size) h2).trans (ho.block j hj h1))
  have hO : Out (cmB p m) w (w2.setCell ⟨p, 2, none⟩ (.int .i64 (G' : Int))) := ⟨o3.os.trans (o2.os.trans ho.os), o3.tape.trans (o2.tape.trans ho.tape), o3.output.trans (o2.output.trans ho.output), Nat.le_trans ho.size (Nat.le_trans o2.size o3.size), fun j hj hp => k j hj (fun e => hp (.inr (.inr e))) (fun e => hp (.inr (.inl e))) (fun e => hp (.inl e))⟩
  have p2 : w2.heap[p]? = some (.cells (pgObj m s) 154 (0, 0)) := (o2.block p (Nat.lt_of_lt_of_le (heap_lt h.obj) ho.size) h.p_dm).trans ((ho.block p (heap_lt h.obj) h.obj_not).trans h.obj)
  have dmn : ¬ logBlock m.l m.d m.g m.m v' m.dm := by
    obtain ⟨es, cl, hm⟩ : ∃ es cl, w1.heap[m.dm]? = some (.map es cl) := by
      obtain ⟨es, cl, hm⟩ := h.dmap.isMap
      exact ⟨es, cl, (ho.block _ h.dmap.lt h.dm_not).trans hm⟩
    exact ha.mem.notMap hm h.dm'
  have pn : ¬ logBlock m.l m.d m.g m.m v' p := ha.mem.not ((ho.block p (heap_lt h.obj) h.obj_not).trans h.obj) (by decide)
  refine ⟨⟨?_, ha.keep (fun j hj => (o3.block j (Nat.lt_of_lt_of_le (ha.mem.lts j hj).2 o2.size) (fun e => pn (e ▸ hj))).trans (o2.block j (ha.mem.lts j hj).2 (fun e => dmn (e ▸ hj)))) (Nat.le_refl _), ownsRow_keep h.row (fun j hj => k j (h.row.lt j hj).2 (h.ov_not hj) (fun e => h.ov_dm (e ▸ hj)) (fun e => h.ov_p (e ▸ hj))), h.cmap.keep (k _ h.cmap.lt h.cm_not h.cd (fun e => h.p_cm e.symm)), ?_, fun q hq => (k _ (heap_lt (h.frm q hq)) (h.fr_ne hq).2.1 (h.fr_ne hq).2.2.2.2 (h.fr_ne hq).1).trans (h.frm q hq), fun q hq => ?_, fun c hc => (by cases hc), h.inj, h.cd, h.cl, h.dm', h.cnt, Nat.zero_le _, ⟨h.ok.nd, h.ok.olt, h.ok.ol, h.ok.mo1, h.ok.mo2, List.Pairwise.nil, fun c hc => (by cases hc), by simp, h.ok.hit, h.ok.mit⟩⟩, hO⟩
  · rw [heap_setCell_same w2 p 2 _ _ _ p2]
    rfl
  · exact VMap.congr (hdm.keep (heap_setCell_other _ _ _ _ (fun e => h.p_dm e.symm))) (fun q => by unfold diOf; simp)
  · have hb := h.fby q hq
    have e : ({ s with G := G', gs := gs', ls := ls', dl := [], t := t' } : PS).page q = s.page q := hp q hq
    rw [e]
    exact hb.keep (k _ hb.lt (fun e => h.byt hb (.inr (.inl e))) (fun e => h.byt hb (.inr (.inr (.inr (.inr (.inl e)))))) (fun e => h.byt hb (.inl e)))
/-- pages behind a commit, and behind a checkpoint -/
theorem page_cm (hi : LogInv (psOf (fresh s.S s.P) s.ls) s.S s.G s.gs s.P) (ok : CaOk s) (h0 : 0 < s.dl.length) (hf : fits s) (q : Nat) (hq : q < s.P) : (cmS s).page q = s.now q := by
  have hgood : GoodIx s.P (dNs s) := by
    refine ⟨by simp [dNs]; omega, by simp [dNs]; exact ok.dlen, keys_up ok.dup, fun n hn => ?_⟩
    obtain ⟨c, hc, rfl⟩ := List.mem_map.1 hn
    exact (ok.dlt c hc).1
  have hl : (dXs s).length = (dNs s).length := by simp [dXs, dNs]
  have h1 := hi.commit_page (dNs s) (dXs s) hgood hl (by rw [show (dNs s).length = s.dl.length by simp [dNs]]; exact hf) q hq
  have e : (cmS s).page q = pageNow (psOf (psOf (fresh s.S s.P) s.ls) (commitWs (usedOf s.gs) s.G (dNs s) (dXs s))) s.S (s.gs ++ [dNs s]) q := by
    show pageNow (psOf (fresh s.S s.P) (s.ls ++ commitWs (usedOf s.gs) s.G (dNs s) (dXs s))) s.S (s.gs ++ [dNs s]) q = _
    rw [psOf_append]
  rw [e, h1]
  unfold PS.now
  by_cases hm : q ∈ dNs s
  · rw [if_pos hm]
    obtain ⟨y, hy⟩ := Option.isSome_iff_exists.1 (lookup_some_iff.1 hm)
    rw [hy]
    show (dXs s).getD ((dNs s).idxOf q) [] = y
    have hi := List.idxOf_lt_length_of_mem hm
    have hmem := lookup_mem hy
    obtain ⟨j, hj, ej⟩ := List.mem_iff_getElem.1 hmem
    have hnd : (dNs s).Nodup := (keys_up ok.dup).imp (fun h => by omega)
    have hij : (dNs s).idxOf q = j := by
      have h2 : (dNs s)[j]'(by simp [dNs]; exact hj) = q := by simp [dNs, ej]
      rw [← h2]
      exact hnd.idxOf_getElem j (by simp [dNs]; exact hj)
    rw [hij]
    simp [dXs, List.getD, hj, ej]
  · rw [if_neg hm]
    cases hy : s.dl.lookup q with
    | some y => exact absurd (lookup_some_iff.2 (by rw [hy]; rfl)) hm
    | none => rfl
theorem page_ck (hi : LogInv (psOf (fresh s.S s.P) s.ls) s.S s.G s.gs s.P) (hG : s.G < 2 ^ 63) (q : Nat) (hq : q < s.P) : (ckS s).page q = s.page q := by
  unfold ckS cpWs PS.page
  by_cases hu : usedOf s.gs = 0
  · rw [if_pos hu, List.append_nil, gs_nil hu]
  · rw [if_neg hu]
    show pageNow (psOf (fresh s.S s.P) (s.ls ++ checkWs (psOf (fresh s.S s.P) s.ls) s.S s.G s.gs s.P)) s.S [] q = _
    rw [psOf_append]
    exact (hi.check hG).2 q hq
end
end Go.Proofs.YthdcjepkehifoaaGreat

/- Commit of package pager, walked. -/
namespace Go.Proofs.YthdcjepkehifoaaGreat
open Go.RowKit Go.Maps Go.Sort Go.Shelf
set_option linter.unusedVariables false
set_option maxRecDepth 20000
section
variable {w : World} {p : Nat} {m : PM} {s : PS}
theorem pgsOf_len (m : PM) (l : List (Nat × List UInt8)) : (pgsOf m l).length = l.length := by simp [pgsOf]
theorem pgsOf_up (m : PM) {l : List (Nat × List UInt8)} (h : l.Pairwise (fun a b => a.1 < b.1)) : (pgsOf m l).Pairwise (fun x y => x.1 < y.1) := by
  unfold pgsOf
  rw [List.pairwise_map]
  exact h.imp (fun h => by show ((_ : Nat) : Int) < ((_ : Nat) : Int); omega)
theorem pgsOf_nums (m : PM) (l : List (Nat × List UInt8)) : numsP (pgsOf m l) = l.map (·.1) := by
  unfold numsP pgsOf
  rw [List.map_map]
  apply List.map_congr_left
  intro c _
  simp [pgOf]
theorem PgMem.pg (h : PgMem w p m s) {c : Nat × List UInt8} (hc : c ∈ s.dl) : bytesAt w (pgOf m c) = c.2 ∧ PgOk w (logBlock m.l m.d m.g m.m m.v) (pgOf m c) := by
  have hb := h.dby c hc
  have hl := (h.ok.dlt c hc).2
  have hn : ¬ logBlock m.l m.d m.g m.m m.v (m.db c.1) := fun e => h.byt hb (.inr (.inl e))
  have hlt := hb.lt
  obtain ⟨cs, fz, _, hbytes⟩ := hb
  have e1 : bytesAt w (pgOf m c) = c.2 := by
    have : pgOf m c = ((c.1 : Int), some ⟨m.db c.1, 0, none⟩, c.2.length, m.dc c.1) := by rw [hl]; rfl
    rw [this]
    exact bytesAt_eq hbytes
  exact ⟨e1, m.db c.1, 0, rfl, rfl, by rw [e1]; exact hbytes, hn, hlt⟩
theorem PgMem.pgs_bytes (h : PgMem w p m s) : (pgsOf m s.dl).map (bytesAt w) = dXs s := by
  unfold pgsOf dXs
  rw [List.map_map]
  apply List.map_congr_left
  intro c hc
  exact (h.pg hc).1
theorem PgMem.pgs_ok (h : PgMem w p m s) : ∀ x ∈ pgsOf m s.dl, PgOk w (logBlock m.l m.d m.g m.m m.v) x := fun x hx => by
  obtain ⟨c, hc, rfl⟩ := List.mem_map.1 hx
  exact (h.pg hc).2
theorem PgMem.pgs_in (h : PgMem w p m s) : ∀ x ∈ pgsOf m s.dl, 0 ≤ x.1 ∧ x.1 < (s.P : Int) := fun x hx => by
  obtain ⟨c, hc, rfl⟩ := List.mem_map.1 hx
  have := (h.ok.dlt c hc).1
  show 0 ≤ ((c.1 : Nat) : Int) ∧ ((c.1 : Nat) : Int) < (s.P : Int)
  omega
theorem pgsOf_256 (m : PM) (l : List (Nat × List UInt8)) : ∀ x ∈ pgsOf m l, x.2.2.1 = 256 := fun x hx => by
  obtain ⟨c, hc, rfl⟩ := List.mem_map.1 hx
  rfl
/-- the log of a cache takes its dirty pages, or has no room -/
theorem pg_commit (h : PgMem w p m s) (ht : s.t ≤ 8000) (h0 : 0 < s.dl.length) (b cp : Nat) (hs : PgsAt w b 0 (pgsOf m s.dl)) :
    Calls Tryz.prog 48 #[.pointer (some ⟨m.l, 0, none⟩), .slice (some ⟨b, 0, none⟩) s.dl.length cp] w fun e w' =>
      (¬ fits s ∧ e = .returned (.int .i64 7) ∧ Below w.heap.size w w') ∨
      (fits s ∧ e = .returned (.int .i64 0) ∧ ∃ n' v', At1 w' 0 s.S s.P (s.t + 1) m.l m.d m.g m.c m.m n' v' (s.G + 1) (s.gs ++ [dNs s]) (s.ls ++ commitWs (usedOf s.gs) s.G (dNs s) (dXs s)) ∧ NewV w m.v v' ∧ Out (logBlock m.l m.d m.g m.m m.v) w w') := by
  have hl := pgsOf_len m s.dl
  have hc := log_commit h.log ht (pgsOf m s.dl) (pgsOf_up m h.ok.dup) (by omega) (by rw [hl]; exact h.ok.dlen) h.pgs_in (pgsOf_256 m s.dl) b cp hs h.pgs_ok
  rw [hl, pgsOf_nums, h.pgs_bytes] at hc
  refine hc.mono ?_
  rintro e w' (⟨h1, h2, h3⟩ | h1)
  · exact .inl ⟨by unfold fits; omega, h2, h3⟩
  · exact .inr h1
end
/-- what Commit answers -/
def ComPost (w : World) (p : Nat) (m : PM) (s : PS) (e : Ending) (w' : World) : Prop :=
  (comOk s ∧ e = .returned (.int .i64 0) ∧ ∃ m', m'.l = m.l ∧ PgMem w' p m' (commitS s) ∧ Out (cmB p m) w w' ∧ Fresh w p m s m' (commitS s)) ∨
  (¬ comOk s ∧ e = .returned (.int .i64 7) ∧ ∃ m', m'.l = m.l ∧ PgMem w' p m' (fullS s) ∧ Out (cmB p m) w w' ∧ Fresh w p m s m' (fullS s))
theorem fresh_log {w : World} {p : Nat} {m : PM} {s s' : PS} {n' dn' : Nat} {v' : Value} (hv : NewV w m.v v') (ho : s'.ord = s.ord) (hd : ∀ c ∈ s'.dl, c ∈ s.dl) : Fresh w p m s { m with n := n', v := v', dn := dn' } s' := by
  rintro k ((e | e | e | e | e | ⟨x, hx, e⟩) | (⟨x, hx, e⟩ | ⟨c, hc, e⟩))
  · exact .inl (.inl (.inl e))
  · rcases e with e | e | e | e | e
    · exact .inl (.inl (.inr (.inl (.inl e))))
    · exact .inl (.inl (.inr (.inl (.inr (.inl e)))))
    · exact .inl (.inl (.inr (.inl (.inr (.inr (.inl e))))))
    · exact .inl (.inl (.inr (.inl (.inr (.inr (.inr (.inl e)))))))
    · exact (hv k e).imp (fun e => .inl (.inr (.inl (.inr (.inr (.inr (.inr e))))))) id
  · exact .inl (.inl (.inr (.inr (.inl e))))
  · exact .inl (.inl (.inr (.inr (.inr (.inl e)))))
  · exact .inl (.inl (.inr (.inr (.inr (.inr (.inl e))))))
  · exact .inl (.inl (.inr (.inr (.inr (.inr (.inr ⟨x, ho ▸ hx, e⟩))))))
  · exact .inl (.inr (.inl ⟨x, ho ▸ hx, e⟩))
  · exact .inl (.inr (.inr ⟨c, hd c hc, e⟩))
set_option maxHeartbeats 4000000 in
theorem com_none {w : World} {p : Nat} {m : PM} {s : PS} (h : PgMem w p m s) (ht : s.t ≤ 7000) (h0 : s.dl.length = 0) :
    Calls Tryz.prog 68 #[.pointer (some ⟨p, 0, none⟩)] w (ComPost w p m s) := by
  have HF := hid (freshen_any h (by omega))
  have H := hid h
  have hgr := h.log.gr
  have hdn := h.dnt
  clear h
  go_enter Tryz.func68, Tryz.ntmps68
  go_wp2_with fail
  refine HF.out.mono ?_
  rintro _ w1 ⟨rfl, b1⟩
  have h1 := H.out.below b1
  have HG := hid (group_any h1 (by omega))
  rw [pgsOf_len, h0] at HG
  have B1 := hid b1
  clear h1 b1
  go_wp2_with fail
  refine HG.out.mono ?_
  rintro _ w2 ⟨v2, rfl, hr2, b2⟩
  obtain ⟨a2, k2, hv2⟩ := own_slc hr2
  subst hv2
  have bw2 := Below.on' B1.out b2
  have h2 := H.out.below bw2
  have c0 := h2.c0
  have c2 := h2.c2
  have z2 := h2.z 2
  have c5 := h2.c5
  obtain ⟨w3, hrun, hdm, hg⟩ := h2.dmap.clear Tryz.underlying152 0
  have hfin := h2.commit (w1 := w2) (Out.refl _ _) (t' := s.t + 3) (by omega) (h2.log.le (by omega)) (fun q hq => rfl) hdm hg
  have c30 : w3.cell? ⟨p, 0, none⟩ = some (.pointer (some ⟨m.l, 0, none⟩)) := by
    have p3 : w3.heap[p]? = w2.heap[p]? := hg.block p (heap_lt h2.obj) (fun e => h2.p_dm (Option.some.inj e))
    exact (World.cell?_of_block (a := ⟨p, 0, none⟩) p3).trans c0
  have c32 : w3.cell? ⟨p, 2, none⟩ = some (.int .i64 (s.G : Int)) := by
    have p3 : w3.heap[p]? = w2.heap[p]? := hg.block p (heap_lt h2.obj) (fun e => h2.p_dm (Option.some.inj e))
    exact (World.cell?_of_block (a := ⟨p, 2, none⟩) p3).trans c2
  have z32 : w3.frozen? ⟨p, 2, none⟩ = false := by
    have p3 : w3.heap[p]? = w2.heap[p]? := hg.block p (heap_lt h2.obj) (fun e => h2.p_dm (Option.some.inj e))
    exact frozen_of_row _ _ 2 _ _ (p3.trans h2.obj)
  have l3 : LogMem w3 0 m.l m.d m.g m.c m.m m.n m.v s.S s.G (usedOf s.gs) (plOf s.gs) (psOf (fresh s.S s.P) s.ls) (chOf (fresh s.S s.P) s.ls) := h2.log.mem.keep (fun j hj => hg.block j (h2.log.mem.lts j hj).2 (fun e => h2.dm_not ((Option.some.inj e) ▸ hj)))
  have HGr := hid (groups_any l3 (by omega))
  have Hfin := hid hfin
  have BW2 := hid bw2
  have hdl : s.dl = [] := List.eq_nil_of_length_eq_zero h0
  have Hcs : Hid (commitS s = { s with G := s.G, gs := s.gs, ls := s.ls, dl := [], t := s.t + 3 }) := by show _ = _; unfold commitS; rw [if_pos h0, ← hdl]
  clear h2 hdm hg hfin l3 b2 hr2 bw2
  go_wp2_with (first
    | (go_at_call 48; refine (commit_none _ _ _ _).mono ?_; rintro _ w' ⟨rfl, e9⟩; subst w')
    | (go_at_call 23; refine HGr.out.mono ?_; rintro _ w' ⟨rfl, e9⟩; subst w'))
  go_ret
  refine .inl ⟨.inl h0, rfl, { m with n := m.n, v := m.v, dn := 0 }, rfl, ?_, ?_, ?_⟩
  · rw [Hcs.out]; exact Hfin.out.1
  · exact (Out.of_below BW2.out).trans Hfin.out.2 (fun _ _ x => x)
  · rw [Hcs.out]; exact fresh_log (NewV.refl _ _) rfl (fun c hc => by cases hc)
end Go.Proofs.YthdcjepkehifoaaGreat

/- Commit of package pager, with dirty pages. -/
namespace Go.Proofs.YthdcjepkehifoaaGreat
open Go.RowKit Go.Maps Go.Sort Go.Shelf
set_option linter.unusedVariables false
set_option maxRecDepth 20000
theorem PgMem.bump {w : World} {p : Nat} {m : PM} {s : PS} (h : PgMem w p m s) {t' : Nat} (ht : s.t ≤ t') : PgMem w p m { s with t := t' } :=
  ⟨h.obj, h.log.le ht, h.row, h.cmap, h.dmap, h.frm, h.fby, h.dby, h.inj, h.cd, h.cl, h.dm', h.cnt, Nat.le_trans h.dnt ht, ⟨h.ok.nd, h.ok.olt, h.ok.ol, h.ok.mo1, h.ok.mo2, h.ok.dup, h.ok.dlt, h.ok.dlen, h.ok.hit, h.ok.mit⟩⟩
/-- what is so of a cache between calls -/
structure Ext (s : PS) : Prop where
  full : s.ord.length ≤ s.mo
  apart : ∀ c ∈ s.dl, c.1 ∉ s.ord
theorem now_page {s : PS} (he : Ext s) {q : Nat} (hq : q ∈ s.ord) : s.now q = s.page q := by
  unfold PS.now
  cases hl : s.dl.lookup q with
  | some y => exact absurd hq (he.apart _ (lookup_mem hl))
  | none => rfl
set_option maxHeartbeats 4000000 in
theorem com_fits {w : World} {p : Nat} {m : PM} {s : PS} (h : PgMem w p m s) (he : Ext s) (ht : s.t ≤ 7000) (h0 : 0 < s.dl.length) (hf : fits s) :
    Calls Tryz.prog 68 #[.pointer (some ⟨p, 0, none⟩)] w (ComPost w p m s) := by
  have HF := hid (freshen_any h (by omega))
  have H := hid h
  have hgr := h.log.gr
  have hdn := h.dnt
  have HE := hid he
  have Hfit := hid hf
  clear h he hf
  go_enter Tryz.func68, Tryz.ntmps68
  go_wp2_with fail
  refine HF.out.mono ?_
  rintro _ w1 ⟨rfl, b1⟩
  have h1 := H.out.below b1
  have HG := hid (group_any h1 (by omega))
  rw [pgsOf_len] at HG
  have B1 := hid b1
  clear h1 b1
  go_wp2_with fail
  refine HG.out.mono ?_
  rintro _ w2 ⟨v2, rfl, hr2, b2⟩
  have bw2 := Below.on' B1.out b2
  have h2 := H.out.below bw2
  obtain ⟨gp, kp, hv2⟩ : ∃ gp kp, v2 = .slice (some ⟨gp, 0, none⟩) s.dl.length kp := by
    rcases hr2.2 with ⟨_, e⟩ | ⟨gp, kp, cur, e, _⟩
    · omega
    · exact ⟨gp, kp, e⟩
  subst hv2
  have hpgs : PgsAt w2 gp 0 (pgsOf m s.dl) := by
    have hr3 := hr2
    rw [← pgsOf_len m s.dl] at hr3
    exact pgs_of_row hr3
  have HC := hid (pg_commit h2 (by omega) h0 gp kp hpgs)
  have c0 := h2.c0
  have H2 := hid h2
  have BW2 := hid bw2
  clear h2 hpgs hr2 bw2 b2
  go_wp2_with fail
  refine HC.out.mono ?_
  rintro _ w3 (⟨hx, _⟩ | ⟨_, rfl, n3, v3, ha3, hnv3, ho3⟩)
  · exact absurd Hfit.out hx
  have hdm3 := H2.out.dmap.keep (ho3.block _ H2.out.dmap.lt H2.out.dm_not)
  obtain ⟨w4, hrun, hdm, hg⟩ := hdm3.clear Tryz.underlying152 0
  have hpage : ∀ q ∈ s.ord, ({ s with gs := s.gs ++ [dNs s], ls := s.ls ++ commitWs (usedOf s.gs) s.G (dNs s) (dXs s) } : PS).page q = s.page q := fun q hq => by
    have e1 := page_cm H2.out.log.inv H2.out.ok h0 Hfit.out q (H2.out.ok.olt q hq)
    rw [now_page HE.out hq] at e1
    exact e1
  have hfin := H2.out.commit ho3 (t' := s.t + 3) (by omega) (ha3.le (by omega)) hpage hdm hg
  have p3 : w3.heap[p]? = some (.cells (pgObj m s) 154 (0, 0)) := (ho3.block p (heap_lt H2.out.obj) H2.out.obj_not).trans H2.out.obj
  have p4 : w4.heap[p]? = some (.cells (pgObj m s) 154 (0, 0)) := (hg.block p (heap_lt p3) (fun e => H2.out.p_dm (Option.some.inj e))).trans p3
  have c35 : w3.cell? ⟨p, 5, none⟩ = some (.map (some m.dm)) := cell_of_row _ _ 5 _ _ _ p3
  have c40 : w4.cell? ⟨p, 0, none⟩ = some (.pointer (some ⟨m.l, 0, none⟩)) := cell_of_row _ _ 0 _ _ _ p4
  have c42 : w4.cell? ⟨p, 2, none⟩ = some (.int .i64 (s.G : Int)) := cell_of_row _ _ 2 _ _ _ p4
  have z42 : w4.frozen? ⟨p, 2, none⟩ = false := frozen_of_row _ _ 2 _ _ p4
  have dmn : ¬ logBlock m.l m.d m.g m.m v3 m.dm := by
    obtain ⟨es, cl, hm⟩ := hdm3.isMap
    exact ha3.mem.notMap hm H2.out.dm'
  have l4 := ha3.mem.keep (w' := w4) (fun j hj => hg.block j (ha3.mem.lts j hj).2 (fun e => dmn ((Option.some.inj e) ▸ hj)))
  have HGr := hid (groups_any l4 (by omega))
  have Hfin := hid hfin
  have Hnv := hid hnv3
  have Hcs : Hid (commitS s = { s with G := s.G + 1, gs := s.gs ++ [dNs s], ls := s.ls ++ commitWs (usedOf s.gs) s.G (dNs s) (dXs s), dl := [], t := s.t + 3 }) := by show _ = _; unfold commitS; rw [if_neg (by omega), if_pos Hfit.out]; rfl
  have hok : Hid (comOk s) := by right; have := Hfit.out; unfold fits at this; omega
  clear hdm3 hdm hg hfin l4 p3 p4 ha3 ho3 hnv3 dmn hpage c0
  go_wp2_with (go_at_call 23; refine HGr.out.mono ?_; rintro _ w' ⟨rfl, e9⟩; subst w')
  go_ret
  refine .inl ⟨hok.out, rfl, { m with n := n3, v := v3, dn := 0 }, rfl, ?_, ?_, ?_⟩
  · rw [Hcs.out]; exact Hfin.out.1
  · exact (Out.of_below BW2.out).trans Hfin.out.2 (fun _ _ x => x)
  · rw [Hcs.out]
    have hf2 : Fresh w2 p m s { m with n := n3, v := v3, dn := 0 } { s with G := s.G + 1, gs := s.gs ++ [dNs s], ls := s.ls ++ commitWs (usedOf s.gs) s.G (dNs s) (dXs s), dl := [], t := s.t + 3 } := fresh_log Hnv.out rfl (fun c hc => by cases hc)
    exact fun k hk => (hf2 k hk).imp id (fun x => Nat.le_trans BW2.out.size x)
end Go.Proofs.YthdcjepkehifoaaGreat

/- Commit of package pager, where the log has no room. -/
namespace Go.Proofs.YthdcjepkehifoaaGreat
open Go.RowKit Go.Maps Go.Sort Go.Shelf
set_option linter.unusedVariables false
set_option maxRecDepth 20000
set_option maxHeartbeats 4000000 in
theorem com_ck {w : World} {p : Nat} {m : PM} {s : PS} (h : PgMem w p m s) (he : Ext s) (ht : s.t ≤ 7000) (h0 : 0 < s.dl.length) (hf : ¬ fits s) (hP : s.P ≤ 100) :
    Calls Tryz.prog 68 #[.pointer (some ⟨p, 0, none⟩)] w (ComPost w p m s) := by
  have HF := hid (freshen_any h (by omega))
  have H := hid h
  have hgr := h.log.gr
  have hdn := h.dnt
  have HE := hid he
  have Hfit := hid hf
  clear h he hf
  go_enter Tryz.func68, Tryz.ntmps68
  go_wp2_with fail
  refine HF.out.mono ?_
  rintro _ w1 ⟨rfl, b1⟩
  have h1 := H.out.below b1
  have HG := hid (group_any h1 (by omega))
  rw [pgsOf_len] at HG
  have B1 := hid b1
  clear h1 b1
  go_wp2_with fail
  refine HG.out.mono ?_
  rintro _ w2 ⟨v2, rfl, hr2, b2⟩
  have bw2 := Below.on' B1.out b2
  have h2 := H.out.below bw2
  obtain ⟨gp, kp, hv2⟩ : ∃ gp kp, v2 = .slice (some ⟨gp, 0, none⟩) s.dl.length kp := by
    rcases hr2.2 with ⟨_, e⟩ | ⟨gp, kp, cur, e, _⟩
    · omega
    · exact ⟨gp, kp, e⟩
  subst hv2
  have hpgs : PgsAt w2 gp 0 (pgsOf m s.dl) := by
    have hr3 := hr2
    rw [← pgsOf_len m s.dl] at hr3
    exact pgs_of_row hr3
  have HC := hid (pg_commit h2 (by omega) h0 gp kp hpgs)
  have c0 := h2.c0
  have H2 := hid h2
  have BW2 := hid bw2
  have Hpgs := hid hpgs
  have hgpt := hid (row_ty hr2 (k := gp) rfl)
  clear h2 hpgs hr2 bw2 b2
  go_wp2_with fail
  refine HC.out.mono ?_
  rintro _ w3 (⟨_, rfl, b3⟩ | ⟨hx, _⟩)
  rotate_left
  · exact absurd hx Hfit.out
  have h3 := H2.out.below b3
  have c30 := h3.c0
  have HK := hid (log_check h3.log (by omega) hP)
  have B3 := hid b3
  have H3 := hid h3
  clear h3 b3 c0
  go_wp2_with fail
  refine HK.out.mono ?_
  rintro _ w4 ⟨rfl, n4, v4, ha4, hnv4, ho4⟩
  have hpk : ∀ q ∈ s.ord, ({ s with gs := [], ls := s.ls ++ cpWs s.S s.P s.G s.gs s.ls } : PS).page q = s.page q := fun q hq => page_ck H3.out.log.inv (by have := H3.out.log.gr; omega) q (H3.out.ok.olt q hq)
  have h4 := H3.out.relog ho4 (t' := s.t + 1) (by omega) ha4 hpk
  obtain ⟨m4, hm4⟩ : ∃ m4 : PM, m4 = { m with n := n4, v := v4 } := ⟨_, rfl⟩
  obtain ⟨s4, hs4⟩ : ∃ s4 : PS, s4 = { s with gs := [], ls := s.ls ++ cpWs s.S s.P s.G s.gs s.ls, t := s.t + 1 } := ⟨_, rfl⟩
  rw [← hm4, ← hs4] at h4
  have hdl4 : s4.dl = s.dl := by rw [hs4]
  have ho24 : Out (logBlock m.l m.d m.g m.m m.v) w2 w4 := (Out.of_below B3.out).trans ho4 (fun _ _ x => x)
  have hgp2 : w4.heap[gp]? = w2.heap[gp]? := by
    obtain ⟨cs, hc⟩ := hgpt.out
    exact ho24.block gp (heap_lt hc) (H2.out.log.mem.not hc (by decide))
  have hpgs4 : PgsAt w4 gp 0 (pgsOf m4 s4.dl) := by
    rw [hdl4, show pgsOf m4 s.dl = pgsOf m s.dl by rw [hm4]; rfl]
    exact Hpgs.out.keep hgp2
  have HC2 := hid (pg_commit h4 (by rw [hs4]; show s.t + 1 ≤ _; omega) (by rw [hdl4]; exact h0) gp kp hpgs4)
  rw [hdl4, show m4.l = m.l by rw [hm4]] at HC2
  have c40 : w4.cell? ⟨p, 0, none⟩ = some (.pointer (some ⟨m.l, 0, none⟩)) := by have h := h4.c0; rw [show m4.l = m.l by rw [hm4]] at h; exact h
  have H4 := hid h4
  have Hm4 := hid hm4
  have Hs4 := hid hs4
  have Hnv4 := hid hnv4
  have O24 := hid ho24
  have HA4 := hid ha4
  have hdm4e : m4.dm = m.dm := by rw [hm4]
  have HE4 : Hid (Ext s4) := by show Ext _; rw [hs4]; exact ⟨HE.out.full, HE.out.apart⟩
  have hfk : (fits s4 ↔ comOk s) := by
    rw [hs4]
    unfold fits comOk
    show usedOf [] + s.dl.length + 1 ≤ s.S ↔ _
    rw [usedOf_nil]
    omega
  have Hfk := hid hfk
  have hO4 : ∀ (v5 : Value) (w' : World), Out (logBlock m4.l m4.d m4.g m4.m m4.v) w4 w' → Out (logBlock m.l m.d m.g m.m m.v) w2 w' := fun v5 w' ho => ho24.trans ho (fun j hj hx => by
    rw [hm4] at hx
    rcases hx with e | e | e | e | e
    · exact .inl e
    · exact .inr (.inl e)
    · exact .inr (.inr (.inl e))
    · exact .inr (.inr (.inr (.inl e)))
    · rcases hnv4 j e with e | e
      · exact .inr (.inr (.inr (.inr e)))
      · exfalso
        have := B3.out.size
        omega)
  have HO4 := hid hO4
  clear h4 hm4 hs4 hpgs4 hgp2 ho24 ha4 hnv4 ho4 hpk hfk hO4 c30 hdl4
  go_wp2_with fail
  refine HC2.out.mono ?_
  rintro _ w5 (⟨hnf, rfl, b5⟩ | ⟨hfit, rfl, n5, v5, ha5, hnv5, ho5⟩)
  · have Hnf := hid hnf
    have B5 := hid b5
    clear hnf b5
    go_wp2_with fail
    go_ret
    have hs : fullS s = { s4 with t := s4.t + 2 } := by rw [Hs4.out]; rfl
    refine .inr ⟨fun hc => Hnf.out (Hfk.out.2 hc), rfl, m4, by rw [Hm4.out], ?_, ?_, ?_⟩
    · rw [hs]; exact (H4.out.below B5.out).bump (by omega)
    · exact ((Out.of_below BW2.out).trans (O24.out.imp (Q := cmB p m) (fun _ _ e => .inr (.inr e))) (fun _ _ x => x)).on B5.out
    · rw [hs, Hm4.out]
      have hf2 : Fresh w3 p m s { m with n := n4, v := v4, dn := m.dn } { s4 with t := s4.t + 2 } := fresh_log Hnv4.out (by rw [Hs4.out]) (fun c hc => by rw [Hs4.out] at hc; exact hc)
      exact fun k hk => (hf2 k hk).imp id (fun x => Nat.le_trans BW2.out.size (Nat.le_trans B3.out.size x))
  · have hle : m.l = m4.l := by rw [Hm4.out]
    rw [hle] at ho5 ha5
    have hdm5 := H4.out.dmap.keep (ho5.block _ H4.out.dmap.lt H4.out.dm_not)
    obtain ⟨w6, hrun, hdm, hg⟩ := hdm5.clear Tryz.underlying152 0
    have hdl4 : s4.dl = s.dl := by rw [Hs4.out]
    have hpage : ∀ q ∈ s4.ord, ({ s4 with gs := s4.gs ++ [dNs s4], ls := s4.ls ++ commitWs (usedOf s4.gs) s4.G (dNs s4) (dXs s4) } : PS).page q = s4.page q := fun q hq => by
      have e1 := page_cm H4.out.log.inv H4.out.ok (by rw [hdl4]; exact h0) hfit q (H4.out.ok.olt q hq)
      rw [now_page HE4.out hq] at e1
      exact e1
    have hfin := H4.out.commit ho5 (t' := s4.t + 2) (by omega) (ha5.le (by omega)) hpage hdm hg
    have p5 : w5.heap[p]? = some (.cells (pgObj m4 s4) 154 (0, 0)) := (ho5.block p (heap_lt H4.out.obj) H4.out.obj_not).trans H4.out.obj
    have p6 : w6.heap[p]? = some (.cells (pgObj m4 s4) 154 (0, 0)) := (hg.block p (heap_lt p5) (fun e => H4.out.p_dm (Option.some.inj e))).trans p5
    have c55 : w5.cell? ⟨p, 5, none⟩ = some (.map (some m.dm)) := by rw [← hdm4e]; exact cell_of_row _ _ 5 _ _ _ p5
    have c60 : w6.cell? ⟨p, 0, none⟩ = some (.pointer (some ⟨m.l, 0, none⟩)) := by rw [show m.l = m4.l by rw [Hm4.out]]; exact cell_of_row _ _ 0 _ _ _ p6
    have c62 : w6.cell? ⟨p, 2, none⟩ = some (.int .i64 (s4.G : Int)) := cell_of_row _ _ 2 _ _ _ p6
    have z62 : w6.frozen? ⟨p, 2, none⟩ = false := frozen_of_row _ _ 2 _ _ p6
    have dmn : ¬ logBlock m4.l m4.d m4.g m4.m v5 m4.dm := by
      obtain ⟨es, cl, hm⟩ := hdm5.isMap
      exact ha5.mem.notMap hm H4.out.dm'
    have l6 := ha5.mem.keep (w' := w6) (fun j hj => hg.block j (ha5.mem.lts j hj).2 (fun e => dmn ((Option.some.inj e) ▸ hj)))
    have hG4 : s4.G = s.G := by rw [Hs4.out]
    have HGr := hid (groups_any l6 (by rw [hG4]; omega))
    rw [show m4.l = m.l by rw [Hm4.out]] at HGr
    rw [hdm4e] at hrun
    have Hfin := hid hfin
    have Hnv5 := hid hnv5
    have O25 := hid (HO4.out v5 w5 ho5)
    have hcs : commitS s = { s4 with G := s4.G + 1, gs := s4.gs ++ [dNs s4], ls := s4.ls ++ commitWs (usedOf s4.gs) s4.G (dNs s4) (dXs s4), dl := [], t := s4.t + 2 } := by
      unfold commitS
      rw [if_neg (by omega), if_neg Hfit.out, Hs4.out]
      rfl
    have Hcs := hid hcs
    have Hok : Hid (comOk s) := Hfk.out.1 hfit
    have hsz5 : w4.heap.size ≤ w5.heap.size := ho5.size
    have hsz4 : w2.heap.size ≤ w4.heap.size := O24.out.size
    have hsz3 : w2.heap.size ≤ w3.heap.size := B3.out.size
    have hO6 : Out (cmB p m) w2 (w6.setCell ⟨p, 2, none⟩ (.int .i64 ((s4.G + 1 : Nat) : Int))) := by
      have hx := hfin.2
      refine ⟨hx.os.trans O24.out.os, hx.tape.trans O24.out.tape, hx.output.trans O24.out.output, Nat.le_trans O24.out.size hx.size, fun j hj hp => ?_⟩
      have h1 : ¬ logBlock m.l m.d m.g m.m m.v j := fun e => hp (.inr (.inr e))
      rw [hx.block j (Nat.lt_of_lt_of_le hj O24.out.size) (by
        rintro (e | e | e)
        · exact hp (.inl e)
        · exact hp (.inr (.inl (by rw [← hdm4e]; exact e)))
        · rw [Hm4.out] at e
          rcases e with e | e | e | e | e
          · exact h1 (.inl e)
          · exact h1 (.inr (.inl e))
          · exact h1 (.inr (.inr (.inl e)))
          · exact h1 (.inr (.inr (.inr (.inl e))))
          · rcases Hnv4.out j e with e | e
            · exact h1 (.inr (.inr (.inr (.inr e))))
            · omega)]
      exact O24.out.block j hj h1
    have HO6 := hid hO6
    clear hdm5 hdm hg hfin l6 p5 p6 ha5 ho5 hnv5 dmn hpage hcs hO6 hfit hle hG4
    go_wp2_with (go_at_call 23; refine HGr.out.mono ?_; rintro _ w' ⟨rfl, e9⟩; subst w')
    go_ret
    refine .inl ⟨Hok.out, rfl, { m4 with n := n5, v := v5, dn := 0 }, by show m4.l = m.l; rw [Hm4.out], ?_, ?_, ?_⟩
    · rw [Hcs.out]; exact Hfin.out.1
    · exact (Out.of_below BW2.out).trans HO6.out (fun _ _ x => x)
    · rw [Hcs.out]
      have hf2 : Fresh w4 p m4 s4 { m4 with n := n5, v := v5, dn := 0 } { s4 with G := s4.G + 1, gs := s4.gs ++ [dNs s4], ls := s4.ls ++ commitWs (usedOf s4.gs) s4.G (dNs s4) (dXs s4), dl := [], t := s4.t + 2 } := fresh_log Hnv5.out rfl (fun c hc => by cases hc)
      have hf1 : Fresh w3 p m s { m with n := n4, v := v4, dn := m.dn } s4 := fresh_log Hnv4.out (by rw [Hs4.out]) (fun c hc => by rw [Hs4.out] at hc; exact hc)
      have hm4e : ({ m with n := n4, v := v4, dn := m.dn } : PM) = m4 := by rw [Hm4.out]
      rw [hm4e] at hf1
      intro k hk
      have := BW2.out.size
      rcases hf2 k hk with hk | hk
      · rcases hf1 k hk with hk | hk
        · exact .inl hk
        · right; omega
      · right; omega
theorem com_any {w : World} {p : Nat} {m : PM} {s : PS} (h : PgMem w p m s) (he : Ext s) (ht : s.t ≤ 7000) (hP : s.P ≤ 100) :
    Calls Tryz.prog 68 #[.pointer (some ⟨p, 0, none⟩)] w (ComPost w p m s) := by
  by_cases h0 : s.dl.length = 0
  · exact com_none h ht h0
  · by_cases hf : fits s
    · exact com_fits h he ht (by omega) hf
    · exact com_ck h he ht (by omega) hf hP
end Go.Proofs.YthdcjepkehifoaaGreat
