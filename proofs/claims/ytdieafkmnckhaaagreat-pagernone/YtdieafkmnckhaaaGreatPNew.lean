/- New, Abort, Cached, Hits, Misses and Log of package pager, by contracts. -/
import Derived.Test.YtdieafkmnckhaaaGreatPCommit4
namespace Go.Proofs.YtdieafkmnckhaaaGreat
open Go.RowKit Go.Maps Go.Sort Go.Shelf
set_option linter.unusedVariables false
set_option maxRecDepth 20000
/-- a new cache -/
def newS (S P t G : Nat) (gs : List (List Nat)) (ls : List (Nat × List UInt8)) (mo : Nat) : PS := ⟨S, P, t, G, gs, ls, mo, [], fun _ => false, [], 0, 0⟩
theorem newS_ok (S P t G : Nat) (gs : List (List Nat)) (ls : List (Nat × List UInt8)) (mo : Nat) (h1 : 1 ≤ mo) (h2 : mo ≤ 64) : CaOk (newS S P t G gs ls mo) :=
  ⟨List.nodup_nil, fun q hq => (by cases hq), by simp [newS], h1, h2, List.Pairwise.nil, fun c hc => (by cases hc), by simp [newS], Nat.zero_le _, Nat.zero_le _⟩
theorem newS_ext (S P t G : Nat) (gs : List (List Nat)) (ls : List (Nat × List UInt8)) (mo : Nat) : Ext (newS S P t G gs ls mo) := ⟨by simp [newS], fun c hc => by cases hc⟩
def NewPost (w : World) (S P t l d g c mm n : Nat) (v : Value) (G : Nat) (gs : List (List Nat)) (ls : List (Nat × List UInt8)) (mo : Nat) (e : Ending) (w' : World) : Prop :=
  ∃ p m, e = .returned (.tuple #[.pointer (some ⟨p, 0, none⟩), .int .i64 0]) ∧ PgMem w' p m (newS S P t G gs ls mo) ∧ Below w.heap.size w w' ∧ (∀ k, allB p m (newS S P t G gs ls mo) k → logBlock l d g mm v k ∨ w.heap.size ≤ k) ∧ m.l = l
set_option maxHeartbeats 1000000 in
theorem pgNew_ok {w : World} {S P t l d g c mm n G : Nat} {v : Value} {gs : List (List Nat)} {ls : List (Nat × List UInt8)} (h : At1 w 0 S P t l d g c mm n v G gs ls) (ht : t ≤ 1000000) (mo : Nat) (h1 : 1 ≤ mo) (h2 : mo ≤ 64) :
    Calls Tryz.prog 42 #[.pointer (some ⟨l, 0, none⟩), .int .i64 (mo : Int)] w (NewPost w S P t l d g c mm n v G gs ls mo) := by
  have hgr := h.gr
  have HG := hid (groups_any h.mem (by omega))
  have H := hid h
  have g1 : decide ((mo : Int) < 1) = false := decide_eq_false (by omega)
  have g2 : decide ((64 : Int) < (mo : Int)) = false := decide_eq_false (by omega)
  have hmm := @run_makeMap Tryz.prog
  clear h
  go_enter Tryz.func42, Tryz.ntmps42
  go_wp2_with (go_at_call 46; refine HG.out.mono ?_; rintro _ w1 ⟨rfl, e9⟩; subst w1)
  go_ret2
  obtain ⟨wa, hwa⟩ : ∃ wa, wa = w.alloc (.map #[] 0) := ⟨_, rfl⟩
  obtain ⟨wb, hwb⟩ : ∃ wb, wb = wa.alloc (.map #[] 0) := ⟨_, rfl⟩
  have sa : wa.heap.size = w.heap.size + 1 := by rw [hwa]; simp
  have sb : wb.heap.size = wa.heap.size + 1 := by rw [hwb]; simp
  have ba : Below w.heap.size w wa := by rw [hwa]; exact (Below.refl _ w).alloc (Nat.le_refl _) _
  have bb : Below wa.heap.size wa wb := by rw [hwb]; exact (Below.refl _ wa).alloc (Nat.le_refl _) _
  obtain ⟨m, hm⟩ : ∃ m : PM, m = ⟨l, d, g, c, mm, n, v, .slice none 0 0, w.heap.size, 0, w.heap.size + 1, 0, fun _ => 0, fun _ => 0, fun _ => 0, fun _ => 0, fun _ => 0⟩ := ⟨_, rfl⟩
  obtain ⟨wc, hwc⟩ : ∃ wc, wc = wb.alloc (.cells (pgObj m (newS S P t G gs ls mo)) 90) := ⟨_, rfl⟩
  have bc : Below wb.heap.size wb wc := by rw [hwc]; exact (Below.refl _ wb).alloc (Nat.le_refl _) _
  have hca : VMap wa w.heap.size 0 (fun _ => none) := by rw [hwa]; exact VMap_made w
  have hdb : VMap wb wa.heap.size 0 (fun _ => none) := by rw [hwb]; exact VMap_made wa
  have bwc : Below w.heap.size w wc := Below.on' (Below.on' ba bb) bc
  have hl := H.out.mem.lts
  suffices hK : NewPost w S P t l d g c mm n v G gs ls mo (.returned (.tuple #[.pointer (some ⟨w.heap.size + 1 + 1, 0, none⟩), .int .i64 0])) wc by
    subst hwc; subst hm; subst hwb; subst hwa; exact hK
  refine ⟨w.heap.size + 1 + 1, m, rfl, ?_, ?_, ?_, by rw [hm]⟩
  · refine ⟨?_, ?_, ?_, ?_, ?_, fun q hq => (by cases hq), fun q hq => (by cases hq), fun q hq => (by cases hq), fun q hq => (by cases hq), ?_, ?_, ?_, ?_, ?_, newS_ok _ _ _ _ _ _ _ h1 h2⟩
    · rw [hwc, ← sa, ← sb]; exact heap_alloc_new _ _
    · subst hm; exact ⟨H.out.mem.below bwc, H.out.inv, H.out.gr, H.out.lsl, H.out.nl⟩
    · subst hm; exact ⟨rfl, .inl ⟨rfl, rfl⟩⟩
    · subst hm; exact (hca.keep (bb.block _ (by omega))).keep (bc.block _ (by omega))
    · subst hm; rw [sa] at hdb; exact hdb.keep (bc.block _ (by omega))
    · subst hm; dsimp only; omega
    · subst hm; dsimp only; have := (hl mm (.inr (.inr (.inr (.inl rfl))))).2; omega
    · subst hm; dsimp only; have := (hl mm (.inr (.inr (.inr (.inl rfl))))).2; omega
    · subst hm; exact Nat.zero_le _
    · subst hm; exact Nat.zero_le _
  · exact bwc
  · subst hm
    rintro k ((rfl | h1 | h1 | rfl | rfl | ⟨q, hq, rfl⟩) | (⟨q, hq, rfl⟩ | ⟨c, hc, rfl⟩))
    · exact .inr (by omega)
    · exact .inl h1
    · cases h1
    · exact .inr (by dsimp only; omega)
    · exact .inr (by dsimp only; omega)
    · cases hq
    · cases hq
    · cases hc
set_option maxHeartbeats 400000 in
theorem pgNew_nil (w : World) (x : Int) : Calls Tryz.prog 42 #[.pointer none, .int .i64 x] w fun e w' => e = .returned (.tuple #[.pointer none, .int .i64 1]) ∧ w' = w := by
  go_enter Tryz.func42, Tryz.ntmps42
  go_wp2
  go_ret2
  exact ⟨rfl, rfl⟩
theorem hits_nil (w : World) : Calls Tryz.prog 20 #[.pointer none] w fun e w' => e = .returned (.int .i64 0) ∧ w' = w := by
  go_enter Tryz.func20, Tryz.ntmps20
  go_wp2
  go_ret
  exact ⟨rfl, rfl⟩
theorem misses_nil (w : World) : Calls Tryz.prog 22 #[.pointer none] w fun e w' => e = .returned (.int .i64 0) ∧ w' = w := by
  go_enter Tryz.func22, Tryz.ntmps22
  go_wp2
  go_ret
  exact ⟨rfl, rfl⟩
theorem pgLog_nil (w : World) : Calls Tryz.prog 25 #[.pointer none] w fun e w' => e = .returned (.pointer none) ∧ w' = w := by
  go_enter Tryz.func25, Tryz.ntmps25
  go_wp2
  go_ret
  exact ⟨rfl, rfl⟩
theorem cached_nil (w : World) : Calls Tryz.prog 16 #[.pointer none] w fun e w' => e = .returned (.slice none 0 0) ∧ w' = w := by
  go_enter Tryz.func16, Tryz.ntmps16
  go_wp2
  go_ret
  exact ⟨rfl, rfl⟩
theorem dirty_nil (w : World) : Calls Tryz.prog 18 #[.pointer none] w fun e w' => e = .returned (.slice none 0 0) ∧ w' = w := by
  go_enter Tryz.func18, Tryz.ntmps18
  go_wp2
  go_ret
  exact ⟨rfl, rfl⟩
theorem pgAbort_nil (w : World) : Calls Tryz.prog 38 #[.pointer none] w fun e w' => e = .returned (.int .i64 0) ∧ w' = w := by
  go_enter Tryz.func38, Tryz.ntmps38
  go_wp2
  go_ret
  exact ⟨rfl, rfl⟩
theorem pgCommit_nil (w : World) : Calls Tryz.prog 37 #[.pointer none] w fun e w' => e = .returned (.int .i64 1) ∧ w' = w := by
  go_enter Tryz.func37, Tryz.ntmps37
  go_wp2
  go_ret
  exact ⟨rfl, rfl⟩
theorem pgReach_nil (w : World) (v : Value) : Calls Tryz.prog 68 #[.pointer none, v] w fun e w' => e = .returned (.int .i64 1) ∧ w' = w := by
  go_enter Tryz.func68, Tryz.ntmps68
  go_wp2
  go_ret
  exact ⟨rfl, rfl⟩
theorem pgPin_nil (w : World) (v : Value) : Calls Tryz.prog 43 #[.pointer none, v] w fun e w' => e = .returned (.int .i64 1) ∧ w' = w := by
  have HR := hid (pgReach_nil w v)
  go_enter Tryz.func43, Tryz.ntmps43
  go_wp2_with (go_at_call 68; refine HR.out.mono ?_; rintro _ w1 ⟨rfl, e9⟩; subst w1)
  go_ret
  exact ⟨rfl, rfl⟩
theorem pgUnpin_nil (w : World) (v : Value) : Calls Tryz.prog 44 #[.pointer none, v] w fun e w' => e = .returned (.int .i64 1) ∧ w' = w := by
  go_enter Tryz.func44, Tryz.ntmps44
  go_wp2
  go_ret
  exact ⟨rfl, rfl⟩
theorem pgRead_nil (w : World) (x : Int) : Calls Tryz.prog 32 #[.pointer none, .int .i64 x] w fun e w' => e = .returned (.tuple #[.slice none 0 0, .int .i64 1]) ∧ Below w.heap.size w w' := by
  go_enter Tryz.func32, Tryz.ntmps32
  go_wp2_with (go_at_call 68; refine (pgReach_nil _ _).mono ?_; rintro _ w1 ⟨rfl, e9⟩; subst w1)
  go_ret2
  exact ⟨rfl, (Below.refl _ w).alloc (Nat.le_refl _) _⟩
theorem pgWrite_nil (w : World) (x : Int) (v : Value) : Calls Tryz.prog 35 #[.pointer none, .int .i64 x, v] w fun e w' => e = .returned (.int .i64 1) ∧ Below w.heap.size w w' := by
  go_enter Tryz.func35, Tryz.ntmps35
  go_wp2_with (go_at_call 68; refine (pgReach_nil _ _).mono ?_; rintro _ w1 ⟨rfl, e9⟩; subst w1)
  go_ret
  exact ⟨rfl, (Below.refl _ w).alloc (Nat.le_refl _) _⟩
section
variable {w : World} {p : Nat} {m : PM} {s : PS}
theorem pgLog_any (h : PgMem w p m s) : Calls Tryz.prog 25 #[.pointer (some ⟨p, 0, none⟩)] w fun e w' => e = .returned (.pointer (some ⟨m.l, 0, none⟩)) ∧ w' = w := by
  have c0 := h.c0
  clear h
  go_enter Tryz.func25, Tryz.ntmps25
  go_wp2
  go_ret
  exact ⟨rfl, rfl⟩
theorem hits_any (h : PgMem w p m s) : Calls Tryz.prog 20 #[.pointer (some ⟨p, 0, none⟩)] w fun e w' => e = .returned (.int .i64 (s.hi : Int)) ∧ w' = w := by
  have c6 := h.c6
  have HL := hid (load_any _ _ _ _ c6)
  clear h
  go_enter Tryz.func20, Tryz.ntmps20
  go_wp2_with (go_at_call 63; refine HL.out.mono ?_; rintro _ w1 ⟨rfl, e9⟩; subst w1)
  go_ret
  exact ⟨rfl, rfl⟩
theorem misses_any (h : PgMem w p m s) : Calls Tryz.prog 22 #[.pointer (some ⟨p, 0, none⟩)] w fun e w' => e = .returned (.int .i64 (s.mi : Int)) ∧ w' = w := by
  have c7 := h.c7
  have HL := hid (load_any _ _ _ _ c7)
  clear h
  go_enter Tryz.func22, Tryz.ntmps22
  go_wp2_with (go_at_call 63; refine HL.out.mono ?_; rintro _ w1 ⟨rfl, e9⟩; subst w1)
  go_ret
  exact ⟨rfl, rfl⟩
theorem natCells_length (l : List Nat) : (natCells l).length = l.length := by simp [natCells]
set_option maxHeartbeats 800000 in
theorem clone_int (w : World) (B : Nat) (v : Value) (l : List Nat) (hl : l.length ≤ 100000) (hown : w.ownsRow B 3 1 v l.length (natCells l)) :
    Calls Tryz.prog 58 #[v] w fun e w' => ∃ v', e = .returned v' ∧ w'.ownsRow w.heap.size 3 1 v' l.length (natCells l) ∧ Below w.heap.size w w' := by
  obtain ⟨i0, hi, hz0, hz1, hz2⟩ := info_parts Tryz.info3
  have q22 : ∀ (w : World) (a : Option Addr) (n c n' c' : Nat), (binOp .eql 29 (.slice a n c) (.slice none n' c')).run Tryz.prog w = .ok (.bool a.isNone) w := fun w a n c n' c' => Lib.run_eql_slice_nil w _ _ a n c n' c' Tryz.underlying29
  rcases hown.2 with ⟨rfl, h0⟩ | ⟨b, cap, cur, rfl, hb, hg, hc, hmx, hsz, htk⟩
  · have hl0 : l = [] := List.length_eq_zero_iff.1 h0
    subst hl0
    clear hown
    go_enter Tryz.func58, Tryz.ntmps58
    go_wp2
    go_ret
    exact ⟨_, rfl, ⟨rfl, .inl ⟨rfl, rfl⟩⟩, Below.refl _ _⟩
  · obtain ⟨n, hn⟩ : ∃ n, n = l.length := ⟨_, rfl⟩
    have HB := hid hown
    rw [← hn]
    rw [← hn] at hl HB
    clear hown hb hg hc hmx hsz htk
    go_enter Tryz.func58, Tryz.ntmps58
    go_wp2_with (at_builtin; refine wpList_append_own _ rfl _ _ 29 rfl w.heap.size 3 i0 (.int .i64 0) 1 8 Tryz.underlying29 hi hz0 hz1 hz2 rfl (by decide) _ _ _ rfl (World.ownsRow_made w #[] 0 (Nat.le_refl _) (Nat.zero_le _) rfl) ⟨b, 0, none⟩ n cap (natCells l) rfl ?qc1 ?qc2 ?qc3 ?qc4 ?qc5 ?qc6 ?_)
    case qc1 => simp [natCells_length, hn]
    case qc2 =>
      intro j u hj
      have hjn : j < n := by
        have := (List.getElem?_eq_some_iff.1 hj).1
        rw [natCells_length] at this; omega
      have hc := HB.out.cellAt j (by omega)
      rw [hj] at hc
      rw [addr_add, Nat.zero_add]
      exact (World.cell?_alloc_some _ _ _ (by rw [hc]; rfl)).trans hc
    case qc3 =>
      intro u hu
      unfold natCells at hu
      obtain ⟨x, _, rfl⟩ := List.mem_map.1 hu
      rfl
    case qc4 => unfold maxLen; omega
    case qc5 => omega
    case qc6 => simp
    intro v' w1 hown hgrow hnil
    go_wp2
    go_ret
    refine ⟨v', rfl, by subst hn; simpa using hown, ((Below.refl _ w).alloc (Nat.le_refl _) _).grown hgrow (by simp) (by intro k hk; simp [Value.ownBlock] at hk; omega)⟩
theorem cached_any (h : PgMem w p m s) : Calls Tryz.prog 16 #[.pointer (some ⟨p, 0, none⟩)] w fun e w' => ∃ v, e = .returned v ∧ w'.ownsRow w.heap.size 3 1 v s.ord.length (natCells s.ord) ∧ Below w.heap.size w w' := by
  have c4 := h.c4
  have HC := hid (clone_int w 0 m.ov s.ord (by have := h.ok.ol; have := h.ok.mo2; omega) h.row)
  clear h
  go_enter Tryz.func16, Tryz.ntmps16
  go_wp2_with fail
  refine HC.out.mono ?_
  rintro _ w1 ⟨v1, rfl, hr, hb⟩
  go_wp2
  go_ret
  exact ⟨_, rfl, hr, hb⟩
/-- the dirty pages are forgotten -/
def abortS (s : PS) : PS := { s with dl := [] }
theorem PgMem.abort {w1 : World} (h : PgMem w p m s) (hdm : VMap w1 m.dm 0 (fun _ => none)) (hg : w.grownBy w1 (some m.dm)) : PgMem w1 p { m with dn := 0 } (abortS s) ∧ Out (fun k => k = m.dm) w w1 := by
  have o2 : Out (fun k => k = m.dm) w w1 := Out.of_grown hg rfl
  have k : ∀ j, j < w.heap.size → j ≠ m.dm → w1.heap[j]? = w.heap[j]? := fun j hj hp => o2.block j hj hp
  refine ⟨⟨(k p (heap_lt h.obj) h.p_dm).trans h.obj, ⟨h.log.mem.keep fun j hj => k j (h.log.mem.lts j hj).2 (fun e => h.dm_not (e ▸ hj)), h.log.inv, h.log.gr, h.log.lsl, h.log.nl⟩, ownsRow_keep h.row (fun j hj => k j (h.row.lt j hj).2 (fun e => h.ov_dm (e ▸ hj))), h.cmap.keep (k _ h.cmap.lt h.cd), VMap.congr hdm (fun q => by simp [diOf, abortS]), fun q hq => (k _ (heap_lt (h.frm q hq)) (h.fr_ne hq).2.2.2.2).trans (h.frm q hq), fun q hq => ?_, fun c hc => (by cases hc), h.inj, h.cd, h.cl, h.dm', h.cnt, Nat.zero_le _, ⟨h.ok.nd, h.ok.olt, h.ok.ol, h.ok.mo1, h.ok.mo2, List.Pairwise.nil, fun c hc => (by cases hc), by simp [abortS], h.ok.hit, h.ok.mit⟩⟩, o2⟩
  have hb := h.fby q hq
  exact hb.keep (k _ hb.lt (fun e => h.byt hb (.inr (.inr (.inr (.inr (.inl e)))))))
def AbortPost (w : World) (p : Nat) (m : PM) (s : PS) (e : Ending) (w' : World) : Prop :=
  e = .returned (.int .i64 (s.dl.length : Int)) ∧ PgMem w' p { m with dn := 0 } (abortS s) ∧ Out (fun k => k = m.dm) w w' ∧ Fresh w p m s { m with dn := 0 } (abortS s)
theorem pgAbort_any (h : PgMem w p m s) : Calls Tryz.prog 38 #[.pointer (some ⟨p, 0, none⟩)] w (AbortPost w p m s) := by
  have c5 := h.c5
  have hlen := fun ty => h.dlen ty
  obtain ⟨w4, hrun, hdm, hg⟩ := h.dmap.clear Tryz.underlying83 0
  have HF := hid (h.abort hdm hg)
  have HFr : Hid (Fresh w p m s { m with dn := 0 } (abortS s)) := by
    rintro k ((e | e | e | e | e | ⟨x, hx, e⟩) | (⟨x, hx, e⟩ | ⟨c, hc, e⟩))
    · exact .inl (.inl (.inl e))
    · exact .inl (.inl (.inr (.inl e)))
    · exact .inl (.inl (.inr (.inr (.inl e))))
    · exact .inl (.inl (.inr (.inr (.inr (.inl e)))))
    · exact .inl (.inl (.inr (.inr (.inr (.inr (.inl e))))))
    · exact .inl (.inl (.inr (.inr (.inr (.inr (.inr ⟨x, hx, e⟩))))))
    · exact .inl (.inr (.inl ⟨x, hx, e⟩))
    · cases hc
  clear h hdm hg
  go_enter Tryz.func38, Tryz.ntmps38
  go_wp2
  go_ret
  exact ⟨rfl, HF.out.1, HF.out.2, HFr.out⟩
end
end Go.Proofs.YtdieafkmnckhaaaGreat
