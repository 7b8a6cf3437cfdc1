/- YtdieafkmnckhaaaGreatPNew + YtdieafkmnckhaaaGreatPOpen + YtdieafkmnckhaaaGreatPDeed + YtdieafkmnckhaaaGreatPState + YtdieafkmnckhaaaGreatPCache -/
import Derived.Test.YtdieafkmnckhaaaGreatPCommit4
/- New, Abort, Cached, Hits, Misses and Log of package pager, by contracts. -/
namespace Go.Proofs.YtdieafkmnckhaaaGreat
open Go.RowKit Go.Maps Go.Sort Go.Shelf
set_option linter.unusedVariables false
set_option maxRecDepth 20000
/-- a new cache -/
def newS (S P t G : Nat) (gs : List (List Nat)) (ls : List (Nat × List UInt8)) (mo : Nat) : PS := ⟨S, P, t, G, gs, ls, mo, [], fun _ => false, [], 0, 0⟩
theorem newS_ok (S P t G : Nat) (gs : List (List Nat)) (ls : List (Nat × List UInt8)) (mo : Nat) (h1 : 1 ≤ mo) (h2 : mo ≤ 64) : CaOk (newS S P t G gs ls mo) :=
  ⟨List.nodup_nil, fun q hq => (by cases hq), by simp [newS], h1, h2, List.Pairwise.nil, fun c hc => (by cases hc), by simp [newS], Nat.zero_le _, Nat.zero_le _⟩
theorem newS_ext (S P t G : Nat) (gs : List (List Nat)) (ls : List (Nat × List UInt8)) (mo : Nat) : Ext (newS S P t G gs ls mo) := ⟨by simp [newS], fun c hc => by cases hc⟩
def NewPost (w : World) (S P t l d g c mm n : Nat) (v : Value) (G : Nat) (gs : List (List Nat)) (ls : List (Nat × List UInt8)) (mo : Nat) (e : Ending) (w' : World) : Prop :=
  ∃ p m, e = .returned (.tuple #[.pointer (some ⟨p, 0, none⟩), .int .i64 0]) ∧ PgMem w' p m (newS S P t G gs ls mo) ∧ Below w.heap.size w w' ∧ (∀ k, allB p m (newS S P t G gs ls mo) k → logBlock l d g mm v k ∨ w.heap.size ≤ k) ∧ m.l = l
set_option maxHeartbeats 1000000 in
theorem pgNew_ok {w : World} {S P t l d g c mm n G : Nat} {v : Value} {gs : List (List Nat)} {ls : List (Nat × List UInt8)} (h : At1 w 0 S P t l d g c mm n v G gs ls) (ht : t ≤ 1000000) (mo : Nat) (h1 : 1 ≤ mo) (h2 : mo ≤ 64) :
    Calls Tryz.prog 42 #[.pointer (some ⟨l, 0, none⟩), .int .i64 (mo : Int)] w (NewPost w S P t l d g c mm n v G gs ls mo) := by
  have hgr := h.gr
  have HG := hid (groups_any h.mem (by omega))
  have H := hid h
  have g1 : decide ((mo : Int) < 1) = false := decide_eq_false (by omega)
  have g2 : decide ((64 : Int) < (mo : Int)) = false := decide_eq_false (by omega)
  have hmm := @run_makeMap Tryz.prog
  clear h
  go_enter Tryz.func42, Tryz.ntmps42
  go_wp2_with (go_at_call 46; refine HG.out.mono ?_; rintro _ w1 ⟨rfl, e9⟩; subst w1)
  go_ret2
  obtain ⟨wa, hwa⟩ : ∃ wa, wa = w.alloc (.map #[] 0) := ⟨_, rfl⟩
  obtain ⟨wb, hwb⟩ : ∃ wb, wb = wa.alloc (.map #[] 0) := ⟨_, rfl⟩
  have sa : wa.heap.size = w.heap.size + 1 := by rw [hwa]; simp
  have sb : wb.heap.size = wa.heap.size + 1 := by rw [hwb]; simp
  have ba : Below w.heap.size w wa := by rw [hwa]; exact (Below.refl _ w).alloc (Nat.le_refl _) _
  have bb : Below wa.heap.size wa wb := by rw [hwb]; exact (Below.refl _ wa).alloc (Nat.le_refl _) _
  obtain ⟨m, hm⟩ : ∃ m : PM, m = ⟨l, d, g, c, mm, n, v, .slice none 0 0, w.heap.size, 0, w.heap.size + 1, 0, fun _ => 0, fun _ => 0, fun _ => 0, fun _ => 0, fun _ => 0⟩ := ⟨_, rfl⟩
  obtain ⟨wc, hwc⟩ : ∃ wc, wc = wb.alloc (.cells (pgObj m (newS S P t G gs ls mo)) 90) := ⟨_, rfl⟩
  have bc : Below wb.heap.size wb wc := by rw [hwc]; exact (Below.refl _ wb).alloc (Nat.le_refl _) _
  have hca : VMap wa w.heap.size 0 (fun _ => none) := by rw [hwa]; exact VMap_made w
  have hdb : VMap wb wa.heap.size 0 (fun _ => none) := by rw [hwb]; exact VMap_made wa
  have bwc : Below w.heap.size w wc := Below.on' (Below.on' ba bb) bc
  have hl := H.out.mem.lts
  suffices hK : NewPost w S P t l d g c mm n v G gs ls mo (.returned (.tuple #[.pointer (some ⟨w.heap.size + 1 + 1, 0, none⟩), .int .i64 0])) wc by
    subst hwc; subst hm; subst hwb; subst hwa; exact hK
  refine ⟨w.heap.size + 1 + 1, m, rfl, ?_, ?_, ?_, by rw [hm]⟩
  · refine ⟨?_, ?_, ?_, ?_, ?_, fun q hq => (by cases hq), fun q hq => (by cases hq), fun q hq => (by cases hq), fun q hq => (by cases hq), ?_, ?_, ?_, ?_, ?_, newS_ok _ _ _ _ _ _ _ h1 h2⟩
    · rw [hwc, ← sa, ← sb]; exact heap_alloc_new _ _
    · subst hm; exact ⟨H.out.mem.below bwc, H.out.inv, H.out.gr, H.out.lsl, H.out.nl⟩
    · subst hm; exact ⟨rfl, .inl ⟨rfl, rfl⟩⟩
    · subst hm; exact (hca.keep (bb.block _ (by omega))).keep (bc.block _ (by omega))
    · subst hm; rw [sa] at hdb; exact hdb.keep (bc.block _ (by omega))
    · subst hm; dsimp only; omega
    · subst hm; dsimp only; have := (hl mm (.inr (.inr (.inr (.inl rfl))))).2; omega
    · subst hm; dsimp only; have := (hl mm (.inr (.inr (.inr (.inl rfl))))).2; omega
    · subst hm; exact Nat.zero_le _
    · subst hm; exact Nat.zero_le _
  · exact bwc
  · subst hm
    rintro k ((rfl | h1 | h1 | rfl | rfl | ⟨q, hq, rfl⟩) | (⟨q, hq, rfl⟩ | ⟨c, hc, rfl⟩))
    · exact .inr (by omega)
    · exact .inl h1
    · cases h1
    · exact .inr (by dsimp only; omega)
    · exact .inr (by dsimp only; omega)
    · cases hq
    · cases hq
    · cases hc
set_option maxHeartbeats 400000 in
theorem pgNew_nil (w : World) (x : Int) : Calls Tryz.prog 42 #[.pointer none, .int .i64 x] w fun e w' => e = .returned (.tuple #[.pointer none, .int .i64 1]) ∧ w' = w := by
  go_enter Tryz.func42, Tryz.ntmps42
  go_wp2
  go_ret2
  exact ⟨rfl, rfl⟩
theorem hits_nil (w : World) : Calls Tryz.prog 20 #[.pointer none] w fun e w' => e = .returned (.int .i64 0) ∧ w' = w := by
  go_enter Tryz.func20, Tryz.ntmps20
  go_wp2
  go_ret
  exact ⟨rfl, rfl⟩
theorem misses_nil (w : World) : Calls Tryz.prog 22 #[.pointer none] w fun e w' => e = .returned (.int .i64 0) ∧ w' = w := by
  go_enter Tryz.func22, Tryz.ntmps22
  go_wp2
  go_ret
  exact ⟨rfl, rfl⟩
theorem pgLog_nil (w : World) : Calls Tryz.prog 25 #[.pointer none] w fun e w' => e = .returned (.pointer none) ∧ w' = w := by
  go_enter Tryz.func25, Tryz.ntmps25
  go_wp2
  go_ret
  exact ⟨rfl, rfl⟩
theorem cached_nil (w : World) : Calls Tryz.prog 16 #[.pointer none] w fun e w' => e = .returned (.slice none 0 0) ∧ w' = w := by
  go_enter Tryz.func16, Tryz.ntmps16
  go_wp2
  go_ret
  exact ⟨rfl, rfl⟩
theorem dirty_nil (w : World) : Calls Tryz.prog 18 #[.pointer none] w fun e w' => e = .returned (.slice none 0 0) ∧ w' = w := by
  go_enter Tryz.func18, Tryz.ntmps18
  go_wp2
  go_ret
  exact ⟨rfl, rfl⟩
theorem pgAbort_nil (w : World) : Calls Tryz.prog 38 #[.pointer none] w fun e w' => e = .returned (.int .i64 0) ∧ w' = w := by
  go_enter Tryz.func38, Tryz.ntmps38
  go_wp2
  go_ret
  exact ⟨rfl, rfl⟩
theorem pgCommit_nil (w : World) : Calls Tryz.prog 37 #[.pointer none] w fun e w' => e = .returned (.int .i64 1) ∧ w' = w := by
  go_enter Tryz.func37, Tryz.ntmps37
  go_wp2
  go_ret
  exact ⟨rfl, rfl⟩
theorem pgReach_nil (w : World) (v : Value) : Calls Tryz.prog 68 #[.pointer none, v] w fun e w' => e = .returned (.int .i64 1) ∧ w' = w := by
  go_enter Tryz.func68, Tryz.ntmps68
  go_wp2
  go_ret
  exact ⟨rfl, rfl⟩
theorem pgPin_nil (w : World) (v : Value) : Calls Tryz.prog 43 #[.pointer none, v] w fun e w' => e = .returned (.int .i64 1) ∧ w' = w := by
  have HR := hid (pgReach_nil w v)
  go_enter Tryz.func43, Tryz.ntmps43
  go_wp2_with (go_at_call 68; refine HR.out.mono ?_; rintro _ w1 ⟨rfl, e9⟩; subst w1)
  go_ret
  exact ⟨rfl, rfl⟩
theorem pgUnpin_nil (w : World) (v : Value) : Calls Tryz.prog 44 #[.pointer none, v] w fun e w' => e = .returned (.int .i64 1) ∧ w' = w := by
  go_enter Tryz.func44, Tryz.ntmps44
  go_wp2
  go_ret
  exact ⟨rfl, rfl⟩
theorem pgRead_nil (w : World) (x : Int) : Calls Tryz.prog 32 #[.pointer none, .int .i64 x] w fun e w' => e = .returned (.tuple #[.slice none 0 0, .int .i64 1]) ∧ Below w.heap.size w w' := by
  go_enter Tryz.func32, Tryz.ntmps32
  go_wp2_with (go_at_call 68; refine (pgReach_nil _ _).mono ?_; rintro _ w1 ⟨rfl, e9⟩; subst w1)
  go_ret2
  exact ⟨rfl, (Below.refl _ w).alloc (Nat.le_refl _) _⟩
theorem pgWrite_nil (w : World) (x : Int) (v : Value) : Calls Tryz.prog 35 #[.pointer none, .int .i64 x, v] w fun e w' => e = .returned (.int .i64 1) ∧ Below w.heap.size w w' := by
  go_enter Tryz.func35, Tryz.ntmps35
  go_wp2_with (go_at_call 68; refine (pgReach_nil _ _).mono ?_; rintro _ w1 ⟨rfl, e9⟩; subst w1)
  go_ret
  exact ⟨rfl, (Below.refl _ w).alloc (Nat.le_refl _) _⟩
section
variable {w : World} {p : Nat} {m : PM} {s : PS}
theorem pgLog_any (h : PgMem w p m s) : Calls Tryz.prog 25 #[.pointer (some ⟨p, 0, none⟩)] w fun e w' => e = .returned (.pointer (some ⟨m.l, 0, none⟩)) ∧ w' = w := by
  have c0 := h.c0
  clear h
  go_enter Tryz.func25, Tryz.ntmps25
  go_wp2
  go_ret
  exact ⟨rfl, rfl⟩
theorem hits_any (h : PgMem w p m s) : Calls Tryz.prog 20 #[.pointer (some ⟨p, 0, none⟩)] w fun e w' => e = .returned (.int .i64 (s.hi : Int)) ∧ w' = w := by
  have c6 := h.c6
  have HL := hid (load_any _ _ _ _ c6)
  clear h
  go_enter Tryz.func20, Tryz.ntmps20
  go_wp2_with (go_at_call 63; refine HL.out.mono ?_; rintro _ w1 ⟨rfl, e9⟩; subst w1)
  go_ret
  exact ⟨rfl, rfl⟩
theorem misses_any (h : PgMem w p m s) : Calls Tryz.prog 22 #[.pointer (some ⟨p, 0, none⟩)] w fun e w' => e = .returned (.int .i64 (s.mi : Int)) ∧ w' = w := by
  have c7 := h.c7
  have HL := hid (load_any _ _ _ _ c7)
  clear h
  go_enter Tryz.func22, Tryz.ntmps22
  go_wp2_with (go_at_call 63; refine HL.out.mono ?_; rintro _ w1 ⟨rfl, e9⟩; subst w1)
  go_ret
  exact ⟨rfl, rfl⟩
theorem natCells_length (l : List Nat) : (natCells l).length = l.length := by simp [natCells]
set_option maxHeartbeats 800000 in
theorem clone_int (w : World) (B : Nat) (v : Value) (l : List Nat) (hl : l.length ≤ 100000) (hown : w.ownsRow B 3 1 v l.length (natCells l)) :
    Calls Tryz.prog 58 #[v] w fun e w' => ∃ v', e = .returned v' ∧ w'.ownsRow w.heap.size 3 1 v' l.length (natCells l) ∧ Below w.heap.size w w' := by
  obtain ⟨i0, hi, hz0, hz1, hz2⟩ := info_parts Tryz.info3
  have q22 : ∀ (w : World) (a : Option Addr) (n c n' c' : Nat), (binOp .eql 29 (.slice a n c) (.slice none n' c')).run Tryz.prog w = .ok (.bool a.isNone) w := fun w a n c n' c' => Lib.run_eql_slice_nil w _ _ a n c n' c' Tryz.underlying29
  rcases hown.2 with ⟨rfl, h0⟩ | ⟨b, cap, cur, rfl, hb, hg, hc, hmx, hsz, htk⟩
  · have hl0 : l = [] := List.length_eq_zero_iff.1 h0
    subst hl0
    clear hown
    go_enter Tryz.func58, Tryz.ntmps58
    go_wp2
    go_ret
    exact ⟨_, rfl, ⟨rfl, .inl ⟨rfl, rfl⟩⟩, Below.refl _ _⟩
  · obtain ⟨n, hn⟩ : ∃ n, n = l.length := ⟨_, rfl⟩
    have HB := hid hown
    rw [← hn]
    rw [← hn] at hl HB
    clear hown hb hg hc hmx hsz htk
    go_enter Tryz.func58, Tryz.ntmps58
    go_wp2_with (at_builtin; refine wpList_append_own _ rfl _ _ 29 rfl w.heap.size 3 i0 (.int .i64 0) 1 8 Tryz.underlying29 hi hz0 hz1 hz2 rfl (by decide) _ _ _ rfl (World.ownsRow_made w #[] 0 (Nat.le_refl _) (Nat.zero_le _) rfl) ⟨b, 0, none⟩ n cap (natCells l) rfl ?qc1 ?qc2 ?qc3 ?qc4 ?qc5 ?qc6 ?_)
    case qc1 => simp [natCells_length, hn]
    case qc2 =>
      intro j u hj
      have hjn : j < n := by
        have := (List.getElem?_eq_some_iff.1 hj).1
        rw [natCells_length] at this; omega
      have hc := HB.out.cellAt j (by omega)
      rw [hj] at hc
      rw [addr_add, Nat.zero_add]
      exact (World.cell?_alloc_some _ _ _ (by rw [hc]; rfl)).trans hc
    case qc3 =>
      intro u hu
      unfold natCells at hu
      obtain ⟨x, _, rfl⟩ := List.mem_map.1 hu
      rfl
    case qc4 => unfold maxLen; omega
    case qc5 => omega
    case qc6 => simp
    intro v' w1 hown hgrow hnil
    go_wp2
    go_ret
    refine ⟨v', rfl, by subst hn; simpa using hown, ((Below.refl _ w).alloc (Nat.le_refl _) _).grown hgrow (by simp) (by intro k hk; simp [Value.ownBlock] at hk; omega)⟩
theorem cached_any (h : PgMem w p m s) : Calls Tryz.prog 16 #[.pointer (some ⟨p, 0, none⟩)] w fun e w' => ∃ v, e = .returned v ∧ w'.ownsRow w.heap.size 3 1 v s.ord.length (natCells s.ord) ∧ Below w.heap.size w w' := by
  have c4 := h.c4
  have HC := hid (clone_int w 0 m.ov s.ord (by have := h.ok.ol; have := h.ok.mo2; omega) h.row)
  clear h
  go_enter Tryz.func16, Tryz.ntmps16
  go_wp2_with fail
  refine HC.out.mono ?_
  rintro _ w1 ⟨v1, rfl, hr, hb⟩
  go_wp2
  go_ret
  exact ⟨_, rfl, hr, hb⟩
/-- the dirty pages are forgotten -/
def abortS (s : PS) : PS := { s with dl := [] }
theorem PgMem.abort {w1 : World} (h : PgMem w p m s) (hdm : VMap w1 m.dm 0 (fun _ => none)) (hg : w.grownBy w1 (some m.dm)) : PgMem w1 p { m with dn := 0 } (abortS s) ∧ Out (fun k => k = m.dm) w w1 := by
  have o2 : Out (fun k => k = m.dm) w w1 := Out.of_grown hg rfl
  have k : ∀ j, j < w.heap.size → j ≠ m.dm → w1.heap[j]? = w.heap[j]? := fun j hj hp => o2.block j hj hp
  refine ⟨⟨(k p (heap_lt h.obj) h.p_dm).trans h.obj, ⟨h.log.mem.keep fun j hj => k j (h.log.mem.lts j hj).2 (fun e => h.dm_not (e ▸ hj)), h.log.inv, h.log.gr, h.log.lsl, h.log.nl⟩, ownsRow_keep h.row (fun j hj => k j (h.row.lt j hj).2 (fun e => h.ov_dm (e ▸ hj))), h.cmap.keep (k _ h.cmap.lt h.cd), VMap.congr hdm (fun q => by simp [diOf, abortS]), fun q hq => (k _ (heap_lt (h.frm q hq)) (h.fr_ne hq).2.2.2.2).trans (h.frm q hq), fun q hq => ?_, fun c hc => (by cases hc), h.inj, h.cd, h.cl, h.dm', h.cnt, Nat.zero_le _, ⟨h.ok.nd, h.ok.olt, h.ok.ol, h.ok.mo1, h.ok.mo2, List.Pairwise.nil, fun c hc => (by cases hc), by simp [abortS], h.ok.hit, h.ok.mit⟩⟩, o2⟩
  have hb := h.fby q hq
  exact hb.keep (k _ hb.lt (fun e => h.byt hb (.inr (.inr (.inr (.inr (.inl e)))))))
def AbortPost (w : World) (p : Nat) (m : PM) (s : PS) (e : Ending) (w' : World) : Prop :=
  e = .returned (.int .i64 (s.dl.length : Int)) ∧ PgMem w' p { m with dn := 0 } (abortS s) ∧ Out (fun k => k = m.dm) w w' ∧ Fresh w p m s { m with dn := 0 } (abortS s)
theorem pgAbort_any (h : PgMem w p m s) : Calls Tryz.prog 38 #[.pointer (some ⟨p, 0, none⟩)] w (AbortPost w p m s) := by
  have c5 := h.c5
  have hlen := fun ty => h.dlen ty
  obtain ⟨w4, hrun, hdm, hg⟩ := h.dmap.clear Tryz.underlying83 0
  have HF := hid (h.abort hdm hg)
  have HFr : Hid (Fresh w p m s { m with dn := 0 } (abortS s)) := by
    rintro k ((e | e | e | e | e | ⟨x, hx, e⟩) | (⟨x, hx, e⟩ | ⟨c, hc, e⟩))
    · exact .inl (.inl (.inl e))
    · exact .inl (.inl (.inr (.inl e)))
    · exact .inl (.inl (.inr (.inr (.inl e))))
    · exact .inl (.inl (.inr (.inr (.inr (.inl e)))))
    · exact .inl (.inl (.inr (.inr (.inr (.inr (.inl e))))))
    · exact .inl (.inl (.inr (.inr (.inr (.inr (.inr ⟨x, hx, e⟩))))))
    · exact .inl (.inr (.inl ⟨x, hx, e⟩))
    · cases hc
  clear h hdm hg
  go_enter Tryz.func38, Tryz.ntmps38
  go_wp2
  go_ret
  exact ⟨rfl, HF.out.1, HF.out.2, HFr.out⟩
end
end Go.Proofs.YtdieafkmnckhaaaGreat

/- open of law 4. -/
namespace Go.Proofs.YtdieafkmnckhaaaGreat
open Go.RowKit Go.Maps Go.Sort Go.Shelf
set_option linter.unusedVariables false
set_option maxRecDepth 20000
set_option maxHeartbeats 400000 in
theorem refPgNew_ok (w : World) (l mo : Nat) (h1 : 1 ≤ mo) (h2 : mo ≤ 64) :
    Calls Tryz.prog 51 #[.pointer (some ⟨l, 0, none⟩), .int .i64 (mo : Int)] w fun e w' => ∃ q, e = .returned (.tuple #[.pointer (some ⟨q, 0, none⟩), .int .i64 0]) ∧ Below w.heap.size w w' := by
  have g1 : decide ((mo : Int) < 1) = false := decide_eq_false (by omega)
  have g2 : decide ((64 : Int) < (mo : Int)) = false := decide_eq_false (by omega)
  go_enter Tryz.func51, Tryz.ntmps51
  go_wp2
  go_ret2
  exact ⟨_, rfl, (Below.refl _ w).alloc (Nat.le_refl _) _⟩
/-- a new cache over a new disk -/
def Open4 (S mo : Nat) (w : World) (e : Ending) (w' : World) : Prop :=
  ∃ p m q, e = .returned (.tuple #[.pointer (some ⟨p, 0, none⟩), .pointer (some ⟨q, 0, none⟩), .bool true]) ∧ PgMem w' p m (newS S 11 0 0 [] [] mo) ∧ Below w.heap.size w w' ∧ ∀ k, allB p m (newS S 11 0 0 [] [] mo) k → w.heap.size ≤ k
set_option maxHeartbeats 1600000 in
theorem lawOpen04 (w : World) (S mo : Nat) (hS : 2 ≤ S) (h2 : S + 12 ≤ 1024) (hm1 : 1 ≤ mo) (hm2 : mo ≤ 64) :
    Calls Tryz.prog 12 #[.int .i64 (S : Int), .int .i64 (mo : Int)] w (Open4 S mo w) := by
  obtain ⟨n, hn⟩ : ∃ n, n = S + 12 := ⟨_, rfl⟩
  have Hn := hid hn
  have hw : IntKind.i64.wrap ((S : Int) + 12) = (n : Int) := by rw [IntKind.wrap_i64]; omega
  rw [← hn] at h2
  clear hn
  have h1 : 1 ≤ n := by have := Hn.out; omega
  have Hnn : Hid (n = S + 1 + 11) := by show _ = _; have := Hn.out; omega
  go_enter Tryz.func12, Tryz.ntmps12
  go_wp2_with (fail)
  refine (new_ok n w h1 h2).mono ?_
  rintro e w1 ⟨d0, g0, cap0, rfl, hD, hb1⟩
  have HD := hid hD
  have Hb1 := hid hb1
  clear hD hb1
  go_wp2_with (fail)
  refine (refNew_ok n w1 h1 h2).mono ?_
  rintro e w2 ⟨r, F, vs, rfl, hR, hb2⟩
  have HR := hid hR
  have HD2 := hid (HD.out.below hb2)
  have Hb2 := hid (Hb1.out.trans (hb2.mono Hb1.out.size))
  clear hR hb2 HD Hb1
  have Ho := hid (open_ok HD2.out S 0 11 [] (by exact inv_new n S 11 Hnn.out hS (by omega) h2) (by omega) (by simp))
  go_wp2_with (fail)
  refine Ho.out.mono ?_
  rintro e w3 ⟨l, d, g, cap, mb, n0, rfl, hn0, hM, hb3⟩
  obtain rfl : n0 = 0 := by
    have : usedOf [] = 0 := rfl
    omega
  have HM := hid (hM.mono Hb2.out.size)
  have HR3 := hid (HR.out.below hb3)
  have Hb3 := hid (Hb2.out.trans (hb3.mono Hb2.out.size))
  clear hM hb3 HR HD2 Ho Hb2
  go_wp2_with (fail)
  refine (refOpen_zero HR3.out S 11 Hnn.out hS (by omega) h2).mono ?_
  rintro e w4 ⟨m, rfl, hb4⟩
  have HM4 := hid (HM.out.below hb4)
  have Hb4 := hid (Hb3.out.trans (hb4.mono Hb3.out.size))
  clear hb4 HM Hb3 HR3
  have hA : At1 w4 0 S 11 0 l d g cap mb 0 (.slice none 0 0) 0 [] [] := by
    have h0 := HM4.out.mono (B' := 0) (Nat.zero_le _)
    rw [Hnn.out] at h0
    exact ⟨h0, inv_new _ S 11 rfl hS (by omega) (by have := Hn.out; omega), Nat.le_refl _, Nat.zero_le _, Nat.zero_le _⟩
  have HN := hid (pgNew_ok hA (by omega) mo hm1 hm2)
  go_wp2_with (fail)
  refine HN.out.mono ?_
  rintro e w5 ⟨p, pm, rfl, hP, hb5, hfr, hl5⟩
  have HP := hid hP
  have Hb5 := hid (Hb4.out.trans (hb5.mono Hb4.out.size))
  have Hfr := hid hfr
  clear hP hb5 hfr HN
  go_wp2_with (fail)
  refine (refPgNew_ok w5 m mo hm1 hm2).mono ?_
  rintro e w6 ⟨q, rfl, hb6⟩
  have HP6 := hid (HP.out.below hb6)
  have Hb6 := hid (Hb5.out.trans (hb6.mono Hb5.out.size))
  clear hb6
  go_wp2
  go_ret3
  refine ⟨p, pm, q, by simp, HP6.out, Hb6.out, fun k hk => ?_⟩
  rcases Hfr.out k hk with hk | hk
  · exact (HM4.out.lts k hk).1
  · have := Hb4.out.size; omega
end Go.Proofs.YtdieafkmnckhaaaGreat

/- The bytes and the first page of a deed, by contracts. -/
namespace Go.Proofs.YtdieafkmnckhaaaGreat
open Go.RowKit Go.Maps Go.Sort Go.Shelf
set_option linter.unusedVariables false
set_option maxRecDepth 20000
/-- the length of a deed's bytes -/
def dLen (sh : Bool) : Nat := if sh then 255 else 256
def BytPost (w : World) (b : UInt8) (n : Nat) (e : Ending) (w' : World) : Prop :=
  ∃ g c, e = .returned (.slice (some ⟨g, 0, none⟩) n c) ∧ w'.ownsRow w.heap.size 5 1 (.slice (some ⟨g, 0, none⟩) n c) n (cellsOf (List.replicate n b)) ∧ w.heap.size ≤ g ∧ Below w.heap.size w w'
set_option maxHeartbeats 800000 in
theorem bytes4_any (kd : Int) (pv : Value) (b : UInt8) (sh : Bool) (w : World) (hp1 : pv.cells = #[pv]) :
    Calls Tryz.prog 36 #[.agg #[.int .i64 kd, pv, .int .u8 (b.toNat : Int), .bool sh]] w (BytPost w b (dLen sh)) := by
  obtain ⟨i0, hi, hz0, hz1, hz2⟩ := info_parts Tryz.info5
  unfold BytPost
  cases sh
  all_goals simp only [dLen, if_true, if_false, Bool.false_eq_true]
  · have hw : Hid (∀ w1 : World, (w1.alloc (.cells #[.int .i64 kd, pv, .int .u8 (b.toNat : Int), .bool false] 31)).heap[w1.heap.size]? = some (.cells #[.int .i64 kd, pv, .int .u8 (b.toNat : Int), .bool false] 31 (0, 0))) := fun w1 => heap_alloc_new w1 _
    go_enter Tryz.func36, Tryz.ntmps36
    go_wp2_with (at_make; refine wpList_make_full _ rfl _ _ 49 rfl (w.heap.size + 1) 5 i0 (.int .u8 0) 1 Tryz.underlying49 hi hz0 hz1 .i64 .i64 _ _ 256 rfl rfl (by omega) (by omega) (by rw [hz2]; omega) (by unfold maxLen; omega) (by simp) ?_; intro w0 hown0 hgrow0)
    go_loopw [5] (fun i wr => ∃ k : Nat, k ≤ 256 ∧ i = .int .i64 k ∧ wr.ownsRow (w.heap.size + 1) 5 1 (.slice (some ⟨w.heap.size + 1, 0, none⟩) 256 256) 256 (cellsOf (laid 256 k b)) ∧ wr.heap[w.heap.size]? = some (.cells #[.int .i64 kd, pv, .int .u8 (b.toNat : Int), .bool false] 31 (0, 0)) ∧ Below w.heap.size w wr) (fun i _ => 256 - (intOf i).toNat)
    case atStart =>
      refine ⟨0, Nat.zero_le _, rfl, by rw [laid_zero, ← made_zeros]; simpa using hown0, (hgrow0.block w.heap.size (by simp) (by simp)).trans (hw.out w), ((Below.refl _ w).alloc (Nat.le_refl _) _).grown hgrow0 (by simp) (by simp)⟩
    case round =>
      obtain ⟨k, hk, rfl, hown, hobj, hbel⟩ := hrel
      have Hobj := hid hobj
      have Hbel := hid hbel
      have c1 := cell_of_row _ _ 2 _ _ _ hobj
      have Hown := hid hown
      clear hobj hbel hgrow0 hown0
      by_cases hlt : k < 256
      · have c2 := (hown.cellAt k (by omega)).trans (cellsOf_get _ k (by rw [laid_length _ _ _ hk]; exact hlt))
        have c3 := hown.frozenAt k
        have Hs := hid (hown.stored k (.int .u8 (b.toNat : Int)))
        clear hown
        generalize ((laid 256 k b)[k]'(by rw [laid_length _ _ _ hk]; exact hlt)).toNat = c0 at c2
        go_wp2
        go_roundw
        case rel => exact ⟨k + 1, by omega, by go_num, by rw [← laid_set _ _ _ hlt]; exact Hs.out.1, (heap_setCell_other _ _ _ _ (by simp)).trans Hobj.out, Hbel.out.setCell (by simp) _⟩
        case measure => simp [intOf]; omega
      · clear hown
        go_wp2
        go_ret
        have hk' : k = 256 := by omega
        have h := Hown.out
        rw [hk', laid_all] at h
        exact ⟨_, _, rfl, h.mono (by omega), by omega, Hbel.out⟩
  · have hw : Hid (∀ w1 : World, (w1.alloc (.cells #[.int .i64 kd, pv, .int .u8 (b.toNat : Int), .bool true] 31)).heap[w1.heap.size]? = some (.cells #[.int .i64 kd, pv, .int .u8 (b.toNat : Int), .bool true] 31 (0, 0))) := fun w1 => heap_alloc_new w1 _
    go_enter Tryz.func36, Tryz.ntmps36
    go_wp2_with (at_make; refine wpList_make_full _ rfl _ _ 49 rfl (w.heap.size + 1) 5 i0 (.int .u8 0) 1 Tryz.underlying49 hi hz0 hz1 .i64 .i64 _ _ 255 rfl rfl (by omega) (by omega) (by rw [hz2]; omega) (by unfold maxLen; omega) (by simp) ?_; intro w0 hown0 hgrow0)
    go_loopw [5] (fun i wr => ∃ k : Nat, k ≤ 255 ∧ i = .int .i64 k ∧ wr.ownsRow (w.heap.size + 1) 5 1 (.slice (some ⟨w.heap.size + 1, 0, none⟩) 255 255) 255 (cellsOf (laid 255 k b)) ∧ wr.heap[w.heap.size]? = some (.cells #[.int .i64 kd, pv, .int .u8 (b.toNat : Int), .bool true] 31 (0, 0)) ∧ Below w.heap.size w wr) (fun i _ => 255 - (intOf i).toNat)
    case atStart =>
      refine ⟨0, Nat.zero_le _, rfl, by rw [laid_zero, ← made_zeros]; simpa using hown0, (hgrow0.block w.heap.size (by simp) (by simp)).trans (hw.out w), ((Below.refl _ w).alloc (Nat.le_refl _) _).grown hgrow0 (by simp) (by simp)⟩
    case round =>
      obtain ⟨k, hk, rfl, hown, hobj, hbel⟩ := hrel
      have Hobj := hid hobj
      have Hbel := hid hbel
      have c1 := cell_of_row _ _ 2 _ _ _ hobj
      have Hown := hid hown
      clear hobj hbel hgrow0 hown0
      by_cases hlt : k < 255
      · have c2 := (hown.cellAt k (by omega)).trans (cellsOf_get _ k (by rw [laid_length _ _ _ hk]; exact hlt))
        have c3 := hown.frozenAt k
        have Hs := hid (hown.stored k (.int .u8 (b.toNat : Int)))
        clear hown
        generalize ((laid 255 k b)[k]'(by rw [laid_length _ _ _ hk]; exact hlt)).toNat = c0 at c2
        go_wp2
        go_roundw
        case rel => exact ⟨k + 1, by omega, by go_num, by rw [← laid_set _ _ _ hlt]; exact Hs.out.1, (heap_setCell_other _ _ _ _ (by simp)).trans Hobj.out, Hbel.out.setCell (by simp) _⟩
        case measure => simp [intOf]; omega
      · clear hown
        go_wp2
        go_ret
        have hk' : k = 255 := by omega
        have h := Hown.out
        rw [hk', laid_all] at h
        exact ⟨_, _, rfl, h.mono (by omega), by omega, Hbel.out⟩
/-- the first page of a deed -/
def firstOf (l : List Int) : Int := l.headD 0
theorem first4_any (kd : Int) (a : Option Addr) (l : List Int) (c : Nat) (b : UInt8) (sh : Bool) (w : World) (hl : IntsAt w a l) (hlen : l.length ≤ 9223372036854775807) :
    Calls Tryz.prog 33 #[.agg #[.int .i64 kd, .slice a l.length c, .int .u8 (b.toNat : Int), .bool sh]] w fun e w' => e = .returned (.int .i64 (firstOf l)) ∧ Below w.heap.size w w' := by
  have hn := heap_alloc_new w (.cells #[.int .i64 kd, .slice a l.length c, .int .u8 (b.toNat : Int), .bool sh] 31)
  have c1 := cell_of_row _ _ 1 _ _ _ hn
  have hb := (Below.refl _ w).alloc (Nat.le_refl _) (.cells #[.int .i64 kd, .slice a l.length c, .int .u8 (b.toNat : Int), .bool sh] 31)
  have HB := hid hb
  cases l with
  | nil =>
    clear hn hb
    go_enter Tryz.func33, Tryz.ntmps33
    go_wp2
    go_ret
    exact ⟨rfl, HB.out⟩
  | cons x t =>
    obtain ⟨b0, o, rfl, h0⟩ := hl 0 (by simp)
    have c2 := (hb.cell (World.block_lt_of_cell? _ _ h0)).trans h0
    simp only [Nat.add_zero, List.getElem_cons_zero] at c2
    have hne : ¬ (((x :: t).length : Nat) : Int) = 0 := by simp; omega
    have hlt : 0 < (x :: t).length := by simp
    have hfo : firstOf (x :: t) = x := rfl
    generalize (x :: t).length = n at *
    clear hn hb hl
    go_enter Tryz.func33, Tryz.ntmps33
    go_wp2
    go_ret
    rw [hfo]
    exact ⟨rfl, HB.out⟩
end Go.Proofs.YtdieafkmnckhaaaGreat

/- What the deeds do to a cache between calls. -/
namespace Go.Proofs.YtdieafkmnckhaaaGreat
open Go.RowKit Go.Maps Go.Sort Go.Shelf
set_option linter.unusedVariables false
set_option maxRecDepth 20000
section
variable {s : PS}
theorem firstUn_mem (hex : ∃ x ∈ s.ord, s.pin x = false) : firstUn s ∈ s.ord := by
  unfold firstUn
  cases hf : s.ord.find? (fun x => !s.pin x) with
  | some y => exact List.mem_of_find?_eq_some hf
  | none =>
    obtain ⟨x, hx, hp⟩ := hex
    have := (List.find?_eq_none.1 hf) x hx
    simp [hp] at this
theorem drop_len (hn : s.ord.Nodup) {q : Nat} (hq : q ∈ s.ord) : (dropS s q).ord.length + 1 = s.ord.length := filter_len hn hq
theorem useS_ext (ok : CaOk s) (he : Ext s) {q : Nat} (hqP : q < s.P) (hd : (s.dl.lookup q).isSome = false) : Ext (useS s q) := by
  have hnd : ∀ c ∈ s.dl, c.1 ≠ q := lookup_none (by cases h : s.dl.lookup q with | none => rfl | some y => rw [h] at hd; cases hd)
  unfold useS
  by_cases hq : q ∈ s.ord
  · rw [if_pos hq]
    refine ⟨?_, fun c hc => ?_⟩
    · have h1 := filter_len ok.nd hq
      have h2 := he.full
      show (s.ord.filter (fun x => x != q) ++ [q]).length ≤ s.mo
      rw [List.length_append, List.length_singleton]
      omega
    · show c.1 ∉ s.ord.filter (fun x => x != q) ++ [q]
      intro hm
      rcases List.mem_append.1 hm with hm | hm
      · exact he.apart c hc (List.mem_filter.1 hm).1
      · exact hnd c hc (by simpa using hm)
  · rw [if_neg hq]
    have hap : ∀ c ∈ s.dl, c.1 ∉ s.ord ++ [q] := fun c hc hm => by
      rcases List.mem_append.1 hm with hm | hm
      · exact he.apart c hc hm
      · exact hnd c hc (by simpa using hm)
    have hl : (missS s q).ord.length = s.ord.length + 1 := by show (s.ord ++ [q]).length = _; simp
    by_cases hm : s.mo < (missS s q).ord.length
    · rw [if_pos hm]
      have hmem : firstUn (missS s q) ∈ (missS s q).ord := firstUn_mem ⟨q, by show q ∈ s.ord ++ [q]; simp, upd_same _ _ _⟩
      have hok : CaOk (pushS { s with mi := s.mi + 1, t := s.t + 1 } q false) := CaOk.push (s := { s with mi := s.mi + 1, t := s.t + 1 }) ⟨ok.nd, ok.olt, ok.ol, ok.mo1, ok.mo2, ok.dup, ok.dlt, ok.dlen, Nat.le_succ_of_le ok.hit, Nat.succ_le_succ ok.mit⟩ hq hqP he.full false
      have h1 := drop_len (s := missS s q) hok.nd hmem
      refine ⟨?_, fun c hc hm' => hap c hc (List.mem_filter.1 hm').1⟩
      have h2 := he.full
      show (dropS (missS s q) _).ord.length ≤ s.mo
      omega
    · rw [if_neg hm]
      exact ⟨by show (missS s q).ord.length ≤ s.mo; omega, fun c hc => hap c hc⟩
theorem readS_ext (ok : CaOk s) (he : Ext s) {q : Nat} (hqP : q < s.P) : Ext (readS s q) := by
  unfold readS
  by_cases h : (s.dl.lookup q).isSome = true
  · rw [if_pos h]; exact he
  · rw [if_neg h]; exact useS_ext ok he hqP (Bool.eq_false_iff.2 h)
theorem writeS_ext (he : Ext s) (q : Nat) (y : List UInt8) : Ext (writeS s q y) := by
  refine ⟨Nat.le_trans (List.length_filter_le _ _) he.full, fun c hc hm => ?_⟩
  have hm' := List.mem_filter.1 hm
  rcases dIns_mem (show c ∈ dIns q y s.dl from hc) with e | e
  · subst e; simp at hm'
  · exact he.apart c e hm'.1
theorem commitS_dl : (commitS s).dl = [] := by
  unfold commitS
  by_cases h0 : s.dl.length = 0
  · rw [if_pos h0]; exact List.length_eq_zero_iff.1 h0
  · rw [if_neg h0]; split <;> rfl
theorem commitS_same : (commitS s).ord = s.ord ∧ (commitS s).mo = s.mo ∧ (commitS s).S = s.S ∧ (commitS s).P = s.P ∧ (commitS s).t = s.t + 3 ∧ (commitS s).hi = s.hi ∧ (commitS s).mi = s.mi := by
  unfold commitS
  split
  · exact ⟨rfl, rfl, rfl, rfl, rfl, rfl, rfl⟩
  · split <;> exact ⟨rfl, rfl, rfl, rfl, rfl, rfl, rfl⟩
theorem commitS_ext (he : Ext s) : Ext (commitS s) := by
  obtain ⟨h1, h2, _⟩ := commitS_same (s := s)
  refine ⟨by rw [h1, h2]; exact he.full, fun c hc => ?_⟩
  rw [commitS_dl] at hc
  cases hc
theorem fullS_ext (he : Ext s) : Ext (fullS s) := ⟨he.full, he.apart⟩
theorem abortS_ext (he : Ext s) : Ext (abortS s) := ⟨he.full, fun c hc => by cases hc⟩
/-- what does not change -/
theorem useS_same (q : Nat) : (useS s q).S = s.S ∧ (useS s q).P = s.P ∧ (useS s q).mo = s.mo ∧ (useS s q).t = s.t + 1 ∧ (useS s q).dl = s.dl ∧ (useS s q).gs = s.gs ∧ (useS s q).ls = s.ls ∧ (useS s q).G = s.G := by
  unfold useS
  split
  · exact ⟨rfl, rfl, rfl, rfl, rfl, rfl, rfl, rfl⟩
  · split <;> exact ⟨rfl, rfl, rfl, rfl, rfl, rfl, rfl, rfl⟩
theorem readS_same (q : Nat) : (readS s q).S = s.S ∧ (readS s q).P = s.P ∧ (readS s q).mo = s.mo ∧ (readS s q).t ≤ s.t + 1 ∧ (readS s q).dl = s.dl ∧ (readS s q).gs = s.gs ∧ (readS s q).ls = s.ls ∧ (readS s q).G = s.G := by
  unfold readS
  split
  · exact ⟨rfl, rfl, rfl, Nat.le_succ _, rfl, rfl, rfl, rfl⟩
  · obtain ⟨h1, h2, h3, h4, h5, h6, h7, h8⟩ := useS_same (s := s) q
    exact ⟨h1, h2, h3, Nat.le_of_eq h4, h5, h6, h7, h8⟩
theorem page_congr {s s' : PS} (h1 : s'.S = s.S) (h2 : s'.P = s.P) (h3 : s'.gs = s.gs) (h4 : s'.ls = s.ls) (q : Nat) : s'.page q = s.page q := by unfold PS.page; rw [h1, h2, h3, h4]
theorem readS_now (q x : Nat) : (readS s q).now x = s.now x := by
  obtain ⟨h1, h2, h3, h4, h5, h6, h7, h8⟩ := readS_same (s := s) q
  unfold PS.now
  rw [h5, page_congr h1 h2 h6 h7]
theorem readS_page (q x : Nat) : (readS s q).page x = s.page x := by
  obtain ⟨h1, h2, h3, h4, h5, h6, h7, h8⟩ := readS_same (s := s) q
  exact page_congr h1 h2 h6 h7 x
theorem writeS_now (ok : CaOk s) (q : Nat) (y : List UInt8) (x : Nat) : (writeS s q y).now x = if x = q then y else s.now x := by
  show ((dIns q y s.dl).lookup x).getD (s.page x) = _
  rw [dIns_lookup ok.dup]
  by_cases hx : x = q
  · rw [if_pos hx, if_pos hx]; rfl
  · rw [if_neg hx, if_neg hx]; rfl
theorem writeS_page (q : Nat) (y : List UInt8) (x : Nat) : (writeS s q y).page x = s.page x := rfl
theorem abortS_now (x : Nat) : (abortS s).now x = s.page x := rfl
theorem fullS_page (hi : LogInv (psOf (fresh s.S s.P) s.ls) s.S s.G s.gs s.P) (hG : s.G < 2 ^ 63) (q : Nat) (hq : q < s.P) : (fullS s).page q = s.page q := page_ck hi hG q hq
theorem fullS_now (hi : LogInv (psOf (fresh s.S s.P) s.ls) s.S s.G s.gs s.P) (hG : s.G < 2 ^ 63) (q : Nat) (hq : q < s.P) : (fullS s).now q = s.now q := by
  show (s.dl.lookup q).getD ((fullS s).page q) = _
  rw [fullS_page hi hG q hq]; rfl
theorem commitS_page {w : World} {p : Nat} {m : PM} (h : PgMem w p m s) (hG : s.G < 2 ^ 63) (hc : comOk s) (q : Nat) (hq : q < s.P) : (commitS s).page q = s.now q := by
  unfold commitS
  by_cases h0 : s.dl.length = 0
  · rw [if_pos h0]
    have e := List.length_eq_zero_iff.1 h0
    unfold PS.now
    rw [e]; rfl
  · rw [if_neg h0]
    by_cases hf : fits s
    · rw [if_pos hf]
      exact page_cm h.log.inv h.ok (by omega) hf q hq
    · rw [if_neg hf]
      have hi2 : LogInv (psOf (fresh (ckS s).S (ckS s).P) (ckS s).ls) (ckS s).S (ckS s).G (ckS s).gs (ckS s).P := by
        show LogInv (psOf (fresh s.S s.P) (s.ls ++ cpWs s.S s.P s.G s.gs s.ls)) s.S s.G [] s.P
        unfold cpWs
        by_cases hu : usedOf s.gs = 0
        · rw [if_pos hu, List.append_nil, ← gs_nil hu]
          exact h.log.inv
        · rw [if_neg hu, psOf_append]
          exact (h.log.inv.check hG).1
      have hf2 : fits (ckS s) := by
        rcases hc with hc | hc
        · omega
        · show 0 + s.dl.length + 1 ≤ s.S; omega
      have e1 := page_cm (s := ckS s) hi2 ⟨h.ok.nd, h.ok.olt, h.ok.ol, h.ok.mo1, h.ok.mo2, h.ok.dup, h.ok.dlt, h.ok.dlen, h.ok.hit, h.ok.mit⟩ (by show 0 < s.dl.length; omega) hf2 q hq
      refine Eq.trans (show _ = (cmS (ckS s)).page q from rfl) (e1.trans ?_)
      show (s.dl.lookup q).getD ((ckS s).page q) = _
      rw [page_ck h.log.inv hG q hq]; rfl
theorem commitS_now {w : World} {p : Nat} {m : PM} (h : PgMem w p m s) (hG : s.G < 2 ^ 63) (hc : comOk s) (q : Nat) (hq : q < s.P) : (commitS s).now q = s.now q := by
  show ((commitS s).dl.lookup q).getD ((commitS s).page q) = _
  rw [commitS_dl, commitS_page h hG hc q hq]; rfl
end
end Go.Proofs.YtdieafkmnckhaaaGreat

/- A cache between calls: its deeds, by contracts that keep what is not its own. -/
namespace Go.Proofs.YtdieafkmnckhaaaGreat
open Go.RowKit Go.Maps Go.Sort Go.Shelf
set_option linter.unusedVariables false
set_option maxRecDepth 20000
/-- a cache, and blocks that are not its own -/
def Cache (w : World) (p : Nat) (s : PS) (F : Nat → Prop) : Prop := ∃ m, PgMem w p m s ∧ Ext s ∧ ∀ k, F k → k < w.heap.size ∧ ¬ allB p m s k
/-- those blocks are as they were -/
abbrev Kept (F : Nat → Prop) (w w' : World) : Prop := Out (fun k => ¬ F k) w w'
section
variable {w w' : World} {p : Nat} {s : PS} {F : Nat → Prop}
theorem Cache.mono {F' : Nat → Prop} (h : Cache w p s F) (hF : ∀ k, F' k → F k) : Cache w p s F' := by
  obtain ⟨m, h1, h2, h3⟩ := h
  exact ⟨m, h1, h2, fun k hk => h3 k (hF k hk)⟩
theorem Cache.below (h : Cache w p s F) (hb : Below w.heap.size w w') : Cache w' p s F := by
  obtain ⟨m, h1, h2, h3⟩ := h
  exact ⟨m, h1.below hb, h2, fun k hk => ⟨Nat.lt_of_lt_of_le (h3 k hk).1 hb.size, (h3 k hk).2⟩⟩
/-- what is new is not its own -/
theorem Cache.add (h : Cache w p s F) (hb : Below w.heap.size w w') : Cache w' p s (fun k => F k ∨ (w.heap.size ≤ k ∧ k < w'.heap.size)) := by
  obtain ⟨m, h1, h2, h3⟩ := h
  refine ⟨m, h1.below hb, h2, fun k hk => ?_⟩
  rcases hk with hk | hk
  · exact ⟨Nat.lt_of_lt_of_le (h3 k hk).1 hb.size, (h3 k hk).2⟩
  · exact ⟨hk.2, fun ha => by have := h1.lts k ha; omega⟩
theorem Kept.of_below (hb : Below w.heap.size w w') : Kept F w w' := ⟨hb.os, hb.tape, hb.output, hb.size, fun k hk _ => hb.block k hk⟩
theorem Kept.get (h : Kept F w w') {k : Nat} (hk : F k) (hl : k < w.heap.size) : w'.heap[k]? = w.heap[k]? := h.block k hl (fun h => h hk)
theorem Kept.to {w'' : World} (h : Kept F w w') (h' : Kept F w' w'') : Kept F w w'' := Out.trans h h' (fun _ _ x => x)
theorem Kept.mono {F' : Nat → Prop} (h : Kept F w w') (hF : ∀ k, F' k → F k) : Kept F' w w' := ⟨h.os, h.tape, h.output, h.size, fun k hk hn => h.block k hk (fun hf => hn (fun hf' => hf (hF k hf')))⟩
theorem Kept.below {B : Nat} (h : Kept F w w') (hB : B ≤ w.heap.size) (hF : ∀ k, k < B → F k) : Below B w w' := ⟨h.os, h.tape, h.output, h.size, fun k hk => h.block k (by omega) (fun x => x (hF k hk))⟩
/-- other blocks of another memory are kept as well -/
theorem kept_of {m m' : PM} {s' : PS} {Q : Nat → Prop} (h : PgMem w p m s) (he : Ext s) (h3 : ∀ k, F k → k < w.heap.size ∧ ¬ allB p m s k) (hm : PgMem w' p m' s') (he' : Ext s') (ho : Out Q w w') (hQ : ∀ k, Q k → allB p m s k) (hf : Fresh w p m s m' s') : Cache w' p s' F ∧ Kept F w w' := by
  refine ⟨⟨m', hm, he', fun k hk => ⟨Nat.lt_of_lt_of_le (h3 k hk).1 ho.size, fun ha => ?_⟩⟩, ⟨ho.os, ho.tape, ho.output, ho.size, fun k hk hn => ho.block k hk (fun hq => hn (fun hfk => (h3 k hfk).2 (hQ k hq)))⟩⟩
  rcases hf k ha with h5 | h5
  · exact (h3 k hk).2 h5
  · have := (h3 k hk).1; omega
/-- Read -/
def ReadC (w : World) (p : Nat) (s : PS) (F : Nat → Prop) (x : Int) (e : Ending) (w' : World) : Prop :=
  (badP s x ∧ e = .returned (.tuple #[.slice none 0 0, .int .i64 2]) ∧ Cache w' p s F ∧ Below w.heap.size w w') ∨
  (¬ badP s x ∧ ∃ b c, e = .returned (.tuple #[.slice (some ⟨b, 0, none⟩) 256 c, .int .i64 0]) ∧ w'.ownsRow w.heap.size 5 1 (.slice (some ⟨b, 0, none⟩) 256 c) 256 (cellsOf (s.now x.toNat)) ∧ Cache w' p (readS s x.toNat) (fun k => F k ∨ k = b) ∧ Kept F w w' ∧ w.heap.size ≤ b)
theorem read_c (h : Cache w p s F) (ht : s.t ≤ 100000) (x : Int) (hx : -9223372036854775808 ≤ x ∧ x ≤ 9223372036854775807) :
    Calls Tryz.prog 32 #[.pointer (some ⟨p, 0, none⟩), .int .i64 x] w (ReadC w p s F x) := by
  have hC := h
  obtain ⟨m, h1, h2, h3⟩ := h
  refine (read_any h1 h2.full ht x hx).mono ?_
  rintro e w' (⟨hb, rfl, hbl⟩ | ⟨hb, b, c, m', rfl, hr, hm, ho, hf, hnb⟩)
  · exact .inl ⟨hb, rfl, hC.below hbl, hbl⟩
  · have hlt : x.toNat < s.P := by unfold badP at hb; omega
    obtain ⟨⟨m2, hm2, he2, h32⟩, hk⟩ := kept_of h1 h2 h3 hm (readS_ext h1.ok h2 hlt) ho (fun k hq => by
      rcases hq with e | e | e
      · exact .inl (.inl e)
      · exact .inl (.inr (.inr (.inr (.inl e))))
      · exact .inl (.inr (.inr (.inl e)))) hf
    have hbl := (hr.lt b rfl)
    refine .inr ⟨hb, b, c, rfl, hr, ⟨m', hm, he2, fun k hk' => ?_⟩, hk, hbl.1⟩
    rcases hk' with hk' | rfl
    · refine ⟨(h32 k hk').1, fun ha => ?_⟩
      rcases hf k ha with h5 | h5
      · exact (h3 k hk').2 h5
      · have := (h3 k hk').1; omega
    · exact ⟨hbl.2, hnb⟩
/-- Write -/
def WriteC (w : World) (p : Nat) (s : PS) (F : Nat → Prop) (x : Int) (y : List UInt8) (e : Ending) (w' : World) : Prop :=
  (writeE s x y.length ≠ 0 ∧ e = .returned (.int .i64 (writeE s x y.length)) ∧ Cache w' p s F ∧ Kept F w w') ∨
  (writeE s x y.length = 0 ∧ e = .returned (.int .i64 0) ∧ Cache w' p (writeS s x.toNat y) F ∧ Kept F w w')
theorem write_c (h : Cache w p s F) (ht : s.t ≤ 100000) (x : Int) (hx : -9223372036854775808 ≤ x ∧ x ≤ 9223372036854775807) (y : List UInt8) (a : Option Addr) (c : Nat) (hy : Bytes w a y) (n : Nat) (hn : n = y.length) :
    Calls Tryz.prog 35 #[.pointer (some ⟨p, 0, none⟩), .int .i64 x, .slice a n c] w (WriteC w p s F x y) := by
  subst hn
  have hC := h
  obtain ⟨m, h1, h2, h3⟩ := h
  refine (pgWrite_any h1 ht x hx y a c hy).mono ?_
  rintro e w' (⟨hb, rfl, hbl⟩ | ⟨hb, rfl, m', _, hm, ho, hf⟩)
  · exact .inl ⟨hb, rfl, hC.below hbl, Kept.of_below hbl⟩
  · exact .inr ⟨hb, rfl, kept_of h1 h2 h3 hm (writeS_ext h2 _ _) ho (fun k hq => by
      rcases hq with (e | e | e) | e
      · exact .inl (.inl e)
      · exact .inl (.inr (.inr (.inr (.inl e))))
      · exact .inl (.inr (.inr (.inl e)))
      · exact .inl (.inr (.inr (.inr (.inr (.inl e)))))) hf⟩
/-- Commit -/
def ComC (w : World) (p : Nat) (s : PS) (F : Nat → Prop) (e : Ending) (w' : World) : Prop :=
  (comOk s ∧ e = .returned (.int .i64 0) ∧ Cache w' p (commitS s) F ∧ Kept F w w') ∨
  (¬ comOk s ∧ e = .returned (.int .i64 7) ∧ Cache w' p (fullS s) F ∧ Kept F w w')
theorem com_c (h : Cache w p s F) (ht : s.t ≤ 7000) (hP : s.P ≤ 100) :
    Calls Tryz.prog 37 #[.pointer (some ⟨p, 0, none⟩)] w (ComC w p s F) := by
  obtain ⟨m, h1, h2, h3⟩ := h
  have hQ : ∀ k, cmB p m k → allB p m s k := fun k hq => by
    rcases hq with e | e | e
    · exact .inl (.inl e)
    · exact .inl (.inr (.inr (.inr (.inr (.inl e)))))
    · exact .inl (.inr (.inl e))
  refine (com_any h1 h2 ht hP).mono ?_
  rintro e w' (⟨hb, rfl, m', _, hm, ho, hf⟩ | ⟨hb, rfl, m', _, hm, ho, hf⟩)
  · exact .inl ⟨hb, rfl, kept_of h1 h2 h3 hm (commitS_ext h2) ho hQ hf⟩
  · exact .inr ⟨hb, rfl, kept_of h1 h2 h3 hm (fullS_ext h2) ho hQ hf⟩
/-- Abort -/
theorem abort_c (h : Cache w p s F) : Calls Tryz.prog 38 #[.pointer (some ⟨p, 0, none⟩)] w fun e w' => e = .returned (.int .i64 (s.dl.length : Int)) ∧ Cache w' p (abortS s) F ∧ Kept F w w' := by
  obtain ⟨m, h1, h2, h3⟩ := h
  refine (pgAbort_any h1).mono ?_
  rintro e w' ⟨rfl, hm, ho, hf⟩
  exact ⟨rfl, kept_of h1 h2 h3 hm (abortS_ext h2) ho (fun k e => .inl (.inr (.inr (.inr (.inr (.inl e)))))) hf⟩
theorem cached_c (h : Cache w p s F) : Calls Tryz.prog 16 #[.pointer (some ⟨p, 0, none⟩)] w fun e w' => ∃ v, e = .returned v ∧ w'.ownsRow w.heap.size 3 1 v s.ord.length (natCells s.ord) ∧ Below w.heap.size w w' := by
  obtain ⟨m, h1, h2, h3⟩ := h
  exact cached_any h1
theorem dirty_c (h : Cache w p s F) (ht : s.t ≤ 1000000) : Calls Tryz.prog 18 #[.pointer (some ⟨p, 0, none⟩)] w fun e w' => ∃ v, e = .returned v ∧ w'.ownsRow w.heap.size 3 1 v s.dl.length (natCells (s.dl.map (·.1))) ∧ Below w.heap.size w w' := by
  obtain ⟨m, h1, h2, h3⟩ := h
  exact dirty_any h1 (Nat.le_trans h1.dnt ht)
theorem hits_c (h : Cache w p s F) : Calls Tryz.prog 20 #[.pointer (some ⟨p, 0, none⟩)] w fun e w' => e = .returned (.int .i64 (s.hi : Int)) ∧ w' = w := by
  obtain ⟨m, h1, h2, h3⟩ := h
  exact hits_any h1
theorem misses_c (h : Cache w p s F) : Calls Tryz.prog 22 #[.pointer (some ⟨p, 0, none⟩)] w fun e w' => e = .returned (.int .i64 (s.mi : Int)) ∧ w' = w := by
  obtain ⟨m, h1, h2, h3⟩ := h
  exact misses_any h1
/-- open -/
theorem open_c (w : World) (S mo : Nat) (hS : 2 ≤ S) (h2 : S + 12 ≤ 1024) (hm1 : 1 ≤ mo) (hm2 : mo ≤ 64) (F : Nat → Prop) (hF : ∀ k, F k → k < w.heap.size) :
    Calls Tryz.prog 12 #[.int .i64 (S : Int), .int .i64 (mo : Int)] w fun e w' => ∃ p q, e = .returned (.tuple #[.pointer (some ⟨p, 0, none⟩), .pointer (some ⟨q, 0, none⟩), .bool true]) ∧ Cache w' p (newS S 11 0 0 [] [] mo) F ∧ Below w.heap.size w w' := by
  refine (lawOpen04 w S mo hS h2 hm1 hm2).mono ?_
  rintro e w' ⟨p, m, q, rfl, hm, hb, hlo⟩
  exact ⟨p, q, rfl, ⟨m, hm, newS_ext _ _ _ _ _ _ _, fun k hk => ⟨Nat.lt_of_lt_of_le (hF k hk) hb.size, fun ha => by have h1 := hlo k ha; have h2 := hF k hk; omega⟩⟩, hb⟩
end
end Go.Proofs.YtdieafkmnckhaaaGreat
