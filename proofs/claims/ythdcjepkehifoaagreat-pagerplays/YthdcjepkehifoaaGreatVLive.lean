/- YthdcjepkehifoaaGreatVNew + YthdcjepkehifoaaGreatVOpen + YthdcjepkehifoaaGreatVDeed + YthdcjepkehifoaaGreatVState + YthdcjepkehifoaaGreatVCache + YthdcjepkehifoaaGreatVLive -/
import Derived.Test.YthdcjepkehifoaaGreatVCommit4
/- New, Abort, Cached, Hits, Misses and Log of package pager, by contracts. -/
namespace Go.Proofs.YthdcjepkehifoaaGreat
open Go.RowKit Go.Maps Go.Sort Go.Shelf
set_option linter.unusedVariables false
set_option maxRecDepth 20000
/-- a new cache -/
def newS (S P t G : Nat) (gs : List (List Nat)) (ls : List (Nat × List UInt8)) (mo : Nat) : PS := ⟨S, P, t, G, gs, ls, mo, [], fun _ => false, [], 0, 0, 0⟩
theorem newS_ok (S P t G : Nat) (gs : List (List Nat)) (ls : List (Nat × List UInt8)) (mo : Nat) (h1 : 1 ≤ mo) (h2 : mo ≤ 64) : CaOk (newS S P t G gs ls mo) :=
  ⟨List.nodup_nil, fun q hq => (by cases hq), by simp [newS], h1, h2, List.Pairwise.nil, fun c hc => (by cases hc), by simp [newS], Nat.zero_le _, Nat.zero_le _⟩
theorem newS_ext (S P t G : Nat) (gs : List (List Nat)) (ls : List (Nat × List UInt8)) (mo : Nat) : Ext (newS S P t G gs ls mo) := ⟨by simp [newS], fun c hc => by cases hc⟩
def NewPost (w : World) (S P t l d g c mm n : Nat) (v : Value) (G : Nat) (gs : List (List Nat)) (ls : List (Nat × List UInt8)) (mo : Nat) (e : Ending) (w' : World) : Prop :=
  ∃ p m, e = .returned (.tuple #[.pointer (some ⟨p, 0, none⟩), .int .i64 0]) ∧ PgMem w' p m (newS S P t G gs ls mo) ∧ Below w.heap.size w w' ∧ (∀ k, allB p m (newS S P t G gs ls mo) k → logBlock l d g mm v k ∨ w.heap.size ≤ k) ∧ m.l = l
set_option maxHeartbeats 1000000 in
theorem pgNew_ok {w : World} {S P t l d g c mm n G : Nat} {v : Value} {gs : List (List Nat)} {ls : List (Nat × List UInt8)} (h : At1 w 0 S P t l d g c mm n v G gs ls) (ht : t ≤ 1000000) (mo : Nat) (h1 : 1 ≤ mo) (h2 : mo ≤ 64) :
    Calls Tryz.prog 72 #[.pointer (some ⟨l, 0, none⟩), .int .i64 (mo : Int)] w (NewPost w S P t l d g c mm n v G gs ls mo) := by
  have hgr := h.gr
  have HG := hid (groups_any h.mem (by omega))
  have H := hid h
  have g1 : decide ((mo : Int) < 1) = false := decide_eq_false (by omega)
  have g2 : decide ((64 : Int) < (mo : Int)) = false := decide_eq_false (by omega)
  have hmm := @run_makeMap Tryz.prog
  clear h
  go_enter Tryz.func72, Tryz.ntmps72
  go_wp2_with (go_at_call 23; refine HG.out.mono ?_; rintro _ w1 ⟨rfl, e9⟩; subst w1)
  go_ret2
  obtain ⟨wa, hwa⟩ : ∃ wa, wa = w.alloc (.map #[] 0) := ⟨_, rfl⟩
  obtain ⟨wb, hwb⟩ : ∃ wb, wb = wa.alloc (.map #[] 0) := ⟨_, rfl⟩
  have sa : wa.heap.size = w.heap.size + 1 := by rw [hwa]; simp
  have sb : wb.heap.size = wa.heap.size + 1 := by rw [hwb]; simp
  have ba : Below w.heap.size w wa := by rw [hwa]; exact (Below.refl _ w).alloc (Nat.le_refl _) _
  have bb : Below wa.heap.size wa wb := by rw [hwb]; exact (Below.refl _ wa).alloc (Nat.le_refl _) _
  obtain ⟨m, hm⟩ : ∃ m : PM, m = ⟨l, d, g, c, mm, n, v, .slice none 0 0, w.heap.size, 0, w.heap.size + 1, 0, fun _ => 0, fun _ => 0, fun _ => 0, fun _ => 0, fun _ => 0⟩ := ⟨_, rfl⟩
  obtain ⟨wc, hwc⟩ : ∃ wc, wc = wb.alloc (.cells (pgObj m (newS S P t G gs ls mo)) 154) := ⟨_, rfl⟩
  have bc : Below wb.heap.size wb wc := by rw [hwc]; exact (Below.refl _ wb).alloc (Nat.le_refl _) _
  have hca : VMap wa w.heap.size 0 (fun _ => none) := by rw [hwa]; exact VMap_made w
  have hdb : VMap wb wa.heap.size 0 (fun _ => none) := by rw [hwb]; exact VMap_made wa
  have bwc : Below w.heap.size w wc := Below.on' (Below.on' ba bb) bc
  have hl := H.out.mem.lts
  suffices hK : NewPost w S P t l d g c mm n v G gs ls mo (.returned (.tuple #[.pointer (some ⟨w.heap.size + 1 + 1, 0, none⟩), .int .i64 0])) wc by
    subst hwc; subst hm; subst hwb; subst hwa; exact hK
  refine ⟨w.heap.size + 1 + 1, m, rfl, ?_, ?_, ?_, by rw [hm]⟩
  · refine ⟨?_, ?_, ?_, ?_, ?_, fun q hq => (by cases hq), fun q hq => (by cases hq), fun q hq => (by cases hq), fun q hq => (by cases hq), ?_, ?_, ?_, ?_, ?_, newS_ok _ _ _ _ _ _ _ h1 h2⟩
    · rw [hwc, ← sa, ← sb]; exact heap_alloc_new _ _
    · subst hm; exact ⟨H.out.mem.below bwc, H.out.inv, H.out.gr, H.out.lsl, H.out.nl⟩
    · subst hm; exact ⟨rfl, .inl ⟨rfl, rfl⟩⟩
    · subst hm; exact (hca.keep (bb.block _ (by omega))).keep (bc.block _ (by omega))
    · subst hm; rw [sa] at hdb; exact hdb.keep (bc.block _ (by omega))
    · subst hm; dsimp only; omega
    · subst hm; dsimp only; have := (hl mm (.inr (.inr (.inr (.inl rfl))))).2; omega
    · subst hm; dsimp only; have := (hl mm (.inr (.inr (.inr (.inl rfl))))).2; omega
    · subst hm; exact Nat.zero_le _
    · subst hm; exact Nat.zero_le _
  · exact bwc
  · subst hm
    rintro k ((rfl | h1 | h1 | rfl | rfl | ⟨q, hq, rfl⟩) | (⟨q, hq, rfl⟩ | ⟨c, hc, rfl⟩))
    · exact .inr (by omega)
    · exact .inl h1
    · cases h1
    · exact .inr (by dsimp only; omega)
    · exact .inr (by dsimp only; omega)
    · cases hq
    · cases hq
    · cases hc
set_option maxHeartbeats 400000 in
theorem pgNew_nil (w : World) (x : Int) : Calls Tryz.prog 72 #[.pointer none, .int .i64 x] w fun e w' => e = .returned (.tuple #[.pointer none, .int .i64 1]) ∧ w' = w := by
  go_enter Tryz.func72, Tryz.ntmps72
  go_wp2
  go_ret2
  exact ⟨rfl, rfl⟩
theorem hits_nil (w : World) : Calls Tryz.prog 58 #[.pointer none] w fun e w' => e = .returned (.int .i64 0) ∧ w' = w := by
  go_enter Tryz.func58, Tryz.ntmps58
  go_wp2
  go_ret
  exact ⟨rfl, rfl⟩
theorem misses_nil (w : World) : Calls Tryz.prog 60 #[.pointer none] w fun e w' => e = .returned (.int .i64 0) ∧ w' = w := by
  go_enter Tryz.func60, Tryz.ntmps60
  go_wp2
  go_ret
  exact ⟨rfl, rfl⟩
theorem pgLog_nil (w : World) : Calls Tryz.prog 62 #[.pointer none] w fun e w' => e = .returned (.pointer none) ∧ w' = w := by
  go_enter Tryz.func62, Tryz.ntmps62
  go_wp2
  go_ret
  exact ⟨rfl, rfl⟩
theorem cached_nil (w : World) : Calls Tryz.prog 54 #[.pointer none] w fun e w' => e = .returned (.slice none 0 0) ∧ w' = w := by
  go_enter Tryz.func54, Tryz.ntmps54
  go_wp2
  go_ret
  exact ⟨rfl, rfl⟩
theorem dirty_nil (w : World) : Calls Tryz.prog 56 #[.pointer none] w fun e w' => e = .returned (.slice none 0 0) ∧ w' = w := by
  go_enter Tryz.func56, Tryz.ntmps56
  go_wp2
  go_ret
  exact ⟨rfl, rfl⟩
theorem pgAbort_nil (w : World) : Calls Tryz.prog 110 #[.pointer none] w fun e w' => e = .returned (.int .i64 0) ∧ w' = w := by
  go_enter Tryz.func110, Tryz.ntmps110
  go_wp2
  go_ret
  exact ⟨rfl, rfl⟩
theorem pgCommit_nil (w : World) : Calls Tryz.prog 68 #[.pointer none] w fun e w' => e = .returned (.int .i64 1) ∧ w' = w := by
  go_enter Tryz.func68, Tryz.ntmps68
  go_wp2
  go_ret
  exact ⟨rfl, rfl⟩
theorem pgReach_nil (w : World) (v : Value) : Calls Tryz.prog 118 #[.pointer none, v] w fun e w' => e = .returned (.int .i64 1) ∧ w' = w := by
  go_enter Tryz.func118, Tryz.ntmps118
  go_wp2
  go_ret
  exact ⟨rfl, rfl⟩
theorem pgPin_nil (w : World) (v : Value) : Calls Tryz.prog 70 #[.pointer none, v] w fun e w' => e = .returned (.int .i64 1) ∧ w' = w := by
  have HR := hid (pgReach_nil w v)
  go_enter Tryz.func70, Tryz.ntmps70
  go_wp2_with (go_at_call 118; refine HR.out.mono ?_; rintro _ w1 ⟨rfl, e9⟩; subst w1)
  go_ret
  exact ⟨rfl, rfl⟩
theorem pgUnpin_nil (w : World) (v : Value) : Calls Tryz.prog 113 #[.pointer none, v] w fun e w' => e = .returned (.int .i64 1) ∧ w' = w := by
  go_enter Tryz.func113, Tryz.ntmps113
  go_wp2
  go_ret
  exact ⟨rfl, rfl⟩
theorem pgRead_nil (w : World) (x : Int) : Calls Tryz.prog 64 #[.pointer none, .int .i64 x] w fun e w' => e = .returned (.tuple #[.slice none 0 0, .int .i64 1]) ∧ Below w.heap.size w w' := by
  go_enter Tryz.func64, Tryz.ntmps64
  go_wp2_with (go_at_call 118; refine (pgReach_nil _ _).mono ?_; rintro _ w1 ⟨rfl, e9⟩; subst w1)
  go_ret2
  exact ⟨rfl, (Below.refl _ w).alloc (Nat.le_refl _) _⟩
theorem pgWrite_nil (w : World) (x : Int) (v : Value) : Calls Tryz.prog 66 #[.pointer none, .int .i64 x, v] w fun e w' => e = .returned (.int .i64 1) ∧ Below w.heap.size w w' := by
  go_enter Tryz.func66, Tryz.ntmps66
  go_wp2_with (go_at_call 118; refine (pgReach_nil _ _).mono ?_; rintro _ w1 ⟨rfl, e9⟩; subst w1)
  go_ret
  exact ⟨rfl, (Below.refl _ w).alloc (Nat.le_refl _) _⟩
section
variable {w : World} {p : Nat} {m : PM} {s : PS}
theorem pgLog_any (h : PgMem w p m s) : Calls Tryz.prog 62 #[.pointer (some ⟨p, 0, none⟩)] w fun e w' => e = .returned (.pointer (some ⟨m.l, 0, none⟩)) ∧ w' = w := by
  have c0 := h.c0
  clear h
  go_enter Tryz.func62, Tryz.ntmps62
  go_wp2
  go_ret
  exact ⟨rfl, rfl⟩
theorem hits_any (h : PgMem w p m s) : Calls Tryz.prog 58 #[.pointer (some ⟨p, 0, none⟩)] w fun e w' => e = .returned (.int .i64 (s.hi : Int)) ∧ w' = w := by
  have c6 := h.c6
  have HL := hid (load_any _ _ _ _ c6)
  clear h
  go_enter Tryz.func58, Tryz.ntmps58
  go_wp2_with (go_at_call 87; refine HL.out.mono ?_; rintro _ w1 ⟨rfl, e9⟩; subst w1)
  go_ret
  exact ⟨rfl, rfl⟩
theorem misses_any (h : PgMem w p m s) : Calls Tryz.prog 60 #[.pointer (some ⟨p, 0, none⟩)] w fun e w' => e = .returned (.int .i64 (s.mi : Int)) ∧ w' = w := by
  have c7 := h.c7
  have HL := hid (load_any _ _ _ _ c7)
  clear h
  go_enter Tryz.func60, Tryz.ntmps60
  go_wp2_with (go_at_call 87; refine HL.out.mono ?_; rintro _ w1 ⟨rfl, e9⟩; subst w1)
  go_ret
  exact ⟨rfl, rfl⟩
theorem natCells_length (l : List Nat) : (natCells l).length = l.length := by simp [natCells]
set_option maxHeartbeats 800000 in
theorem clone_int (w : World) (B : Nat) (v : Value) (l : List Nat) (hl : l.length ≤ 100000) (hown : w.ownsRow B 3 1 v l.length (natCells l)) :
    Calls Tryz.prog 115 #[v] w fun e w' => ∃ v', e = .returned v' ∧ w'.ownsRow w.heap.size 3 1 v' l.length (natCells l) ∧ Below w.heap.size w w' := by
  obtain ⟨i0, hi, hz0, hz1, hz2⟩ := info_parts Tryz.info3
  have q22 : ∀ (w : World) (a : Option Addr) (n c n' c' : Nat), (binOp .eql 30 (.slice a n c) (.slice none n' c')).run Tryz.prog w = .ok (.bool a.isNone) w := fun w a n c n' c' => Lib.run_eql_slice_nil w _ _ a n c n' c' Tryz.underlying30
  rcases hown.2 with ⟨rfl, h0⟩ | ⟨b, cap, cur, rfl, hb, hg, hc, hmx, hsz, htk⟩
  · have hl0 : l = [] := List.length_eq_zero_iff.1 h0
    subst hl0
    clear hown
    go_enter Tryz.func115, Tryz.ntmps115
    go_wp2
    go_ret
    exact ⟨_, rfl, ⟨rfl, .inl ⟨rfl, rfl⟩⟩, Below.refl _ _⟩
  · obtain ⟨n, hn⟩ : ∃ n, n = l.length := ⟨_, rfl⟩
    have HB := hid hown
    rw [← hn]
    rw [← hn] at hl HB
    clear hown hb hg hc hmx hsz htk
    go_enter Tryz.func115, Tryz.ntmps115
    go_wp2_with (at_builtin; refine wpList_append_own _ rfl _ _ 30 rfl w.heap.size 3 i0 (.int .i64 0) 1 8 Tryz.underlying30 hi hz0 hz1 hz2 rfl (by decide) _ _ _ rfl (World.ownsRow_made w #[] 0 (Nat.le_refl _) (Nat.zero_le _) rfl) ⟨b, 0, none⟩ n cap (natCells l) rfl ?qc1 ?qc2 ?qc3 ?qc4 ?qc5 ?qc6 ?_)
    case qc1 => simp [natCells_length, hn]
    case qc2 =>
      intro j u hj
      have hjn : j < n := by
        have := (List.getElem?_eq_some_iff.1 hj).1
        rw [natCells_length] at this; omega
      have hc := HB.out.cellAt j (by omega)
      rw [hj] at hc
      rw [addr_add, Nat.zero_add]
      exact (World.cell?_alloc_some _ _ _ (by rw [hc]; rfl)).trans hc
    case qc3 =>
      intro u hu
      unfold natCells at hu
      obtain ⟨x, _, rfl⟩ := List.mem_map.1 hu
      rfl
    case qc4 => unfold maxLen; omega
    case qc5 => omega
    case qc6 => simp
    intro v' w1 hown hgrow hnil
    go_wp2
    go_ret
    refine ⟨v', rfl, by subst hn; simpa using hown, ((Below.refl _ w).alloc (Nat.le_refl _) _).grown hgrow (by simp) (by intro k hk; simp [Value.ownBlock] at hk; omega)⟩
theorem cached_any (h : PgMem w p m s) : Calls Tryz.prog 54 #[.pointer (some ⟨p, 0, none⟩)] w fun e w' => ∃ v, e = .returned v ∧ w'.ownsRow w.heap.size 3 1 v s.ord.length (natCells s.ord) ∧ Below w.heap.size w w' := by
  have c4 := h.c4
  have HC := hid (clone_int w 0 m.ov s.ord (by have := h.ok.ol; have := h.ok.mo2; omega) h.row)
  clear h
  go_enter Tryz.func54, Tryz.ntmps54
  go_wp2_with fail
  refine HC.out.mono ?_
  rintro _ w1 ⟨v1, rfl, hr, hb⟩
  go_wp2
  go_ret
  exact ⟨_, rfl, hr, hb⟩
/-- the dirty pages are forgotten -/
def abortS (s : PS) : PS := { s with dl := [] }
theorem PgMem.abort {w1 : World} (h : PgMem w p m s) (hdm : VMap w1 m.dm 0 (fun _ => none)) (hg : w.grownBy w1 (some m.dm)) : PgMem w1 p { m with dn := 0 } (abortS s) ∧ Out (fun k => k = m.dm) w w1 := by
  have o2 : Out (fun k => k = m.dm) w w1 := Out.of_grown hg rfl
  have k : ∀ j, j < w.heap.size → j ≠ m.dm → w1.heap[j]? = w.heap[j]? := fun j hj hp => o2.block j hj hp
  refine ⟨⟨(k p (heap_lt h.obj) h.p_dm).trans h.obj, ⟨h.log.mem.keep fun j hj => k j (h.log.mem.lts j hj).2 (fun e => h.dm_not (e ▸ hj)), h.log.inv, h.log.gr, h.log.lsl, h.log.nl⟩, ownsRow_keep h.row (fun j hj => k j (h.row.lt j hj).2 (fun e => h.ov_dm (e ▸ hj))), h.cmap.keep (k _ h.cmap.lt h.cd), VMap.congr hdm (fun q => by simp [diOf, abortS]), fun q hq => (k _ (heap_lt (h.frm q hq)) (h.fr_ne hq).2.2.2.2).trans (h.frm q hq), fun q hq => ?_, fun c hc => (by cases hc), h.inj, h.cd, h.cl, h.dm', h.cnt, Nat.zero_le _, ⟨h.ok.nd, h.ok.olt, h.ok.ol, h.ok.mo1, h.ok.mo2, List.Pairwise.nil, fun c hc => (by cases hc), by simp [abortS], h.ok.hit, h.ok.mit⟩⟩, o2⟩
  have hb := h.fby q hq
  exact hb.keep (k _ hb.lt (fun e => h.byt hb (.inr (.inr (.inr (.inr (.inl e)))))))
def AbortPost (w : World) (p : Nat) (m : PM) (s : PS) (e : Ending) (w' : World) : Prop :=
  e = .returned (.int .i64 (s.dl.length : Int)) ∧ PgMem w' p { m with dn := 0 } (abortS s) ∧ Out (fun k => k = m.dm) w w' ∧ Fresh w p m s { m with dn := 0 } (abortS s)
theorem pgAbort_any (h : PgMem w p m s) : Calls Tryz.prog 110 #[.pointer (some ⟨p, 0, none⟩)] w (AbortPost w p m s) := by
  have c5 := h.c5
  have hlen := fun ty => h.dlen ty
  obtain ⟨w4, hrun, hdm, hg⟩ := h.dmap.clear Tryz.underlying152 0
  have HF := hid (h.abort hdm hg)
  have HFr : Hid (Fresh w p m s { m with dn := 0 } (abortS s)) := by
    rintro k ((e | e | e | e | e | ⟨x, hx, e⟩) | (⟨x, hx, e⟩ | ⟨c, hc, e⟩))
    · exact .inl (.inl (.inl e))
    · exact .inl (.inl (.inr (.inl e)))
    · exact .inl (.inl (.inr (.inr (.inl e))))
    · exact .inl (.inl (.inr (.inr (.inr (.inl e)))))
    · exact .inl (.inl (.inr (.inr (.inr (.inr (.inl e))))))
    · exact .inl (.inl (.inr (.inr (.inr (.inr (.inr ⟨x, hx, e⟩))))))
    · exact .inl (.inr (.inl ⟨x, hx, e⟩))
    · cases hc
  clear h hdm hg
  go_enter Tryz.func110, Tryz.ntmps110
  go_wp2
  go_ret
  exact ⟨rfl, HF.out.1, HF.out.2, HFr.out⟩
end
end Go.Proofs.YthdcjepkehifoaaGreat

/- open of law 4. -/
namespace Go.Proofs.YthdcjepkehifoaaGreat
open Go.RowKit Go.Maps Go.Sort Go.Shelf
set_option linter.unusedVariables false
set_option maxRecDepth 20000
set_option maxHeartbeats 400000 in
theorem refPgNew_ok (w : World) (l mo : Nat) (h1 : 1 ≤ mo) (h2 : mo ≤ 64) :
    Calls Tryz.prog 106 #[.pointer (some ⟨l, 0, none⟩), .int .i64 (mo : Int)] w fun e w' => ∃ q, e = .returned (.tuple #[.pointer (some ⟨q, 0, none⟩), .int .i64 0]) ∧ Below w.heap.size w w' := by
  have g1 : decide ((mo : Int) < 1) = false := decide_eq_false (by omega)
  have g2 : decide ((64 : Int) < (mo : Int)) = false := decide_eq_false (by omega)
  go_enter Tryz.func106, Tryz.ntmps106
  go_wp2
  go_ret2
  exact ⟨_, rfl, (Below.refl _ w).alloc (Nat.le_refl _) _⟩
/-- a new cache over a new disk -/
def Open4 (S mo : Nat) (w : World) (e : Ending) (w' : World) : Prop :=
  ∃ p m q, e = .returned (.tuple #[.pointer (some ⟨p, 0, none⟩), .pointer (some ⟨q, 0, none⟩), .bool true]) ∧ PgMem w' p m (newS S 11 0 0 [] [] mo) ∧ Below w.heap.size w w' ∧ ∀ k, allB p m (newS S 11 0 0 [] [] mo) k → w.heap.size ≤ k
set_option maxHeartbeats 1600000 in
theorem lawOpen04 (w : World) (S mo : Nat) (hS : 2 ≤ S) (h2 : S + 12 ≤ 1024) (hm1 : 1 ≤ mo) (hm2 : mo ≤ 64) :
    Calls Tryz.prog 51 #[.int .i64 (S : Int), .int .i64 (mo : Int)] w (Open4 S mo w) := by
  obtain ⟨n, hn⟩ : ∃ n, n = S + 12 := ⟨_, rfl⟩
  have Hn := hid hn
  have hw : IntKind.i64.wrap ((S : Int) + 12) = (n : Int) := by rw [IntKind.wrap_i64]; omega
  rw [← hn] at h2
  clear hn
  have h1 : 1 ≤ n := by have := Hn.out; omega
  have Hnn : Hid (n = S + 1 + 11) := by show _ = _; have := Hn.out; omega
  go_enter Tryz.func51, Tryz.ntmps51
  go_wp2_with (fail)
  refine (new_ok n w h1 h2).mono ?_
  rintro e w1 ⟨d0, g0, cap0, rfl, hD, hb1⟩
  have HD := hid hD
  have Hb1 := hid hb1
  clear hD hb1
  go_wp2_with (fail)
  refine (refNew_ok n w1 h1 h2).mono ?_
  rintro e w2 ⟨r, F, vs, rfl, hR, hb2⟩
  have HR := hid hR
  have HD2 := hid (HD.out.below hb2)
  have Hb2 := hid (Hb1.out.trans (hb2.mono Hb1.out.size))
  clear hR hb2 HD Hb1
  have Ho := hid (open_ok HD2.out S 0 11 [] (by exact inv_new n S 11 Hnn.out hS (by omega) h2) (by omega) (by simp))
  go_wp2_with (fail)
  refine Ho.out.mono ?_
  rintro e w3 ⟨l, d, g, cap, mb, n0, rfl, hn0, hM, hb3⟩
  obtain rfl : n0 = 0 := by
    have : usedOf [] = 0 := rfl
    omega
  have HM := hid (hM.mono Hb2.out.size)
  have HR3 := hid (HR.out.below hb3)
  have Hb3 := hid (Hb2.out.trans (hb3.mono Hb2.out.size))
  clear hM hb3 HR HD2 Ho Hb2
  go_wp2_with (fail)
  refine (refOpen_zero HR3.out S 11 Hnn.out hS (by omega) h2).mono ?_
  rintro e w4 ⟨m, rfl, hb4⟩
  have HM4 := hid (HM.out.below hb4)
  have Hb4 := hid (Hb3.out.trans (hb4.mono Hb3.out.size))
  clear hb4 HM Hb3 HR3
  have hA : At1 w4 0 S 11 0 l d g cap mb 0 (.slice none 0 0) 0 [] [] := by
    have h0 := HM4.out.mono (B' := 0) (Nat.zero_le _)
    rw [Hnn.out] at h0
    exact ⟨h0, inv_new _ S 11 rfl hS (by omega) (by have := Hn.out; omega), Nat.le_refl _, Nat.zero_le _, Nat.zero_le _⟩
  have HN := hid (pgNew_ok hA (by omega) mo hm1 hm2)
  go_wp2_with (fail)
  refine HN.out.mono ?_
  rintro e w5 ⟨p, pm, rfl, hP, hb5, hfr, hl5⟩
  have HP := hid hP
  have Hb5 := hid (Hb4.out.trans (hb5.mono Hb4.out.size))
  have Hfr := hid hfr
  clear hP hb5 hfr HN
  go_wp2_with (fail)
  refine (refPgNew_ok w5 m mo hm1 hm2).mono ?_
  rintro e w6 ⟨q, rfl, hb6⟩
  have HP6 := hid (HP.out.below hb6)
  have Hb6 := hid (Hb5.out.trans (hb6.mono Hb5.out.size))
  clear hb6
  go_wp2
  go_ret3
  refine ⟨p, pm, q, by simp, HP6.out, Hb6.out, fun k hk => ?_⟩
  rcases Hfr.out k hk with hk | hk
  · exact (HM4.out.lts k hk).1
  · have := Hb4.out.size; omega
end Go.Proofs.YthdcjepkehifoaaGreat

/- The bytes and the first page of a deed, by contracts. -/
namespace Go.Proofs.YthdcjepkehifoaaGreat
open Go.RowKit Go.Maps Go.Sort Go.Shelf
set_option linter.unusedVariables false
set_option maxRecDepth 20000
/-- the length of a deed's bytes -/
def dLen (sh : Bool) : Nat := if sh then 255 else 256
def BytPost (w : World) (b : UInt8) (n : Nat) (e : Ending) (w' : World) : Prop :=
  ∃ g c, e = .returned (.slice (some ⟨g, 0, none⟩) n c) ∧ w'.ownsRow w.heap.size 5 1 (.slice (some ⟨g, 0, none⟩) n c) n (cellsOf (List.replicate n b)) ∧ w.heap.size ≤ g ∧ Below w.heap.size w w'
set_option maxHeartbeats 800000 in
theorem bytes4_any (kd : Int) (pv : Value) (b : UInt8) (sh : Bool) (w : World) (hp1 : pv.cells = #[pv]) :
    Calls Tryz.prog 67 #[.agg #[.int .i64 kd, pv, .int .u8 (b.toNat : Int), .bool sh]] w (BytPost w b (dLen sh)) := by
  obtain ⟨i0, hi, hz0, hz1, hz2⟩ := info_parts Tryz.info5
  unfold BytPost
  cases sh
  all_goals simp only [dLen, if_true, if_false, Bool.false_eq_true]
  · have hw : Hid (∀ w1 : World, (w1.alloc (.cells #[.int .i64 kd, pv, .int .u8 (b.toNat : Int), .bool false] 79)).heap[w1.heap.size]? = some (.cells #[.int .i64 kd, pv, .int .u8 (b.toNat : Int), .bool false] 79 (0, 0))) := fun w1 => heap_alloc_new w1 _
    go_enter Tryz.func67, Tryz.ntmps67
    go_wp2_with (at_make; refine wpList_make_full _ rfl _ _ 36 rfl (w.heap.size + 1) 5 i0 (.int .u8 0) 1 Tryz.underlying36 hi hz0 hz1 .i64 .i64 _ _ 256 rfl rfl (by omega) (by omega) (by rw [hz2]; omega) (by unfold maxLen; omega) (by simp) ?_; intro w0 hown0 hgrow0)
    go_loopw [5] (fun i wr => ∃ k : Nat, k ≤ 256 ∧ i = .int .i64 k ∧ wr.ownsRow (w.heap.size + 1) 5 1 (.slice (some ⟨w.heap.size + 1, 0, none⟩) 256 256) 256 (cellsOf (laid 256 k b)) ∧ wr.heap[w.heap.size]? = some (.cells #[.int .i64 kd, pv, .int .u8 (b.toNat : Int), .bool false] 79 (0, 0)) ∧ Below w.heap.size w wr) (fun i _ => 256 - (intOf i).toNat)
    case atStart =>
      refine ⟨0, Nat.zero_le _, rfl, by rw [laid_zero, ← made_zeros]; simpa using hown0, (hgrow0.block w.heap.size (by simp) (by simp)).trans (hw.out w), ((Below.refl _ w).alloc (Nat.le_refl _) _).grown hgrow0 (by simp) (by simp)⟩
    case round =>
      obtain ⟨k, hk, rfl, hown, hobj, hbel⟩ := hrel
      have Hobj := hid hobj
      have Hbel := hid hbel
      have c1 := cell_of_row _ _ 2 _ _ _ hobj
      have Hown := hid hown
      clear hobj hbel hgrow0 hown0
      by_cases hlt : k < 256
      · have c2 := (hown.cellAt k (by omega)).trans (cellsOf_get _ k (by rw [laid_length _ _ _ hk]; exact hlt))
        have c3 := hown.frozenAt k
        have Hs := hid (hown.stored k (.int .u8 (b.toNat : Int)))
        clear hown
        generalize ((laid 256 k b)[k]'(by rw [laid_length _ _ _ hk]; exact hlt)).toNat = c0 at c2
        go_wp2
        go_roundw
        case rel => exact ⟨k + 1, by omega, by go_num, by rw [← laid_set _ _ _ hlt]; exact Hs.out.1, (heap_setCell_other _ _ _ _ (by simp)).trans Hobj.out, Hbel.out.setCell (by simp) _⟩
        case measure => simp [intOf]; omega
      · clear hown
        go_wp2
        go_ret
        have hk' : k = 256 := by omega
        have h := Hown.out
        rw [hk', laid_all] at h
        exact ⟨_, _, rfl, h.mono (by omega), by omega, Hbel.out⟩
  · have hw : Hid (∀ w1 : World, (w1.alloc (.cells #[.int .i64 kd, pv, .int .u8 (b.toNat : Int), .bool true] 79)).heap[w1.heap.size]? = some (.cells #[.int .i64 kd, pv, .int .u8 (b.toNat : Int), .bool true] 79 (0, 0))) := fun w1 => heap_alloc_new w1 _
    go_enter Tryz.func67, Tryz.ntmps67
    go_wp2_with (at_make; refine wpList_make_full _ rfl _ _ 36 rfl (w.heap.size + 1) 5 i0 (.int .u8 0) 1 Tryz.underlying36 hi hz0 hz1 .i64 .i64 _ _ 255 rfl rfl (by omega) (by omega) (by rw [hz2]; omega) (by unfold maxLen; omega) (by simp) ?_; intro w0 hown0 hgrow0)
    go_loopw [5] (fun i wr => ∃ k : Nat, k ≤ 255 ∧ i = .int .i64 k ∧ wr.ownsRow (w.heap.size + 1) 5 1 (.slice (some ⟨w.heap.size + 1, 0, none⟩) 255 255) 255 (cellsOf (laid 255 k b)) ∧ wr.heap[w.heap.size]? = some (.cells #[.int .i64 kd, pv, .int .u8 (b.toNat : Int), .bool true] 79 (0, 0)) ∧ Below w.heap.size w wr) (fun i _ => 255 - (intOf i).toNat)
    case atStart =>
      refine ⟨0, Nat.zero_le _, rfl, by rw [laid_zero, ← made_zeros]; simpa using hown0, (hgrow0.block w.heap.size (by simp) (by simp)).trans (hw.out w), ((Below.refl _ w).alloc (Nat.le_refl _) _).grown hgrow0 (by simp) (by simp)⟩
    case round =>
      obtain ⟨k, hk, rfl, hown, hobj, hbel⟩ := hrel
      have Hobj := hid hobj
      have Hbel := hid hbel
      have c1 := cell_of_row _ _ 2 _ _ _ hobj
      have Hown := hid hown
      clear hobj hbel hgrow0 hown0
      by_cases hlt : k < 255
      · have c2 := (hown.cellAt k (by omega)).trans (cellsOf_get _ k (by rw [laid_length _ _ _ hk]; exact hlt))
        have c3 := hown.frozenAt k
        have Hs := hid (hown.stored k (.int .u8 (b.toNat : Int)))
        clear hown
        generalize ((laid 255 k b)[k]'(by rw [laid_length _ _ _ hk]; exact hlt)).toNat = c0 at c2
        go_wp2
        go_roundw
        case rel => exact ⟨k + 1, by omega, by go_num, by rw [← laid_set _ _ _ hlt]; exact Hs.out.1, (heap_setCell_other _ _ _ _ (by simp)).trans Hobj.out, Hbel.out.setCell (by simp) _⟩
        case measure => simp [intOf]; omega
      · clear hown
        go_wp2
        go_ret
        have hk' : k = 255 := by omega
        have h := Hown.out
        rw [hk', laid_all] at h
        exact ⟨_, _, rfl, h.mono (by omega), by omega, Hbel.out⟩
/-- the first page of a deed -/
def firstOf (l : List Int) : Int := l.headD 0
theorem first4_any (kd : Int) (a : Option Addr) (l : List Int) (c : Nat) (b : UInt8) (sh : Bool) (w : World) (hl : IntsAt w a l) (hlen : l.length ≤ 9223372036854775807) :
    Calls Tryz.prog 65 #[.agg #[.int .i64 kd, .slice a l.length c, .int .u8 (b.toNat : Int), .bool sh]] w fun e w' => e = .returned (.int .i64 (firstOf l)) ∧ Below w.heap.size w w' := by
  have hn := heap_alloc_new w (.cells #[.int .i64 kd, .slice a l.length c, .int .u8 (b.toNat : Int), .bool sh] 79)
  have c1 := cell_of_row _ _ 1 _ _ _ hn
  have hb := (Below.refl _ w).alloc (Nat.le_refl _) (.cells #[.int .i64 kd, .slice a l.length c, .int .u8 (b.toNat : Int), .bool sh] 79)
  have HB := hid hb
  cases l with
  | nil =>
    clear hn hb
    go_enter Tryz.func65, Tryz.ntmps65
    go_wp2
    go_ret
    exact ⟨rfl, HB.out⟩
  | cons x t =>
    obtain ⟨b0, o, rfl, h0⟩ := hl 0 (by simp)
    have c2 := (hb.cell (World.block_lt_of_cell? _ _ h0)).trans h0
    simp only [Nat.add_zero, List.getElem_cons_zero] at c2
    have hne : ¬ (((x :: t).length : Nat) : Int) = 0 := by simp; omega
    have hlt : 0 < (x :: t).length := by simp
    have hfo : firstOf (x :: t) = x := rfl
    generalize (x :: t).length = n at *
    clear hn hb hl
    go_enter Tryz.func65, Tryz.ntmps65
    go_wp2
    go_ret
    rw [hfo]
    exact ⟨rfl, HB.out⟩
end Go.Proofs.YthdcjepkehifoaaGreat

/- What the deeds do to a cache between calls. -/
namespace Go.Proofs.YthdcjepkehifoaaGreat
open Go.RowKit Go.Maps Go.Sort Go.Shelf
set_option linter.unusedVariables false
set_option maxRecDepth 20000
section
variable {s : PS}
theorem firstUn_mem (hex : ∃ x ∈ s.ord, s.pin x = false) : firstUn s ∈ s.ord := by
  unfold firstUn
  cases hf : s.ord.find? (fun x => !s.pin x) with
  | some y => exact List.mem_of_find?_eq_some hf
  | none =>
    obtain ⟨x, hx, hp⟩ := hex
    have := (List.find?_eq_none.1 hf) x hx
    simp [hp] at this
theorem drop_len (hn : s.ord.Nodup) {q : Nat} (hq : q ∈ s.ord) : (dropS s q).ord.length + 1 = s.ord.length := filter_len hn hq
theorem useS_ext (ok : CaOk s) (he : Ext s) {q : Nat} (hqP : q < s.P) (hd : (s.dl.lookup q).isSome = false) : Ext (useS s q) := by
  have hnd : ∀ c ∈ s.dl, c.1 ≠ q := lookup_none (by cases h : s.dl.lookup q with | none => rfl | some y => rw [h] at hd; cases hd)
  unfold useS
  by_cases hq : q ∈ s.ord
  · rw [if_pos hq]
    refine ⟨?_, fun c hc => ?_⟩
    · have h1 := filter_len ok.nd hq
      have h2 := he.full
      show (s.ord.filter (fun x => x != q) ++ [q]).length ≤ s.mo
      rw [List.length_append, List.length_singleton]
      omega
    · show c.1 ∉ s.ord.filter (fun x => x != q) ++ [q]
      intro hm
      rcases List.mem_append.1 hm with hm | hm
      · exact he.apart c hc (List.mem_filter.1 hm).1
      · exact hnd c hc (by simpa using hm)
  · rw [if_neg hq]
    have hap : ∀ c ∈ s.dl, c.1 ∉ s.ord ++ [q] := fun c hc hm => by
      rcases List.mem_append.1 hm with hm | hm
      · exact he.apart c hc hm
      · exact hnd c hc (by simpa using hm)
    have hl : (missS s q).ord.length = s.ord.length + 1 := by show (s.ord ++ [q]).length = _; simp
    by_cases hm : s.mo < (missS s q).ord.length
    · rw [if_pos hm]
      have hmem : firstUn (missS s q) ∈ (missS s q).ord := firstUn_mem ⟨q, by show q ∈ s.ord ++ [q]; simp, upd_same _ _ _⟩
      have hok : CaOk (pushS { s with mi := s.mi + 1, u := s.u + 1 } q false) := CaOk.push (s := { s with mi := s.mi + 1, u := s.u + 1 }) ⟨ok.nd, ok.olt, ok.ol, ok.mo1, ok.mo2, ok.dup, ok.dlt, ok.dlen, Nat.le_succ_of_le ok.hit, Nat.succ_le_succ ok.mit⟩ hq hqP he.full false
      have h1 := drop_len (s := missS s q) hok.nd hmem
      refine ⟨?_, fun c hc hm' => hap c hc (List.mem_filter.1 hm').1⟩
      have h2 := he.full
      show (dropS (missS s q) _).ord.length ≤ s.mo
      omega
    · rw [if_neg hm]
      exact ⟨by show (missS s q).ord.length ≤ s.mo; omega, fun c hc => hap c hc⟩
theorem readS_ext (ok : CaOk s) (he : Ext s) {q : Nat} (hqP : q < s.P) : Ext (readS s q) := by
  unfold readS
  by_cases h : (s.dl.lookup q).isSome = true
  · rw [if_pos h]; exact he
  · rw [if_neg h]; exact useS_ext ok he hqP (Bool.eq_false_iff.2 h)
theorem writeS_ext (he : Ext s) (q : Nat) (y : List UInt8) : Ext (writeS s q y) := by
  refine ⟨Nat.le_trans (List.length_filter_le _ _) he.full, fun c hc hm => ?_⟩
  have hm' := List.mem_filter.1 hm
  rcases dIns_mem (show c ∈ dIns q y s.dl from hc) with e | e
  · subst e; simp at hm'
  · exact he.apart c e hm'.1
theorem commitS_dl : (commitS s).dl = [] := by
  unfold commitS
  by_cases h0 : s.dl.length = 0
  · rw [if_pos h0]; exact List.length_eq_zero_iff.1 h0
  · rw [if_neg h0]; split <;> rfl
theorem commitS_same : (commitS s).ord = s.ord ∧ (commitS s).mo = s.mo ∧ (commitS s).S = s.S ∧ (commitS s).P = s.P ∧ (commitS s).t = s.t + 3 ∧ (commitS s).hi = s.hi ∧ (commitS s).mi = s.mi := by
  unfold commitS
  split
  · exact ⟨rfl, rfl, rfl, rfl, rfl, rfl, rfl⟩
  · split <;> exact ⟨rfl, rfl, rfl, rfl, rfl, rfl, rfl⟩
theorem commitS_ext (he : Ext s) : Ext (commitS s) := by
  obtain ⟨h1, h2, _⟩ := commitS_same (s := s)
  refine ⟨by rw [h1, h2]; exact he.full, fun c hc => ?_⟩
  rw [commitS_dl] at hc
  cases hc
theorem fullS_ext (he : Ext s) : Ext (fullS s) := ⟨he.full, he.apart⟩
theorem abortS_ext (he : Ext s) : Ext (abortS s) := ⟨he.full, fun c hc => by cases hc⟩
/-- what does not change -/
theorem useS_same (q : Nat) : (useS s q).S = s.S ∧ (useS s q).P = s.P ∧ (useS s q).mo = s.mo ∧ (useS s q).t = s.t ∧ (useS s q).dl = s.dl ∧ (useS s q).gs = s.gs ∧ (useS s q).ls = s.ls ∧ (useS s q).G = s.G := by
  unfold useS
  split
  · exact ⟨rfl, rfl, rfl, rfl, rfl, rfl, rfl, rfl⟩
  · split <;> exact ⟨rfl, rfl, rfl, rfl, rfl, rfl, rfl, rfl⟩
theorem readS_same (q : Nat) : (readS s q).S = s.S ∧ (readS s q).P = s.P ∧ (readS s q).mo = s.mo ∧ (readS s q).t ≤ s.t + 1 ∧ (readS s q).dl = s.dl ∧ (readS s q).gs = s.gs ∧ (readS s q).ls = s.ls ∧ (readS s q).G = s.G := by
  unfold readS
  split
  · exact ⟨rfl, rfl, rfl, Nat.le_succ _, rfl, rfl, rfl, rfl⟩
  · obtain ⟨h1, h2, h3, h4, h5, h6, h7, h8⟩ := useS_same (s := s) q
    exact ⟨h1, h2, h3, by omega, h5, h6, h7, h8⟩
theorem page_congr {s s' : PS} (h1 : s'.S = s.S) (h2 : s'.P = s.P) (h3 : s'.gs = s.gs) (h4 : s'.ls = s.ls) (q : Nat) : s'.page q = s.page q := by unfold PS.page; rw [h1, h2, h3, h4]
theorem useS_u (q : Nat) : (useS s q).u = s.u + 1 := by
  unfold useS
  split
  · rfl
  · split <;> rfl
theorem readS_u (q : Nat) : (readS s q).u ≤ s.u + 1 := by
  unfold readS
  split
  · exact Nat.le_succ _
  · rw [useS_u]; exact Nat.le_refl _
theorem commitS_u : (commitS s).u = s.u := by
  unfold commitS
  split
  · rfl
  · split <;> rfl
theorem readS_now (q x : Nat) : (readS s q).now x = s.now x := by
  obtain ⟨h1, h2, h3, h4, h5, h6, h7, h8⟩ := readS_same (s := s) q
  unfold PS.now
  rw [h5, page_congr h1 h2 h6 h7]
theorem readS_page (q x : Nat) : (readS s q).page x = s.page x := by
  obtain ⟨h1, h2, h3, h4, h5, h6, h7, h8⟩ := readS_same (s := s) q
  exact page_congr h1 h2 h6 h7 x
theorem writeS_now (ok : CaOk s) (q : Nat) (y : List UInt8) (x : Nat) : (writeS s q y).now x = if x = q then y else s.now x := by
  show ((dIns q y s.dl).lookup x).getD (s.page x) = _
  rw [dIns_lookup ok.dup]
  by_cases hx : x = q
  · rw [if_pos hx, if_pos hx]; rfl
  · rw [if_neg hx, if_neg hx]; rfl
theorem writeS_page (q : Nat) (y : List UInt8) (x : Nat) : (writeS s q y).page x = s.page x := rfl
theorem abortS_now (x : Nat) : (abortS s).now x = s.page x := rfl
theorem fullS_page (hi : LogInv (psOf (fresh s.S s.P) s.ls) s.S s.G s.gs s.P) (hG : s.G < 2 ^ 63) (q : Nat) (hq : q < s.P) : (fullS s).page q = s.page q := page_ck hi hG q hq
theorem fullS_now (hi : LogInv (psOf (fresh s.S s.P) s.ls) s.S s.G s.gs s.P) (hG : s.G < 2 ^ 63) (q : Nat) (hq : q < s.P) : (fullS s).now q = s.now q := by
  show (s.dl.lookup q).getD ((fullS s).page q) = _
  rw [fullS_page hi hG q hq]; rfl
theorem commitS_page {w : World} {p : Nat} {m : PM} (h : PgMem w p m s) (hG : s.G < 2 ^ 63) (hc : comOk s) (q : Nat) (hq : q < s.P) : (commitS s).page q = s.now q := by
  unfold commitS
  by_cases h0 : s.dl.length = 0
  · rw [if_pos h0]
    have e := List.length_eq_zero_iff.1 h0
    unfold PS.now
    rw [e]; rfl
  · rw [if_neg h0]
    by_cases hf : fits s
    · rw [if_pos hf]
      exact page_cm h.log.inv h.ok (by omega) hf q hq
    · rw [if_neg hf]
      have hi2 : LogInv (psOf (fresh (ckS s).S (ckS s).P) (ckS s).ls) (ckS s).S (ckS s).G (ckS s).gs (ckS s).P := by
        show LogInv (psOf (fresh s.S s.P) (s.ls ++ cpWs s.S s.P s.G s.gs s.ls)) s.S s.G [] s.P
        unfold cpWs
        by_cases hu : usedOf s.gs = 0
        · rw [if_pos hu, List.append_nil, ← gs_nil hu]
          exact h.log.inv
        · rw [if_neg hu, psOf_append]
          exact (h.log.inv.check hG).1
      have hf2 : fits (ckS s) := by
        rcases hc with hc | hc
        · omega
        · show 0 + s.dl.length + 1 ≤ s.S; omega
      have e1 := page_cm (s := ckS s) hi2 ⟨h.ok.nd, h.ok.olt, h.ok.ol, h.ok.mo1, h.ok.mo2, h.ok.dup, h.ok.dlt, h.ok.dlen, h.ok.hit, h.ok.mit⟩ (by show 0 < s.dl.length; omega) hf2 q hq
      refine Eq.trans (show _ = (cmS (ckS s)).page q from rfl) (e1.trans ?_)
      show (s.dl.lookup q).getD ((ckS s).page q) = _
      rw [page_ck h.log.inv hG q hq]; rfl
theorem commitS_now {w : World} {p : Nat} {m : PM} (h : PgMem w p m s) (hG : s.G < 2 ^ 63) (hc : comOk s) (q : Nat) (hq : q < s.P) : (commitS s).now q = s.now q := by
  show ((commitS s).dl.lookup q).getD ((commitS s).page q) = _
  rw [commitS_dl, commitS_page h hG hc q hq]; rfl
end
end Go.Proofs.YthdcjepkehifoaaGreat

/- A cache between calls: its deeds, by contracts that keep what is not its own. -/
namespace Go.Proofs.YthdcjepkehifoaaGreat
open Go.RowKit Go.Maps Go.Sort Go.Shelf
set_option linter.unusedVariables false
set_option maxRecDepth 20000
/-- a cache, and blocks that are not its own -/
def Cache (w : World) (p : Nat) (s : PS) (F : Nat → Prop) : Prop := ∃ m, PgMem w p m s ∧ Ext s ∧ ∀ k, F k → k < w.heap.size ∧ ¬ allB p m s k
/-- those blocks are as they were -/
abbrev Kept (F : Nat → Prop) (w w' : World) : Prop := Out (fun k => ¬ F k) w w'
section
variable {w w' : World} {p : Nat} {s : PS} {F : Nat → Prop}
theorem Cache.mono {F' : Nat → Prop} (h : Cache w p s F) (hF : ∀ k, F' k → F k) : Cache w p s F' := by
  obtain ⟨m, h1, h2, h3⟩ := h
  exact ⟨m, h1, h2, fun k hk => h3 k (hF k hk)⟩
theorem Cache.below (h : Cache w p s F) (hb : Below w.heap.size w w') : Cache w' p s F := by
  obtain ⟨m, h1, h2, h3⟩ := h
  exact ⟨m, h1.below hb, h2, fun k hk => ⟨Nat.lt_of_lt_of_le (h3 k hk).1 hb.size, (h3 k hk).2⟩⟩
/-- what is new is not its own -/
theorem Cache.add (h : Cache w p s F) (hb : Below w.heap.size w w') : Cache w' p s (fun k => F k ∨ (w.heap.size ≤ k ∧ k < w'.heap.size)) := by
  obtain ⟨m, h1, h2, h3⟩ := h
  refine ⟨m, h1.below hb, h2, fun k hk => ?_⟩
  rcases hk with hk | hk
  · exact ⟨Nat.lt_of_lt_of_le (h3 k hk).1 hb.size, (h3 k hk).2⟩
  · exact ⟨hk.2, fun ha => by have := h1.lts k ha; omega⟩
theorem Kept.of_below (hb : Below w.heap.size w w') : Kept F w w' := ⟨hb.os, hb.tape, hb.output, hb.size, fun k hk _ => hb.block k hk⟩
theorem Kept.get (h : Kept F w w') {k : Nat} (hk : F k) (hl : k < w.heap.size) : w'.heap[k]? = w.heap[k]? := h.block k hl (fun h => h hk)
theorem Kept.to {w'' : World} (h : Kept F w w') (h' : Kept F w' w'') : Kept F w w'' := Out.trans h h' (fun _ _ x => x)
theorem Kept.mono {F' : Nat → Prop} (h : Kept F w w') (hF : ∀ k, F' k → F k) : Kept F' w w' := ⟨h.os, h.tape, h.output, h.size, fun k hk hn => h.block k hk (fun hf => hn (fun hf' => hf (hF k hf')))⟩
theorem Kept.below {B : Nat} (h : Kept F w w') (hB : B ≤ w.heap.size) (hF : ∀ k, k < B → F k) : Below B w w' := ⟨h.os, h.tape, h.output, h.size, fun k hk => h.block k (by omega) (fun x => x (hF k hk))⟩
/-- other blocks of another memory are kept as well -/
theorem kept_of {m m' : PM} {s' : PS} {Q : Nat → Prop} (h : PgMem w p m s) (he : Ext s) (h3 : ∀ k, F k → k < w.heap.size ∧ ¬ allB p m s k) (hm : PgMem w' p m' s') (he' : Ext s') (ho : Out Q w w') (hQ : ∀ k, Q k → allB p m s k) (hf : Fresh w p m s m' s') : Cache w' p s' F ∧ Kept F w w' := by
  refine ⟨⟨m', hm, he', fun k hk => ⟨Nat.lt_of_lt_of_le (h3 k hk).1 ho.size, fun ha => ?_⟩⟩, ⟨ho.os, ho.tape, ho.output, ho.size, fun k hk hn => ho.block k hk (fun hq => hn (fun hfk => (h3 k hfk).2 (hQ k hq)))⟩⟩
  rcases hf k ha with h5 | h5
  · exact (h3 k hk).2 h5
  · have := (h3 k hk).1; omega
/-- Read -/
def ReadC (w : World) (p : Nat) (s : PS) (F : Nat → Prop) (x : Int) (e : Ending) (w' : World) : Prop :=
  (badP s x ∧ e = .returned (.tuple #[.slice none 0 0, .int .i64 2]) ∧ Cache w' p s F ∧ Below w.heap.size w w') ∨
  (¬ badP s x ∧ ∃ b c, e = .returned (.tuple #[.slice (some ⟨b, 0, none⟩) 256 c, .int .i64 0]) ∧ w'.ownsRow w.heap.size 5 1 (.slice (some ⟨b, 0, none⟩) 256 c) 256 (cellsOf (s.now x.toNat)) ∧ Cache w' p (readS s x.toNat) (fun k => F k ∨ k = b) ∧ Kept F w w' ∧ w.heap.size ≤ b)
theorem read_c (h : Cache w p s F) (ht : s.t ≤ 100000) (hu : s.u ≤ 4611686018427387904) (x : Int) (hx : -9223372036854775808 ≤ x ∧ x ≤ 9223372036854775807) :
    Calls Tryz.prog 64 #[.pointer (some ⟨p, 0, none⟩), .int .i64 x] w (ReadC w p s F x) := by
  have hC := h
  obtain ⟨m, h1, h2, h3⟩ := h
  refine (read_any h1 h2.full ht hu x hx).mono ?_
  rintro e w' (⟨hb, rfl, hbl⟩ | ⟨hb, b, c, m', rfl, hr, hm, ho, hf, hnb⟩)
  · exact .inl ⟨hb, rfl, hC.below hbl, hbl⟩
  · have hlt : x.toNat < s.P := by unfold badP at hb; omega
    obtain ⟨⟨m2, hm2, he2, h32⟩, hk⟩ := kept_of h1 h2 h3 hm (readS_ext h1.ok h2 hlt) ho (fun k hq => by
      rcases hq with e | e | e
      · exact .inl (.inl e)
      · exact .inl (.inr (.inr (.inr (.inl e))))
      · exact .inl (.inr (.inr (.inl e)))) hf
    have hbl := (hr.lt b rfl)
    refine .inr ⟨hb, b, c, rfl, hr, ⟨m', hm, he2, fun k hk' => ?_⟩, hk, hbl.1⟩
    rcases hk' with hk' | rfl
    · refine ⟨(h32 k hk').1, fun ha => ?_⟩
      rcases hf k ha with h5 | h5
      · exact (h3 k hk').2 h5
      · have := (h3 k hk').1; omega
    · exact ⟨hbl.2, hnb⟩
/-- Write -/
def WriteC (w : World) (p : Nat) (s : PS) (F : Nat → Prop) (x : Int) (y : List UInt8) (e : Ending) (w' : World) : Prop :=
  (writeE s x y.length ≠ 0 ∧ e = .returned (.int .i64 (writeE s x y.length)) ∧ Cache w' p s F ∧ Kept F w w') ∨
  (writeE s x y.length = 0 ∧ e = .returned (.int .i64 0) ∧ Cache w' p (writeS s x.toNat y) F ∧ Kept F w w')
theorem write_c (h : Cache w p s F) (ht : s.t ≤ 100000) (x : Int) (hx : -9223372036854775808 ≤ x ∧ x ≤ 9223372036854775807) (y : List UInt8) (a : Option Addr) (c : Nat) (hy : Bytes w a y) (n : Nat) (hn : n = y.length) :
    Calls Tryz.prog 66 #[.pointer (some ⟨p, 0, none⟩), .int .i64 x, .slice a n c] w (WriteC w p s F x y) := by
  subst hn
  have hC := h
  obtain ⟨m, h1, h2, h3⟩ := h
  refine (pgWrite_any h1 ht x hx y a c hy).mono ?_
  rintro e w' (⟨hb, rfl, hbl⟩ | ⟨hb, rfl, m', _, hm, ho, hf⟩)
  · exact .inl ⟨hb, rfl, hC.below hbl, Kept.of_below hbl⟩
  · exact .inr ⟨hb, rfl, kept_of h1 h2 h3 hm (writeS_ext h2 _ _) ho (fun k hq => by
      rcases hq with (e | e | e) | e
      · exact .inl (.inl e)
      · exact .inl (.inr (.inr (.inr (.inl e))))
      · exact .inl (.inr (.inr (.inl e)))
      · exact .inl (.inr (.inr (.inr (.inr (.inl e)))))) hf⟩
/-- Commit -/
def ComC (w : World) (p : Nat) (s : PS) (F : Nat → Prop) (e : Ending) (w' : World) : Prop :=
  (comOk s ∧ e = .returned (.int .i64 0) ∧ Cache w' p (commitS s) F ∧ Kept F w w') ∨
  (¬ comOk s ∧ e = .returned (.int .i64 7) ∧ Cache w' p (fullS s) F ∧ Kept F w w')
theorem com_c (h : Cache w p s F) (ht : s.t ≤ 7000) (hP : s.P ≤ 100) :
    Calls Tryz.prog 68 #[.pointer (some ⟨p, 0, none⟩)] w (ComC w p s F) := by
  obtain ⟨m, h1, h2, h3⟩ := h
  have hQ : ∀ k, cmB p m k → allB p m s k := fun k hq => by
    rcases hq with e | e | e
    · exact .inl (.inl e)
    · exact .inl (.inr (.inr (.inr (.inr (.inl e)))))
    · exact .inl (.inr (.inl e))
  refine (com_any h1 h2 ht hP).mono ?_
  rintro e w' (⟨hb, rfl, m', _, hm, ho, hf⟩ | ⟨hb, rfl, m', _, hm, ho, hf⟩)
  · exact .inl ⟨hb, rfl, kept_of h1 h2 h3 hm (commitS_ext h2) ho hQ hf⟩
  · exact .inr ⟨hb, rfl, kept_of h1 h2 h3 hm (fullS_ext h2) ho hQ hf⟩
/-- Abort -/
theorem abort_c (h : Cache w p s F) : Calls Tryz.prog 110 #[.pointer (some ⟨p, 0, none⟩)] w fun e w' => e = .returned (.int .i64 (s.dl.length : Int)) ∧ Cache w' p (abortS s) F ∧ Kept F w w' := by
  obtain ⟨m, h1, h2, h3⟩ := h
  refine (pgAbort_any h1).mono ?_
  rintro e w' ⟨rfl, hm, ho, hf⟩
  exact ⟨rfl, kept_of h1 h2 h3 hm (abortS_ext h2) ho (fun k e => .inl (.inr (.inr (.inr (.inr (.inl e)))))) hf⟩
theorem cached_c (h : Cache w p s F) : Calls Tryz.prog 54 #[.pointer (some ⟨p, 0, none⟩)] w fun e w' => ∃ v, e = .returned v ∧ w'.ownsRow w.heap.size 3 1 v s.ord.length (natCells s.ord) ∧ Below w.heap.size w w' := by
  obtain ⟨m, h1, h2, h3⟩ := h
  exact cached_any h1
theorem dirty_c (h : Cache w p s F) (ht : s.t ≤ 1000000) : Calls Tryz.prog 56 #[.pointer (some ⟨p, 0, none⟩)] w fun e w' => ∃ v, e = .returned v ∧ w'.ownsRow w.heap.size 3 1 v s.dl.length (natCells (s.dl.map (·.1))) ∧ Below w.heap.size w w' := by
  obtain ⟨m, h1, h2, h3⟩ := h
  exact dirty_any h1 (Nat.le_trans h1.dnt ht)
theorem hits_c (h : Cache w p s F) : Calls Tryz.prog 58 #[.pointer (some ⟨p, 0, none⟩)] w fun e w' => e = .returned (.int .i64 (s.hi : Int)) ∧ w' = w := by
  obtain ⟨m, h1, h2, h3⟩ := h
  exact hits_any h1
theorem misses_c (h : Cache w p s F) : Calls Tryz.prog 60 #[.pointer (some ⟨p, 0, none⟩)] w fun e w' => e = .returned (.int .i64 (s.mi : Int)) ∧ w' = w := by
  obtain ⟨m, h1, h2, h3⟩ := h
  exact misses_any h1
/-- open -/
theorem open_c (w : World) (S mo : Nat) (hS : 2 ≤ S) (h2 : S + 12 ≤ 1024) (hm1 : 1 ≤ mo) (hm2 : mo ≤ 64) (F : Nat → Prop) (hF : ∀ k, F k → k < w.heap.size) :
    Calls Tryz.prog 51 #[.int .i64 (S : Int), .int .i64 (mo : Int)] w fun e w' => ∃ p q, e = .returned (.tuple #[.pointer (some ⟨p, 0, none⟩), .pointer (some ⟨q, 0, none⟩), .bool true]) ∧ Cache w' p (newS S 11 0 0 [] [] mo) F ∧ Below w.heap.size w w' := by
  refine (lawOpen04 w S mo hS h2 hm1 hm2).mono ?_
  rintro e w' ⟨p, m, q, rfl, hm, hb, hlo⟩
  exact ⟨p, q, rfl, ⟨m, hm, newS_ext _ _ _ _ _ _ _, fun k hk => ⟨Nat.lt_of_lt_of_le (hF k hk) hb.size, fun ha => by have h1 := hlo k ha; have h2 := hF k hk; omega⟩⟩, hb⟩
end
end Go.Proofs.YthdcjepkehifoaaGreat

/- live of law 4. -/
namespace Go.Proofs.YthdcjepkehifoaaGreat
open Go.RowKit Go.Maps Go.Sort Go.Shelf
set_option linter.unusedVariables false
set_option maxRecDepth 20000
theorem read_counts {s : PS} {q : Nat} (hd : s.dl.lookup q = none) (hq : q ∉ s.ord) : (readS s q).mi = s.mi + 1 ∧ (readS s q).hi = s.hi := by
  unfold readS
  rw [hd, if_neg (by simp)]
  unfold useS
  rw [if_neg hq]
  split <;> exact ⟨rfl, rfl⟩
theorem not_bad {s : PS} {q : Nat} (h : q < s.P) : ¬ badP s (q : Int) := by unfold badP; omega
set_option maxHeartbeats 4000000 in
theorem pgLive_any (w : World) : Calls Tryz.prog 52 #[] w fun e w' => e = .returned (.bool true) ∧ Below w.heap.size w w' := by
  obtain ⟨F, hF⟩ : ∃ F : Nat → Prop, F = fun k => k < w.heap.size := ⟨_, rfl⟩
  have HO := hid (open_c w 5 1 (by omega) (by omega) (by omega) (by omega) F (fun k hk => by rw [hF] at hk; exact hk))
  have HF := hid hF
  clear hF
  obtain ⟨y, hy⟩ : ∃ y : List UInt8, y = List.replicate 256 3 := ⟨_, rfl⟩
  have HY := hid hy
  obtain ⟨s0, hs0⟩ : ∃ s, s = newS 5 11 0 0 [] [] 1 := ⟨_, rfl⟩
  obtain ⟨s1, hs1⟩ : ∃ s, s = readS s0 0 := ⟨_, rfl⟩
  obtain ⟨s2, hs2⟩ : ∃ s, s = readS s1 0 := ⟨_, rfl⟩
  obtain ⟨s3, hs3⟩ : ∃ s, s = readS s2 1 := ⟨_, rfl⟩
  obtain ⟨s4, hs4⟩ : ∃ s, s = writeS s3 2 y := ⟨_, rfl⟩
  obtain ⟨s5, hs5⟩ : ∃ s, s = commitS s4 := ⟨_, rfl⟩
  obtain ⟨s6, hs6⟩ : ∃ s, s = readS s5 2 := ⟨_, rfl⟩
  rw [← hs0] at HO
  have k0 : Hid (s0.t = 0 ∧ s0.P = 11) := by rw [hs0]; exact ⟨rfl, rfl⟩
  have k1 : Hid (s1.t = 0 ∧ s1.P = 11) := by rw [hs1, hs0]; exact ⟨rfl, rfl⟩
  have k2 : Hid (s2.t = 0 ∧ s2.P = 11) := by rw [hs2, hs1, hs0]; exact ⟨rfl, rfl⟩
  have k3 : Hid (s3.t = 0 ∧ s3.P = 11 ∧ s3.ord = [1] ∧ s3.dl = [] ∧ s3.mi = 2 ∧ s3.hi = 1 ∧ s3.S = 5) := by rw [hs3, hs2, hs1, hs0]; exact ⟨rfl, rfl, rfl, rfl, rfl, rfl, rfl⟩
  have k4 : Hid (s4.t = 1 ∧ s4.P = 11 ∧ s4.ord = [1] ∧ s4.dl = [(2, y)] ∧ s4.mi = 2 ∧ s4.hi = 1 ∧ comOk s4 ∧ s4.now 2 = y) := by
    obtain ⟨h1, h2, h3, h4, h5, h6, h7⟩ := k3.out
    rw [hs4]
    refine ⟨by show s3.t + 1 = 1; omega, h2, by show s3.ord.filter _ = _; rw [h3]; rfl, by show dIns 2 y s3.dl = _; rw [h4]; rfl, h5, h6, .inr ?_, ?_⟩
    · show (dIns 2 y s3.dl).length + 1 ≤ s3.S
      rw [h4, h7]; simp [dIns]
    · show ((dIns 2 y s3.dl).lookup 2).getD _ = y
      rw [h4]; rfl
  have k5 : Hid (s5.t = 4 ∧ s5.P = 11 ∧ s5.ord = [1] ∧ s5.dl = [] ∧ s5.mi = 2 ∧ s5.hi = 1) := by
    obtain ⟨h1, h2, h3, h4, h5, h6, h7⟩ := commitS_same (s := s4)
    obtain ⟨g1, g2, g3, g4, g5, g6, _⟩ := k4.out
    rw [hs5]
    exact ⟨by omega, by omega, by rw [h1, g3], commitS_dl, by omega, by omega⟩
  have k6 : Hid (s6.mi = 3 ∧ s6.hi = 1) := by
    obtain ⟨g1, g2, g3, g4, g5, g6⟩ := k5.out
    have := read_counts (s := s5) (q := 2) (by rw [g4]; rfl) (by rw [g3]; simp)
    rw [hs6]
    exact ⟨by omega, by omega⟩
  have U0 := hid (show s0.u = 0 by subst hs0; rfl)
  have U1 := hid (show s1.u = 1 by subst hs1; subst hs0; rfl)
  have U2 := hid (show s2.u = 2 by subst hs2; subst hs1; subst hs0; rfl)
  have U3 := hid (show s3.u = 3 by subst hs3; subst hs2; subst hs1; subst hs0; rfl)
  have U5 := hid (show s5.u = 3 by have h3 := U3.out; subst hs5; rw [commitS_u]; subst hs4; exact h3)
  have S1 := hid hs1
  have S2 := hid hs2
  have S3 := hid hs3
  have S4 := hid hs4
  have S5 := hid hs5
  have S6 := hid hs6
  clear hs0 hs1 hs2 hs3 hs4 hs5 hs6 hy
  go_enter Tryz.func52, Tryz.ntmps52
  go_wp2_with fail
  refine HO.out.mono ?_
  rintro _ w0 ⟨p, q, rfl, C0, b0⟩
  have HC0 := hid (read_c C0 (by have := k0.out.1; omega) (by have := U0.out; omega) 0 (by omega))
  have B0 := hid b0
  clear C0 b0
  go_wp2_with fail
  refine HC0.out.mono ?_
  rintro _ w1 (⟨hx, _⟩ | ⟨_, b1, c1, rfl, r1, C1, o1, _⟩)
  · exact absurd hx (not_bad (q := 0) (by have := k0.out.2; omega))
  have C1' := C1.mono (F' := F) (fun k hk => .inl hk)
  rw [show readS s0 (0 : Int).toNat = s1 from S1.out.symm] at C1'
  have HC1 := hid (read_c C1' (by have := k1.out.1; omega) (by have := U1.out; omega) 0 (by omega))
  have O1 := hid o1
  clear C1 C1' r1 o1 HC0
  go_wp2_with fail
  refine HC1.out.mono ?_
  rintro _ w2 (⟨hx, _⟩ | ⟨_, b2, c2, rfl, r2, C2, o2, _⟩)
  · exact absurd hx (not_bad (q := 0) (by have := k1.out.2; omega))
  have C2' := C2.mono (F' := F) (fun k hk => .inl hk)
  rw [show readS s1 (0 : Int).toNat = s2 from S2.out.symm] at C2'
  have HC2 := hid (read_c C2' (by have := k2.out.1; omega) (by have := U2.out; omega) 1 (by omega))
  have O2 := hid (O1.out.to o2)
  clear C2 C2' r2 o2 HC1 O1
  go_wp2_with fail
  refine HC2.out.mono ?_
  rintro _ w3 (⟨hx, _⟩ | ⟨_, b3, c3, rfl, r3, C3, o3, _⟩)
  · exact absurd hx (not_bad (q := 1) (by have := k2.out.2; omega))
  have C3' := C3.mono (F' := F) (fun k hk => .inl hk)
  rw [show readS s2 (1 : Int).toNat = s3 from S3.out.symm] at C3'
  have HCa := hid (cached_c C3')
  rw [k3.out.2.2.1] at HCa
  have O3 := hid (O2.out.to o3)
  have HC3 := hid C3'
  clear C3 C3' r3 o3 HC2 O2
  go_wp2_with fail
  refine HCa.out.mono ?_
  rintro _ w4 ⟨v4, rfl, r4, b4⟩
  have HC4 := hid (HC3.out.add b4)
  have R4 := hid r4
  have O4 := hid (O3.out.to (Kept.of_below b4))
  obtain ⟨g4, c4, hv4⟩ : ∃ g c, v4 = .slice (some ⟨g, 0, none⟩) 1 c := by
    rcases r4.2 with ⟨_, h0⟩ | ⟨g, c, _, e, _⟩
    · simp at h0
    · exact ⟨g, c, e⟩
  subst hv4
  have hg4 := r4.lt g4 rfl
  clear r4 b4 HCa O3 HC3
  have HB : Hid (Calls Tryz.prog 67 #[.agg #[.int .i64 0, .slice none 0 0, .int .u8 3, .bool false]] w4 (BytPost w4 3 256)) := bytes4_any 0 (.slice none 0 0) 3 false w4 rfl
  go_wp2_with fail
  refine HB.out.mono ?_
  rintro _ w5 ⟨g5, c5, rfl, r5, hg5, b5⟩
  have C5 := HC4.out.below b5
  have HW := hid (write_c C5 (by have := k3.out.1; omega) 2 (by omega) y (some ⟨g5, 0, none⟩) c5 (by rw [HY.out]; exact bytes_of_row r5 (by simp)) 256 (by rw [HY.out]; simp))
  have O5 := hid (O4.out.to (Kept.of_below b5))
  have R5 : Hid (w5.ownsRow w3.heap.size 3 1 (.slice (some ⟨g4, 0, none⟩) 1 c4) 1 (natCells [1])) := own_keep R4.out (fun k e => b5.block k (by cases e; exact hg4.2))
  have hg5' := b5.size
  clear C5 r5 b5 HC4 HB R4 O4
  go_wp2_with fail
  refine HW.out.mono ?_
  rintro _ w6 (⟨hx, _⟩ | ⟨_, rfl, C6, o6⟩)
  · exfalso
    apply hx
    obtain ⟨h1, h2, h3, h4, h5, h6, h7⟩ := k3.out
    unfold writeE
    rw [h2, h4, HY.out]; rfl
  rw [show writeS s3 (2 : Int).toNat y = s4 from S4.out.symm] at C6
  have HCo := hid (com_c C6 (by have := k4.out.1; omega) (by have := k4.out.2.1; omega))
  have O6 := hid (O5.out.to (o6.mono (fun k hk => .inl hk)))
  have hk6 := o6.get (k := g4) (.inr ⟨by omega, by omega⟩) (by omega)
  have R6 : Hid (w6.ownsRow w3.heap.size 3 1 (.slice (some ⟨g4, 0, none⟩) 1 c4) 1 (natCells [1])) := own_keep R5.out (fun k e => by cases e; exact hk6)
  have hs6 := o6.size
  have HC6 := hid C6
  clear C6 o6 HW R5 O5 hk6
  go_wp2_with fail
  refine HCo.out.mono ?_
  rintro _ w7 (⟨_, rfl, C7, o7⟩ | ⟨hx, _⟩)
  rotate_left
  · exact absurd k4.out.2.2.2.2.2.2.1 hx
  rw [show commitS s4 = s5 from S5.out.symm] at C7
  have HR := hid (read_c C7 (by have := k5.out.1; omega) (by have := U5.out; omega) 2 (by omega))
  have O7 := hid (O6.out.to (o7.mono (fun k hk => .inl hk)))
  have hk7 := o7.get (k := g4) (.inr ⟨by omega, by omega⟩) (by omega)
  have R7 : Hid (w7.ownsRow w3.heap.size 3 1 (.slice (some ⟨g4, 0, none⟩) 1 c4) 1 (natCells [1])) := own_keep R6.out (fun k e => by cases e; exact hk7)
  have hs7 := o7.size
  clear C7 o7 HCo R6 O6 hk7
  go_wp2_with fail
  refine HR.out.mono ?_
  rintro _ w8 (⟨hx, _⟩ | ⟨_, b8, c8, rfl, r8, C8, o8, hb8⟩)
  · exact absurd hx (not_bad (q := 2) (by have := k5.out.2.1; omega))
  have hnow : s5.now (2 : Int).toNat = y := by
    obtain ⟨m6, hm6, _⟩ := HC6.out
    have h1 := commitS_now hm6 (by have h2 := hm6.log.gr; have h3 := k4.out.1; omega) k4.out.2.2.2.2.2.2.1 2 (by have := k4.out.2.1; omega)
    rw [← S5.out] at h1
    exact h1.trans k4.out.2.2.2.2.2.2.2
  rw [hnow, HY.out] at r8
  have hk8 := o8.get (k := g4) (.inr ⟨by omega, by omega⟩) (by omega)
  have R8 : w8.ownsRow w3.heap.size 3 1 (.slice (some ⟨g4, 0, none⟩) 1 c4) 1 (natCells [1]) := own_keep R7.out (fun k e => by cases e; exact hk8)
  have d1 : w8.cell? ⟨g4, 0, none⟩ = some (.int .i64 1) := R8.cellAt 0 (by omega)
  have d2 : w8.cell? ⟨b8, 9, none⟩ = some (.int .u8 3) := by
    have := r8.cellAt 9 (by omega)
    rw [cellsOf_get _ 9 (by simp)] at this
    exact this
  rw [show readS s5 (2 : Int).toNat = s6 from S6.out.symm] at C8
  have HM := hid (misses_c C8)
  have HH := hid (hits_c C8)
  rw [k6.out.1] at HM
  rw [k6.out.2] at HH
  have O8 := hid (O7.out.to (o8.mono (fun k hk => .inl hk)))
  clear C8 o8 HR R7 O7 hk8 r8 R8 hnow
  go_wp2_with (first | (go_at_call 60; refine HM.out.mono ?_; rintro _ w9 ⟨rfl, e9⟩; subst w9) | (go_at_call 58; refine HH.out.mono ?_; rintro _ w9 ⟨rfl, e9⟩; subst w9))
  go_ret
  exact ⟨ret_bool (by simp), B0.out.trans (O8.out.below B0.out.size (fun k hk => by rw [HF.out]; exact hk))⟩
end Go.Proofs.YthdcjepkehifoaaGreat
