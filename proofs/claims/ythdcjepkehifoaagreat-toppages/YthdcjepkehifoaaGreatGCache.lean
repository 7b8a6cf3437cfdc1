/- YthdcjepkehifoaaGreatGNew + YthdcjepkehifoaaGreatGState + YthdcjepkehifoaaGreatGCache -/
import Derived.Test.YthdcjepkehifoaaGreatGCommit4
/- New, Abort, Cached, Hits, Misses and Log of package pager, by contracts. -/
namespace Go.Proofs.YthdcjepkehifoaaGreat
open Go.RowKit Go.Maps Go.Sort Go.Shelf
set_option linter.unusedVariables false
set_option maxRecDepth 20000
/-- a new cache -/
def newS (k0 S P t G : Nat) (gs : List (List Nat)) (ls : List (Nat × List UInt8)) (mo : Nat) : PS := ⟨S, P, t, G, gs, ls, mo, [], fun _ => false, [], 0, 0, k0⟩
theorem newS_ok (k0 S P t G : Nat) (gs : List (List Nat)) (ls : List (Nat × List UInt8)) (mo : Nat) (h1 : 1 ≤ mo) (h2 : mo ≤ 64) : CaOk (newS k0 S P t G gs ls mo) :=
  ⟨List.nodup_nil, fun q hq => (by cases hq), by simp [newS], h1, h2, List.Pairwise.nil, fun c hc => (by cases hc), by simp [newS], Nat.zero_le _, Nat.zero_le _⟩
theorem newS_ext (k0 S P t G : Nat) (gs : List (List Nat)) (ls : List (Nat × List UInt8)) (mo : Nat) : Ext (newS k0 S P t G gs ls mo) := ⟨by simp [newS], fun c hc => by cases hc⟩
def NewPost (w : World) (k0 S P t l d g c mm n : Nat) (v : Value) (G : Nat) (gs : List (List Nat)) (ls : List (Nat × List UInt8)) (mo : Nat) (e : Ending) (w' : World) : Prop :=
  ∃ p m, e = .returned (.tuple #[.pointer (some ⟨p, 0, none⟩), .int .i64 0]) ∧ PgMem w' p m (newS k0 S P t G gs ls mo) ∧ Below w.heap.size w w' ∧ (∀ k, allB p m (newS k0 S P t G gs ls mo) k → logBlock l d g mm v k ∨ w.heap.size ≤ k) ∧ m.l = l
set_option maxHeartbeats 1000000 in
theorem pgNew_ok {w : World} {k0 S P t l d g c mm n G : Nat} {v : Value} {gs : List (List Nat)} {ls : List (Nat × List UInt8)} (h : AtC w k0 S P t l d g c mm n v G gs ls) (ht : t ≤ 1000000) (mo : Nat) (h1 : 1 ≤ mo) (h2 : mo ≤ 64) :
    Calls Tryz.prog 72 #[.pointer (some ⟨l, 0, none⟩), .int .i64 (mo : Int)] w (NewPost w k0 S P t l d g c mm n v G gs ls mo) := by
  have hgr := h.gr
  have HG := hid (groups_any h.mem (by omega))
  have H := hid h
  have g1 : decide ((mo : Int) < 1) = false := decide_eq_false (by omega)
  have g2 : decide ((64 : Int) < (mo : Int)) = false := decide_eq_false (by omega)
  have hmm := @run_makeMap Tryz.prog
  clear h
  go_enter Tryz.func72, Tryz.ntmps72
  go_wp2_with (go_at_call 23; refine HG.out.mono ?_; rintro _ w1 ⟨rfl, e9⟩; subst w1)
  go_ret2
  obtain ⟨wa, hwa⟩ : ∃ wa, wa = w.alloc (.map #[] 0) := ⟨_, rfl⟩
  obtain ⟨wb, hwb⟩ : ∃ wb, wb = wa.alloc (.map #[] 0) := ⟨_, rfl⟩
  have sa : wa.heap.size = w.heap.size + 1 := by rw [hwa]; simp
  have sb : wb.heap.size = wa.heap.size + 1 := by rw [hwb]; simp
  have ba : Below w.heap.size w wa := by rw [hwa]; exact (Below.refl _ w).alloc (Nat.le_refl _) _
  have bb : Below wa.heap.size wa wb := by rw [hwb]; exact (Below.refl _ wa).alloc (Nat.le_refl _) _
  obtain ⟨m, hm⟩ : ∃ m : PM, m = ⟨l, d, g, c, mm, n, v, .slice none 0 0, w.heap.size, 0, w.heap.size + 1, 0, fun _ => 0, fun _ => 0, fun _ => 0, fun _ => 0, fun _ => 0⟩ := ⟨_, rfl⟩
  obtain ⟨wc, hwc⟩ : ∃ wc, wc = wb.alloc (.cells (pgObj m (newS k0 S P t G gs ls mo)) 154) := ⟨_, rfl⟩
  have bc : Below wb.heap.size wb wc := by rw [hwc]; exact (Below.refl _ wb).alloc (Nat.le_refl _) _
  have hca : VMap wa w.heap.size 0 (fun _ => none) := by rw [hwa]; exact VMap_made w
  have hdb : VMap wb wa.heap.size 0 (fun _ => none) := by rw [hwb]; exact VMap_made wa
  have bwc : Below w.heap.size w wc := Below.on' (Below.on' ba bb) bc
  have hl := H.out.mem.lts
  suffices hK : NewPost w k0 S P t l d g c mm n v G gs ls mo (.returned (.tuple #[.pointer (some ⟨w.heap.size + 1 + 1, 0, none⟩), .int .i64 0])) wc by
    subst hwc; subst hm; subst hwb; subst hwa; exact hK
  refine ⟨w.heap.size + 1 + 1, m, rfl, ?_, ?_, ?_, by rw [hm]⟩
  · refine ⟨?_, ?_, ?_, ?_, ?_, fun q hq => (by cases hq), fun q hq => (by cases hq), fun q hq => (by cases hq), fun q hq => (by cases hq), ?_, ?_, ?_, ?_, ?_, newS_ok _ _ _ _ _ _ _ _ h1 h2⟩
    · rw [hwc, ← sa, ← sb]; exact heap_alloc_new _ _
    · subst hm; exact ⟨H.out.mem.below bwc, H.out.inv, H.out.gr, H.out.lsl, H.out.nl, H.out.cut⟩
    · subst hm; exact ⟨rfl, .inl ⟨rfl, rfl⟩⟩
    · subst hm; exact (hca.keep (bb.block _ (by omega))).keep (bc.block _ (by omega))
    · subst hm; rw [sa] at hdb; exact hdb.keep (bc.block _ (by omega))
    · subst hm; dsimp only; omega
    · subst hm; dsimp only; have := (hl mm (.inr (.inr (.inr (.inl rfl))))).2; omega
    · subst hm; dsimp only; have := (hl mm (.inr (.inr (.inr (.inl rfl))))).2; omega
    · subst hm; exact Nat.zero_le _
    · subst hm; exact Nat.zero_le _
  · exact bwc
  · subst hm
    rintro k ((rfl | h1 | h1 | rfl | rfl | ⟨q, hq, rfl⟩) | (⟨q, hq, rfl⟩ | ⟨c, hc, rfl⟩))
    · exact .inr (by omega)
    · exact .inl h1
    · cases h1
    · exact .inr (by dsimp only; omega)
    · exact .inr (by dsimp only; omega)
    · cases hq
    · cases hq
    · cases hc
set_option maxHeartbeats 400000 in
theorem pgNew_nil (w : World) (x : Int) : Calls Tryz.prog 72 #[.pointer none, .int .i64 x] w fun e w' => e = .returned (.tuple #[.pointer none, .int .i64 1]) ∧ w' = w := by
  go_enter Tryz.func72, Tryz.ntmps72
  go_wp2
  go_ret2
  exact ⟨rfl, rfl⟩
theorem hits_nil (w : World) : Calls Tryz.prog 58 #[.pointer none] w fun e w' => e = .returned (.int .i64 0) ∧ w' = w := by
  go_enter Tryz.func58, Tryz.ntmps58
  go_wp2
  go_ret
  exact ⟨rfl, rfl⟩
theorem misses_nil (w : World) : Calls Tryz.prog 60 #[.pointer none] w fun e w' => e = .returned (.int .i64 0) ∧ w' = w := by
  go_enter Tryz.func60, Tryz.ntmps60
  go_wp2
  go_ret
  exact ⟨rfl, rfl⟩
theorem pgLog_nil (w : World) : Calls Tryz.prog 62 #[.pointer none] w fun e w' => e = .returned (.pointer none) ∧ w' = w := by
  go_enter Tryz.func62, Tryz.ntmps62
  go_wp2
  go_ret
  exact ⟨rfl, rfl⟩
theorem cached_nil (w : World) : Calls Tryz.prog 54 #[.pointer none] w fun e w' => e = .returned (.slice none 0 0) ∧ w' = w := by
  go_enter Tryz.func54, Tryz.ntmps54
  go_wp2
  go_ret
  exact ⟨rfl, rfl⟩
theorem dirty_nil (w : World) : Calls Tryz.prog 56 #[.pointer none] w fun e w' => e = .returned (.slice none 0 0) ∧ w' = w := by
  go_enter Tryz.func56, Tryz.ntmps56
  go_wp2
  go_ret
  exact ⟨rfl, rfl⟩
theorem pgAbort_nil (w : World) : Calls Tryz.prog 110 #[.pointer none] w fun e w' => e = .returned (.int .i64 0) ∧ w' = w := by
  go_enter Tryz.func110, Tryz.ntmps110
  go_wp2
  go_ret
  exact ⟨rfl, rfl⟩
theorem pgCommit_nil (w : World) : Calls Tryz.prog 68 #[.pointer none] w fun e w' => e = .returned (.int .i64 1) ∧ w' = w := by
  go_enter Tryz.func68, Tryz.ntmps68
  go_wp2
  go_ret
  exact ⟨rfl, rfl⟩
theorem pgReach_nil (w : World) (v : Value) : Calls Tryz.prog 118 #[.pointer none, v] w fun e w' => e = .returned (.int .i64 1) ∧ w' = w := by
  go_enter Tryz.func118, Tryz.ntmps118
  go_wp2
  go_ret
  exact ⟨rfl, rfl⟩
theorem pgPin_nil (w : World) (v : Value) : Calls Tryz.prog 70 #[.pointer none, v] w fun e w' => e = .returned (.int .i64 1) ∧ w' = w := by
  have HR := hid (pgReach_nil w v)
  go_enter Tryz.func70, Tryz.ntmps70
  go_wp2_with (go_at_call 118; refine HR.out.mono ?_; rintro _ w1 ⟨rfl, e9⟩; subst w1)
  go_ret
  exact ⟨rfl, rfl⟩
theorem pgUnpin_nil (w : World) (v : Value) : Calls Tryz.prog 113 #[.pointer none, v] w fun e w' => e = .returned (.int .i64 1) ∧ w' = w := by
  go_enter Tryz.func113, Tryz.ntmps113
  go_wp2
  go_ret
  exact ⟨rfl, rfl⟩
theorem pgRead_nil (w : World) (x : Int) : Calls Tryz.prog 64 #[.pointer none, .int .i64 x] w fun e w' => e = .returned (.tuple #[.slice none 0 0, .int .i64 1]) ∧ Below w.heap.size w w' := by
  go_enter Tryz.func64, Tryz.ntmps64
  go_wp2_with (go_at_call 118; refine (pgReach_nil _ _).mono ?_; rintro _ w1 ⟨rfl, e9⟩; subst w1)
  go_ret2
  exact ⟨rfl, (Below.refl _ w).alloc (Nat.le_refl _) _⟩
theorem pgWrite_nil (w : World) (x : Int) (v : Value) : Calls Tryz.prog 66 #[.pointer none, .int .i64 x, v] w fun e w' => e = .returned (.int .i64 1) ∧ Below w.heap.size w w' := by
  go_enter Tryz.func66, Tryz.ntmps66
  go_wp2_with (go_at_call 118; refine (pgReach_nil _ _).mono ?_; rintro _ w1 ⟨rfl, e9⟩; subst w1)
  go_ret
  exact ⟨rfl, (Below.refl _ w).alloc (Nat.le_refl _) _⟩
section
variable {w : World} {p : Nat} {m : PM} {s : PS}
theorem pgLog_any (h : PgMem w p m s) : Calls Tryz.prog 62 #[.pointer (some ⟨p, 0, none⟩)] w fun e w' => e = .returned (.pointer (some ⟨m.l, 0, none⟩)) ∧ w' = w := by
  have c0 := h.c0
  clear h
  go_enter Tryz.func62, Tryz.ntmps62
  go_wp2
  go_ret
  exact ⟨rfl, rfl⟩
theorem hits_any (h : PgMem w p m s) : Calls Tryz.prog 58 #[.pointer (some ⟨p, 0, none⟩)] w fun e w' => e = .returned (.int .i64 (s.hi : Int)) ∧ w' = w := by
  have c6 := h.c6
  have HL := hid (load_any _ _ _ _ c6)
  clear h
  go_enter Tryz.func58, Tryz.ntmps58
  go_wp2_with (go_at_call 87; refine HL.out.mono ?_; rintro _ w1 ⟨rfl, e9⟩; subst w1)
  go_ret
  exact ⟨rfl, rfl⟩
theorem misses_any (h : PgMem w p m s) : Calls Tryz.prog 60 #[.pointer (some ⟨p, 0, none⟩)] w fun e w' => e = .returned (.int .i64 (s.mi : Int)) ∧ w' = w := by
  have c7 := h.c7
  have HL := hid (load_any _ _ _ _ c7)
  clear h
  go_enter Tryz.func60, Tryz.ntmps60
  go_wp2_with (go_at_call 87; refine HL.out.mono ?_; rintro _ w1 ⟨rfl, e9⟩; subst w1)
  go_ret
  exact ⟨rfl, rfl⟩
theorem natCells_length (l : List Nat) : (natCells l).length = l.length := by simp [natCells]
set_option maxHeartbeats 800000 in
theorem clone_int (w : World) (B : Nat) (v : Value) (l : List Nat) (hl : l.length ≤ 100000) (hown : w.ownsRow B 3 1 v l.length (natCells l)) :
    Calls Tryz.prog 115 #[v] w fun e w' => ∃ v', e = .returned v' ∧ w'.ownsRow w.heap.size 3 1 v' l.length (natCells l) ∧ Below w.heap.size w w' := by
  obtain ⟨i0, hi, hz0, hz1, hz2⟩ := info_parts Tryz.info3
  have q22 : ∀ (w : World) (a : Option Addr) (n c n' c' : Nat), (binOp .eql 30 (.slice a n c) (.slice none n' c')).run Tryz.prog w = .ok (.bool a.isNone) w := fun w a n c n' c' => Lib.run_eql_slice_nil w _ _ a n c n' c' Tryz.underlying30
  rcases hown.2 with ⟨rfl, h0⟩ | ⟨b, cap, cur, rfl, hb, hg, hc, hmx, hsz, htk⟩
  · have hl0 : l = [] := List.length_eq_zero_iff.1 h0
    subst hl0
    clear hown
    go_enter Tryz.func115, Tryz.ntmps115
    go_wp2
    go_ret
    exact ⟨_, rfl, ⟨rfl, .inl ⟨rfl, rfl⟩⟩, Below.refl _ _⟩
  · obtain ⟨n, hn⟩ : ∃ n, n = l.length := ⟨_, rfl⟩
    have HB := hid hown
    rw [← hn]
    rw [← hn] at hl HB
    clear hown hb hg hc hmx hsz htk
    go_enter Tryz.func115, Tryz.ntmps115
    go_wp2_with (at_builtin; refine wpList_append_own _ rfl _ _ 30 rfl w.heap.size 3 i0 (.int .i64 0) 1 8 Tryz.underlying30 hi hz0 hz1 hz2 rfl (by decide) _ _ _ rfl (World.ownsRow_made w #[] 0 (Nat.le_refl _) (Nat.zero_le _) rfl) ⟨b, 0, none⟩ n cap (natCells l) rfl ?qc1 ?qc2 ?qc3 ?qc4 ?qc5 ?qc6 ?_)
    case qc1 => simp [natCells_length, hn]
    case qc2 =>
      intro j u hj
      have hjn : j < n := by
        have := (List.getElem?_eq_some_iff.1 hj).1
        rw [natCells_length] at this; omega
      have hc := HB.out.cellAt j (by omega)
      rw [hj] at hc
      rw [addr_add, Nat.zero_add]
      exact (World.cell?_alloc_some _ _ _ (by rw [hc]; rfl)).trans hc
    case qc3 =>
      intro u hu
      unfold natCells at hu
      obtain ⟨x, _, rfl⟩ := List.mem_map.1 hu
      rfl
    case qc4 => unfold maxLen; omega
    case qc5 => omega
    case qc6 => simp
    intro v' w1 hown hgrow hnil
    go_wp2
    go_ret
    refine ⟨v', rfl, by subst hn; simpa using hown, ((Below.refl _ w).alloc (Nat.le_refl _) _).grown hgrow (by simp) (by intro k hk; simp [Value.ownBlock] at hk; omega)⟩
theorem cached_any (h : PgMem w p m s) : Calls Tryz.prog 54 #[.pointer (some ⟨p, 0, none⟩)] w fun e w' => ∃ v, e = .returned v ∧ w'.ownsRow w.heap.size 3 1 v s.ord.length (natCells s.ord) ∧ Below w.heap.size w w' := by
  have c4 := h.c4
  have HC := hid (clone_int w 0 m.ov s.ord (by have := h.ok.ol; have := h.ok.mo2; omega) h.row)
  clear h
  go_enter Tryz.func54, Tryz.ntmps54
  go_wp2_with fail
  refine HC.out.mono ?_
  rintro _ w1 ⟨v1, rfl, hr, hb⟩
  go_wp2
  go_ret
  exact ⟨_, rfl, hr, hb⟩
/-- the dirty pages are forgotten -/
def abortS (s : PS) : PS := { s with dl := [] }
theorem PgMem.abort {w1 : World} (h : PgMem w p m s) (hdm : VMap w1 m.dm 0 (fun _ => none)) (hg : w.grownBy w1 (some m.dm)) : PgMem w1 p { m with dn := 0 } (abortS s) ∧ Out (fun k => k = m.dm) w w1 := by
  have o2 : Out (fun k => k = m.dm) w w1 := Out.of_grown hg rfl
  have k : ∀ j, j < w.heap.size → j ≠ m.dm → w1.heap[j]? = w.heap[j]? := fun j hj hp => o2.block j hj hp
  refine ⟨⟨(k p (heap_lt h.obj) h.p_dm).trans h.obj, ⟨h.log.mem.keep fun j hj => k j (h.log.mem.lts j hj).2 (fun e => h.dm_not (e ▸ hj)), h.log.inv, h.log.gr, h.log.lsl, h.log.nl, h.log.cut⟩, ownsRow_keep h.row (fun j hj => k j (h.row.lt j hj).2 (fun e => h.ov_dm (e ▸ hj))), h.cmap.keep (k _ h.cmap.lt h.cd), VMap.congr hdm (fun q => by simp [diOf, abortS]), fun q hq => (k _ (heap_lt (h.frm q hq)) (h.fr_ne hq).2.2.2.2).trans (h.frm q hq), fun q hq => ?_, fun c hc => (by cases hc), h.inj, h.cd, h.cl, h.dm', h.cnt, Nat.zero_le _, ⟨h.ok.nd, h.ok.olt, h.ok.ol, h.ok.mo1, h.ok.mo2, List.Pairwise.nil, fun c hc => (by cases hc), by simp [abortS], h.ok.hit, h.ok.mit⟩⟩, o2⟩
  have hb := h.fby q hq
  exact hb.keep (k _ hb.lt (fun e => h.byt hb (.inr (.inr (.inr (.inr (.inl e)))))))
def AbortPost (w : World) (p : Nat) (m : PM) (s : PS) (e : Ending) (w' : World) : Prop :=
  e = .returned (.int .i64 (s.dl.length : Int)) ∧ PgMem w' p { m with dn := 0 } (abortS s) ∧ Out (fun k => k = m.dm) w w' ∧ Fresh w p m s { m with dn := 0 } (abortS s)
theorem pgAbort_any (h : PgMem w p m s) : Calls Tryz.prog 110 #[.pointer (some ⟨p, 0, none⟩)] w (AbortPost w p m s) := by
  have c5 := h.c5
  have hlen := fun ty => h.dlen ty
  obtain ⟨w4, hrun, hdm, hg⟩ := h.dmap.clear Tryz.underlying152 0
  have HF := hid (h.abort hdm hg)
  have HFr : Hid (Fresh w p m s { m with dn := 0 } (abortS s)) := by
    rintro k ((e | e | e | e | e | ⟨x, hx, e⟩) | (⟨x, hx, e⟩ | ⟨c, hc, e⟩))
    · exact .inl (.inl (.inl e))
    · exact .inl (.inl (.inr (.inl e)))
    · exact .inl (.inl (.inr (.inr (.inl e))))
    · exact .inl (.inl (.inr (.inr (.inr (.inl e)))))
    · exact .inl (.inl (.inr (.inr (.inr (.inr (.inl e))))))
    · exact .inl (.inl (.inr (.inr (.inr (.inr (.inr ⟨x, hx, e⟩))))))
    · exact .inl (.inr (.inl ⟨x, hx, e⟩))
    · cases hc
  clear h hdm hg
  go_enter Tryz.func110, Tryz.ntmps110
  go_wp2
  go_ret
  exact ⟨rfl, HF.out.1, HF.out.2, HFr.out⟩
end
end Go.Proofs.YthdcjepkehifoaaGreat

/- What the deeds do to a cache between calls. -/
namespace Go.Proofs.YthdcjepkehifoaaGreat
open Go.RowKit Go.Maps Go.Sort Go.Shelf
set_option linter.unusedVariables false
set_option maxRecDepth 20000
section
variable {s : PS}
theorem firstUn_mem (hex : ∃ x ∈ s.ord, s.pin x = false) : firstUn s ∈ s.ord := by
  unfold firstUn
  cases hf : s.ord.find? (fun x => !s.pin x) with
  | some y => exact List.mem_of_find?_eq_some hf
  | none =>
    obtain ⟨x, hx, hp⟩ := hex
    have := (List.find?_eq_none.1 hf) x hx
    simp [hp] at this
theorem drop_len (hn : s.ord.Nodup) {q : Nat} (hq : q ∈ s.ord) : (dropS s q).ord.length + 1 = s.ord.length := filter_len hn hq
theorem useS_ext (ok : CaOk s) (he : Ext s) {q : Nat} (hqP : q < s.P) (hd : (s.dl.lookup q).isSome = false) : Ext (useS s q) := by
  have hnd : ∀ c ∈ s.dl, c.1 ≠ q := lookup_none (by cases h : s.dl.lookup q with | none => rfl | some y => rw [h] at hd; cases hd)
  unfold useS
  by_cases hq : q ∈ s.ord
  · rw [if_pos hq]
    refine ⟨?_, fun c hc => ?_⟩
    · have h1 := filter_len ok.nd hq
      have h2 := he.full
      show (s.ord.filter (fun x => x != q) ++ [q]).length ≤ s.mo
      rw [List.length_append, List.length_singleton]
      omega
    · show c.1 ∉ s.ord.filter (fun x => x != q) ++ [q]
      intro hm
      rcases List.mem_append.1 hm with hm | hm
      · exact he.apart c hc (List.mem_filter.1 hm).1
      · exact hnd c hc (by simpa using hm)
  · rw [if_neg hq]
    have hap : ∀ c ∈ s.dl, c.1 ∉ s.ord ++ [q] := fun c hc hm => by
      rcases List.mem_append.1 hm with hm | hm
      · exact he.apart c hc hm
      · exact hnd c hc (by simpa using hm)
    have hl : (missS s q).ord.length = s.ord.length + 1 := by show (s.ord ++ [q]).length = _; simp
    by_cases hm : s.mo < (missS s q).ord.length
    · rw [if_pos hm]
      have hmem : firstUn (missS s q) ∈ (missS s q).ord := firstUn_mem ⟨q, by show q ∈ s.ord ++ [q]; simp, upd_same _ _ _⟩
      have hok : CaOk (pushS { s with mi := s.mi + 1, t := s.t + 1 } q false) := CaOk.push (s := { s with mi := s.mi + 1, t := s.t + 1 }) ⟨ok.nd, ok.olt, ok.ol, ok.mo1, ok.mo2, ok.dup, ok.dlt, ok.dlen, Nat.le_succ_of_le ok.hit, Nat.succ_le_succ ok.mit⟩ hq hqP he.full false
      have h1 := drop_len (s := missS s q) hok.nd hmem
      refine ⟨?_, fun c hc hm' => hap c hc (List.mem_filter.1 hm').1⟩
      have h2 := he.full
      show (dropS (missS s q) _).ord.length ≤ s.mo
      omega
    · rw [if_neg hm]
      exact ⟨by show (missS s q).ord.length ≤ s.mo; omega, fun c hc => hap c hc⟩
theorem readS_ext (ok : CaOk s) (he : Ext s) {q : Nat} (hqP : q < s.P) : Ext (readS s q) := by
  unfold readS
  by_cases h : (s.dl.lookup q).isSome = true
  · rw [if_pos h]; exact he
  · rw [if_neg h]; exact useS_ext ok he hqP (Bool.eq_false_iff.2 h)
theorem writeS_ext (he : Ext s) (q : Nat) (y : List UInt8) : Ext (writeS s q y) := by
  refine ⟨Nat.le_trans (List.length_filter_le _ _) he.full, fun c hc hm => ?_⟩
  have hm' := List.mem_filter.1 hm
  rcases dIns_mem (show c ∈ dIns q y s.dl from hc) with e | e
  · subst e; simp at hm'
  · exact he.apart c e hm'.1
theorem commitS_dl : (commitS s).dl = [] := by
  unfold commitS
  by_cases h0 : s.dl.length = 0
  · rw [if_pos h0]; exact List.length_eq_zero_iff.1 h0
  · rw [if_neg h0]; split <;> rfl
theorem commitS_same : (commitS s).ord = s.ord ∧ (commitS s).mo = s.mo ∧ (commitS s).S = s.S ∧ (commitS s).P = s.P ∧ (commitS s).t = s.t + 3 ∧ (commitS s).hi = s.hi ∧ (commitS s).mi = s.mi := by
  unfold commitS
  split
  · exact ⟨rfl, rfl, rfl, rfl, rfl, rfl, rfl⟩
  · split <;> exact ⟨rfl, rfl, rfl, rfl, rfl, rfl, rfl⟩
theorem commitS_ext (he : Ext s) : Ext (commitS s) := by
  obtain ⟨h1, h2, _⟩ := commitS_same (s := s)
  refine ⟨by rw [h1, h2]; exact he.full, fun c hc => ?_⟩
  rw [commitS_dl] at hc
  cases hc
theorem fullS_ext (he : Ext s) : Ext (fullS s) := ⟨he.full, he.apart⟩
theorem abortS_ext (he : Ext s) : Ext (abortS s) := ⟨he.full, fun c hc => by cases hc⟩
/-- what does not change -/
theorem useS_same (q : Nat) : (useS s q).S = s.S ∧ (useS s q).P = s.P ∧ (useS s q).mo = s.mo ∧ (useS s q).t = s.t + 1 ∧ (useS s q).dl = s.dl ∧ (useS s q).gs = s.gs ∧ (useS s q).ls = s.ls ∧ (useS s q).G = s.G := by
  unfold useS
  split
  · exact ⟨rfl, rfl, rfl, rfl, rfl, rfl, rfl, rfl⟩
  · split <;> exact ⟨rfl, rfl, rfl, rfl, rfl, rfl, rfl, rfl⟩
theorem readS_same (q : Nat) : (readS s q).S = s.S ∧ (readS s q).P = s.P ∧ (readS s q).mo = s.mo ∧ (readS s q).t ≤ s.t + 1 ∧ (readS s q).dl = s.dl ∧ (readS s q).gs = s.gs ∧ (readS s q).ls = s.ls ∧ (readS s q).G = s.G := by
  unfold readS
  split
  · exact ⟨rfl, rfl, rfl, Nat.le_succ _, rfl, rfl, rfl, rfl⟩
  · obtain ⟨h1, h2, h3, h4, h5, h6, h7, h8⟩ := useS_same (s := s) q
    exact ⟨h1, h2, h3, Nat.le_of_eq h4, h5, h6, h7, h8⟩
theorem page_congr {s s' : PS} (h1 : s'.S = s.S) (h2 : s'.P = s.P) (h3 : s'.gs = s.gs) (h4 : s'.ls = s.ls) (q : Nat) : s'.page q = s.page q := by unfold PS.page; rw [h1, h2, h3, h4]
theorem readS_now (q x : Nat) : (readS s q).now x = s.now x := by
  obtain ⟨h1, h2, h3, h4, h5, h6, h7, h8⟩ := readS_same (s := s) q
  unfold PS.now
  rw [h5, page_congr h1 h2 h6 h7]
theorem readS_page (q x : Nat) : (readS s q).page x = s.page x := by
  obtain ⟨h1, h2, h3, h4, h5, h6, h7, h8⟩ := readS_same (s := s) q
  exact page_congr h1 h2 h6 h7 x
theorem writeS_now (ok : CaOk s) (q : Nat) (y : List UInt8) (x : Nat) : (writeS s q y).now x = if x = q then y else s.now x := by
  show ((dIns q y s.dl).lookup x).getD (s.page x) = _
  rw [dIns_lookup ok.dup]
  by_cases hx : x = q
  · rw [if_pos hx, if_pos hx]; rfl
  · rw [if_neg hx, if_neg hx]; rfl
theorem writeS_page (q : Nat) (y : List UInt8) (x : Nat) : (writeS s q y).page x = s.page x := rfl
theorem abortS_now (x : Nat) : (abortS s).now x = s.page x := rfl
theorem fullS_page (hi : LogInv (psOf (fresh s.S s.P) s.ls) s.S s.G s.gs s.P) (hG : s.G < 2 ^ 63) (q : Nat) (hq : q < s.P) : (fullS s).page q = s.page q := page_ck hi hG q hq
theorem fullS_now (hi : LogInv (psOf (fresh s.S s.P) s.ls) s.S s.G s.gs s.P) (hG : s.G < 2 ^ 63) (q : Nat) (hq : q < s.P) : (fullS s).now q = s.now q := by
  show (s.dl.lookup q).getD ((fullS s).page q) = _
  rw [fullS_page hi hG q hq]; rfl
theorem commitS_page {w : World} {p : Nat} {m : PM} (h : PgMem w p m s) (hG : s.G < 2 ^ 63) (hc : comOk s) (q : Nat) (hq : q < s.P) : (commitS s).page q = s.now q := by
  unfold commitS
  by_cases h0 : s.dl.length = 0
  · rw [if_pos h0]
    have e := List.length_eq_zero_iff.1 h0
    unfold PS.now
    rw [e]; rfl
  · rw [if_neg h0]
    by_cases hf : fits s
    · rw [if_pos hf]
      exact page_cm h.log.inv h.ok (by omega) hf q hq
    · rw [if_neg hf]
      have hi2 : LogInv (psOf (fresh (ckS s).S (ckS s).P) (ckS s).ls) (ckS s).S (ckS s).G (ckS s).gs (ckS s).P := by
        show LogInv (psOf (fresh s.S s.P) (s.ls ++ cpWs s.S s.P s.G s.gs s.ls)) s.S s.G [] s.P
        unfold cpWs
        by_cases hu : usedOf s.gs = 0
        · rw [if_pos hu, List.append_nil, ← gs_nil hu]
          exact h.log.inv
        · rw [if_neg hu, psOf_append]
          exact (h.log.inv.check hG).1
      have hf2 : fits (ckS s) := by
        rcases hc with hc | hc
        · omega
        · show 0 + s.dl.length + 1 ≤ s.S; omega
      have e1 := page_cm (s := ckS s) hi2 ⟨h.ok.nd, h.ok.olt, h.ok.ol, h.ok.mo1, h.ok.mo2, h.ok.dup, h.ok.dlt, h.ok.dlen, h.ok.hit, h.ok.mit⟩ (by show 0 < s.dl.length; omega) hf2 q hq
      refine Eq.trans (show _ = (cmS (ckS s)).page q from rfl) (e1.trans ?_)
      show (s.dl.lookup q).getD ((ckS s).page q) = _
      rw [page_ck h.log.inv hG q hq]; rfl
theorem commitS_now {w : World} {p : Nat} {m : PM} (h : PgMem w p m s) (hG : s.G < 2 ^ 63) (hc : comOk s) (q : Nat) (hq : q < s.P) : (commitS s).now q = s.now q := by
  show ((commitS s).dl.lookup q).getD ((commitS s).page q) = _
  rw [commitS_dl, commitS_page h hG hc q hq]; rfl
end
end Go.Proofs.YthdcjepkehifoaaGreat

/- A cache between calls: its deeds, by contracts that keep what is not its own. -/
namespace Go.Proofs.YthdcjepkehifoaaGreat
open Go.RowKit Go.Maps Go.Sort Go.Shelf
set_option linter.unusedVariables false
set_option maxRecDepth 20000
/-- a cache, and blocks that are not its own -/
def Cache (w : World) (p : Nat) (s : PS) (F : Nat → Prop) : Prop := ∃ m, PgMem w p m s ∧ Ext s ∧ ∀ k, F k → k < w.heap.size ∧ ¬ allB p m s k
/-- those blocks are as they were -/
abbrev Kept (F : Nat → Prop) (w w' : World) : Prop := Out (fun k => ¬ F k) w w'
section
variable {w w' : World} {p : Nat} {s : PS} {F : Nat → Prop}
theorem Cache.mono {F' : Nat → Prop} (h : Cache w p s F) (hF : ∀ k, F' k → F k) : Cache w p s F' := by
  obtain ⟨m, h1, h2, h3⟩ := h
  exact ⟨m, h1, h2, fun k hk => h3 k (hF k hk)⟩
theorem Cache.below (h : Cache w p s F) (hb : Below w.heap.size w w') : Cache w' p s F := by
  obtain ⟨m, h1, h2, h3⟩ := h
  exact ⟨m, h1.below hb, h2, fun k hk => ⟨Nat.lt_of_lt_of_le (h3 k hk).1 hb.size, (h3 k hk).2⟩⟩
/-- what is new is not its own -/
theorem Cache.add (h : Cache w p s F) (hb : Below w.heap.size w w') : Cache w' p s (fun k => F k ∨ (w.heap.size ≤ k ∧ k < w'.heap.size)) := by
  obtain ⟨m, h1, h2, h3⟩ := h
  refine ⟨m, h1.below hb, h2, fun k hk => ?_⟩
  rcases hk with hk | hk
  · exact ⟨Nat.lt_of_lt_of_le (h3 k hk).1 hb.size, (h3 k hk).2⟩
  · exact ⟨hk.2, fun ha => by have := h1.lts k ha; omega⟩
theorem Kept.of_below (hb : Below w.heap.size w w') : Kept F w w' := ⟨hb.os, hb.tape, hb.output, hb.size, fun k hk _ => hb.block k hk⟩
theorem Kept.get (h : Kept F w w') {k : Nat} (hk : F k) (hl : k < w.heap.size) : w'.heap[k]? = w.heap[k]? := h.block k hl (fun h => h hk)
theorem Kept.to {w'' : World} (h : Kept F w w') (h' : Kept F w' w'') : Kept F w w'' := Out.trans h h' (fun _ _ x => x)
theorem Kept.mono {F' : Nat → Prop} (h : Kept F w w') (hF : ∀ k, F' k → F k) : Kept F' w w' := ⟨h.os, h.tape, h.output, h.size, fun k hk hn => h.block k hk (fun hf => hn (fun hf' => hf (hF k hf')))⟩
theorem Kept.below {B : Nat} (h : Kept F w w') (hB : B ≤ w.heap.size) (hF : ∀ k, k < B → F k) : Below B w w' := ⟨h.os, h.tape, h.output, h.size, fun k hk => h.block k (by omega) (fun x => x (hF k hk))⟩
/-- other blocks of another memory are kept as well -/
theorem kept_of {m m' : PM} {s' : PS} {Q : Nat → Prop} (h : PgMem w p m s) (he : Ext s) (h3 : ∀ k, F k → k < w.heap.size ∧ ¬ allB p m s k) (hm : PgMem w' p m' s') (he' : Ext s') (ho : Out Q w w') (hQ : ∀ k, Q k → allB p m s k) (hf : Fresh w p m s m' s') : Cache w' p s' F ∧ Kept F w w' := by
  refine ⟨⟨m', hm, he', fun k hk => ⟨Nat.lt_of_lt_of_le (h3 k hk).1 ho.size, fun ha => ?_⟩⟩, ⟨ho.os, ho.tape, ho.output, ho.size, fun k hk hn => ho.block k hk (fun hq => hn (fun hfk => (h3 k hfk).2 (hQ k hq)))⟩⟩
  rcases hf k ha with h5 | h5
  · exact (h3 k hk).2 h5
  · have := (h3 k hk).1; omega
/-- Read -/
def ReadC (w : World) (p : Nat) (s : PS) (F : Nat → Prop) (x : Int) (e : Ending) (w' : World) : Prop :=
  (badP s x ∧ e = .returned (.tuple #[.slice none 0 0, .int .i64 2]) ∧ Cache w' p s F ∧ Below w.heap.size w w') ∨
  (¬ badP s x ∧ ∃ b c, e = .returned (.tuple #[.slice (some ⟨b, 0, none⟩) 256 c, .int .i64 0]) ∧ w'.ownsRow w.heap.size 5 1 (.slice (some ⟨b, 0, none⟩) 256 c) 256 (cellsOf (s.now x.toNat)) ∧ Cache w' p (readS s x.toNat) (fun k => F k ∨ k = b) ∧ Kept F w w' ∧ w.heap.size ≤ b)
theorem read_c (h : Cache w p s F) (ht : s.t ≤ 100000) (x : Int) (hx : -9223372036854775808 ≤ x ∧ x ≤ 9223372036854775807) :
    Calls Tryz.prog 64 #[.pointer (some ⟨p, 0, none⟩), .int .i64 x] w (ReadC w p s F x) := by
  have hC := h
  obtain ⟨m, h1, h2, h3⟩ := h
  refine (read_any h1 h2.full ht x hx).mono ?_
  rintro e w' (⟨hb, rfl, hbl⟩ | ⟨hb, b, c, m', rfl, hr, hm, ho, hf, hnb⟩)
  · exact .inl ⟨hb, rfl, hC.below hbl, hbl⟩
  · have hlt : x.toNat < s.P := by unfold badP at hb; omega
    obtain ⟨⟨m2, hm2, he2, h32⟩, hk⟩ := kept_of h1 h2 h3 hm (readS_ext h1.ok h2 hlt) ho (fun k hq => by
      rcases hq with e | e | e
      · exact .inl (.inl e)
      · exact .inl (.inr (.inr (.inr (.inl e))))
      · exact .inl (.inr (.inr (.inl e)))) hf
    have hbl := (hr.lt b rfl)
    refine .inr ⟨hb, b, c, rfl, hr, ⟨m', hm, he2, fun k hk' => ?_⟩, hk, hbl.1⟩
    rcases hk' with hk' | rfl
    · refine ⟨(h32 k hk').1, fun ha => ?_⟩
      rcases hf k ha with h5 | h5
      · exact (h3 k hk').2 h5
      · have := (h3 k hk').1; omega
    · exact ⟨hbl.2, hnb⟩
/-- Write -/
def WriteC (w : World) (p : Nat) (s : PS) (F : Nat → Prop) (x : Int) (y : List UInt8) (e : Ending) (w' : World) : Prop :=
  (writeE s x y.length ≠ 0 ∧ e = .returned (.int .i64 (writeE s x y.length)) ∧ Cache w' p s F ∧ Kept F w w') ∨
  (writeE s x y.length = 0 ∧ e = .returned (.int .i64 0) ∧ Cache w' p (writeS s x.toNat y) F ∧ Kept F w w')
theorem write_c (h : Cache w p s F) (ht : s.t ≤ 100000) (x : Int) (hx : -9223372036854775808 ≤ x ∧ x ≤ 9223372036854775807) (y : List UInt8) (a : Option Addr) (c : Nat) (hy : Bytes w a y) (n : Nat) (hn : n = y.length) :
    Calls Tryz.prog 66 #[.pointer (some ⟨p, 0, none⟩), .int .i64 x, .slice a n c] w (WriteC w p s F x y) := by
  subst hn
  have hC := h
  obtain ⟨m, h1, h2, h3⟩ := h
  refine (pgWrite_any h1 ht x hx y a c hy).mono ?_
  rintro e w' (⟨hb, rfl, hbl⟩ | ⟨hb, rfl, m', _, hm, ho, hf⟩)
  · exact .inl ⟨hb, rfl, hC.below hbl, Kept.of_below hbl⟩
  · exact .inr ⟨hb, rfl, kept_of h1 h2 h3 hm (writeS_ext h2 _ _) ho (fun k hq => by
      rcases hq with (e | e | e) | e
      · exact .inl (.inl e)
      · exact .inl (.inr (.inr (.inr (.inl e))))
      · exact .inl (.inr (.inr (.inl e)))
      · exact .inl (.inr (.inr (.inr (.inr (.inl e)))))) hf⟩
/-- Commit -/
def ComC (w : World) (p : Nat) (s : PS) (F : Nat → Prop) (e : Ending) (w' : World) : Prop :=
  (comOk s ∧ e = .returned (.int .i64 0) ∧ Cache w' p (commitS s) F ∧ Kept F w w') ∨
  (¬ comOk s ∧ e = .returned (.int .i64 7) ∧ Cache w' p (fullS s) F ∧ Kept F w w')
theorem com_c (h : Cache w p s F) (ht : s.t ≤ 7000) (hP : s.P ≤ 100) :
    Calls Tryz.prog 68 #[.pointer (some ⟨p, 0, none⟩)] w (ComC w p s F) := by
  obtain ⟨m, h1, h2, h3⟩ := h
  have hQ : ∀ k, cmB p m k → allB p m s k := fun k hq => by
    rcases hq with e | e | e
    · exact .inl (.inl e)
    · exact .inl (.inr (.inr (.inr (.inr (.inl e)))))
    · exact .inl (.inr (.inl e))
  refine (com_any h1 h2 ht hP).mono ?_
  rintro e w' (⟨hb, rfl, m', _, hm, ho, hf⟩ | ⟨hb, rfl, m', _, hm, ho, hf⟩)
  · exact .inl ⟨hb, rfl, kept_of h1 h2 h3 hm (commitS_ext h2) ho hQ hf⟩
  · exact .inr ⟨hb, rfl, kept_of h1 h2 h3 hm (fullS_ext h2) ho hQ hf⟩
/-- Abort -/
theorem abort_c (h : Cache w p s F) : Calls Tryz.prog 110 #[.pointer (some ⟨p, 0, none⟩)] w fun e w' => e = .returned (.int .i64 (s.dl.length : Int)) ∧ Cache w' p (abortS s) F ∧ Kept F w w' := by
  obtain ⟨m, h1, h2, h3⟩ := h
  refine (pgAbort_any h1).mono ?_
  rintro e w' ⟨rfl, hm, ho, hf⟩
  exact ⟨rfl, kept_of h1 h2 h3 hm (abortS_ext h2) ho (fun k e => .inl (.inr (.inr (.inr (.inr (.inl e)))))) hf⟩
theorem cached_c (h : Cache w p s F) : Calls Tryz.prog 54 #[.pointer (some ⟨p, 0, none⟩)] w fun e w' => ∃ v, e = .returned v ∧ w'.ownsRow w.heap.size 3 1 v s.ord.length (natCells s.ord) ∧ Below w.heap.size w w' := by
  obtain ⟨m, h1, h2, h3⟩ := h
  exact cached_any h1
theorem dirty_c (h : Cache w p s F) (ht : s.t ≤ 1000000) : Calls Tryz.prog 56 #[.pointer (some ⟨p, 0, none⟩)] w fun e w' => ∃ v, e = .returned v ∧ w'.ownsRow w.heap.size 3 1 v s.dl.length (natCells (s.dl.map (·.1))) ∧ Below w.heap.size w w' := by
  obtain ⟨m, h1, h2, h3⟩ := h
  exact dirty_any h1 (Nat.le_trans h1.dnt ht)
theorem hits_c (h : Cache w p s F) : Calls Tryz.prog 58 #[.pointer (some ⟨p, 0, none⟩)] w fun e w' => e = .returned (.int .i64 (s.hi : Int)) ∧ w' = w := by
  obtain ⟨m, h1, h2, h3⟩ := h
  exact hits_any h1
theorem misses_c (h : Cache w p s F) : Calls Tryz.prog 60 #[.pointer (some ⟨p, 0, none⟩)] w fun e w' => e = .returned (.int .i64 (s.mi : Int)) ∧ w' = w := by
  obtain ⟨m, h1, h2, h3⟩ := h
  exact misses_any h1
end
end Go.Proofs.YthdcjepkehifoaaGreat
