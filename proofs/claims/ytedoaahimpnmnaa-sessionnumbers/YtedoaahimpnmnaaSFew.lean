/- A user has at most three sessions that are not over: what deeds leave so. -/
import Derived.Test.YtedoaahimpnmnaaSDo3
namespace Go.Proofs.Ytedoaahimpnmnaa
open Go.RowKit Go.Maps Go.Sort Go.Shelf
set_option linter.unusedVariables false
set_option maxRecDepth 20000

/-- at no time from now on has a user more than three -/
def Few (T : Tab) : Prop := ∀ (t u : ByteArray) (now : Int), T.noted ≤ now → (T.l.filter (liveB t u now)).length ≤ 3
theorem over_mono {s : Sess} {a b : Int} (h : a ≤ b) (ho : overB s a = true) : overB s b = true := by
  unfold overB at *
  simp at *
  omega
theorem live_mono {t u : ByteArray} {s : Sess} {a b : Int} (h : a ≤ b) (hl : liveB t u b s = true) : liveB t u a s = true := by
  unfold liveB at *
  rw [Bool.and_eq_true] at *
  refine ⟨hl.1, ?_⟩
  cases ho : overB s a
  · rfl
  · have := over_mono h ho
    rw [this] at hl
    exact absurd hl.2 (by decide)
theorem filter_le {l : List Sess} {f g : Sess → Bool} (h : ∀ s ∈ l, f s = true → g s = true) : (l.filter f).length ≤ (l.filter g).length := by
  induction l with
  | nil => exact Nat.le_refl _
  | cons x r ih =>
    have i := ih (fun s hs => h s (List.mem_cons_of_mem _ hs))
    by_cases hf : f x = true
    · rw [List.filter_cons_of_pos hf, List.filter_cons_of_pos (h x (List.mem_cons_self ..) hf)]
      simp
      exact i
    · rw [List.filter_cons_of_neg hf]
      by_cases hg : g x = true
      · rw [List.filter_cons_of_pos hg]
        simp
        omega
      · rw [List.filter_cons_of_neg hg]
        exact i
theorem Few.sub {T : Tab} (h : Few T) {l' : List Sess} (hs : l'.Sublist T.l) (noted next : Int) (hn : T.noted ≤ noted) : Few ⟨next, noted, l'⟩ := fun t u now hnow => by
  have h1 := h t u now (Int.le_trans hn hnow)
  have h2 := (hs.filter (liveB t u now)).length_le
  show (l'.filter _).length ≤ 3
  omega
theorem tab0_few : Few tab0 := fun t u now _ => by show 0 ≤ 3; omega
theorem few_begin {T : Tab} (h : Few T) (t u : ByteArray) (now : Int) : Few (tBegin T t u now).1 := by
  unfold tBegin
  split
  · exact h
  · rename_i h0
    obtain ⟨h1, h2, h3, h4⟩ := tBeginErr_ok (by simpa using h0)
    have tt := timeErr_ok h2
    intro t' u' now' hn
    have hn' : now ≤ now' := hn
    show ((T.l ++ [begun T t u now]).filter (liveB t' u' now')).length ≤ 3
    rw [List.filter_append, List.length_append]
    by_cases c : ownB t' u' (begun T t u now) = true
    · have hc : t.toList = t'.toList ∧ u.toList = u'.toList := by
        unfold ownB begun at c
        simpa using c
      have h5 : (T.l.filter (liveB t' u' now')).length ≤ (T.l.filter (liveB t u now)).length := filter_le fun s hs hl => by
        have := live_mono hn' hl
        unfold liveB ownB at *
        rw [hc.1, hc.2]
        exact this
      have h6 : ([begun T t u now].filter (liveB t' u' now')).length ≤ 1 := List.length_filter_le _ _
      omega
    · have h6 : [begun T t u now].filter (liveB t' u' now') = [] := by
        rw [List.filter_eq_nil_iff]
        intro s hs
        rw [List.mem_singleton.1 hs]
        unfold liveB
        rw [Bool.eq_false_iff.2 c]
        simp
      rw [h6]
      have := h t' u' now' (Int.le_trans tt.2.2 hn')
      simp
      exact this
theorem few_touch {T : Tab} (h : Few T) (ok : TabOk T) (id now : Int) : Few (tTouch T id now).1 := by
  unfold tTouch
  split
  · exact h
  · rename_i h0
    obtain ⟨g1, g2, g3, g4⟩ := tGet_ok (show (tGet T id now).2 = 0 by simpa using h0)
    have tt := timeErr_ok g3
    generalize (tGet T id now).1 = s at *
    intro t u now' hn
    have hn' : now ≤ now' := hn
    show ((T.l.map fun x => if x.id = id then usedAt s now else x).filter (liveB t u now')).length ≤ 3
    rw [List.filter_map, List.length_map]
    have h1 := h t u now tt.2.2
    have hN1 : Nums1 Sess.id T.l := ok.up.imp (fun h => by omega)
    refine Nat.le_trans (filter_le fun x hx hl => ?_) h1
    have hl' : liveB t u now' (if x.id = id then usedAt s now else x) = true := hl
    by_cases c : x.id = id
    · rw [if_pos c] at hl'
      have e := hN1.eq hx g1 (by rw [c, g2])
      subst e
      unfold liveB at *
      rw [Bool.and_eq_true] at *
      exact ⟨hl'.1, by rw [g4]; rfl⟩
    · rw [if_neg c] at hl'
      exact live_mono hn' hl'
theorem few_do {T : Tab} (h : Few T) (ok : TabOk T) (x : SDeed) : Few (tDo T x) := by
  unfold tDo
  split
  · exact few_begin h _ _ _
  · split
    · exact few_touch h ok _ _
    · split
      · exact h
      · split
        · unfold tEnd
          split
          · exact h
          · split
            · exact h
            · exact h.sub List.filter_sublist _ _ (Int.le_refl _)
        · split
          · exact h.sub List.filter_sublist _ _ (Int.le_refl _)
          · split
            · unfold tSweep
              split
              · exact h
              · rename_i h0
                have tt := timeErr_ok (show timeErr x.now T.noted = 0 by simpa using h0)
                exact h.sub List.filter_sublist _ _ tt.2.2
            · exact h
theorem few_live {T : Tab} (h : Few T) (t u : ByteArray) (now : Int) : (timeErr now T.noted = 0 → (tLive T t u now).length ≤ 3) ∧ (timeErr now T.noted ≠ 0 → (tLive T t u now).length = 0) := by
  unfold tLive
  constructor
  · intro e
    rw [if_neg (by simp [e])]
    exact h t u now (timeErr_ok e).2.2
  · intro e
    rw [if_pos e]
    rfl

/-- deeds that lie in a row of the world -/
structure DIn (w : World) (a : Option Addr) (l : List SDeed) : Prop where
  cells : ∀ i (h : i < l.length), ∃ b o, a = some ⟨b, o, none⟩ ∧ w.cell? ⟨b, o + i * 5, none⟩ = some (.int .i64 l[i].kind) ∧ w.cell? ⟨b, o + i * 5 + 1, none⟩ = some (.string l[i].ten) ∧ w.cell? ⟨b, o + i * 5 + 2, none⟩ = some (.string l[i].usr) ∧ w.cell? ⟨b, o + i * 5 + 3, none⟩ = some (.int .i64 l[i].id) ∧ w.cell? ⟨b, o + i * 5 + 4, none⟩ = some (.int .i64 l[i].now)
  sizes : ∀ x ∈ l, x.ten.size ≤ maxLen ∧ x.usr.size ≤ maxLen
  length : l.length ≤ maxLen
theorem DIn.below {w w' : World} {a : Option Addr} {l : List SDeed} (h : DIn w a l) (hb : Below w.heap.size w w') : DIn w' a l :=
  ⟨fun i hi => by
    obtain ⟨b, o, e, h0, h1, h2, h3, h4⟩ := h.cells i hi
    exact ⟨b, o, e, (hb.cell (World.block_lt_of_cell? _ _ h0)).trans h0, (hb.cell (World.block_lt_of_cell? _ _ h1)).trans h1, (hb.cell (World.block_lt_of_cell? _ _ h2)).trans h2, (hb.cell (World.block_lt_of_cell? _ _ h3)).trans h3, (hb.cell (World.block_lt_of_cell? _ _ h4)).trans h4⟩, h.sizes, h.length⟩

/-- what a round of SessionFew finds -/
def FRel (V : World) (p mb r : Nat) (k : Nat) (wr : World) : Prop := ∃ T n, Both wr V.heap.size p mb r n T ∧ TabOk T ∧ Few T ∧ n ≤ k ∧ T.l.length ≤ k ∧ Below V.heap.size V wr

set_option maxHeartbeats 6400000 in
theorem sessionFew_walk {w : World} (l : List SDeed) (a : Option Addr) (cap : Nat) (hl : DIn w a l) (t u : ByteArray) (ht : t.size ≤ maxLen) (hu : u.size ≤ maxLen) (now : Int) (hnow : (Lit.int .i64 now).wf = true) :
    Calls Try.prog 5 #[.slice a l.length cap, .agg #[.string t, .string u], .int .i64 now] w fun e w' => e = .returned (.bool true) ∧ Below w.heap.size w w' := by
  have hll := hl.length
  unfold maxLen at hll
  have HL := hid lawLive_any
  have HN := hid new_any
  have HRN := hid rNew_any
  have hb1 : Below w.heap.size w (w.alloc (.cells #[.string t, .string u] 23)) := (Below.refl _ w).alloc (Nat.le_refl _) _
  have Hl := hid (hl.below hb1)
  have q0 : (w.alloc (.cells #[.string t, .string u] 23)).cell? ⟨w.heap.size, 0, none⟩ = some (.string t) := (World.cell?_alloc_at _ _ _ _ rfl).trans rfl
  have q1 : (w.alloc (.cells #[.string t, .string u] 23)).cell? ⟨w.heap.size, 1, none⟩ = some (.string u) := (World.cell?_alloc_at _ _ _ _ rfl).trans rfl
  have hsz : (w.alloc (.cells #[.string t, .string u] 23)).heap.size = w.heap.size + 1 := by simp
  have Q0 := hid q0
  have Q1 := hid q1
  have Hsz := hid hsz
  have Hb1 := hid hb1
  obtain ⟨V, hV⟩ : ∃ V, V = (w.alloc (.cells #[.string t, .string u] 23)) := ⟨_, rfl⟩
  have HV := hid hV
  clear hl hnow ht hu q0 q1 hsz hb1 hV
  go_enter Try.func5, Try.ntmps5
  go_wp2_with (first
    | (go_at_call 12; rw [← HV.out]; refine (HN.out V).mono ?_; rintro e w1 ⟨p, mb, rfl, hT1, hbl1⟩)
    | (go_at_call 13; refine (HRN.out w1).mono ?_; rintro e w2 ⟨r, rfl, hR2, hbl2⟩)
    | (go_at_call 9; refine (HL.out w2).mono ?_; rintro e w3 ⟨rfl, hbl3⟩))
  rw [← HV.out] at Hl Q0 Q1 Hsz Hb1
  have hBo : Both w3 V.heap.size p mb r 0 tab0 := ⟨(hT1.below hbl2).below hbl3, none, 0, (hR2.below hbl3).mono hbl1.size⟩
  have HR0 : Hid (FRel V p mb r 0 w3) := ⟨tab0, 0, hBo, tab0_ok, tab0_few, Nat.le_refl _, Nat.le_refl _, Below.on' (Below.on' hbl1 hbl2) hbl3⟩
  clear hT1 hR2 hbl1 hbl2 hbl3 hBo
  go_loopw [9] (fun i wr => ∃ k : Nat, k ≤ l.length ∧ k ≤ 80 ∧ i = .int .i64 k ∧ FRel V p mb r k wr) (fun i _ => 80 - (intOf i).toNat)
  case atStart => exact ⟨0, Nat.zero_le _, Nat.zero_le _, rfl, HR0.out⟩
  case round =>
    obtain ⟨k, hk, hk80, rfl, T, n, hBo, ok, hfew, hn, hlen, hb⟩ := hrel
    have HBo := hid hBo
    have Hok := hid ok
    have Hfew := hid hfew
    have Hb := hid hb
    have hzr : w.heap.size < wr.heap.size := by have := hb.size; have := Hsz.out; omega
    have y0 := (hb.cell (p := ⟨w.heap.size, 0, none⟩) (by have := Hsz.out; show w.heap.size < V.heap.size; omega)).trans Q0.out
    have y1 := (hb.cell (p := ⟨w.heap.size, 1, none⟩) (by have := Hsz.out; show w.heap.size < V.heap.size; omega)).trans Q1.out
    clear hBo ok hfew hb HR0
    by_cases hlt : k < l.length
    · have g1 : decide ((k : Int) < (l.length : Int)) = true := by simp; omega
      by_cases hlt2 : k < 80
      · have g2 : decide ((k : Int) < 80) = true := by simp; omega
        obtain ⟨b, o, ea, d0, d1, d2, d3, d4⟩ := (Hl.out.below Hb.out).cells k hlt
        cases ea
        have hxs := Hl.out.sizes _ (List.getElem_mem hlt)
        generalize l[k] = x at *
        have Hdo := hid (do_any HBo.out Hok.out (by omega) (by omega) Hb.out.size x hxs.1 hxs.2)
        go_wp2_with (go_at_call 14; refine Hdo.out.mono ?_; rintro e w4 ⟨rfl, hBo4, ho4⟩)
        have hlts := HBo.out.lts
        go_roundw
        case rel => exact ⟨k + 1, by omega, by omega, by go_num, tDo T x, n + 1, hBo4, tDo_ok Hok.out x, few_do Hfew.out Hok.out x, by omega, Nat.le_trans (tDo_len T x) (by omega), Hb.out.trans (ho4.below Hb.out.size (fun k hk => by rcases hk with e | e | e <;> omega))⟩
        case measure => simp [intOf]; omega
      · have g2 : decide ((k : Int) < 80) = false := by simp; omega
        have HLv := hid (tabLive_any HBo.out.tab Hok.out (by omega) t u now)
        obtain ⟨f1, f2⟩ := few_live Hfew.out t u now
        generalize (tLive T t u now).length = N at *
        generalize timeErr now T.noted = z at *
        by_cases e0 : z = 0
        · have hN := f1 e0
          have g4 : decide ((N : Int) ≤ 3) = true := by simp; omega
          subst e0
          clear f1 f2
          go_wp2_with (go_at_call 18; refine HLv.out.mono ?_; rintro e w5 ⟨v5, rfl, hrow5, hb5⟩; obtain ⟨a5, c5, rfl⟩ := slice_of_own hrow5)
          go_ret
          exact ⟨rfl, Below.on' (Hb1.out.trans (Hb.out.mono (by have := Hsz.out; omega))) hb5⟩
        · have hN := f2 e0
          have b0 : (z == 0) = false := by simpa using e0
          clear f1 f2
          subst hN
          go_wp2_with (go_at_call 18; refine HLv.out.mono ?_; rintro e w5 ⟨v5, rfl, hrow5, hb5⟩; obtain ⟨a5, c5, rfl⟩ := slice_of_own hrow5)
          go_ret
          exact ⟨rfl, Below.on' (Hb1.out.trans (Hb.out.mono (by have := Hsz.out; omega))) hb5⟩
    · have g1 : decide ((k : Int) < (l.length : Int)) = false := by simp; omega
      have HLv := hid (tabLive_any HBo.out.tab Hok.out (by omega) t u now)
      obtain ⟨f1, f2⟩ := few_live Hfew.out t u now
      generalize (tLive T t u now).length = N at *
      generalize timeErr now T.noted = z at *
      by_cases e0 : z = 0
      · have hN := f1 e0
        have g4 : decide ((N : Int) ≤ 3) = true := by simp; omega
        subst e0
        clear f1 f2
        go_wp2_with (go_at_call 18; refine HLv.out.mono ?_; rintro e w5 ⟨v5, rfl, hrow5, hb5⟩; obtain ⟨a5, c5, rfl⟩ := slice_of_own hrow5)
        go_ret
        exact ⟨rfl, Below.on' (Hb1.out.trans (Hb.out.mono (by have := Hsz.out; omega))) hb5⟩
      · have hN := f2 e0
        have b0 : (z == 0) = false := by simpa using e0
        clear f1 f2
        subst hN
        go_wp2_with (go_at_call 18; refine HLv.out.mono ?_; rintro e w5 ⟨v5, rfl, hrow5, hb5⟩; obtain ⟨a5, c5, rfl⟩ := slice_of_own hrow5)
        go_ret
        exact ⟨rfl, Below.on' (Hb1.out.trans (Hb.out.mono (by have := Hsz.out; omega))) hb5⟩
end Go.Proofs.Ytedoaahimpnmnaa
