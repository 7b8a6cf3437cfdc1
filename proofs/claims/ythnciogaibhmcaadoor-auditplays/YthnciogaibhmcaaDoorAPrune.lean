/- Prune, and Events, of a chain, by contracts. -/
import Derived.Test.YthnciogaibhmcaaDoorADel2
import Derived.Laws.AppendOwnNone
namespace Go.Proofs.YthnciogaibhmcaaDoor
open Go.RowKit Go.Shelf
set_option linter.unusedVariables false
set_option maxRecDepth 20000
attribute [local go_sem ↓] loadL_fold storeL_fold

/-- what Prune answers, and leaves -/
def pruR (c : Ch) (n : Int) : Ch := if pruE c n = 0 then pruC c (n.toNat - c.bn) else c
def pruN (c : Ch) (n : Int) : Int := if pruE c n = 0 then n - (c.bn : Int) else 0
theorem pruR_ok {c : Ch} (ok : ChOk c) (n : Int) : ChOk (pruR c n) := by
  unfold pruR
  split
  · rename_i h
    obtain ⟨k, hk, hle⟩ := pruE_zero h
    rw [hk, Int.toNat_natCast, show c.bn + k - c.bn = k by omega]
    exact pruC_ok ok hle
  · exact ok
theorem pruR_sound {c : Ch} (ok : ChOk c) (hs : Sound c) (n : Int) : Sound (pruR c n) := by
  unfold pruR
  split
  · rename_i h
    obtain ⟨k, hk, hle⟩ := pruE_zero h
    rw [hk, Int.toNat_natCast, show c.bn + k - c.bn = k by omega]
    exact hs.pru ok hle
  · exact hs
theorem pruC_cnt {c : Ch} (ok : ChOk c) {k : Nat} (h : c.bn + k ≤ c.an) : (pruC c k).cnt = c.cnt := by
  have := ok.anc
  simp [pruC, Ch.cnt]
  omega
theorem pruR_cnt {c : Ch} (ok : ChOk c) (n : Int) : (pruR c n).cnt = c.cnt := by
  unfold pruR
  split
  · rename_i h
    obtain ⟨k, hk, hle⟩ := pruE_zero h
    rw [hk, Int.toNat_natCast, show c.bn + k - c.bn = k by omega]
    exact pruC_cnt ok hle
  · rfl
def PruPost (w : World) (B g : Nat) (v : Value) (c : Ch) (n : Int) (x : Ending) (w' : World) : Prop :=
  ∃ v', x = .returned (.tuple #[.int .i64 (pruN c n), .int .i64 (pruE c n)]) ∧ ChAt w' B g v' (pruR c n) ∧ Out (CBlk g v) w w' ∧ Grew w v v'
/-- how it ends where it lets events go -/
def PruOk (w : World) (B g : Nat) (v : Value) (c : Ch) (k : Nat) (x : Ending) (w' : World) : Prop :=
  ∃ v', x = .returned (.tuple #[.int .i64 (k : Int), .int .i64 0]) ∧ ChAt w' B g v' (pruC c k) ∧ Out (CBlk g v) w w' ∧ Grew w v v'
theorem hf_del : ∀ (args : Array Value) (w : World), (callFunc 56 args).run Tryd.prog w = .ok (.enter 56 args) w := fun args w => by simp [go_sem]

set_option maxHeartbeats 4000000 in
theorem prune_ok {w : World} {B g : Nat} {v : Value} {c : Ch} (h : ChAt w B g v c) (ok : ChOk c) (hc : c.cnt < 1152921504606846976) (hT : Tabs w B) (hB : B ≤ w.heap.size) (k : Nat) (hk : c.bn + k ≤ c.an) :
    Calls Tryd.prog 26 #[.pointer (some ⟨g, 0, none⟩), .int .i64 ((c.bn + k : Nat) : Int)] w (PruOk w B g v c k) := by
  have hkl : k ≤ c.ev.length := by have := ok.anc; omega
  have HL := hid (linkAt_any h ok hc hT hB k hkl)
  have c0 := h.c0
  have c33 := h.c33 ok.l
  have hat : (c.at k).length = 32 := Ch.at_length ok k
  obtain ⟨N, hN⟩ : ∃ N, N = c.bn + k := ⟨_, rfl⟩
  rw [← hN] at HL ⊢
  obtain ⟨b, hb⟩ : ∃ b, b = c.bn := ⟨_, rfl⟩
  rw [← hb] at c0
  obtain ⟨an, han⟩ : ∃ an, an = c.an := ⟨_, rfl⟩
  rw [← han] at c33
  have hc' := hc
  unfold Ch.cnt at hc'
  have hNb : N < 1152921504606846976 := by omega
  have hbN : b ≤ N := by omega
  have d1 : ¬ (an : Int) < (N : Int) := by omega
  have d2 : ¬ (N : Int) < (b : Int) := by omega
  have d3 : decide ((an : Int) < (N : Int)) = false := by simpa using d1
  have d4 : decide ((N : Int) < (b : Int)) = false := by simpa using d2
  have Hd : Hid ((N : Int) - (b : Int) = (k : Int)) := by show _ = _; omega
  obtain ⟨a0, cap, rfl⟩ := h.val
  have Hat := hid hat
  have HH := hid h
  have OK := hid ok
  have Hk := hid hkl
  have HN := hid hN
  have lens2 : Hid (Lens { c with bn := N, bh := c.at k }) := ⟨hat, ok.lan, ok.lh⟩
  clear h ok hT hat hkl hN hk hb han hc hc'
  go_enter Tryd.func26, Tryd.ntmps26
  go_wp2_with (first
    | (go_at_call 56; rw [Hd.out]; refine HD.out.mono ?_; rintro x w3 ⟨a3, cap3, rfl, hrow3, ho3, hbl3⟩; have g3 := (ho3.block g H2.out.lt (fun y => H2.out.ne g y rfl)).trans H2.out.obj; have k3 := cell_66 g3 lens2.out; have f3 : w3.frozen? ⟨g, 66, none⟩ = false := frozen_of_row _ _ _ _ _ g3)
    | (go_at_call 55; refine HL.out.mono ?_; rintro x w1 ⟨rfl, hb1⟩; have H1 := HH.out.below hb1; have hS6 := storeL_run (n := N) (H1.there OK.out.l 0 33 (by omega)) Hat.out; have h2 : ChAt (w1.setCells g 0 (lnkC N (c.at k))) B g (.slice a0 c.ev.length cap) { c with bn := N, bh := c.at k } := ⟨H1.setBase OK.out.l N (c.at k) Hat.out, H1.row_set 0 (lnkC N (c.at k)), H1.bg⟩; have o2 : Out (CBlk g (.slice a0 c.ev.length cap)) w (w1.setCells g 0 (lnkC N (c.at k))) := Out.setCells g (.inl rfl) _ _ _ (Out.of_below hb1); have c66 := h2.c66 lens2.out; have HD := hid (delete_any _ B _ c.ev k Hk.out h2.row); have H2 := hid h2; have O2 := hid o2; have HB1 := hid hb1; clear H1 h2 o2 hb1))
  go_ret2
  have o3 : Out (CBlk g (.slice a0 c.ev.length cap)) w w3 := O2.out.trans ho3 (fun j _ hj => .inr hj)
  have hne : ∀ j, (Value.slice a3 (c.ev.length - k) cap3).ownBlock = some j → j ≠ g := fun j hj => H2.out.ne j (by rw [← hbl3]; exact hj)
  have hpc : pruC c k = { c with bn := N, bh := c.at k, ev := c.ev.drop k } := by rw [HN.out]; rfl
  refine ⟨.slice a3 (c.ev.length - k) cap3, rfl, ?_, o3.setCell _ _ (.inl rfl), fun j hj => .inl (by rw [← hbl3]; exact hj)⟩
  rw [hpc]
  refine ⟨?_, ?_, HH.out.bg⟩
  · rw [heap_setCell_same w3 g 66 _ _ _ g3, ccells_set66 lens2.out]
    rfl
  · show World.ownsRow _ B 60 4 (.slice a3 (c.ev.length - k) cap3) (c.ev.drop k).length (eCells (c.ev.drop k))
    rw [List.length_drop]
    refine ⟨hrow3.1, ?_⟩
    rcases hrow3.2 with h0 | ⟨j, cap', cur, hv, hb, hj, r⟩
    · exact .inl h0
    · refine .inr ⟨j, cap', cur, hv, hb, (heap_setCell_other _ _ _ _ (hne j (by rw [hv]; rfl))).trans hj, r⟩

set_option maxHeartbeats 1000000 in
theorem prune_err {w : World} {B g : Nat} {v : Value} {c : Ch} (h : ChAt w B g v c) (ok : ChOk c) (n : Int) (he : pruE c n ≠ 0) :
    Calls Tryd.prog 26 #[.pointer (some ⟨g, 0, none⟩), .int .i64 n] w fun x w' => x = .returned (.tuple #[.int .i64 0, .int .i64 2]) ∧ Below w.heap.size w w' := by
  have c0 := h.c0
  have c33 := h.c33 ok.l
  have h2 : (c.an : Int) < n ∨ n < (c.bn : Int) := by
    unfold pruE at he
    split at he
    · assumption
    · exact absurd rfl he
  clear h ok he
  generalize c.an = an at *
  generalize c.bn = bn at *
  by_cases d1 : (an : Int) < n
  · have d3 : decide ((an : Int) < n) = true := by simpa using d1
    go_enter Tryd.func26, Tryd.ntmps26
    go_wp2
    go_ret2
    exact ⟨rfl, Below.refl _ _⟩
  · have d2 : n < (bn : Int) := by omega
    have d3 : decide ((an : Int) < n) = false := by simpa using d1
    have d4 : decide (n < (bn : Int)) = true := by simpa using d2
    go_enter Tryd.func26, Tryd.ntmps26
    go_wp2
    go_ret2
    exact ⟨rfl, Below.refl _ _⟩
theorem prune_any {w : World} {B g : Nat} {v : Value} {c : Ch} (h : ChAt w B g v c) (ok : ChOk c) (hc : c.cnt < 1152921504606846976) (hT : Tabs w B) (hB : B ≤ w.heap.size) (n : Int) :
    Calls Tryd.prog 26 #[.pointer (some ⟨g, 0, none⟩), .int .i64 n] w (PruPost w B g v c n) := by
  by_cases he : pruE c n = 0
  · obtain ⟨k, rfl, hle⟩ := pruE_zero he
    refine (prune_ok h ok hc hT hB k hle).mono ?_
    rintro x w' ⟨v', rfl, h1, h2, h3⟩
    refine ⟨v', ?_, ?_, h2, h3⟩
    · unfold pruN
      rw [if_pos he, he, show (((c.bn + k : Nat) : Int) - (c.bn : Int)) = (k : Int) by omega]
    · unfold pruR
      rw [if_pos he, Int.toNat_natCast, show c.bn + k - c.bn = k by omega]
      exact h1
  · refine (prune_err h ok n he).mono ?_
    rintro x w' ⟨rfl, hb⟩
    have he2 : pruE c n = 2 := by
      unfold pruE at he ⊢
      split
      · rfl
      · rename_i h9; rw [if_neg h9] at he; exact absurd rfl he
    refine ⟨v, ?_, ?_, Out.of_below hb, fun k hk => .inl hk⟩
    · unfold pruN
      rw [if_neg he, he2]
    · unfold pruR
      rw [if_neg he]
      exact h.below hb

/-- append(v, src...), v the call's own row without events -/
theorem app_evs (w : World) {ops : Array Oper} {rest : List Oper} {o : Oper} {a : Act} {Q : Exit → Act → World → Prop} (hgd : o.guard = none) (s x : Operand)
    (ho : o.op = .call { callee := .builtin .append, args := #[s, x], argTypes := #[46, 46] }) (base : Nat) (v : Value) (hs : a.eval s = v)
    (hown : w.ownsRow base 60 4 v 0 []) (b n c : Nat) (l : List Ev) (hn : n = l.length) (hx : a.eval x = .slice (some ⟨b, 0, none⟩) n c) (hr : w.rangeAt b 0 (eCells l)) (hb : l.length ≤ 1000) (hbase : base ≤ w.heap.size)
    (h : ∀ v' w', w'.ownsRow base 60 4 v' l.length (eCells l) → Below base w w' → wpList Tryd.prog ops Q rest (a.put o.dst v') w') :
    wpList Tryd.prog ops Q (o :: rest) a w := by
  obtain ⟨i0, hi, hz0, hz1, hz2⟩ := info_parts Tryd.infoE
  refine wpList_append_own w hgd s x 46 ho base 60 i0 (.agg #[.int .i64 0, .int .i64 0, .string ⟨#[]⟩, .string ⟨#[]⟩]) 4 48 Tryd.underlying46 hi hz0 hz1 hz2 rfl (by decide) v 0 [] hs hown ⟨b, 0, none⟩ n c (eCells l) hx (by rw [eCells_length, hn]) (fun j u hj => by rw [addr_add]; exact hr j u hj) (eCells_oneCell l) (by unfold maxLen; omega) (by omega) hbase ?_
  intro v' w' h1 h2 _
  rw [Nat.zero_add, List.nil_append, hn] at h1
  exact h v' w' h1 ((Below.refl _ _).grown h2 hbase (fun k hk => (hown.lt k hk).1))
/-- a row of events of one's own -/
def EvPost (w : World) (l : List Ev) (e : Ending) (w' : World) : Prop := ∃ a cap, e = .returned (.slice a l.length cap) ∧ w'.ownsRow w.heap.size 60 4 (.slice a l.length cap) l.length (eCells l) ∧ Below w.heap.size w w'
theorem evPost_of {w w' : World} {l : List Ev} {v : Value} (h : w'.ownsRow w.heap.size 60 4 v l.length (eCells l)) (hb : Below w.heap.size w w') : EvPost w l (.returned v) w' := by
  have h2 := h
  rcases h.2 with ⟨rfl, h0⟩ | ⟨b, cap, cur, rfl, _⟩
  · exact ⟨none, 0, by rw [h0], by rw [h0] at h2 ⊢; exact h2, hb⟩
  · exact ⟨_, cap, rfl, h2, hb⟩
set_option maxHeartbeats 1000000 in
theorem clone_any (w : World) (B : Nat) (v : Value) (l : List Ev) (hl : l.length ≤ 1000) (hown : w.ownsRow B 60 4 v l.length (eCells l)) :
    Calls Tryd.prog 27 #[v] w (EvPost w l) := by
  have q22 : ∀ (w : World) (a : Option Addr) (n c n' c' : Nat), (binOp .eql 46 (.slice a n c) (.slice none n' c')).run Tryd.prog w = .ok (.bool a.isNone) w := fun w a n c n' c' => Lib.run_eql_slice_nil w _ _ a n c n' c' Tryd.underlying46
  rcases hown.2 with ⟨rfl, h0⟩ | ⟨b, cap, cur, rfl, hb, hg, hc, hmx, hsz, htk⟩
  · have hl0 : l = [] := List.length_eq_zero_iff.1 h0
    subst hl0
    clear hown
    go_enter Tryd.func27, Tryd.ntmps27
    go_wp2
    go_ret
    exact evPost_of (l := []) (World.ownsRow_nil _ _ _ _) (Below.refl _ _)
  · have hr : w.rangeAt b 0 (eCells l) := fun j u hj => by
      rw [Nat.zero_add, cell_of_row _ _ _ _ _ _ hg, ← Array.getElem?_toList]
      rw [← htk] at hj
      have := (List.getElem?_eq_some_iff.1 hj).1
      rw [List.length_take] at this
      rw [List.getElem?_take_of_lt (by omega)] at hj
      exact hj
    have hr1 := hid (World.rangeAt_alloc hr (.cells #[] 60))
    have B1 : Hid (Below w.heap.size w (w.alloc (.cells #[] 60))) := (Below.refl _ w).alloc (Nat.le_refl _) _
    have M1 : Hid ((w.alloc (.cells #[] 60)).ownsRow w.heap.size 60 4 (.slice (some ⟨w.heap.size, 0, none⟩) 0 0) 0 []) := World.ownsRow_made w #[] 0 (Nat.le_refl _) (by decide) rfl
    obtain ⟨n, hn⟩ : ∃ n, n = l.length := ⟨_, rfl⟩
    rw [← hn]
    have Hn := hid hn
    have Hl := hid hl
    clear hr hn hg htk hsz hmx hown hl hc
    go_enter Tryd.func27, Tryd.ntmps27
    go_wp2_with (at_builtin; refine app_evs _ rfl (.tmp 5) (.tmp 6) rfl w.heap.size _ rfl M1.out b n cap l Hn.out rfl hr1.out Hl.out (by simp) ?_; intro v' w' h1 h2)
    go_ret
    exact evPost_of h1 (B1.out.trans h2)
set_option maxHeartbeats 1000000 in
theorem events_any {w : World} {B g : Nat} {v : Value} {c : Ch} (h : ChAt w B g v c) (ok : ChOk c) :
    Calls Tryd.prog 31 #[.pointer (some ⟨g, 0, none⟩)] w (EvPost w c.ev) := by
  have HC := hid (clone_any w B v c.ev (by have := ok.few; omega) h.row)
  obtain ⟨a0, cap, rfl⟩ := h.val
  have c66 := h.c66 ok.l
  clear h ok
  go_enter Tryd.func31, Tryd.ntmps31
  go_wp2_with (go_at_call 27; refine HC.out.mono ?_; rintro x w1 ⟨a1, cap1, rfl, h1, h2⟩)
  go_ret
  exact ⟨a1, cap1, rfl, h1, h2⟩
end Go.Proofs.YthnciogaibhmcaaDoor
