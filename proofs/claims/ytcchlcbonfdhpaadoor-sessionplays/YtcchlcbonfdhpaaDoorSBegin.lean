/- beginError and Begin of a table of sessions, each by a contract. -/
import Derived.Test.YtcchlcbonfdhpaaDoorSTouch
namespace Go.Proofs.YtcchlcbonfdhpaaDoor
open Go.RowKit Go.Maps Go.Sort Go.Shelf
set_option linter.unusedVariables false
set_option maxRecDepth 20000

theorem slice_of_own {w : World} {B e size n : Nat} {v : Value} {xs : List Value} (h : w.ownsRow B e size v n xs) : ∃ a cap, v = .slice a n cap := by
  rcases h.2 with ⟨rfl, h0⟩ | ⟨g, cap, cur, rfl, _⟩
  · exact ⟨none, 0, by rw [h0]⟩
  · exact ⟨_, _, rfl⟩

/-- the error of Begin -/
def tBeginErr (T : Tab) (t u : ByteArray) (now : Int) : Int :=
  if (nameB t.data.toList && nameB u.data.toList) = false then 8
  else if timeErr now T.noted ≠ 0 then timeErr now T.noted
  else if 1099511627777 ≤ T.next then 7
  else if 3 ≤ (T.l.filter (liveB t u now)).length then 22
  else 0
/-- a session that begins -/
def begun (T : Tab) (t u : ByteArray) (now : Int) : Sess := ⟨T.next, t, u, now, now⟩
def tBegin (T : Tab) (t u : ByteArray) (now : Int) : Tab × Sess × Int :=
  if tBeginErr T t u now ≠ 0 then (T, sess0, tBeginErr T t u now)
  else (⟨T.next + 1, now, T.l ++ [begun T t u now]⟩, begun T t u now, 0)
theorem tBeginErr_ok {T : Tab} {t u : ByteArray} {now : Int} (h : tBeginErr T t u now = 0) : (nameB t.data.toList && nameB u.data.toList) = true ∧ timeErr now T.noted = 0 ∧ T.next ≤ 1099511627776 ∧ (T.l.filter (liveB t u now)).length < 3 := by
  unfold tBeginErr at h
  split at h
  · cases h
  · rename_i h1
    split at h
    · rename_i h2
      exact absurd h h2
    · rename_i h2
      split at h
      · cases h
      · split at h
        · cases h
        · exact ⟨by simpa using h1, by simpa using h2, by omega, by omega⟩
theorem tBegin_ok {T : Tab} (ok : TabOk T) (t u : ByteArray) (now : Int) : TabOk (tBegin T t u now).1 := by
  unfold tBegin
  split
  · exact ok
  · rename_i h
    obtain ⟨h1, h2, h3, h4⟩ := tBeginErr_ok (by simpa using h)
    have tt := timeErr_ok h2
    have hn := ok.nx
    refine ⟨?_, ?_, ?_, ⟨tt.1, tt.2.1⟩, ?_⟩
    · show (T.l ++ [begun T t u now]).Pairwise _
      rw [List.pairwise_append]
      refine ⟨ok.up, List.pairwise_singleton _ _, fun a ha b hb => ?_⟩
      rw [List.mem_singleton.1 hb]
      exact (ok.ids a ha).2
    · intro s hs
      show 1 ≤ s.id ∧ s.id < T.next + 1
      rcases List.mem_append.1 hs with h5 | h5
      · have := ok.ids s h5
        omega
      · rw [List.mem_singleton.1 h5]
        show 1 ≤ T.next ∧ T.next < T.next + 1
        omega
    · show 1 ≤ T.next + 1 ∧ T.next + 1 ≤ 1099511627777
      omega
    · intro s hs
      show 0 ≤ s.since ∧ s.since ≤ s.used ∧ s.used ≤ now
      rcases List.mem_append.1 hs with h5 | h5
      · have := ok.tm s h5
        omega
      · rw [List.mem_singleton.1 h5]
        show 0 ≤ now ∧ now ≤ now ∧ now ≤ now
        omega

set_option maxHeartbeats 1600000 in
theorem beginError_any {w : World} {B p mb n : Nat} {T : Tab} (h : TabAt w B p mb n T) (ok : TabOk T) (hln : T.l.length ≤ 1000000000) (t u : ByteArray) (now : Int) (ht : t.size ≤ maxLen) (hu : u.size ≤ maxLen) :
    Calls Tryd.prog 38 #[.pointer (some ⟨p, 0, none⟩), .agg #[.string t, .string u], .int .i64 now] w fun e w' => e = .returned (.int .i64 (tBeginErr T t u now)) ∧ Below w.heap.size w w' := by
  have hp := h.lts.1
  have hb1 : Below w.heap.size w (w.alloc (.cells #[.string t, .string u] 30)) := (Below.refl _ w).alloc (Nat.le_refl _) _
  have h1 := h.below hb1
  have Ho := hid (isOwner_any t u (w.alloc (.cells #[.string t, .string u] 30)) ht hu)
  have H1 := hid h1
  have Hok := hid ok
  have c0 := h.c0
  have Ht := fun w => timeErr_any now T.noted w
  cases hx : (nameB t.data.toList && nameB u.data.toList)
  · have e : tBeginErr T t u now = 8 := by unfold tBeginErr; rw [if_pos hx]
    rw [e]
    have Ho' := Ho.out
    rw [hx] at Ho'
    clear h ok h1 hx e ht hu
    go_enter Tryd.func38, Tryd.ntmps38
    go_wp2_with (go_at_call 58; refine Ho'.mono ?_; rintro e w2 ⟨rfl, hb2⟩)
    go_ret
    exact ⟨rfl, hb1.trans (hb2.mono (by simp))⟩
  · have Ho' := Ho.out
    rw [hx] at Ho'
    by_cases e0 : timeErr now T.noted = 0
    · rw [e0] at Ht
      by_cases e1 : 1099511627777 ≤ T.next
      · have e : tBeginErr T t u now = 7 := by unfold tBeginErr; rw [if_neg (by simp [hx]), if_neg (by simp [e0]), if_pos e1]
        rw [e]
        have Hf := hid (fun W (hW : TabAt W B p mb n T) => by have := full_any hW.num; rw [decide_eq_true e1] at this; exact this)
        clear h ok h1 hx e ht hu e0 e1
        go_enter Tryd.func38, Tryd.ntmps38
        go_wp2_with (first
          | (go_at_call 58; refine Ho'.mono ?_; rintro e w2 ⟨rfl, hb2⟩; have k0 := (H1.out.below hb2).c0)
          | (go_at_call 59; refine (Ht _).mono ?_; rintro e w3 ⟨rfl, rfl⟩)
          | (go_at_call 60; refine (Hf.out _ (H1.out.below hb2)).mono ?_; rintro e w4 ⟨rfl, rfl⟩))
        go_ret
        exact ⟨rfl, hb1.trans (hb2.mono (by simp))⟩
      · have Hf := hid (fun W (hW : TabAt W B p mb n T) => by have := full_any hW.num; rw [decide_eq_false e1] at this; exact this)
        have Hl := hid (fun W (hW : TabAt W B p mb n T) => live_any hW ok hln t u now)
        have hll := List.length_filter_le (liveB t u now) T.l
        have e : tBeginErr T t u now = if 3 ≤ (T.l.filter (liveB t u now)).length then 22 else 0 := by unfold tBeginErr; rw [if_neg (by simp [hx]), if_neg (by simp [e0]), if_neg e1]
        rw [e]
        generalize (T.l.filter (liveB t u now)).length = N at *
        have HN : N ≤ 1000000000 := by omega
        by_cases e3 : 3 ≤ N
        all_goals
          first | rw [if_pos e3] | rw [if_neg e3]
          clear h ok h1 hx e ht hu e0 e1 hll hln
          go_enter Tryd.func38, Tryd.ntmps38
          go_wp2_with (first
            | (go_at_call 58; refine Ho'.mono ?_; rintro e w2 ⟨rfl, hb2⟩; have k0 := (H1.out.below hb2).c0; obtain ⟨hc, hf⟩ := bcell hb2)
            | (go_at_call 59; refine (Ht _).mono ?_; rintro e w3 ⟨rfl, rfl⟩)
            | (go_at_call 60; refine (Hf.out _ (H1.out.below hb2)).mono ?_; rintro e w4 ⟨rfl, rfl⟩)
            | (go_at_call 53; refine (Hl.out _ (H1.out.below hb2)).mono ?_; rintro e w5 ⟨v, rfl, hrow, hb5⟩; obtain ⟨a, c, rfl⟩ := slice_of_own hrow))
          go_ret
          exact ⟨rfl, Below.on' (hb1.trans (hb2.mono (by simp))) hb5⟩
    · have e : tBeginErr T t u now = timeErr now T.noted := by unfold tBeginErr; rw [if_neg (by simp [hx]), if_pos (by simpa using e0)]
      rw [e]
      have b0 : (timeErr now T.noted == 0) = false := by simpa using e0
      generalize timeErr now T.noted = x at *
      clear h ok h1 hx e ht hu
      go_enter Tryd.func38, Tryd.ntmps38
      go_wp2_with (first
        | (go_at_call 58; refine Ho'.mono ?_; rintro e w2 ⟨rfl, hb2⟩; have k0 := (H1.out.below hb2).c0)
        | (go_at_call 59; refine (Ht _).mono ?_; rintro e w3 ⟨rfl, rfl⟩))
      go_ret
      exact ⟨rfl, hb1.trans (hb2.mono (by simp))⟩
end Go.Proofs.YtcchlcbonfdhpaaDoor
