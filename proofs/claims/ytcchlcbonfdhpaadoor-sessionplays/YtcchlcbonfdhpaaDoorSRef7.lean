/- The reference's Begin, by a contract. (Printed by gen/refbegin.py.) -/
import Derived.Test.YtcchlcbonfdhpaaDoorSRef6
namespace Go.Proofs.YtcchlcbonfdhpaaDoor
open Go.RowKit Go.Maps Go.Sort Go.Shelf
set_option linter.unusedVariables false
set_option maxRecDepth 20000

set_option maxHeartbeats 16000000 in
theorem rBegin_any {w : World} {B r : Nat} {a : Option Addr} {cap : Nat} {T : Tab} (h : RTab w B r a cap T) (ok : TabOk T) (hl : T.l.length ≤ 1000000000) (hB : B ≤ w.heap.size) (t u : ByteArray) (now : Int) (ht : t.size ≤ maxLen) (hu : u.size ≤ maxLen) :
    Calls Tryd.prog 18 #[.pointer (some ⟨r, 0, none⟩), .agg #[.string t, .string u], .int .i64 now] w fun e w' => e = .returned (.tuple #[sessV (tBegin T t u now).2.1, .int .i64 (tBegin T t u now).2.2]) ∧ (∃ a' cap', RTab w' B r a' cap' (tBegin T t u now).1) ∧ Out (fun k => k = r) w w' := by
  have hr := h.lt
  have hb1 : Below w.heap.size w ((w.alloc (.cells #[.string t, .string u] 30)).alloc (.cells #[.int .i64 0, .string ⟨#[]⟩, .string ⟨#[]⟩, .int .i64 0, .int .i64 0] 42)) := ((Below.refl _ w).alloc (Nat.le_refl _) _).alloc (by simp) _
  have h1 := h.below hb1
  have Hte := rTime_any h1 now
  have HH := hid h
  have c0 := h1.c0
  have hnx := ok.nx
  cases hx : nameB t.data.toList
  · have e : tBegin T t u now = (T, sess0, 8) := by
      have : tBeginErr T t u now = 8 := by unfold tBeginErr; rw [if_pos (by rw [hx]; rfl)]
      unfold tBegin
      rw [if_pos (by rw [this]; decide), this]
    rw [e]
    clear e h ok h1 Hte
    go_enter Tryd.func18, Tryd.ntmps18
    go_wp2_with (first
      | (go_at_call 42; refine (refIsName_any _ _ (by assumption)).mono ?_; rintro e w2 ⟨rfl, rfl⟩))
    exact bodyPost_ret (v := .tuple #[sessV sess0, .int .i64 8]) (by simp [results, Tryd.results18, go_sem, sessV, sess0]) rfl ⟨rfl, ⟨_, _, HH.out.below hb1⟩, Out.of_below hb1⟩
  · cases hy : nameB u.data.toList
    · have e : tBegin T t u now = (T, sess0, 8) := by
        have : tBeginErr T t u now = 8 := by unfold tBeginErr; rw [if_pos (by rw [hx, hy]; rfl)]
        unfold tBegin
        rw [if_pos (by rw [this]; decide), this]
      rw [e]
      clear e h ok h1 Hte
      go_enter Tryd.func18, Tryd.ntmps18
      go_wp2_with (first
        | (go_at_call 42; refine (refIsName_any _ _ (by assumption)).mono ?_; rintro e w2 ⟨rfl, rfl⟩))
      exact bodyPost_ret (v := .tuple #[sessV sess0, .int .i64 8]) (by simp [results, Tryd.results18, go_sem, sessV, sess0]) rfl ⟨rfl, ⟨_, _, HH.out.below hb1⟩, Out.of_below hb1⟩
    · by_cases e0 : timeErr now T.noted = 0
      · rw [e0] at Hte
        by_cases e1 : 1099511627777 ≤ T.next
        · have e : tBegin T t u now = (T, sess0, 7) := by
            have : tBeginErr T t u now = 7 := by unfold tBeginErr; rw [if_neg (by rw [hx, hy]; decide), if_neg (by simp [e0]), if_pos e1]
            unfold tBegin
            rw [if_pos (by rw [this]; decide), this]
          rw [e]
          have e1' : 1099511627776 < T.next := by omega
          clear e h ok h1
          go_enter Tryd.func18, Tryd.ntmps18
          go_wp2_with (first
            | (go_at_call 42; refine (refIsName_any _ _ (by assumption)).mono ?_; rintro e w2 ⟨rfl, rfl⟩)
            | (go_at_call 43; refine Hte.mono ?_; rintro e w2 ⟨rfl, rfl⟩))
          exact bodyPost_ret (v := .tuple #[sessV sess0, .int .i64 7]) (by simp [results, Tryd.results18, go_sem, sessV, sess0]) rfl ⟨rfl, ⟨_, _, HH.out.below hb1⟩, Out.of_below hb1⟩
        · have e1' : ¬ 1099511627776 < T.next := by omega
          have eN : tBeginErr T t u now = if 3 ≤ (T.l.filter (liveB t u now)).length then 22 else 0 := by unfold tBeginErr; rw [if_neg (by rw [hx, hy]; decide), if_neg (by simp [e0]), if_neg e1]
          have HeN := hid eN
          have Htm := hid ok.times
          have H1 := hid h1
          have Hok := hid ok
          have hsz : ((w.alloc (.cells #[.string t, .string u] 30)).alloc (.cells #[.int .i64 0, .string ⟨#[]⟩, .string ⟨#[]⟩, .int .i64 0, .int .i64 0] 42)).heap.size = w.heap.size + 2 := by simp
          have Hsz := hid hsz
          have qq0 : ((w.alloc (.cells #[.string t, .string u] 30)).alloc (.cells #[.int .i64 0, .string ⟨#[]⟩, .string ⟨#[]⟩, .int .i64 0, .int .i64 0] 42)).cell? ⟨w.heap.size, 0, none⟩ = some (.string t) := by rw [World.cell?_alloc_past _ _ _ (by simp), World.cell?_alloc_at _ _ _ _ rfl]; rfl
          have qq1 : ((w.alloc (.cells #[.string t, .string u] 30)).alloc (.cells #[.int .i64 0, .string ⟨#[]⟩, .string ⟨#[]⟩, .int .i64 0, .int .i64 0] 42)).cell? ⟨w.heap.size, 1, none⟩ = some (.string u) := by rw [World.cell?_alloc_past _ _ _ (by simp), World.cell?_alloc_at _ _ _ _ rfl]; rfl
          have Q0 := hid qq0
          have Q1 := hid qq1
          have rr : ∀ j v, (#[.int .i64 0, .string ⟨#[]⟩, .string ⟨#[]⟩, .int .i64 0, .int .i64 0] : Array Value)[j]? = some v → ((w.alloc (.cells #[.string t, .string u] 30)).alloc (.cells #[.int .i64 0, .string ⟨#[]⟩, .string ⟨#[]⟩, .int .i64 0, .int .i64 0] 42)).cell? ⟨w.heap.size + 1, j, none⟩ = some v := fun j v hj => (World.cell?_alloc_at _ _ _ _ (by simp)).trans hj
          have RR := hid rr
          have rf : ∀ o, ((w.alloc (.cells #[.string t, .string u] 30)).alloc (.cells #[.int .i64 0, .string ⟨#[]⟩, .string ⟨#[]⟩, .int .i64 0, .int .i64 0] 42)).frozen? ⟨w.heap.size + 1, o, none⟩ = false := fun o => World.frozen?_alloc_at _ _ _ _ (by simp)
          have RF := hid rf
          obtain ⟨V1, hV⟩ : ∃ V1, V1 = ((w.alloc (.cells #[.string t, .string u] 30)).alloc (.cells #[.int .i64 0, .string ⟨#[]⟩, .string ⟨#[]⟩, .int .i64 0, .int .i64 0] 42)) := ⟨_, rfl⟩
          have HV := hid hV
          clear eN h ok h1 e0 hsz qq0 qq1 rr rf hV
          go_enter Tryd.func18, Tryd.ntmps18
          go_wp2_with (first
            | (go_at_call 42; refine (refIsName_any _ _ (by assumption)).mono ?_; rintro e w2 ⟨rfl, rfl⟩)
            | (go_at_call 43; refine Hte.mono ?_; rintro e w2 ⟨rfl, rfl⟩))
          rw [← HV.out]
          rw [← HV.out] at H1 Hsz Q0 Q1 RR RF hb1
          go_loopw [9, 10] (fun n i wr => ∃ k : Nat, k ≤ T.l.length ∧ i = .int .i64 k ∧ n = .int .i64 (((T.l.take k).filter (liveB t u now)).length : Nat) ∧ Below V1.heap.size V1 wr)
            (fun _ i _ => T.l.length - (intOf i).toNat)
          case atStart => exact ⟨0, Nat.zero_le _, rfl, rfl, Below.refl _ _⟩
          case round =>
            obtain ⟨k, hk, rfl, rfl, hb⟩ := hrel
            have Hb := hid hb
            have hR := H1.out.below hb
            have c2 := hR.c2
            have hzr : w.heap.size + 2 ≤ wr.heap.size := by have := hb.size; have := Hsz.out; omega
            have q0 := (hb.cell (p := ⟨w.heap.size, 0, none⟩) (by have := Hsz.out; show w.heap.size < V1.heap.size; omega)).trans Q0.out
            have q1 := (hb.cell (p := ⟨w.heap.size, 1, none⟩) (by have := Hsz.out; show w.heap.size < V1.heap.size; omega)).trans Q1.out
            clear hb
            have hfl := filt_len T.l (liveB t u now) k
            by_cases hlt : k < T.l.length
            · have Hg : Hid (T.l[k]? = some T.l[k]) := List.getElem?_eq_getElem hlt
              generalize T.l[k] = s at *
              obtain ⟨_, b, o, ea, d0, d1, d2, d3, d4⟩ := hR.sin.at Hg.out
              cases ea
              have Hsn := hid (live_snoc (f := liveB t u now) Hg.out)
              have Hov := hid (fun w => rOver_any s now w (Htm.out s (List.mem_of_getElem? Hg.out)))
              clear hR
              generalize hN : ((T.l.take k).filter (liveB t u now)).length = N at *
              have HN := hid hN
              clear hN
              by_cases h1 : s.ten.toList = t.toList ∧ s.usr.toList = u.toList
              · obtain ⟨h1, h1'⟩ := h1
                have Ho : Hid (ownB t u s = true) := by show _ = _; unfold ownB; simp [h1, h1']
                cases hf : overB s now
                · have Hf : Hid (liveB t u now s = true) := by show _ = _; unfold liveB; rw [Ho.out, hf]; rfl
                  rw [hf] at Hov
                  clear hf
                  go_wp2
                  refine enterQ (S := fun w9 => w9.cell? ⟨r, 2, none⟩ = some (.slice (some ⟨b, o, none⟩) T.l.length cap) ∧ w9.cell? ⟨b, o + k * 5, none⟩ = some (.int .i64 s.id) ∧ w9.cell? ⟨b, o + k * 5 + 1, none⟩ = some (.string s.ten) ∧ w9.cell? ⟨b, o + k * 5 + 2, none⟩ = some (.string s.usr) ∧ w9.cell? ⟨b, o + k * 5 + 3, none⟩ = some (.int .i64 s.since) ∧ w9.cell? ⟨b, o + k * 5 + 4, none⟩ = some (.int .i64 s.used) ∧ w9.cell? ⟨w.heap.size, 0, none⟩ = some (.string t) ∧ w9.cell? ⟨w.heap.size, 1, none⟩ = some (.string u)) (by kernel_rfl) ⟨c2, d0, d1, d2, d3, d4, q0, q1⟩ (fun d v c a w h => by cases d <;> exact h) (fun hQ hS => ?_)
                  have HQ := hid hQ
                  clear hQ
                  refine takeH HQ.out 0 (some 49) (.pointer (some ⟨r, 0, none⟩)) _ rfl rfl (by kernel_rfl) (by kernel_rfl) (by kernel_rfl) (by kernel_rfl) (fun w0 ⟨s1, s2, s3, s4, s5, s6, s7, s8⟩ => by go_simp) hS ?_
                  simp only [Act.put, List.setIfInBounds_toArray, List.set_cons_zero, List.set_cons_succ]
                  refine takeH HQ.out 1 (some 50) (.pointer (some ⟨r, 0, none⟩)) _ rfl rfl (by kernel_rfl) (by kernel_rfl) (by kernel_rfl) (by kernel_rfl) (fun w0 ⟨s1, s2, s3, s4, s5, s6, s7, s8⟩ => by go_simp) hS ?_
                  simp only [Act.put, List.setIfInBounds_toArray, List.set_cons_zero, List.set_cons_succ]
                  refine takeH HQ.out 2 (some 51) (.pointer (some ⟨r, 2, none⟩)) _ rfl rfl (by kernel_rfl) (by kernel_rfl) (by kernel_rfl) (by kernel_rfl) (fun w0 ⟨s1, s2, s3, s4, s5, s6, s7, s8⟩ => by go_simp) hS ?_
                  simp only [Act.put, List.setIfInBounds_toArray, List.set_cons_zero, List.set_cons_succ]
                  refine takeH HQ.out 3 (some 52) (.slice (some ⟨b, o, none⟩) T.l.length cap) _ rfl rfl (by kernel_rfl) (by kernel_rfl) (by kernel_rfl) (by kernel_rfl) (fun w0 ⟨s1, s2, s3, s4, s5, s6, s7, s8⟩ => by go_simp) hS ?_
                  simp only [Act.put, List.setIfInBounds_toArray, List.set_cons_zero, List.set_cons_succ]
                  refine takeH HQ.out 4 (some 53) (.int .i64 (k : Int)) _ rfl rfl (by kernel_rfl) (by kernel_rfl) (by kernel_rfl) (by kernel_rfl) (fun w0 ⟨s1, s2, s3, s4, s5, s6, s7, s8⟩ => by go_simp) hS ?_
                  simp only [Act.put, List.setIfInBounds_toArray, List.set_cons_zero, List.set_cons_succ]
                  refine takeH HQ.out 5 (some 54) (.pointer (some ⟨b, o + k * 5, none⟩)) _ rfl rfl (by kernel_rfl) (by kernel_rfl) (by kernel_rfl) (by kernel_rfl) (fun w0 ⟨s1, s2, s3, s4, s5, s6, s7, s8⟩ => by go_simp) hS ?_
                  simp only [Act.put, List.setIfInBounds_toArray, List.set_cons_zero, List.set_cons_succ]
                  refine takeH HQ.out 6 (some 55) (.pointer (some ⟨b, o + k * 5 + 1, none⟩)) _ rfl rfl (by kernel_rfl) (by kernel_rfl) (by kernel_rfl) (by kernel_rfl) (fun w0 ⟨s1, s2, s3, s4, s5, s6, s7, s8⟩ => by go_simp) hS ?_
                  simp only [Act.put, List.setIfInBounds_toArray, List.set_cons_zero, List.set_cons_succ]
                  refine takeH HQ.out 7 (some 56) (.agg #[.string s.ten, .string s.usr]) _ rfl rfl (by kernel_rfl) (by kernel_rfl) (by kernel_rfl) (by kernel_rfl) (fun w0 ⟨s1, s2, s3, s4, s5, s6, s7, s8⟩ => by go_simp) hS ?_
                  simp only [Act.put, List.setIfInBounds_toArray, List.set_cons_zero, List.set_cons_succ]
                  refine takeH HQ.out 8 (some 57) (.agg #[.string t, .string u]) _ rfl rfl (by kernel_rfl) (by kernel_rfl) (by kernel_rfl) (by kernel_rfl) (fun w0 ⟨s1, s2, s3, s4, s5, s6, s7, s8⟩ => by go_simp) hS ?_
                  simp only [Act.put, List.setIfInBounds_toArray, List.set_cons_zero, List.set_cons_succ]
                  refine takeH HQ.out 9 (some 58) (.bool true) _ rfl rfl (by kernel_rfl) (by kernel_rfl) (by kernel_rfl) (by kernel_rfl) (fun w0 ⟨s1, s2, s3, s4, s5, s6, s7, s8⟩ => by go_simp) hS ?_
                  simp only [Act.put, List.setIfInBounds_toArray, List.set_cons_zero, List.set_cons_succ]
                  refine takeH HQ.out 10 (some 59) (.bool true) _ rfl rfl (by kernel_rfl) (by kernel_rfl) (by kernel_rfl) (by kernel_rfl) (fun w0 ⟨s1, s2, s3, s4, s5, s6, s7, s8⟩ => by go_simp) hS ?_
                  simp only [Act.put, List.setIfInBounds_toArray, List.set_cons_zero, List.set_cons_succ]
                  refine takeH HQ.out 11 (some 60) (.pointer (some ⟨r, 0, none⟩)) _ rfl rfl (by kernel_rfl) (by kernel_rfl) (by kernel_rfl) (by kernel_rfl) (fun w0 ⟨s1, s2, s3, s4, s5, s6, s7, s8⟩ => by go_simp) hS ?_
                  simp only [Act.put, List.setIfInBounds_toArray, List.set_cons_zero, List.set_cons_succ]
                  refine takeH HQ.out 12 (some 61) (.pointer (some ⟨r, 0, none⟩)) _ rfl rfl (by kernel_rfl) (by kernel_rfl) (by kernel_rfl) (by kernel_rfl) (fun w0 ⟨s1, s2, s3, s4, s5, s6, s7, s8⟩ => by go_simp) hS ?_
                  simp only [Act.put, List.setIfInBounds_toArray, List.set_cons_zero, List.set_cons_succ]
                  refine takeH HQ.out 13 (some 62) (.pointer (some ⟨r, 2, none⟩)) _ rfl rfl (by kernel_rfl) (by kernel_rfl) (by kernel_rfl) (by kernel_rfl) (fun w0 ⟨s1, s2, s3, s4, s5, s6, s7, s8⟩ => by go_simp) hS ?_
                  simp only [Act.put, List.setIfInBounds_toArray, List.set_cons_zero, List.set_cons_succ]
                  refine takeH HQ.out 14 (some 63) (.slice (some ⟨b, o, none⟩) T.l.length cap) _ rfl rfl (by kernel_rfl) (by kernel_rfl) (by kernel_rfl) (by kernel_rfl) (fun w0 ⟨s1, s2, s3, s4, s5, s6, s7, s8⟩ => by go_simp) hS ?_
                  simp only [Act.put, List.setIfInBounds_toArray, List.set_cons_zero, List.set_cons_succ]
                  refine takeH HQ.out 15 (some 64) (.int .i64 (k : Int)) _ rfl rfl (by kernel_rfl) (by kernel_rfl) (by kernel_rfl) (by kernel_rfl) (fun w0 ⟨s1, s2, s3, s4, s5, s6, s7, s8⟩ => by go_simp) hS ?_
                  simp only [Act.put, List.setIfInBounds_toArray, List.set_cons_zero, List.set_cons_succ]
                  refine takeH HQ.out 16 (some 65) (.pointer (some ⟨b, o + k * 5, none⟩)) _ rfl rfl (by kernel_rfl) (by kernel_rfl) (by kernel_rfl) (by kernel_rfl) (fun w0 ⟨s1, s2, s3, s4, s5, s6, s7, s8⟩ => by go_simp) hS ?_
                  simp only [Act.put, List.setIfInBounds_toArray, List.set_cons_zero, List.set_cons_succ]
                  refine takeH HQ.out 17 (some 66) (.agg #[.int .i64 s.id, .string s.ten, .string s.usr, .int .i64 s.since, .int .i64 s.used]) _ rfl rfl (by kernel_rfl) (by kernel_rfl) (by kernel_rfl) (by kernel_rfl) (fun w0 ⟨s1, s2, s3, s4, s5, s6, s7, s8⟩ => by go_simp) hS ?_
                  simp only [Act.put, List.setIfInBounds_toArray, List.set_cons_zero, List.set_cons_succ]
                  refine takeH HQ.out 18 (some 67) (.int .i64 now) _ rfl rfl (by kernel_rfl) (by kernel_rfl) (by kernel_rfl) (by kernel_rfl) (fun w0 ⟨s1, s2, s3, s4, s5, s6, s7, s8⟩ => by go_simp) hS ?_
                  simp only [Act.put, List.setIfInBounds_toArray, List.set_cons_zero, List.set_cons_succ]
                  refine wpAnyH_ready (rs := [19]) (by kernel_rfl) (by simp) ?_
                  refine AllReadyH.cons rfl (fun K hK => ?_) AllReadyH.nil
                  go_simp
                  refine (Hov.out _).mono ?_
                  rintro e w1 ⟨rfl, hb1'⟩
                  have hb1 := undrew1 hb1'
                  have Hb1 := hid hb1
                  have hS1 := scan_keep hb1 c2 d0 d1 d2 d3 d4 q0 q1
                  clear hb1 hb1' hS
                  dsimp only
                  refine hK.out _ _ hS1 (fun hS => ?_)
                  clear hK K
                  refine takeH HQ.out 20 (some 69) (.bool true) _ rfl rfl (by kernel_rfl) (by kernel_rfl) (by kernel_rfl) (by kernel_rfl) (fun w0 ⟨s1, s2, s3, s4, s5, s6, s7, s8⟩ => by go_simp) hS ?_
                  simp only [Act.put, List.setIfInBounds_toArray, List.set_cons_zero, List.set_cons_succ]
                  refine takeH HQ.out 21 (some 70) (.bool true) _ rfl rfl (by kernel_rfl) (by kernel_rfl) (by kernel_rfl) (by kernel_rfl) (fun w0 ⟨s1, s2, s3, s4, s5, s6, s7, s8⟩ => by go_simp) hS ?_
                  simp only [Act.put, List.setIfInBounds_toArray, List.set_cons_zero, List.set_cons_succ]
                  refine wpAnyH_done (by kernel_rfl) ?_ _
                  clear c2 d0 d1 d2 d3 d4 q0 q1 hS
                  go_wp2
                  go_roundw
                  case rel =>
                    refine ⟨k + 1, by omega, by go_num, ?_, Below.on' Hb.out Hb1.out⟩
                    rw [Hsn.out, Hf.out, if_pos rfl, List.length_append, HN.out]
                    go_num
                  case measure => simp [intOf]; omega
                · have Hf : Hid (liveB t u now s = false) := by show _ = _; unfold liveB; rw [Ho.out, hf]; rfl
                  rw [hf] at Hov
                  clear hf
                  go_wp2
                  refine enterQ (S := fun w9 => w9.cell? ⟨r, 2, none⟩ = some (.slice (some ⟨b, o, none⟩) T.l.length cap) ∧ w9.cell? ⟨b, o + k * 5, none⟩ = some (.int .i64 s.id) ∧ w9.cell? ⟨b, o + k * 5 + 1, none⟩ = some (.string s.ten) ∧ w9.cell? ⟨b, o + k * 5 + 2, none⟩ = some (.string s.usr) ∧ w9.cell? ⟨b, o + k * 5 + 3, none⟩ = some (.int .i64 s.since) ∧ w9.cell? ⟨b, o + k * 5 + 4, none⟩ = some (.int .i64 s.used) ∧ w9.cell? ⟨w.heap.size, 0, none⟩ = some (.string t) ∧ w9.cell? ⟨w.heap.size, 1, none⟩ = some (.string u)) (by kernel_rfl) ⟨c2, d0, d1, d2, d3, d4, q0, q1⟩ (fun d v c a w h => by cases d <;> exact h) (fun hQ hS => ?_)
                  have HQ := hid hQ
                  clear hQ
                  refine takeH HQ.out 0 (some 49) (.pointer (some ⟨r, 0, none⟩)) _ rfl rfl (by kernel_rfl) (by kernel_rfl) (by kernel_rfl) (by kernel_rfl) (fun w0 ⟨s1, s2, s3, s4, s5, s6, s7, s8⟩ => by go_simp) hS ?_
                  simp only [Act.put, List.setIfInBounds_toArray, List.set_cons_zero, List.set_cons_succ]
                  refine takeH HQ.out 1 (some 50) (.pointer (some ⟨r, 0, none⟩)) _ rfl rfl (by kernel_rfl) (by kernel_rfl) (by kernel_rfl) (by kernel_rfl) (fun w0 ⟨s1, s2, s3, s4, s5, s6, s7, s8⟩ => by go_simp) hS ?_
                  simp only [Act.put, List.setIfInBounds_toArray, List.set_cons_zero, List.set_cons_succ]
                  refine takeH HQ.out 2 (some 51) (.pointer (some ⟨r, 2, none⟩)) _ rfl rfl (by kernel_rfl) (by kernel_rfl) (by kernel_rfl) (by kernel_rfl) (fun w0 ⟨s1, s2, s3, s4, s5, s6, s7, s8⟩ => by go_simp) hS ?_
                  simp only [Act.put, List.setIfInBounds_toArray, List.set_cons_zero, List.set_cons_succ]
                  refine takeH HQ.out 3 (some 52) (.slice (some ⟨b, o, none⟩) T.l.length cap) _ rfl rfl (by kernel_rfl) (by kernel_rfl) (by kernel_rfl) (by kernel_rfl) (fun w0 ⟨s1, s2, s3, s4, s5, s6, s7, s8⟩ => by go_simp) hS ?_
                  simp only [Act.put, List.setIfInBounds_toArray, List.set_cons_zero, List.set_cons_succ]
                  refine takeH HQ.out 4 (some 53) (.int .i64 (k : Int)) _ rfl rfl (by kernel_rfl) (by kernel_rfl) (by kernel_rfl) (by kernel_rfl) (fun w0 ⟨s1, s2, s3, s4, s5, s6, s7, s8⟩ => by go_simp) hS ?_
                  simp only [Act.put, List.setIfInBounds_toArray, List.set_cons_zero, List.set_cons_succ]
                  refine takeH HQ.out 5 (some 54) (.pointer (some ⟨b, o + k * 5, none⟩)) _ rfl rfl (by kernel_rfl) (by kernel_rfl) (by kernel_rfl) (by kernel_rfl) (fun w0 ⟨s1, s2, s3, s4, s5, s6, s7, s8⟩ => by go_simp) hS ?_
                  simp only [Act.put, List.setIfInBounds_toArray, List.set_cons_zero, List.set_cons_succ]
                  refine takeH HQ.out 6 (some 55) (.pointer (some ⟨b, o + k * 5 + 1, none⟩)) _ rfl rfl (by kernel_rfl) (by kernel_rfl) (by kernel_rfl) (by kernel_rfl) (fun w0 ⟨s1, s2, s3, s4, s5, s6, s7, s8⟩ => by go_simp) hS ?_
                  simp only [Act.put, List.setIfInBounds_toArray, List.set_cons_zero, List.set_cons_succ]
                  refine takeH HQ.out 7 (some 56) (.agg #[.string s.ten, .string s.usr]) _ rfl rfl (by kernel_rfl) (by kernel_rfl) (by kernel_rfl) (by kernel_rfl) (fun w0 ⟨s1, s2, s3, s4, s5, s6, s7, s8⟩ => by go_simp) hS ?_
                  simp only [Act.put, List.setIfInBounds_toArray, List.set_cons_zero, List.set_cons_succ]
                  refine takeH HQ.out 8 (some 57) (.agg #[.string t, .string u]) _ rfl rfl (by kernel_rfl) (by kernel_rfl) (by kernel_rfl) (by kernel_rfl) (fun w0 ⟨s1, s2, s3, s4, s5, s6, s7, s8⟩ => by go_simp) hS ?_
                  simp only [Act.put, List.setIfInBounds_toArray, List.set_cons_zero, List.set_cons_succ]
                  refine takeH HQ.out 9 (some 58) (.bool true) _ rfl rfl (by kernel_rfl) (by kernel_rfl) (by kernel_rfl) (by kernel_rfl) (fun w0 ⟨s1, s2, s3, s4, s5, s6, s7, s8⟩ => by go_simp) hS ?_
                  simp only [Act.put, List.setIfInBounds_toArray, List.set_cons_zero, List.set_cons_succ]
                  refine takeH HQ.out 10 (some 59) (.bool true) _ rfl rfl (by kernel_rfl) (by kernel_rfl) (by kernel_rfl) (by kernel_rfl) (fun w0 ⟨s1, s2, s3, s4, s5, s6, s7, s8⟩ => by go_simp) hS ?_
                  simp only [Act.put, List.setIfInBounds_toArray, List.set_cons_zero, List.set_cons_succ]
                  refine takeH HQ.out 11 (some 60) (.pointer (some ⟨r, 0, none⟩)) _ rfl rfl (by kernel_rfl) (by kernel_rfl) (by kernel_rfl) (by kernel_rfl) (fun w0 ⟨s1, s2, s3, s4, s5, s6, s7, s8⟩ => by go_simp) hS ?_
                  simp only [Act.put, List.setIfInBounds_toArray, List.set_cons_zero, List.set_cons_succ]
                  refine takeH HQ.out 12 (some 61) (.pointer (some ⟨r, 0, none⟩)) _ rfl rfl (by kernel_rfl) (by kernel_rfl) (by kernel_rfl) (by kernel_rfl) (fun w0 ⟨s1, s2, s3, s4, s5, s6, s7, s8⟩ => by go_simp) hS ?_
                  simp only [Act.put, List.setIfInBounds_toArray, List.set_cons_zero, List.set_cons_succ]
                  refine takeH HQ.out 13 (some 62) (.pointer (some ⟨r, 2, none⟩)) _ rfl rfl (by kernel_rfl) (by kernel_rfl) (by kernel_rfl) (by kernel_rfl) (fun w0 ⟨s1, s2, s3, s4, s5, s6, s7, s8⟩ => by go_simp) hS ?_
                  simp only [Act.put, List.setIfInBounds_toArray, List.set_cons_zero, List.set_cons_succ]
                  refine takeH HQ.out 14 (some 63) (.slice (some ⟨b, o, none⟩) T.l.length cap) _ rfl rfl (by kernel_rfl) (by kernel_rfl) (by kernel_rfl) (by kernel_rfl) (fun w0 ⟨s1, s2, s3, s4, s5, s6, s7, s8⟩ => by go_simp) hS ?_
                  simp only [Act.put, List.setIfInBounds_toArray, List.set_cons_zero, List.set_cons_succ]
                  refine takeH HQ.out 15 (some 64) (.int .i64 (k : Int)) _ rfl rfl (by kernel_rfl) (by kernel_rfl) (by kernel_rfl) (by kernel_rfl) (fun w0 ⟨s1, s2, s3, s4, s5, s6, s7, s8⟩ => by go_simp) hS ?_
                  simp only [Act.put, List.setIfInBounds_toArray, List.set_cons_zero, List.set_cons_succ]
                  refine takeH HQ.out 16 (some 65) (.pointer (some ⟨b, o + k * 5, none⟩)) _ rfl rfl (by kernel_rfl) (by kernel_rfl) (by kernel_rfl) (by kernel_rfl) (fun w0 ⟨s1, s2, s3, s4, s5, s6, s7, s8⟩ => by go_simp) hS ?_
                  simp only [Act.put, List.setIfInBounds_toArray, List.set_cons_zero, List.set_cons_succ]
                  refine takeH HQ.out 17 (some 66) (.agg #[.int .i64 s.id, .string s.ten, .string s.usr, .int .i64 s.since, .int .i64 s.used]) _ rfl rfl (by kernel_rfl) (by kernel_rfl) (by kernel_rfl) (by kernel_rfl) (fun w0 ⟨s1, s2, s3, s4, s5, s6, s7, s8⟩ => by go_simp) hS ?_
                  simp only [Act.put, List.setIfInBounds_toArray, List.set_cons_zero, List.set_cons_succ]
                  refine takeH HQ.out 18 (some 67) (.int .i64 now) _ rfl rfl (by kernel_rfl) (by kernel_rfl) (by kernel_rfl) (by kernel_rfl) (fun w0 ⟨s1, s2, s3, s4, s5, s6, s7, s8⟩ => by go_simp) hS ?_
                  simp only [Act.put, List.setIfInBounds_toArray, List.set_cons_zero, List.set_cons_succ]
                  refine wpAnyH_ready (rs := [19]) (by kernel_rfl) (by simp) ?_
                  refine AllReadyH.cons rfl (fun K hK => ?_) AllReadyH.nil
                  go_simp
                  refine (Hov.out _).mono ?_
                  rintro e w1 ⟨rfl, hb1'⟩
                  have hb1 := undrew1 hb1'
                  have Hb1 := hid hb1
                  have hS1 := scan_keep hb1 c2 d0 d1 d2 d3 d4 q0 q1
                  clear hb1 hb1' hS
                  dsimp only
                  refine hK.out _ _ hS1 (fun hS => ?_)
                  clear hK K
                  refine takeH HQ.out 20 (some 69) (.bool false) _ rfl rfl (by kernel_rfl) (by kernel_rfl) (by kernel_rfl) (by kernel_rfl) (fun w0 ⟨s1, s2, s3, s4, s5, s6, s7, s8⟩ => by go_simp) hS ?_
                  simp only [Act.put, List.setIfInBounds_toArray, List.set_cons_zero, List.set_cons_succ]
                  refine takeH HQ.out 21 (some 70) (.bool false) _ rfl rfl (by kernel_rfl) (by kernel_rfl) (by kernel_rfl) (by kernel_rfl) (fun w0 ⟨s1, s2, s3, s4, s5, s6, s7, s8⟩ => by go_simp) hS ?_
                  simp only [Act.put, List.setIfInBounds_toArray, List.set_cons_zero, List.set_cons_succ]
                  refine wpAnyH_done (by kernel_rfl) ?_ _
                  clear c2 d0 d1 d2 d3 d4 q0 q1 hS
                  go_wp2
                  go_roundw
                  case rel =>
                    refine ⟨k + 1, by omega, by go_num, ?_, Below.on' Hb.out Hb1.out⟩
                    rw [Hsn.out, Hf.out]
                    simp only [Bool.false_eq_true, if_false, List.append_nil]
                    rw [HN.out]
                  case measure => simp [intOf]; omega
              · have Hf : Hid (liveB t u now s = false) := by show _ = _; unfold liveB; rw [own_no h1]; rfl
                have Hn1 : Hid (((T.l.take (k + 1)).filter (liveB t u now)).length = N) := by
                  show _ = _
                  rw [Hsn.out, Hf.out]
                  simp only [Bool.false_eq_true, if_false, List.append_nil]
                  exact HN.out
                by_cases c1 : s.ten.toList = t.toList
                · have c2' : ¬ s.usr.toList = u.toList := fun c2 => h1 ⟨c1, c2⟩
                  clear h1
                  go_wp2
                  refine enterQ (S := fun w9 => w9.cell? ⟨r, 2, none⟩ = some (.slice (some ⟨b, o, none⟩) T.l.length cap) ∧ w9.cell? ⟨b, o + k * 5, none⟩ = some (.int .i64 s.id) ∧ w9.cell? ⟨b, o + k * 5 + 1, none⟩ = some (.string s.ten) ∧ w9.cell? ⟨b, o + k * 5 + 2, none⟩ = some (.string s.usr) ∧ w9.cell? ⟨b, o + k * 5 + 3, none⟩ = some (.int .i64 s.since) ∧ w9.cell? ⟨b, o + k * 5 + 4, none⟩ = some (.int .i64 s.used) ∧ w9.cell? ⟨w.heap.size, 0, none⟩ = some (.string t) ∧ w9.cell? ⟨w.heap.size, 1, none⟩ = some (.string u)) (by kernel_rfl) ⟨c2, d0, d1, d2, d3, d4, q0, q1⟩ (fun d v c a w h => by cases d <;> exact h) (fun hQ hS => ?_)
                  have HQ := hid hQ
                  clear hQ
                  refine takeH HQ.out 0 (some 49) (.pointer (some ⟨r, 0, none⟩)) _ rfl rfl (by kernel_rfl) (by kernel_rfl) (by kernel_rfl) (by kernel_rfl) (fun w0 ⟨s1, s2, s3, s4, s5, s6, s7, s8⟩ => by go_simp) hS ?_
                  simp only [Act.put, List.setIfInBounds_toArray, List.set_cons_zero, List.set_cons_succ]
                  refine takeH HQ.out 1 (some 50) (.pointer (some ⟨r, 0, none⟩)) _ rfl rfl (by kernel_rfl) (by kernel_rfl) (by kernel_rfl) (by kernel_rfl) (fun w0 ⟨s1, s2, s3, s4, s5, s6, s7, s8⟩ => by go_simp) hS ?_
                  simp only [Act.put, List.setIfInBounds_toArray, List.set_cons_zero, List.set_cons_succ]
                  refine takeH HQ.out 2 (some 51) (.pointer (some ⟨r, 2, none⟩)) _ rfl rfl (by kernel_rfl) (by kernel_rfl) (by kernel_rfl) (by kernel_rfl) (fun w0 ⟨s1, s2, s3, s4, s5, s6, s7, s8⟩ => by go_simp) hS ?_
                  simp only [Act.put, List.setIfInBounds_toArray, List.set_cons_zero, List.set_cons_succ]
                  refine takeH HQ.out 3 (some 52) (.slice (some ⟨b, o, none⟩) T.l.length cap) _ rfl rfl (by kernel_rfl) (by kernel_rfl) (by kernel_rfl) (by kernel_rfl) (fun w0 ⟨s1, s2, s3, s4, s5, s6, s7, s8⟩ => by go_simp) hS ?_
                  simp only [Act.put, List.setIfInBounds_toArray, List.set_cons_zero, List.set_cons_succ]
                  refine takeH HQ.out 4 (some 53) (.int .i64 (k : Int)) _ rfl rfl (by kernel_rfl) (by kernel_rfl) (by kernel_rfl) (by kernel_rfl) (fun w0 ⟨s1, s2, s3, s4, s5, s6, s7, s8⟩ => by go_simp) hS ?_
                  simp only [Act.put, List.setIfInBounds_toArray, List.set_cons_zero, List.set_cons_succ]
                  refine takeH HQ.out 5 (some 54) (.pointer (some ⟨b, o + k * 5, none⟩)) _ rfl rfl (by kernel_rfl) (by kernel_rfl) (by kernel_rfl) (by kernel_rfl) (fun w0 ⟨s1, s2, s3, s4, s5, s6, s7, s8⟩ => by go_simp) hS ?_
                  simp only [Act.put, List.setIfInBounds_toArray, List.set_cons_zero, List.set_cons_succ]
                  refine takeH HQ.out 6 (some 55) (.pointer (some ⟨b, o + k * 5 + 1, none⟩)) _ rfl rfl (by kernel_rfl) (by kernel_rfl) (by kernel_rfl) (by kernel_rfl) (fun w0 ⟨s1, s2, s3, s4, s5, s6, s7, s8⟩ => by go_simp) hS ?_
                  simp only [Act.put, List.setIfInBounds_toArray, List.set_cons_zero, List.set_cons_succ]
                  refine takeH HQ.out 7 (some 56) (.agg #[.string s.ten, .string s.usr]) _ rfl rfl (by kernel_rfl) (by kernel_rfl) (by kernel_rfl) (by kernel_rfl) (fun w0 ⟨s1, s2, s3, s4, s5, s6, s7, s8⟩ => by go_simp) hS ?_
                  simp only [Act.put, List.setIfInBounds_toArray, List.set_cons_zero, List.set_cons_succ]
                  refine takeH HQ.out 8 (some 57) (.agg #[.string t, .string u]) _ rfl rfl (by kernel_rfl) (by kernel_rfl) (by kernel_rfl) (by kernel_rfl) (fun w0 ⟨s1, s2, s3, s4, s5, s6, s7, s8⟩ => by go_simp) hS ?_
                  simp only [Act.put, List.setIfInBounds_toArray, List.set_cons_zero, List.set_cons_succ]
                  refine takeH HQ.out 9 (some 58) (.bool false) _ rfl rfl (by kernel_rfl) (by kernel_rfl) (by kernel_rfl) (by kernel_rfl) (fun w0 ⟨s1, s2, s3, s4, s5, s6, s7, s8⟩ => by go_simp) hS ?_
                  simp only [Act.put, List.setIfInBounds_toArray, List.set_cons_zero, List.set_cons_succ]
                  refine takeH HQ.out 10 (some 59) (.bool false) _ rfl rfl (by kernel_rfl) (by kernel_rfl) (by kernel_rfl) (by kernel_rfl) (fun w0 ⟨s1, s2, s3, s4, s5, s6, s7, s8⟩ => by go_simp) hS ?_
                  simp only [Act.put, List.setIfInBounds_toArray, List.set_cons_zero, List.set_cons_succ]
                  refine skipH HQ.out 11 (some 60) _ rfl rfl (by kernel_rfl) (by kernel_rfl) (by kernel_rfl) (by kernel_rfl) hS ?_
                  simp only [Act.put, List.setIfInBounds_toArray, List.set_cons_zero, List.set_cons_succ]
                  refine skipH HQ.out 12 (some 61) _ rfl rfl (by kernel_rfl) (by kernel_rfl) (by kernel_rfl) (by kernel_rfl) hS ?_
                  simp only [Act.put, List.setIfInBounds_toArray, List.set_cons_zero, List.set_cons_succ]
                  refine skipH HQ.out 13 (some 62) _ rfl rfl (by kernel_rfl) (by kernel_rfl) (by kernel_rfl) (by kernel_rfl) hS ?_
                  simp only [Act.put, List.setIfInBounds_toArray, List.set_cons_zero, List.set_cons_succ]
                  refine skipH HQ.out 14 (some 63) _ rfl rfl (by kernel_rfl) (by kernel_rfl) (by kernel_rfl) (by kernel_rfl) hS ?_
                  simp only [Act.put, List.setIfInBounds_toArray, List.set_cons_zero, List.set_cons_succ]
                  refine skipH HQ.out 15 (some 64) _ rfl rfl (by kernel_rfl) (by kernel_rfl) (by kernel_rfl) (by kernel_rfl) hS ?_
                  simp only [Act.put, List.setIfInBounds_toArray, List.set_cons_zero, List.set_cons_succ]
                  refine skipH HQ.out 16 (some 65) _ rfl rfl (by kernel_rfl) (by kernel_rfl) (by kernel_rfl) (by kernel_rfl) hS ?_
                  simp only [Act.put, List.setIfInBounds_toArray, List.set_cons_zero, List.set_cons_succ]
                  refine skipH HQ.out 17 (some 66) _ rfl rfl (by kernel_rfl) (by kernel_rfl) (by kernel_rfl) (by kernel_rfl) hS ?_
                  simp only [Act.put, List.setIfInBounds_toArray, List.set_cons_zero, List.set_cons_succ]
                  refine skipH HQ.out 18 (some 67) _ rfl rfl (by kernel_rfl) (by kernel_rfl) (by kernel_rfl) (by kernel_rfl) hS ?_
                  simp only [Act.put, List.setIfInBounds_toArray, List.set_cons_zero, List.set_cons_succ]
                  refine skipH HQ.out 19 (some 68) _ rfl rfl (by kernel_rfl) (by kernel_rfl) (by kernel_rfl) (by kernel_rfl) hS ?_
                  simp only [Act.put, List.setIfInBounds_toArray, List.set_cons_zero, List.set_cons_succ]
                  refine skipH HQ.out 20 (some 69) _ rfl rfl (by kernel_rfl) (by kernel_rfl) (by kernel_rfl) (by kernel_rfl) hS ?_
                  simp only [Act.put, List.setIfInBounds_toArray, List.set_cons_zero, List.set_cons_succ]
                  refine takeH HQ.out 21 (some 70) (.bool false) _ rfl rfl (by kernel_rfl) (by kernel_rfl) (by kernel_rfl) (by kernel_rfl) (fun w0 ⟨s1, s2, s3, s4, s5, s6, s7, s8⟩ => by go_simp) hS ?_
                  simp only [Act.put, List.setIfInBounds_toArray, List.set_cons_zero, List.set_cons_succ]
                  refine wpAnyH_done (by kernel_rfl) ?_ _
                  clear hS
                  go_wp2
                  go_roundw
                  case rel => exact ⟨k + 1, by omega, by go_num, by rw [Hn1.out], Hb.out.trans (below_drewN _ _ 1)⟩
                  case measure => simp [intOf]; omega
                · clear h1
                  go_wp2
                  refine enterQ (S := fun w9 => w9.cell? ⟨r, 2, none⟩ = some (.slice (some ⟨b, o, none⟩) T.l.length cap) ∧ w9.cell? ⟨b, o + k * 5, none⟩ = some (.int .i64 s.id) ∧ w9.cell? ⟨b, o + k * 5 + 1, none⟩ = some (.string s.ten) ∧ w9.cell? ⟨b, o + k * 5 + 2, none⟩ = some (.string s.usr) ∧ w9.cell? ⟨b, o + k * 5 + 3, none⟩ = some (.int .i64 s.since) ∧ w9.cell? ⟨b, o + k * 5 + 4, none⟩ = some (.int .i64 s.used) ∧ w9.cell? ⟨w.heap.size, 0, none⟩ = some (.string t) ∧ w9.cell? ⟨w.heap.size, 1, none⟩ = some (.string u)) (by kernel_rfl) ⟨c2, d0, d1, d2, d3, d4, q0, q1⟩ (fun d v c a w h => by cases d <;> exact h) (fun hQ hS => ?_)
                  have HQ := hid hQ
                  clear hQ
                  refine takeH HQ.out 0 (some 49) (.pointer (some ⟨r, 0, none⟩)) _ rfl rfl (by kernel_rfl) (by kernel_rfl) (by kernel_rfl) (by kernel_rfl) (fun w0 ⟨s1, s2, s3, s4, s5, s6, s7, s8⟩ => by go_simp) hS ?_
                  simp only [Act.put, List.setIfInBounds_toArray, List.set_cons_zero, List.set_cons_succ]
                  refine takeH HQ.out 1 (some 50) (.pointer (some ⟨r, 0, none⟩)) _ rfl rfl (by kernel_rfl) (by kernel_rfl) (by kernel_rfl) (by kernel_rfl) (fun w0 ⟨s1, s2, s3, s4, s5, s6, s7, s8⟩ => by go_simp) hS ?_
                  simp only [Act.put, List.setIfInBounds_toArray, List.set_cons_zero, List.set_cons_succ]
                  refine takeH HQ.out 2 (some 51) (.pointer (some ⟨r, 2, none⟩)) _ rfl rfl (by kernel_rfl) (by kernel_rfl) (by kernel_rfl) (by kernel_rfl) (fun w0 ⟨s1, s2, s3, s4, s5, s6, s7, s8⟩ => by go_simp) hS ?_
                  simp only [Act.put, List.setIfInBounds_toArray, List.set_cons_zero, List.set_cons_succ]
                  refine takeH HQ.out 3 (some 52) (.slice (some ⟨b, o, none⟩) T.l.length cap) _ rfl rfl (by kernel_rfl) (by kernel_rfl) (by kernel_rfl) (by kernel_rfl) (fun w0 ⟨s1, s2, s3, s4, s5, s6, s7, s8⟩ => by go_simp) hS ?_
                  simp only [Act.put, List.setIfInBounds_toArray, List.set_cons_zero, List.set_cons_succ]
                  refine takeH HQ.out 4 (some 53) (.int .i64 (k : Int)) _ rfl rfl (by kernel_rfl) (by kernel_rfl) (by kernel_rfl) (by kernel_rfl) (fun w0 ⟨s1, s2, s3, s4, s5, s6, s7, s8⟩ => by go_simp) hS ?_
                  simp only [Act.put, List.setIfInBounds_toArray, List.set_cons_zero, List.set_cons_succ]
                  refine takeH HQ.out 5 (some 54) (.pointer (some ⟨b, o + k * 5, none⟩)) _ rfl rfl (by kernel_rfl) (by kernel_rfl) (by kernel_rfl) (by kernel_rfl) (fun w0 ⟨s1, s2, s3, s4, s5, s6, s7, s8⟩ => by go_simp) hS ?_
                  simp only [Act.put, List.setIfInBounds_toArray, List.set_cons_zero, List.set_cons_succ]
                  refine takeH HQ.out 6 (some 55) (.pointer (some ⟨b, o + k * 5 + 1, none⟩)) _ rfl rfl (by kernel_rfl) (by kernel_rfl) (by kernel_rfl) (by kernel_rfl) (fun w0 ⟨s1, s2, s3, s4, s5, s6, s7, s8⟩ => by go_simp) hS ?_
                  simp only [Act.put, List.setIfInBounds_toArray, List.set_cons_zero, List.set_cons_succ]
                  refine takeH HQ.out 7 (some 56) (.agg #[.string s.ten, .string s.usr]) _ rfl rfl (by kernel_rfl) (by kernel_rfl) (by kernel_rfl) (by kernel_rfl) (fun w0 ⟨s1, s2, s3, s4, s5, s6, s7, s8⟩ => by go_simp) hS ?_
                  simp only [Act.put, List.setIfInBounds_toArray, List.set_cons_zero, List.set_cons_succ]
                  refine takeH HQ.out 8 (some 57) (.agg #[.string t, .string u]) _ rfl rfl (by kernel_rfl) (by kernel_rfl) (by kernel_rfl) (by kernel_rfl) (fun w0 ⟨s1, s2, s3, s4, s5, s6, s7, s8⟩ => by go_simp) hS ?_
                  simp only [Act.put, List.setIfInBounds_toArray, List.set_cons_zero, List.set_cons_succ]
                  refine takeH HQ.out 9 (some 58) (.bool false) _ rfl rfl (by kernel_rfl) (by kernel_rfl) (by kernel_rfl) (by kernel_rfl) (fun w0 ⟨s1, s2, s3, s4, s5, s6, s7, s8⟩ => by go_simp) hS ?_
                  simp only [Act.put, List.setIfInBounds_toArray, List.set_cons_zero, List.set_cons_succ]
                  refine takeH HQ.out 10 (some 59) (.bool false) _ rfl rfl (by kernel_rfl) (by kernel_rfl) (by kernel_rfl) (by kernel_rfl) (fun w0 ⟨s1, s2, s3, s4, s5, s6, s7, s8⟩ => by go_simp) hS ?_
                  simp only [Act.put, List.setIfInBounds_toArray, List.set_cons_zero, List.set_cons_succ]
                  refine skipH HQ.out 11 (some 60) _ rfl rfl (by kernel_rfl) (by kernel_rfl) (by kernel_rfl) (by kernel_rfl) hS ?_
                  simp only [Act.put, List.setIfInBounds_toArray, List.set_cons_zero, List.set_cons_succ]
                  refine skipH HQ.out 12 (some 61) _ rfl rfl (by kernel_rfl) (by kernel_rfl) (by kernel_rfl) (by kernel_rfl) hS ?_
                  simp only [Act.put, List.setIfInBounds_toArray, List.set_cons_zero, List.set_cons_succ]
                  refine skipH HQ.out 13 (some 62) _ rfl rfl (by kernel_rfl) (by kernel_rfl) (by kernel_rfl) (by kernel_rfl) hS ?_
                  simp only [Act.put, List.setIfInBounds_toArray, List.set_cons_zero, List.set_cons_succ]
                  refine skipH HQ.out 14 (some 63) _ rfl rfl (by kernel_rfl) (by kernel_rfl) (by kernel_rfl) (by kernel_rfl) hS ?_
                  simp only [Act.put, List.setIfInBounds_toArray, List.set_cons_zero, List.set_cons_succ]
                  refine skipH HQ.out 15 (some 64) _ rfl rfl (by kernel_rfl) (by kernel_rfl) (by kernel_rfl) (by kernel_rfl) hS ?_
                  simp only [Act.put, List.setIfInBounds_toArray, List.set_cons_zero, List.set_cons_succ]
                  refine skipH HQ.out 16 (some 65) _ rfl rfl (by kernel_rfl) (by kernel_rfl) (by kernel_rfl) (by kernel_rfl) hS ?_
                  simp only [Act.put, List.setIfInBounds_toArray, List.set_cons_zero, List.set_cons_succ]
                  refine skipH HQ.out 17 (some 66) _ rfl rfl (by kernel_rfl) (by kernel_rfl) (by kernel_rfl) (by kernel_rfl) hS ?_
                  simp only [Act.put, List.setIfInBounds_toArray, List.set_cons_zero, List.set_cons_succ]
                  refine skipH HQ.out 18 (some 67) _ rfl rfl (by kernel_rfl) (by kernel_rfl) (by kernel_rfl) (by kernel_rfl) hS ?_
                  simp only [Act.put, List.setIfInBounds_toArray, List.set_cons_zero, List.set_cons_succ]
                  refine skipH HQ.out 19 (some 68) _ rfl rfl (by kernel_rfl) (by kernel_rfl) (by kernel_rfl) (by kernel_rfl) hS ?_
                  simp only [Act.put, List.setIfInBounds_toArray, List.set_cons_zero, List.set_cons_succ]
                  refine skipH HQ.out 20 (some 69) _ rfl rfl (by kernel_rfl) (by kernel_rfl) (by kernel_rfl) (by kernel_rfl) hS ?_
                  simp only [Act.put, List.setIfInBounds_toArray, List.set_cons_zero, List.set_cons_succ]
                  refine takeH HQ.out 21 (some 70) (.bool false) _ rfl rfl (by kernel_rfl) (by kernel_rfl) (by kernel_rfl) (by kernel_rfl) (fun w0 ⟨s1, s2, s3, s4, s5, s6, s7, s8⟩ => by go_simp) hS ?_
                  simp only [Act.put, List.setIfInBounds_toArray, List.set_cons_zero, List.set_cons_succ]
                  refine wpAnyH_done (by kernel_rfl) ?_ _
                  clear hS
                  go_wp2
                  go_roundw
                  case rel => exact ⟨k + 1, by omega, by go_num, by rw [Hn1.out], Hb.out.trans (below_drewN _ _ 1)⟩
                  case measure => simp [intOf]; omega
            · have e : k = T.l.length := by omega
              subst e
              rw [List.take_length] at hfl ⊢
              have HR := hid hR
              have k0 := hR.c0
              have k1 := hR.c1
              have kz := hR.z
              have hrr := hR.lt
              have hrw : r ≠ w.heap.size := by omega
              have hrw1 : r ≠ w.heap.size + 1 := by omega
              have hwr1 : w.heap.size + 1 ≠ r := by omega
              have hwlt : w.heap.size + 1 < wr.heap.size := by omega
              have hwlt0 : w.heap.size < wr.heap.size := by omega
              have hrwr : r ≠ wr.heap.size := by omega
              have hwrr : wr.heap.size ≠ r := by omega
              have r0 : wr.cell? ⟨w.heap.size + 1, 0, none⟩ = some (.int .i64 0) := (Hb.out.cell (p := ⟨w.heap.size + 1, 0, none⟩) (by have := Hsz.out; show w.heap.size + 1 < V1.heap.size; omega)).trans (RR.out 0 _ rfl)
              have r1 : wr.cell? ⟨w.heap.size + 1, 1, none⟩ = some (.string ⟨#[]⟩) := (Hb.out.cell (p := ⟨w.heap.size + 1, 1, none⟩) (by have := Hsz.out; show w.heap.size + 1 < V1.heap.size; omega)).trans (RR.out 1 _ rfl)
              have r2 : wr.cell? ⟨w.heap.size + 1, 2, none⟩ = some (.string ⟨#[]⟩) := (Hb.out.cell (p := ⟨w.heap.size + 1, 2, none⟩) (by have := Hsz.out; show w.heap.size + 1 < V1.heap.size; omega)).trans (RR.out 2 _ rfl)
              have r3 : wr.cell? ⟨w.heap.size + 1, 3, none⟩ = some (.int .i64 0) := (Hb.out.cell (p := ⟨w.heap.size + 1, 3, none⟩) (by have := Hsz.out; show w.heap.size + 1 < V1.heap.size; omega)).trans (RR.out 3 _ rfl)
              have r4 : wr.cell? ⟨w.heap.size + 1, 4, none⟩ = some (.int .i64 0) := (Hb.out.cell (p := ⟨w.heap.size + 1, 4, none⟩) (by have := Hsz.out; show w.heap.size + 1 < V1.heap.size; omega)).trans (RR.out 4 _ rfl)
              have rz : ∀ o, wr.frozen? ⟨w.heap.size + 1, o, none⟩ = false := fun o => (Hb.out.frozen (p := ⟨w.heap.size + 1, o, none⟩) (by have := Hsz.out; show w.heap.size + 1 < V1.heap.size; omega)).trans (RF.out o)
              have hbw : Below w.heap.size w wr := hb1.trans (Hb.out.mono (by have := Hsz.out; omega))
              have Hbw := hid hbw
              clear hR hbw
              by_cases e3 : 3 ≤ (T.l.filter (liveB t u now)).length
              · have e : tBegin T t u now = (T, sess0, 22) := by
                  have : tBeginErr T t u now = 22 := by rw [HeN.out, if_pos e3]
                  unfold tBegin
                  rw [if_pos (by rw [this]; decide), this]
                have He := hid e
                generalize (T.l.filter (liveB t u now)).length = N at *
                clear e
                go_wp2
                refine bodyPost_ret (v := .tuple #[sessV sess0, .int .i64 22]) (by simp [results, Tryd.results18, go_sem, sessV, sess0, r0, r1, r2, r3, r4]) rfl ?_
                rw [He.out]
                refine ⟨rfl, ?_⟩
                have hbF := below5 Hbw.out (g := w.heap.size + 1) (by omega) (.int .i64 0) (.string ⟨#[]⟩) (.string ⟨#[]⟩) (.int .i64 0) (.int .i64 0)
                exact ⟨⟨_, _, HH.out.below hbF⟩, Out.of_below hbF⟩
              · have e : tBegin T t u now = (⟨T.next + 1, now, T.l ++ [begun T t u now]⟩, begun T t u now, 0) := by
                  have : tBeginErr T t u now = 0 := by rw [HeN.out, if_neg e3]
                  unfold tBegin
                  rw [if_neg (by rw [this]; decide)]
                have He := hid e
                generalize (T.l.filter (liveB t u now)).length = N at *
                clear e
                go_wp2
                go_region
                have hR5 : RTab ((wr.setCell ⟨r, 0, none⟩ (.int .i64 (T.next + 1))).setCell ⟨r, 1, none⟩ (.int .i64 now)) B r a cap ⟨T.next + 1, now, T.l⟩ := by
                  have oo := ((Out.refl (fun k => k = r) wr).setCell ⟨r, 0, none⟩ (.int .i64 (T.next + 1)) rfl).setCell ⟨r, 1, none⟩ (.int .i64 now) rfl
                  refine ⟨?_, HR.out.row.kept (grown_of_out oo) (.inr HR.out.ne), HR.out.br, HR.out.ne⟩
                  have e1 := heap_setCell_same wr r 0 _ _ (.int .i64 (T.next + 1)) HR.out.obj
                  rw [heap_setCell_same _ r 1 _ _ (.int .i64 now) e1]
                  simp
                have hsz5 : ((wr.setCell ⟨r, 0, none⟩ (.int .i64 (T.next + 1))).setCell ⟨r, 1, none⟩ (.int .i64 now)).heap.size = wr.heap.size := by simp [World.setCell]
                have hoX : Out (fun k => k = r) w ((wr.setCell ⟨r, 0, none⟩ (.int .i64 (T.next + 1))).setCell ⟨r, 1, none⟩ (.int .i64 now)) := ((Out.of_below Hbw.out : Out (fun k => k = r) w wr).setCell ⟨r, 0, none⟩ _ rfl).setCell ⟨r, 1, none⟩ _ rfl
                have othX : ∀ b o, b ≠ r → ((wr.setCell ⟨r, 0, none⟩ (.int .i64 (T.next + 1))).setCell ⟨r, 1, none⟩ (.int .i64 now)).cell? ⟨b, o, none⟩ = wr.cell? ⟨b, o, none⟩ := fun b o hb => World.cell?_of_block (a := ⟨b, o, none⟩) (by rw [heap_setCell_other _ _ _ _ hb, heap_setCell_other _ _ _ _ hb])
                have othZ : ∀ b o, b ≠ r → ((wr.setCell ⟨r, 0, none⟩ (.int .i64 (T.next + 1))).setCell ⟨r, 1, none⟩ (.int .i64 now)).frozen? ⟨b, o, none⟩ = wr.frozen? ⟨b, o, none⟩ := fun b o hb => World.frozen?_of_block (a := ⟨b, o, none⟩) (by rw [heap_setCell_other _ _ _ _ hb, heap_setCell_other _ _ _ _ hb])
                have hb6 : Below ((wr.setCell ⟨r, 0, none⟩ (.int .i64 (T.next + 1))).setCell ⟨r, 1, none⟩ (.int .i64 now)).heap.size ((wr.setCell ⟨r, 0, none⟩ (.int .i64 (T.next + 1))).setCell ⟨r, 1, none⟩ (.int .i64 now)) ((((wr.setCell ⟨r, 0, none⟩ (.int .i64 (T.next + 1))).setCell ⟨r, 1, none⟩ (.int .i64 now)).alloc (.cells #[.int .i64 T.next, .string t, .string u, .int .i64 now, .int .i64 now] 42)).drew) := ((Below.refl _ _).alloc (Nat.le_refl _) _).drew
                have HR6 := hid (hR5.below hb6)
                have hoW : Out (fun k => k = r) w ((((wr.setCell ⟨r, 0, none⟩ (.int .i64 (T.next + 1))).setCell ⟨r, 1, none⟩ (.int .i64 now)).alloc (.cells #[.int .i64 T.next, .string t, .string u, .int .i64 now, .int .i64 now] 42)).drew) := hoX.trans (Out.of_below (P := fun k => k = r) hb6) (fun _ _ e => e)
                have y0 : ((((wr.setCell ⟨r, 0, none⟩ (.int .i64 (T.next + 1))).setCell ⟨r, 1, none⟩ (.int .i64 now)).alloc (.cells #[.int .i64 T.next, .string t, .string u, .int .i64 now, .int .i64 now] 42)).drew).cell? ⟨wr.heap.size, 0, none⟩ = some (.int .i64 T.next) := (World.cell?_alloc_at _ _ _ _ hsz5.symm).trans rfl
                have y1 : ((((wr.setCell ⟨r, 0, none⟩ (.int .i64 (T.next + 1))).setCell ⟨r, 1, none⟩ (.int .i64 now)).alloc (.cells #[.int .i64 T.next, .string t, .string u, .int .i64 now, .int .i64 now] 42)).drew).cell? ⟨wr.heap.size, 1, none⟩ = some (.string t) := (World.cell?_alloc_at _ _ _ _ hsz5.symm).trans rfl
                have y2 : ((((wr.setCell ⟨r, 0, none⟩ (.int .i64 (T.next + 1))).setCell ⟨r, 1, none⟩ (.int .i64 now)).alloc (.cells #[.int .i64 T.next, .string t, .string u, .int .i64 now, .int .i64 now] 42)).drew).cell? ⟨wr.heap.size, 2, none⟩ = some (.string u) := (World.cell?_alloc_at _ _ _ _ hsz5.symm).trans rfl
                have y3 : ((((wr.setCell ⟨r, 0, none⟩ (.int .i64 (T.next + 1))).setCell ⟨r, 1, none⟩ (.int .i64 now)).alloc (.cells #[.int .i64 T.next, .string t, .string u, .int .i64 now, .int .i64 now] 42)).drew).cell? ⟨wr.heap.size, 3, none⟩ = some (.int .i64 now) := (World.cell?_alloc_at _ _ _ _ hsz5.symm).trans rfl
                have y4 : ((((wr.setCell ⟨r, 0, none⟩ (.int .i64 (T.next + 1))).setCell ⟨r, 1, none⟩ (.int .i64 now)).alloc (.cells #[.int .i64 T.next, .string t, .string u, .int .i64 now, .int .i64 now] 42)).drew).cell? ⟨wr.heap.size, 4, none⟩ = some (.int .i64 now) := (World.cell?_alloc_at _ _ _ _ hsz5.symm).trans rfl
                have t0 : ((((wr.setCell ⟨r, 0, none⟩ (.int .i64 (T.next + 1))).setCell ⟨r, 1, none⟩ (.int .i64 now)).alloc (.cells #[.int .i64 T.next, .string t, .string u, .int .i64 now, .int .i64 now] 42)).drew).cell? ⟨w.heap.size + 1, 0, none⟩ = some (.int .i64 0) := ((World.cell?_alloc_past _ _ _ (by rw [hsz5]; exact hwlt)).trans (othX _ _ hwr1)).trans r0
                have t1 : ((((wr.setCell ⟨r, 0, none⟩ (.int .i64 (T.next + 1))).setCell ⟨r, 1, none⟩ (.int .i64 now)).alloc (.cells #[.int .i64 T.next, .string t, .string u, .int .i64 now, .int .i64 now] 42)).drew).cell? ⟨w.heap.size + 1, 1, none⟩ = some (.string ⟨#[]⟩) := ((World.cell?_alloc_past _ _ _ (by rw [hsz5]; exact hwlt)).trans (othX _ _ hwr1)).trans r1
                have t2 : ((((wr.setCell ⟨r, 0, none⟩ (.int .i64 (T.next + 1))).setCell ⟨r, 1, none⟩ (.int .i64 now)).alloc (.cells #[.int .i64 T.next, .string t, .string u, .int .i64 now, .int .i64 now] 42)).drew).cell? ⟨w.heap.size + 1, 2, none⟩ = some (.string ⟨#[]⟩) := ((World.cell?_alloc_past _ _ _ (by rw [hsz5]; exact hwlt)).trans (othX _ _ hwr1)).trans r2
                have t3 : ((((wr.setCell ⟨r, 0, none⟩ (.int .i64 (T.next + 1))).setCell ⟨r, 1, none⟩ (.int .i64 now)).alloc (.cells #[.int .i64 T.next, .string t, .string u, .int .i64 now, .int .i64 now] 42)).drew).cell? ⟨w.heap.size + 1, 3, none⟩ = some (.int .i64 0) := ((World.cell?_alloc_past _ _ _ (by rw [hsz5]; exact hwlt)).trans (othX _ _ hwr1)).trans r3
                have t4 : ((((wr.setCell ⟨r, 0, none⟩ (.int .i64 (T.next + 1))).setCell ⟨r, 1, none⟩ (.int .i64 now)).alloc (.cells #[.int .i64 T.next, .string t, .string u, .int .i64 now, .int .i64 now] 42)).drew).cell? ⟨w.heap.size + 1, 4, none⟩ = some (.int .i64 0) := ((World.cell?_alloc_past _ _ _ (by rw [hsz5]; exact hwlt)).trans (othX _ _ hwr1)).trans r4
                have tz : ∀ o, ((((wr.setCell ⟨r, 0, none⟩ (.int .i64 (T.next + 1))).setCell ⟨r, 1, none⟩ (.int .i64 now)).alloc (.cells #[.int .i64 T.next, .string t, .string u, .int .i64 now, .int .i64 now] 42)).drew).frozen? ⟨w.heap.size + 1, o, none⟩ = false := fun o => ((World.frozen?_alloc_past _ _ _ (by rw [hsz5]; exact hwlt)).trans (othZ _ _ hwr1)).trans (rz o)
                have hsz6 : ((((wr.setCell ⟨r, 0, none⟩ (.int .i64 (T.next + 1))).setCell ⟨r, 1, none⟩ (.int .i64 now)).alloc (.cells #[.int .i64 T.next, .string t, .string u, .int .i64 now, .int .i64 now] 42)).drew).heap.size = wr.heap.size + 1 := by show (((wr.setCell ⟨r, 0, none⟩ (.int .i64 (T.next + 1))).setCell ⟨r, 1, none⟩ (.int .i64 now)).alloc (.cells #[.int .i64 T.next, .string t, .string u, .int .i64 now, .int .i64 now] 42)).heap.size = _; rw [World.size_alloc, hsz5]
                have HoW := hid hoW
                have Y0 := hid y0
                have T0 := hid t0
                have Y1 := hid y1
                have T1 := hid t1
                have Y2 := hid y2
                have T2 := hid t2
                have Y3 := hid y3
                have T3 := hid t3
                have Y4 := hid y4
                have T4 := hid t4
                have TZ := hid tz
                have Hsz6 := hid hsz6
                clear hR5 hsz5 hoX othX othZ hb6 hoW hsz6 tz y0 t0 y1 t1 y2 t2 y3 t3 y4 t4
                go_wp2_with (first
                  | (at_builtin; refine app_sess w4 rfl _ _ rfl (wr.heap.size + 1) (.slice a4 T.l.length c4) T.l rfl hrow4 (begun T t u now) rfl (by omega) (by omega) ?_; intro v5 w5 hrow5 hg5; obtain ⟨a5, c5, rfl, _, _⟩ := sess_of_own hrow5; have hz5 : w4.heap.size ≤ w5.heap.size := hg5.size; have nr : some r ≠ (Value.slice a4 T.l.length c4).ownBlock := row_ne_low hrow4 (by omega); have nw : some (w.heap.size + 1) ≠ (Value.slice a4 T.l.length c4).ownBlock := row_ne_low hrow4 (by omega); have nx : some wr.heap.size ≠ (Value.slice a4 T.l.length c4).ownBlock := row_ne_low hrow4 (by omega); have ob5 := (hg5.block r (by omega) nr).trans HR7.out.obj; have g2 := cell_of_row _ _ 2 _ _ _ ob5; have gz := (fun j => frozen_of_row _ _ j _ _ ob5); have z0 := (grown_cell hg5 wr.heap.size 0 (by omega) nx).trans x0; have z1 := (grown_cell hg5 wr.heap.size 1 (by omega) nx).trans x1; have z2 := (grown_cell hg5 wr.heap.size 2 (by omega) nx).trans x2; have z3 := (grown_cell hg5 wr.heap.size 3 (by omega) nx).trans x3; have z4 := (grown_cell hg5 wr.heap.size 4 (by omega) nx).trans x4; have m0 : w5.cell? ⟨w.heap.size + 1, 0, none⟩ = some (.int .i64 0) := (grown_cell hg5 (w.heap.size + 1) 0 (by omega) nw).trans (HT4.out 0 _ rfl); have m1 : w5.cell? ⟨w.heap.size + 1, 1, none⟩ = some (.string ⟨#[]⟩) := (grown_cell hg5 (w.heap.size + 1) 1 (by omega) nw).trans (HT4.out 1 _ rfl); have m2 : w5.cell? ⟨w.heap.size + 1, 2, none⟩ = some (.string ⟨#[]⟩) := (grown_cell hg5 (w.heap.size + 1) 2 (by omega) nw).trans (HT4.out 2 _ rfl); have m3 : w5.cell? ⟨w.heap.size + 1, 3, none⟩ = some (.int .i64 0) := (grown_cell hg5 (w.heap.size + 1) 3 (by omega) nw).trans (HT4.out 3 _ rfl); have m4 : w5.cell? ⟨w.heap.size + 1, 4, none⟩ = some (.int .i64 0) := (grown_cell hg5 (w.heap.size + 1) 4 (by omega) nw).trans (HT4.out 4 _ rfl); have mz : ∀ o, w5.frozen? ⟨w.heap.size + 1, o, none⟩ = false := (fun o => (World.frozen?_of_block (a := ⟨w.heap.size + 1, o, none⟩) (hg5.block (w.heap.size + 1) (by omega) nw)).trans (HTZ4.out o)))
                  | (at_builtin; refine app_all ((((wr.setCell ⟨r, 0, none⟩ (.int .i64 (T.next + 1))).setCell ⟨r, 1, none⟩ (.int .i64 now)).alloc (.cells #[.int .i64 T.next, .string t, .string u, .int .i64 now, .int .i64 now] 42)).drew) rfl _ _ rfl (wr.heap.size + 1) rfl B a cap T.l HR6.out.row rfl (by omega) (by rw [Hsz6.out]; exact Nat.le_refl _) ?_; intro v4 w4 hrow4 hg4; obtain ⟨a4, c4, rfl, _, _⟩ := sess_of_own hrow4; have hb4 := below_of_grown hg4; have hz4 : wr.heap.size + 1 ≤ w4.heap.size := (by have := hb4.size; rw [Hsz6.out] at this; exact this); have HR7 := hid (HR6.out.below hb4); have x0 := (hb4.cell (p := ⟨wr.heap.size, 0, none⟩) (by rw [Hsz6.out]; exact Nat.lt_succ_self _)).trans Y0.out; have x1 := (hb4.cell (p := ⟨wr.heap.size, 1, none⟩) (by rw [Hsz6.out]; exact Nat.lt_succ_self _)).trans Y1.out; have x2 := (hb4.cell (p := ⟨wr.heap.size, 2, none⟩) (by rw [Hsz6.out]; exact Nat.lt_succ_self _)).trans Y2.out; have x3 := (hb4.cell (p := ⟨wr.heap.size, 3, none⟩) (by rw [Hsz6.out]; exact Nat.lt_succ_self _)).trans Y3.out; have x4 := (hb4.cell (p := ⟨wr.heap.size, 4, none⟩) (by rw [Hsz6.out]; exact Nat.lt_succ_self _)).trans Y4.out; have T4' : ∀ j v, (#[.int .i64 0, .string ⟨#[]⟩, .string ⟨#[]⟩, .int .i64 0, .int .i64 0] : Array Value)[j]? = some v → w4.cell? ⟨w.heap.size + 1, j, none⟩ = some v := (fun j v hj => (hb4.cell (p := ⟨w.heap.size + 1, j, none⟩) (by rw [Hsz6.out]; show w.heap.size + 1 < wr.heap.size + 1; omega)).trans (by match j, hj with | 0, hj => (rw [T0.out]; exact hj) | 1, hj => (rw [T1.out]; exact hj) | 2, hj => (rw [T2.out]; exact hj) | 3, hj => (rw [T3.out]; exact hj) | 4, hj => (rw [T4.out]; exact hj) | n + 5, hj => (simp at hj))); have HT4 := hid T4'; have tz4 : ∀ o, w4.frozen? ⟨w.heap.size + 1, o, none⟩ = false := (fun o => (hb4.frozen (p := ⟨w.heap.size + 1, o, none⟩) (by rw [Hsz6.out]; show w.heap.size + 1 < wr.heap.size + 1; omega)).trans (TZ.out o)); have HTZ4 := hid tz4; clear T4' tz4)
                  | go_in)
                obtain ⟨W8, hW8⟩ : ∃ W8, W8 = w5.setCell ⟨r, 2, none⟩ (.slice a5 (T.l.length + 1) c5) := ⟨_, rfl⟩
                rw [← hW8]
                have hne5 : (Value.slice a5 (T.l ++ [begun T t u now]).length c5).ownBlock ≠ some r := Ne.symm (row_ne_low hrow5 (by omega))
                have ho8' : Out (fun k => k = r) w5 W8 := by rw [hW8]; exact (Out.refl _ w5).setCell ⟨r, 2, none⟩ _ rfl
                have hRT : RTab W8 B r a5 c5 ⟨T.next + 1, now, T.l ++ [begun T t u now]⟩ := by
                  refine ⟨?_, (hrow5.mono (by omega)).kept (grown_of_out ho8') (.inr hne5), HR7.out.br, hne5⟩
                  rw [hW8, heap_setCell_same w5 r 2 _ _ _ ob5]
                  simp
                have ho4 : Out (fun k => k = r) w w4 := HoW.out.next hg4 (fun j hj => by simp) (Out.refl _ _)
                have ho8 : Out (fun k => k = r) w W8 := ho4.next hg5 (fun j hj => row_ne_low hrow4 (by omega)) ho8'
                have s0 : W8.cell? ⟨w.heap.size + 1, 0, none⟩ = some (.int .i64 0) := ((ho8'.cells (w.heap.size + 1) (by omega) hwr1).1 0).trans m0
                have s1 : W8.cell? ⟨w.heap.size + 1, 1, none⟩ = some (.string ⟨#[]⟩) := ((ho8'.cells (w.heap.size + 1) (by omega) hwr1).1 1).trans m1
                have s2 : W8.cell? ⟨w.heap.size + 1, 2, none⟩ = some (.string ⟨#[]⟩) := ((ho8'.cells (w.heap.size + 1) (by omega) hwr1).1 2).trans m2
                have s3 : W8.cell? ⟨w.heap.size + 1, 3, none⟩ = some (.int .i64 0) := ((ho8'.cells (w.heap.size + 1) (by omega) hwr1).1 3).trans m3
                have s4 : W8.cell? ⟨w.heap.size + 1, 4, none⟩ = some (.int .i64 0) := ((ho8'.cells (w.heap.size + 1) (by omega) hwr1).1 4).trans m4
                clear hW8 ho8' ob5
                refine bodyPost_ret (v := .tuple #[sessV (begun T t u now), .int .i64 0]) (by simp [results, Tryd.results18, go_sem, sessV, begun, s0, s1, s2, s3, s4]) rfl ?_
                rw [He.out]
                refine ⟨rfl, ⟨_, _, hRT.keep (fun k hk => ?_)⟩, out5 ho8 (by omega) _ _ _ _ _⟩
                have hk1 : k ≠ w.heap.size + 1 := by
                  rcases hk with rfl | ⟨ad, e, rfl⟩
                  · omega
                  · have := (hrow5.lt ad.block (by rw [e]; rfl)).1
                    omega
                rw [heap_setCell_other _ _ _ _ hk1, heap_setCell_other _ _ _ _ hk1, heap_setCell_other _ _ _ _ hk1, heap_setCell_other _ _ _ _ hk1, heap_setCell_other _ _ _ _ hk1]
      · have e : tBegin T t u now = (T, sess0, timeErr now T.noted) := by
          have : tBeginErr T t u now = timeErr now T.noted := by unfold tBeginErr; rw [if_neg (by rw [hx, hy]; decide), if_pos (by simpa using e0)]
          unfold tBegin
          rw [if_pos (by rw [this]; simpa using e0), this]
        rw [e]
        have b0 : (timeErr now T.noted == 0) = false := by simpa using e0
        generalize timeErr now T.noted = x at *
        clear e h ok h1
        go_enter Tryd.func18, Tryd.ntmps18
        go_wp2_with (first
          | (go_at_call 42; refine (refIsName_any _ _ (by assumption)).mono ?_; rintro e w2 ⟨rfl, rfl⟩)
          | (go_at_call 43; refine Hte.mono ?_; rintro e w2 ⟨rfl, rfl⟩))
        exact bodyPost_ret (v := .tuple #[sessV sess0, .int .i64 x]) (by simp [results, Tryd.results18, go_sem, sessV, sess0]) rfl ⟨rfl, ⟨_, _, HH.out.below hb1⟩, Out.of_below hb1⟩
end Go.Proofs.YtcchlcbonfdhpaaDoor
