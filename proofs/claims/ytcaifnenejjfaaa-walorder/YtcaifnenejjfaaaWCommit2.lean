/- Commit of package wal, of one page or more, by a contract. -/
import Derived.Test.YtcaifnenejjfaaaWRefuse

namespace Go.Proofs.Ytcaifnenejjfaaa
open Go.RowKit Go.Maps
set_option linter.unusedVariables false
set_option maxRecDepth 20000

theorem badPg_form {s : List PgV} {k : Nat} (h : BadPg s k) : BadForm s := by
  obtain ⟨hk, ⟨i, hi, e⟩ | h⟩ := h
  · left
    intro hn
    rw [List.nodup_iff_pairwise_ne, List.pairwise_map, List.pairwise_iff_getElem] at hn
    exact hn i k (by omega) hk (by omega) e.symm
  · exact .inr ⟨_, List.getElem_mem hk, h⟩
theorem noBad_sorted {s : List PgV} (hs : s.Pairwise (fun a b => a.1 ≤ b.1)) (h : ∀ k, ¬ BadPg s k) : s.Pairwise (fun a b => a.1 < b.1) ∧ ∀ p ∈ s, p.2.2.1 = 256 := by
  refine ⟨?_, fun p hp => ?_⟩
  · rw [List.pairwise_iff_getElem] at hs ⊢
    intro i j hi hj hij
    obtain ⟨q, rfl⟩ : ∃ q, j = q + 1 := ⟨j - 1, by omega⟩
    have h1 : s[q].1 < s[q + 1].1 := by
      have h2 := hs q (q + 1) (by omega) hj (by omega)
      have h3 : s[q + 1].1 ≠ s[q].1 := fun e => h (q + 1) ⟨hj, .inl ⟨q, rfl, e⟩⟩
      omega
    rcases Nat.lt_or_ge i q with h4 | h4
    · have := hs i q hi (by omega) h4
      omega
    · obtain rfl : i = q := by omega
      exact h1
  · obtain ⟨i, hi, rfl⟩ := List.getElem_of_mem hp
    exact Classical.byContradiction fun h' => h i ⟨hi, .inr h'⟩
theorem up_form {s : List PgV} (hs : s.Pairwise (fun a b => a.1 < b.1)) (h : ∀ p ∈ s, p.2.2.1 = 256) : ¬ BadForm s := by
  rintro (h1 | ⟨p, hp, h2⟩)
  · apply h1
    rw [List.nodup_iff_pairwise_ne, List.pairwise_map]
    exact hs.imp fun h => by omega
  · exact h2 (h p hp)
theorem badForm_perm {s l : List PgV} (h : s.Perm l) : BadForm s ↔ BadForm l := by
  unfold BadForm
  rw [(h.map _).nodup_iff]
  exact or_congr Iff.rfl ⟨fun ⟨p, hp, e⟩ => ⟨p, h.mem_iff.1 hp, e⟩, fun ⟨p, hp, e⟩ => ⟨p, h.mem_iff.2 hp, e⟩⟩
theorem badRange_perm {P : Nat} {s l : List PgV} (h : s.Perm l) : BadRange P s ↔ BadRange P l :=
  ⟨fun ⟨p, hp, e⟩ => ⟨p, h.mem_iff.1 hp, e⟩, fun ⟨p, hp, e⟩ => ⟨p, h.mem_iff.2 hp, e⟩⟩

/-- what refuse tells of a sorted group -/
def RefAll (S U P : Nat) (s : List PgV) (w : World) (e : Ending) (w' : World) : Prop :=
  (BadRange P s ∧ e = .returned (.int .i64 2) ∧ Below w.heap.size w w') ∨ (¬ BadRange P s ∧ RefPost S U s w e w')
theorem refuse_any {w : World} {B l d g cap mb n : Nat} {v : Value} {S G U : Nat} {pl : Nat → Option Nat} {ps : List (List UInt8)} {ch : List (Nat × List UInt8)} (h : LogMem w B l d g cap mb n v S G U pl ps ch) (P : Nat) (hl : ps.length = S + 1 + P) (hm : ps.length ≤ 1024) (hU : U ≤ S) (s : List PgV) (gb c : Nat) (hs : PgsAt w gb 0 s) (h1 : 1 ≤ s.length) (h2 : s.length ≤ 100) (hup : s.Pairwise (fun a b => a.1 ≤ b.1)) :
    Calls Try.prog 34 #[.pointer (some ⟨l, 0, none⟩), .slice (some ⟨gb, 0, none⟩) s.length c] w (RefAll S U P s w) := by
  obtain ⟨j, hj⟩ : ∃ j, s.length = j + 1 := ⟨s.length - 1, by omega⟩
  have h0 : 0 < s.length := by omega
  have hjl : j < s.length := by omega
  rw [hj]
  by_cases hb1 : s[0].1 < 0 ∨ (P : Int) ≤ s[0].1
  · refine (refuse_first h P hl hm s gb c j hs hj (by omega) s[0].1 (fun _ => rfl) hb1).mono ?_
    rintro e w' ⟨rfl, hb⟩
    exact .inl ⟨⟨_, List.getElem_mem h0, hb1⟩, rfl, hb⟩
  · by_cases hb2 : s[j].1 < 0 ∨ (P : Int) ≤ s[j].1
    · refine (refuse_last h P hl hm s gb c j hs hj (by omega) s[0].1 s[j].1 (fun _ => rfl) (fun _ => rfl) (by omega) hb2).mono ?_
      rintro e w' ⟨rfl, hb⟩
      exact .inl ⟨⟨_, List.getElem_mem hjl, hb2⟩, rfl, hb⟩
    · refine (refuse_rest h P hl hm hU s gb c j hs hj (by omega) s[0].1 s[j].1 (fun _ => rfl) (fun _ => rfl) (by omega) (by omega)).mono ?_
      intro e w' hp
      refine .inr ⟨?_, hp⟩
      rintro ⟨p, hp, hbad⟩
      obtain ⟨i, hi, rfl⟩ := List.getElem_of_mem hp
      rw [List.pairwise_iff_getElem] at hup
      have a1 : s[0].1 ≤ s[i].1 := by
        rcases Nat.eq_zero_or_pos i with e | e
        · subst e; omega
        · exact hup 0 i h0 hi e
      have a2 : s[i].1 ≤ s[j].1 := by
        rcases Nat.lt_or_ge i j with e | e
        · exact hup i j hi hjl e
        · obtain rfl : i = j := by omega
          omega
      omega

/-- what Commit tells, and leaves, of one page or more -/
def CommitPost (w : World) (B l d g cap mb n : Nat) (v : Value) (S G U P : Nat) (pl : Nat → Option Nat) (fs : List (List UInt8)) (ls : List (Nat × List UInt8)) (ps : List PgV) (e : Ending) (w' : World) : Prop :=
  (∃ c : Int, e = .returned (.int .i64 c) ∧ ((c = 2 ∧ BadRange P ps) ∨ (c = 3 ∧ ¬ BadRange P ps ∧ BadForm ps) ∨ (c = 7 ∧ ¬ BadRange P ps ∧ ¬ BadForm ps ∧ S < U + ps.length + 1)) ∧ Below w.heap.size w w') ∨
  (e = .returned (.int .i64 0) ∧ ¬ BadRange P ps ∧ ¬ BadForm ps ∧ U + ps.length + 1 ≤ S ∧ ∃ s v', s.Perm ps ∧ s.Pairwise (fun a b => a.1 < b.1) ∧ LogMem w' B l d g cap mb (n + ps.length) v' S (G + 1) (U + ps.length + 1) (noted pl (U + 2) (numsP s)) (psOf fs (ls ++ commitWs U G (numsP s) (s.map (bytesAt w)))) (chOf fs (ls ++ commitWs U G (numsP s) (s.map (bytesAt w)))) ∧ NewV w v v' ∧ Out (logBlock l d g mb v) w w')

set_option maxHeartbeats 1600000 in
theorem commit_any {w : World} {B l d g cap mb n : Nat} {v : Value} {S G U : Nat} {pl : Nat → Option Nat} {fs : List (List UInt8)} {ls : List (Nat × List UInt8)} (h : LogMem w B l d g cap mb n v S G U pl (psOf fs ls) (chOf fs ls)) (P : Nat) (hl : fs.length = S + 1 + P) (hm : fs.length ≤ 1024) (hU : U ≤ S) (ps : List PgV) (b o c : Nat) (hs : PgsAt w b o ps) (h1 : 1 ≤ ps.length) (h2 : ps.length ≤ 100) (hok : ∀ p ∈ ps, p.2.2.1 = 256 → PgOk w (logBlock l d g mb v) p) (hG : G + 1 < 9223372036854775808) (hls : ls.length ≤ 900000) (hn : n ≤ 1000000) (hbase : B ≤ w.heap.size) :
    Calls Try.prog 8 #[.pointer (some ⟨l, 0, none⟩), .slice (some ⟨b, o, none⟩) ps.length c] w (CommitPost w B l d g cap mb n v S G U P pl fs ls ps) := by
  have H := hid h
  have Hok := hid hok
  have Hl := hid hl
  have Hcl := hid (clonePg ps b o c w hs (by omega) (by omega))
  have d1 : ((ps.length : Int) == 0) = false := by rw [beq_eq_false_iff_ne]; omega
  have d2 : ¬ (100 : Int) < (ps.length : Int) := by omega
  clear h hok hs hl
  go_enter Try.func8, Try.ntmps8
  go_wp2_with (fail)
  refine Hcl.out.mono ?_
  rintro e w1 ⟨gc, cc, rfl, ho1, hb1⟩
  have hg1 := ho1.lt gc rfl
  have Hso := hid (sort_any ps gc cc w1 (holds_of_row ho1) hg1.2 (by omega))
  have Hb1 := hid hb1
  clear ho1 hb1 Hcl
  go_wp2_with (fail)
  refine Hso.out.mono ?_
  rintro e w2 ⟨rfl, s, hperm, hup, hpg, ho2⟩
  have hlen : s.length = ps.length := hperm.length_eq
  have Hb2 : Hid (Below w.heap.size w w2) := Hb1.out.trans (ho2.below (Hb1.out.size) (fun k hk => by rw [hk]; exact hg1.1))
  have H2 := hid (H.out.below Hb2.out)
  have Hrf := hid (refuse_any H2.out P (by rw [psOf_length]; exact Hl.out) (by rw [psOf_length]; exact hm) hU s gc cc hpg (by omega) (by omega) hup)
  rw [hlen] at Hrf
  have Hperm := hid hperm
  have Hup := hid hup
  have Hpg := hid hpg
  have Hlen := hid hlen
  have Hg2 := hid (show gc < w2.heap.size from Nat.lt_of_lt_of_le hg1.2 ho2.size)
  clear hperm hup hpg ho2 hlen Hso
  go_wp2_with (fail)
  refine Hrf.out.mono ?_
  rintro e w3 (⟨hbad, rfl, hb3⟩ | ⟨hgood, (⟨rfl, k, hbad⟩ | ⟨hno, rfl⟩), hb3⟩)
  · have Hbad := hid ((badRange_perm Hperm.out).1 hbad)
    have Hb3 := hid (Hb2.out.trans (hb3.mono Hb2.out.size))
    clear hbad hb3 Hrf
    go_wp2
    go_ret
    exact .inl ⟨2, rfl, .inl ⟨rfl, Hbad.out⟩, Hb3.out⟩
  · have Hgd := hid (fun hh => hgood ((badRange_perm Hperm.out).2 hh))
    have Hbad := hid ((badForm_perm Hperm.out).1 (badPg_form hbad))
    have Hb3 := hid (Hb2.out.trans (hb3.mono Hb2.out.size))
    clear hgood hbad hb3 Hrf
    go_wp2
    go_ret
    exact .inl ⟨3, rfl, .inr (.inl ⟨rfl, Hgd.out, Hbad.out⟩), Hb3.out⟩
  · have Hgd := hid (fun hh => hgood ((badRange_perm Hperm.out).2 hh))
    have hst := noBad_sorted Hup.out hno
    have Hst := hid hst
    have Hnf := hid (fun hh => up_form hst.1 hst.2 ((badForm_perm Hperm.out).2 hh))
    have HB3 := hid hb3
    have Hb3 := hid (Hb2.out.trans (hb3.mono Hb2.out.size))
    clear hno hb3 Hrf hst
    by_cases hfull : S < U + ps.length + 1
    · rw [if_pos (by rw [Hlen.out]; omega)]
      clear hgood
      go_wp2
      go_ret
      exact .inl ⟨7, rfl, .inr (.inr ⟨rfl, Hgd.out, Hnf.out, hfull⟩), Hb3.out⟩
    · rw [if_neg (by rw [Hlen.out]; omega)]
      obtain ⟨j, hj⟩ : ∃ j, s.length = j + 1 := ⟨s.length - 1, by have := Hlen.out; omega⟩
      have hF : Out (logBlock l d g mb v) w w3 := Out.of_below Hb3.out
      have hkeep : ∀ p ∈ s, PgOk w3 (logBlock l d g mb v) p ∧ bytesAt w3 p = bytesAt w p := fun p hp => (Hok.out p (Hperm.out.mem_iff.1 hp) (Hst.out.2 p hp)).keep hF (fun _ _ h => h)
      have hgl : ¬ logBlock l d g mb v gc := fun hh => by have := (H.out.lts _ hh).2; omega
      have Hwr := hid (write_any' (H.out.below Hb3.out) P Hl.out hm s gc cc j (Hpg.out.keep (HB3.out.block gc Hg2.out)) hj (by have := Hlen.out; omega) hgl (fun p hp => (hkeep p hp).1) (fun p hp => by
        have : ¬ (p.1 < 0 ∨ (P : Int) ≤ p.1) := fun h' => hgood ⟨p, hp, h'⟩
        omega) Hst.out.1 (by have := Hlen.out; omega) hG hls hn (Nat.le_trans hbase Hb3.out.size))
      have Hxs : Hid (s.map (bytesAt w3) = s.map (bytesAt w)) := List.map_congr_left fun p hp => (hkeep p hp).2
      rw [Hxs.out] at Hwr
      rw [← hj, Hlen.out] at Hwr
      clear hgood hkeep hgl hF hj
      go_wp2_with (fail)
      refine Hwr.out.mono ?_
      rintro e w4 ⟨rfl, v4, hM4, hn4, ho4⟩
      have HM4 := hid hM4
      have Hn4 := hid hn4
      have Ho4 := hid ho4
      clear hM4 hn4 ho4 Hwr
      go_wp2
      go_ret
      exact .inr ⟨rfl, Hgd.out, Hnf.out, by omega, s, v4, Hperm.out, Hst.out.1, HM4.out, fun k hk => (Hn4.out k hk).imp id (fun h => Nat.le_trans Hb3.out.size h), (Out.of_below Hb3.out).trans Ho4.out (fun _ _ h => h)⟩
end Go.Proofs.Ytcaifnenejjfaaa
