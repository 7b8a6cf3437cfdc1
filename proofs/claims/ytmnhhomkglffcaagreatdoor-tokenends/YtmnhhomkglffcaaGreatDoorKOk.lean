/- What is so of every store stays so behind Grant and Refresh. -/
import Derived.Test.YtmnhhomkglffcaaGreatDoorKAcc
namespace Go.Proofs.YtmnhhomkglffcaaGreatDoor
open Go.RowKit Go.Maps Go.Sort Go.Shelf
set_option linter.unusedVariables false

theorem untilOf_in {now : Int} (h : 0 ≤ now ∧ now ≤ 1099511627776) : 0 ≤ untilOf now ∧ untilOf now ≤ 1099511627776 := by unfold untilOf; omega
theorem pw_snoc {α : Type} {R : α → α → Prop} {l : List α} {x : α} (h : l.Pairwise R) (hx : ∀ a ∈ l, R a x) : (l ++ [x]).Pairwise R := by
  rw [List.pairwise_append]
  exact ⟨h, List.pairwise_singleton _ _, fun a ha b hb => by rw [List.mem_singleton] at hb; subst hb; exact hx a ha⟩
theorem mem_snoc {α : Type} {l : List α} {x a : α} (h : a ∈ l ++ [x]) : a ∈ l ∨ a = x := by simpa using h

theorem tGrant_ok {T : Sto} (ok : StoOk T) (ses : Int) (cli : ByteArray) (sco now : Int) (hs : 0 ≤ sco ∧ sco ≤ 255) : StoOk (tGrant T ses cli sco now).2.2.2 := by
  unfold tGrant
  by_cases e0 : grantErr T ses cli now = 0
  · rw [if_neg (by simp [e0])]
    obtain ⟨z1, z2, z3, z4, z5, z6, z7⟩ := grantErr_zero e0
    have a1 := ok.nf
    have a2 := ok.nt
    refine ⟨pw_snoc ok.upf (fun a ha => (ok.idf a ha).2), fun s h => ?_, by show 1 ≤ T.nf + 1 ∧ T.nf + 1 ≤ _; omega, pw_snoc ok.upt (fun a ha => (ok.idt a ha).2), fun s h => ?_, by show 1 ≤ T.nt + 1 ∧ T.nt + 1 ≤ _; omega, z2, fun s h => ?_, fun t h => ?_, fun t h => ?_⟩
    · rcases mem_snoc h with h | h
      · have := ok.idf s h; show 1 ≤ s.id ∧ s.id < T.nf + 1; omega
      · subst h; show 1 ≤ T.nf ∧ T.nf < T.nf + 1; omega
    · rcases mem_snoc h with h | h
      · have := ok.idt s h; show 1 ≤ s.id ∧ s.id < T.nt + 1; omega
      · subst h; show 1 ≤ T.nt ∧ T.nt < T.nt + 1; omega
    · rcases mem_snoc h with h | h
      · exact ok.nx s h
      · subst h; exact ⟨(by decide : (1 : Int) ≤ 1 ∧ (1 : Int) ≤ 1099511627776), hs⟩
    · rcases mem_snoc h with h | h
      · obtain ⟨s, h1, h2⟩ := ok.tk t h
        exact ⟨s, List.mem_append_left _ h1, h2⟩
      · subst h; exact ⟨⟨T.nf, ses, cli, sco, 1⟩, List.mem_append_right _ (List.mem_singleton.2 rfl), rfl, nar_refl _⟩
    · rcases mem_snoc h with h | h
      · exact ok.tu t h
      · subst h; exact ⟨untilOf_in z2, hs⟩
  · rw [if_pos e0]; exact ok

theorem putFam_id (s t : Fam.Sess) : (if t.id = s.id then s else t).id = t.id := by
  by_cases h : t.id = s.id
  · rw [if_pos h, h]
  · rw [if_neg h]

theorem StoOk.note {T : Sto} (ok : StoOk T) {now : Int} (h : 0 ≤ now ∧ now ≤ 1099511627776) : StoOk ⟨now, T.nf, T.fs, T.nt, T.ts⟩ := ⟨ok.upf, ok.idf, ok.nf, ok.upt, ok.idt, ok.nt, h, ok.nx, ok.tk, ok.tu⟩

theorem spend_zero {T : Sto} {s : Fam.Sess} {num : Int} (h : spendErr T s num = 0) : num = s.nxt ∧ 1 ≤ num ∧ T.nt ≤ 1099511627776 ∧ s.nxt < 1099511627776 := by
  unfold spendErr at h
  split at h
  · cases h
  · split at h
    · cases h
    · split at h
      · cases h
      · omega

theorem tRefresh_ok {T : Sto} (ok : StoOk T) (id num now : Int) : StoOk (tRefresh T id num now).2.2.2 := by
  unfold tRefresh
  by_cases e1 : (fAt T id now).2 = 0
  · rw [if_neg (by simp [e1])]
    obtain ⟨te0, ef⟩ := fAt_ok e1
    have tt := timeErr_ok te0
    by_cases e2 : spendErr T (fAt T id now).1 num = 0
    · rw [if_neg (by simp [e2])]
      have hin : (fAt T id now).1 ∈ T.fs := by rw [ef]; exact (fFind_ok (by rw [← ef]; exact e1)).1
      obtain ⟨s1, s2, s3, s4⟩ := spend_zero e2
      obtain ⟨x, hx⟩ : ∃ x, x = (fAt T id now).1 := ⟨_, rfl⟩
      rw [← hx] at hin s1 s4 ⊢
      have hm := putFam_mem (s := spent x) hin rfl
      have a1 := ok.nf
      have a2 := ok.nt
      refine ⟨?_, fun s h => ?_, ok.nf, pw_snoc ok.upt (fun a ha => (ok.idt a ha).2), fun s h => ?_, by show 1 ≤ T.nt + 1 ∧ T.nt + 1 ≤ _; omega, ⟨tt.1, tt.2.1⟩, fun s h => ?_, fun t h => ?_, fun t h => ?_⟩
      · show (T.fs.map _).Pairwise _
        rw [List.pairwise_map]
        exact ok.upf.imp (fun {a b} h => by rw [putFam_id, putFam_id]; exact h)
      · rcases (hm s).1 h with h | h
        · subst h; exact ok.idf x hin
        · exact ok.idf s h.1
      · rcases mem_snoc h with h | h
        · have := ok.idt s h; show 1 ≤ s.id ∧ s.id < T.nt + 1; omega
        · subst h; show 1 ≤ T.nt ∧ T.nt < T.nt + 1; omega
      · rcases (hm s).1 h with h | h
        · subst h
          have := ok.nx x hin
          exact ⟨by show 1 ≤ x.nxt + 1 ∧ x.nxt + 1 ≤ _; omega, this.2⟩
        · exact ok.nx s h.1
      · rcases mem_snoc h with h | h
        · obtain ⟨s, h1, h2, h3⟩ := ok.tk t h
          by_cases h9 : s.id = x.id
          · have : s = x := Nums1.eq (num := Fam.Sess.id) (ok.upf.imp (fun h => by omega)) h1 hin h9
            subst this
            exact ⟨spent s, (hm _).2 (.inl rfl), h2, h3⟩
          · exact ⟨s, (hm _).2 (.inr ⟨h1, h9⟩), h2, h3⟩
        · subst h
          exact ⟨spent x, (hm _).2 (.inl rfl), rfl, nar_refl _⟩
      · rcases mem_snoc h with h | h
        · exact ok.tu t h
        · subst h; exact ⟨untilOf_in ⟨tt.1, tt.2.1⟩, (ok.nx x hin).2⟩
    · rw [if_pos e2]
      show StoOk (if spendErr T (fAt T id now).1 num = 13 then _ else T)
      split
      · exact (tEnd_ok ok id).note ⟨tt.1, tt.2.1⟩
      · exact ok
  · rw [if_pos e1]; exact ok
end Go.Proofs.YtmnhhomkglffcaaGreatDoor
