/- Behind a cut within a deed: the log opens, and holds the old pages or the new ones. -/
import Derived.Test.YthdcjepkehifoaaGreatWLaw
namespace Go.Proofs.YthdcjepkehifoaaGreat
open Go.RowKit Go.Maps
set_option linter.unusedVariables false
set_option maxRecDepth 20000
theorem wtake_split {α : Type} (a b : List α) (j : Nat) (hj : a.length ≤ j) : (a ++ b).take j = a ++ b.take (j - a.length) := by
  rw [List.take_append, List.take_of_length_le hj]
/-- the pages of a disk's image -/
def pgsI (ps : List (List UInt8)) (S P : Nat) (gs : List (List Nat)) : List (List UInt8) := (List.range P).map (pageNow ps S gs)
theorem pgsI_congr {ps ps' : List (List UInt8)} {S P : Nat} {gs gs' : List (List Nat)} (h : ∀ p, p < P → pageNow ps S gs p = pageNow ps' S gs' p) : pgsI ps S P gs = pgsI ps' S P gs' := List.map_congr_left fun p hp => h p (List.mem_range.1 hp)
theorem step_cut {S P G : Nat} {gs : List (List Nat)} {ls : List (Nat × List UInt8)} (hi : LogInv (psOf (fresh S P) ls) S G gs P) (hG : G + 1 < 2 ^ 63) {G' : Nat} {gs' : List (List Nat)} {ls' : List (Nat × List UInt8)} (hs : DStep S P G gs ls G' gs' ls') (j : Nat) (hj : ls.length ≤ j) (hj2 : j ≤ ls'.length) :
    ∃ G2 gs2, LogInv (psOf (fresh S P) (ls'.take j)) S G2 gs2 P ∧ G2 ≤ G + 1 ∧ (j = ls'.length → pgsI (psOf (fresh S P) (ls'.take j)) S P gs2 = pagesL S P gs' ls') ∧ (j ≠ ls'.length → pgsI (psOf (fresh S P) (ls'.take j)) S P gs2 = pagesL S P gs ls) := by
  rcases hs with ⟨rfl, rfl, rfl⟩ | ⟨rfl, rfl, rfl⟩ | ⟨ns, xs, hg, hl, hx, hU, rfl, rfl, rfl⟩
  · rw [List.take_of_length_le hj]
    exact ⟨G', gs', hi, Nat.le_succ _, fun _ => rfl, fun _ => rfl⟩
  · unfold cpWs at hj2 ⊢
    by_cases hu : usedOf gs = 0
    · rw [if_pos hu, List.append_nil] at hj2 ⊢
      rw [List.take_of_length_le hj]
      have := gs_nil hu
      subst this
      exact ⟨G', [], hi, Nat.le_succ _, fun _ => rfl, fun _ => rfl⟩
    · rw [if_neg hu] at hj2 ⊢
      rw [wtake_split _ _ _ hj, psOf_append]
      by_cases hc : j = (ls ++ checkWs (psOf (fresh S P) ls) S G' gs P).length
      · have hcl : (checkWs (psOf (fresh S P) ls) S G' gs P).length ≤ j - ls.length := by rw [hc, List.length_append]; omega
        rw [List.take_of_length_le hcl]
        obtain ⟨h1, h2⟩ := hi.check (by omega)
        refine ⟨G', [], h1, Nat.le_succ _, fun _ => ?_, fun h => absurd hc h⟩
        unfold pagesL pgsI
        rw [psOf_append]
      · have hlt : j - ls.length ≤ (touchedOf P gs).length := by
          rw [List.length_append, checkWs_length] at hj2 hc
          omega
        rw [homeWs_part _ _ _ _ _ _ hlt]
        obtain ⟨h1, h2⟩ := hi.home_part ((touchedOf P gs).take (j - ls.length)) (fun n hn => touched_lt (List.mem_of_mem_take hn))
        exact ⟨G', gs, h1, Nat.le_succ _, fun h => absurd h hc, fun _ => pgsI_congr h2⟩
  · rw [wtake_split _ _ _ hj, psOf_append]
    by_cases hc : j = (ls ++ commitWs (usedOf gs) G ns xs).length
    · have hcl : (commitWs (usedOf gs) G ns xs).length ≤ j - ls.length := by rw [hc, List.length_append]; omega
      rw [List.take_of_length_le hcl]
      refine ⟨G + 1, gs ++ [ns], hi.commit ns xs hg hl hx hU hG, Nat.le_refl _, fun _ => ?_, fun h => absurd hc h⟩
      unfold pagesL pgsI
      rw [psOf_append]
    · have hlt : j - ls.length ≤ xs.length + 1 := by
        rw [List.length_append, commitWs_length] at hj2 hc
        omega
      obtain ⟨h1, h2⟩ := hi.commit_part ns xs hg hl hx hU (j - ls.length) hlt
      exact ⟨G, gs, h1, Nat.le_succ _, fun h => absurd h hc, fun _ => pgsI_congr h2⟩
theorem step_len {S P G : Nat} {gs : List (List Nat)} {ls : List (Nat × List UInt8)} {G' : Nat} {gs' : List (List Nat)} {ls' : List (Nat × List UInt8)} (hs : DStep S P G gs ls G' gs' ls') : ls.length ≤ ls'.length := by
  rcases hs with ⟨rfl, rfl, rfl⟩ | ⟨rfl, rfl, rfl⟩ | ⟨ns, xs, hg, hl, hx, hU, rfl, rfl, rfl⟩
  · exact Nat.le_refl _
  · rw [List.length_append]; omega
  · rw [List.length_append]; omega
theorem Duo.lt {w : World} {B S P k la m G : Nat} {gs : List (List Nat)} {ls : List (Nat × List UInt8)} (h : Duo w B S P k la m G gs ls) : ∀ c ∈ ls, c.1 < (fresh S P).length := by
  obtain ⟨Q, R, _, ⟨r, F, L, vs, us, h, _⟩, _⟩ := h
  exact fun c hc => (h.ok c hc).1
theorem Duo.inv {w : World} {B S P k la m G : Nat} {gs : List (List Nat)} {ls : List (Nat × List UInt8)} (h : Duo w B S P k la m G gs ls) : LogInv (psOf (fresh S P) ls) S G gs P ∧ G ≤ k ∧ ls.length ≤ 102 * k := by
  obtain ⟨d, g, c, m, n, v, h⟩ := h.log
  exact ⟨h.inv, h.gr, h.lsl⟩
end Go.Proofs.YthdcjepkehifoaaGreat
