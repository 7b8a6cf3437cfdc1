/- What an end of sessions leaves behind: plain mathematics of stores. -/
import Derived.Test.YtmnhhomkglffcaaGreatDoorKP
import Derived.Test.YtmnhhomkglffcaaGreatDoorKTokens
namespace Go.Proofs.YtmnhhomkglffcaaGreatDoor
open Go.RowKit Go.Maps Go.Sort Go.Shelf
set_option linter.unusedVariables false
set_option maxRecDepth 20000
theorem wanted_iff {T : Sto} {f : Fam.Sess → Bool} {x : Int} : hasB (Fam.wantedIds T.fs f) x = true ↔ ∃ s ∈ T.fs, f s = true ∧ s.id = x := by
  rw [hasB_iff]
  unfold Fam.wantedIds
  rw [List.mem_map]
  constructor
  · rintro ⟨s, hs, e⟩
    exact ⟨s, (List.mem_filter.1 hs).1, (List.mem_filter.1 hs).2, e⟩
  · rintro ⟨s, h1, h2, e⟩
    exact ⟨s, List.mem_filter.2 ⟨h1, h2⟩, e⟩
theorem hasB_take {zs : List Int} {j : Nat} {z x : Int} (h : zs[j]? = some z) : hasB (zs.take (j + 1)) x = (hasB (zs.take j) x || (z == x)) := by
  rw [take_snoc_get h, Bool.eq_iff_iff, hasB_iff, Bool.or_eq_true, hasB_iff, List.mem_append, List.mem_singleton]
  constructor
  · rintro (h | h)
    · exact .inl h
    · exact .inr (by simp [h])
  · rintro (h | h)
    · exact .inl h
    · exact .inr (by have : z = x := by simpa using h
                     exact this.symm)
/-- a family that is ended is there ahead of it, gone behind it, of one of the sessions, and has no token -/
theorem endsCase {T : Sto} (ok : StoOk T) (zs : List Int) {x : Int} (hx : x ∈ Fam.wantedIds T.fs (inS zs)) : ∃ s : Fam.Sess, fFind T.nf T.fs x = (s, 0) ∧ fFind (tDrop T (inS zs)).nf (tDrop T (inS zs)).fs x = (Fam.sess0, 12) ∧ hasB zs s.ses = true ∧ ((tDrop T (inS zs)).ts.filter (famB x)).length = 0 := by
  obtain ⟨s, hs, hf, he⟩ := wanted_iff.1 (hasB_iff.2 hx)
  have h1 := fFind_in (next := T.nf) ok.upf hs (ok.idf s hs)
  rw [he] at h1
  have hno : ∀ t ∈ (tDrop T (inS zs)).fs, t.id ≠ x := fun t ht e => by
    obtain ⟨h2, h3⟩ := List.mem_filter.1 ht
    have h4 : t = s := Nums1.eq (num := Fam.Sess.id) (ok.upf.imp (fun h => by omega)) h2 hs (e.trans he.symm)
    rw [h4, hf] at h3
    cases h3
  refine ⟨s, h1, ?_, hf, ?_⟩
  · unfold fFind
    have hr := ok.idf s hs
    have hn : ¬ (x < 1 ∨ (tDrop T (inS zs)).nf ≤ x) := by show ¬ (x < 1 ∨ T.nf ≤ x); omega
    rw [if_neg hn]
    have : (tDrop T (inS zs)).fs.find? (fun s => s.id == x) = none := List.find?_eq_none.2 fun t ht e => hno t ht (by simpa using e)
    rw [this]
  · rw [List.length_eq_zero_iff, List.filter_eq_nil_iff]
    intro t ht hc
    obtain ⟨_, h3⟩ := List.mem_filter.1 ht
    obtain ⟨s', hs', e'⟩ := (there_iff _ _).1 h3
    exact hno s' hs' (e'.trans (by simpa [famB] using hc))
theorem endsNone {T : Sto} (zs : List Int) {z : Int} (hz : z ∈ zs) : ((tDrop T (inS zs)).fs.filter (sesB z)).length = 0 := by
  rw [List.length_eq_zero_iff, List.filter_eq_nil_iff]
  intro s hs hc
  obtain ⟨_, h2⟩ := List.mem_filter.1 hs
  have e : s.ses = z := by simpa [sesB] using hc
  have : inS zs s = true := hasB_iff.2 (by rw [e]; exact hz)
  rw [this] at h2
  cases h2
theorem endsLess (T : Sto) (zs : List Int) : (tDrop T (inS zs)).fs.length ≤ T.fs.length ∧ (tDrop T (inS zs)).ts.length ≤ T.ts.length := ⟨List.length_filter_le _ _, List.length_filter_le _ _⟩
end Go.Proofs.YtmnhhomkglffcaaGreatDoor
