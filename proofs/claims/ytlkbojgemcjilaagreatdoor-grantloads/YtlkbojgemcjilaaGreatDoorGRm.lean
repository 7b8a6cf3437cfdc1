/- The rows of a store of grants: mathematics. -/
import Derived.Test.YtlkbojgemcjilaaGreatDoorGX1
namespace Go.Proofs.YtlkbojgemcjilaaGreatDoor.Xr
open Go.RowKit Go.Maps
set_option linter.unusedVariables false
set_option maxRecDepth 20000
def slash : ByteArray := ⟨#[47]⟩
def clRow (c : Cl) : Rw := ⟨c.t ++ slash ++ c.n, [c.r, txtJ c.sc]⟩
def coRow (a : Co) : Rw := ⟨a.t ++ slash ++ a.u ++ slash ++ a.n, [txtJ a.sc]⟩
def keyR (r : Rw) : List UInt8 := r.key.toList
def mOfG (s : GS) : List Rw := s.cs.map clRow ++ s.al.map coRow
def rowsOfC (al : List Co) (c : Cl) : List Rw := clRow c :: (al.filter (ofC c.t c.n)).map coRow
theorem flat_cons {α β : Type} (f : α → β) (g : α → List β) : ∀ l : List α, (l.flatMap fun x => f x :: g x).Perm (l.map f ++ l.flatMap g)
  | [] => List.Perm.refl _
  | a :: l => by
    rw [List.flatMap_cons, List.map_cons, List.flatMap_cons, List.cons_append, List.cons_append]
    refine List.Perm.cons _ ?_
    refine ((List.Perm.refl (g a)).append (flat_cons f g l)).trans ?_
    rw [← List.append_assoc, ← List.append_assoc]
    exact List.perm_append_comm.append_right _
theorem flat_map {α β γ : Type} (f : β → γ) (g : α → List β) : ∀ l : List α, (l.flatMap fun x => (g x).map f) = (l.flatMap g).map f
  | [] => rfl
  | a :: l => by rw [List.flatMap_cons, List.flatMap_cons, List.map_append, flat_map f g l]
/-- each of a list's things is of just one kind -/
theorem classes {α β : Type} {R : α → β → Bool} : ∀ (cs : List α), (cs.Pairwise fun a b => ∀ x, R a x = true → R b x = true → False) → ∀ al : List β, (∀ x ∈ al, ∃ c ∈ cs, R c x = true) → (cs.flatMap fun c => al.filter (R c)).Perm al
  | [], _, al, h => by
    cases al with
    | nil => exact List.Perm.refl _
    | cons x _ =>
      obtain ⟨c, hc, _⟩ := h x List.mem_cons_self
      exact nomatch hc
  | c :: cs, hp, al, h => by
    obtain ⟨h1, h2⟩ := List.pairwise_cons.1 hp
    have ih := classes cs h2 (al.filter fun x => !R c x) (fun x hx => by
      obtain ⟨hx1, hx2⟩ := List.mem_filter.1 hx
      obtain ⟨c', hc', hr⟩ := h x hx1
      rcases List.mem_cons.1 hc' with rfl | hc'
      · rw [hr] at hx2
        exact absurd hx2 (by decide)
      · exact ⟨c', hc', hr⟩)
    have e : (cs.flatMap fun c' => (al.filter fun x => !R c x).filter (R c')) = cs.flatMap fun c' => al.filter (R c') := by
      rw [List.flatMap_def, List.flatMap_def]
      congr 1
      refine List.map_congr_left fun c' hc' => ?_
      rw [List.filter_filter]
      refine List.filter_congr fun x _ => ?_
      cases hr : R c' x
      · rfl
      · cases hr2 : R c x
        · rfl
        · exact (h1 c' hc' x hr2 hr).elim
    rw [e] at ih
    rw [List.flatMap_cons]
    exact (ih.append_left _).trans (List.filter_append_perm _ _)
theorem isC_ofC {c : Cl} {a : Co} : ofC c.t c.n a = true ↔ a.t = c.t ∧ a.n = c.n := ofC_iff
theorem rows_perm {s : GS} (ok : s.Ok) : (s.cs.flatMap (rowsOfC s.al)).Perm (mOfG s) := by
  unfold rowsOfC mOfG
  refine (flat_cons _ _ _).trans (List.Perm.append_left _ ?_)
  rw [flat_map]
  refine List.Perm.map _ (classes (R := fun (c : Cl) (a : Co) => ofC c.t c.n a) s.cs (ok.keys.imp fun {a b} h x h1 h2 => ?_) s.al fun x hx => ?_)
  · have q1 := ofC_iff.1 h1
    have q2 := ofC_iff.1 h2
    exact h ⟨q1.1.symm.trans q2.1, q1.2.symm.trans q2.2⟩
  · obtain ⟨_, _, _, c, hc, e1, e2, _⟩ := ok.anames x hx
    exact ⟨c, hc, ofC_iff.2 ⟨e1.symm, e2.symm⟩⟩
theorem flat_perm {α β : Type} (f : α → List β) {l l' : List α} (h : l.Perm l') : (l.flatMap f).Perm (l'.flatMap f) := by
  induction h with
  | nil => exact List.Perm.refl _
  | cons x _ ih => rw [List.flatMap_cons, List.flatMap_cons]; exact ih.append_left _
  | swap x y l =>
    rw [List.flatMap_cons, List.flatMap_cons, List.flatMap_cons, List.flatMap_cons, ← List.append_assoc, ← List.append_assoc]
    exact List.perm_append_comm.append_right _
  | trans _ _ h1 h2 => exact h1.trans h2
theorem okN_noG {t : ByteArray} (h : okN t = true) : (47 : UInt8) ∉ t.data.toList := by
  unfold okN nameB at h
  have h1 := List.all_eq_true.1 ((Bool.and_eq_true _ _).mp h).2
  exact fun hm => by have := h1 _ hm; revert this; decide
theorem split_at : ∀ {a b c d : List UInt8}, (47 : UInt8) ∉ a → (47 : UInt8) ∉ c → a ++ 47 :: b = c ++ 47 :: d → a = c ∧ b = d
  | [], _, [], _, _, _, h => ⟨rfl, by simpa using h⟩
  | [], _, y :: c, _, _, h2, h => by
    simp at h
    exact absurd (h.1 ▸ List.mem_cons_self) h2
  | x :: a, _, [], _, h1, _, h => by
    simp at h
    exact absurd (h.1 ▸ List.mem_cons_self) h1
  | x :: a, _, y :: c, _, h1, h2, h => by
    simp at h
    obtain ⟨e1, e2⟩ := split_at (fun hm => h1 (List.mem_cons_of_mem _ hm)) (fun hm => h2 (List.mem_cons_of_mem _ hm)) h.2
    exact ⟨by rw [h.1, e1], e2⟩
theorem bytes_eqG {a b : ByteArray} (h : a.data.toList = b.data.toList) : a = b := by
  cases a; cases b
  simp at h
  rw [h]
theorem clRow_data (c : Cl) : (clRow c).key.data.toList = c.t.data.toList ++ 47 :: c.n.data.toList := by
  unfold clRow slash
  simp [ByteArray.data_append]
theorem coRow_data (a : Co) : (coRow a).key.data.toList = a.t.data.toList ++ 47 :: (a.u.data.toList ++ 47 :: a.n.data.toList) := by
  unfold coRow slash
  simp [ByteArray.data_append]
theorem keyR_eqG {a b : Rw} (h : keyR a = keyR b) : a.key.data.toList = b.key.data.toList := by
  unfold keyR at h
  rw [(str_eq _ _).2 h]
theorem mOfG_keys {s : GS} (ok : s.Ok) : ∀ a ∈ mOfG s, ∀ b ∈ mOfG s, keyR a = keyR b → a = b := by
  have key : ∀ c ∈ s.cs, ∀ x ∈ s.al, (clRow c).key.data.toList = (coRow x).key.data.toList → False := fun c hc x hx h => by
    rw [clRow_data, coRow_data] at h
    obtain ⟨o1, o2, _⟩ := ok.names c hc
    obtain ⟨o3, _⟩ := ok.anames x hx
    obtain ⟨_, e2⟩ := split_at (okN_noG o1) (okN_noG o3) h
    exact okN_noG o2 (by rw [e2]; simp)
  intro a ha b hb h
  have h := keyR_eqG h
  unfold mOfG at ha hb
  rcases List.mem_append.1 ha with ha | ha <;> rcases List.mem_append.1 hb with hb | hb <;> obtain ⟨x, hx, rfl⟩ := List.mem_map.1 ha <;> obtain ⟨y, hy, rfl⟩ := List.mem_map.1 hb
  · rw [clRow_data, clRow_data] at h
    obtain ⟨e1, e2⟩ := split_at (okN_noG (ok.names x hx).1) (okN_noG (ok.names y hy).1) h
    rw [ok.c_inj hx hy (bytes_eqG e1) (bytes_eqG e2)]
  · exact (key x hx y hy h).elim
  · exact (key y hy x hx h.symm).elim
  · rw [coRow_data, coRow_data] at h
    obtain ⟨a1, a2, _⟩ := ok.anames x hx
    obtain ⟨b1, b2, _⟩ := ok.anames y hy
    obtain ⟨e1, e2⟩ := split_at (okN_noG a1) (okN_noG b1) h
    obtain ⟨e3, e4⟩ := split_at (okN_noG a2) (okN_noG b2) e2
    rw [ok.a_inj hx hy (bytes_eqG e1) (bytes_eqG e3) (bytes_eqG e4)]
theorem same_rowsG {s : GS} (ok : s.Ok) {m1 m2 : List Rw} (h1 : m1.Perm (mOfG s)) (h2 : m2.Perm (mOfG s)) (o1 : InOrder keyR m1) (o2 : InOrder keyR m2) : m1 = m2 :=
  uniq keyR (h1.trans h2.symm) o1 o2 fun a ha b hb h => mOfG_keys ok a (h1.subset ha) b (h1.subset hb) h
end Go.Proofs.YtlkbojgemcjilaaGreatDoor.Xr
