/- YtlkbojgemcjilaaGreatDoorGLd5 + YtlkbojgemcjilaaGreatDoorGLd6 -/
import Derived.Test.YtlkbojgemcjilaaGreatDoorGRL1
/- Load of grants: both load the same store, whose rows are those handed in. -/
namespace Go.Proofs.YtlkbojgemcjilaaGreatDoor.Xr
open Go.RowKit Go.Maps
set_option linter.unusedVariables false
set_option maxRecDepth 20000
/-- a row of a client, of a consent, or of none -/
theorem clOf_some {r : Rw} {c : Cl} (h : clOf r = some c) : namesG r.key = [c.t, c.n] ∧ r.cols = [c.r, txtJ c.sc] ∧ c.sc ≤ 255 := by
  unfold clOf at h
  split at h
  · rename_i t n rd tx e1 e2
    rw [Option.map_eq_some_iff] at h
    obtain ⟨N, h1, rfl⟩ := h
    obtain ⟨h2, h3⟩ := sc8_some h1
    rw [e1, e2, h2]
    exact ⟨rfl, rfl, h3⟩
  · cases h
theorem coOf_some {r : Rw} {a : Co} (h : coOf r = some a) : namesG r.key = [a.t, a.u, a.n] ∧ r.cols = [txtJ a.sc] ∧ a.sc ≤ 255 := by
  unfold coOf at h
  split at h
  · rename_i t u n tx e1 e2
    rw [Option.map_eq_some_iff] at h
    obtain ⟨N, h1, rfl⟩ := h
    obtain ⟨h2, h3⟩ := sc8_some h1
    rw [e1, e2, h2]
    exact ⟨rfl, rfl, h3⟩
  · cases h
theorem slash_eq : slash = (⟨#[47]⟩ : ByteArray) := rfl
theorem clOf_row {r : Rw} {c : Cl} (h : clOf r = some c) : r = clRow c := by
  obtain ⟨h1, h2, _⟩ := clOf_some h
  obtain ⟨q1, q2⟩ := names2 h1
  obtain ⟨q3, _⟩ := cut_some q1
  cases r
  unfold clRow
  dsimp only at h2 q3 ⊢
  rw [h2, q3]
  rfl
theorem coOf_row {r : Rw} {a : Co} (h : coOf r = some a) : r = coRow a := by
  obtain ⟨h1, h2, _⟩ := coOf_some h
  obtain ⟨rr, q1, q2, q3⟩ := names3 h1
  obtain ⟨q4, _⟩ := cut_some q1
  obtain ⟨q5, _⟩ := cut_some q2
  cases r
  unfold coRow
  dsimp only at h2 q4 q5 ⊢
  rw [h2, q4, q5, slash_eq, ← ByteArray.append_assoc, ← ByteArray.append_assoc]
/-- what a row's check tells of a client's row, and of a consent's -/
theorem sc8_iff {tx : ByteArray} {n : Nat} : sc8 tx = some n ↔ (toNum tx.data.toList).2 = 0 ∧ (toNum tx.data.toList).1 = n ∧ n ≤ 255 := by
  unfold sc8 numR
  constructor
  · intro h
    split at h
    · rename_i h1
      have := Option.some.inj h
      exact ⟨h1.1, this, by omega⟩
    · cases h
  · rintro ⟨h1, rfl, h3⟩
    rw [if_pos ⟨h1, Nat.zero_le _, h3⟩]
theorem chk_of {r : Rw} {t rest : ByteArray} {N : Nat} (h1 : cutS r.key = some (t, rest)) (h2 : r.cols.length ≠ 0) (h3 : sc8 (lastC r.cols) = some N) : chk r = some (t, cutP rest, (cutS rest).isSome, N) := by
  obtain ⟨q1, q2, q3⟩ := sc8_iff.1 h3
  unfold chk
  rw [h1, Option.bind_some, if_pos ⟨h2, q1, by omega⟩, q2]
theorem chk_some {r : Rw} {x : ByteArray × (ByteArray × ByteArray) × Bool × Nat} (h : chk r = some x) : ∃ rest, cutS r.key = some (x.1, rest) ∧ r.cols.length ≠ 0 ∧ sc8 (lastC r.cols) = some x.2.2.2 ∧ x.2.1 = cutP rest ∧ x.2.2.1 = (cutS rest).isSome := by
  unfold chk at h
  rw [Option.bind_eq_some_iff] at h
  obtain ⟨p, h1, h2⟩ := h
  split at h2
  · rename_i h3
    have := Option.some.inj h2
    subst this
    exact ⟨p.2, h1, h3.1, sc8_iff.2 ⟨h3.2.1, rfl, h3.2.2⟩, rfl, rfl⟩
  · cases h2
theorem clOf_chk {r : Rw} {c : Cl} (h : clOf r = some c) : chk r = some (c.t, (c.n, ⟨#[]⟩), false, c.sc) ∧ r.cols.length = 2 ∧ r.cols.headD ⟨#[]⟩ = c.r := by
  obtain ⟨h1, h2, h3⟩ := clOf_some h
  obtain ⟨q1, q2⟩ := names2 h1
  have hs : sc8 (lastC r.cols) = some c.sc := by
    rw [h2]
    exact numR_numT c.sc 0 255 (by omega) (Nat.zero_le _) h3
  have h4 := chk_of q1 (by rw [h2]; simp) hs
  have h5 : cutP c.n = (c.n, ⟨#[]⟩) := by unfold cutP; rw [q2]; rfl
  rw [h5, q2] at h4
  exact ⟨h4, by rw [h2]; rfl, by rw [h2]; rfl⟩
theorem coOf_chk {r : Rw} {a : Co} (h : coOf r = some a) : chk r = some (a.t, (a.u, a.n), true, a.sc) ∧ r.cols.length = 1 := by
  obtain ⟨h1, h2, h3⟩ := coOf_some h
  obtain ⟨rr, q1, q2, q3⟩ := names3 h1
  have hs : sc8 (lastC r.cols) = some a.sc := by
    rw [h2]
    exact numR_numT a.sc 0 255 (by omega) (Nat.zero_le _) h3
  have h4 := chk_of q1 (by rw [h2]; simp) hs
  have h5 : cutP rr = (a.u, a.n) := by unfold cutP; rw [q2]; rfl
  rw [h5, q2] at h4
  exact ⟨h4, by rw [h2]; rfl⟩
/-- one row, both ways, turn by turn -/
theorem takeC_rT0 {s s' : GS} {r : Rw} (h : (clOf r).isSome = true ∨ (coOf r).isSome = true) : takeC s r = rT0 s r := by
  rcases h with h | h
  · obtain ⟨c, hc⟩ := Option.isSome_iff_exists.1 h
    obtain ⟨h1, h2, h3⟩ := clOf_chk hc
    obtain ⟨q1, _⟩ := clOf_some hc
    have e0 : takeC s r = if regEs s c = 0 then some (s.reg c) else none := by
      unfold takeC
      rw [if_neg (by rw [q1]; simp), hc]
      rfl
    have e1 : rT0 s r = if r.cols.length = 2 ∧ regEs s c = 0 then some (s.reg c) else none := by
      unfold rT0
      rw [h1, Option.bind_some, if_neg (show ¬ (false = true) by decide), h3]
    rw [e0, e1]
    by_cases hr : regEs s c = 0
    · rw [if_pos hr, if_pos ⟨h2, hr⟩]
    · rw [if_neg hr, if_neg (fun h => hr h.2)]
  · obtain ⟨a, ha⟩ := Option.isSome_iff_exists.1 h
    obtain ⟨h1, h2⟩ := coOf_chk ha
    obtain ⟨q1, _⟩ := coOf_some ha
    unfold takeC rT0
    rw [if_pos (by rw [q1]; rfl), h1, Option.bind_some]
    rfl
theorem takeA_rT1 {s : GS} {r : Rw} (h : (clOf r).isSome = true ∨ (coOf r).isSome = true) : takeA s r = rT1 s r := by
  rcases h with h | h
  · obtain ⟨c, hc⟩ := Option.isSome_iff_exists.1 h
    obtain ⟨h1, h2, h3⟩ := clOf_chk hc
    obtain ⟨q1, _⟩ := clOf_some hc
    unfold takeA rT1
    rw [if_pos (by rw [q1]; rfl), h1, Option.bind_some]
    rfl
  · obtain ⟨a, ha⟩ := Option.isSome_iff_exists.1 h
    obtain ⟨h1, h2⟩ := coOf_chk ha
    obtain ⟨q1, _⟩ := coOf_some ha
    have e0 : takeA s r = if allEs s a = 0 then some (s.alw a) else none := by
      unfold takeA
      rw [if_neg (by rw [q1]; simp), ha]
      rfl
    have e1 : rT1 s r = if r.cols.length = 1 ∧ allEs s a = 0 then some (s.alw a) else none := by
      unfold rT1
      rw [h1, Option.bind_some, if_pos (show true = true from rfl)]
    rw [e0, e1]
    by_cases hr : allEs s a = 0
    · rw [if_pos hr, if_pos ⟨h2, hr⟩]
    · rw [if_neg hr, if_neg (fun h => hr h.2)]
theorem foldO_cong {f g : GS → Rw → Option GS} : ∀ {m : List Rw}, (∀ r ∈ m, ∀ s, f s r = g s r) → ∀ s, foldO f s m = foldO g s m
  | [], _, _ => rfl
  | r :: m, h, s => by
    simp only [foldO]
    rw [h r List.mem_cons_self s]
    cases g s r with
    | none => rfl
    | some s' => exact foldO_cong (fun r hr => h r (List.mem_cons_of_mem _ hr)) s'
theorem foldO_mem {f : GS → Rw → Option GS} : ∀ {m : List Rw} {s s' : GS}, foldO f s m = some s' → ∀ r ∈ m, ∃ s1 s2, f s1 r = some s2
  | x :: m, s, s', h, r, hr => by
    simp only [foldO] at h
    rw [Option.bind_eq_some_iff] at h
    obtain ⟨s1, h1, h2⟩ := h
    rcases List.mem_cons.1 hr with rfl | hr
    · exact ⟨s, s1, h1⟩
    · exact foldO_mem h2 r hr
/-- rows that are all of a client or of a consent -/
def FineG (m : List Rw) : Prop := ∀ r ∈ m, (clOf r).isSome = true ∨ (coOf r).isSome = true
theorem fine_same {m : List Rw} (h : FineG m) : loadP m = loadR m := by
  unfold loadP loadR
  split
  · rw [foldO_cong (fun r hr s => takeC_rT0 (s' := s) (h r hr)) s0U]
    cases foldO rT0 s0U m with
    | none => rfl
    | some s => exact foldO_cong (fun r hr s => takeA_rT1 (h r hr)) s
  · rfl
theorem fineP {m : List Rw} {s : GS} (h : loadP m = some s) : FineG m := fun r hr => by
  unfold loadP at h
  split at h
  · rw [Option.bind_eq_some_iff] at h
    obtain ⟨s1, h1, h2⟩ := h
    obtain ⟨a, b, e1⟩ := foldO_mem h1 r hr
    obtain ⟨a', b', e2⟩ := foldO_mem h2 r hr
    unfold takeC at e1
    unfold takeA at e2
    split at e1
    · rename_i h3
      rw [if_neg (by omega), Option.bind_eq_some_iff] at e2
      obtain ⟨x, hx, _⟩ := e2
      exact .inr (by rw [hx]; rfl)
    · rw [Option.bind_eq_some_iff] at e1
      obtain ⟨x, hx, _⟩ := e1
      exact .inl (by rw [hx]; rfl)
  · cases h
theorem foldO_keep {P : GS → Prop} {f : GS → Rw → Option GS} (hf : ∀ s r s', P s → f s r = some s' → P s') : ∀ {m : List Rw} {s s' : GS}, P s → foldO f s m = some s' → P s'
  | [], s, s', hp, h => by cases h; exact hp
  | x :: m, s, s', hp, h => by
    simp only [foldO] at h
    rw [Option.bind_eq_some_iff] at h
    obtain ⟨s1, h1, h2⟩ := h
    exact foldO_keep hf (hf s x s1 hp h1) h2
theorem foldO_inv {P : GS → Prop} {f : GS → Rw → Option GS} (hf : ∀ s r s', P s → f s r = some s' → P s') : ∀ {m : List Rw} {s s' : GS}, P s → foldO f s m = some s' → ∀ r ∈ m, ∃ s1 s2, P s1 ∧ f s1 r = some s2
  | x :: m, s, s', hp, h, r, hr => by
    simp only [foldO] at h
    rw [Option.bind_eq_some_iff] at h
    obtain ⟨s1, h1, h2⟩ := h
    rcases List.mem_cons.1 hr with rfl | hr
    · exact ⟨s, s1, hp, h1⟩
    · exact foldO_inv hf (hf s x s1 hp h1) h2 r hr
def NamesOk (s : GS) : Prop := ∀ c ∈ s.cs, okN c.n = true
theorem names_reg {s : GS} (h : NamesOk s) (c : Cl) : NamesOk (s.reg c) := by
  unfold GS.reg
  split
  · rename_i e
    intro x hx
    rcases List.mem_append.1 hx with hx | hx
    · exact h x hx
    · obtain rfl := List.mem_singleton.1 hx
      exact (regEs_zero e).2.1
  · exact h
theorem names_alw {s : GS} (h : NamesOk s) (a : Co) : NamesOk (s.alw a) := by
  unfold GS.alw
  split
  · exact h
  · exact h
theorem namesT0 : ∀ (s : GS) (r : Rw) (s' : GS), NamesOk s → rT0 s r = some s' → NamesOk s' := fun s r s' h e => by
  unfold rT0 at e
  rw [Option.bind_eq_some_iff] at e
  obtain ⟨x, _, e⟩ := e
  split at e
  · cases e; exact h
  · split at e
    · cases e; exact names_reg h _
    · cases e
theorem namesT1 : ∀ (s : GS) (r : Rw) (s' : GS), NamesOk s → rT1 s r = some s' → NamesOk s' := fun s r s' h e => by
  unfold rT1 at e
  rw [Option.bind_eq_some_iff] at e
  obtain ⟨x, _, e⟩ := e
  split at e
  · split at e
    · cases e; exact names_alw h _
    · cases e
  · cases e; exact h
theorem cut_of_no {s : ByteArray} (h : (47 : UInt8) ∉ s.data.toList) : cutS s = none := by
  unfold cutS
  rw [Option.map_eq_none_iff, List.findIdx?_eq_none_iff]
  intro x hx
  rw [beq_eq_false_iff_ne]
  exact fun e => h (e ▸ hx)
/-- a store whose clients' names are names has no client with a slash in its name -/
theorem fineR {m : List Rw} {s : GS} (h : loadR m = some s) : FineG m := fun r hr => by
  unfold loadR at h
  split at h
  · rw [Option.bind_eq_some_iff] at h
    obtain ⟨s1, h1, h2⟩ := h
    obtain ⟨a, b, e1⟩ := foldO_mem h1 r hr
    obtain ⟨a', b', hP, e2⟩ := foldO_inv (P := NamesOk) namesT1 (foldO_keep (P := NamesOk) namesT0 (show NamesOk s0U from fun c (hc : c ∈ ([] : List Cl)) => nomatch hc) h1) h2 r hr
    unfold rT0 at e1
    unfold rT1 at e2
    rw [Option.bind_eq_some_iff] at e1 e2
    obtain ⟨x, hx, e1⟩ := e1
    obtain ⟨x', hx', e2⟩ := e2
    rw [hx] at hx'
    obtain rfl := Option.some.inj hx'
    obtain ⟨rest, c1, c2, c3, c4, c5⟩ := chk_some hx
    by_cases hm : x.2.2.1 = true
    · rw [if_pos hm] at e2
      split at e2
      · rename_i h3
        obtain ⟨l1, l2⟩ := h3
        obtain ⟨z1, z2, c, z3, z4⟩ := allEs_zero l2
        obtain ⟨y1, y2, y3⟩ := findC_some z3
        dsimp only at y3
        have hno : cutS x.2.1.2 = none := cut_of_no (by rw [← y3]; exact okN_noG (hP c y1))
        right
        obtain ⟨p, hp⟩ : ∃ p, cutS rest = some p := by
          cases hc : cutS rest with
          | none => rw [c5, hc] at hm; exact absurd hm (by decide)
          | some p => exact ⟨p, rfl⟩
        have hcp : cutP rest = p := by unfold cutP; rw [hp]; rfl
        rw [c4, hcp] at hno
        obtain ⟨tx, e3⟩ : ∃ tx, r.cols = [tx] := by
          match hn : r.cols with
          | [] => rw [hn] at l1; simp at l1
          | [t] => exact ⟨t, rfl⟩
          | _ :: _ :: _ => rw [hn] at l1; simp at l1
        rw [e3] at c3
        have c3' : sc8 tx = some x.2.2.2 := c3
        unfold coOf
        rw [names_of3 c1 hp hno, e3]
        show ((sc8 tx).map fun N => (⟨x.1, p.1, p.2, N⟩ : Co)).isSome = true
        rw [c3']
        rfl
      · cases e2
    · rw [if_neg hm] at e1
      split at e1
      · rename_i h3
        obtain ⟨l1, l2⟩ := h3
        left
        have hn : cutS rest = none := by
          cases hc : cutS rest with
          | none => rfl
          | some p => rw [c5, hc] at hm; exact absurd rfl hm
        obtain ⟨rd, tx, e2⟩ : ∃ rd tx, r.cols = [rd, tx] := by
          match hn : r.cols with
          | [] => rw [hn] at l1; simp at l1
          | [_] => rw [hn] at l1; simp at l1
          | [t, n] => exact ⟨t, n, rfl⟩
          | _ :: _ :: _ :: _ => rw [hn] at l1; simp at l1
        rw [e2] at c3
        have c3' : sc8 tx = some x.2.2.2 := c3
        unfold clOf
        rw [names_of2 c1 hn, e2]
        show ((sc8 tx).map fun N => (⟨x.1, rest, rd, N⟩ : Cl)).isSome = true
        rw [c3']
        rfl
      · cases e1
  · cases h
/-- both load alike -/
theorem load_same (m : List Rw) : loadR m = loadP m := by
  cases h : loadP m with
  | some s => rw [← fine_same (fineP h), h]
  | none =>
    cases h2 : loadR m with
    | none => rfl
    | some s =>
      rw [← fine_same (fineR h2), h] at h2
      cases h2
end Go.Proofs.YtlkbojgemcjilaaGreatDoor.Xr

/- Load of grants: the rows of a store that was loaded are those handed in. -/
namespace Go.Proofs.YtlkbojgemcjilaaGreatDoor.Xr
open Go.RowKit Go.Maps
set_option linter.unusedVariables false
set_option maxRecDepth 20000
theorem cl_not_co {r : Rw} {c : Cl} (h : clOf r = some c) : coOf r = none := by
  obtain ⟨h1, _⟩ := clOf_some h
  exact coOf_none (by rw [h1]; simp)
theorem co_not_cl {r : Rw} {a : Co} (h : coOf r = some a) : clOf r = none := by
  obtain ⟨h1, _⟩ := coOf_some h
  exact clOf_none (by rw [h1]; simp)
theorem foldC_is : ∀ {m : List Rw} {s s' : GS}, FineG m → foldO takeC s m = some s' → s'.cs = s.cs ++ m.filterMap clOf ∧ s'.al = s.al
  | [], s, s', _, h => by cases h; simp
  | r :: m, s, s', hf, h => by
    simp only [foldO] at h
    rw [Option.bind_eq_some_iff] at h
    obtain ⟨s1, h1, h2⟩ := h
    obtain ⟨e1, e2⟩ := foldC_is (fun x hx => hf x (List.mem_cons_of_mem _ hx)) h2
    rw [e1, e2]
    unfold takeC at h1
    split at h1
    · rename_i h3
      cases h1
      have hc : clOf r = none := clOf_none (by omega)
      rw [List.filterMap_cons, hc]
      exact ⟨rfl, rfl⟩
    · rw [Option.bind_eq_some_iff] at h1
      obtain ⟨c, hc, h1⟩ := h1
      split at h1
      · rename_i h4
        cases h1
        rw [List.filterMap_cons, hc]
        unfold GS.reg
        rw [if_pos h4]
        exact ⟨by show (s.cs ++ [c]) ++ _ = _; rw [List.append_assoc]; rfl, rfl⟩
      · cases h1
theorem foldA_is : ∀ {m pre : List Rw} {s s' : GS}, Rise (pre ++ m) → FineG m → s.al = pre.filterMap coOf → foldO takeA s m = some s' → s'.cs = s.cs ∧ s'.al = (pre ++ m).filterMap coOf
  | [], pre, s, s', _, _, hp, h => by cases h; simp [hp]
  | r :: m, pre, s, s', hr, hf, hp, h => by
    simp only [foldO] at h
    rw [Option.bind_eq_some_iff] at h
    obtain ⟨s1, h1, h2⟩ := h
    have hr' : Rise ((pre ++ [r]) ++ m) := by rw [List.append_assoc]; exact hr
    have key : s1.cs = s.cs ∧ s1.al = (pre ++ [r]).filterMap coOf := by
      unfold takeA at h1
      split at h1
      · rename_i h3
        cases h1
        have hc : coOf r = none := coOf_none (by omega)
        rw [List.filterMap_append, ← hp]
        exact ⟨rfl, by rw [List.filterMap_cons, hc]; simp⟩
      · rw [Option.bind_eq_some_iff] at h1
        obtain ⟨a, ha, h1⟩ := h1
        split at h1
        · rename_i h4
          cases h1
          unfold GS.alw
          rw [if_pos h4]
          refine ⟨rfl, ?_⟩
          show s.al.filter (fun x => !isA a.t a.u a.n x) ++ [a] = _
          have hall : s.al.filter (fun x => !isA a.t a.u a.n x) = s.al := by
            rw [List.filter_eq_self]
            intro x hx
            cases hxa : isA a.t a.u a.n x with
            | false => rfl
            | true =>
              rw [hp, List.mem_filterMap] at hx
              obtain ⟨y, hy, hxy⟩ := hx
              obtain ⟨q1, q2, q3⟩ := isA_iff.1 hxa
              have e1 := coOf_row hxy
              have e2 := coOf_row ha
              have hlt := (List.pairwise_append.1 hr).2.2 y hy r List.mem_cons_self
              have e3 : y.key = r.key := by
                rw [e1, e2]
                unfold coRow
                dsimp only
                rw [q1, q2, q3]
              rw [e3] at hlt
              exact absurd hlt (List.lt_irrefl _)
          rw [hall, List.filterMap_append, ← hp, List.filterMap_cons, ha]
          rfl
        · cases h1
    obtain ⟨e1, e2⟩ := foldA_is hr' (fun x hx => hf x (List.mem_cons_of_mem _ hx)) key.2 h2
    rw [e1, key.1, e2, List.append_assoc]
    exact ⟨rfl, rfl⟩
theorem fine_perm : ∀ {m : List Rw}, FineG m → m.Perm ((m.filterMap clOf).map clRow ++ (m.filterMap coOf).map coRow)
  | [], _ => List.Perm.refl _
  | r :: m, hf => by
    have ih := fine_perm (m := m) (fun x hx => hf x (List.mem_cons_of_mem _ hx))
    rcases hf r List.mem_cons_self with h | h
    · obtain ⟨c, hc⟩ := Option.isSome_iff_exists.1 h
      rw [List.filterMap_cons, List.filterMap_cons, hc, cl_not_co hc]
      dsimp only
      rw [List.map_cons, List.cons_append, ← clOf_row hc]
      exact ih.cons r
    · obtain ⟨a, ha⟩ := Option.isSome_iff_exists.1 h
      rw [List.filterMap_cons, List.filterMap_cons, ha, co_not_cl ha]
      dsimp only
      rw [List.map_cons, ← coOf_row ha]
      exact (ih.cons r).trans List.perm_middle.symm
theorem load_rows {m : List Rw} {s : GS} (h : loadP m = some s) : m.Perm (mOfG s) ∧ Rise m ∧ s.al.length ≤ m.length ∧ FewT s := by
  have hf := fineP h
  unfold loadP at h
  split at h
  · rename_i hr
    rw [Option.bind_eq_some_iff] at h
    obtain ⟨s1, h1, h2⟩ := h
    have hR := (riseB_iff m).1 hr
    obtain ⟨e1, e2⟩ := foldC_is hf h1
    obtain ⟨e3, e4⟩ := foldA_is (pre := []) hR hf (by rw [e2]; rfl) h2
    refine ⟨?_, hR, ?_, ?_⟩
    · unfold mOfG
      rw [e3, e1, e4]
      exact fine_perm hf
    · rw [e4]
      exact List.length_filterMap_le _ _
    · exact foldO_keep (P := FewT) (fun s r s' h e => few_takeA h e) (foldO_keep (P := FewT) (fun s r s' h e => few_takeC h e) few0 h1) h2
  · cases h
theorem rise_order {m : List Rw} (h : Rise m) : InOrder keyR m := h.imp fun {a b} hab => List.lt_asymm hab
/-- the rows of a store, in order, are those that it was loaded of -/
theorem load_rows_same {m m1 : List Rw} {s : GS} (h : loadP m = some s) (ok : s.Ok) (hp : m1.Perm (mOfG s)) (ho : InOrder keyR m1) : m1 = m := by
  obtain ⟨q1, q2, _⟩ := load_rows h
  exact same_rowsG ok hp q1 ho (rise_order q2)
end Go.Proofs.YtlkbojgemcjilaaGreatDoor.Xr
