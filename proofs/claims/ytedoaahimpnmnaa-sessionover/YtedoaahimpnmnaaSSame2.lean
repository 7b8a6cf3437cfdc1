/- SameInts of the reference and sameSessions of the laws on rows that are not alike: each returns some Bool. -/
import Derived.Test.YtedoaahimpnmnaaSDoB
namespace Go.Proofs.Ytedoaahimpnmnaa
open Go.RowKit Go.Maps Go.Sort Go.Shelf
set_option linter.unusedVariables false
set_option maxRecDepth 20000

/-- two rows are alike -/
def likeB {α : Type} (f : α → α → Bool) : List α → List α → Bool
  | [], [] => true
  | x :: l, y :: r => f x y && likeB f l r
  | _, _ => false
theorem likeB_ne {α : Type} {f : α → α → Bool} {l r : List α} (h : l.length ≠ r.length) : likeB f l r = false := by
  induction l generalizing r with
  | nil =>
    cases r with
    | nil => exact absurd rfl h
    | cons y r => rfl
  | cons x l ih =>
    cases r with
    | nil => rfl
    | cons y r => simp only [likeB, ih (r := r) (fun e => h (by simp [e])), Bool.and_false]
theorem likeB_at {α : Type} {f : α → α → Bool} {l r : List α} (k : Nat) (hl : k < l.length) (hr : k < r.length) (h : f l[k] r[k] = false) : likeB f l r = false := by
  induction l generalizing r k with
  | nil => simp at hl
  | cons x l ih =>
    cases r with
    | nil => rfl
    | cons y r =>
      cases k with
      | zero =>
        have h' : f x y = false := h
        simp only [likeB, h', Bool.false_and]
      | succ k => simp only [likeB, ih k (by simpa using hl) (by simpa using hr) h, Bool.and_false]
theorem likeB_all {α : Type} {f : α → α → Bool} {l r : List α} (hn : l.length = r.length) (h : ∀ k (hl : k < l.length) (hr : k < r.length), f l[k] r[k] = true) : likeB f l r = true := by
  induction l generalizing r with
  | nil =>
    cases r with
    | nil => rfl
    | cons y r => simp at hn
  | cons x l ih =>
    cases r with
    | nil => simp at hn
    | cons y r =>
      have h0 : f x y = true := h 0 (by simp) (by simp)
      simp only [likeB, h0, Bool.true_and]
      exact ih (by simpa using hn) (fun k h1 h2 => h (k + 1) (by simpa using h1) (by simpa using h2))
def eqI (a b : Int) : Bool := a == b
def eqS (s t : Sess) : Bool := (s.id == t.id) && ((s.ten.toList == t.ten.toList) && ((s.usr.toList == t.usr.toList) && ((s.since == t.since) && (s.used == t.used))))

set_option maxHeartbeats 1600000 in
theorem sameInts_two {w : World} {a b : Option Addr} {zs ys : List Int} (ha : Ints w a zs) (hb : Ints w b ys) (c d : Nat) (hl : zs.length ≤ 1000000000) (hl2 : ys.length ≤ 1000000000) :
    Calls Try.prog 25 #[.slice a zs.length c, .slice b ys.length d] w fun e w' => e = .returned (.bool (likeB eqI zs ys)) ∧ Below w.heap.size w w' := by
  by_cases hne : zs.length = ys.length
  · have Ha := hid ha
    have Hb := hid hb
    have Hne := hid hne
    clear ha hb
    rw [← hne]
    generalize hN : zs.length = N at *
    have HN := hid hN
    clear hN hne hl2
    go_enter Try.func25, Try.ntmps25
    go_wp2
    go_loopw [5] (fun i wr => ∃ k : Nat, k ≤ N ∧ i = .int .i64 k ∧ Below w.heap.size w wr ∧ ∀ j (h1 : j < zs.length) (h2 : j < ys.length), j < k → eqI zs[j] ys[j] = true) (fun i _ => N - (intOf i).toNat)
    case atStart => exact ⟨0, Nat.zero_le _, rfl, Below.refl _ _, fun j _ _ h => by omega⟩
    case round =>
      obtain ⟨k, hk, rfl, hbl, hall⟩ := hrel
      have Hbl := hid hbl
      have Hall := hid hall
      clear hbl hall
      by_cases hlt : k < N
      · have k1 : k < zs.length := by rw [HN.out]; exact hlt
        have k2 : k < ys.length := by rw [← Hne.out]; exact hlt
        have HA : Hid (∀ j (h1 : j < zs.length) (h2 : j < ys.length), j < k + 1 → eqI zs[k] ys[k] = true → eqI zs[j] ys[j] = true) := fun j h1 h2 h3 h4 => by
          by_cases e : j = k
          · subst e; exact h4
          · exact Hall.out j h1 h2 (by omega)
        have HF : Hid (eqI zs[k] ys[k] = false → likeB eqI zs ys = false) := fun h => likeB_at k k1 k2 h
        obtain ⟨b1, o1, e1, c1⟩ := (Ha.out.below Hbl.out) k k1
        obtain ⟨b2, o2, e2, c2⟩ := (Hb.out.below Hbl.out) k k2
        cases e1
        cases e2
        clear Hall
        generalize zs[k] = z at *
        generalize ys[k] = y at *
        cases hzy : (z == y)
        · have hne' : (z != y) = true := by simp [bne, hzy]
          go_wp2
          go_region
          all_goals
            go_wp2
            go_ret
            exact ⟨by rw [HF.out hzy]; rfl, Hbl.out.trans (below_drewN _ _ 1)⟩
        · have hne' : (z != y) = false := by simp [bne, hzy]
          go_wp2
          go_region
          all_goals
            go_wp2
            go_roundw
            case rel => exact ⟨k + 1, by omega, by go_num, Hbl.out.trans (below_drewN _ _ 1), fun j h1 h2 h3 => HA.out j h1 h2 h3 hzy⟩
            case measure => simp [intOf]; omega
      · have e : k = N := by omega
        subst e
        have HT : Hid (likeB eqI zs ys = true) := likeB_all (by rw [HN.out]; exact Hne.out) (fun j h1 h2 => Hall.out j h1 h2 (by rw [← HN.out]; exact h1))
        go_wp2
        go_ret
        exact ⟨by rw [HT.out]; rfl, Hbl.out⟩
  · rw [likeB_ne hne]
    have g : ((zs.length : Int) == (ys.length : Int)) = false := by simp; omega
    have g' : ((zs.length : Int) != (ys.length : Int)) = true := by simp [bne, g]
    clear ha hb
    go_enter Try.func25, Try.ntmps25
    go_wp2
    go_ret
    exact ⟨rfl, Below.refl _ _⟩

set_option maxHeartbeats 6400000 in
theorem sameSess_two {w : World} {a b : Option Addr} {l l' : List Sess} (ha : SIn w a l) (hb : SIn w b l') (c d : Nat) (hl : l.length ≤ 1000000000) (hl2 : l'.length ≤ 1000000000) :
    Calls Try.prog 31 #[.slice a l.length c, .slice b l'.length d] w fun e w' => e = .returned (.bool (likeB eqS l l')) ∧ Below w.heap.size w w' := by
  by_cases hne : l.length = l'.length
  · have Ha := hid ha
    have Hb := hid hb
    have Hne := hid hne
    clear ha hb hl2
    rw [← hne]
    clear hne
    go_enter Try.func31, Try.ntmps31
    go_wp2
    go_loopw [5] (fun i wr => ∃ k : Nat, k ≤ l.length ∧ i = .int .i64 k ∧ Below w.heap.size w wr ∧ ∀ j (h1 : j < l.length) (h2 : j < l'.length), j < k → eqS l[j] l'[j] = true) (fun i _ => l.length - (intOf i).toNat)
    case atStart => exact ⟨0, Nat.zero_le _, rfl, Below.refl _ _, fun j _ _ h => by omega⟩
    case round =>
      obtain ⟨k, hk, rfl, hbl, hall⟩ := hrel
      have Hbl := hid hbl
      have Hall := hid hall
      clear hbl hall
      by_cases hlt : k < l.length
      · have Hg : Hid (l[k]? = some l[k]) := List.getElem?_eq_getElem hlt
        have k2 : k < l'.length := by rw [← Hne.out]; exact hlt
        have Hg' : Hid (l'[k]? = some l'[k]) := List.getElem?_eq_getElem k2
        have HA : Hid (∀ j (h1 : j < l.length) (h2 : j < l'.length), j < k + 1 → eqS l[k] l'[k] = true → eqS l[j] l'[j] = true) := fun j h1 h2 h3 h4 => by
          by_cases e : j = k
          · subst e; exact h4
          · exact Hall.out j h1 h2 (by omega)
        have HF : Hid (eqS l[k] l'[k] = false → likeB eqS l l' = false) := fun h => likeB_at k hlt k2 h
        clear Hall
        generalize l[k] = s at *
        generalize l'[k] = y at *
        obtain ⟨_, b1, o1, e1, c0, c1, c2, c3, c4⟩ := (Ha.out.below Hbl.out).at Hg.out
        obtain ⟨_, b2, o2, e2, d0, d1, d2, d3, d4⟩ := (Hb.out.below Hbl.out).at Hg'.out
        cases e1
        cases e2
        cases scmp s y
        all_goals
          go_wp2
          go_region
        all_goals go_wp2
        all_goals first
          | (go_ret; exact ⟨by rw [HF.out (by simp only [eqS, Bool.false_and, Bool.and_false, *])]; rfl, Hbl.out.trans (below_drewN _ _ 1)⟩)
          | (go_roundw
             case rel => exact ⟨k + 1, by omega, by go_num, Hbl.out.trans (below_drewN _ _ 1), fun j h1 h2 h3 => HA.out j h1 h2 h3 (by simp only [eqS, Bool.and_self, *])⟩
             case measure => simp [intOf]; omega)
      · have e : k = l.length := by omega
        subst e
        have HT : Hid (likeB eqS l l' = true) := likeB_all Hne.out (fun j h1 h2 => Hall.out j h1 h2 h1)
        go_wp2
        go_ret
        exact ⟨by rw [HT.out]; rfl, Hbl.out⟩
  · rw [likeB_ne hne]
    have g : ((l.length : Int) == (l'.length : Int)) = false := by simp; omega
    have g' : ((l.length : Int) != (l'.length : Int)) = true := by simp [bne, g]
    clear ha hb
    go_enter Try.func31, Try.ntmps31
    go_wp2
    go_ret
    exact ⟨rfl, Below.refl _ _⟩
end Go.Proofs.Ytedoaahimpnmnaa
