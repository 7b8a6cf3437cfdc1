/- SessionApart, walked. -/
import Derived.Test.YtedoaahimpnmnaaSLasts
import Derived.Test.YtedoaahimpnmnaaSEnd
namespace Go.Proofs.Ytedoaahimpnmnaa
open Go.RowKit Go.Maps Go.Sort Go.Shelf
set_option linter.unusedVariables false
set_option maxRecDepth 20000

def bV : ByteArray := ⟨#[118]⟩
theorem bU_bV : ¬ bV.toList = bU.toList := by rw [ByteArray.toList_eq, ByteArray.toList_eq]; decide
/-- a session's times -/
def keyS (s : Sess) : Int × Int := (s.since, s.used)
def overK (now : Int) (q : Int × Int) : Bool := decide (min (min (q.2 + 200) (q.1 + 1000)) 1099511627776 ≤ now)
/-- the times of a user's sessions -/
def ownKeys (l : List Sess) : List (Int × Int) := (l.filter (ownB bT bU)).map keyS
theorem live_count (l : List Sess) (now : Int) : (l.filter (liveB bT bU now)).length = ((ownKeys l).filter (fun q => !overK now q)).length := by
  unfold ownKeys
  rw [List.filter_map, List.length_map, List.filter_filter]
  congr 1
  refine List.filter_congr fun s _ => ?_
  show (ownB bT bU s && !overB s now) = ((!overB s now) && ownB bT bU s)
  exact Bool.and_comm _ _

/-- two tables that tell the same of a user -/
structure Ap (A C : Tab) (x : Int) (k : Nat) : Prop where
  keys : ownKeys A.l = ownKeys C.l
  na : A.noted ≤ x
  nc : C.noted ≤ x
  xa : A.next ≤ k + 1
  xc : C.next ≤ k + 1
  la : A.l.length ≤ k
  lc : C.l.length ≤ k
  ka : TabOk A
  kc : TabOk C
theorem ap_err {T : Tab} {u : ByteArray} {x : Int} (hu : nameB u.data.toList = true) (h0 : 0 ≤ x) (h1 : x ≤ 1099511627776) (h2 : T.noted ≤ x) (h3 : T.next ≤ 1099511627776) : tBeginErr T bT u x = if 3 ≤ (T.l.filter (liveB bT u x)).length then 22 else 0 := by
  unfold tBeginErr
  rw [if_neg (by rw [hu]; decide +kernel), if_neg (by rw [timeErr_zero h0 h1 h2]; simp), if_neg (by omega)]
theorem ap_later {A C : Tab} {x x' : Int} {k : Nat} (h : Ap A C x k) (hx : x ≤ x') : Ap A C x' (k + 1) :=
  ⟨h.keys, Int.le_trans h.na hx, Int.le_trans h.nc hx, by have := h.xa; omega, by have := h.xc; omega, by have := h.la; omega, by have := h.lc; omega, h.ka, h.kc⟩
theorem own_begun (T : Tab) (x : Int) : ownB bT bU (begun T bT bU x) = true := by unfold ownB begun; simp
theorem own_other (T : Tab) (x : Int) : ownB bT bU (begun T bT bV x) = false := by
  unfold ownB begun
  simp [bU_bV]
theorem ownKeys_snoc (l : List Sess) (s : Sess) : ownKeys (l ++ [s]) = ownKeys l ++ (if ownB bT bU s then [keyS s] else []) := by
  unfold ownKeys
  rw [List.filter_append, List.map_append]
  congr 1
  by_cases h : ownB bT bU s = true <;> simp [h]
/-- the other user's session -/
theorem ap_other {A C : Tab} {x x' : Int} {k : Nat} (h : Ap A C x k) (hx : x ≤ x') (h0 : 0 ≤ x') (h1 : x' ≤ 1099511627776) (hk : k ≤ 1000) : Ap (tBegin A bT bV x').1 C x' (k + 1) := by
  have g := ap_later h hx
  have okA := tBegin_ok h.ka bT bV x'
  by_cases e : tBeginErr A bT bV x' = 0
  · have e2 : tBegin A bT bV x' = (⟨A.next + 1, x', A.l ++ [begun A bT bV x']⟩, begun A bT bV x', 0) := by unfold tBegin; rw [if_neg (by simp [e])]
    rw [e2] at okA ⊢
    refine ⟨?_, Int.le_refl _, g.nc, ?_, g.xc, ?_, g.lc, okA, g.kc⟩
    · show ownKeys (A.l ++ [begun A bT bV x']) = _
      rw [ownKeys_snoc, own_other, h.keys]
      simp
    · have := h.xa
      show A.next + 1 ≤ _
      omega
    · have := h.la
      show (A.l ++ [begun A bT bV x']).length ≤ _
      rw [List.length_append]
      simp
      omega
  · have e2 : tBegin A bT bV x' = (A, sess0, tBeginErr A bT bV x') := by unfold tBegin; rw [if_pos (by simpa using e)]
    rw [e2]
    exact g
/-- the user's own, in both -/
theorem ap_both {A C : Tab} {x x' : Int} {k : Nat} (h : Ap A C x k) (hx : x ≤ x') (h0 : 0 ≤ x') (h1 : x' ≤ 1099511627776) (hk : k ≤ 1000) :
    Ap (tBegin A bT bU x').1 (tBegin C bT bU x').1 x' (k + 1) ∧ (((tBegin A bT bU x').2 = (begun A bT bU x', 0) ∧ (tBegin C bT bU x').2 = (begun C bT bU x', 0)) ∨ ((tBegin A bT bU x').2 = (sess0, 22) ∧ (tBegin C bT bU x').2 = (sess0, 22))) := by
  have g := ap_later h hx
  have okA := tBegin_ok h.ka bT bU x'
  have okC := tBegin_ok h.kc bT bU x'
  have hn : nameB bU.data.toList = true := by decide +kernel
  have eA := ap_err (T := A) hn h0 h1 (Int.le_trans h.na hx) (by have := h.xa; omega)
  have eC := ap_err (T := C) hn h0 h1 (Int.le_trans h.nc hx) (by have := h.xc; omega)
  rw [live_count, h.keys] at eA
  rw [live_count] at eC
  by_cases c : 3 ≤ ((ownKeys C.l).filter (fun q => !overK x' q)).length
  · rw [if_pos c] at eA eC
    have e2 : tBegin A bT bU x' = (A, sess0, 22) := by unfold tBegin; rw [if_pos (by rw [eA]; decide), eA]
    have e3 : tBegin C bT bU x' = (C, sess0, 22) := by unfold tBegin; rw [if_pos (by rw [eC]; decide), eC]
    rw [e2, e3]
    exact ⟨g, .inr ⟨rfl, rfl⟩⟩
  · rw [if_neg c] at eA eC
    have e2 : tBegin A bT bU x' = (⟨A.next + 1, x', A.l ++ [begun A bT bU x']⟩, begun A bT bU x', 0) := by unfold tBegin; rw [if_neg (by rw [eA]; decide)]
    have e3 : tBegin C bT bU x' = (⟨C.next + 1, x', C.l ++ [begun C bT bU x']⟩, begun C bT bU x', 0) := by unfold tBegin; rw [if_neg (by rw [eC]; decide)]
    rw [e2] at okA ⊢
    rw [e3] at okC ⊢
    refine ⟨⟨?_, Int.le_refl _, Int.le_refl _, ?_, ?_, ?_, ?_, okA, okC⟩, .inl ⟨rfl, rfl⟩⟩
    · show ownKeys (A.l ++ [begun A bT bU x']) = ownKeys (C.l ++ [begun C bT bU x'])
      rw [ownKeys_snoc, ownKeys_snoc, own_begun, own_begun, h.keys]
      rfl
    · have := h.xa
      show A.next + 1 ≤ _
      omega
    · have := h.xc
      show C.next + 1 ≤ _
      omega
    · have := h.la
      show (A.l ++ [begun A bT bU x']).length ≤ _
      rw [List.length_append]
      simp
      omega
    · have := h.lc
      show (C.l ++ [begun C bT bU x']).length ≤ _
      rw [List.length_append]
      simp
      omega
theorem ap_live {A C : Tab} {x : Int} {k : Nat} (h : Ap A C x k) (h0 : 0 ≤ x) (h1 : x ≤ 1099511627776) : timeErr x A.noted = 0 ∧ timeErr x C.noted = 0 ∧ (tLive A bT bU x).length = (tLive C bT bU x).length := by
  have e1 := timeErr_zero h0 h1 h.na
  have e2 := timeErr_zero h0 h1 h.nc
  refine ⟨e1, e2, ?_⟩
  unfold tLive
  rw [if_neg (by simp [e1]), if_neg (by simp [e2]), live_count, live_count, h.keys]
theorem tab0_ap : Ap tab0 tab0 0 0 := ⟨rfl, by decide, by decide, by decide, by decide, by decide, by decide, tab0_ok, tab0_ok⟩

/-- what a round of the law finds -/
def ARel (w : World) (g pa ma pc mc : Nat) (k : Nat) (x : Int) (wr : World) : Prop :=
  ∃ A C nA nC, nA ≤ k ∧ nC ≤ k ∧ TabAt wr w.heap.size pa ma nA A ∧ TabAt wr w.heap.size pc mc nC C ∧ Ap A C x k ∧ Below w.heap.size w wr ∧ g + 1 < wr.heap.size ∧
    wr.cell? ⟨g, 0, none⟩ = some (.string bT) ∧ wr.cell? ⟨g, 1, none⟩ = some (.string bU) ∧ wr.cell? ⟨g + 1, 0, none⟩ = some (.string bT) ∧ wr.cell? ⟨g + 1, 1, none⟩ = some (.string bV)
end Go.Proofs.Ytedoaahimpnmnaa
