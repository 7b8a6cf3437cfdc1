/- Numbered things, at sessions: how they lie in memory; Full, Give, Find, NewNumbered, each by a contract. -/
import Derived.Test.YtcchlcbonfdhpaaDoorSTime
namespace Go.Proofs.YtcchlcbonfdhpaaDoor
open Go.RowKit Go.Maps
set_option linter.unusedVariables false

theorem intKeyed : Keyed Tryd.prog 3 := int_keyed Tryd.underlying3
theorem sessZero (w : World) : (zeroValue 42).run Tryd.prog w = .ok (sessV sess0) w := by kernel_rfl
theorem zkey {x : Int} (h1 : -9223372036854775808 ≤ x) (h2 : x < 9223372036854775808) : keyOf Tryd.prog 3 (.int .i64 x) = some (zk x) := keyOf_int_mk Tryd.underlying3 (WalkArith.wf_i64 (by omega))

/-- a map of sessions -/
abbrev SMap (w : World) (mb n : Nat) (l : List Sess) : Prop := NMap Tryd.prog 3 sessR Sess.id w mb n l

/-- numbered sessions, in two cells of a block -/
structure NumAt (w : World) (p o mb n : Nat) (next : Int) (l : List Sess) : Prop where
  c0 : w.cell? ⟨p, o, none⟩ = some (.int .i64 next)
  c1 : w.cell? ⟨p, o + 1, none⟩ = some (.map (some mb))
  z : ∀ j, w.frozen? ⟨p, j, none⟩ = false
  map : SMap w mb n l
theorem NumAt.keep {w w' : World} {p o mb n : Nat} {next : Int} {l : List Sess} (h : NumAt w p o mb n next l) (hp : w'.heap[p]? = w.heap[p]?) (hm : w'.heap[mb]? = w.heap[mb]?) : NumAt w' p o mb n next l :=
  ⟨(World.cell?_of_block (a := ⟨p, o, none⟩) hp).trans h.c0, (World.cell?_of_block (a := ⟨p, o + 1, none⟩) hp).trans h.c1, fun j => (World.frozen?_of_block (a := ⟨p, j, none⟩) hp).trans (h.z j), h.map.keep hm⟩
theorem NumAt.lts {w : World} {p o mb n : Nat} {next : Int} {l : List Sess} (h : NumAt w p o mb n next l) : p < w.heap.size ∧ mb < w.heap.size := ⟨World.block_lt_of_cell? _ _ h.c0, h.map.lt⟩
theorem NumAt.below {w w' : World} {p o mb n : Nat} {next : Int} {l : List Sess} (h : NumAt w p o mb n next l) (hb : Below w.heap.size w w') : NumAt w' p o mb n next l :=
  h.keep (hb.block p h.lts.1) (hb.block mb h.lts.2)

set_option maxHeartbeats 400000 in
theorem full_any {w : World} {p o mb n : Nat} {next : Int} {l : List Sess} (h : NumAt w p o mb n next l) :
    Calls Tryd.prog 60 #[.pointer (some ⟨p, o, none⟩)] w fun e w' => e = .returned (.bool (decide (1099511627777 ≤ next))) ∧ w' = w := by
  have c0 := h.c0
  clear h
  go_enter Tryd.func60, Tryd.ntmps60
  go_wp2
  go_ret
  exact ⟨rfl, rfl⟩

set_option maxHeartbeats 400000 in
theorem give_any {w : World} {p o mb n : Nat} {next : Int} {l : List Sess} (h : NumAt w p o mb n next l) (h0 : 0 ≤ next) (h1 : next ≤ 1099511627777) :
    Calls Tryd.prog 39 #[.pointer (some ⟨p, o, none⟩)] w fun e w' => e = .returned (.int .i64 next) ∧ w' = w.setCell ⟨p, o, none⟩ (.int .i64 (next + 1)) := by
  have c0 := h.c0
  have z0 := h.z o
  clear h
  go_enter Tryd.func39, Tryd.ntmps39
  go_wp2
  go_ret
  exact ⟨rfl, rfl⟩

/-- what Find tells -/
def findErr (next : Int) (l : List Sess) (x : Int) : Int := if x < 1 ∨ next ≤ x then 4 else if l.any (fun s => s.id == x) then 0 else 12
def findOf (next : Int) (l : List Sess) (x : Int) : Sess := if x < 1 ∨ next ≤ x then sess0 else (l.find? (fun s => s.id == x)).getD sess0

set_option maxHeartbeats 800000 in
theorem find_none {w : World} {p o mb n : Nat} {next : Int} {l : List Sess} (h : NumAt w p o mb n next l) (x : Int) (hx : x < 1 ∨ next ≤ x) :
    Calls Tryd.prog 47 #[.pointer (some ⟨p, o, none⟩), .int .i64 x] w fun e w' => e = .returned (.tuple #[sessV sess0, .int .i64 4]) ∧ Below w.heap.size w w' := by
  have c0 := h.c0
  have hp := h.lts.1
  clear h
  by_cases h1 : x < 1
  · have g1 : decide (x < 1) = true := by simpa using h1
    go_enter Tryd.func47, Tryd.ntmps47
    go_wp2
    exact bodyPost_ret (v := .tuple #[sessV sess0, .int .i64 4]) (by simp [results, Tryd.results47, go_sem, sessV, sess0]) rfl ⟨rfl, ((Below.refl _ _).alloc (Nat.le_refl _) _).alloc (by simp) _⟩
  · have g1 : decide (x < 1) = false := by simpa using h1
    have h2 : next ≤ x := by omega
    have g2 : decide (next ≤ x) = true := by simpa using h2
    go_enter Tryd.func47, Tryd.ntmps47
    go_wp2
    exact bodyPost_ret (v := .tuple #[sessV sess0, .int .i64 4]) (by simp [results, Tryd.results47, go_sem, sessV, sess0]) rfl ⟨rfl, ((Below.refl _ _).alloc (Nat.le_refl _) _).alloc (by simp) _⟩

set_option maxHeartbeats 800000 in
theorem find_gone {w : World} {p o mb n : Nat} {next : Int} {l : List Sess} (h : NumAt w p o mb n next l) (x : Int) (hx : 1 ≤ x ∧ x < next) (hn : next ≤ 1099511627777) (hl : ∀ s ∈ l, s.id ≠ x) :
    Calls Tryd.prog 47 #[.pointer (some ⟨p, o, none⟩), .int .i64 x] w fun e w' => e = .returned (.tuple #[sessV sess0, .int .i64 12]) ∧ Below w.heap.size w w' := by
  have c0 := h.c0
  have c1 := h.c1
  have hp := h.lts.1
  have hm := h.lts.2
  have h2 : (Instr.lookup 37 (.map (some mb)) (.int .i64 x) true).run Tryd.prog ((w.alloc (.cells #[.int .i64 0, .string ⟨#[]⟩, .string ⟨#[]⟩, .int .i64 0, .int .i64 0] 42)).alloc (.cells #[.int .i64 0, .string ⟨#[]⟩, .string ⟨#[]⟩, .int .i64 0, .int .i64 0] 42)) = .ok (.tuple #[.agg #[.int .i64 0, .string ⟨#[]⟩, .string ⟨#[]⟩, .int .i64 0, .int .i64 0], .bool false]) _ :=
    (h.map.keep (((Below.refl _ w).alloc (Nat.le_refl _) _).alloc (by simp) _ |>.block mb hm)).look_out intKeyed Tryd.underlying37 (sessZero _) (sessR_mk sess0) sessR_inv hl (zkey (by omega) (by omega))
  clear h
  have g1 : decide (x < 1) = false := by simp; omega
  have g2 : decide (next ≤ x) = false := by simp; omega
  go_enter Tryd.func47, Tryd.ntmps47
  go_wp2
  exact bodyPost_ret (v := .tuple #[sessV sess0, .int .i64 12]) (by simp [results, Tryd.results47, go_sem, sessV, sess0]) rfl ⟨rfl, (((Below.refl _ _).alloc (Nat.le_refl _) _).alloc (by simp) _).alloc (by simp; omega) _⟩

set_option maxHeartbeats 800000 in
theorem find_ok {w : World} {p o mb n : Nat} {next : Int} {l : List Sess} (h : NumAt w p o mb n next l) (s : Sess) (hs : s ∈ l) (hx : 1 ≤ s.id ∧ s.id < next) (hn : next ≤ 1099511627777) :
    Calls Tryd.prog 47 #[.pointer (some ⟨p, o, none⟩), .int .i64 s.id] w fun e w' => e = .returned (.tuple #[sessV s, .int .i64 0]) ∧ Below w.heap.size w w' := by
  have c0 := h.c0
  have c1 := h.c1
  have hp := h.lts.1
  have hm := h.lts.2
  have h2 : (Instr.lookup 37 (.map (some mb)) (.int .i64 s.id) true).run Tryd.prog ((w.alloc (.cells #[.int .i64 0, .string ⟨#[]⟩, .string ⟨#[]⟩, .int .i64 0, .int .i64 0] 42)).alloc (.cells #[.int .i64 0, .string ⟨#[]⟩, .string ⟨#[]⟩, .int .i64 0, .int .i64 0] 42)) = .ok (.tuple #[.agg #[.int .i64 s.id, .string s.ten, .string s.usr, .int .i64 s.since, .int .i64 s.used], .bool true]) _ :=
    ((h.map.keep (((Below.refl _ w).alloc (Nat.le_refl _) _).alloc (by simp) _ |>.block mb hm)).look_in intKeyed Tryd.underlying37 (sessZero _) (sessR_mk sess0) sessR_inv hs (zkey (by omega) (by omega))).1
  clear h
  have g1 : decide (s.id < 1) = false := by simp; omega
  have g2 : decide (next ≤ s.id) = false := by simp; omega
  go_enter Tryd.func47, Tryd.ntmps47
  go_wp2
  exact bodyPost_ret (v := .tuple #[sessV s, .int .i64 0]) (by simp [results, Tryd.results47, go_sem, sessV]) rfl ⟨rfl, (((Below.refl _ _).alloc (Nat.le_refl _) _).alloc (by simp) _).alloc (by simp; omega) _⟩
end Go.Proofs.YtcchlcbonfdhpaaDoor
