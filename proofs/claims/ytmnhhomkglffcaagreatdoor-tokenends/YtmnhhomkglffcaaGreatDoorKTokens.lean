/- Tokens of a family, by a contract. -/
import Derived.Test.YtmnhhomkglffcaaGreatDoorKSto
import Derived.Test.YtmnhhomkglffcaaGreatDoorKTokT
namespace Go.Proofs.YtmnhhomkglffcaaGreatDoor
open Go.RowKit Go.Maps Go.Sort Go.Shelf
set_option linter.unusedVariables false

/-- whose token -/
def famB (x : Int) (s : Tok.Sess) : Bool := s.fam == x
set_option maxHeartbeats 800000 in
theorem tokens1_any (s : Tok.Sess) (x : Int) (b : Nat) (w : World) (hc0 : w.cell? ⟨b, 0, none⟩ = some (.int .i64 x)) :
    Calls Tryz.prog 39 #[.agg #[.int .i64 s.id, .int .i64 s.fam, .int .u8 s.sco, .int .i64 s.unt], .pointer (some ⟨b, 0, none⟩)] w fun e w' => e = .returned (.bool (famB x s)) ∧ Below w.heap.size w w' := by
  have hb := World.block_lt_of_cell? _ _ hc0
  go_enter Tryz.func39, Tryz.ntmps39
  go_wp2
  all_goals go_ret
  all_goals exact ⟨ret_bool (by unfold famB; simp [*]), (Below.refl _ _).alloc (Nat.le_refl _) _⟩
theorem eg_tokens1 : ∀ args w, (callFunc 39 args).run Tryz.prog w = .ok (.enter 39 args) w := enters_of Tryz.func39 (by kernel_rfl) rfl

set_option maxHeartbeats 800000 in
theorem tokens_any {w : World} {B p mf mt n1 n2 : Nat} {T : Sto} (h : StoAt w B p mf mt n1 n2 T) (ok : StoOk T) (hln : T.ts.length ≤ 1000000000) (x : Int) :
    Calls Tryz.prog 11 #[.pointer (some ⟨p, 0, none⟩), .int .i64 x] w fun e w' => ∃ v, e = .returned v ∧ w'.ownsRow w.heap.size 55 4 v (T.ts.filter (famB x)).length (Tok.sCells (T.ts.filter (famB x))) ∧ Below w.heap.size w w' := by
  have hmf' : ∀ (fn : Fn) (first cap : Array Value) (w : World), (Instr.makeFunc fn first cap).run Tryz.prog w = .ok (.func fn first cap) w := fun _ _ _ _ => rfl
  have hb2 : Below w.heap.size w (w.alloc (.cells #[.int .i64 x] 3)) := (Below.refl _ w).alloc (Nat.le_refl _) _
  have Ht := hid (Tok.things_any (h.below hb2).numt ok.upt hln ok.id2 (famB x) 39 #[.pointer (some ⟨w.heap.size, 0, none⟩)] eg_tokens1 (fun s hs W hW => by
    refine tokens1_any s x w.heap.size W ?_
    rw [hW.cell (p := ⟨w.heap.size, 0, none⟩) (by simp), World.cell?_alloc_at _ _ _ _ rfl]; rfl))
  clear h
  go_enter Tryz.func11, Tryz.ntmps11
  go_wp2_with (go_at_call 38; refine Ht.out.mono ?_; rintro e w1 ⟨v, rfl, hrow, hb1⟩)
  go_ret
  exact ⟨_, rfl, hrow.mono (by simp), hb2.trans (hb1.mono (by simp))⟩
end Go.Proofs.YtmnhhomkglffcaaGreatDoor
