/- YtomhcccjeadefaaGreatDoorCB1 + YtomhcccjeadefaaGreatDoorCB2 + YtomhcccjeadefaaGreatDoorCB3 -/
import Derived.Test.YtomhcccjeadefaaGreatDoorSLeaf
import Derived.BigQuiet
import Derived.Test.YtomhcccjeadefaaGreatDoorJToNum
/- Sorting no rows, or one. (Printed by gen/cb1.py.) -/
namespace Go.Proofs.YtomhcccjeadefaaGreatDoor
open Go.RowKit
set_option linter.unusedVariables false
set_option maxRecDepth 20000
theorem len64_0 (w : World) : Calls Tryz.prog 93 #[.int .u64 0] w fun e w' => e = .returned (.int .i64 0) ∧ w' = w := by
  go_enter Tryz.func93, Tryz.ntmps93
  go_wp2
  go_ret
  exact ⟨by kernel_rfl, rfl⟩
theorem len64_1 (w : World) : Calls Tryz.prog 93 #[.int .u64 1] w fun e w' => e = .returned (.int .i64 1) ∧ w' = w := by
  go_enter Tryz.func93, Tryz.ntmps93
  go_wp2
  go_ret
  exact ⟨by kernel_rfl, rfl⟩
set_option maxHeartbeats 1000000 in
theorem bitsLen_any (n : Nat) (hn : n ≤ 1) (w : World) : Calls Tryz.prog 70 #[.int .u64 (n : Int)] w fun e w' => (∃ k : Int, e = .returned (.int .i64 k)) ∧ w' = w := by
  rcases (by omega : n = 0 ∨ n = 1) with rfl | rfl
  · have h := hid (len64_0 w)
    go_enter Tryz.func70, Tryz.ntmps70
    go_wp2_with (go_at_call 93; refine h.out.mono ?_; rintro _ _ ⟨rfl, rfl⟩)
    go_ret
    exact ⟨⟨_, rfl⟩, rfl⟩
  · have h := hid (len64_1 w)
    go_enter Tryz.func70, Tryz.ntmps70
    go_wp2_with (go_at_call 93; refine h.out.mono ?_; rintro _ _ ⟨rfl, rfl⟩)
    go_ret
    exact ⟨⟨_, rfl⟩, rfl⟩
set_option maxHeartbeats 1000000 in
theorem ins_row (a : Option Addr) (n c : Nat) (hn : n ≤ 1) (cf : Value) (w : World) : Calls Tryz.prog 84 #[.slice a n c, .int .i64 0, .int .i64 (n : Int), cf] w fun e w' => e = .returned (.tuple #[]) ∧ w' = w := by
  have g0 : ¬ (1 : Int) < (n : Int) := by omega
  have g1 : decide ((1 : Int) < (n : Int)) = false := decide_eq_false g0
  go_enter Tryz.func84, Tryz.ntmps84
  go_wp2_with fail
  go_loopw [8] (fun i wr => i = .int .i64 1 ∧ wr = w) (fun _ _ => 0)
  case atStart => exact ⟨rfl, rfl⟩
  case round =>
    obtain ⟨rfl, rfl⟩ := hrel
    go_wp2_with fail
    go_end0
    exact ⟨rfl, rfl⟩
set_option maxHeartbeats 1000000 in
theorem pdq_row (a : Option Addr) (n c : Nat) (hn : n ≤ 1) (lim : Int) (cf : Value) (w : World) : Calls Tryz.prog 69 #[.slice a n c, .int .i64 0, .int .i64 (n : Int), .int .i64 lim, cf] w fun e w' => e = .returned (.tuple #[]) ∧ w' = w := by
  have h0 := hid (ins_row a n c hn cf w)
  have g0 : (n : Int) ≤ 12 := by omega
  have g1 : decide ((n : Int) ≤ 12) = true := decide_eq_true g0
  go_enter Tryz.func69, Tryz.ntmps69
  go_wp2_with fail
  go_loopw [1, 2] (fun x y wr => x = .int .i64 0 ∧ y = .int .i64 (n : Int) ∧ wr = w) (fun _ _ _ => 0)
  case atStart => exact ⟨rfl, rfl, rfl⟩
  case round =>
    obtain ⟨rfl, rfl, rfl⟩ := hrel
    go_wp2_with (go_at_call 84; refine h0.out.mono ?_; rintro _ _ ⟨rfl, rfl⟩)
    exact bodyPost_ret (results_none rfl _ _ _) rfl ⟨rfl, rfl⟩
set_option maxHeartbeats 1000000 in
theorem ins_own (a : Option Addr) (n c : Nat) (hn : n ≤ 1) (cf : Value) (w : World) : Calls Tryz.prog 103 #[.slice a n c, .int .i64 0, .int .i64 (n : Int), cf] w fun e w' => e = .returned (.tuple #[]) ∧ w' = w := by
  have g0 : ¬ (1 : Int) < (n : Int) := by omega
  have g1 : decide ((1 : Int) < (n : Int)) = false := decide_eq_false g0
  go_enter Tryz.func103, Tryz.ntmps103
  go_wp2_with fail
  go_loopw [8] (fun i wr => i = .int .i64 1 ∧ wr = w) (fun _ _ => 0)
  case atStart => exact ⟨rfl, rfl⟩
  case round =>
    obtain ⟨rfl, rfl⟩ := hrel
    go_wp2_with fail
    go_end0
    exact ⟨rfl, rfl⟩
set_option maxHeartbeats 1000000 in
theorem pdq_own (a : Option Addr) (n c : Nat) (hn : n ≤ 1) (lim : Int) (cf : Value) (w : World) : Calls Tryz.prog 80 #[.slice a n c, .int .i64 0, .int .i64 (n : Int), .int .i64 lim, cf] w fun e w' => e = .returned (.tuple #[]) ∧ w' = w := by
  have h0 := hid (ins_own a n c hn cf w)
  have g0 : (n : Int) ≤ 12 := by omega
  have g1 : decide ((n : Int) ≤ 12) = true := decide_eq_true g0
  go_enter Tryz.func80, Tryz.ntmps80
  go_wp2_with fail
  go_loopw [1, 2] (fun x y wr => x = .int .i64 0 ∧ y = .int .i64 (n : Int) ∧ wr = w) (fun _ _ _ => 0)
  case atStart => exact ⟨rfl, rfl, rfl⟩
  case round =>
    obtain ⟨rfl, rfl, rfl⟩ := hrel
    go_wp2_with (go_at_call 103; refine h0.out.mono ?_; rintro _ _ ⟨rfl, rfl⟩)
    exact bodyPost_ret (results_none rfl _ _ _) rfl ⟨rfl, rfl⟩
set_option maxHeartbeats 1000000 in
theorem ins_str (a : Option Addr) (n c : Nat) (hn : n ≤ 1) (w : World) : Calls Tryz.prog 111 #[.slice a n c, .int .i64 0, .int .i64 (n : Int)] w fun e w' => e = .returned (.tuple #[]) ∧ w' = w := by
  have g0 : ¬ (1 : Int) < (n : Int) := by omega
  have g1 : decide ((1 : Int) < (n : Int)) = false := decide_eq_false g0
  go_enter Tryz.func111, Tryz.ntmps111
  go_wp2_with fail
  go_loopw [6] (fun i wr => i = .int .i64 1 ∧ wr = w) (fun _ _ => 0)
  case atStart => exact ⟨rfl, rfl⟩
  case round =>
    obtain ⟨rfl, rfl⟩ := hrel
    go_wp2_with fail
    go_end0
    exact ⟨rfl, rfl⟩
set_option maxHeartbeats 1000000 in
theorem pdq_str (a : Option Addr) (n c : Nat) (hn : n ≤ 1) (lim : Int) (w : World) : Calls Tryz.prog 81 #[.slice a n c, .int .i64 0, .int .i64 (n : Int), .int .i64 lim] w fun e w' => e = .returned (.tuple #[]) ∧ w' = w := by
  have h0 := hid (ins_str a n c hn w)
  have g0 : (n : Int) ≤ 12 := by omega
  have g1 : decide ((n : Int) ≤ 12) = true := decide_eq_true g0
  go_enter Tryz.func81, Tryz.ntmps81
  go_wp2_with fail
  go_loopw [1, 2] (fun x y wr => x = .int .i64 0 ∧ y = .int .i64 (n : Int) ∧ wr = w) (fun _ _ _ => 0)
  case atStart => exact ⟨rfl, rfl, rfl⟩
  case round =>
    obtain ⟨rfl, rfl, rfl⟩ := hrel
    go_wp2_with (go_at_call 111; refine h0.out.mono ?_; rintro _ _ ⟨rfl, rfl⟩)
    exact bodyPost_ret (results_none rfl _ _ _) rfl ⟨rfl, rfl⟩
set_option maxHeartbeats 1000000 in
theorem sortRow1 (a : Option Addr) (n c : Nat) (hn : n ≤ 1) (w : World) : Calls Tryz.prog 22 #[.slice a n c] w fun e w' => e = .returned (.tuple #[]) ∧ w' = w := by
  have hs : Calls Tryz.prog 43 #[.slice a n c, .func (.func 44) #[] #[]] w fun e w' => e = .returned (.tuple #[]) ∧ w' = w := by
    have hb := hid (bitsLen_any n hn w)
    have hp := hid (fun (k : Int) => pdq_row a n c hn k (.func (.func 44) #[] #[]) w)
    have hw : IntKind.u64.wrap (n : Int) = (n : Int) := by rcases (by omega : n = 0 ∨ n = 1) with rfl | rfl <;> rfl
    go_enter Tryz.func43, Tryz.ntmps43
    go_wp2_with (first
      | (go_at_call 70; refine hb.out.mono ?_; rintro _ _ ⟨⟨k, rfl⟩, rfl⟩)
      | (go_at_call 69; refine (hp.out _).mono ?_; rintro _ _ ⟨rfl, rfl⟩))
    go_end0
    exact ⟨rfl, rfl⟩
  have hs := hid hs
  go_enter Tryz.func22, Tryz.ntmps22
  go_wp2_with (go_at_call 43; refine hs.out.mono ?_; rintro _ _ ⟨rfl, rfl⟩)
  go_end0
  exact ⟨rfl, rfl⟩
end Go.Proofs.YtomhcccjeadefaaGreatDoor
/- A map from owners to pointers that holds no owner, or t/u alone. -/
namespace Go.Proofs.YtomhcccjeadefaaGreatDoor
open Go.RowKit Go.Maps
set_option linter.unusedVariables false
set_option maxRecDepth 20000
theorem lawOwner : Keyed Tryz.prog 31 := Keyed.of_law (deep_law_laid laidOutJ (m := 2) (by omega) (of_decide_eq_true (by kernel_rfl)) (by kernel_rfl) (by kernel_rfl))
def RVo (v : Value) : Option (DataW Value × List MemPlace) := some (.held v, [])
def oT : ByteArray := ⟨#[116]⟩
def oU : ByteArray := ⟨#[117]⟩
def kO : Lit := .string (Go.keyBytes [.string oT.data.toList, .string oU.data.toList])
theorem keyTypeO : Tryz.prog.keyType 31 = true := by kernel_rfl
theorem cellsOwner : Tryz.prog.cellsOf 31 = 2 := by kernel_rfl
theorem formedO : Value.formed Tryz.prog 31 (.agg #[.string oT, .string oU]) = true := by
  kernel_rfl
theorem keyOf_owner : Go.keyOf Tryz.prog 31 (.agg #[.string oT, .string oU]) = some kO := by
  obtain ⟨m, hm⟩ := typesJ
  unfold Go.keyOf
  rw [hm]
  simp only [Tryz.underlying31, keyTypeO, formedO, Bool.and_self, if_true]
  unfold Program.keyLits
  simp only [Tryz.underlying31, cellsOwner, Value.cells]
  rw [if_pos ⟨rfl, by decide +kernel⟩]
  have h1 : oT.size ≤ maxLen := by unfold maxLen oT; decide
  have h2 : oU.size ≤ maxLen := by unfold maxLen oU; decide
  simp [List.mapM_cons, cellsStr, keyLits_str m _ h1, keyLits_str m _ h2, kO]
theorem kO_lit : WideAt.IsKeyLit kO := True.intro
def OMap (w : World) (mb n : Nat) (x : Option Value) : Prop :=
  ∃ D : DataW Value, w.ownsMap Tryz.prog 31 RVo mb n D ∧ (x = none → ∀ k : Lit, Maps.has D k = false) ∧ ∀ p, x = some p → Maps.has D kO = true ∧ (∀ k : Lit, Maps.has D k = true → k = kO) ∧ ∀ z, D.atKey kO z = .held p
section
variable {w w' : World} {mb n : Nat} {x : Option Value}
theorem OMap.keep (h : OMap w mb n x) (hk : w'.heap[mb]? = w.heap[mb]?) : OMap w' mb n x := by
  obtain ⟨D, ⟨es, clock, hb, r⟩, h1, h2⟩ := h
  exact ⟨D, ⟨es, clock, hk.trans hb, r⟩, h1, h2⟩
theorem OMap.isMap (h : OMap w mb n x) : ∃ es clock, w.heap[mb]? = some (.map es clock) := by
  obtain ⟨D, ⟨es, clock, hb, r⟩, h1, h2⟩ := h
  exact ⟨es, clock, hb⟩
theorem OMap.lt (h : OMap w mb n x) : mb < w.heap.size := by
  obtain ⟨D, hown, _⟩ := h
  exact hown.lt
theorem OMap.below (h : OMap w mb n x) (hb : Below w.heap.size w w') : OMap w' mb n x := h.keep (hb.block _ h.lt)
theorem OMap_made (w : World) : OMap (w.alloc (.map #[] 0)) w.heap.size 0 none :=
  ⟨_, World.ownsMap_made w _ _ _, fun _ k => by simp [Maps.has], fun p hp => by cases hp⟩
theorem OMap.look (h : OMap w mb n x) {t e : TypeId} (ht : Tryz.prog.underlying t = some (.map 31 e)) {z : Value} (hz : (zeroValue e).run Tryz.prog w = .ok z w) :
    (Instr.lookup t (.map (some mb)) (.agg #[.string oT, .string oU]) true).run Tryz.prog w = .ok (.tuple #[x.getD z, .bool x.isSome]) w := by
  obtain ⟨D, ho, hh, ha⟩ := h
  obtain ⟨u, ps, h1, h2⟩ := ho.look_ok lawOwner ht hz (zd := .held z) (zp := []) rfl keyOf_owner
  cases x with
  | none =>
    have hf : Maps.has D kO = false := hh rfl kO
    rw [Maps.atKey_of_not_has hf] at h2
    have e1 : u = z := by simpa [RVo] using congrArg (fun o : Option (DataW Value × List MemPlace) => o.map (·.1)) h2
    rw [e1, hf] at h1
    exact h1
  | some p =>
    rw [(ha p rfl).2.2] at h2
    have e1 : u = p := by simpa [RVo] using congrArg (fun o : Option (DataW Value × List MemPlace) => o.map (·.1)) h2
    have hf : Maps.has D kO = true := (ha p rfl).1
    rw [e1, hf] at h1
    exact h1
theorem OMap.put (h : OMap w mb n none) {t e : TypeId} (ht : Tryz.prog.underlying t = some (.map 31 e)) (hn : n ≤ 1000000) (val : Value) :
    ∃ w', (Instr.mapUpdate t (.map (some mb)) (.agg #[.string oT, .string oU]) val).run Tryz.prog w = .ok () w' ∧ OMap w' mb (n + 1) (some val) ∧ w.grownBy w' (some mb) := by
  obtain ⟨D, ho, hh, ha⟩ := h
  have hi := ho.isMap
  obtain ⟨w', hrun, ho', hg⟩ := ho.update lawOwner ht (by unfold maxLen; omega) (val := val) (d := .held val) (ps := []) keyOf_owner rfl
  refine ⟨w', hrun, ⟨_, ho', (fun e => nomatch e), fun p hp => ?_⟩, hg⟩
  cases hp
  refine ⟨Maps.has_put_same hi kO_lit _, fun k hk => ?_, fun z => Maps.atKey_put_same hi kO_lit _ _⟩
  rcases Classical.em (k = kO) with e | e
  · exact e
  · rw [Maps.has_put_other e, hh rfl k] at hk
    cases hk
end
end Go.Proofs.YtomhcccjeadefaaGreatDoor
/- A book of passwords with no user: New, and what room it has. -/
namespace Go.Proofs.YtomhcccjeadefaaGreatDoor
open Go.RowKit Go.Maps
set_option linter.unusedVariables false
set_option maxRecDepth 20000
structure BookAt (w : World) (B g mb n : Nat) (x : Option Nat) : Prop where
  obj : w.heap[g]? = some (.cells #[.map (some mb)] 54 (0, 0))
  mp : OMap w mb n (x.map fun p => .pointer (some ⟨p, 0, none⟩))
  bg : B ≤ g
  bm : B ≤ mb
section
variable {w w' : World} {B g mb n : Nat} {x : Option Nat}
theorem BookAt.below (h : BookAt w B g mb n x) (hb : Below w.heap.size w w') : BookAt w' B g mb n x := ⟨(hb.block _ (heap_lt h.obj)).trans h.obj, h.mp.below hb, h.bg, h.bm⟩
theorem BookAt.c0 (h : BookAt w B g mb n x) : w.cell? ⟨g, 0, none⟩ = some (.map (some mb)) := cell_of_row _ _ 0 _ _ _ h.obj
theorem BookAt.mono {B' : Nat} (h : BookAt w B g mb n x) (hB : B' ≤ B) : BookAt w B' g mb n x := ⟨h.obj, h.mp, Nat.le_trans hB h.bg, Nat.le_trans hB h.bm⟩
end
theorem built_book (b : Nat) : Tryz.prog.built 54 [(0, .map (some b))] = some #[.map (some b)] := by kernel_rfl
def buildBk (ps : Array (Nat × Value)) : Sem Value := Instr.build 54 ps
theorem buildBk_fold (ps : Array (Nat × Value)) : Instr.build 54 ps = buildBk ps := rfl
section
attribute [local go_sem ↓] buildBk_fold
set_option maxHeartbeats 2000000 in
theorem newBook_any (w : World) : Calls Tryz.prog 4 #[] w fun e w' => ∃ g mb, e = .returned (.pointer (some ⟨g, 0, none⟩)) ∧ BookAt w' w.heap.size g mb 0 none ∧ Below w.heap.size w w' := by
  have hmm := @run_makeMap Tryz.prog
  have hB6 : ∀ (W : World) (a : Nat), (buildBk #[(0, .map (some a))]).run Tryz.prog W = .ok (.agg #[.map (some a)]) W := fun W a => run_build (P := Tryz.prog) W 54 #[(0, .map (some a))] _ (built_book a)
  go_enter Tryz.func4, Tryz.ntmps4
  go_wp2_with fail
  go_ret
  have b1 : Below w.heap.size w (w.alloc (.map #[] 0)) := (Below.refl _ w).alloc (Nat.le_refl _) _
  have hs : (w.alloc (.map #[] 0)).heap.size = w.heap.size + 1 := by simp
  have b2 : Below (w.alloc (.map #[] 0)).heap.size (w.alloc (.map #[] 0)) ((w.alloc (.map #[] 0)).alloc (.cells #[.map (some w.heap.size)] 54)) := (Below.refl _ _).alloc (Nat.le_refl _) _
  exact ⟨_, w.heap.size, rfl, ⟨by rw [← hs]; exact heap_alloc_new _ _, (OMap_made w).below b2, Nat.le_succ _, Nat.le_refl _⟩, Below.on' b1 b2⟩
end
set_option maxHeartbeats 1000000 in
theorem sortOwn0 (w : World) : Calls Tryz.prog 63 #[.slice none 0 0, .func (.func 64) #[] #[]] w fun e w' => e = .returned (.tuple #[]) ∧ w' = w := by
  have hb := hid (bitsLen_any 0 (by omega) w)
  have hp := hid (fun (k : Int) => pdq_own none 0 0 (by omega) k (.func (.func 64) #[] #[]) w)
  go_enter Tryz.func63, Tryz.ntmps63
  go_wp2_with (first
    | (go_at_call 70; refine hb.out.mono ?_; rintro _ _ ⟨⟨k, rfl⟩, rfl⟩)
    | (go_at_call 80; refine (hp.out _).mono ?_; rintro _ _ ⟨rfl, rfl⟩))
  go_end0
  exact ⟨rfl, rfl⟩
set_option maxHeartbeats 1000000 in
theorem sortStr0 (w : World) : Calls Tryz.prog 65 #[.slice none 0 0] w fun e w' => e = .returned (.tuple #[]) ∧ w' = w := by
  have hb := hid (bitsLen_any 0 (by omega) w)
  have hp := hid (fun (k : Int) => pdq_str none 0 0 (by omega) k w)
  go_enter Tryz.func65, Tryz.ntmps65
  go_wp2_with (first
    | (go_at_call 70; refine hb.out.mono ?_; rintro _ _ ⟨⟨k, rfl⟩, rfl⟩)
    | (go_at_call 81; refine (hp.out _).mono ?_; rintro _ _ ⟨rfl, rfl⟩))
  go_end0
  exact ⟨rfl, rfl⟩
theorem compact0 (w : World) : Calls Tryz.prog 66 #[.slice none 0 0] w fun e w' => e = .returned (.slice none 0 0) ∧ w' = w := by
  go_enter Tryz.func66, Tryz.ntmps66
  go_wp2
  go_ret
  exact ⟨rfl, rfl⟩
set_option maxHeartbeats 2000000 in
theorem owners0 {w : World} {B g mb n : Nat} (h : BookAt w B g mb n none) (t : ByteArray) : Calls Tryz.prog 39 #[.pointer (some ⟨g, 0, none⟩), .string t] w fun e w' => e = .returned (.slice none 0 0) ∧ Below w.heap.size w w' := by
  have c0 := h.c0
  obtain ⟨D, ho, hh, ha⟩ := h.mp
  have Ho := hid ho
  have hf := hh rfl
  have Hf := hid hf
  clear h ho hh ha hf
  go_enter Tryz.func39, Tryz.ntmps39
  go_wp2_with (first
    | (at_range; refine wpList_range_own _ rfl _ 52 rfl 31 68 lawOwner Tryz.underlying52 _ mb n _ rfl Ho.out ?_; intro w3 hrg3 hg3 hs3)
    | go_in)
  go_frame
  have B3 : Hid (Below w.heap.size w w3) := ⟨hg3.os, hg3.tape, hg3.output, hg3.size, fun k hk => hg3.block k hk (by simp)⟩
  go_loopw [5] (fun v wr => v = .slice none 0 0 ∧ wr = w3) (fun _ _ => 0)
  case atStart => exact ⟨rfl, rfl⟩
  case round =>
    obtain ⟨rfl, rfl⟩ := hrel
    go_wp2_with (first
      | (at_next; refine wpList_next_ranges (α := Value) (β := Value) _ rfl _ rfl 31 lawOwner RVo (fun x => x) (fun x => x) (fun key kl _ => ⟨key, rfl⟩) (fun v y _ => ⟨v, rfl⟩) mb w.heap.size n _ _ _ rfl hrg3 ?_ ?_)
      | go_in)
    · intro _ _
      go_wp2_with (go_at_call 63; refine (sortOwn0 _).mono ?_; rintro _ _ ⟨rfl, rfl⟩)
      go_ret
      exact ⟨rfl, B3.out⟩
    · intro _ _ kl _ _ _ _ _ hl
      have h9 : false = true := (Hf.out kl).symm.trans hl
      exact Bool.noConfusion h9
set_option maxHeartbeats 2000000 in
theorem tenants0 {w : World} {B g mb n : Nat} (h : BookAt w B g mb n none) : Calls Tryz.prog 40 #[.pointer (some ⟨g, 0, none⟩)] w fun e w' => e = .returned (.slice none 0 0) ∧ Below w.heap.size w w' := by
  have c0 := h.c0
  obtain ⟨D, ho, hh, ha⟩ := h.mp
  have Ho := hid ho
  have hf := hh rfl
  have Hf := hid hf
  clear h ho hh ha hf
  go_enter Tryz.func40, Tryz.ntmps40
  go_wp2_with (first
    | (at_range; refine wpList_range_own _ rfl _ 52 rfl 31 68 lawOwner Tryz.underlying52 _ mb n _ rfl Ho.out ?_; intro w3 hrg3 hg3 hs3)
    | go_in)
  go_frame
  have B3 : Hid (Below w.heap.size w w3) := ⟨hg3.os, hg3.tape, hg3.output, hg3.size, fun k hk => hg3.block k hk (by simp)⟩
  go_loopw [3] (fun v wr => v = .slice none 0 0 ∧ wr = w3) (fun _ _ => 0)
  case atStart => exact ⟨rfl, rfl⟩
  case round =>
    obtain ⟨rfl, rfl⟩ := hrel
    go_wp2_with (first
      | (at_next; refine wpList_next_ranges (α := Value) (β := Value) _ rfl _ rfl 31 lawOwner RVo (fun x => x) (fun x => x) (fun key kl _ => ⟨key, rfl⟩) (fun v y _ => ⟨v, rfl⟩) mb w.heap.size n _ _ _ rfl hrg3 ?_ ?_)
      | go_in)
    · intro _ _
      go_wp2_with (first
        | (go_at_call 65; refine (sortStr0 _).mono ?_; rintro _ _ ⟨rfl, rfl⟩)
        | (go_at_call 66; refine (compact0 _).mono ?_; rintro _ _ ⟨rfl, rfl⟩))
      go_ret
      exact ⟨rfl, B3.out⟩
    · intro _ _ kl _ _ _ _ _ hl
      have h9 : false = true := (Hf.out kl).symm.trans hl
      exact Bool.noConfusion h9
theorem hasRoom0 {w : World} {B g mb n : Nat} (h : BookAt w B g mb n none) (t : ByteArray) : Calls Tryz.prog 20 #[.pointer (some ⟨g, 0, none⟩), .string t] w fun e w' => e = .returned (.bool true) ∧ Below w.heap.size w w' := by
  have H := hid h
  clear h
  go_enter Tryz.func20, Tryz.ntmps20
  go_wp2_with (first
    | (go_at_call 39; refine (owners0 H.out t).mono ?_; rintro _ w1 ⟨rfl, b1⟩; have B1 := hid b1; clear b1)
    | (go_at_call 40; refine (tenants0 (H.out.below B1.out)).mono ?_; rintro _ w2 ⟨rfl, b2⟩; have B2 := hid (Below.on' B1.out b2); clear b2))
  go_ret
  exact ⟨rfl, B2.out⟩
end Go.Proofs.YtomhcccjeadefaaGreatDoor
