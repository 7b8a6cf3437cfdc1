/- EndSessions, EndClient and Sweep of package token, each by a contract. -/
import Derived.Test.YtlfajgmhegcnaaaKHas

namespace Go.Proofs.Ytlfajgmhegcnaaa
open Go.RowKit Go.Maps Go.Sort Go.Shelf
set_option linter.unusedVariables false
set_option maxRecDepth 20000
set_option maxRecDepth 20000

/-- a place, or none -/
def IxPost (zs : List Int) (x : Int) (w : World) (e : Ending) (w' : World) : Prop := ∃ i : Int, e = .returned (.int .i64 i) ∧ decide (0 ≤ i) = hasB zs x ∧ w' = w
set_option maxHeartbeats 800000 in
theorem index_any {w : World} {a : Option Addr} {zs : List Int} (ha : Ints w a zs) (c : Nat) (hl : zs.length ≤ maxLen) (x : Int) :
    Calls Try.prog 43 #[.slice a zs.length c, .int .i64 x] w fun e w' => ∃ i : Int, e = .returned (.int .i64 i) ∧ decide (0 ≤ i) = hasB zs x ∧ w' = w := by
  have Ha := hid ha
  clear ha
  generalize hN : zs.length = N at *
  have HN := hid hN
  clear hN
  have hN2 : N ≤ 9223372036854775807 := by simpa [maxLen] using hl
  have Hend : Hid (∀ i : Int, decide (0 ≤ i) = hasB zs x → IxPost zs x w (.returned (.int .i64 i)) w) := fun i hi => ⟨i, rfl, hi, rfl⟩
  show Calls Try.prog 43 _ w (IxPost zs x w)
  go_enter Try.func43, Try.ntmps43
  go_wp2
  go_loop [8] (fun i => ∃ k : Nat, k ≤ N ∧ i = .int .i64 k ∧ ∀ z ∈ zs.take k, z ≠ x) (fun i => N - (intOf i).toNat)
  case atStart => exact ⟨0, Nat.zero_le _, rfl, by simp⟩
  case round =>
    obtain ⟨k, hk, rfl, hno⟩ := hrel
    have Hno := hid hno
    clear hno
    by_cases hlt : k < N
    · obtain ⟨b, o, ea, h0⟩ := Ha.out k (by rw [HN.out]; exact hlt)
      cases ea
      have Hg : Hid (zs[k]? = some (zs[k]'(by rw [HN.out]; exact hlt))) := List.getElem?_eq_getElem _
      generalize zs[k]'(by rw [HN.out]; exact hlt) = z at *
      by_cases he : x = z
      · have b1 : (x == z) = true := by simpa using he
        have Hc : Hid (hasB zs x = true) := by show _ = _; rw [hasB_iff, he]; exact List.mem_of_getElem? Hg.out
        clear he
        go_wp2
        go_ret
        exact Hend.out _ (by rw [Hc.out]; simp)
      · have b1 : (x == z) = false := by simpa using he
        have He := hid he
        clear he
        go_wp2
        go_round
        case rel => exact ⟨k + 1, by omega, by go_num, fun y hy => by
          rw [take_snoc_get Hg.out] at hy
          rcases List.mem_append.1 hy with hy | hy
          · exact Hno.out y hy
          · rw [List.mem_singleton] at hy; rw [hy]; exact fun e => He.out e.symm⟩
        case measure => simp [intOf]; omega
    · have e : k = N := by omega
      have Hc : Hid (hasB zs x = false) := by
        show _ = _
        rw [Bool.eq_false_iff]
        intro hc
        have := Hno.out x (by rw [List.take_of_length_le (by rw [HN.out]; omega)]; exact hasB_iff.1 hc)
        exact this rfl
      subst e
      go_wp2
      go_ret
      exact Hend.out _ (by rw [Hc.out]; simp)

set_option maxHeartbeats 800000 in
theorem contains_any {w : World} {a : Option Addr} {zs : List Int} (ha : Ints w a zs) (c : Nat) (hl : zs.length ≤ maxLen) (x : Int) :
    Calls Try.prog 24 #[.slice a zs.length c, .int .i64 x] w fun e w' => e = .returned (.bool (hasB zs x)) ∧ w' = w := by
  have Hi := hid (index_any ha c hl x)
  clear ha
  go_enter Try.func24, Try.ntmps24
  go_wp2_with (go_at_call 43; refine Hi.out.mono ?_; rintro e9 w2 ⟨i, rfl, hi, rfl⟩; have Hi2 := hid hi; clear hi)
  go_ret
  exact ⟨ret_bool Hi2.out, rfl⟩

/-- is a family one of these sessions? .. and of this client? -/
def inS (zs : List Int) (s : Fam.Sess) : Bool := hasB zs s.ses
def inC (cli : ByteArray) (zs : List Int) (s : Fam.Sess) : Bool := (s.cli.toList == cli.toList) && hasB zs s.ses
set_option maxHeartbeats 800000 in
theorem endS1_any (s : Fam.Sess) {zs : List Int} {sa : Option Addr} {sc : Nat} (b : Nat) (w : World) (hc0 : w.cell? ⟨b, 0, none⟩ = some (.slice sa zs.length sc)) (hi : Ints w sa zs) (hl : zs.length ≤ maxLen) :
    Calls Try.prog 23 #[.agg #[.int .i64 s.id, .int .i64 s.ses, .string s.cli, .int .u8 s.sco, .int .i64 s.nxt], .pointer (some ⟨b, 0, none⟩)] w fun e w' => e = .returned (.bool (inS zs s)) ∧ Below w.heap.size w w' := by
  have hb := World.block_lt_of_cell? _ _ hc0
  have hb1 : Below w.heap.size w (w.alloc (.cells #[.int .i64 s.id, .int .i64 s.ses, .string s.cli, .int .u8 s.sco, .int .i64 s.nxt] 44)) := (Below.refl _ _).alloc (Nat.le_refl _) _
  have Hc := hid (contains_any (hi.below hb1) sc hl s.ses)
  clear hi
  go_enter Try.func23, Try.ntmps23
  go_wp2_with (go_at_call 24; refine Hc.out.mono ?_; rintro e9 w2 ⟨rfl, rfl⟩)
  go_ret
  exact ⟨rfl, hb1⟩
theorem eg_endS1 : ∀ args w, (callFunc 23 args).run Try.prog w = .ok (.enter 23 args) w := enters_of Try.func23 (by kernel_rfl) rfl
set_option maxHeartbeats 1600000 in
theorem endSessions_any {w : World} {B p mf mt n1 n2 : Nat} {T : Sto} (h : StoAt w B p mf mt n1 n2 T) (ok : StoOk T) (hln : T.fs.length ≤ 1000000000) (hlt : T.ts.length ≤ 1000000000) {sa : Option Addr} {zs : List Int} (hs : Ints w sa zs) (sc : Nat) (hl : zs.length ≤ maxLen) :
    Calls Try.prog 7 #[.pointer (some ⟨p, 0, none⟩), .slice sa zs.length sc] w fun e w' => ∃ v, e = .returned v ∧ w'.ownsRow w.heap.size 3 1 v (T.fs.filter (inS zs)).length (zCells (Fam.wantedIds T.fs (inS zs))) ∧ StoAt w' B p mf mt n1 n2 (tDrop T (inS zs)) ∧ Out (Mine p mf mt) w w' := by
  have hmf' : ∀ (fn : Fn) (first cap : Array Value) (w : World), (Instr.makeFunc fn first cap).run Try.prog w = .ok (.func fn first cap) w := fun _ _ _ _ => rfl
  obtain ⟨W, hW⟩ : ∃ W, W = w.alloc (.cells #[.slice sa zs.length sc] 30) := ⟨_, rfl⟩
  have hb1 : Below w.heap.size w W := by rw [hW]; exact (Below.refl _ w).alloc (Nat.le_refl _) _
  have t1 : W.heap[w.heap.size]? = some (.cells #[.slice sa zs.length sc] 30 (0, 0)) := by rw [hW]; exact (MapKept.heap_alloc w _).1
  have d1 := (Array.getElem?_eq_some_iff.1 t1).1
  have He := ends_any (h.below hb1) ok hln hlt (inS zs) 23 #[.pointer (some ⟨w.heap.size, 0, none⟩)] eg_endS1 (fun s hs' W' hW' => endS1_any s w.heap.size W' (cell_of_row _ _ 0 _ _ _ ((hW'.block _ d1).trans t1)) ((hs.below hb1).below hW') hl)
  have HE := hid He
  have HW := hid hW
  have HB := hid hb1
  clear h ok hs He hW t1 d1 hb1
  go_enter Try.func7, Try.ntmps7
  go_wp2_with (go_at_call 22; rw [← HW.out]; refine HE.out.mono ?_; rintro e9 w2 ⟨v, rfl, hrow, hst, ho⟩)
  go_ret
  exact ⟨_, rfl, hrow.mono HB.out.size, hst, (Out.of_below (P := Mine p mf mt) HB.out).trans ho (fun _ _ e => e)⟩

/-- is a token over? -/
def overT (now : Int) (t : Tok.Sess) : Bool := !decide (now < t.unt)
def tSweep (T : Sto) (now : Int) : Sto := if timeErr now T.noted ≠ 0 then T else ⟨now, T.nf, T.fs, T.nt, T.ts.filter fun t => !overT now t⟩
theorem tSweep_ok {T : Sto} (ok : StoOk T) (now : Int) : StoOk (tSweep T now) := by
  unfold tSweep
  split
  · exact ok
  · rename_i h0
    have tt := timeErr_ok (by simpa using h0)
    exact ⟨ok.upf, ok.idf, ok.nf, ok.upt.sublist List.filter_sublist, fun s hs => ok.idt s (List.mem_filter.1 hs).1, ok.nt, ⟨tt.1, tt.2.1⟩, ok.nx, fun t ht => ok.tk t (List.mem_filter.1 ht).1, fun t ht => ok.tu t (List.mem_filter.1 ht).1⟩
end Go.Proofs.Ytlfajgmhegcnaaa
