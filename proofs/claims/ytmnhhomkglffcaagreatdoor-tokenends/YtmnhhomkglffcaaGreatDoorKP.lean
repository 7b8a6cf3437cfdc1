/- EndSessions, EndClient and Sweep of package token, each by a contract. -/
import Derived.Test.YtmnhhomkglffcaaGreatDoorKR9
import Derived.Test.YtmnhhomkglffcaaGreatDoorKExch
namespace Go.Proofs.YtmnhhomkglffcaaGreatDoor
open Go.RowKit Go.Maps Go.Sort Go.Shelf
set_option linter.unusedVariables false
set_option maxRecDepth 20000

/-- a place, or none -/
def IxPost (zs : List Int) (x : Int) (w : World) (e : Ending) (w' : World) : Prop := ∃ i : Int, e = .returned (.int .i64 i) ∧ decide (0 ≤ i) = hasB zs x ∧ w' = w
set_option maxHeartbeats 800000 in
theorem index_any {w : World} {a : Option Addr} {zs : List Int} (ha : Ints w a zs) (c : Nat) (hl : zs.length ≤ maxLen) (x : Int) :
    Calls Tryz.prog 73 #[.slice a zs.length c, .int .i64 x] w fun e w' => ∃ i : Int, e = .returned (.int .i64 i) ∧ decide (0 ≤ i) = hasB zs x ∧ w' = w := by
  have Ha := hid ha
  clear ha
  generalize hN : zs.length = N at *
  have HN := hid hN
  clear hN
  have hN2 : N ≤ 9223372036854775807 := by simpa [maxLen] using hl
  have Hend : Hid (∀ i : Int, decide (0 ≤ i) = hasB zs x → IxPost zs x w (.returned (.int .i64 i)) w) := fun i hi => ⟨i, rfl, hi, rfl⟩
  show Calls Tryz.prog 73 _ w (IxPost zs x w)
  go_enter Tryz.func73, Tryz.ntmps73
  go_wp2
  go_loop [8] (fun i => ∃ k : Nat, k ≤ N ∧ i = .int .i64 k ∧ ∀ z ∈ zs.take k, z ≠ x) (fun i => N - (intOf i).toNat)
  case atStart => exact ⟨0, Nat.zero_le _, rfl, by simp⟩
  case round =>
    obtain ⟨k, hk, rfl, hno⟩ := hrel
    have Hno := hid hno
    clear hno
    by_cases hlt : k < N
    · obtain ⟨b, o, ea, h0⟩ := Ha.out k (by rw [HN.out]; exact hlt)
      cases ea
      have Hg : Hid (zs[k]? = some (zs[k]'(by rw [HN.out]; exact hlt))) := List.getElem?_eq_getElem _
      generalize zs[k]'(by rw [HN.out]; exact hlt) = z at *
      by_cases he : x = z
      · have b1 : (x == z) = true := by simpa using he
        have Hc : Hid (hasB zs x = true) := by show _ = _; rw [hasB_iff, he]; exact List.mem_of_getElem? Hg.out
        clear he
        go_wp2
        go_ret
        exact Hend.out _ (by rw [Hc.out]; simp)
      · have b1 : (x == z) = false := by simpa using he
        have He := hid he
        clear he
        go_wp2
        go_round
        case rel => exact ⟨k + 1, by omega, by go_num, fun y hy => by
          rw [take_snoc_get Hg.out] at hy
          rcases List.mem_append.1 hy with hy | hy
          · exact Hno.out y hy
          · rw [List.mem_singleton] at hy; rw [hy]; exact fun e => He.out e.symm⟩
        case measure => simp [intOf]; omega
    · have e : k = N := by omega
      have Hc : Hid (hasB zs x = false) := by
        show _ = _
        rw [Bool.eq_false_iff]
        intro hc
        have := Hno.out x (by rw [List.take_of_length_le (by rw [HN.out]; omega)]; exact hasB_iff.1 hc)
        exact this rfl
      subst e
      go_wp2
      go_ret
      exact Hend.out _ (by rw [Hc.out]; simp)

set_option maxHeartbeats 800000 in
theorem contains_any {w : World} {a : Option Addr} {zs : List Int} (ha : Ints w a zs) (c : Nat) (hl : zs.length ≤ maxLen) (x : Int) :
    Calls Tryz.prog 36 #[.slice a zs.length c, .int .i64 x] w fun e w' => e = .returned (.bool (hasB zs x)) ∧ w' = w := by
  have Hi := hid (index_any ha c hl x)
  clear ha
  go_enter Tryz.func36, Tryz.ntmps36
  go_wp2_with (go_at_call 73; refine Hi.out.mono ?_; rintro e9 w2 ⟨i, rfl, hi, rfl⟩; have Hi2 := hid hi; clear hi)
  go_ret
  exact ⟨ret_bool Hi2.out, rfl⟩

/-- is a family one of these sessions? .. and of this client? -/
def inS (zs : List Int) (s : Fam.Sess) : Bool := hasB zs s.ses
def inC (cli : ByteArray) (zs : List Int) (s : Fam.Sess) : Bool := (s.cli.toList == cli.toList) && hasB zs s.ses
set_option maxHeartbeats 800000 in
theorem endS1_any (s : Fam.Sess) {zs : List Int} {sa : Option Addr} {sc : Nat} (b : Nat) (w : World) (hc0 : w.cell? ⟨b, 0, none⟩ = some (.slice sa zs.length sc)) (hi : Ints w sa zs) (hl : zs.length ≤ maxLen) :
    Calls Tryz.prog 35 #[.agg #[.int .i64 s.id, .int .i64 s.ses, .string s.cli, .int .u8 s.sco, .int .i64 s.nxt], .pointer (some ⟨b, 0, none⟩)] w fun e w' => e = .returned (.bool (inS zs s)) ∧ Below w.heap.size w w' := by
  have hb := World.block_lt_of_cell? _ _ hc0
  have hb1 : Below w.heap.size w (w.alloc (.cells #[.int .i64 s.id, .int .i64 s.ses, .string s.cli, .int .u8 s.sco, .int .i64 s.nxt] 35)) := (Below.refl _ _).alloc (Nat.le_refl _) _
  have Hc := hid (contains_any (hi.below hb1) sc hl s.ses)
  clear hi
  go_enter Tryz.func35, Tryz.ntmps35
  go_wp2_with (go_at_call 36; refine Hc.out.mono ?_; rintro e9 w2 ⟨rfl, rfl⟩)
  go_ret
  exact ⟨rfl, hb1⟩
theorem eg_endS1 : ∀ args w, (callFunc 35 args).run Tryz.prog w = .ok (.enter 35 args) w := enters_of Tryz.func35 (by kernel_rfl) rfl
set_option maxHeartbeats 800000 in
theorem endC1_any (s : Fam.Sess) (cli : ByteArray) {zs : List Int} {sa : Option Addr} {sc : Nat} (b0 b : Nat) (w : World) (hcl : w.cell? ⟨b0, 0, none⟩ = some (.string cli)) (hc0 : w.cell? ⟨b, 0, none⟩ = some (.slice sa zs.length sc)) (hi : Ints w sa zs) (hl : zs.length ≤ maxLen) :
    Calls Tryz.prog 66 #[.agg #[.int .i64 s.id, .int .i64 s.ses, .string s.cli, .int .u8 s.sco, .int .i64 s.nxt], .pointer (some ⟨b0, 0, none⟩), .pointer (some ⟨b, 0, none⟩)] w fun e w' => e = .returned (.bool (inC cli zs s)) ∧ Below w.heap.size w w' := by
  have hb := World.block_lt_of_cell? _ _ hc0
  have hb0 := World.block_lt_of_cell? _ _ hcl
  have hb1 : Below w.heap.size w (w.alloc (.cells #[.int .i64 s.id, .int .i64 s.ses, .string s.cli, .int .u8 s.sco, .int .i64 s.nxt] 35)) := (Below.refl _ _).alloc (Nat.le_refl _) _
  have Hc := hid (contains_any (hi.below hb1) sc hl s.ses)
  clear hi
  cases e1 : (s.cli.toList == cli.toList)
  · have e2 : inC cli zs s = false := by unfold inC; rw [e1]; rfl
    rw [e2]
    go_enter Tryz.func66, Tryz.ntmps66
    go_wp2_with (go_at_call 36; refine Hc.out.mono ?_; rintro e9 w2 ⟨rfl, rfl⟩)
    go_ret
    exact ⟨rfl, hb1⟩
  · have e2 : inC cli zs s = hasB zs s.ses := by unfold inC; rw [e1]; rfl
    rw [e2]
    go_enter Tryz.func66, Tryz.ntmps66
    go_wp2_with (go_at_call 36; refine Hc.out.mono ?_; rintro e9 w2 ⟨rfl, rfl⟩)
    go_ret
    exact ⟨rfl, hb1⟩
theorem eg_endC1 : ∀ args w, (callFunc 66 args).run Tryz.prog w = .ok (.enter 66 args) w := enters_of Tryz.func66 (by kernel_rfl) rfl

set_option maxHeartbeats 1600000 in
theorem endSessions_any {w : World} {B p mf mt n1 n2 : Nat} {T : Sto} (h : StoAt w B p mf mt n1 n2 T) (ok : StoOk T) (hln : T.fs.length ≤ 1000000000) (hlt : T.ts.length ≤ 1000000000) {sa : Option Addr} {zs : List Int} (hs : Ints w sa zs) (sc : Nat) (hl : zs.length ≤ maxLen) :
    Calls Tryz.prog 9 #[.pointer (some ⟨p, 0, none⟩), .slice sa zs.length sc] w fun e w' => ∃ v, e = .returned v ∧ w'.ownsRow w.heap.size 3 1 v (T.fs.filter (inS zs)).length (zCells (Fam.wantedIds T.fs (inS zs))) ∧ StoAt w' B p mf mt n1 n2 (tDrop T (inS zs)) ∧ Out (Mine p mf mt) w w' := by
  have hmf' : ∀ (fn : Fn) (first cap : Array Value) (w : World), (Instr.makeFunc fn first cap).run Tryz.prog w = .ok (.func fn first cap) w := fun _ _ _ _ => rfl
  obtain ⟨W, hW⟩ : ∃ W, W = w.alloc (.cells #[.slice sa zs.length sc] 23) := ⟨_, rfl⟩
  have hb1 : Below w.heap.size w W := by rw [hW]; exact (Below.refl _ w).alloc (Nat.le_refl _) _
  have t1 : W.heap[w.heap.size]? = some (.cells #[.slice sa zs.length sc] 23 (0, 0)) := by rw [hW]; exact (MapKept.heap_alloc w _).1
  have d1 := (Array.getElem?_eq_some_iff.1 t1).1
  have He := ends_any (h.below hb1) ok hln hlt (inS zs) 35 #[.pointer (some ⟨w.heap.size, 0, none⟩)] eg_endS1 (fun s hs' W' hW' => endS1_any s w.heap.size W' (cell_of_row _ _ 0 _ _ _ ((hW'.block _ d1).trans t1)) ((hs.below hb1).below hW') hl)
  have HE := hid He
  have HW := hid hW
  have HB := hid hb1
  clear h ok hs He hW t1 d1 hb1
  go_enter Tryz.func9, Tryz.ntmps9
  go_wp2_with (go_at_call 34; rw [← HW.out]; refine HE.out.mono ?_; rintro e9 w2 ⟨v, rfl, hrow, hst, ho⟩)
  go_ret
  exact ⟨_, rfl, hrow.mono HB.out.size, hst, (Out.of_below (P := Mine p mf mt) HB.out).trans ho (fun _ _ e => e)⟩

set_option maxHeartbeats 1600000 in
theorem endClient_any {w : World} {B p mf mt n1 n2 : Nat} {T : Sto} (h : StoAt w B p mf mt n1 n2 T) (ok : StoOk T) (hln : T.fs.length ≤ 1000000000) (hlt : T.ts.length ≤ 1000000000) (cli : ByteArray) {sa : Option Addr} {zs : List Int} (hs : Ints w sa zs) (sc : Nat) (hl : zs.length ≤ maxLen) :
    Calls Tryz.prog 28 #[.pointer (some ⟨p, 0, none⟩), .string cli, .slice sa zs.length sc] w fun e w' => ∃ v, e = .returned v ∧ w'.ownsRow w.heap.size 3 1 v (T.fs.filter (inC cli zs)).length (zCells (Fam.wantedIds T.fs (inC cli zs))) ∧ StoAt w' B p mf mt n1 n2 (tDrop T (inC cli zs)) ∧ Out (Mine p mf mt) w w' := by
  have hmf' : ∀ (fn : Fn) (first cap : Array Value) (w : World), (Instr.makeFunc fn first cap).run Tryz.prog w = .ok (.func fn first cap) w := fun _ _ _ _ => rfl
  obtain ⟨W, hW⟩ : ∃ W, W = (w.alloc (.cells #[.string cli] 9)).alloc (.cells #[.slice sa zs.length sc] 23) := ⟨_, rfl⟩
  have tb := two_blocks w #[.string cli] #[.slice sa zs.length sc] 9 23
  rw [← hW] at tb
  obtain ⟨t0, t1, hb1⟩ := tb
  have d0 := (Array.getElem?_eq_some_iff.1 t0).1
  have d1 := (Array.getElem?_eq_some_iff.1 t1).1
  have He := ends_any (h.below hb1) ok hln hlt (inC cli zs) 66 #[.pointer (some ⟨w.heap.size, 0, none⟩), .pointer (some ⟨w.heap.size + 1, 0, none⟩)] eg_endC1 (fun s hs' W' hW' => endC1_any s cli w.heap.size (w.heap.size + 1) W' (cell_of_row _ _ 0 _ _ _ ((hW'.block _ d0).trans t0)) (cell_of_row _ _ 0 _ _ _ ((hW'.block _ d1).trans t1)) ((hs.below hb1).below hW') hl)
  have HE := hid He
  have HW := hid hW
  have HB := hid hb1
  clear h ok hs He hW t0 t1 d0 d1 hb1
  go_enter Tryz.func28, Tryz.ntmps28
  go_wp2_with (go_at_call 34; rw [← HW.out]; refine HE.out.mono ?_; rintro e9 w2 ⟨v, rfl, hrow, hst, ho⟩)
  go_ret
  exact ⟨_, rfl, hrow.mono HB.out.size, hst, (Out.of_below (P := Mine p mf mt) HB.out).trans ho (fun _ _ e => e)⟩

/-- is a token over? -/
def overT (now : Int) (t : Tok.Sess) : Bool := !decide (now < t.unt)
def tSweep (T : Sto) (now : Int) : Sto := if timeErr now T.noted ≠ 0 then T else ⟨now, T.nf, T.fs, T.nt, T.ts.filter fun t => !overT now t⟩
theorem tSweep_ok {T : Sto} (ok : StoOk T) (now : Int) : StoOk (tSweep T now) := by
  unfold tSweep
  split
  · exact ok
  · rename_i h0
    have tt := timeErr_ok (by simpa using h0)
    exact ⟨ok.upf, ok.idf, ok.nf, ok.upt.sublist List.filter_sublist, fun s hs => ok.idt s (List.mem_filter.1 hs).1, ok.nt, ⟨tt.1, tt.2.1⟩, ok.nx, fun t ht => ok.tk t (List.mem_filter.1 ht).1, fun t ht => ok.tu t (List.mem_filter.1 ht).1⟩
set_option maxHeartbeats 800000 in
theorem sweep1_any (t : Tok.Sess) (now : Int) (b : Nat) (w : World) (hc0 : w.cell? ⟨b, 0, none⟩ = some (.int .i64 now)) :
    Calls Tryz.prog 68 #[.agg #[.int .i64 t.id, .int .i64 t.fam, .int .u8 t.sco, .int .i64 t.unt], .pointer (some ⟨b, 0, none⟩)] w fun e w' => e = .returned (.bool (overT now t)) ∧ Below w.heap.size w w' := by
  have hb := World.block_lt_of_cell? _ _ hc0
  have hb1 : Below w.heap.size w (w.alloc (.cells #[.int .i64 t.id, .int .i64 t.fam, .int .u8 t.sco, .int .i64 t.unt] 55)) := (Below.refl _ _).alloc (Nat.le_refl _) _
  have Hg := hid (fun W => isGood_any t.id t.fam t.sco t.unt now W)
  go_enter Tryz.func68, Tryz.ntmps68
  go_wp2_with (go_at_call 54; refine (Hg.out _).mono ?_; rintro e9 w2 ⟨rfl, hb2⟩)
  go_ret
  exact ⟨rfl, hb1.trans (hb2.mono (by simp))⟩
theorem eg_sweep1 : ∀ args w, (callFunc 68 args).run Tryz.prog w = .ok (.enter 68 args) w := enters_of Tryz.func68 (by kernel_rfl) rfl

set_option maxHeartbeats 1600000 in
theorem sweep_any {w : World} {B p mf mt n1 n2 : Nat} {T : Sto} (h : StoAt w B p mf mt n1 n2 T) (ok : StoOk T) (hlt : T.ts.length ≤ 1000000000) (now : Int) :
    Calls Tryz.prog 30 #[.pointer (some ⟨p, 0, none⟩), .int .i64 now] w fun e w' => (∃ y : Int, e = .returned (.tuple #[.int .i64 y, .int .i64 (timeErr now T.noted)])) ∧ StoAt w' B p mf mt n1 n2 (tSweep T now) ∧ Out (Mine p mf mt) w w' := by
  have hmf' : ∀ (fn : Fn) (first cap : Array Value) (w : World), (Instr.makeFunc fn first cap).run Tryz.prog w = .ok (.func fn first cap) w := fun _ _ _ _ => rfl
  obtain ⟨W, hW⟩ : ∃ W, W = w.alloc (.cells #[.int .i64 now] 3) := ⟨_, rfl⟩
  have hb1 : Below w.heap.size w W := by rw [hW]; exact (Below.refl _ w).alloc (Nat.le_refl _) _
  have t1 : W.heap[w.heap.size]? = some (.cells #[.int .i64 now] 3 (0, 0)) := by rw [hW]; exact (MapKept.heap_alloc w _).1
  have d1 := (Array.getElem?_eq_some_iff.1 t1).1
  have h1 := h.below hb1
  have Ht := hid (timeError_any h1 now)
  have c0 := h.c0
  have z0 := h.z 0
  have hp := h.lts.1
  have k0 := h1.c0
  have y0 := h1.z 0
  have s0 : W.cell? ⟨w.heap.size, 0, none⟩ = some (.int .i64 now) := cell_of_row _ _ 0 _ _ _ t1
  have hpW : p < W.heap.size := h1.lts.1
  have np : p ≠ w.heap.size := by omega
  have np2 : w.heap.size ≠ p := by omega
  obtain ⟨te, hte⟩ : ∃ te, te = timeErr now T.noted := ⟨_, rfl⟩
  rw [← hte] at Ht ⊢
  by_cases e0 : te = 0
  · have e2 : tSweep T now = ⟨now, T.nf, T.fs, T.nt, T.ts.filter fun t => !overT now t⟩ := by unfold tSweep; rw [if_neg (by rw [← hte]; simpa using e0)]
    rw [e2]
    obtain ⟨V, hV⟩ : ∃ V, V = W.setCell ⟨p, 0, none⟩ (.int .i64 now) := ⟨_, rfl⟩
    have hRV := h1.set0 now
    rw [← hV] at hRV
    have fV : V.heap[w.heap.size]? = some (.cells #[.int .i64 now] 3 (0, 0)) := by rw [hV]; exact (heap_setCell_other _ _ _ _ np2).trans t1
    have dV := (Array.getElem?_eq_some_iff.1 fV).1
    have oV : Out (Mine p mf mt) w V := by rw [hV]; exact (Out.of_below (P := Mine p mf mt) hb1).setCell _ _ (.inl rfl)
    have HD := hid (Tok.drop_any hRV.numt (by exact ok.upt) hlt (by exact ok.id2) (overT now) 68 #[.pointer (some ⟨w.heap.size, 0, none⟩)] eg_sweep1 (fun t ht W' hW' => sweep1_any t now w.heap.size W' (cell_of_row _ _ 0 _ _ _ ((hW'.block _ dV).trans fV))))
    have HV := hid hV
    have HW := hid hW
    have HRV := hid hRV
    have OV := hid oV
    subst e0
    clear h h1 ok hRV fV dV oV hV hW e2 hte t1 d1 hb1 c0 z0
    go_enter Tryz.func30, Tryz.ntmps30
    go_wp2_with (first
      | (go_at_call 52; rw [← HW.out]; refine Ht.out.mono ?_; rintro e9 w2 ⟨rfl, ew2⟩; subst w2)
      | (go_at_call 67; rw [← HV.out]; refine HD.out.mono ?_; rintro e9 w3 ⟨v3, rfl, hrow3, hnum3, ho3⟩; obtain ⟨a3, c3, e3, _⟩ := ints_of_own hrow3; subst e3; have R3 := hid hrow3; have N3 := hid hnum3; have O3 := hid ho3; clear hrow3 hnum3 ho3))
    go_ret2
    have l := HRV.out.lts
    exact ⟨⟨_, rfl⟩, ⟨(O3.out.block p l.1 HRV.out.pne.2).trans HRV.out.obj, HRV.out.mapf.keep (O3.out.block mf l.2.1 HRV.out.ne), N3.out.map, HRV.out.bp, HRV.out.bf, HRV.out.bt, HRV.out.ne⟩, OV.out.trans (O3.out.imp (Q := Mine p mf mt) (fun _ _ e => .inr (.inr e))) (fun _ _ e => e)⟩
  · have e2 : tSweep T now = T := by unfold tSweep; rw [if_pos (by rw [← hte]; exact e0)]
    rw [e2]
    have q4 : (te != 0) = true := by simpa using e0
    have HW := hid hW
    have H1 := hid h1
    have HB := hid hb1
    clear h h1 ok hW e2 hte t1 d1 hb1 e0 c0 z0
    go_enter Tryz.func30, Tryz.ntmps30
    go_wp2_with (go_at_call 52; rw [← HW.out]; refine Ht.out.mono ?_; rintro e9 w2 ⟨rfl, ew2⟩; subst w2)
    go_ret2
    exact ⟨⟨_, rfl⟩, H1.out, Out.of_below HB.out⟩
end Go.Proofs.YtmnhhomkglffcaaGreatDoor
