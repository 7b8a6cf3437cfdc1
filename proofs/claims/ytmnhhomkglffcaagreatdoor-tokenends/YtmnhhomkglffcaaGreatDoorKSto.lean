/- A store of families and tokens in memory; New, timeError, Families, grantError of package token, each by a contract. -/
import Derived.Test.YtmnhhomkglffcaaGreatDoorKFamT
import Derived.Test.YtmnhhomkglffcaaGreatDoorKTok
namespace Go.Proofs.YtmnhhomkglffcaaGreatDoor
open Go.RowKit Go.Maps Go.Sort Go.Shelf
set_option linter.unusedVariables false

/-- a store -/
structure Sto where
  noted : Int
  nf : Int
  fs : List Fam.Sess
  nt : Int
  ts : List Tok.Sess
def sto0 : Sto := ⟨0, 1, [], 1, []⟩
/-- scopes that are narrower -/
def nar (a b : Int) : Prop := a.toNat &&& b.toNat = a.toNat
theorem nar_refl (a : Int) : nar a a := Nat.and_self _
/-- what is so of every store -/
structure StoOk (T : Sto) : Prop where
  upf : T.fs.Pairwise (fun a b => a.id < b.id)
  idf : ∀ s ∈ T.fs, 1 ≤ s.id ∧ s.id < T.nf
  nf : 1 ≤ T.nf ∧ T.nf ≤ 1099511627777
  upt : T.ts.Pairwise (fun a b => a.id < b.id)
  idt : ∀ s ∈ T.ts, 1 ≤ s.id ∧ s.id < T.nt
  nt : 1 ≤ T.nt ∧ T.nt ≤ 1099511627777
  no : 0 ≤ T.noted ∧ T.noted ≤ 1099511627776
  nx : ∀ s ∈ T.fs, (1 ≤ s.nxt ∧ s.nxt ≤ 1099511627776) ∧ 0 ≤ s.sco ∧ s.sco ≤ 255
  tk : ∀ t ∈ T.ts, ∃ s ∈ T.fs, s.id = t.fam ∧ nar t.sco s.sco
  tu : ∀ t ∈ T.ts, (0 ≤ t.unt ∧ t.unt ≤ 1099511627776) ∧ 0 ≤ t.sco ∧ t.sco ≤ 255
theorem sto0_ok : StoOk sto0 := ⟨List.Pairwise.nil, fun s h => (by cases h), by decide, List.Pairwise.nil, fun s h => (by cases h), by decide, by decide, fun s h => (by cases h), fun s h => (by cases h), fun s h => (by cases h)⟩
theorem StoOk.id1 {T : Sto} (h : StoOk T) : ∀ s ∈ T.fs, 1 ≤ s.id ∧ s.id ≤ 1099511627776 := fun s hs => by
  have h1 := h.idf s hs
  have h2 := h.nf
  omega

theorem StoOk.id2 {T : Sto} (h : StoOk T) : ∀ s ∈ T.ts, 1 ≤ s.id ∧ s.id ≤ 1099511627776 := fun s hs => by
  have h1 := h.idt s hs
  have h2 := h.nt
  omega
theorem StoOk.fam {T : Sto} (h : StoOk T) : ∀ t ∈ T.ts, 1 ≤ t.fam ∧ t.fam < T.nf := fun t ht => by
  obtain ⟨s, hs, e, _⟩ := h.tk t ht
  have h1 := h.idf s hs
  omega

/-- a store in memory -/
structure StoAt (w : World) (B p mf mt n1 n2 : Nat) (T : Sto) : Prop where
  obj : w.heap[p]? = some (.cells #[.int .i64 T.noted, .int .i64 T.nf, .map (some mf), .int .i64 T.nt, .map (some mt)] 59 (0, 0))
  mapf : Fam.SMap w mf n1 T.fs
  mapt : Tok.SMap w mt n2 T.ts
  bp : B ≤ p
  bf : B ≤ mf
  bt : B ≤ mt
  ne : mf ≠ mt
theorem StoAt.c0 {w : World} {B p mf mt n1 n2 : Nat} {T : Sto} (h : StoAt w B p mf mt n1 n2 T) : w.cell? ⟨p, 0, none⟩ = some (.int .i64 T.noted) := cell_of_row _ _ 0 _ _ _ h.obj
theorem StoAt.z {w : World} {B p mf mt n1 n2 : Nat} {T : Sto} (h : StoAt w B p mf mt n1 n2 T) (j : Nat) : w.frozen? ⟨p, j, none⟩ = false := frozen_of_row _ _ j _ _ h.obj
theorem StoAt.numf {w : World} {B p mf mt n1 n2 : Nat} {T : Sto} (h : StoAt w B p mf mt n1 n2 T) : Fam.NumAt w p 1 mf n1 T.nf T.fs := ⟨cell_of_row _ _ 1 _ _ _ h.obj, cell_of_row _ _ 2 _ _ _ h.obj, h.z, h.mapf⟩
theorem StoAt.numt {w : World} {B p mf mt n1 n2 : Nat} {T : Sto} (h : StoAt w B p mf mt n1 n2 T) : Tok.NumAt w p 3 mt n2 T.nt T.ts := ⟨cell_of_row _ _ 3 _ _ _ h.obj, cell_of_row _ _ 4 _ _ _ h.obj, h.z, h.mapt⟩
theorem StoAt.lts {w : World} {B p mf mt n1 n2 : Nat} {T : Sto} (h : StoAt w B p mf mt n1 n2 T) : p < w.heap.size ∧ mf < w.heap.size ∧ mt < w.heap.size := ⟨h.numf.lts.1, h.numf.lts.2, h.numt.lts.2⟩
theorem StoAt.keep {w w' : World} {B p mf mt n1 n2 : Nat} {T : Sto} (h : StoAt w B p mf mt n1 n2 T) (hp : w'.heap[p]? = w.heap[p]?) (hf : w'.heap[mf]? = w.heap[mf]?) (ht : w'.heap[mt]? = w.heap[mt]?) : StoAt w' B p mf mt n1 n2 T := ⟨hp.trans h.obj, h.mapf.keep hf, h.mapt.keep ht, h.bp, h.bf, h.bt, h.ne⟩
theorem StoAt.below {w w' : World} {B p mf mt n1 n2 : Nat} {T : Sto} (h : StoAt w B p mf mt n1 n2 T) (hb : Below w.heap.size w w') : StoAt w' B p mf mt n1 n2 T := h.keep (hb.block p h.lts.1) (hb.block mf h.lts.2.1) (hb.block mt h.lts.2.2)
theorem StoAt.mono {w : World} {B B' p mf mt n1 n2 : Nat} {T : Sto} (h : StoAt w B p mf mt n1 n2 T) (hB : B' ≤ B) : StoAt w B' p mf mt n1 n2 T := ⟨h.obj, h.mapf, h.mapt, Nat.le_trans hB h.bp, Nat.le_trans hB h.bf, Nat.le_trans hB h.bt, h.ne⟩
theorem StoAt.pne {w : World} {B p mf mt n1 n2 : Nat} {T : Sto} (h : StoAt w B p mf mt n1 n2 T) : p ≠ mf ∧ p ≠ mt := ⟨h.numf.pne, h.numt.pne⟩

set_option maxHeartbeats 800000 in
theorem new_any (w : World) : Calls Tryz.prog 4 #[] w fun e w' => ∃ p mf mt, e = .returned (.pointer (some ⟨p, 0, none⟩)) ∧ StoAt w' w.heap.size p mf mt 0 0 sto0 ∧ Below w.heap.size w w' := by
  go_enter Tryz.func4, Tryz.ntmps4
  go_wp2_with (first
    | (go_at_call 14; refine (Fam.newNum_any _ _).mono ?_; rintro e w1 ⟨mf, rfl, hm1, hmb1, hb1⟩)
    | (go_at_call 15; refine (Tok.newNum_any _ _).mono ?_; rintro e w2 ⟨mt, rfl, hm2, hmb2, hb2⟩))
  go_ret
  have hb12 : Below w.heap.size w w2 := Below.on' hb1 hb2
  have hm1' := hm1.keep (hb2.block mf hm1.lt)
  exact ⟨_, mf, mt, rfl, ⟨(MapKept.heap_alloc w2 _).1, hm1'.keep ((MapKept.heap_alloc w2 _).2 mf hm1'.lt), hm2.keep ((MapKept.heap_alloc w2 _).2 mt hm2.lt), hb12.size, hmb1, Nat.le_trans hb1.size hmb2, by have := hm1.lt; omega⟩, hb12.alloc hb12.size _⟩

set_option maxHeartbeats 800000 in
theorem timeError_any {w : World} {B p mf mt n1 n2 : Nat} {T : Sto} (h : StoAt w B p mf mt n1 n2 T) (now : Int) :
    Calls Tryz.prog 52 #[.pointer (some ⟨p, 0, none⟩), .int .i64 now] w fun e w' => e = .returned (.int .i64 (timeErr now T.noted)) ∧ w' = w := by
  have c0 := h.c0
  clear h
  go_enter Tryz.func52, Tryz.ntmps52
  go_wp2_with (go_at_call 82; refine (timeErr_any _ _ _).mono ?_; rintro e w1 ⟨rfl, rfl⟩)
  go_ret
  exact ⟨rfl, rfl⟩

/-- whose family -/
def sesB (x : Int) (s : Fam.Sess) : Bool := s.ses == x
set_option maxHeartbeats 800000 in
theorem families1_any (s : Fam.Sess) (x : Int) (b : Nat) (w : World) (hc0 : w.cell? ⟨b, 0, none⟩ = some (.int .i64 x)) :
    Calls Tryz.prog 41 #[.agg #[.int .i64 s.id, .int .i64 s.ses, .string s.cli, .int .u8 s.sco, .int .i64 s.nxt], .pointer (some ⟨b, 0, none⟩)] w fun e w' => e = .returned (.bool (sesB x s)) ∧ Below w.heap.size w w' := by
  have hb := World.block_lt_of_cell? _ _ hc0
  go_enter Tryz.func41, Tryz.ntmps41
  go_wp2
  all_goals go_ret
  all_goals exact ⟨ret_bool (by unfold sesB; simp [*]), (Below.refl _ _).alloc (Nat.le_refl _) _⟩
theorem eg_families1 : ∀ args w, (callFunc 41 args).run Tryz.prog w = .ok (.enter 41 args) w := enters_of Tryz.func41 (by kernel_rfl) rfl

set_option maxHeartbeats 800000 in
theorem families_any {w : World} {B p mf mt n1 n2 : Nat} {T : Sto} (h : StoAt w B p mf mt n1 n2 T) (ok : StoOk T) (hln : T.fs.length ≤ 1000000000) (x : Int) :
    Calls Tryz.prog 12 #[.pointer (some ⟨p, 0, none⟩), .int .i64 x] w fun e w' => ∃ v, e = .returned v ∧ w'.ownsRow w.heap.size 35 5 v (T.fs.filter (sesB x)).length (Fam.sCells (T.fs.filter (sesB x))) ∧ Below w.heap.size w w' := by
  have hmf' : ∀ (fn : Fn) (first cap : Array Value) (w : World), (Instr.makeFunc fn first cap).run Tryz.prog w = .ok (.func fn first cap) w := fun _ _ _ _ => rfl
  have hb2 : Below w.heap.size w (w.alloc (.cells #[.int .i64 x] 3)) := (Below.refl _ w).alloc (Nat.le_refl _) _
  have Ht := hid (Fam.things_any (h.below hb2).numf ok.upf hln ok.id1 (sesB x) 41 #[.pointer (some ⟨w.heap.size, 0, none⟩)] eg_families1 (fun s hs W hW => by
    refine families1_any s x w.heap.size W ?_
    rw [hW.cell (p := ⟨w.heap.size, 0, none⟩) (by simp), World.cell?_alloc_at _ _ _ _ rfl]; rfl))
  clear h
  go_enter Tryz.func12, Tryz.ntmps12
  go_wp2_with (go_at_call 40; refine Ht.out.mono ?_; rintro e w1 ⟨v, rfl, hrow, hb1⟩)
  go_ret
  exact ⟨_, rfl, hrow.mono (by simp), hb2.trans (hb1.mono (by simp))⟩

/-- the error of Grant -/
def grantErr (T : Sto) (ses : Int) (cli : ByteArray) (now : Int) : Int :=
  if ses < 1 ∨ ¬ (0 ≤ now ∧ now ≤ 1099511627776) then 2
  else if nameB cli.data.toList = false then 8
  else if timeErr now T.noted ≠ 0 then timeErr now T.noted
  else if 1099511627777 ≤ T.nf ∨ 1099511627777 ≤ T.nt then 7
  else if 2 ≤ (T.fs.filter (sesB ses)).length then 23 else 0

set_option maxHeartbeats 1600000 in
theorem grantError_any {w : World} {B p mf mt n1 n2 : Nat} {T : Sto} (h : StoAt w B p mf mt n1 n2 T) (ok : StoOk T) (hln : T.fs.length ≤ 1000000000) (ses : Int) (cli : ByteArray) (now : Int) (hc : cli.size ≤ maxLen) :
    Calls Tryz.prog 47 #[.pointer (some ⟨p, 0, none⟩), .int .i64 ses, .string cli, .int .i64 now] w fun e w' => e = .returned (.int .i64 (grantErr T ses cli now)) ∧ Below w.heap.size w w' := by
  have c0 := h.c0
  have H := hid h
  have Hfam := hid (families_any h ok hln ses)
  have Hff := hid (Fam.full_any h.numf)
  have Hft := hid (Tok.full_any h.numt)
  have Hflen := hid (List.length_filter_le (sesB ses) T.fs)
  clear h
  by_cases h1 : ses < 1
  · have e1 : grantErr T ses cli now = 2 := by unfold grantErr; rw [if_pos (Or.inl h1)]
    rw [e1]
    have g1 : decide (ses < 1) = true := by simpa using h1
    go_enter Tryz.func47, Tryz.ntmps47
    go_wp2
    go_ret
    exact ⟨rfl, Below.refl _ _⟩
  · have g1 : decide (ses < 1) = false := by simpa using h1
    by_cases h2 : 0 ≤ now ∧ now ≤ 1099511627776
    · cases h3 : nameB cli.data.toList
      · have e1 : grantErr T ses cli now = 8 := by unfold grantErr; rw [if_neg (by simp [h1, h2]), if_pos h3]
        rw [e1]
        go_enter Tryz.func47, Tryz.ntmps47
        go_wp2_with (first
          | (go_at_call 80; refine (isTime_any _ _).mono ?_; rintro e w1 ⟨rfl, rfl⟩; rw [decide_eq_true h2])
          | (go_at_call 81; refine (isName_any _ _ (by assumption)).mono ?_; rintro e w1 ⟨rfl, rfl⟩; rw [h3]))
        go_ret
        exact ⟨rfl, Below.refl _ _⟩
      · obtain ⟨te, hte⟩ : ∃ te, te = timeErr now T.noted := ⟨_, rfl⟩
        have Hte := hid hte
        by_cases h4 : te = 0
        · by_cases h5 : 1099511627777 ≤ T.nf
          · have e1 : grantErr T ses cli now = 7 := by unfold grantErr; rw [if_neg (by simp [h1, h2]), if_neg (by simp [h3]), ← hte, if_neg (by simp [h4]), if_pos (Or.inl h5)]
            rw [e1]
            clear hte e1
            go_enter Tryz.func47, Tryz.ntmps47
            go_wp2_with (first
              | (go_at_call 80; refine (isTime_any _ _).mono ?_; rintro e w1 ⟨rfl, rfl⟩; rw [decide_eq_true h2])
              | (go_at_call 81; refine (isName_any _ _ (by assumption)).mono ?_; rintro e w1 ⟨rfl, rfl⟩; rw [h3])
              | (go_at_call 82; refine (timeErr_any _ _ _).mono ?_; rintro e w1 ⟨rfl, rfl⟩; rw [← Hte.out, h4])
              | (go_at_call 83; refine Hff.out.mono ?_; rintro e w1 ⟨rfl, rfl⟩; rw [decide_eq_true h5]))
            go_ret
            exact ⟨rfl, Below.refl _ _⟩
          · have H5 : Hid (decide (1099511627777 ≤ T.nf) = false) := decide_eq_false h5
            by_cases h6 : 1099511627777 ≤ T.nt
            · have e1 : grantErr T ses cli now = 7 := by unfold grantErr; rw [if_neg (by simp [h1, h2]), if_neg (by simp [h3]), ← hte, if_neg (by simp [h4]), if_pos (Or.inr h6)]
              rw [e1]
              clear hte e1
              go_enter Tryz.func47, Tryz.ntmps47
              go_wp2_with (first
                | (go_at_call 80; refine (isTime_any _ _).mono ?_; rintro e w1 ⟨rfl, rfl⟩; rw [decide_eq_true h2])
                | (go_at_call 81; refine (isName_any _ _ (by assumption)).mono ?_; rintro e w1 ⟨rfl, rfl⟩; rw [h3])
                | (go_at_call 82; refine (timeErr_any _ _ _).mono ?_; rintro e w1 ⟨rfl, rfl⟩; rw [← Hte.out, h4])
                | (go_at_call 83; refine Hff.out.mono ?_; rintro e w1 ⟨rfl, rfl⟩; rw [H5.out])
                | (go_at_call 62; refine Hft.out.mono ?_; rintro e w1 ⟨rfl, rfl⟩; rw [decide_eq_true h6]))
              go_ret
              exact ⟨rfl, Below.refl _ _⟩
            · have H6 : Hid (decide (1099511627777 ≤ T.nt) = false) := decide_eq_false h6
              obtain ⟨L, hL⟩ : ∃ L, L = (T.fs.filter (sesB ses)).length := ⟨_, rfl⟩
              have e1 : grantErr T ses cli now = if 2 ≤ L then 23 else 0 := by unfold grantErr; rw [if_neg (by simp [h1, h2]), if_neg (by simp [h3]), ← hte, if_neg (by simp [h4]), if_neg (by simp; omega), hL]
              rw [e1]
              have HL := hid hL
              clear hL e1 hte
              go_enter Tryz.func47, Tryz.ntmps47
              go_wp2_with (first
                | (go_at_call 80; refine (isTime_any _ _).mono ?_; rintro e w1 ⟨rfl, rfl⟩; rw [decide_eq_true h2])
                | (go_at_call 81; refine (isName_any _ _ (by assumption)).mono ?_; rintro e w1 ⟨rfl, rfl⟩; rw [h3])
                | (go_at_call 82; refine (timeErr_any _ _ _).mono ?_; rintro e w1 ⟨rfl, rfl⟩; rw [← Hte.out, h4])
                | (go_at_call 83; refine Hff.out.mono ?_; rintro e w1 ⟨rfl, rfl⟩; rw [H5.out])
                | (go_at_call 62; refine Hft.out.mono ?_; rintro e w1 ⟨rfl, rfl⟩; rw [H6.out])
                | (go_at_call 12; refine Hfam.out.mono ?_; rintro e w9 ⟨v9, rfl, hrow9, hb9⟩; obtain ⟨a9, c9, rfl⟩ : ∃ a9 c9, v9 = .slice a9 L c9 := (by
                    rcases hrow9.2 with ⟨rfl, h0⟩ | ⟨g, cp, cur, rfl, _⟩
                    · exact ⟨none, 0, by rw [HL.out, h0]⟩
                    · exact ⟨_, cp, by rw [HL.out]⟩)))
              all_goals go_ret
              all_goals exact ⟨by simp [*] <;> omega, hb9⟩
        · have e1 : grantErr T ses cli now = te := by unfold grantErr; rw [if_neg (by simp [h1, h2]), if_neg (by simp [h3]), ← hte, if_pos (by simpa using h4)]
          rw [e1]
          have q4 : (te != 0) = true := by simpa using h4
          clear hte e1
          go_enter Tryz.func47, Tryz.ntmps47
          go_wp2_with (first
            | (go_at_call 80; refine (isTime_any _ _).mono ?_; rintro e w1 ⟨rfl, rfl⟩; rw [decide_eq_true h2])
            | (go_at_call 81; refine (isName_any _ _ (by assumption)).mono ?_; rintro e w1 ⟨rfl, rfl⟩; rw [h3])
            | (go_at_call 82; refine (timeErr_any _ _ _).mono ?_; rintro e w1 ⟨rfl, rfl⟩; rw [← Hte.out]))
          go_ret
          exact ⟨rfl, Below.refl _ _⟩
    · have e1 : grantErr T ses cli now = 2 := by unfold grantErr; rw [if_pos (Or.inr h2)]
      rw [e1]
      go_enter Tryz.func47, Tryz.ntmps47
      go_wp2_with (go_at_call 80; refine (isTime_any _ _).mono ?_; rintro e w1 ⟨rfl, rfl⟩; rw [decide_eq_false h2])
      go_ret
      exact ⟨rfl, Below.refl _ _⟩
end Go.Proofs.YtmnhhomkglffcaaGreatDoor
