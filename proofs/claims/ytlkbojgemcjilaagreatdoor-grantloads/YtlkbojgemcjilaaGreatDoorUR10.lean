/- YtlkbojgemcjilaaGreatDoorUR9 + YtlkbojgemcjilaaGreatDoorUR10 -/
import Derived.Test.YtlkbojgemcjilaaGreatDoorUR8
import Derived.Deep.RegionHeld3
/- Grants: the reference's Narrow. -/
namespace Go.Proofs.YtlkbojgemcjilaaGreatDoor
open Go.RowKit Go.Maps Go.Shelf Go.Sort Go.Lib
set_option linter.unusedVariables false
set_option maxRecDepth 20000
theorem own_upd {w : World} {B sz g n c : Nat} {e : TypeId} {xs : List Value} (h : w.ownsRow B e sz (.slice (some ⟨g, 0, none⟩) n c) n xs) (i : Nat) (u : Value) : (w.setCell ⟨g, i, none⟩ u).ownsRow B e sz (.slice (some ⟨g, 0, none⟩) n c) n (xs.set i u) := by
  refine ⟨by rw [List.length_set]; exact h.1, ?_⟩
  rcases h.2 with ⟨e1, _⟩ | ⟨g2, cap, cur, e1, hb, hg, hc, hm, hs, ht⟩
  · cases e1
  · injection e1 with a1 a2 a3
    have a4 : g = g2 := by simpa using a1
    subst a4 a3
    refine .inr ⟨g, c, cur.setIfInBounds i u, rfl, hb, heap_setCell_same _ _ _ _ _ _ hg, hc, hm, by rw [Array.size_setIfInBounds]; exact hs, ?_⟩
    rw [Array.toList_setIfInBounds, List.take_set, ht]
theorem own_updO {w : World} {B sz g n : Nat} {e : TypeId} {v : Value} {xs : List Value} (h : w.ownsRow B e sz v n xs) (i : Nat) (u : Value) (hg : ∀ k, v.ownBlock = some k → k ≠ g) : (w.setCell ⟨g, i, none⟩ u).ownsRow B e sz v n xs := by
  refine ⟨h.1, ?_⟩
  rcases h.2 with h0 | ⟨g2, cap, cur, e1, hb, hg2, rest⟩
  · exact .inl h0
  · exact .inr ⟨g2, cap, cur, e1, hb, (heap_setCell_other _ _ _ _ (hg g2 (by rw [e1]; rfl))).trans hg2, rest⟩
theorem own_frozen {w : World} {B sz g n c : Nat} {e : TypeId} {xs : List Value} (h : w.ownsRow B e sz (.slice (some ⟨g, 0, none⟩) n c) n xs) (i : Nat) : w.frozen? ⟨g, i, none⟩ = false := by
  rcases h.2 with ⟨e1, _⟩ | ⟨g2, cap, cur, e1, hb, hg, _⟩
  · cases e1
  · injection e1 with a1 a2 a3
    have a4 : g = g2 := by simpa using a1
    subst a4
    exact frozen_of_row _ _ _ _ _ hg
theorem clCells_set (l : List Cl) (j : Nat) (h : j < l.length) (z : Nat) : (clCells l).set (j * 4 + 3) (.int .u8 (z : Int)) = clCells (l.set j ⟨l[j].t, l[j].n, l[j].r, z⟩) := by
  induction l generalizing j with
  | nil => simp at h
  | cons x l ih =>
    have e : clCells (x :: l) = [.string x.t, .string x.n, .string x.r, .int .u8 (x.sc : Int)] ++ clCells l := rfl
    cases j with
    | zero => rfl
    | succ j =>
      have h2 := ih j (by simpa using h)
      rw [e, List.set_append_right _ _ (by simp; omega)]
      simp only [List.length_cons, List.length_nil, List.set_cons_succ, List.getElem_cons_succ]
      rw [show (j + 1) * 4 + 3 - (0 + 1 + 1 + 1 + 1) = j * 4 + 3 by omega, h2]
      rfl
theorem coCells_set (l : List Co) (j : Nat) (h : j < l.length) (z : Nat) : (coCells l).set (j * 4 + 3) (.int .u8 (z : Int)) = coCells (l.set j ⟨l[j].t, l[j].u, l[j].n, z⟩) := by
  induction l generalizing j with
  | nil => simp at h
  | cons x l ih =>
    have e : coCells (x :: l) = [.string x.t, .string x.u, .string x.n, .int .u8 (x.sc : Int)] ++ coCells l := rfl
    cases j with
    | zero => rfl
    | succ j =>
      have h2 := ih j (by simpa using h)
      rw [e, List.set_append_right _ _ (by simp; omega)]
      simp only [List.length_cons, List.length_nil, List.set_cons_succ, List.getElem_cons_succ]
      rw [show (j + 1) * 4 + 3 - (0 + 1 + 1 + 1 + 1) = j * 4 + 3 by omega, h2]
      rfl
theorem GS.Ok.nar_none {s : GS} (h : s.Ok) {t n : ByteArray} (hf : findC s t n = none) (m : Nat) : s.nar t n m = s := by
  have h2 : ∀ c ∈ s.cs, isC t n c = false := fun c hc => by
    have := List.find?_eq_none.1 hf c hc
    simpa using this
  have h3 : ∀ a ∈ s.al, ofC t n a = false := fun a ha => by
    obtain ⟨_, _, _, c, hc, e1, e2, _⟩ := h.anames a ha
    have e : ofC t n a = isC t n c := by unfold ofC isC; rw [e1, e2]
    rw [e, h2 c hc]
  have e1 : s.cs.map (narCs t n m) = s.cs := by
    have := List.map_congr_left (f := narCs t n m) (g := id) (l := s.cs) fun c hc => by unfold narCs; rw [h2 c hc]; rfl
    rw [this, List.map_id]
  have e2 : s.al.map (narAs t n m) = s.al := by
    have := List.map_congr_left (f := narAs t n m) (g := id) (l := s.al) fun a ha => by unfold narAs; rw [h3 a ha]; rfl
    rw [this, List.map_id]
  show (⟨s.cs.map (narCs t n m), s.al.map (narAs t n m)⟩ : GS) = s
  rw [e1, e2]
theorem GS.Ok.nar_set {s : GS} (h : s.Ok) {t n : ByteArray} {j : Nat} (hj : j < s.cs.length) (hc : s.cs[j].t = t ∧ s.cs[j].n = n) (m : Nat) : s.cs.map (narCs t n m) = s.cs.set j ⟨s.cs[j].t, s.cs[j].n, s.cs[j].r, s.cs[j].sc &&& m⟩ := by
  refine List.ext_getElem (by simp) fun i h1 h2 => ?_
  have hi : i < s.cs.length := by simpa using h1
  rw [List.getElem_map, List.getElem_set]
  by_cases e : j = i
  · subst e
    rw [if_pos rfl]
    unfold narCs
    rw [if_pos (isC_iff.2 hc)]
    rfl
  · rw [if_neg e]
    unfold narCs
    rw [if_neg (fun h9 => ?_)]
    obtain ⟨f1, f2⟩ := isC_iff.1 h9
    rcases Nat.lt_or_gt_of_ne e with hlt | hlt
    · exact List.pairwise_iff_getElem.1 h.keys j i hj hi hlt ⟨hc.1.trans f1.symm, hc.2.trans f2.symm⟩
    · exact List.pairwise_iff_getElem.1 h.keys i j hi hj hlt ⟨f1.trans hc.1.symm, f2.trans hc.2.symm⟩
/-- so many of the consents narrowed -/
def narK (s : GS) (t n : ByteArray) (m k : Nat) : List Co := (s.al.take k).map (narAs t n m) ++ s.al.drop k
theorem narK_len (s : GS) (t n : ByteArray) (m k : Nat) : (narK s t n m k).length = s.al.length := by
  unfold narK
  rw [List.length_append, List.length_map, List.length_take, List.length_drop]
  omega
theorem narK_get (s : GS) (t n : ByteArray) (m : Nat) {k : Nat} (h : k < s.al.length) : (narK s t n m k)[k]'(by rw [narK_len]; exact h) = s.al[k] := by
  unfold narK
  rw [List.getElem_append_right (by simp; omega)]
  simp [Nat.min_eq_left (Nat.le_of_lt h)]
theorem narK_succ (s : GS) (t n : ByteArray) (m : Nat) {k : Nat} (h : k < s.al.length) : narK s t n m (k + 1) = (narK s t n m k).set k (narAs t n m s.al[k]) := by
  unfold narK
  rw [List.take_succ_eq_append_getElem h, List.map_append, List.append_assoc, List.set_append_right _ _ (by simp; omega)]
  congr 1
  rw [List.length_map, List.length_take, Nat.min_eq_left (Nat.le_of_lt h), Nat.sub_self, List.drop_eq_getElem_cons h]
  rfl
theorem narK_skip (s : GS) (t n : ByteArray) (m : Nat) {k : Nat} (h : k < s.al.length) (hf : ofC t n s.al[k] = false) : narK s t n m (k + 1) = narK s t n m k := by
  rw [narK_succ s t n m h]
  have e : narAs t n m s.al[k] = (narK s t n m k)[k]'(by rw [narK_len]; exact h) := by
    rw [narK_get s t n m h]
    unfold narAs
    rw [if_neg (by rw [hf]; simp)]
  rw [e, List.set_getElem_self]
set_option maxHeartbeats 16000000 in
theorem rnarrow_any {w : World} {B g : Nat} {s : GS} (h : RG w B g s) (hok : s.Ok) (hB : B ≤ w.heap.size) (hl : s.cs.length ≤ 1000000000000) (hl2 : s.al.length ≤ 1000000000000) (t n : ByteArray) (m : Nat) (hm : m ≤ 255) :
    Calls Tryz.prog 24 #[.pointer (some ⟨g, 0, none⟩), .string t, .string n, .int .u8 (m : Int)] w fun e w' => e = .returned (.tuple #[.int .u8 (narRs s t n m : Nat), .int .i64 (noneE (findC s t n).isSome)]) ∧ OutJ (fun k => k = g) w w' ∧ RG w' B g (s.nar t n m) := by
  have HCl := hid (rclient_any h (by omega) t n)
  unfold narRs
  cases hf : findC s t n with
  | none =>
    have hix : Hid (∀ i, IxC s t n i → decide (i < 0) = true) := fun i hi => by
      have h9 := ixC_none hi
      rw [hf] at h9
      have : decide ((0 : Int) ≤ i) = false := h9.symm
      rw [decide_eq_false_iff_not] at this
      simp; omega
    have hs := hid (hok.nar_none hf m)
    have H := hid h
    clear h hf hl hl2 hB
    go_enter Tryz.func24, Tryz.ntmps24
    go_wp2_with (go_at_call 59; refine HCl.out.mono ?_; rintro _ w9 ⟨i, rfl, hi, e9⟩; subst w9; have di := hix.out i hi; clear hi)
    go_ret2
    exact ⟨rfl, OutJ.of_below (Below.refl _ _), by rw [hs.out]; exact H.out⟩
  | some c0 =>
    have hcm := List.mem_of_find?_eq_some hf
    have hcs := (hok.names c0 hcm).2.2.2
    have hct := isC_iff.1 (List.find?_some hf)
    have hix : Hid (∀ i, IxC s t n i → ∃ j, ∃ hj : j < s.cs.length, i = (j : Int) ∧ s.cs[j] = c0) := fun i hi => by
      rcases hi with ⟨_, h9⟩ | ⟨j, hj, e, h9⟩
      · rw [hf] at h9; cases h9
      · rw [hf] at h9; exact ⟨j, hj, e, (Option.some.inj h9).symm⟩
    obtain ⟨z, hz⟩ : ∃ z, z = c0.sc &&& m := ⟨_, rfl⟩
    have hbz : bits BinOp.and IntKind.u8 (c0.sc : Int) (m : Int) = (z : Int) := by rw [hz]; exact and_bits _ _ (by omega) (by omega)
    have HZ := hid hz
    have Hct := hid hct
    obtain ⟨cv, av, h⟩ := h
    have HRA := hid h
    have HgB := hid hB
    have Hok := hid hok
    have Hl := hid (And.intro hl hl2)
    have c0' := h.c0
    clear h hf hB hl hl2 hcm hct hz hok
    simp only [Option.map_some, Option.getD_some, Option.isSome_some]
    rw [← HZ.out]
    go_enter Tryz.func24, Tryz.ntmps24
    go_wp2_with (first
      | (go_at_call 59; refine HCl.out.mono ?_; rintro _ w9 ⟨i, rfl, hi, e9⟩; subst w9; obtain ⟨j, hj, rfl, hjc⟩ := hix.out i hi; have dj : decide ((j : Int) < 0) = false := (by simp); have dj' : ¬ (j : Int) < 0 := (by omega); have Hj := hid hj; have Hjc : Hid (s.cs[j]'Hj.out = c0) := hjc; clear hi hjc hj)
      | (at_builtin; refine app_clS rfl (.tmp 22) (.tmp 26) rfl w.heap.size (.slice none 0 0) [] rfl (World.ownsRow_nil _ _ _ _) _ s.cs rfl (srcCl_of HRA.out.cs) (by have := Hl.out; simp; omega) (Nat.le_refl _) ?_; intro v5 w5 ho5 hg5; have B5 := hid ((Below.refl w.heap.size w).grown hg5 (Nat.le_refl _) (fun q hq => by cases hq)); have ho5 : w5.ownsRow w.heap.size 56 4 v5 s.cs.length (clCells s.cs) := ho5; obtain ⟨q, hq⟩ : ∃ q, q = s.cs.length := ⟨_, rfl⟩; rw [← hq] at ho5; obtain ⟨g5, m5, rfl⟩ := own_someU ho5 (by have := Hj.out; omega); have O5 := hid ho5; have Hq := hid hq; have hjq : (j : Int) < (q : Int) := (by have := Hj.out; omega); have hj0 : (0 : Int) ≤ (j : Int) := (by omega); have hcl := ho5.cellAt (j * 4 + 3) (by have := Hj.out; omega); rw [(clCells_get s.cs j Hj.out).2.2.2, Hjc.out] at hcl; have hge5 := (ho5.lt g5 rfl).1; have hrW := HRA.out.below B5.out; have c05 := hrW.c0; have f5 := own_frozen ho5 (j * 4 + 3); obtain ⟨cs9, hcs9⟩ : ∃ cs9, cs9 = s.cs.set j ⟨(s.cs[j]'Hj.out).t, (s.cs[j]'Hj.out).n, (s.cs[j]'Hj.out).r, z⟩ := ⟨_, rfl⟩; have B6 : Hid (Below w.heap.size w (w5.setCell ⟨g5, j * 4 + 3, none⟩ (.int .u8 (z : Int)))) := B5.out.setCell hge5 _; have O6 := own_upd ho5 (j * 4 + 3) (.int .u8 (z : Int)); rw [clCells_set s.cs j Hj.out z, ← hcs9] at O6; have e9l : cs9.length = q := (by rw [hcs9, List.length_set, hq]); have O6' : (w5.setCell ⟨g5, j * 4 + 3, none⟩ (.int .u8 (z : Int))).ownsRow w.heap.size 56 4 (.slice (some ⟨g5, 0, none⟩) q m5) cs9.length (clCells cs9) := (by rw [e9l]; exact O6); obtain ⟨k7, o7⟩ := HRA.out.setc B6.out HgB.out O6'; have hr6 := HRA.out.below B6.out; have f6 : (w5.setCell ⟨g5, j * 4 + 3, none⟩ (.int .u8 (z : Int))).frozen? ⟨g, 0, none⟩ = false := frozen_of_row _ _ _ _ _ hr6.obj; have f7 : ((w5.setCell ⟨g5, j * 4 + 3, none⟩ (.int .u8 (z : Int))).setCell ⟨g, 0, none⟩ (.slice (some ⟨g5, 0, none⟩) q m5)).frozen? ⟨g, 1, none⟩ = false := frozen_of_row _ _ _ _ _ k7.obj; have c17 := k7.c1; have K7 := hid k7; have O7 := hid o7; have HCS := hid hcs9; have Hge5 := hid hge5; have O5' := hid ho5; clear hq ho5 hg5 hrW c0' hcs9 O6 O6' e9l k7 o7 hr6 hge5; obtain ⟨W7, hW7⟩ : ∃ W7, W7 = (w5.setCell ⟨g5, j * 4 + 3, none⟩ (.int .u8 (z : Int))).setCell ⟨g, 0, none⟩ (.slice (some ⟨g5, 0, none⟩) q m5) := ⟨_, rfl⟩; rw [← hW7] at K7 O7; have HW7 := hid hW7.symm; clear hW7)
      | (at_builtin; rw [HW7.out]; refine app_coS rfl (.tmp 43) (.tmp 47) rfl W7.heap.size (.slice none 0 0) [] rfl (World.ownsRow_nil _ _ _ _) _ s.al rfl (srcCo_of K7.out.al) (by have := Hl.out; simp; omega) (Nat.le_refl _) ?_; intro v8 w8 ho8 hg8; have B8 := hid ((Below.refl W7.heap.size W7).grown hg8 (Nat.le_refl _) (fun q hq => by cases hq)); have ho8 : w8.ownsRow W7.heap.size 59 4 v8 s.al.length (coCells s.al) := ho8; obtain ⟨Na, hNa⟩ : ∃ q, q = s.al.length := ⟨_, rfl⟩; rw [← hNa] at ho8; obtain ⟨a8, m8, rfl⟩ := slice_out ho8; have O8 := hid ho8; have HNa := hid hNa; clear hNa ho8 hg8))
    have hNab : Na ≤ 1000000000000 := by have := Hl.out.2; have := HNa.out; omega
    clear f6 f7 c17 c05 f5 hcl
    go_loopw [13] (fun i wr => ∃ k : Nat, k ≤ Na ∧ i = .int .i64 (k : Int) ∧ wr.ownsRow W7.heap.size 59 4 (.slice a8 Na m8) Na (coCells (narK s t n m k)) ∧ Below W7.heap.size W7 wr) (fun i _ => Na - (intOf i).toNat)
    case atStart =>
      refine ⟨0, Nat.zero_le _, rfl, ?_, B8.out⟩
      have e : narK s t n m 0 = s.al := by unfold narK; simp
      rw [e]
      exact O8.out
    case round =>
      obtain ⟨k, hk, rfl, ho, hb⟩ := hrel
      have HO := hid ho
      have HB := hid hb
      by_cases hlt : k < Na
      · have g1 : (k : Int) < (Na : Int) := by omega
        have g1' : decide ((k : Int) < (Na : Int)) = true := by simp; omega
        have g0 : (0 : Int) ≤ (k : Int) := by omega
        have hkl : k < s.al.length := by have := HNa.out; omega
        obtain ⟨g8, c8, e8⟩ := own_someU ho (by omega)
        injection e8 with e81 _ e83
        subst e81 e83
        have ca := fun j (hj : j < 4) => ho.cellAt (k * 4 + j) (by omega)
        have hget := narK_get s t n m hkl
        obtain ⟨e0, e1, e2, e3⟩ := coCells_get (narK s t n m k) k (by rw [narK_len]; exact hkl)
        rw [hget] at e0 e1 e2 e3
        have q0 : wr.cell? ⟨g8, k * 4, none⟩ = some (.string s.al[k].t) := (ca 0 (by omega)).trans e0
        have q1 := (ca 1 (by omega)).trans e1
        have q2 := (ca 2 (by omega)).trans e2
        have q3 := (ca 3 (by omega)).trans e3
        have fr := own_frozen ho (k * 4 + 3)
        have hge8 := hid (ho.lt g8 rfl).1
        have hx255 := (Hok.out.anames _ (List.getElem_mem hkl)).2.2.1
        have Hset := hid (coCells_set (narK s t n m k) k (by rw [narK_len]; exact hkl))
        have Hsucc := hid (narK_succ s t n m hkl)
        have Hskip := hid (narK_skip s t n m hkl)
        rw [hget] at Hset
        obtain ⟨x, hx⟩ : ∃ x, x = s.al[k] := ⟨_, rfl⟩
        rw [← hx] at q0 q1 q2 q3 hx255 Hset Hsucc Hskip
        have Hlt := hid hlt
        clear ho hb hlt hk hkl ca hget e0 e1 e2 e3 hx
        obtain ⟨x1, x2, x3, x4⟩ := x
        dsimp only at q0 q1 q2 q3 hx255
        obtain ⟨y, hy⟩ : ∃ y, y = x4 &&& m := ⟨_, rfl⟩
        have hby : bits BinOp.and IntKind.u8 (x4 : Int) (m : Int) = (y : Int) := by rw [hy]; exact and_bits _ _ (by omega) (by omega)
        have Hy := hid hy
        clear hy hx255
        cases p0 : (x1.toList == t.toList)
        · have hf : Hid (ofC t n ⟨x1, x2, x3, x4⟩ = false) := by show _ = _; rw [ofC_eq, p0]; rfl
          go_wp2
          go_roundw
          case rel => exact ⟨k + 1, by have := Hlt.out; omega, by first | rfl | go_num, by rw [Hskip.out hf.out]; exact HO.out, HB.out⟩
          case measure => exact measU _ _ _ Hlt.out rfl
        · cases p1 : (x3.toList == n.toList)
          · have hf : Hid (ofC t n ⟨x1, x2, x3, x4⟩ = false) := by show _ = _; rw [ofC_eq, p0, p1]; rfl
            go_wp2
            go_roundw
            case rel => exact ⟨k + 1, by have := Hlt.out; omega, by first | rfl | go_num, by rw [Hskip.out hf.out]; exact HO.out, HB.out⟩
            case measure => exact measU _ _ _ Hlt.out rfl
          · have hf : Hid (ofC t n ⟨x1, x2, x3, x4⟩ = true) := by show _ = _; rw [ofC_eq, p0, p1]; rfl
            have hn9 : Hid (narAs t n m ⟨x1, x2, x3, x4⟩ = ⟨x1, x2, x3, y⟩) := by
              show _ = _
              unfold narAs
              rw [if_pos hf.out, Hy.out]
              rfl
            have HO9 := hid (own_upd HO.out (k * 4 + 3) (.int .u8 (y : Int)))
            rw [Hset.out y, ← hn9.out, ← Hsucc.out] at HO9
            have HB9 : Hid (Below W7.heap.size W7 (wr.setCell ⟨g8, k * 4 + 3, none⟩ (.int .u8 (y : Int)))) := HB.out.setCell hge8.out _
            go_wp2
            go_roundw
            case rel => exact ⟨k + 1, by have := Hlt.out; omega, by first | rfl | go_num, HO9.out, HB9.out⟩
            case measure => exact measU _ _ _ Hlt.out rfl
      · have e : k = Na := by omega
        subst e
        have g1 : ¬ (k : Int) < (k : Int) := by omega
        have g1' : decide ((k : Int) < (k : Int)) = false := by simp
        have hal : narK s t n m k = s.al.map (narAs t n m) := by
          unfold narK
          rw [List.take_of_length_le (by have := HNa.out; omega), List.drop_of_length_le (by have := HNa.out; omega), List.append_nil]
        rw [hal] at HO
        obtain ⟨al9, hal9⟩ : ∃ l, l = s.al.map (narAs t n m) := ⟨_, rfl⟩
        rw [← hal9] at HO
        have hl9 : k = al9.length := by rw [hal9, List.length_map]; exact HNa.out
        have HO9 : wr.ownsRow W7.heap.size 59 4 (.slice a8 k m8) al9.length (coCells al9) := by rw [← hl9]; exact HO.out
        obtain ⟨k9, o9⟩ := K7.out.seta HB.out (Nat.le_trans HgB.out (Nat.le_trans B6.out.size (by rw [← HW7.out]; simp))) HO9
        have hr9 := K7.out.below HB.out
        have fr9 : wr.frozen? ⟨g, 1, none⟩ = false := frozen_of_row _ _ _ _ _ hr9.obj
        have c19 := hr9.c1
        have K9 := hid k9
        have O9 := hid (O7.out.trans o9)
        have HAL := hid hal9
        have hz9 : (wr.setCell ⟨g, 1, none⟩ (.slice a8 k m8)).cell? ⟨g5, j * 4 + 3, none⟩ = some (.int .u8 (z : Int)) := by
          have h1 := k9.cs
          have hj9 : j < cs9.length := by rw [HCS.out, List.length_set]; exact Hj.out
          have h2 : (wr.setCell ⟨g, 1, none⟩ (.slice a8 k m8)).ownsRow B 56 4 (.slice (some ⟨g5, 0, none⟩) q m5) cs9.length (clCells cs9) := h1
          have e9 : q = cs9.length := by rw [HCS.out, List.length_set]; exact Hq.out
          rw [e9] at h2
          have h3 := h2.cellAt (j * 4 + 3) (by omega)
          rw [(clCells_get cs9 j hj9).2.2.2] at h3
          rw [h3]
          have : cs9[j].sc = z := by simp [HCS.out]
          rw [this]
        clear ho hb hlt hk hal hal9 hl9 HO9 k9 o9 hr9
        go_wp2
        go_ret2
        refine ⟨rfl, O9.out, ?_⟩
        have e1 : s.nar t n m = ⟨cs9, al9⟩ := by
          unfold GS.nar
          have hj9 := Hj.out
          have hc9 : (s.cs[j]'hj9).t = t ∧ (s.cs[j]'hj9).n = n := by rw [Hjc.out]; exact Hct.out
          rw [HCS.out, HAL.out, Hok.out.nar_set hj9 hc9 m, HZ.out, ← Hjc.out]
        rw [e1]
        exact ⟨_, _, K9.out⟩
end Go.Proofs.YtlkbojgemcjilaaGreatDoor

/- Grants: the reference's May. -/
namespace Go.Proofs.YtlkbojgemcjilaaGreatDoor
open Go.RowKit Go.Maps Go.Shelf Go.Sort Go.Lib
set_option linter.unusedVariables false
set_option maxRecDepth 20000
set_option maxHeartbeats 16000000 in
theorem rmay_any {w : World} {B g : Nat} {s : GS} (h : RG w B g s) (hok : s.Ok) (hl : s.cs.length ≤ 1000000000000) (hl2 : s.al.length ≤ 1000000000000) (t u n r : ByteArray) (sc : Nat) (hsc : sc ≤ 255) :
    Calls Tryz.prog 32 #[.pointer (some ⟨g, 0, none⟩), .agg #[.string t, .string u], .string n, .string r, .int .u8 (sc : Int)] w fun e w' => e = .returned (.int .i64 (mayRs s t u n r sc : Nat)) ∧ Below w.heap.size w w' := by
  obtain ⟨W, hW⟩ : ∃ W, W = w.alloc (.cells #[.string t, .string u] 30) := ⟨_, rfl⟩
  have b0 : Below w.heap.size w W := by rw [hW]; exact (Below.refl _ w).alloc (Nat.le_refl _) _
  have x0 : W.heap[w.heap.size]? = some (.cells #[.string t, .string u] 30 (0, 0)) := by rw [hW]; exact heap_allocN w _
  have h0 := h.below b0
  have HX := hid (fun (V : World) (hV : Below W.heap.size W V) => (show V.cell? ⟨w.heap.size, 0, none⟩ = some (.string t) ∧ V.cell? ⟨w.heap.size, 1, none⟩ = some (.string u) from by
    have x9 := (hV.block _ (heap_lt x0)).trans x0
    exact ⟨(cell_of_rowU _ _ 0 _ _ _ x9).trans rfl, (cell_of_rowU _ _ 1 _ _ _ x9).trans rfl⟩))
  have HCl := hid (fun (V : World) (hV : Below W.heap.size W V) => rclient_any (h0.below hV) (by omega) t n)
  have HCo := hid (fun (V : World) (hV : Below W.heap.size W V) => rconsent_any (h0.below hV) (by omega) t u n)
  have HW := hid hW.symm
  have B0 := hid b0
  obtain ⟨cv, av, hr⟩ := h0
  have HR := hid hr
  obtain ⟨acl0, Ncl, capcl, ecv, hNcl, hccl, hrcl⟩ := hr.clRow
  obtain ⟨aco0, Nco, capco, eav, hNco, hcco, hrco⟩ := hr.coRow
  have HNcl := hid hNcl
  have HRcl := hid hrcl
  have HNco := hid hNco
  have HRco := hid hrco
  have hNb1 : Ncl ≤ 1000000000000 := by omega
  have hNb2 : Nco ≤ 1000000000000 := by omega
  have hsz : W.heap.size = w.heap.size + 1 := by rw [hW]; simp
  have z : Hid (W.drew.cell? ⟨w.heap.size, 0, none⟩ = some (.string t) ∧ W.drew.cell? ⟨w.heap.size, 1, none⟩ = some (.string u)) := HX.out W.drew (below_dN _ W 1)
  have BZ : Hid (Below W.heap.size W W.drew) := below_dN _ W 1
  obtain ⟨E, hE⟩ : ∃ E, E = mayRs s t u n r sc := ⟨_, rfl⟩
  rw [← hE]
  unfold mayRs at hE
  have Hok := hid hok
  clear h b0 x0 hW hr ecv eav hNcl hccl hrcl hNco hcco hrco hl hl2 hok hsz
  have hcase : Hid ((findC s t n = none ∨ fA s t u n = none) ∧ E = 4 ∨ ∃ c a, findC s t n = some c ∧ fA s t u n = some a ∧ E = (if r = c.r then (if nar sc a.sc then 0 else 14) else 10)) := by
    show _ ∨ _
    cases hc : findC s t n with
    | none => rw [hc] at hE; exact .inl ⟨.inl rfl, hE⟩
    | some c =>
      cases ha : fA s t u n with
      | none => rw [hc, ha] at hE; exact .inl ⟨.inr rfl, hE⟩
      | some a => rw [hc, ha] at hE; exact .inr ⟨c, a, rfl, rfl, hE⟩
  clear hE
  go_enter Tryz.func32, Tryz.ntmps32
  go_wp2
  rw [HW.out]
  go_region_held3 (fun w9 => w9.cell? ⟨w.heap.size, 0, none⟩ = some (.string t) ∧ w9.cell? ⟨w.heap.size, 1, none⟩ = some (.string u))
    (exact z.out)
    (first
      | (go_at_call 59; refine (HCl.out _ (by exact BZ.out)).mono ?_; rintro _ w3 ⟨ii, rfl, hi, e3⟩; subst w3; have HI := hid hi; clear hi HCl)
      | (go_at_call 61; refine (HCo.out _ (by exact BZ.out)).mono ?_; rintro _ w4 ⟨jj, rfl, hj, b4⟩; have HJ := hid hj; have BZ := hid (Below.on' BZ.out b4); have z := hid (HX.out _ BZ.out); clear hj b4 HCo))
  have hI := ixC_none HI.out
  have hJ := ixA_some HJ.out
  rcases hcase.out with ⟨h1, hE⟩ | ⟨c, a, hc, ha, hE⟩
  · have he := hid hE
    by_cases hi0 : ii < 0
    · have d1 : decide (ii < 0) = true := by simpa using hi0
      clear hI hJ h1 hE
      go_wp2
      go_ret
      exact ⟨by rw [he.out]; rfl, B0.out.trans (BZ.out.mono B0.out.size)⟩
    · have hj0 : jj < 0 := by
        rcases h1 with h1 | h1
        · rw [h1] at hI
          have : decide ((0 : Int) ≤ ii) = false := hI.symm
          rw [decide_eq_false_iff_not] at this
          omega
        · rw [h1] at hJ
          have : decide ((0 : Int) ≤ jj) = false := hJ.symm
          rw [decide_eq_false_iff_not] at this
          omega
      have d1 : decide (ii < 0) = false := by simpa using hi0
      have d2 : decide (jj < 0) = true := by simpa using hj0
      clear hI hJ h1 hE
      go_wp2
      go_ret
      exact ⟨by rw [he.out]; rfl, B0.out.trans (BZ.out.mono B0.out.size)⟩
  · obtain ⟨k, hk, rfl, hck⟩ : ∃ k, ∃ hk : k < s.cs.length, ii = (k : Int) ∧ s.cs[k] = c := by
      rcases HI.out with ⟨_, h9⟩ | ⟨k, hk, e, h9⟩
      · rw [hc] at h9; cases h9
      · rw [hc] at h9; exact ⟨k, hk, e, (Option.some.inj h9).symm⟩
    obtain ⟨l, hl, rfl, hal⟩ : ∃ k, ∃ hk : k < s.al.length, jj = (k : Int) ∧ s.al[k] = a := by
      rcases HJ.out with ⟨_, h9⟩ | ⟨k, hk, e, h9⟩
      · rw [ha] at h9; cases h9
      · rw [ha] at h9; exact ⟨k, hk, e, (Option.some.inj h9).symm⟩
    have hasc := (Hok.out.anames a (fA_some ha).1).2.2.1
    have he := hid hE
    have d1 : decide ((k : Int) < 0) = false := by simp
    have d1' : ¬ (k : Int) < 0 := by omega
    have d2 : decide ((l : Int) < 0) = false := by simp
    have d2' : ¬ (l : Int) < 0 := by omega
    have kN : (k : Int) < (Ncl : Int) := by have := HNcl.out; omega
    have lN : (l : Int) < (Nco : Int) := by have := HNco.out; omega
    have k0 : (0 : Int) ≤ (k : Int) := by omega
    have l0 : (0 : Int) ≤ (l : Int) := by omega
    obtain ⟨b1, eb1, hat1⟩ := HRcl.out k hk
    obtain ⟨b2, eb2, hat2⟩ := HRco.out l hl
    rw [hck] at hat1
    rw [hal] at hat2
    obtain ⟨p9, p0, p1, p2, p3⟩ := hat1 _ BZ.out
    obtain ⟨q9, q0, q1, q2, q3⟩ := hat2 _ BZ.out
    subst eb1 eb2
    obtain ⟨cr, hcr⟩ : ∃ cr, cr = c.r := ⟨_, rfl⟩
    obtain ⟨asc, hasc9⟩ : ∃ asc, asc = a.sc := ⟨_, rfl⟩
    rw [← hcr] at p2 he
    rw [← hasc9] at q3 he hasc
    obtain ⟨z9, hz9⟩ : ∃ z9, z9 = sc &&& asc := ⟨_, rfl⟩
    have hbz : bits BinOp.and IntKind.u8 (sc : Int) (asc : Int) = (z9 : Int) := by rw [hz9]; exact and_bits _ _ (by omega) (by omega)
    have Hz9 := hid hz9
    clear hI hJ hE hc ha hat1 hat2 hck hal hcr hasc9 hz9 p0 p1 p3 q0 q1 q2 hk hl hcase
    cases e1 : (cr.toList == r.toList)
    · have he9 : Hid (E = 10) := by
        show E = 10
        rw [he.out, if_neg (fun e => by rw [e] at e1; simp at e1)]
      go_wp2
      go_ret
      exact ⟨by rw [he9.out]; rfl, B0.out.trans (BZ.out.mono B0.out.size)⟩
    · have hrr : r = cr := ((str_eqU _ _).2 (by simpa using e1)).symm
      have he8 : Hid (E = if nar sc asc then 0 else 14) := by
        show E = _
        rw [he.out, if_pos hrr]
      clear hrr
      cases hn : nar sc asc
      · have he9 : Hid (E = 14) := by
          show E = 14
          rw [he8.out, hn]; rfl
        have hne : ((z9 : Int) == (sc : Int)) = false := by
          have h9 : ¬ sc &&& asc = sc := of_decide_eq_false hn
          rw [← Hz9.out] at h9
          rw [beq_eq_false_iff_ne]
          omega
        clear hn
        go_wp2
        go_ret
        exact ⟨by rw [he9.out]; rfl, B0.out.trans (BZ.out.mono B0.out.size)⟩
      · have he9 : Hid (E = 0) := by
          show E = 0
          rw [he8.out, hn]; rfl
        have hzs : z9 = sc := by rw [Hz9.out]; exact of_decide_eq_true hn
        rw [hzs] at hbz
        clear hn hzs Hz9
        go_wp2
        go_ret
        exact ⟨by rw [he9.out]; rfl, B0.out.trans (BZ.out.mono B0.out.size)⟩
end Go.Proofs.YtlkbojgemcjilaaGreatDoor
