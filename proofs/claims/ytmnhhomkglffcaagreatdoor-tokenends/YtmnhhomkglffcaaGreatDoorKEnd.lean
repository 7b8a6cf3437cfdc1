/- Family, end and End of package token, each by a contract. -/
import Derived.Test.YtmnhhomkglffcaaGreatDoorKGrant2
namespace Go.Proofs.YtmnhhomkglffcaaGreatDoor
open Go.RowKit Go.Maps Go.Sort Go.Shelf
set_option linter.unusedVariables false
set_option maxRecDepth 20000

/-- is a family there? -/
def thereB (fs : List Fam.Sess) (id : Int) : Bool := fs.any fun s => s.id == id
theorem there_iff (fs : List Fam.Sess) (id : Int) : thereB fs id = true ↔ ∃ s ∈ fs, s.id = id := by simp [thereB]
/-- a store without the families that are wanted -/
def tDrop (T : Sto) (f : Fam.Sess → Bool) : Sto := ⟨T.noted, T.nf, T.fs.filter (fun s => !f s), T.nt, T.ts.filter fun t => thereB (T.fs.filter fun s => !f s) t.fam⟩
theorem tDrop_ok {T : Sto} (ok : StoOk T) (f : Fam.Sess → Bool) : StoOk (tDrop T f) :=
  ⟨ok.upf.sublist List.filter_sublist, fun s hs => ok.idf s (List.mem_filter.1 hs).1, ok.nf, ok.upt.sublist List.filter_sublist, fun s hs => ok.idt s (List.mem_filter.1 hs).1, ok.nt, ok.no, fun s hs => ok.nx s (List.mem_filter.1 hs).1,
   fun t ht => by
    obtain ⟨h1, h2⟩ := List.mem_filter.1 ht
    obtain ⟨s, hs, e⟩ := (there_iff _ _).1 h2
    obtain ⟨s', hs', e', hn⟩ := ok.tk t h1
    have hs1 := (List.mem_filter.1 hs).1
    have : s = s' := by
      by_cases h9 : s = s'
      · exact h9
      · exact absurd (e.trans e'.symm) (by
          have hp : T.fs.Pairwise (fun a b => a.id ≠ b.id) := ok.upf.imp (fun h => by omega)
          intro e9
          exact h9 (Nums1.eq (num := Fam.Sess.id) hp hs1 hs' e9))
    exact ⟨s, hs, e, this ▸ hn⟩, fun t ht => ok.tu t (List.mem_filter.1 ht).1⟩

set_option maxHeartbeats 1600000 in
theorem end1_any (t : Tok.Sess) {w : World} {B p mf mt n1 n2 b : Nat} {T : Sto} (h : StoAt w B p mf mt n1 n2 T) (ht : 1 ≤ t.fam ∧ t.fam ≤ 1099511627776) (hc0 : w.cell? ⟨b, 0, none⟩ = some (.pointer (some ⟨p, 0, none⟩))) :
    Calls Tryz.prog 72 #[.agg #[.int .i64 t.id, .int .i64 t.fam, .int .u8 t.sco, .int .i64 t.unt], .pointer (some ⟨b, 0, none⟩)] w fun e w' => e = .returned (.bool (!thereB T.fs t.fam)) ∧ Below w.heap.size w w' := by
  have hb := World.block_lt_of_cell? _ _ hc0
  have hp := h.lts.1
  have hf := h.lts.2.1
  have b1 : Below w.heap.size w (w.alloc (.cells #[.int .i64 t.id, .int .i64 t.fam, .int .u8 t.sco, .int .i64 t.unt] 55)).drew := ((Below.refl _ w).alloc (Nat.le_refl _) _).drew
  have b2 : Below w.heap.size w ((w.alloc (.cells #[.int .i64 t.id, .int .i64 t.fam, .int .u8 t.sco, .int .i64 t.unt] 55)).alloc (.cells #[.int .i64 0, .int .i64 0, .string ⟨#[]⟩, .int .u8 0, .int .i64 0] 35)).drew := (((Below.refl _ w).alloc (Nat.le_refl _) _).alloc (by simp) _).drew
  have h1 := h.below b1
  have h2 := h.below b2
  have k2 : w.cell? ⟨p, 2, none⟩ = some (.map (some mf)) := h.numf.c1
  have hkey : keyOf Tryz.prog 3 (.int .i64 t.fam) = some (zk t.fam) := zkey (by omega) (by omega)
  cases hth : thereB T.fs t.fam
  · have hno : ∀ s ∈ T.fs, s.id ≠ t.fam := fun s hs e => by rw [(there_iff _ _).2 ⟨s, hs, e⟩] at hth; cases hth
    have hl := h1.mapf.look_out intKeyed Tryz.underlying46 (Fam.sessZero _) (Fam.sessR_mk Fam.sess0) Fam.sessR_inv hno hkey
    have hl2 := h2.mapf.look_out intKeyed Tryz.underlying46 (Fam.sessZero _) (Fam.sessR_mk Fam.sess0) Fam.sessR_inv hno hkey
    unfold Fam.sessV Fam.sess0 at hl hl2
    clear h h1 h2 b1 b2 hno hkey hth
    go_enter Tryz.func72, Tryz.ntmps72
    go_wp2
    go_region
    all_goals (try go_wp2)
    all_goals
      go_ret
      exact ⟨rfl, (((Below.refl _ w).alloc (Nat.le_refl _) _).alloc (by simp) _).drew⟩
  · obtain ⟨s, hs, e⟩ := (there_iff _ _).1 hth
    have hl := (h1.mapf.look_in intKeyed Tryz.underlying46 (Fam.sessZero _) (Fam.sessR_mk Fam.sess0) Fam.sessR_inv hs (e ▸ hkey)).1
    have hl2 := (h2.mapf.look_in intKeyed Tryz.underlying46 (Fam.sessZero _) (Fam.sessR_mk Fam.sess0) Fam.sessR_inv hs (e ▸ hkey)).1
    unfold Fam.sessV at hl hl2
    rw [e] at hl hl2
    clear h h1 h2 b1 b2 hkey hth hs
    go_enter Tryz.func72, Tryz.ntmps72
    go_wp2
    go_region
    all_goals (try go_wp2)
    all_goals
      go_ret
      exact ⟨rfl, (((Below.refl _ w).alloc (Nat.le_refl _) _).alloc (by simp) _).drew⟩
theorem eg_end1 : ∀ args w, (callFunc 72 args).run Tryz.prog w = .ok (.enter 72 args) w := enters_of Tryz.func72 (by kernel_rfl) rfl

theorem own_out2 {w w' : World} {P : Nat → Prop} {B : Nat} {e : TypeId} {size : Nat} {v : Value} {n : Nat} {xs : List Value} (h : w.ownsRow B e size v n xs) (ho : Out P w w') (hp : ∀ k, P k → k < B) : w'.ownsRow B e size v n xs := by
  refine ⟨h.1, ?_⟩
  rcases h.2 with h0 | ⟨g, cap, cur, ev, hg, hb, rest⟩
  · exact .inl h0
  · refine .inr ⟨g, cap, cur, ev, hg, ?_, rest⟩
    exact (ho.block g (Array.getElem?_eq_some_iff.1 hb).1 (fun e => by have := hp g e; omega)).trans hb

set_option maxHeartbeats 1600000 in
theorem ends_any {w : World} {B p mf mt n1 n2 : Nat} {T : Sto} (h : StoAt w B p mf mt n1 n2 T) (ok : StoOk T) (hln : T.fs.length ≤ 1000000000) (hlt : T.ts.length ≤ 1000000000) (f : Fam.Sess → Bool) (F : Nat) (cap : Array Value)
    (heg : ∀ args w, (callFunc F args).run Tryz.prog w = .ok (.enter F args) w)
    (hcl : ∀ s ∈ T.fs, ∀ W, Below w.heap.size w W → Calls Tryz.prog F (#[.agg #[.int .i64 s.id, .int .i64 s.ses, .string s.cli, .int .u8 s.sco, .int .i64 s.nxt]] ++ cap) W fun e w' => e = .returned (.bool (f s)) ∧ Below W.heap.size W w') :
    Calls Tryz.prog 34 #[.pointer (some ⟨p, 0, none⟩), .func (.func F) #[] cap] w fun e w' => ∃ v, e = .returned v ∧ w'.ownsRow w.heap.size 3 1 v (T.fs.filter f).length (zCells (Fam.wantedIds T.fs f)) ∧ StoAt w' B p mf mt n1 n2 (tDrop T f) ∧ Out (Mine p mf mt) w w' := by
  have hmf' : ∀ (fn : Fn) (first cap : Array Value) (w : World), (Instr.makeFunc fn first cap).run Tryz.prog w = .ok (.func fn first cap) w := fun _ _ _ _ => rfl
  have hp := h.lts.1
  have hf := h.lts.2.1
  have ht := h.lts.2.2
  have hpne := h.pne
  obtain ⟨W1, hW1⟩ : ∃ W1, W1 = w.alloc (.cells #[.pointer (some ⟨p, 0, none⟩)] 24) := ⟨_, rfl⟩
  have hb1 : Below w.heap.size w W1 := by rw [hW1]; exact (Below.refl _ w).alloc (Nat.le_refl _) _
  have s1 : W1.heap.size = w.heap.size + 1 := by rw [hW1]; simp
  have t1 : W1.heap[w.heap.size]? = some (.cells #[.pointer (some ⟨p, 0, none⟩)] 24 (0, 0)) := by rw [hW1]; exact (MapKept.heap_alloc w _).1
  have h1 := h.below hb1
  have Hd := hid (Fam.drop_any h1.numf ok.upf hln ok.id1 f F cap heg (fun s hs W hW => hcl s hs W (hb1.trans (hW.mono hb1.size))))
  have Hd2 : Hid (∀ w2 v, w2.ownsRow W1.heap.size 3 1 v (T.fs.filter f).length (zCells (Fam.wantedIds T.fs f)) → Fam.NumAt w2 p 1 mf n1 T.nf (T.fs.filter fun s => !f s) → Out (fun k => k = mf) W1 w2 →
      w2.cell? ⟨w.heap.size, 0, none⟩ = some (.pointer (some ⟨p, 0, none⟩)) ∧
      Calls Tryz.prog 67 #[.pointer (some ⟨p, 3, none⟩), .func (.func 72) #[] #[.pointer (some ⟨w.heap.size, 0, none⟩)]] w2 fun e w' => ∃ v', e = .returned v' ∧ w'.ownsRow w.heap.size 3 1 v (T.fs.filter f).length (zCells (Fam.wantedIds T.fs f)) ∧ StoAt w' B p mf mt n1 n2 (tDrop T f) ∧ Out (Mine p mf mt) w w') := fun w2 v hrow hnum ho => by
    have h2 : StoAt w2 B p mf mt n1 n2 ⟨T.noted, T.nf, T.fs.filter (fun s => !f s), T.nt, T.ts⟩ := ⟨(ho.block p h1.lts.1 hpne.1).trans h1.obj, hnum.map, h1.mapt.keep (ho.block mt h1.lts.2.2 (Ne.symm h.ne)), h.bp, h.bf, h.bt, h.ne⟩
    have t2 : w2.heap[w.heap.size]? = some (.cells #[.pointer (some ⟨p, 0, none⟩)] 24 (0, 0)) := (ho.block w.heap.size (by omega) (by show w.heap.size ≠ mf; omega)).trans t1
    have c2 : w2.cell? ⟨w.heap.size, 0, none⟩ = some (.pointer (some ⟨p, 0, none⟩)) := cell_of_row _ _ 0 _ _ _ t2
    refine ⟨c2, ?_⟩
    refine (Tok.drop_any h2.numt ok.upt hlt ok.id2 (fun t => !thereB (T.fs.filter fun s => !f s) t.fam) 72 #[.pointer (some ⟨w.heap.size, 0, none⟩)] eg_end1 (fun t htt W hW => ?_)).mono ?_
    · have := ok.fam t htt
      have := ok.nf
      have hlt2 : w.heap.size < w2.heap.size := (Array.getElem?_eq_some_iff.1 t2).1
      exact end1_any t (h2.below hW) (by omega) ((hW.cell (p := ⟨w.heap.size, 0, none⟩) hlt2).trans c2)
    · rintro e w3 ⟨v', rfl, hrow3, hnum3, ho3⟩
      have hrow' : w3.ownsRow W1.heap.size 3 1 v (T.fs.filter f).length (zCells (Fam.wantedIds T.fs f)) := own_out2 hrow ho3 (fun k e => by rw [e]; have := hb1.size; omega)
      have l2 := h2.lts
      refine ⟨v', rfl, hrow'.mono (by omega), ⟨(ho3.block p l2.1 hpne.2).trans h2.obj, h2.mapf.keep (ho3.block mf l2.2.1 h.ne), ?_, h.bp, h.bf, h.bt, h.ne⟩, ?_⟩
      · have e9 : (tDrop T f).ts = T.ts.filter (fun t => !(!thereB (T.fs.filter fun s => !f s) t.fam)) := by show T.ts.filter _ = _; congr 1; funext t; simp
        rw [e9]
        exact hnum3.map
      · exact ((Out.of_below (P := Mine p mf mt) hb1).trans (ho.imp (Q := Mine p mf mt) (fun _ _ e => .inr (.inl e))) (fun _ _ e => e)).trans (ho3.imp (Q := Mine p mf mt) (fun _ _ e => .inr (.inr e))) (fun _ _ e => e)
  have HW1 := hid hW1
  rw [hW1] at Hd
  clear h h1 ok hb1 s1 t1 hcl heg hW1 hpne hln hlt
  go_enter Tryz.func34, Tryz.ntmps34
  go_wp2_with (first
    | (go_at_call 71; refine Hd.out.mono ?_; rintro e w2 ⟨v, rfl, hrow, hnum, ho⟩; rw [← HW1.out] at hrow ho; obtain ⟨c2, Hd3⟩ := Hd2.out w2 v hrow hnum ho; have HD3 := hid Hd3; clear Hd3 hrow hnum ho)
    | (go_at_call 67; refine HD3.out.mono ?_; rintro e w3 ⟨v', rfl, hrow, hst, ho⟩))
  go_ret
  exact ⟨_, rfl, hrow, hst, ho⟩
end Go.Proofs.YtmnhhomkglffcaaGreatDoor
