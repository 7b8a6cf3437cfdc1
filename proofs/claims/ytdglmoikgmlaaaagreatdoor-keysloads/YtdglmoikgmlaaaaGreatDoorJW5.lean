/- YtdglmoikgmlaaaaGreatDoorJRA + YtdglmoikgmlaaaaGreatDoorJW5 -/
import Derived.Test.YtdglmoikgmlaaaaGreatDoorJP2
import Derived.Test.YtdglmoikgmlaaaaGreatDoorJTake
import Derived.Test.YtdglmoikgmlaaaaGreatDoorJRL2
import Derived.Test.YtdglmoikgmlaaaaGreatDoorJSI
import Derived.Test.YtdglmoikgmlaaaaGreatDoorJW0
/- What an argument that is a row of rows gives to a walk. -/
namespace Go.Proofs.YtdglmoikgmlaaaaGreatDoor
open Go.RowKit
open Go.ChangeShapes Go.WideShapes Go.ChangeAt Go.Deep
set_option linter.unusedVariables false
set_option maxRecDepth 20000
theorem cellsTextJ : Tryz.prog.cellsOf 9 = 1 := by kernel_rfl
theorem bytesTextJ : Tryz.prog.bytesOf 9 = 16 := by kernel_rfl
theorem cellsRowJ : Tryz.prog.cellsOf 67 = 2 := by kernel_rfl
theorem bytesRowJ : Tryz.prog.bytesOf 67 = 40 := by kernel_rfl
theorem weights_strs {H : Type} (e : TypeId) (l : List ByteArray) (s : ByteArray) (hs : s ∈ l) : s.data.toList.length ∈ DataW.weightsAll (H := H) Tryz.prog e (strs l) := by
  induction l with
  | nil => cases hs
  | cons t l ih =>
    simp only [strs, List.map_cons, DataW.weightsAll]
    rcases List.mem_cons.1 hs with rfl | h
    · exact List.mem_append_left _ (by simp [DataW.weights])
    · exact List.mem_append_right _ (ih h)
theorem open_textsW {H : Type} {enc : TypeId × Value → H} {W : World} {v : Value} {fuel : Nat} {x : DataW H × List MemPlace}
    (hf : DataW.trod enc Tryz.prog W 0 (fun _ => true) true fuel 56 [v] = some x) (hw : ∀ m ∈ x.1.weights Tryz.prog 56, m ≤ reachBytes) : ∃ (a : Option Addr) (l : List ByteArray) (c : Nat), v = .slice a l.length c ∧ Texts W a l ∧ l.length ≤ 140737488351232 ∧ ∀ s ∈ l, s.size ≤ 140737488351232 := by
  rcases open_strings Tryz.underlying56 Tryz.underlying9 cellsTextJ hf with ⟨hcs, _⟩ | ⟨x, len, c', ss, hcs, _, hl, hm, hz, hx, hcell, hws⟩
  · simp only [List.cons.injEq, and_true] at hcs
    exact ⟨none, [], 0, hcs, fun i hi => by simp at hi, by simp, fun s hs => by simp at hs⟩
  · simp only [List.cons.injEq, and_true] at hcs
    subst hx
    simp only [if_true] at hz
    have hlen : (ss.take len).length = len := by rw [List.length_take]; omega
    refine ⟨some x, ss.take len, c', by rw [hlen]; exact hcs, fun i hi => ?_, ?_, fun s hs => ?_⟩
    · obtain ⟨b, o, spot⟩ := x
      have hc := hcell i (by omega)
      have hspot : spot = none := by simpa [Addr.add] using World.cell?_spot (hcell 0 (by omega))
      subst hspot
      refine ⟨b, o, rfl, ?_⟩
      rw [addr_add] at hc
      rw [hc, List.getElem_take]
      simp [List.getD, show i < ss.length by omega]
    · have h9 := hw ((ss.take len).length * 16 + (ss.drop len).length * 16) (by
        simp only [DataW.weights, Tryz.underlying56]
        rw [bytesTextJ]
        refine List.mem_cons.2 (.inl ?_)
        simp only [strs, List.length_map, Nat.add_mul])
      simp only [reachBytes] at h9
      omega
    · have h9 := hw s.data.toList.length (by
        simp only [DataW.weights, Tryz.underlying56]
        refine List.mem_cons_of_mem _ (List.mem_append_left _ ?_)
        exact weights_strs _ _ s hs)
      rw [← Lib.size_eq] at h9
      exact h9
open Xr
theorem open_row1 {H : Type} {enc : TypeId × Value → H} {W : World} {fuel : Nat} {cs : List Value} {d : DataW H × List MemPlace} (hlen : cs.length = 2)
    (h2 : DataW.trod enc Tryz.prog W 0 (fun _ => true) true fuel 67 cs = some d) (hwi : ∀ m ∈ d.1.weights Tryz.prog 67, m ≤ reachBytes) : ∃ (r : Rw) (a : Option Addr) (c : Nat), cs = [.string r.key, .slice a r.cols.length c] ∧ Texts W a r.cols ∧ r.key.size ≤ 140737488351232 ∧ r.cols.length ≤ 140737488351232 ∧ ∀ s ∈ r.cols, s.size ≤ 140737488351232 := by
  obtain ⟨xs, k, hk, hxy, _, hxl, hf⟩ := DataW.trod_struct Tryz.underlying67 h2
  obtain ⟨v0, v1, rfl⟩ : ∃ v0 v1, cs = [v0, v1] := by
    match cs, hlen with
    | [a, b], _ => exact ⟨a, b, rfl⟩
  have g0 := hf 0 _ rfl
  have g1 := hf 1 _ rfl
  have s1 : Tryz.prog.cellsOf 9 = 1 := by kernel_rfl
  have s2 : Tryz.prog.cellsOf 56 = 1 := by kernel_rfl
  simp [s1, s2] at g0 g1
  obtain ⟨y0, q0, w0⟩ : ∃ y, DataW.trod enc Tryz.prog W 0 (fun _ => true) true k 9 [v0] = some y ∧ ∀ m ∈ y.1.weights Tryz.prog 9, m ≤ reachBytes := ⟨_, g0.trans (List.getElem?_eq_getElem (by rw [hxl]; decide)), fun m hm => hwi m (by
    rw [hxy]
    simp only [DataW.weights, Tryz.underlying67]
    exact DataW.weights_mem_each (j := 0) (t := 9) rfl (by rw [List.getElem?_map, List.getElem?_eq_getElem (by rw [hxl]; decide)]; rfl) m hm)⟩
  obtain ⟨y1, q1, w1⟩ : ∃ y, DataW.trod enc Tryz.prog W 0 (fun _ => true) true k 56 [v1] = some y ∧ ∀ m ∈ y.1.weights Tryz.prog 56, m ≤ reachBytes := ⟨_, g1.trans (List.getElem?_eq_getElem (by rw [hxl]; decide)), fun m hm => hwi m (by
    rw [hxy]
    simp only [DataW.weights, Tryz.underlying67]
    exact DataW.weights_mem_each (j := 1) (t := 56) rfl (by rw [List.getElem?_map, List.getElem?_eq_getElem (by rw [hxl]; decide)]; rfl) m hm)⟩
  obtain ⟨n0, e0, ey0, k0⟩ := DataW.trod_string Tryz.underlying9 q0
  obtain ⟨a1, l1, c1, e1, b1, b2, b3⟩ := open_textsW q1 w1
  simp only [List.cons.injEq, and_true] at e0
  subst e0 e1
  refine ⟨⟨n0, l1⟩, a1, c1, rfl, b1, ?_, b2, b3⟩
  have h9 := w0 n0.data.toList.length (by rw [ey0]; simp [DataW.weights])
  rw [← Lib.size_eq] at h9
  exact h9
theorem open_arows {H : Type} {enc : TypeId × Value → H} {W : World} {a : Option Addr} {len cap : Nat} {d : DataW H} {p : List MemPlace}
    (h : DataW.Trod enc Tryz.prog W 0 (fun _ => true) true 32 (.slice a len cap) d p) (hw : ∀ m ∈ d.weights Tryz.prog 32, m ≤ reachBytes) : ∃ l : List Rw, l.length = len ∧ RIn W a l ∧ Small l ∧ l.length * 40 ≤ 140737488351232 := by
  obtain ⟨fuel, hf⟩ := h
  rcases open_slice Tryz.underlying32 hf with ⟨hcs, _⟩ | ⟨x, l', c', m, n, D, Pl, hcs, hb, hl, hm, hmm, hdx, hx⟩
  · simp [Value.cells] at hcs
    obtain ⟨rfl, rfl, rfl⟩ := hcs
    exact ⟨[], rfl, fun i hi => by simp at hi, ⟨by simp, fun r hr => by simp at hr⟩, by simp⟩
  · simp [Value.cells] at hcs
    obtain ⟨rfl, rfl, rfl⟩ := hcs
    simp only [if_true] at hmm
    rw [cellsRowJ] at hx
    simp only [Prod.mk.injEq] at hdx
    obtain ⟨rfl, _⟩ := hdx
    have hwD : ∀ i, i < len → ∀ m ∈ (D i).weights Tryz.prog 67, m ≤ reachBytes := fun i hi m hm => hw m (by
      simp only [DataW.weights, Tryz.underlying32]
      exact List.mem_cons_of_mem _ (List.mem_append_left _ (weightsAll_mem (List.mem_map.2 ⟨i, List.mem_range.2 hi, rfl⟩) m hm)))
    have h40 : len * 40 ≤ 140737488351232 := by
      have h9 := hw _ (by
        simp only [DataW.weights, Tryz.underlying32]
        exact List.mem_cons_self)
      rw [bytesRowJ] at h9
      simp only [List.length_map, List.length_range, reachBytes] at h9
      omega
    have each : ∀ i, i < len → ∃ r : Rw, (∃ b o ad c, x = ⟨b, o, none⟩ ∧ W.cell? ⟨b, o + i * 2, none⟩ = some (.string r.key) ∧ W.cell? ⟨b, o + (i * 2 + 1), none⟩ = some (.slice ad r.cols.length c) ∧ Texts W ad r.cols) ∧ r.key.size ≤ 140737488351232 ∧ r.cols.length ≤ 140737488351232 ∧ ∀ s ∈ r.cols, s.size ≤ 140737488351232 := by
      intro i hi
      obtain ⟨cs', h1, h2⟩ := hx i (by omega)
      obtain ⟨_, hlen, hcell⟩ := World.cells?_some h1
      obtain ⟨r, ad, c, rfl, ht, k1, k2, k3⟩ := open_row1 hlen h2 (hwD i hi)
      obtain ⟨bb, o, spot⟩ := x
      have hspot : spot = none := by
        obtain ⟨cs0, z1, _⟩ := hx 0 (by omega)
        obtain ⟨_, zl, zc⟩ := World.cells?_some z1
        have := (zc 0 (by omega)).trans (List.getElem?_eq_getElem (by omega))
        simpa [Addr.add] using World.cell?_spot this
      subst hspot
      refine ⟨r, ⟨bb, o, ad, c, rfl, ?_, ?_, ht⟩, k1, k2, k3⟩
      · have c0 := hcell 0 (by omega)
        rw [Deep.add_add, addr_addA] at c0
        exact c0
      · have c0 := hcell 1 (by omega)
        rw [Deep.add_add, addr_addA] at c0
        exact c0
    have hinh : Inhabited Rw := ⟨⟨⟨#[]⟩, []⟩⟩
    obtain ⟨q, hq⟩ := choose_ltA each
    have hll : ((List.range len).map q).length = len := by simp
    refine ⟨(List.range len).map q, hll, fun i hi => ?_, ⟨by rw [hll]; omega, fun r hr => ?_⟩, by rw [hll]; exact h40⟩
    · have hi' : i < len := by simpa using hi
      obtain ⟨⟨b, o, ad, c, e, h1, h2, h3⟩, _⟩ := hq i hi'
      simp only [List.getElem_map, List.getElem_range]
      exact ⟨b, o, ad, c, by rw [e], h1, h2, h3⟩
    · obtain ⟨i, hi, rfl⟩ := List.mem_map.1 hr
      exact (hq i (List.mem_range.1 hi)).2
end Go.Proofs.YtdglmoikgmlaaaaGreatDoor
/- holdfastlaw09.KeysLoads walked. -/
namespace Go.Proofs.YtdglmoikgmlaaaaGreatDoor.Ld
open Go.RowKit Go.Maps Xr
set_option linter.unusedVariables false
set_option maxRecDepth 20000
theorem rt_low {w : World} {B B' g : Nat} {root : List UInt8} {s : TS} (h : RT w B' g root s) (hB : B ≤ B') : RT w B g root s := by
  obtain ⟨gv, lv, h⟩ := h
  exact ⟨gv, lv, rtree_low h hB⟩
theorem few_of {m : List Rw} (hr : riseB m = true) (hh : (m.head?.map (·.key)) = some headK) : ∀ k s, k ≤ m.length → loadF TS0 (m.take k) = some s → k ≤ 40 := fun k s hk h => by
  have := load_few hh hr k s h hk
  omega
theorem rows_same {m m1 : List Rw} {s : TS} (h : loadR m = some s) (hp : m1.Perm (mOf s)) (ho : InOrder keyR m1) : m1 = m := by
  obtain ⟨ok, hm, _, hr⟩ := loadR_perm h
  refine uniq keyR (hp.trans hm.symm) ho ?_ (fun a ha b hb => mOf_keys ok a (hp.mem_iff.1 ha) b (hp.mem_iff.1 hb))
  exact hr.imp fun hab => List.lt_asymm hab
theorem cols_few {m : List Rw} {s : TS} (h : loadR m = some s) : m.length ≤ 1000000000 ∧ ∀ x ∈ m, x.cols.length ≤ 1000 := by
  obtain ⟨ok, hm, _, _⟩ := loadR_perm h
  refine ⟨by have := hm.length_eq; have := mOf_len ok; omega, fun x hx => ?_⟩
  have := hm.mem_iff.1 hx
  rcases List.mem_cons.1 this with h | h
  · rw [h]; simp [hRow]
  · rcases List.mem_append.1 h with h | h
    · obtain ⟨t, _, rfl⟩ := List.mem_map.1 h
      simp [gRow]
    · obtain ⟨t, _, rfl⟩ := List.mem_map.1 h
      simp [vRow]
set_option maxHeartbeats 8000000 in
theorem keysLoads_walk {w : World} {O : Array Value} {root : List UInt8} (hO : HV O root) (m : List Rw) (a1 : Option Addr) (c1 : Nat) (hm : RIn w a1 m ∧ Small m ∧ m.length * 40 ≤ 140737488351232) (l : List KD) (a2 : Option Addr) (c2 : Nat) (hl : KDs w a2 l) (hT : TabsJ w) :
    Calls Tryz.prog 4 #[.agg O, .slice a1 m.length c1, .slice a2 l.length c2] w fun e w' => e = .returned (.bool true) ∧ Below w.heap.size w w' := by
  obtain ⟨hin, hsm, h40⟩ := hm
  obtain ⟨W, hW⟩ : ∃ W, W = w.alloc (.cells O 23) := ⟨_, rfl⟩
  have x0 : W.heap[w.heap.size]? = some (.cells O 23 (0, 0)) := by rw [hW]; exact heap_alloc_new w _
  have b0 : Below w.heap.size w W := by rw [hW]; exact (Below.refl _ w).alloc (Nat.le_refl _) _
  have lk := hO.len
  have HI := hid hO.info
  have HO := hid hO.eq
  have X0 := hid x0
  have HW := hid hW
  have B0 := hid b0
  have HT := hid (fun (V : World) (hV : Below W.heap.size W V) => (show TabsJ V from ⟨TabAt.belowJ hT.1 (Below.on' b0 hV), hT.2.below (Below.on' b0 hV)⟩))
  have HTb := hid (fun (V : World) (hV : Below W.heap.size W V) => b0.trans (hV.mono b0.size))
  have HIn := hid (fun (V : World) (hV : Below W.heap.size W V) => hin.below (Below.on' b0 hV))
  have HKD := hid (hl.below b0)
  obtain ⟨N1, hN1⟩ : ∃ N1, N1 = m.length := ⟨_, rfl⟩
  obtain ⟨N2, hN2⟩ : ∃ N2, N2 = l.length := ⟨_, rfl⟩
  have HN2 := hid hN2
  have HN1 := hid hN1
  rw [← hN1, ← hN2]
  have HL := hid (fun (V : World) (hV : Below W.heap.size W V) => (show Calls Tryz.prog 13 #[.agg O, .slice a1 N1 c1] V (LoadP V root (loadR m)) by
    rw [HO.out]
    exact load_any lk m hsm a1 N1 c1 hN1 (hin.below (Below.on' b0 hV)) (fun hh hr => few_of hr hh)))
  have HRL := hid (fun (V : World) (hV : Below W.heap.size W V) => (show Calls Tryz.prog 14 #[.agg O, .slice a1 N1 c1] V (RLoadP V root (loadR m)) by
    rw [HO.out]
    exact rload_any lk m hsm h40 a1 N1 c1 hN1 (hin.below (Below.on' b0 hV))))
  cases hld : loadR m with
  | none =>
    rw [hld] at HL HRL
    clear hW x0 b0 lk hT hin hsm h40 hl hN1 hN2 hld hO
    go_enter Tryz.func4, Tryz.ntmps4
    go_wp2_with (first
      | (with_reducible show Go.wpList _ _ _ _ _ _; refine wpList_load_row rfl 23 _ rfl w.heap.size rfl _ _ _ _ X1.out Tryz.underlying23 rfl HI.out ?_)
      | (with_reducible show Go.wpList _ _ _ _ _ _; rw [← HW.out]; refine wpList_load_row rfl 23 _ rfl w.heap.size rfl _ _ _ _ X0.out Tryz.underlying23 rfl HI.out ?_)
      | (go_at_call 13; refine (HL.out W (Below.refl _ _)).mono ?_; rintro e w1 ⟨b1, h1⟩; have h1 : e = .returned (.tuple #[.pointer none, .int .i64 3]) := h1; subst h1; have B1 := hid b1; have X1 := hid ((b1.block _ (heap_lt X0.out)).trans X0.out); clear b1)
      | (go_at_call 14; refine (HRL.out w1 B1.out).mono ?_; rintro e w2 ⟨b2, h2⟩; have h2 : e = .returned (.tuple #[.pointer none, .int .i64 3]) := h2; subst h2; have B2 := hid (Below.on' B1.out b2); clear b2)
      | (go_at_call 8; refine (liveJ_any (HT.out w2 B2.out).1 (HT.out w2 B2.out).2).mono ?_; rintro _ w3 ⟨rfl, b3⟩; have B3 := hid (Below.on' B2.out b3); clear b3))
    go_ret
    exact ⟨rfl, HTb.out _ B3.out⟩
  | some s =>
    obtain ⟨ok, hpm, hsn, _⟩ := loadR_perm hld
    have Hld := hid hld
    have Ok := hid ok
    have Hsn := hid hsn
    rw [hld] at HL HRL
    clear hW x0 b0 lk hT hin hsm h40 hl hN1 hN2 hld hO ok hpm hsn
    go_enter Tryz.func4, Tryz.ntmps4
    go_wp2_with (first
      | (with_reducible show Go.wpList _ _ _ _ _ _; refine wpList_load_row rfl 23 _ rfl w.heap.size rfl _ _ _ _ X1.out Tryz.underlying23 rfl HI.out ?_)
      | (with_reducible show Go.wpList _ _ _ _ _ _; rw [← HW.out]; refine wpList_load_row rfl 23 _ rfl w.heap.size rfl _ _ _ _ X0.out Tryz.underlying23 rfl HI.out ?_)
      | (go_at_call 13; refine (HL.out W (Below.refl _ _)).mono ?_; rintro _ w1 ⟨b1, h1⟩; obtain ⟨g, mv, mg, rfl, t1⟩ := h1; have B1 := hid b1; have T1 := hid t1; have X1 := hid ((b1.block _ (heap_lt X0.out)).trans X0.out); clear b1 t1)
      | (go_at_call 14; refine (HRL.out w1 B1.out).mono ?_; rintro _ w2 ⟨b2, h2⟩; obtain ⟨gr, rfl, r2⟩ := h2; have K2 : Hid (KP W w2 W.heap.size g mv mg gr root s s 41) := ⟨T1.out.below b2, rt_low r2 B1.out.size, Ok.out, Below.on' B1.out b2, Nat.le_refl _⟩; clear b2 r2)
      | (go_at_call 8; refine (liveJ_any (HT.out w2 K2.out.b).1 (HT.out w2 K2.out.b).2).mono ?_; rintro _ w3 ⟨rfl, b3⟩; have K3 := hid (K2.out.below b3); clear b3 K2)
      | (go_at_call 11; refine (rows_m K3.out.t (by have := Hsn.out; omega) (HT.out w3 K3.out.b).1).mono ?_; rintro _ w4 ⟨v4, r4, m4, rfl, o4, i4, p4, q4, b4⟩; have K4 := hid (K3.out.below b4); rw [rows_same Hld.out p4 q4] at i4; have HSm := hid (sameRows_in o4 a1 N1 c1 HN1.out (HIn.out w4 K4.out.b) i4 (cols_few Hld.out).1 (cols_few Hld.out).2); clear b4 o4 i4 p4 q4 K3)
      | (go_at_call 10; refine HSm.out.mono ?_; rintro _ w5 ⟨rfl, b5⟩; have K5 := hid (K4.out.below b5); clear b5 K4 HSm)
      | (go_at_call 9; refine (play_any (n0 := s.n) K5.out rfl (by omega) (Nat.le_refl _) Hsn.out l a2 N2 c2 HN2.out HKD.out (HT.out W (Below.refl _ _))).mono ?_; rintro _ w6 ⟨rfl, s6, hK6, hsn6⟩; have K6 := hid hK6; have Hsn6 := hid hsn6; clear hK6 hsn6 K5)
      | (go_at_call 11; refine (rows_m K6.out.t (by have := Hsn6.out; omega) (HT.out w6 K6.out.b).1).mono ?_; rintro _ w7 ⟨v7, r7, m7, rfl, o7, i7, p7, q7, b7⟩; have K7 := hid (K6.out.below b7); have O7 := hid o7; have I7 := hid i7; have P7 := hid p7; have Q7 := hid q7; clear b7 o7 i7 p7 q7 K6)
      | (go_at_call 12; obtain ⟨gv, lv, hr7⟩ := K7.out.r; refine (rRows_any hr7 K7.out.ok (by have := Hsn6.out; omega)).mono ?_; rintro _ w8 ⟨v8, r8, m8, rfl, o8, i8, p8, q8, b8⟩; have K8 := hid (K7.out.below b8); have HSn := hid (same_rows K7.out.ok (own_onW O7.out b8) o8 (I7.out.below b8) i8 P7.out p8 Q7.out q8); clear b8 o8 i8 p8 q8 hr7 K7)
      | (go_at_call 10; refine HSn.out.mono ?_; rintro _ w9 ⟨rfl, b9⟩; have K9 := hid (K8.out.below b9); clear b9))
    go_ret
    exact ⟨rfl, HTb.out _ K9.out.b⟩
end Go.Proofs.YtdglmoikgmlaaaaGreatDoor.Ld
