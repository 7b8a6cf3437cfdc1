/- YthfmpebgmojcaaaDoorQRA + YthfmpebgmojcaaaDoorQAud -/
import Derived.Test.YthfmpebgmojcaaaDoorQRl3
import Derived.Test.YthfmpebgmojcaaaDoorZLaw
import Derived.SizedLaws
import Derived.Test.YthfmpebgmojcaaaDoorQDo
/- What an argument that is a row of rows gives to a walk. -/
namespace Go.Proofs.YthfmpebgmojcaaaDoor
open Go.RowKit
open Go.ChangeShapes Go.WideShapes Go.ChangeAt Go.Deep
set_option linter.unusedVariables false
set_option maxRecDepth 20000
theorem weightsAll_mem {H : Type} {P : Program} {e : TypeId} {l : List (DataW H)} {d : DataW H} (h : d ∈ l) : ∀ m ∈ d.weights P e, m ∈ DataW.weightsAll P e l := by
  induction l with
  | nil => cases h
  | cons a l ih =>
    intro m hm
    simp only [DataW.weightsAll, List.mem_append]
    rcases List.mem_cons.1 h with rfl | h
    · exact .inl hm
    · exact .inr (ih h m hm)
theorem weights_at {H : Type} {ts : List TypeId} {ds : List (DataW H)} {j : Nat} {t : TypeId} {d : DataW H}
    (hsz : (DataW.weightsEach Tryd.prog ts ds).all (· ≤ reachBytes) = true) (ht : ts[j]? = some t) (hd : ds[j]? = some d) : ∀ m ∈ d.weights Tryd.prog t, m ≤ reachBytes := fun m hm =>
  of_decide_eq_true (List.all_eq_true.1 hsz _ (DataW.weights_mem_each ht hd m hm))
theorem cellsTextJ : Tryd.prog.cellsOf 9 = 1 := by kernel_rfl
theorem bytesTextJ : Tryd.prog.bytesOf 9 = 16 := by kernel_rfl
theorem cellsRowJ : Tryd.prog.cellsOf 75 = 2 := by kernel_rfl
theorem bytesRowJ : Tryd.prog.bytesOf 75 = 40 := by kernel_rfl
theorem weights_strs {H : Type} (e : TypeId) (l : List ByteArray) (s : ByteArray) (hs : s ∈ l) : s.data.toList.length ∈ DataW.weightsAll (H := H) Tryd.prog e (strs l) := by
  induction l with
  | nil => cases hs
  | cons t l ih =>
    simp only [strs, List.map_cons, DataW.weightsAll]
    rcases List.mem_cons.1 hs with rfl | h
    · exact List.mem_append_left _ (by simp [DataW.weights])
    · exact List.mem_append_right _ (ih h)
theorem open_textsW {H : Type} {enc : TypeId × Value → H} {W : World} {v : Value} {fuel : Nat} {x : DataW H × List MemPlace}
    (hf : DataW.trod enc Tryd.prog W 0 (fun _ => true) true fuel 73 [v] = some x) (hw : ∀ m ∈ x.1.weights Tryd.prog 73, m ≤ reachBytes) : ∃ (a : Option Addr) (l : List ByteArray) (c : Nat), v = .slice a l.length c ∧ Texts W a l ∧ l.length ≤ 140737488351232 ∧ ∀ s ∈ l, s.size ≤ 140737488351232 := by
  rcases open_strings Tryd.underlying73 Tryd.underlying9 cellsTextJ hf with ⟨hcs, _⟩ | ⟨x, len, c', ss, hcs, _, hl, hm, hz, hx, hcell, hws⟩
  · simp only [List.cons.injEq, and_true] at hcs
    exact ⟨none, [], 0, hcs, fun i hi => by simp at hi, by simp, fun s hs => by simp at hs⟩
  · simp only [List.cons.injEq, and_true] at hcs
    subst hx
    simp only [if_true] at hz
    have hlen : (ss.take len).length = len := by rw [List.length_take]; omega
    refine ⟨some x, ss.take len, c', by rw [hlen]; exact hcs, fun i hi => ?_, ?_, fun s hs => ?_⟩
    · obtain ⟨b, o, spot⟩ := x
      have hc := hcell i (by omega)
      have hspot : spot = none := by simpa [Addr.add] using World.cell?_spot (hcell 0 (by omega))
      subst hspot
      refine ⟨b, o, rfl, ?_⟩
      rw [addr_add] at hc
      rw [hc, List.getElem_take]
      simp [List.getD, show i < ss.length by omega]
    · have h9 := hw ((ss.take len).length * 16 + (ss.drop len).length * 16) (by
        simp only [DataW.weights, Tryd.underlying73]
        rw [bytesTextJ]
        refine List.mem_cons.2 (.inl ?_)
        simp only [strs, List.length_map, Nat.add_mul])
      simp only [reachBytes] at h9
      omega
    · have h9 := hw s.data.toList.length (by
        simp only [DataW.weights, Tryd.underlying73]
        refine List.mem_cons_of_mem _ (List.mem_append_left _ ?_)
        exact weights_strs _ _ s hs)
      rw [← Lib.size_eq] at h9
      exact h9
theorem open_row1 {H : Type} {enc : TypeId × Value → H} {W : World} {fuel : Nat} {cs : List Value} {d : DataW H × List MemPlace} (hlen : cs.length = 2)
    (h2 : DataW.trod enc Tryd.prog W 0 (fun _ => true) true fuel 75 cs = some d) (hwi : ∀ m ∈ d.1.weights Tryd.prog 75, m ≤ reachBytes) : ∃ (r : Xr.Rw) (a : Option Addr) (c : Nat), cs = [.string r.key, .slice a r.cols.length c] ∧ Texts W a r.cols ∧ r.key.size ≤ 140737488351232 ∧ r.cols.length ≤ 140737488351232 ∧ ∀ s ∈ r.cols, s.size ≤ 140737488351232 := by
  obtain ⟨xs, k, hk, hxy, _, hxl, hf⟩ := DataW.trod_struct Tryd.underlying75 h2
  obtain ⟨v0, v1, rfl⟩ : ∃ v0 v1, cs = [v0, v1] := by
    match cs, hlen with
    | [a, b], _ => exact ⟨a, b, rfl⟩
  have g0 := hf 0 _ rfl
  have g1 := hf 1 _ rfl
  have s1 : Tryd.prog.cellsOf 9 = 1 := by kernel_rfl
  have s2 : Tryd.prog.cellsOf 73 = 1 := by kernel_rfl
  simp [s1, s2] at g0 g1
  obtain ⟨y0, q0, w0⟩ : ∃ y, DataW.trod enc Tryd.prog W 0 (fun _ => true) true k 9 [v0] = some y ∧ ∀ m ∈ y.1.weights Tryd.prog 9, m ≤ reachBytes := ⟨_, g0.trans (List.getElem?_eq_getElem (by rw [hxl]; decide)), fun m hm => hwi m (by
    rw [hxy]
    simp only [DataW.weights, Tryd.underlying75]
    exact DataW.weights_mem_each (j := 0) (t := 9) rfl (by rw [List.getElem?_map, List.getElem?_eq_getElem (by rw [hxl]; decide)]; rfl) m hm)⟩
  obtain ⟨y1, q1, w1⟩ : ∃ y, DataW.trod enc Tryd.prog W 0 (fun _ => true) true k 73 [v1] = some y ∧ ∀ m ∈ y.1.weights Tryd.prog 73, m ≤ reachBytes := ⟨_, g1.trans (List.getElem?_eq_getElem (by rw [hxl]; decide)), fun m hm => hwi m (by
    rw [hxy]
    simp only [DataW.weights, Tryd.underlying75]
    exact DataW.weights_mem_each (j := 1) (t := 73) rfl (by rw [List.getElem?_map, List.getElem?_eq_getElem (by rw [hxl]; decide)]; rfl) m hm)⟩
  obtain ⟨n0, e0, ey0, k0⟩ := DataW.trod_string Tryd.underlying9 q0
  obtain ⟨a1, l1, c1, e1, b1, b2, b3⟩ := open_textsW q1 w1
  simp only [List.cons.injEq, and_true] at e0
  subst e0 e1
  refine ⟨⟨n0, l1⟩, a1, c1, rfl, b1, ?_, b2, b3⟩
  have h9 := w0 n0.data.toList.length (by rw [ey0]; simp [DataW.weights])
  rw [← Lib.size_eq] at h9
  exact h9
theorem open_arows {H : Type} {enc : TypeId × Value → H} {W : World} {a : Option Addr} {len cap : Nat} {d : DataW H} {p : List MemPlace}
    (h : DataW.Trod enc Tryd.prog W 0 (fun _ => true) true 22 (.slice a len cap) d p) (hw : ∀ m ∈ d.weights Tryd.prog 22, m ≤ reachBytes) : ∃ l : List Xr.Rw, l.length = len ∧ Xr.RIn W a l ∧ Xr.Small l ∧ l.length ≤ cap := by
  obtain ⟨fuel, hf⟩ := h
  rcases open_slice Tryd.underlying22 hf with ⟨hcs, _⟩ | ⟨x, l', c', m, n, D, Pl, hcs, hb, hl, hm, hmm, hdx, hx⟩
  · simp [Value.cells] at hcs
    obtain ⟨rfl, rfl, rfl⟩ := hcs
    exact ⟨[], rfl, fun i hi => by simp at hi, ⟨by simp, fun r hr => by simp at hr⟩, Nat.zero_le _⟩
  · simp [Value.cells] at hcs
    obtain ⟨rfl, rfl, rfl⟩ := hcs
    simp only [if_true] at hmm
    rw [cellsRowJ] at hx
    simp only [Prod.mk.injEq] at hdx
    obtain ⟨rfl, _⟩ := hdx
    have hwD : ∀ i, i < len → ∀ m ∈ (D i).weights Tryd.prog 75, m ≤ reachBytes := fun i hi m hm => hw m (by
      simp only [DataW.weights, Tryd.underlying22]
      exact List.mem_cons_of_mem _ (List.mem_append_left _ (weightsAll_mem (List.mem_map.2 ⟨i, List.mem_range.2 hi, rfl⟩) m hm)))
    have h40 : len * 40 ≤ 140737488351232 := by
      have h9 := hw _ (by
        simp only [DataW.weights, Tryd.underlying22]
        exact List.mem_cons_self)
      rw [bytesRowJ] at h9
      simp only [List.length_map, List.length_range, reachBytes] at h9
      omega
    have each : ∀ i, i < len → ∃ r : Xr.Rw, (∃ b o ad c, x = ⟨b, o, none⟩ ∧ W.cell? ⟨b, o + i * 2, none⟩ = some (.string r.key) ∧ W.cell? ⟨b, o + (i * 2 + 1), none⟩ = some (.slice ad r.cols.length c) ∧ Texts W ad r.cols) ∧ r.key.size ≤ 140737488351232 ∧ r.cols.length ≤ 140737488351232 ∧ ∀ s ∈ r.cols, s.size ≤ 140737488351232 := by
      intro i hi
      obtain ⟨cs', h1, h2⟩ := hx i (by omega)
      obtain ⟨_, hlen, hcell⟩ := World.cells?_some h1
      obtain ⟨r, ad, c, rfl, ht, k1, k2, k3⟩ := open_row1 hlen h2 (hwD i hi)
      obtain ⟨bb, o, spot⟩ := x
      have hspot : spot = none := by
        obtain ⟨cs0, z1, _⟩ := hx 0 (by omega)
        obtain ⟨_, zl, zc⟩ := World.cells?_some z1
        have := (zc 0 (by omega)).trans (List.getElem?_eq_getElem (by omega))
        simpa [Addr.add] using World.cell?_spot this
      subst hspot
      refine ⟨r, ⟨bb, o, ad, c, rfl, ?_, ?_, ht⟩, k1, k2, k3⟩
      · have c0 := hcell 0 (by omega)
        rw [Deep.add_add, addr_addA] at c0
        exact c0
      · have c0 := hcell 1 (by omega)
        rw [Deep.add_add, addr_addA] at c0
        exact c0
    have hinh : Inhabited Xr.Rw := ⟨⟨⟨#[]⟩, []⟩⟩
    obtain ⟨q, hq⟩ := choose_ltA each
    have hll : ((List.range len).map q).length = len := by simp
    refine ⟨(List.range len).map q, hll, fun i hi => ?_, ⟨by rw [hll]; omega, fun r hr => ?_⟩, by rw [hll]; exact hl⟩
    · have hi' : i < len := by simpa using hi
      obtain ⟨⟨b, o, ad, c, e, h1, h2, h3⟩, _⟩ := hq i hi'
      simp only [List.getElem_map, List.getElem_range]
      exact ⟨b, o, ad, c, by rw [e], h1, h2, h3⟩
    · obtain ⟨i, hi, rfl⟩ := List.mem_map.1 hr
      exact (hq i (List.mem_range.1 hi)).2
end Go.Proofs.YthfmpebgmojcaaaDoor
/- AuditLoads walked. -/
namespace Go.Proofs.YthfmpebgmojcaaaDoor
open Go.RowKit Go.Shelf
set_option linter.unusedVariables false
set_option maxRecDepth 20000
attribute [local go_sem ↓] loadL_fold storeL_fold loadH_fold storeH_fold buildH_fold
theorem Ldable.chOk {c : Ch} (h : Ldable c) : ChOk c := ⟨h.l.lb, h.l.lan, h.l.lh, h.num, h.few, h.anc, h.tim, h.la, h.siz⟩
theorem Ldable.able {c : Ch} (h : Ldable c) : Able c 1099511627840 := ⟨h.chOk, by have h1 := h.bn; have h2 := h.few; unfold Ch.cnt; omega⟩
structure QInv (W : World) (B g r k : Nat) (wr : World) : Prop where
  pr : ∃ v u c, Pair wr B g r v u c ∧ Able c (1099511627840 + k)
  tb : Tabs wr B
  bel : Below B W wr
set_option maxHeartbeats 8000000 in
theorem auditLoads_walk {W : World} (m : List Xr.Rw) (a : Option Addr) (cap : Nat) (hm : Xr.RIn W a m ∧ Xr.Small m ∧ m.length ≤ cap) (l : List ADeed) (a2 : Option Addr) (cap2 : Nat) (hl : ADs W a2 l) (hT : Tabs W W.heap.size) :
    Calls Tryd.prog 3 #[.slice a m.length cap, .slice a2 l.length cap2] W fun e w' => e = .returned (.bool true) ∧ Below W.heap.size W w' := by
  have HT := hid hT
  have Hl := hid hl
  have C1 := load_arg a cap m hm.1 hm.2.1 hm.2.2 hT
  have C2 := fun (V : World) (hb : Below W.heap.size W V) => rload_any a cap m (hm.1.below hb) hm.2.1 hm.2.2
  have Hm := hid hm
  clear hm hT hl
  obtain ⟨N, hN⟩ : ∃ N, N = m.length := ⟨_, rfl⟩
  have HNm := hid hN
  rw [← hN] at C1 C2 ⊢
  clear hN
  have C1 := hid C1
  have C2 := hid C2
  cases hX : loadC (tx m) with
  | none =>
    rw [hX] at C1 C2
    clear hX Hm
    go_enter Tryd.func3, Tryd.ntmps3
    go_wp2_with fail
    refine C1.out.mono ?_
    rintro _ w1 ⟨b1, e1, x1⟩
    clear x1
    obtain rfl := e1 rfl
    have B1 := hid b1
    clear b1 e1 C1
    go_wp2_with fail
    refine (C2.out w1 B1.out).mono ?_
    rintro _ w2 ⟨b2, e2, x2⟩
    clear x2
    obtain rfl := e2 rfl
    have B2 := hid (Below.on' B1.out b2)
    clear b2 e2 C2
    have HL := hid (live_any ((HT.out.below (Nat.le_refl _) B2.out).mono B2.out.size))
    go_wp2_with (go_at_call 8; refine HL.out.mono ?_; rintro _ w3 ⟨rfl, b3⟩; have B3 := hid (Below.on' B2.out b3); clear b3)
    go_ret
    exact ⟨rfl, B3.out⟩
  | some c =>
    rw [hX] at C1 C2
    have hld := (loadC_some hX).2
    have hrow := tx_rows hX
    have Hld := hid hld
    have Hrow := hid hrow
    have hcn : c.cnt < 1152921504606846976 := by have := hld.able.cnt; omega
    have Hcn := hid hcn
    clear hX hld hrow hcn
    obtain ⟨B, hB⟩ : ∃ B, B = W.heap.size := ⟨_, rfl⟩
    have HB := hid hB
    clear hB
    go_enter Tryd.func3, Tryd.ntmps3
    go_wp2_with fail
    refine C1.out.mono ?_
    rintro _ w1 ⟨b1, x1, e1⟩
    clear x1
    obtain ⟨g, v, rfl, hg⟩ := e1 c rfl
    have B1 := hid b1
    have Hg := hid hg
    clear b1 e1 C1 hg
    go_wp2_with fail
    refine (C2.out w1 B1.out).mono ?_
    rintro _ w2 ⟨b2, x2, e2⟩
    clear x2
    obtain ⟨r, u, rfl, hr⟩ := e2 c rfl
    have B2 := hid (Below.on' B1.out b2)
    have hp2 : Pair w2 B g r v u c := by
      rw [HB.out]
      refine ⟨Hg.out.below b2, hr.mono B1.out.size, fun k h1 h2 => ?_⟩
      have h3 := (Hg.out.lts k h1).2
      have h4 := (hr.lts k h2).1
      omega
    have Hp2 := hid hp2
    clear b2 e2 C2 hr hp2 Hg
    have T2 := HT.out.below (Nat.le_refl _) B2.out
    have HT2 := hid T2
    have HL := hid (live_any (T2.mono B2.out.size))
    clear T2
    go_wp2_with fail
    refine HL.out.mono ?_
    rintro _ w3 ⟨rfl, b3⟩
    have B3 := hid (Below.on' B2.out b3)
    have Hp3 := hid (Hp2.out.below b3)
    have HT3 := hid (HT2.out.below B2.out.size b3)
    have hB3 : B ≤ w3.heap.size := by rw [HB.out]; exact Nat.le_trans B2.out.size b3.size
    clear b3 HL Hp2 HT2 B2
    go_wp2_with (first
      | (go_at_call 10; refine (rows_x Hp3.out.ch Hld.out.chOk Hcn.out (HB.out ▸ HT3.out) hB3).mono ?_; rintro e wA ⟨vA, rsA, rfl, hoA, hiA, hbA⟩; have HoA := hid hoA; have HiA := hid hiA; have HbA := hid hbA; clear hoA hiA hbA)
      | (go_at_call 9; refine (Xr.sameRows_in HoA.out a N cap (by rw [HNm.out, Hrow.out]) (Hrow.out ▸ Hm.out.1.below (Below.on' B3.out HbA.out)) HiA.out (by rw [rowsX_len]; have := Hld.out.few; omega) (rowsX_cols c)).mono ?_; rintro e wC ⟨rfl, hbC⟩; have HbC := hid (Below.on' HbA.out hbC); have HpC := hid (Hp3.out.below HbC.out); have HTC := hid ((HB.out ▸ HT3.out : Tabs w3 B).below hB3 HbC.out); have hBC : B ≤ wC.heap.size := Nat.le_trans hB3 HbC.out.size; clear hbC)
      | (go_at_call 11; refine (verify_any HpC.out.ch Hld.out.chOk Hcn.out HTC.out hBC).mono ?_; rintro e wD ⟨rfl, hbD⟩; have HbD := hid hbD; have HpD := hid (HpC.out.below hbD); clear hbD)
      | (go_at_call 12; refine (rVerify_all HpD.out.rf Hld.out.chOk (Hld.out.able.evOk (by omega)) Hcn.out).mono ?_; rintro e wE ⟨rfl, hbE⟩; have HbE2 := hid hbE; have HbE := hid (Below.on' HbC.out (Below.on' HbD.out hbE)); have HpE := hid (HpD.out.below hbE); clear hbE))
    have hi0 : Hid (QInv W B g r 0 wE) := ⟨⟨v, u, c, HpE.out, Hld.out.able⟩, HTC.out.below hBC (Below.on' HbD.out HbE2.out), (HB.out ▸ Below.on' B3.out HbE.out)⟩
    clear HpE HTC HbD HbE2 HbE B3 Hp3 HT3 hB3 hBC HoA HiA HbA HbC HpC HpD C2 B1 Hm
    go_loopw [9] (fun i wr => ∃ k : Nat, k ≤ l.length ∧ k ≤ 30 ∧ i = .int .i64 (k : Int) ∧ QInv W B g r k wr) (fun i _ => 30 - (intOf i).toNat)
    case atStart => exact ⟨0, Nat.zero_le _, Nat.zero_le _, rfl, hi0.out⟩
    case round =>
      clear hi0
      obtain ⟨k, hk, hk30, rfl, ⟨v', u', c', hp, hab⟩, htb, hbel⟩ := hrel
      have hlb := Hl.out.below HB.out hbel
      have Hp := hid hp
      have Hab := hid hab
      have Htb := hid htb
      have Hbel := hid hbel
      have Hlen : l.length ≤ 9223372036854775807 := Hl.out.len
      have hBr : B ≤ wr.heap.size := by have := hbel.size; have := HB.out; omega
      have Hk := hid hk30
      clear hp hab htb hbel
      by_cases hlt : k < l.length
      · have g1 : decide ((k : Int) < (l.length : Int)) = true := by simp; omega
        by_cases hlt2 : k < 30
        · have g2 : decide ((k : Int) < 30) = true := by simp; omega
          have hxs := Hl.out.sizes _ (List.getElem_mem hlt)
          obtain ⟨x, hx⟩ : ∃ x, l[k] = x := ⟨_, rfl⟩
          rw [hx] at hxs
          obtain ⟨b, o, rfl, hbl, hr⟩ := hlb.cells k hlt
          rw [hx] at hr
          have Hdo := hid (doq_any Hp.out Hab.out (by omega) Htb.out hBr x hxs.1 hxs.2)
          have d0 : wr.cell? ⟨b, o + k * 5, none⟩ = some (.int .i64 x.kind) := hr 0 _ rfl
          have d1 : wr.cell? ⟨b, o + k * 5 + 1, none⟩ = some (.int .i64 x.at') := hr 1 _ rfl
          have d2 : wr.cell? ⟨b, o + k * 5 + 2, none⟩ = some (.int .i64 x.n) := hr 2 _ rfl
          have d3 : wr.cell? ⟨b, o + k * 5 + 3, none⟩ = some (.string x.what) := hr 3 _ rfl
          have d4 : wr.cell? ⟨b, o + k * 5 + 4, none⟩ = some (.string x.who) := hr 4 _ rfl
          clear hr hlb hx hxs
          go_wp2_with (go_at_call 13; refine Hdo.out.mono ?_; intro e w4 hd; obtain rfl := hd.1; have Hd := hid hd; clear hd)
          go_roundw
          case rel =>
            obtain ⟨_, ⟨v9, u9, hp9⟩, hbw⟩ := Hd.out
            exact ⟨k + 1, by omega, by omega, by go_num, ⟨⟨v9, u9, _, hp9, (Hab.out.step x).mono (by omega)⟩, Htb.out.keep hbw, Hbel.out.trans hbw⟩⟩
          case measure => simp [intOf]; omega
        · have g2 : decide ((k : Int) < 30) = false := by simp; omega
          have hcn : c'.cnt < 1152921504606846976 := by have := Hab.out.cnt; omega
          have S1 := hid (same_any Hp.out.ch Hp.out.rf Hab.out.ok hcn Htb.out hBr)
          clear hlb hcn
          go_wp2_with (go_at_call 14; refine S1.out.mono ?_; rintro _ w5 ⟨rfl, b5⟩; have B5 := hid b5; clear b5)
          go_ret
          exact ⟨rfl, by rw [← HB.out]; exact Hbel.out.trans (B5.out.mono hBr)⟩
      · have g1 : decide ((k : Int) < (l.length : Int)) = false := by simp; omega
        have hcn : c'.cnt < 1152921504606846976 := by have := Hab.out.cnt; omega
        have S1 := hid (same_any Hp.out.ch Hp.out.rf Hab.out.ok hcn Htb.out hBr)
        clear hlb hcn
        go_wp2_with (go_at_call 14; refine S1.out.mono ?_; rintro _ w5 ⟨rfl, b5⟩; have B5 := hid b5; clear b5)
        go_ret
        exact ⟨rfl, by rw [← HB.out]; exact Hbel.out.trans (B5.out.mono hBr)⟩
end Go.Proofs.YthfmpebgmojcaaaDoor
