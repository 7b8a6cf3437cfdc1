/- YtlkbojgemcjilaaGreatDoorGRA + YtlkbojgemcjilaaGreatDoorGLRow -/
import Derived.Test.YtlkbojgemcjilaaGreatDoorGLd6
import Derived.Test.YtlkbojgemcjilaaGreatDoorUArgsG
import Derived.SizedLaws
import Derived.Test.YtlkbojgemcjilaaGreatDoorGLW
/- What an argument that is a row of rows gives to a walk, where it is of a bounded bulk. -/
namespace Go.Proofs.YtlkbojgemcjilaaGreatDoor
open Go.RowKit
open Go.ChangeShapes Go.WideShapes Go.ChangeAt Go.Deep
set_option linter.unusedVariables false
set_option maxRecDepth 20000
theorem cellsTextJ : Tryz.prog.cellsOf 9 = 1 := by kernel_rfl
theorem cellsRowJ : Tryz.prog.cellsOf 79 = 2 := by kernel_rfl
theorem bulk_pos {H : Type} (d : DataW H) : 1 ≤ Rows.uptoBulk d := by
  cases d with
  | lit l => cases l <;> simp [Rows.uptoBulk]
  | nil => simp [Rows.uptoBulk]
  | ptr d => simp [Rows.uptoBulk]
  | slice e s => simp [Rows.uptoBulk]
  | agg p => simp [Rows.uptoBulk]
  | iface t d => simp [Rows.uptoBulk]
  | map e => simp [Rows.uptoBulk]
  | held h => simp [Rows.uptoBulk]
theorem bulk_length {H : Type} (l : List (DataW H)) : l.length ≤ Rows.uptoBulkAll l := by
  induction l with
  | nil => simp [Rows.uptoBulkAll]
  | cons d l ih =>
    have := bulk_pos d
    simp only [Rows.uptoBulkAll, List.length_cons]
    omega
theorem bulk_mem {H : Type} {l : List (DataW H)} {d : DataW H} (h : d ∈ l) : Rows.uptoBulk d ≤ Rows.uptoBulkAll l := by
  induction l with
  | nil => cases h
  | cons a l ih =>
    simp only [Rows.uptoBulkAll]
    rcases List.mem_cons.1 h with rfl | h
    · omega
    · have := ih h
      omega
theorem bulk_three {H : Type} : ∀ {l : List (DataW H)}, (∀ x ∈ l, 3 ≤ Rows.uptoBulk x) → 3 * l.length ≤ Rows.uptoBulkAll l
  | [], _ => by simp [Rows.uptoBulkAll]
  | a :: l, h => by
    have h1 := h a List.mem_cons_self
    have h2 := bulk_three (l := l) (fun x hx => h x (List.mem_cons_of_mem _ hx))
    simp only [Rows.uptoBulkAll, List.length_cons]
    omega
theorem open_textsW {H : Type} {enc : TypeId × Value → H} {W : World} {v : Value} {fuel : Nat} {x : DataW H × List MemPlace}
    (hf : DataW.trod enc Tryz.prog W 0 (fun _ => true) true fuel 77 [v] = some x) (hw : Rows.uptoBulk x.1 ≤ 4000000) : ∃ (a : Option Addr) (l : List ByteArray) (c : Nat), v = .slice a l.length c ∧ Texts W a l ∧ l.length ≤ 4000000 ∧ ∀ s ∈ l, s.size ≤ 4000000 := by
  rcases open_strings Tryz.underlying77 Tryz.underlying9 cellsTextJ hf with ⟨hcs, _⟩ | ⟨x, len, c', ss, hcs, _, hl, hm, hz, hx, hcell, hws⟩
  · simp only [List.cons.injEq, and_true] at hcs
    exact ⟨none, [], 0, hcs, fun i hi => by simp at hi, by simp, fun s hs => by simp at hs⟩
  · simp only [List.cons.injEq, and_true] at hcs
    subst hx
    simp only [if_true] at hz
    have hlen : (ss.take len).length = len := by rw [List.length_take]; omega
    refine ⟨some x, ss.take len, c', by rw [hlen]; exact hcs, fun i hi => ?_, ?_, fun s hs => ?_⟩
    · obtain ⟨b, o, spot⟩ := x
      have hc := hcell i (by omega)
      have hspot : spot = none := by simpa [Addr.add] using World.cell?_spot (hcell 0 (by omega))
      subst hspot
      refine ⟨b, o, rfl, ?_⟩
      rw [addr_addG] at hc
      rw [hc, List.getElem_take]
      simp [List.getD, show i < ss.length by omega]
    · have h9 := bulk_length (H := H) (strs (ss.take len))
      simp only [Rows.uptoBulk] at hw
      simp only [strs, List.length_map] at h9
      unfold strs at hw
      omega
    · have h9 := bulk_mem (H := H) (l := strs (ss.take len)) (d := .lit (.string s.data.toList)) (by unfold strs; exact List.mem_map.2 ⟨s, hs, rfl⟩)
      simp only [Rows.uptoBulk] at hw h9
      rw [Lib.size_eq]
      omega
open Xr
theorem open_row1 {H : Type} {enc : TypeId × Value → H} {W : World} {fuel : Nat} {cs : List Value} {d : DataW H × List MemPlace} (hlen : cs.length = 2)
    (h2 : DataW.trod enc Tryz.prog W 0 (fun _ => true) true fuel 79 cs = some d) (hwi : Rows.uptoBulk d.1 ≤ 4000000) : ∃ (r : Rw) (a : Option Addr) (c : Nat), cs = [.string r.key, .slice a r.cols.length c] ∧ Texts W a r.cols ∧ r.key.size ≤ 4000000 ∧ r.cols.length ≤ 4000000 ∧ (∀ s ∈ r.cols, s.size ≤ 4000000) ∧ 3 ≤ Rows.uptoBulk d.1 := by
  obtain ⟨xs, k, hk, hxy, _, hxl, hf⟩ := DataW.trod_struct Tryz.underlying79 h2
  obtain ⟨v0, v1, rfl⟩ : ∃ v0 v1, cs = [v0, v1] := by
    match cs, hlen with
    | [a, b], _ => exact ⟨a, b, rfl⟩
  have g0 := hf 0 _ rfl
  have g1 := hf 1 _ rfl
  have s1 : Tryz.prog.cellsOf 9 = 1 := by kernel_rfl
  have s2 : Tryz.prog.cellsOf 77 = 1 := by kernel_rfl
  simp [s1, s2] at g0 g1
  have h3 : 3 ≤ Rows.uptoBulk d.1 := by
    rw [hxy]
    simp only [Rows.uptoBulk]
    have h9 := bulk_length (H := H) (xs.map (·.1))
    rw [List.length_map, hxl] at h9
    have h10 : (2 : Nat) ≤ Rows.uptoBulkAll (xs.map (·.1)) := h9
    omega
  have h3' := h3
  rw [hxy] at hwi
  simp only [Rows.uptoBulk] at hwi
  obtain ⟨y0, q0, w0⟩ : ∃ y, DataW.trod enc Tryz.prog W 0 (fun _ => true) true k 9 [v0] = some y ∧ Rows.uptoBulk y.1 ≤ 4000000 := ⟨_, g0.trans (List.getElem?_eq_getElem (by rw [hxl]; decide)), by
    have h9 := bulk_mem (H := H) (l := xs.map (·.1)) (d := (xs[0]'(by rw [hxl]; decide)).1) (List.mem_map.2 ⟨_, List.getElem_mem (by rw [hxl]; decide : 0 < xs.length), rfl⟩)
    exact Nat.le_trans h9 (by omega)⟩
  obtain ⟨y1, q1, w1⟩ : ∃ y, DataW.trod enc Tryz.prog W 0 (fun _ => true) true k 77 [v1] = some y ∧ Rows.uptoBulk y.1 ≤ 4000000 := ⟨_, g1.trans (List.getElem?_eq_getElem (by rw [hxl]; decide)), by
    have h9 := bulk_mem (H := H) (l := xs.map (·.1)) (d := (xs[1]'(by rw [hxl]; decide)).1) (List.mem_map.2 ⟨_, List.getElem_mem (by rw [hxl]; decide : 1 < xs.length), rfl⟩)
    exact Nat.le_trans h9 (by omega)⟩
  obtain ⟨n0, e0, ey0, k0⟩ := DataW.trod_string Tryz.underlying9 q0
  obtain ⟨a1, l1, c1, e1, b1, b2, b3⟩ := open_textsW q1 w1
  simp only [List.cons.injEq, and_true] at e0
  subst e0 e1
  refine ⟨⟨n0, l1⟩, a1, c1, rfl, b1, ?_, b2, b3, h3'⟩
  rw [ey0] at w0
  simp only [Rows.uptoBulk] at w0
  have h9 := Lib.size_eq n0
  show n0.size ≤ _
  omega
theorem open_arows {H : Type} {enc : TypeId × Value → H} {W : World} {a : Option Addr} {len cap : Nat} {d : DataW H} {p : List MemPlace}
    (h : DataW.Trod enc Tryz.prog W 0 (fun _ => true) true 35 (.slice a len cap) d p) (hw : Rows.uptoBulk d ≤ 4000000) : ∃ l : List Rw, l.length = len ∧ RIn W a l ∧ SmallG l ∧ 3 * l.length ≤ Rows.uptoBulk d := by
  obtain ⟨fuel, hf⟩ := h
  rcases open_slice Tryz.underlying35 hf with ⟨hcs, _⟩ | ⟨x, l', c', m, n, D, Pl, hcs, hb, hl, hm, hmm, hdx, hx⟩
  · simp [Value.cells] at hcs
    obtain ⟨rfl, rfl, rfl⟩ := hcs
    exact ⟨[], rfl, fun i hi => by simp at hi, ⟨by simp, fun r hr => by simp at hr⟩, by simp⟩
  · simp [Value.cells] at hcs
    obtain ⟨rfl, rfl, rfl⟩ := hcs
    simp only [if_true] at hmm
    rw [cellsRowJ] at hx
    simp only [Prod.mk.injEq] at hdx
    obtain ⟨rfl, _⟩ := hdx
    simp only [Rows.uptoBulk] at hw ⊢
    have hwD : ∀ i, i < len → Rows.uptoBulk (D i) ≤ 4000000 := fun i hi => by
      have h9 := bulk_mem (H := H) (l := (List.range len).map D) (List.mem_map.2 ⟨i, List.mem_range.2 hi, rfl⟩)
      exact Nat.le_trans h9 (by omega)
    have h40 : len ≤ 4000000 := by
      have h9 := bulk_length (H := H) ((List.range len).map D)
      rw [List.length_map, List.length_range] at h9
      omega
    have each : ∀ i, i < len → ∃ r : Rw, (∃ b o ad c, x = ⟨b, o, none⟩ ∧ W.cell? ⟨b, o + i * 2, none⟩ = some (.string r.key) ∧ W.cell? ⟨b, o + (i * 2 + 1), none⟩ = some (.slice ad r.cols.length c) ∧ Texts W ad r.cols) ∧ (r.key.size ≤ 4000000 ∧ r.cols.length ≤ 4000000 ∧ ∀ s ∈ r.cols, s.size ≤ 4000000) ∧ 3 ≤ Rows.uptoBulk (D i) := by
      intro i hi
      obtain ⟨cs', h1, h2⟩ := hx i (by omega)
      obtain ⟨_, hlen, hcell⟩ := World.cells?_some h1
      obtain ⟨r, ad, c, rfl, ht, k1, k2, k3, k4⟩ := open_row1 hlen h2 (hwD i hi)
      obtain ⟨bb, o, spot⟩ := x
      have hspot : spot = none := by
        obtain ⟨cs0, z1, _⟩ := hx 0 (by omega)
        obtain ⟨_, zl, zc⟩ := World.cells?_some z1
        have := (zc 0 (by omega)).trans (List.getElem?_eq_getElem (by omega))
        simpa [Addr.add] using World.cell?_spot this
      subst hspot
      refine ⟨r, ⟨bb, o, ad, c, rfl, ?_, ?_, ht⟩, ⟨k1, k2, k3⟩, k4⟩
      · have c0 := hcell 0 (by omega)
        rw [Deep.add_add, addr_addG] at c0
        exact c0
      · have c0 := hcell 1 (by omega)
        rw [Deep.add_add, addr_addG] at c0
        exact c0
    have hinh : Inhabited Rw := ⟨⟨⟨#[]⟩, []⟩⟩
    obtain ⟨q, hq⟩ := choose_lt each
    have hll : ((List.range len).map q).length = len := by simp
    refine ⟨(List.range len).map q, hll, fun i hi => ?_, ⟨by rw [hll]; omega, fun r hr => ?_⟩, by
      rw [hll]
      have h9 := bulk_three (H := H) (l := (List.range len).map D) (fun x hx => by
        obtain ⟨i, hi, rfl⟩ := List.mem_map.1 hx
        exact (hq i (List.mem_range.1 hi)).2.2)
      rw [List.length_map, List.length_range] at h9
      omega⟩
    · have hi' : i < len := by simpa using hi
      obtain ⟨⟨b, o, ad, c, e, h1, h2, h3⟩, _⟩ := hq i hi'
      simp only [List.getElem_map, List.getElem_range]
      exact ⟨b, o, ad, c, by rw [e], h1, h2, h3⟩
    · obtain ⟨i, hi, rfl⟩ := List.mem_map.1 hr
      exact (hq i (List.mem_range.1 hi)).2.1
end Go.Proofs.YtlkbojgemcjilaaGreatDoor

/- GrantLoads, as its row asks. -/
namespace Go.Proofs.YtlkbojgemcjilaaGreatDoor
open Go.RowKit Xr
theorem grantLoads_row {W : World} (m : List Rw) (a1 : Option Addr) (c1 : Nat) {k : Nat} (hm : RIn W a1 m ∧ SmallG m ∧ 3 * m.length ≤ k) (hk : k ≤ 1048576) (l : List GDeed) (a : Option Addr) (cap : Nat) (hl : GDs W a l) (hT : TabAt W) :
    Calls Tryz.prog 4 #[.slice a1 m.length c1, .slice a l.length cap] W fun e w' => e = .returned (.bool true) ∧ Below W.heap.size W w' := grantLoads_walk W hT m a1 c1 hm.1 hm.2.1 (by have := hm.2.2; omega) hl cap
end Go.Proofs.YtlkbojgemcjilaaGreatDoor
