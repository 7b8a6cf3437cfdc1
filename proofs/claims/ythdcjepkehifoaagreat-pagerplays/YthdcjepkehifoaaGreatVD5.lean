/- YthdcjepkehifoaaGreatVArgs + YthdcjepkehifoaaGreatVD5 -/
import Derived.Test.YthdcjepkehifoaaGreatVDds
import Derived.SizedLaws
import Derived.Test.YthdcjepkehifoaaGreatVD4
/- Deeds of layer 4 that are handed in: none of their rows is greater than a machine holds. -/
namespace Go.Proofs.YthdcjepkehifoaaGreat
open Go.RowKit Go.Maps
open Go.ChangeShapes Go.WideShapes Go.ChangeAt Go.Deep
set_option linter.unusedVariables false
set_option maxRecDepth 20000
theorem weightsAll_mem {H : Type} {P : Program} {e : TypeId} {l : List (DataW H)} {d : DataW H} (h : d ∈ l) : ∀ m ∈ d.weights P e, m ∈ DataW.weightsAll P e l := by
  induction l with
  | nil => cases h
  | cons a l ih =>
    intro m hm
    simp only [DataW.weightsAll, List.mem_append]
    rcases List.mem_cons.1 h with rfl | h
    · exact .inl hm
    · exact .inr (ih h m hm)
theorem intBytes : Tryz.prog.bytesOf 3 = 8 := by kernel_rfl
theorem open_ints4w {H : Type} {enc : TypeId × Value → H} {W : World} {v : Value} {fuel : Nat} {x : DataW H × List MemPlace}
    (hf : DataW.trod enc Tryz.prog W 0 (fun _ => true) true fuel 30 [v] = some x) (hw : ∀ m ∈ x.1.weights Tryz.prog 30, m ≤ reachBytes) : ∃ (a : Option Addr) (l : List Int) (c : Nat), v = .slice a l.length c ∧ IntsAt W a l ∧ (∀ x ∈ l, -9223372036854775808 ≤ x ∧ x ≤ 9223372036854775807) ∧ l.length ≤ 9223372036854775807 ∧ l.length * 8 ≤ reachBytes := by
  obtain ⟨a, l, c, rfl, h1, h2, h3⟩ := open_ints4 hf
  refine ⟨a, l, c, rfl, h1, h2, h3, ?_⟩
  rcases open_ints Tryz.underlying30 Tryz.underlying3 cellsInt4 hf with ⟨hcs, _⟩ | ⟨x, l', c', zs, hcs, _, hl, hm, hz, hx, hcell, hwz⟩
  · simp only [List.cons.injEq, and_true, Value.slice.injEq] at hcs
    rw [hcs.2.1]
    exact Nat.zero_le _
  · simp only [List.cons.injEq, and_true, Value.slice.injEq] at hcs
    obtain ⟨_, e2, _⟩ := hcs
    subst hx
    have h9 := hw ((zs.take l').length * 8 + (zs.drop l').length * 8) (by
      simp only [DataW.weights, Tryz.underlying30]
      rw [intBytes]
      refine List.mem_cons.2 (.inl ?_)
      simp only [lits, List.length_map]
      omega)
    rw [List.length_take, List.length_drop] at h9
    simp only [if_true] at hz
    omega
theorem open_dds2 {H : Type} {enc : TypeId × Value → H} {W : World} {a : Option Addr} {len cap : Nat} {d : DataW H} {p : List MemPlace}
    (h : DataW.Trod enc Tryz.prog W 0 (fun _ => true) true 72 (.slice a len cap) d p) (hw : ∀ m ∈ d.weights Tryz.prog 72, m ≤ reachBytes) : ∃ l : List Dd, l.length = len ∧ DdsAt W a l ∧ l.length ≤ 9223372036854775807 ∧ ∀ x ∈ l, x.q.length * 8 ≤ reachBytes := by
  obtain ⟨fuel, hf⟩ := h
  rcases open_slice Tryz.underlying72 hf with ⟨hcs, _⟩ | ⟨x, l', c', m, n, D, Pl, hcs, hb, hl, hm, hmm, hdx, hx⟩
  · simp [Value.cells] at hcs
    obtain ⟨rfl, rfl, rfl⟩ := hcs
    exact ⟨[], rfl, fun i hi => by simp at hi, by simp, fun x hx => by cases hx⟩
  · simp [Value.cells] at hcs
    obtain ⟨rfl, rfl, rfl⟩ := hcs
    simp only [if_true] at hmm
    rw [cellsDd] at hx
    simp only [Prod.mk.injEq] at hdx
    obtain ⟨rfl, _⟩ := hdx
    have hwD : ∀ i, i < len → ∀ m ∈ (D i).weights Tryz.prog 79, m ≤ reachBytes := fun i hi m hm => hw m (by
      simp only [DataW.weights, Tryz.underlying72]
      exact List.mem_cons_of_mem _ (List.mem_append_left _ (weightsAll_mem (List.mem_map.2 ⟨i, List.mem_range.2 hi, rfl⟩) m hm)))
    have each : ∀ i, i < len → ∃ q : Dd, ∃ b o, x = ⟨b, o, none⟩ ∧ W.cell? ⟨b, o + i * 4, none⟩ = some (.int .i64 q.kd) ∧ W.cell? ⟨b, o + i * 4 + 1, none⟩ = some (.slice q.a q.q.length q.c) ∧ W.cell? ⟨b, o + i * 4 + 2, none⟩ = some (.int .u8 (q.y.toNat : Int)) ∧ W.cell? ⟨b, o + i * 4 + 3, none⟩ = some (.bool q.sh) ∧ DdOk W q ∧ q.q.length * 8 ≤ reachBytes := by
      intro i hi
      have hwi := hwD i hi
      obtain ⟨cs', h1, h2⟩ := hx i (by omega)
      obtain ⟨_, hlen, hcell⟩ := World.cells?_some h1
      obtain ⟨xs, k, hk, hxy, _, hxl, hf⟩ := DataW.trod_struct Tryz.underlying79 h2
      obtain ⟨v0, v1, v2, v3, rfl⟩ := list4 hlen
      have g0 := hf 0 _ rfl
      have g1 := hf 1 _ rfl
      have g2 := hf 2 _ rfl
      have g3 := hf 3 _ rfl
      have s0 : Tryz.prog.cellsOf 3 = 1 := by kernel_rfl
      have s1 : Tryz.prog.cellsOf 30 = 1 := by kernel_rfl
      have s2 : Tryz.prog.cellsOf 5 = 1 := by kernel_rfl
      have s3 : Tryz.prog.cellsOf 4 = 1 := by kernel_rfl
      simp [s0, s1, s2, s3] at g0 g1 g2 g3
      have q0 : ∃ y, DataW.trod enc Tryz.prog W 0 (fun _ => true) true k 3 [v0] = some y := ⟨_, g0.trans (List.getElem?_eq_getElem (by rw [hxl]; decide))⟩
      have q1 : ∃ y, DataW.trod enc Tryz.prog W 0 (fun _ => true) true k 30 [v1] = some y ∧ ∀ m ∈ y.1.weights Tryz.prog 30, m ≤ reachBytes := ⟨_, g1.trans (List.getElem?_eq_getElem (by rw [hxl]; decide)), fun m hm => hwi m (by
        simp only [Prod.mk.injEq] at hxy
        rw [hxy.1]
        simp only [DataW.weights, Tryz.underlying79]
        exact DataW.weights_mem_each (j := 1) (t := 30) rfl (by rw [List.getElem?_map, List.getElem?_eq_getElem (by rw [hxl]; decide)]; rfl) m hm)⟩
      have q2 : ∃ y, DataW.trod enc Tryz.prog W 0 (fun _ => true) true k 5 [v2] = some y := ⟨_, g2.trans (List.getElem?_eq_getElem (by rw [hxl]; decide))⟩
      have q3 : ∃ y, DataW.trod enc Tryz.prog W 0 (fun _ => true) true k 4 [v3] = some y := ⟨_, g3.trans (List.getElem?_eq_getElem (by rw [hxl]; decide))⟩
      obtain ⟨y0, q0⟩ := q0
      obtain ⟨y1, q1, w1⟩ := q1
      obtain ⟨y2, q2⟩ := q2
      obtain ⟨y3, q3⟩ := q3
      obtain ⟨kd, e0, _, _⟩ := DataW.trod_int Tryz.underlying3 q0
      obtain ⟨qa, qq, qc, e1, hq, hq2, hq3, hq4⟩ := open_ints4w q1 w1
      obtain ⟨b, e2, _, hb⟩ := DataW.trod_int Tryz.underlying5 q2
      obtain ⟨sh, e3, _⟩ := DataW.trod_bool Tryz.underlying4 q3
      obtain ⟨b', rfl⟩ := byte_of' hb
      simp only [List.cons.injEq, and_true] at e0 e2 e3
      subst e0 e1 e2 e3
      have c0 := hcell 0 (by omega)
      have c1 := hcell 1 (by omega)
      have c2 := hcell 2 (by omega)
      have c3 := hcell 3 (by omega)
      rw [Deep.add_add] at c0 c1 c2 c3
      obtain ⟨bb, o, spot⟩ := x
      have hspot : spot = none := by
        obtain ⟨cs0, z1, _⟩ := hx 0 (by omega)
        obtain ⟨_, zl, zc⟩ := World.cells?_some z1
        have := (zc 0 (by omega)).trans (List.getElem?_eq_getElem (by omega))
        simpa [Addr.add] using World.cell?_spot this
      subst hspot
      rw [addr_add] at c0 c1 c2 c3
      exact ⟨⟨kd, qa, qq, qc, b', sh⟩, bb, o, rfl, by simpa using c0, by simpa [Nat.add_assoc] using c1, by simpa [Nat.add_assoc] using c2, by simpa [Nat.add_assoc] using c3, ⟨hq, hq2, hq3⟩, hq4⟩
    obtain ⟨q, hq⟩ := choose_lt each
    refine ⟨(List.range len).map q, by simp, fun i hi => ?_, by simp; unfold maxLen at hm; omega, fun x hx => by obtain ⟨i, hi, rfl⟩ := List.mem_map.1 hx; obtain ⟨b, o, e, h0, h1, h2, h3, h4, h5⟩ := hq i (List.mem_range.1 hi); exact h5⟩
    have hi' : i < len := by simpa using hi
    obtain ⟨b, o, e, h0, h1, h2, h3, h4, _⟩ := hq i hi'
    refine ⟨b, o, by rw [e], ?_, ?_, ?_, ?_, ?_⟩
    · simpa using h0
    · simpa using h1
    · simpa using h2
    · simpa using h3
    · simpa using h4
end Go.Proofs.YthdcjepkehifoaaGreat

/- PagerPlays: the law answers true. -/
namespace Go.Proofs.YthdcjepkehifoaaGreat
open Go.RowKit Go.Maps Go.Sort Go.Shelf
set_option linter.unusedVariables false
set_option maxRecDepth 20000
/-- the dirty pages of both -/
theorem dir_same {s : PS} {r : RS} (ag : Agree s r) (ok : CaOk s) : dirN r r.P = s.dl.map (·.1) := by
  have h1 : (dirN r r.P).Pairwise (· < ·) := (List.pairwise_lt_range (n := r.P)).filter _
  have h2 : (s.dl.map (·.1)).Pairwise (· < ·) := by rw [List.pairwise_map]; exact ok.dup
  have hm : ∀ x, x ∈ dirN r r.P ↔ x ∈ s.dl.map (·.1) := fun x => by
    unfold dirN
    rw [List.mem_filter, List.mem_range, ag.look ok, ag.P]
    constructor
    · rintro ⟨_, h⟩
      obtain ⟨y, hy⟩ := Option.isSome_iff_exists.1 h
      exact List.mem_map.2 ⟨(x, y), lookup_mem' hy, rfl⟩
    · intro h
      obtain ⟨c, hc, rfl⟩ := List.mem_map.1 h
      refine ⟨(ok.dlt c hc).1, ?_⟩
      rw [lookup_some' ok.dn (show (c.1, c.2) ∈ s.dl from hc)]
      rfl
  exact List.Perm.eq_of_pairwise (le := fun a b : Nat => a < b) (fun a b _ _ h1 h2 => by omega) h1 h2 ((List.perm_ext_iff_of_nodup (h1.imp (fun h => by omega)) (h2.imp (fun h => by omega))).2 hm)
theorem sameNats {w : World} {B1 B2 : Nat} {V1 V2 : Value} {l : List Nat} (h1 : w.ownsRow B1 3 1 V1 l.length (natCells l)) (h2 : w.ownsRow B2 3 1 V2 l.length (natCells l)) (hl : l.length ≤ 1000000) :
    Calls Tryz.prog 25 #[V1, V2] w fun e w' => e = .returned (.bool true) ∧ Below w.heap.size w w' := sameInts_eq h1 h2 hl
theorem sameNone (w : World) : Calls Tryz.prog 25 #[.slice none 0 0, .slice none 0 0] w fun e w' => e = .returned (.bool true) ∧ Below w.heap.size w w' := sameInts_eq (B1 := 0) (B2 := 0) (l := []) (World.ownsRow_nil _ _ _ _) (World.ownsRow_nil _ _ _ _) (by simp)
set_option maxHeartbeats 8000000 in
/-- no caches -/
theorem plays_none (za : Nat) (hza : za < 256) (x : Int) (hx : x < 1 ∨ 64 < x) (a : Option Addr) (l : List Dd) (cap : Nat) (w : World) (hl : DdsAt w a l) (hll : l.length ≤ 9223372036854775807) :
    Calls Tryz.prog 9 #[.int .u8 (za : Int), .int .i64 x, .slice a l.length cap] w fun e w' => e = .returned (.bool true) ∧ Below w.heap.size w w' := by
  obtain ⟨N, hN⟩ : ∃ N, N = l.length := ⟨_, rfl⟩
  have HL := hid hl
  have HN := hid hN
  have Hx := hid hx
  rw [← hN] at hll ⊢
  clear hl hN hx
  go_enter Tryz.func9, Tryz.ntmps9
  go_wp2_with fail
  generalize hSz : (za : Int) % 12 + 2 = Sz
  obtain ⟨S, rfl, hS2, hS3⟩ : ∃ S : Nat, Sz = (S : Int) ∧ 2 ≤ S ∧ S ≤ 13 := ⟨Sz.toNat, by omega, by omega, by omega⟩
  clear hSz
  refine (lawOpen4_none w S x hS2 (by omega) Hx.out).mono ?_
  rintro _ w1 ⟨rfl, b1⟩
  have HB1 := hid b1
  clear b1
  go_wp2_with fail
  refine (pgLive_any _).mono ?_
  rintro _ w2 ⟨rfl, b2⟩
  have HB2 := hid (HB1.out.trans (b2.mono HB1.out.size))
  clear b2 HB1
  go_wp2_with fail
  go_loopw [10] (fun i wr => ∃ k : Nat, k ≤ N ∧ k ≤ 60 ∧ i = .int .i64 (k : Int) ∧ Below w.heap.size w wr) (fun i _ => 60 - (intOf i).toNat)
  case atStart => exact ⟨0, Nat.zero_le _, Nat.zero_le _, rfl, HB2.out⟩
  case round =>
    obtain ⟨k, hkN, hk60, rfl, hB⟩ := hrel
    have HB := hid hB
    clear hB HB2
    by_cases hlt : k < N ∧ k < 60
    · obtain ⟨hlt1, hlt2⟩ := hlt
      have f1 : (k : Int) < (N : Int) := by omega
      have f2 : (k : Int) < 60 := by omega
      have f3 : (0 : Int) ≤ (k : Int) := by omega
      have hkl : k < l.length := by have := HN.out; omega
      obtain ⟨b, o, ha, d0, d1, d2, d3, hok⟩ := (HL.out.keep HB.out) k hkl
      subst ha
      generalize hdd : l[k] = dd at *
      obtain ⟨kd, qa, qq, qc, y, sh⟩ := dd
      dsimp only at d0 d1 d2 d3
      have Hdo := hid (don_any _ kd qa qq qc y sh hok.ints hok.len)
      clear hok hdd
      go_wp2_with fail
      refine Hdo.out.mono ?_
      rintro _ w3 ⟨rfl, hb3⟩
      have HB3 := hid (HB.out.trans (hb3.mono HB.out.size))
      clear hb3 Hdo d0 d1 d2 d3
      go_wp2_with fail
      refine (cached_nil w3).mono ?_
      rintro _ u ⟨rfl, hu⟩
      subst u
      go_wp2_with fail
      refine (rCached_nil4 w3).mono ?_
      rintro _ u ⟨rfl, hu⟩
      subst u
      go_wp2_with fail
      refine (sameNone w3).mono ?_
      rintro _ w4 ⟨rfl, hb4⟩
      have HB4 := hid (HB3.out.trans (hb4.mono HB3.out.size))
      clear hb4
      go_wp2_with fail
      refine (dirty_nil w4).mono ?_
      rintro _ u ⟨rfl, hu⟩
      subst u
      go_wp2_with fail
      refine (rDirty_nil4 w4).mono ?_
      rintro _ u ⟨rfl, hu⟩
      subst u
      go_wp2_with fail
      refine (sameNone w4).mono ?_
      rintro _ w5 ⟨rfl, hb5⟩
      have HB5 := hid (HB4.out.trans (hb5.mono HB4.out.size))
      clear hb5
      go_wp2_with fail
      refine (hits_nil w5).mono ?_
      rintro _ u ⟨rfl, hu⟩
      subst u
      go_wp2_with fail
      refine (rHits_nil4 w5).mono ?_
      rintro _ u ⟨rfl, hu⟩
      subst u
      go_wp2_with fail
      refine (misses_nil w5).mono ?_
      rintro _ u ⟨rfl, hu⟩
      subst u
      go_wp2_with fail
      refine (rMisses_nil4 w5).mono ?_
      rintro _ u ⟨rfl, hu⟩
      subst u
      go_wp2
      go_roundw
      case rel => exact ⟨k + 1, by omega, by omega, by go_num, HB5.out⟩
      case measure => simp [intOf]; omega
    · by_cases hkn : k < N
      · have f1 : (k : Int) < (N : Int) := by omega
        have f2 : ¬ (k : Int) < 60 := by omega
        go_wp2
        go_ret
        exact ⟨rfl, HB.out⟩
      · have f1 : ¬ (k : Int) < (N : Int) := by omega
        go_wp2
        go_ret
        exact ⟨rfl, HB.out⟩
set_option maxHeartbeats 16000000 in
/-- both caches -/
theorem plays_two4 (za : Nat) (hza : za < 256) (mo : Nat) (hm1 : 1 ≤ mo) (hm2 : mo ≤ 64) (a : Option Addr) (l : List Dd) (cap : Nat) (w : World) (hl : DdsAt w a l) (hll : l.length ≤ 9223372036854775807) (h8 : ∀ x ∈ l, x.q.length * 8 ≤ reachBytes) :
    Calls Tryz.prog 9 #[.int .u8 (za : Int), .int .i64 (mo : Int), .slice a l.length cap] w fun e w' => e = .returned (.bool true) ∧ Below w.heap.size w w' := by
  obtain ⟨N, hN⟩ : ∃ N, N = l.length := ⟨_, rfl⟩
  have HL := hid hl
  have HN := hid hN
  have H8 := hid h8
  rw [← hN] at hll ⊢
  clear hl hN h8
  go_enter Tryz.func9, Tryz.ntmps9
  go_wp2_with fail
  generalize hSz : (za : Int) % 12 + 2 = Sz
  obtain ⟨S, rfl, hS2, hS3⟩ : ∃ S : Nat, Sz = (S : Int) ∧ 2 ≤ S ∧ S ≤ 13 := ⟨Sz.toNat, by omega, by omega, by omega⟩
  clear hSz
  refine (lawOpen4_two w S mo hS2 (by omega) hm1 hm2).mono ?_
  rintro _ w1 ⟨p, q, m1, rfl, hD1, b1⟩
  have HD1 := hid hD1
  have HB1 := hid b1
  clear hD1 b1
  go_wp2_with fail
  refine (pgLive_any _).mono ?_
  rintro _ w2 ⟨rfl, b2⟩
  have HD2 := hid (HD1.out.below b2)
  have HB2 := hid (HB1.out.trans (b2.mono HB1.out.size))
  clear b2 HD1 HB1
  go_wp2_with fail
  go_loopw [10] (fun i wr => ∃ (k : Nat) (s : PS) (r : RS) (m : RM), k ≤ N ∧ k ≤ 60 ∧ i = .int .i64 (k : Int) ∧ Duo4 wr w.heap.size p q s r (fun k => k < w.heap.size) m ∧ Bnd s (3 * k) (17592186044415 * k) ∧ Below w.heap.size w wr) (fun i _ => 60 - (intOf i).toNat)
  case atStart => exact ⟨0, _, _, m1, Nat.zero_le _, Nat.zero_le _, rfl, HD2.out, ⟨Nat.zero_le _, Nat.zero_le _, rfl⟩, HB2.out⟩
  case round =>
    obtain ⟨k, s, r, m, hkN, hk60, rfl, hD, hbn, hB⟩ := hrel
    have HD := hid hD
    have Hbn := hid hbn
    have HB := hid hB
    clear hD hbn hB HD2 HB2
    by_cases hlt : k < N ∧ k < 60
    · obtain ⟨hlt1, hlt2⟩ := hlt
      have f1 : (k : Int) < (N : Int) := by omega
      have f2 : (k : Int) < 60 := by omega
      have f3 : (0 : Int) ≤ (k : Int) := by omega
      have hkl : k < l.length := by have := HN.out; omega
      obtain ⟨b, o, ha, d0, d1, d2, d3, hok⟩ := (HL.out.keep HB.out) k hkl
      have hok0 : DdOk w l[k] := by obtain ⟨_, _, _, _, _, _, _, h⟩ := HL.out k hkl; exact h
      subst ha
      have h8k := H8.out _ (List.getElem_mem hkl)
      generalize hdd : l[k] = dd at *
      obtain ⟨kd, qa, qq, qc, y, sh⟩ := dd
      dsimp only at d0 d1 d2 d3 h8k
      have da : DArg wr w.heap.size qa qq := ⟨hok.ints, hok.wf, by unfold reachBytes at h8k; omega, fun b' o' e h0 => by
        obtain ⟨b2, o2, e2, hc2⟩ := hok0.ints 0 h0
        dsimp only at e2
        rw [e] at e2
        cases e2
        exact World.block_lt_of_cell? _ _ hc2⟩
      have hB1 : w.heap.size ≤ wr.heap.size := HB.out.size
      have Hdo := hid (do4_any HD.out Hbn.out (by omega) (by omega) hB1 kd qa qq qc y sh da)
      clear hok hok0 hdd da h8k
      go_wp2_with fail
      refine Hdo.out.mono ?_
      rintro _ w3 ⟨rfl, ⟨s3, r3, m3, hD3, hbn3⟩, hb3⟩
      have HD3 := hid hD3
      have Hbn3 := hid hbn3
      have HB3 := hid (HB.out.trans hb3)
      have hs3 := hb3.size
      have hag3 := hD3.2.2.1
      have hok3 := hD3.ok.1
      have hfew3 := hag3.few hok3 hbn3.P (by have := hbn3.u; omega)
      have hbt3 := hbn3.t
      have Hca := hid (cached_c hD3.2.1)
      have Hag3 := hid hag3
      have Hok3 := hid hok3
      clear hb3 Hdo d0 d1 d2 d3 hD3 hbn3 hag3 hok3
      go_wp2_with fail
      refine Hca.out.mono ?_
      rintro _ w4 ⟨v4, rfl, hr4, hb4⟩
      have HD4 := hid (HD3.out.below hb4)
      have HR4 := hid hr4
      have HB4 := hid (HB3.out.trans (hb4.mono HB3.out.size))
      have hrc := rcached_any HD4.out.1 (by omega)
      rw [Hag3.out.ord] at hrc
      have Hrc := hid hrc
      clear hr4 hb4 Hca hrc
      go_wp2_with fail
      refine Hrc.out.mono ?_
      rintro _ w5 ⟨v5, rfl, hr5, hb5⟩
      have HD5 := hid (HD4.out.below hb5)
      have HB5 := hid (HB4.out.trans (hb5.mono HB4.out.size))
      have Hsi := hid (sameNats (own_below HR4.out hb5) hr5 (by rw [← Hag3.out.ord]; omega))
      clear hr5 hb5 Hrc
      go_wp2_with fail
      refine Hsi.out.mono ?_
      rintro _ w6 ⟨rfl, hb6⟩
      have HD6 := hid (HD5.out.below hb6)
      have HB6 := hid (HB5.out.trans (hb6.mono HB5.out.size))
      have Hdi := hid (dirty_c HD6.out.2.1 (by omega))
      clear hb6 Hsi
      go_wp2_with fail
      refine Hdi.out.mono ?_
      rintro _ w7 ⟨v7, rfl, hr7, hb7⟩
      have HD7 := hid (HD6.out.below hb7)
      have HR7 : Hid (w7.ownsRow w6.heap.size 3 1 v7 (s3.dl.map (·.1)).length (natCells (s3.dl.map (·.1)))) := by
        show w7.ownsRow _ _ _ _ _ _
        rw [List.length_map]
        exact hr7
      have HB7 := hid (HB6.out.trans (hb7.mono HB6.out.size))
      have hrd := rdirty_any HD7.out.1 (by omega) (by rw [Hag3.out.P, Hbn3.out.P]; omega)
      rw [dir_same Hag3.out Hok3.out] at hrd
      have Hrd := hid hrd
      clear hr7 hb7 Hdi hrd
      go_wp2_with fail
      refine Hrd.out.mono ?_
      rintro _ w8 ⟨v8, rfl, hr8, hb8⟩
      have HD8 := hid (HD7.out.below hb8)
      have HB8 := hid (HB7.out.trans (hb8.mono HB7.out.size))
      have Hsi := hid (sameNats (own_below HR7.out hb8) hr8 (by rw [List.length_map, ← Hag3.out.dd.length_eq]; omega))
      clear hr8 hb8 Hrd
      go_wp2_with fail
      refine Hsi.out.mono ?_
      rintro _ w9 ⟨rfl, hb9⟩
      have HD9 := hid (HD8.out.below hb9)
      have HB9 := hid (HB8.out.trans (hb9.mono HB8.out.size))
      clear hb9 Hsi
      go_wp2_with fail
      refine (hits_c HD9.out.2.1).mono ?_
      rintro _ u ⟨rfl, hu⟩
      subst u
      have hrh := rhits_any HD9.out.1
      rw [Hag3.out.hi] at hrh
      have Hrh := hid hrh
      clear hrh
      go_wp2_with fail
      refine Hrh.out.mono ?_
      rintro _ u ⟨rfl, hu⟩
      subst u
      go_wp2_with fail
      refine (misses_c HD9.out.2.1).mono ?_
      rintro _ u ⟨rfl, hu⟩
      subst u
      have hrm := rmisses_any HD9.out.1
      rw [Hag3.out.mi] at hrm
      have Hrm := hid hrm
      clear hrm Hrh
      go_wp2_with fail
      refine Hrm.out.mono ?_
      rintro _ u ⟨rfl, hu⟩
      subst u
      go_wp2
      go_roundw
      case rel => exact ⟨k + 1, s3, r3, m3, by omega, by omega, by go_num, HD9.out, ⟨by have := Hbn3.out.t; omega, by have := Hbn3.out.u; omega, Hbn3.out.P⟩, HB9.out⟩
      case measure => simp [intOf]; omega
    · by_cases hkn : k < N
      · have f1 : (k : Int) < (N : Int) := by omega
        have f2 : ¬ (k : Int) < 60 := by omega
        have ht1 := Hbn.out.t
        obtain ⟨mp, hpm, hext, hF⟩ := HD.out.2.1
        have hag := HD.out.2.2.1
        obtain ⟨rd, Fv, Lv, vs, us, hRW, hinv, hRb⟩ := HD.out.1.log
        have hsP := Hbn.out.P
        have hrP : r.P = 11 := by rw [hag.P]; exact hsP
        have c0 := HD.out.1.c0
        have hlsl := hpm.log.lsl
        have hls : r.ls.length ≤ 130000 := by rw [hag.ls]; omega
        have hS13 : s.S + 1 + s.P ≤ 1024 := by have h1 := hpm.log.inv.len; have h2 := hpm.log.inv.most; omega
        have HPM := hid hpm
        have HRW := hid hRW
        have Hag := hid hag
        obtain ⟨IM, hIM⟩ : ∃ IM, IM = psOf (fresh s.S s.P) s.ls := ⟨_, rfl⟩
        have HIM := hid hIM
        have hIMr : psOf (fresh r.S r.P) r.ls = IM := by rw [hIM, hag.S, hag.P, hag.ls]
        have HIMr := hid hIMr
        have hIMl : IM.length = s.S + 12 := by rw [hIM, psOf_length, fresh_length, hsP]
        have HIMf : Hid (∀ p ∈ IM, p.length = 256) := by rw [hIM]; exact hpm.log.inv.full
        have hwB : w.heap.size ≤ wr.heap.size := HB.out.size
        have HlogU := hid (fun (u : World) (hu : Below wr.heap.size wr u) => pgLog_any (hpm.below hu))
        have HdiskU : Hid (∀ (u : World), Below wr.heap.size wr u → Calls Tryz.prog 31 #[.pointer (some ⟨mp.l, 0, none⟩)] u fun e w' => ∃ d' g' cap' v', e = .returned (.pointer (some ⟨d', 0, none⟩)) ∧ DiskAt w' u.heap.size d' g' cap' v' IM (chOf (fresh s.S s.P) s.ls) ∧ Below u.heap.size u w') := fun u hu => by
          have h9 := one_disk (show LogAt u 0 s.S s.P s.t mp.l s.G s.gs s.ls from ⟨_, _, _, _, _, _, (hpm.below hu).log⟩) (by omega)
          rw [← hIM] at h9
          exact h9
        have HrdU := hid (fun (u : World) (hu : Below wr.heap.size wr u) => rdisk_any (hRW.below hu).mem (Nat.le_trans hwB hu.size))
        have hch : (chOf (fresh s.S s.P) s.ls).length = s.ls.length := by rw [chOf_length]
        have Hch := hid hch
        have hrlen : r.ls.length = s.ls.length := by rw [hag.ls]
        have Hrl := hid hrlen
        have HRok := hid hRW.ok
        have HRfull := hid hRW.full
        have hfl : (fresh r.S r.P).length = s.S + 12 := by rw [fresh_length, hag.S, hrP]
        have Hfl := hid hfl
        have bdr : Below wr.heap.size wr wr.drew := ⟨rfl, rfl, rfl, Nat.le_refl _, fun _ _ => rfl⟩
        have Hbd := hid bdr
        clear hext hF hag hRW hinv hRb hlsl hpm hIM hIMr hch hrlen bdr hfl
        go_wp2
        go_region_held3 (fun w9 => w9.cell? ⟨q, 0, none⟩ = some (.pointer (some ⟨m.ml, 0, none⟩))) (first | exact c0 | exact q9.out | exact q8.out | exact q6.out | exact q5.out | exact q4.out | exact q3.out | exact q2.out)
          (first
            | ((go_at_call 63; refine (refCount_any HR9.out).mono ?_; rintro e u10 ⟨rfl, hu10⟩; rw [Hrl.out]; subst hu10))
            | ((go_at_call 33; refine (HrdU.out u8 Hb8.out).mono ?_; rintro e u9 ⟨f9, rfl, hR9, hb9⟩; have HR9 := hid hR9; have Hb9 := hid (Hb8.out.trans (hb9.mono Hb8.out.size)); have q9 := hid ((Hb9.out.cell (World.block_lt_of_cell? _ _ c0)).trans c0); clear hR9 hb9))
            | ((go_at_call 39; refine (count_any HD8.out).mono ?_; rintro e u ⟨rfl, hu⟩; rw [Hch.out]; subst u))
            | ((go_at_call 31; refine (HdiskU.out u6 Hb6.out).mono ?_; rintro e u8 ⟨d8, g8, cap8, v8, rfl, hD8, hb8⟩; have HD8 := hid hD8; have Hb8 := hid (Hb6.out.trans (hb8.mono Hb6.out.size)); have q8 := hid ((Hb8.out.cell (World.block_lt_of_cell? _ _ c0)).trans c0); clear hD8 hb8))
            | ((go_at_call 62; refine (HlogU.out u6 Hb6.out).mono ?_; rintro e u ⟨rfl, hu⟩; subst u))
            | ((go_at_call 35; refine Hsa.out.mono ?_; rintro e u6 ⟨rfl, hb6⟩; have Hb6 := hid (Hb5.out.trans (hb6.mono Hb5.out.size)); have q6 := hid ((Hb6.out.cell (World.block_lt_of_cell? _ _ c0)).trans c0); clear hb6))
            | ((go_at_call 37; refine Hri.out.mono ?_; rintro e u5 ⟨b5, c5, vs5, rfl, hI5, hb5⟩; have Hb5 := hid (Hb4.out.trans (hb5.mono Hb4.out.size)); have q5 := hid ((Hb5.out.cell (World.block_lt_of_cell? _ _ c0)).trans c0); rw [HIMr.out, Hfl.out] at hI5; rw [Hfl.out]; have hsa := sameAll_eq (n := IM.length) rfl (HI4.out.below hb5) (by rw [hIMl]; exact hI5) (by omega) (fun p hp => by rw [HIMf.out p hp]; omega); rw [hIMl] at hsa; have Hsa := hid hsa; clear hI5 hb5 hsa))
            | ((go_at_call 33; refine (HrdU.out u3 Hb3.out).mono ?_; rintro e u4 ⟨f4, rfl, hR4, hb4⟩; have Hri := hid (refImage_ok hR4 HRok.out HRfull.out (by rw [Hfl.out]; omega) (by rw [Hfl.out]; omega) (by omega)); have HI4 := hid (HI3.out.below hb4); have Hb4 := hid (Hb3.out.trans (hb4.mono Hb3.out.size)); have q4 := hid ((Hb4.out.cell (World.block_lt_of_cell? _ _ c0)).trans c0); clear hR4 hb4))
            | ((go_at_call 36; refine Him.out.mono ?_; rintro e u3 ⟨b3, vs3, rfl, hI3, hb3⟩; have HI3 := hid hI3; have Hb3 := hid (Hb2.out.trans (hb3.mono Hb2.out.size)); have q3 := hid ((Hb3.out.cell (World.block_lt_of_cell? _ _ c0)).trans c0); rw [hIMl]; clear hI3 hb3))
            | ((go_at_call 31; refine (HdiskU.out wr.drew Hbd.out).mono ?_; rintro e u2 ⟨d2, g2, cap2, v2, rfl, hD2, hb2⟩; have Him := hid (image_ok hD2 (by omega) (by omega)); have Hb2 := hid (Hbd.out.trans (hb2.mono Hbd.out.size)); have q2 := hid ((Hb2.out.cell (World.block_lt_of_cell? _ _ c0)).trans c0); clear hD2 hb2))
            | ((go_at_call 62; refine (HlogU.out wr.drew Hbd.out).mono ?_; rintro e u ⟨rfl, hu⟩; subst u)))
        go_wp2
        go_ret
        exact ⟨ret_bool4 (by simp), HB.out.trans (Hb9.out.mono HB.out.size)⟩
      · have f1 : ¬ (k : Int) < (N : Int) := by omega
        have ht1 := Hbn.out.t
        obtain ⟨mp, hpm, hext, hF⟩ := HD.out.2.1
        have hag := HD.out.2.2.1
        obtain ⟨rd, Fv, Lv, vs, us, hRW, hinv, hRb⟩ := HD.out.1.log
        have hsP := Hbn.out.P
        have hrP : r.P = 11 := by rw [hag.P]; exact hsP
        have c0 := HD.out.1.c0
        have hlsl := hpm.log.lsl
        have hls : r.ls.length ≤ 130000 := by rw [hag.ls]; omega
        have hS13 : s.S + 1 + s.P ≤ 1024 := by have h1 := hpm.log.inv.len; have h2 := hpm.log.inv.most; omega
        have HPM := hid hpm
        have HRW := hid hRW
        have Hag := hid hag
        obtain ⟨IM, hIM⟩ : ∃ IM, IM = psOf (fresh s.S s.P) s.ls := ⟨_, rfl⟩
        have HIM := hid hIM
        have hIMr : psOf (fresh r.S r.P) r.ls = IM := by rw [hIM, hag.S, hag.P, hag.ls]
        have HIMr := hid hIMr
        have hIMl : IM.length = s.S + 12 := by rw [hIM, psOf_length, fresh_length, hsP]
        have HIMf : Hid (∀ p ∈ IM, p.length = 256) := by rw [hIM]; exact hpm.log.inv.full
        have hwB : w.heap.size ≤ wr.heap.size := HB.out.size
        have HlogU := hid (fun (u : World) (hu : Below wr.heap.size wr u) => pgLog_any (hpm.below hu))
        have HdiskU : Hid (∀ (u : World), Below wr.heap.size wr u → Calls Tryz.prog 31 #[.pointer (some ⟨mp.l, 0, none⟩)] u fun e w' => ∃ d' g' cap' v', e = .returned (.pointer (some ⟨d', 0, none⟩)) ∧ DiskAt w' u.heap.size d' g' cap' v' IM (chOf (fresh s.S s.P) s.ls) ∧ Below u.heap.size u w') := fun u hu => by
          have h9 := one_disk (show LogAt u 0 s.S s.P s.t mp.l s.G s.gs s.ls from ⟨_, _, _, _, _, _, (hpm.below hu).log⟩) (by omega)
          rw [← hIM] at h9
          exact h9
        have HrdU := hid (fun (u : World) (hu : Below wr.heap.size wr u) => rdisk_any (hRW.below hu).mem (Nat.le_trans hwB hu.size))
        have hch : (chOf (fresh s.S s.P) s.ls).length = s.ls.length := by rw [chOf_length]
        have Hch := hid hch
        have hrlen : r.ls.length = s.ls.length := by rw [hag.ls]
        have Hrl := hid hrlen
        have HRok := hid hRW.ok
        have HRfull := hid hRW.full
        have hfl : (fresh r.S r.P).length = s.S + 12 := by rw [fresh_length, hag.S, hrP]
        have Hfl := hid hfl
        have bdr : Below wr.heap.size wr wr.drew := ⟨rfl, rfl, rfl, Nat.le_refl _, fun _ _ => rfl⟩
        have Hbd := hid bdr
        clear hext hF hag hRW hinv hRb hlsl hpm hIM hIMr hch hrlen bdr hfl
        go_wp2
        go_region_held3 (fun w9 => w9.cell? ⟨q, 0, none⟩ = some (.pointer (some ⟨m.ml, 0, none⟩))) (first | exact c0 | exact q9.out | exact q8.out | exact q6.out | exact q5.out | exact q4.out | exact q3.out | exact q2.out)
          (first
            | ((go_at_call 63; refine (refCount_any HR9.out).mono ?_; rintro e u10 ⟨rfl, hu10⟩; rw [Hrl.out]; subst hu10))
            | ((go_at_call 33; refine (HrdU.out u8 Hb8.out).mono ?_; rintro e u9 ⟨f9, rfl, hR9, hb9⟩; have HR9 := hid hR9; have Hb9 := hid (Hb8.out.trans (hb9.mono Hb8.out.size)); have q9 := hid ((Hb9.out.cell (World.block_lt_of_cell? _ _ c0)).trans c0); clear hR9 hb9))
            | ((go_at_call 39; refine (count_any HD8.out).mono ?_; rintro e u ⟨rfl, hu⟩; rw [Hch.out]; subst u))
            | ((go_at_call 31; refine (HdiskU.out u6 Hb6.out).mono ?_; rintro e u8 ⟨d8, g8, cap8, v8, rfl, hD8, hb8⟩; have HD8 := hid hD8; have Hb8 := hid (Hb6.out.trans (hb8.mono Hb6.out.size)); have q8 := hid ((Hb8.out.cell (World.block_lt_of_cell? _ _ c0)).trans c0); clear hD8 hb8))
            | ((go_at_call 62; refine (HlogU.out u6 Hb6.out).mono ?_; rintro e u ⟨rfl, hu⟩; subst u))
            | ((go_at_call 35; refine Hsa.out.mono ?_; rintro e u6 ⟨rfl, hb6⟩; have Hb6 := hid (Hb5.out.trans (hb6.mono Hb5.out.size)); have q6 := hid ((Hb6.out.cell (World.block_lt_of_cell? _ _ c0)).trans c0); clear hb6))
            | ((go_at_call 37; refine Hri.out.mono ?_; rintro e u5 ⟨b5, c5, vs5, rfl, hI5, hb5⟩; have Hb5 := hid (Hb4.out.trans (hb5.mono Hb4.out.size)); have q5 := hid ((Hb5.out.cell (World.block_lt_of_cell? _ _ c0)).trans c0); rw [HIMr.out, Hfl.out] at hI5; rw [Hfl.out]; have hsa := sameAll_eq (n := IM.length) rfl (HI4.out.below hb5) (by rw [hIMl]; exact hI5) (by omega) (fun p hp => by rw [HIMf.out p hp]; omega); rw [hIMl] at hsa; have Hsa := hid hsa; clear hI5 hb5 hsa))
            | ((go_at_call 33; refine (HrdU.out u3 Hb3.out).mono ?_; rintro e u4 ⟨f4, rfl, hR4, hb4⟩; have Hri := hid (refImage_ok hR4 HRok.out HRfull.out (by rw [Hfl.out]; omega) (by rw [Hfl.out]; omega) (by omega)); have HI4 := hid (HI3.out.below hb4); have Hb4 := hid (Hb3.out.trans (hb4.mono Hb3.out.size)); have q4 := hid ((Hb4.out.cell (World.block_lt_of_cell? _ _ c0)).trans c0); clear hR4 hb4))
            | ((go_at_call 36; refine Him.out.mono ?_; rintro e u3 ⟨b3, vs3, rfl, hI3, hb3⟩; have HI3 := hid hI3; have Hb3 := hid (Hb2.out.trans (hb3.mono Hb2.out.size)); have q3 := hid ((Hb3.out.cell (World.block_lt_of_cell? _ _ c0)).trans c0); rw [hIMl]; clear hI3 hb3))
            | ((go_at_call 31; refine (HdiskU.out wr.drew Hbd.out).mono ?_; rintro e u2 ⟨d2, g2, cap2, v2, rfl, hD2, hb2⟩; have Him := hid (image_ok hD2 (by omega) (by omega)); have Hb2 := hid (Hbd.out.trans (hb2.mono Hbd.out.size)); have q2 := hid ((Hb2.out.cell (World.block_lt_of_cell? _ _ c0)).trans c0); clear hD2 hb2))
            | ((go_at_call 62; refine (HlogU.out wr.drew Hbd.out).mono ?_; rintro e u ⟨rfl, hu⟩; subst u)))
        go_wp2
        go_ret
        exact ⟨ret_bool4 (by simp), HB.out.trans (Hb9.out.mono HB.out.size)⟩
theorem pagerPlays_walk (za : Nat) (hza : za < 256) (x : Int) (a : Option Addr) (l : List Dd) (cap : Nat) (w : World) (hl : DdsAt w a l) (hll : l.length ≤ 9223372036854775807) (h8 : ∀ x ∈ l, x.q.length * 8 ≤ reachBytes) :
    Calls Tryz.prog 9 #[.int .u8 (za : Int), .int .i64 x, .slice a l.length cap] w fun e w' => e = .returned (.bool true) ∧ Below w.heap.size w w' := by
  by_cases hx : x < 1 ∨ 64 < x
  · exact plays_none za hza x hx a l cap w hl hll
  · obtain ⟨mo, rfl⟩ : ∃ mo : Nat, x = (mo : Int) := ⟨x.toNat, by omega⟩
    exact plays_two4 za hza mo (by omega) (by omega) a l cap w hl hll h8
end Go.Proofs.YthdcjepkehifoaaGreat
