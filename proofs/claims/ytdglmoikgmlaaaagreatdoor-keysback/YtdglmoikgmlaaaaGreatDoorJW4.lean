/- holdfastlaw09.KeysBack walked. (Printed by gen/jback.py.) -/
import Derived.Test.YtdglmoikgmlaaaaGreatDoorJLoad
import Derived.Test.YtdglmoikgmlaaaaGreatDoorJBM
import Derived.Test.YtdglmoikgmlaaaaGreatDoorJArgs
namespace Go.Proofs.YtdglmoikgmlaaaaGreatDoor.Bk
open Go.RowKit Go.Maps
set_option linter.unusedVariables false
set_option maxRecDepth 20000
theorem same_self (x : List UInt8) (a b : Option Addr) (ca cb : Nat) (w : World) (hx : Bytes w a x) (hy : Bytes w b x) (lx : x.length ≤ 140737488351232) :
    Calls Tryz.prog 19 #[.slice a x.length ca, .slice b x.length cb] w fun e w' => e = .returned (.bool true) ∧ Below w.heap.size w w' := by
  have h := sameBytes_any x x a b ca cb w hx hy lx lx
  rw [decide_eq_true rfl] at h
  exact h
theorem hf_rowsback : ∀ (args : Array Value) (w : World), (callFunc 11 args).run Tryz.prog w = .ok (.enter 11 args) w := fun args w => by simp [go_sem]
theorem hf_loadback : ∀ (args : Array Value) (w : World), (callFunc 13 args).run Tryz.prog w = .ok (.enter 13 args) w := fun args w => by simp [go_sem]
theorem load_bs {w : World} {root : List UInt8} (lk : root.length = 32) {k n : Nat} (hk : k ≤ 15) (hn : n ≤ 2) {m : List Xr.Rw} (hp : m.Perm (Xr.mOf (bs k n))) (ho : Xr.InOrder Xr.keyR m) {a : Option Addr} {N c : Nat} (hN : N = m.length) (h : Xr.RIn w a m) :
    Calls Tryz.prog 13 #[.agg (bvs root), .slice a N c] w fun e w' => ∃ g mv mg, e = .returned (.tuple #[.pointer (some ⟨g, 0, none⟩), .int .i64 0]) ∧ TreeM w' w.heap.size g mv mg root (bs k n) 801 ∧ Below w.heap.size w w' := by
  obtain ⟨h1, h2, h3⟩ := load_back k n hk hn hp ho
  refine (Xr.load_any lk m ⟨by omega, fun r hr => ?_⟩ a N c hN h (fun _ j s hj _ => by omega)).mono fun e w' hL => ?_
  · obtain ⟨q1, q2, q3⟩ := h3 r hr
    exact ⟨by omega, by omega, fun c hc => by have := q3 c hc; omega⟩
  · obtain ⟨hb, hl⟩ := hL
    rw [h1] at hl
    obtain ⟨g, mv, mg, e1, t⟩ := hl
    exact ⟨g, mv, mg, e1, t, hb⟩
noncomputable def codeback (n : Nat) : Code := ((Tryz.f5.body.bind (regionAt n)).getD .skip)
set_option maxHeartbeats 4000000 in
theorem back_region16 {V0 W5 : World} {B g mv mg R k n d : Nat} {root : List UInt8} {A : Act} (sz : A.tmps.size = 128) (e3 : A.eval (.tmp 3) = .pointer (some ⟨R, 0, none⟩)) (e7 : A.eval (.tmp 7) = .pointer (some ⟨g, 0, none⟩)) (lk : root.length = 32) (hk : k ≤ 15) (hn : n ≤ 2) (hT : TreeM V0 B g mv mg root (bs k n) d) (hTab : TabAt V0) (hV0 : V0 = W5.drew) (hs0 : (fun V => V.heap[R]? = some (.cells (bvs root) 23 (0, 0))) V0) :
    (codeback 16).wp Tryz.prog (fun ex b V => ex = .normal ∧ ∃ (g2 mv2 mg2 : Nat) (a1 : Option Addr) (N1 c1 : Nat), b = (((((((((A.put (some 72) (.agg (bvs root))).put (some 73) (.pointer (some ⟨g, 0, none⟩))).put (some 74) (.slice a1 N1 c1)).put (some 75) (.tuple #[.pointer (some ⟨g2, 0, none⟩), .int .i64 0])).put (some 71) (.tuple #[.pointer (some ⟨g2, 0, none⟩), .int .i64 0])).put (some 76) (.pointer (some ⟨g2, 0, none⟩))).put (some 77) (.int .i64 0)).put (some 20) (.pointer (some ⟨g2, 0, none⟩))).put (some 21) (.int .i64 0)) ∧ (∃ B2, V0.heap.size ≤ B2 ∧ TreeM V B2 g2 mv2 mg2 root (bs k n) 801) ∧ Below V0.heap.size V0 V) A W5 := by
  have hm : Tryz.prog.follows .mixedOrders = true := by kernel_rfl
  unfold codeback
  conv => arg 2; whnf
  refine wp_region_G (fun _ => false) ((fun V => V.heap[R]? = some (.cells (bvs root) 23 (0, 0)))) hm ?_
  rw [show ({ W5 with drawn := W5.drawn + 1 } : World) = V0 from hV0.symm]
  refine wpAnyG_take (i := 0) (v := .agg (bvs root)) rfl (by kernel_rfl) (by kernel_rfl) (by kernel_rfl) (fun _ _ _ h => nomatch h.1) (yieldsIf_load_mid (by simp [Region.wanted]) 23 (.tmp 3) rfl R 0 e3 (cellsOf root) _ (fun V hV => rangeJ hV) Tryz.underlying23 rfl (by rw [cellsOf_length, lk]; exact size_hash)) hs0 ?_
  show wpAnyG _ _ _ _ _ _ _ _ (A.put (some 72) (.agg (bvs root))) _
  refine wpAnyG_take (i := 1) (v := .pointer (some ⟨g, 0, none⟩)) rfl (by kernel_rfl) (by kernel_rfl) (by kernel_rfl) (fun _ _ _ h => nomatch h.1) (yg_mv (by simp [Region.wanted]) (.tmp 7) rfl ((ev_ne _ _ (by decide)).trans e7)) hs0 ?_
  show wpAnyG _ _ _ _ _ _ _ _ ((A.put (some 72) (.agg (bvs root))).put (some 73) (.pointer (some ⟨g, 0, none⟩))) _
  refine wpAnyG_all (rs := [2]) (by kernel_rfl) (by simp) fun i1 hm1 => ?_
  obtain rfl : i1 = 2 := by simpa using hm1
  refine wpOp_own rfl rfl fun K1 hK1 => ?_
  refine wp_calls1 11 hf_rowsback (.tmp 73) _ rfl (.pointer (some ⟨g, 0, none⟩)) (ev_eq _ _ (by simp [put_sz, sz])) ?_
  refine (Xr.rows_m hT (by have := hn; show n ≤ _; omega) hTab).mono ?_
  rintro _ V1 ⟨v1, r1, m1, rfl, o1, i1, p1, q1, b1⟩
  have hs1 := (b1.block R (heap_lt hs0)).trans hs0
  obtain ⟨a1, c1, e9, hin⟩ := Xr.RIn.of_own o1 i1
  obtain ⟨N1, hN1⟩ : ∃ N1, N1 = m1.length := ⟨_, rfl⟩
  rw [← hN1] at e9
  subst e9
  refine ⟨_, rfl, hK1 _ _ ⟨.inr hs1, ?_⟩⟩
  clear hK1 K1 hm1
  show wpAnyG _ _ _ _ _ _ _ _ (((A.put (some 72) (.agg (bvs root))).put (some 73) (.pointer (some ⟨g, 0, none⟩))).put (some 74) (.slice a1 N1 c1)) _
  refine wpAnyG_all (rs := [3]) (by kernel_rfl) (by simp) fun i2 hm2 => ?_
  obtain rfl : i2 = 3 := by simpa using hm2
  refine wpOp_own rfl rfl fun K2 hK2 => ?_
  refine wp_calls2 13 hf_loadback (.tmp 72) (.tmp 74) _ rfl (.agg (bvs root)) (.slice a1 N1 c1) ((ev_ne _ _ (by decide)).trans ((ev_ne _ _ (by decide)).trans (ev_eq _ _ (by simp [sz])))) (ev_eq _ _ (by simp [put_sz, sz])) ?_
  refine (load_bs lk hk hn p1 q1 hN1 hin).mono ?_
  rintro _ V2 ⟨g2, mv2, mg2, rfl, t2, b2⟩
  have hs2 := (b2.block R (heap_lt hs1)).trans hs1
  refine ⟨_, rfl, hK2 _ _ ⟨.inr hs2, ?_⟩⟩
  clear hK2 K2 hm2
  show wpAnyG _ _ _ _ _ _ _ _ ((((A.put (some 72) (.agg (bvs root))).put (some 73) (.pointer (some ⟨g, 0, none⟩))).put (some 74) (.slice a1 N1 c1)).put (some 75) (.tuple #[.pointer (some ⟨g2, 0, none⟩), .int .i64 0])) _
  refine wpAnyG_take (i := 4) (v := .tuple #[.pointer (some ⟨g2, 0, none⟩), .int .i64 0]) rfl (by kernel_rfl) (by kernel_rfl) (by kernel_rfl) (fun _ _ _ h => nomatch h.1) (yg_mv (by simp [Region.wanted]) (.tmp 75) rfl (ev_eq _ _ (by simp [put_sz, sz]))) hs2 ?_
  show wpAnyG _ _ _ _ _ _ _ _ (((((A.put (some 72) (.agg (bvs root))).put (some 73) (.pointer (some ⟨g, 0, none⟩))).put (some 74) (.slice a1 N1 c1)).put (some 75) (.tuple #[.pointer (some ⟨g2, 0, none⟩), .int .i64 0])).put (some 71) (.tuple #[.pointer (some ⟨g2, 0, none⟩), .int .i64 0])) _
  refine wpAnyG_take (i := 5) (v := .pointer (some ⟨g2, 0, none⟩)) rfl (by kernel_rfl) (by kernel_rfl) (by kernel_rfl) (fun _ _ _ h => nomatch h.1) (yg_ext (by simp [Region.wanted]) (.tmp 71) rfl (ev_eq _ _ (by simp [put_sz, sz])) (fun w => by simp [go_sem])) hs2 ?_
  show wpAnyG _ _ _ _ _ _ _ _ ((((((A.put (some 72) (.agg (bvs root))).put (some 73) (.pointer (some ⟨g, 0, none⟩))).put (some 74) (.slice a1 N1 c1)).put (some 75) (.tuple #[.pointer (some ⟨g2, 0, none⟩), .int .i64 0])).put (some 71) (.tuple #[.pointer (some ⟨g2, 0, none⟩), .int .i64 0])).put (some 76) (.pointer (some ⟨g2, 0, none⟩))) _
  refine wpAnyG_take (i := 6) (v := .int .i64 0) rfl (by kernel_rfl) (by kernel_rfl) (by kernel_rfl) (fun _ _ _ h => nomatch h.1) (yg_ext (by simp [Region.wanted]) (.tmp 71) rfl ((ev_ne _ _ (by decide)).trans (ev_eq _ _ (by simp [put_sz, sz]))) (fun w => by simp [go_sem])) hs2 ?_
  show wpAnyG _ _ _ _ _ _ _ _ (((((((A.put (some 72) (.agg (bvs root))).put (some 73) (.pointer (some ⟨g, 0, none⟩))).put (some 74) (.slice a1 N1 c1)).put (some 75) (.tuple #[.pointer (some ⟨g2, 0, none⟩), .int .i64 0])).put (some 71) (.tuple #[.pointer (some ⟨g2, 0, none⟩), .int .i64 0])).put (some 76) (.pointer (some ⟨g2, 0, none⟩))).put (some 77) (.int .i64 0)) _
  refine wpAnyG_one (i := 7) (v := .pointer (some ⟨g2, 0, none⟩)) rfl (by kernel_rfl) (yg_as (by simp [Region.wanted]) (.tmp 76) rfl ((ev_ne _ _ (by decide)).trans (ev_eq _ _ (by simp [put_sz, sz])))) hs2 ?_
  show wpAnyG _ _ _ _ _ _ _ _ ((((((((A.put (some 72) (.agg (bvs root))).put (some 73) (.pointer (some ⟨g, 0, none⟩))).put (some 74) (.slice a1 N1 c1)).put (some 75) (.tuple #[.pointer (some ⟨g2, 0, none⟩), .int .i64 0])).put (some 71) (.tuple #[.pointer (some ⟨g2, 0, none⟩), .int .i64 0])).put (some 76) (.pointer (some ⟨g2, 0, none⟩))).put (some 77) (.int .i64 0)).put (some 20) (.pointer (some ⟨g2, 0, none⟩))) _
  refine wpAnyG_one (i := 8) (v := .int .i64 0) rfl (by kernel_rfl) (yg_as (by simp [Region.wanted]) (.tmp 77) rfl ((ev_ne _ _ (by decide)).trans (ev_eq _ _ (by simp [put_sz, sz])))) hs2 ?_
  show wpAnyG _ _ _ _ _ _ _ _ (((((((((A.put (some 72) (.agg (bvs root))).put (some 73) (.pointer (some ⟨g, 0, none⟩))).put (some 74) (.slice a1 N1 c1)).put (some 75) (.tuple #[.pointer (some ⟨g2, 0, none⟩), .int .i64 0])).put (some 71) (.tuple #[.pointer (some ⟨g2, 0, none⟩), .int .i64 0])).put (some 76) (.pointer (some ⟨g2, 0, none⟩))).put (some 77) (.int .i64 0)).put (some 20) (.pointer (some ⟨g2, 0, none⟩))).put (some 21) (.int .i64 0)) _
  refine wpAnyG_done (by kernel_rfl) ⟨rfl, g2, mv2, mg2, a1, N1, c1, rfl, ⟨_, b1.size, t2⟩, Below.on' b1 b2⟩ _
structure BK (W w : World) (g mv mg : Nat) (root : List UInt8) (s : TS) (d : Nat) : Prop where
  t : TreeM w W.heap.size g mv mg root s d
  b : Below W.heap.size W w
section
variable {W w w' : World} {g mv mg : Nat} {root : List UInt8} {s s' : TS} {d d' : Nat}
theorem BK.below (h : BK W w g mv mg root s d) (hb : Below w.heap.size w w') : BK W w' g mv mg root s d := ⟨h.t.below hb, Below.on' h.b hb⟩
theorem BK.prog (h : BK W w g mv mg root s d) (t : TreeM w' W.heap.size g mv mg root s' d') (o : OutJ (Mine g mv mg) w w') : BK W w' g mv mg root s' d' := ⟨t, h.b.trans (h.t.below_of o h.b.size)⟩
/-- bytes of the walk's own -/
def Own (W w : World) (g m c : Nat) (C : List UInt8) : Prop := m = C.length ∧ m ≤ c ∧ w.ownsRow W.heap.size 5 1 (.slice (some ⟨g, 0, none⟩) m c) C.length (cellsOf C)
theorem Own.below {W : World} {gb m c : Nat} {C : List UInt8} (h : Own W w gb m c C) (hb : Below w.heap.size w w') : Own W w' gb m c C := ⟨h.1, h.2.1, own_on h.2.2 hb⟩
theorem Own.prog {W : World} {gb m c : Nat} {C : List UInt8} (h : Own W w gb m c C) (k : BK W w g mv mg root s d) (o : OutJ (Mine g mv mg) w w') : Own W w' gb m c C := ⟨h.1, h.2.1, bytes_prog h.2.2 k.t o⟩
theorem Own.bytes {W : World} {gb m c : Nat} {C : List UInt8} (h : Own W w gb m c C) : Bytes w (some ⟨gb, 0, none⟩) C := by
  obtain ⟨a, c', e, hB, _⟩ := bytes_of_own0 h.2.2
  injection e with e1
  rw [e1]; exact hB
theorem own_of {W : World} {B : Nat} {v : Value} {C : List UInt8} (h : w.ownsRow B 5 1 v C.length (cellsOf C)) (h0 : 0 < C.length) (hB : W.heap.size ≤ B) : ∃ gb m c, v = .slice (some ⟨gb, 0, none⟩) m c ∧ Own W w gb m c C := by
  obtain ⟨gb, cap, e, _, hc, _⟩ := own_some h h0
  subst e
  exact ⟨gb, _, cap, rfl, rfl, hc, own_mono h hB⟩
/-- bytes that were told, perhaps none -/
def Told (W w : World) (a : Option Addr) (N c : Nat) (C : List UInt8) : Prop := w.ownsRow W.heap.size 5 1 (.slice a N c) C.length (cellsOf C)
theorem Told.below {W : World} {a : Option Addr} {m c : Nat} {C : List UInt8} (h : Told W w a m c C) (hb : Below w.heap.size w w') : Told W w' a m c C := own_on h hb
theorem Told.prog {W : World} {a : Option Addr} {m c : Nat} {C : List UInt8} (h : Told W w a m c C) (k : BK W w g mv mg root s d) (o : OutJ (Mine g mv mg) w w') : Told W w' a m c C := bytes_prog h k.t o
theorem Told.bytes {W : World} {a : Option Addr} {m c : Nat} {C : List UInt8} (h : Told W w a m c C) : Bytes w a C := by
  obtain ⟨a', c', e, hB, _⟩ := bytes_of_own0 h
  injection e with e1
  rw [e1]; exact hB
theorem told_of {W : World} {B : Nat} {v : Value} {C : List UInt8} {N : Nat} (hN : N = C.length) (h : w.ownsRow B 5 1 v C.length (cellsOf C)) (hB : W.heap.size ≤ B) : ∃ a c, v = .slice a N c ∧ Told W w a N c C := by
  obtain ⟨a, c, e, _⟩ := bytes_of_own0 h
  subst e
  rw [hN]
  exact ⟨a, c, rfl, own_mono h hB⟩
end
set_option maxHeartbeats 8000000 in
theorem keysBack_walk {w : World} {O : Array Value} {root : List UInt8} (hO : HV O root) (plain : List UInt8) (a : Option Addr) (cap : Nat) (hB : BytesIn w a cap plain) (X : Nat) (hX : X ≤ 255) (hT : TabsJ w) :
    Calls Tryz.prog 5 #[.agg O, .slice a plain.length cap, .int .u8 (X : Int)] w fun e w' => e = .returned (.bool true) ∧ Below w.heap.size w w' := by
  obtain ⟨W, hW⟩ : ∃ W, W = w.alloc (.cells O 23) := ⟨_, rfl⟩
  have x0 : W.heap[w.heap.size]? = some (.cells O 23 (0, 0)) := by rw [hW]; exact heap_alloc_new w _
  have b0 : Below w.heap.size w W := by rw [hW]; exact (Below.refl _ w).alloc (Nat.le_refl _) _
  have lk := hO.len
  have HI := hid hO.info
  have HO := hid hO.eq
  have X0 := hid x0
  have HW := hid hW
  have B0 := hid b0
  have Hlk := hid lk
  have HT := hid (fun (V : World) (hV : Below W.heap.size W V) => (show TabsJ V from ⟨TabAt.belowJ hT.1 (Below.on' b0 hV), hT.2.below (Below.on' b0 hV)⟩))
  have HTb := hid (fun (V : World) (hV : Below W.heap.size W V) => b0.trans (hV.mono b0.size))
  have HP := hid (fun (V : World) (hV : Below W.heap.size W V) => (show Bytes V a plain from hB.bytes.below (Below.on' b0 hV)))
  have Hpl := hid hB.length
  obtain ⟨N, hN⟩ : ∃ N, N = plain.length := ⟨_, rfl⟩
  have HN := hid hN
  rw [← hN]
  have HNew := hid (fun (V : World) => (show Calls Tryz.prog 6 #[.agg O] V (fun e w' => ∃ g mv mg, e = .returned (.pointer (some ⟨g, 0, none⟩)) ∧ TreeAt w' V.heap.size g root mv mg 0 0 (.map []) (.map []) 0 ∧ Below V.heap.size V w' ∧ mv ≠ mg) by rw [HO.out]; exact new_any V root lk))
  by_cases hl : plain.length ≤ 1024
  · obtain ⟨K, hK⟩ : ∃ K, K = X % 16 := ⟨_, rfl⟩
    have hK15 : K ≤ 15 := by omega
    have HK := hid hK
    obtain ⟨C1, hC1⟩ : ∃ C1, C1 = UInt8.ofNat 1 :: sealB (derRes root [nA, nM, txtJ 1]) 0 plain := ⟨_, rfl⟩
    have l1 : 0 < C1.length ∧ C1.length ≤ 1049 := by rw [hC1]; simp only [List.length_cons, sealB_len]; omega
    have L1 := hid l1
    have HS : Hid (∀ V g mv mg, BK W V g mv mg root TS0 0 → Calls Tryz.prog 15 #[.pointer (some ⟨g, 0, none⟩), .string nA, .string nM, .slice a N cap] V (fun e w' => ∃ gb m c, e = .returned (.tuple #[.slice (some ⟨gb, 0, none⟩) m c, .int .i64 0]) ∧ Own W w' gb m c C1 ∧ BK W w' g mv mg root (bs 0 1) 0)) := by
      intro V g mv mg h
      refine (seal_m h.t (by decide) nA nM szA szM plain a N cap hN (HP.out V h.b) (HT.out V h.b).1 (HT.out V h.b).2).mono fun e w' ⟨v, h1, h2, h3, h4⟩ => ?_
      rw [seal0 root plain hl] at h1 h2 h3
      simp only at h1 h2 h3
      rw [← hC1] at h2
      obtain ⟨gb, m, c, rfl, ho⟩ := own_of h2 l1.1 h.b.size
      exact ⟨gb, m, c, h1, ho, h.prog h3 h4⟩
    have HR : Hid (∀ V g mv mg i gb m c, i < 15 → BK W V g mv mg root (bs i 1) i → Own W V gb m c C1 → Calls Tryz.prog 16 #[.pointer (some ⟨g, 0, none⟩), .string nA, .string nM] V (fun e w' => e = .returned (.tuple #[.int .i64 ((i + 2 : Nat) : Int), .int .i64 0]) ∧ BK W w' g mv mg root (bs (i + 1) 1) (i + 1) ∧ Own W w' gb m c C1)) := by
      intro V g mv mg i gb m c hi h ho
      refine (rotate_m h.t (by omega) nA nM szA szM).mono fun e w' ⟨h1, h2, h3⟩ => ?_
      rw [bs_rot i 1 hi] at h1 h2
      exact ⟨h1, h.prog h2 h3, ho.prog h h3⟩
    have HOp : Hid (∀ V g mv mg d gb m c, BK W V g mv mg root (bs K 1) d → Own W V gb m c C1 → Calls Tryz.prog 17 #[.pointer (some ⟨g, 0, none⟩), .string nA, .string nM, .slice (some ⟨gb, 0, none⟩) m c] V (fun e w' => ∃ ap cp, e = .returned (.tuple #[.slice ap N cp, .int .i64 1, .int .i64 0]) ∧ Told W w' ap N cp plain ∧ BK W w' g mv mg root (bs K 1) d ∧ Own W w' gb m c C1)) := by
      intro V g mv mg d gb m c h ho
      refine (open_l h.t nA nM szA szM C1 (some ⟨gb, 0, none⟩) m c ho.1 (by rw [ho.1]; omega) ho.2.1 (fun _ => ⟨gb, rfl⟩) ho.bytes (HT.out V h.b).1 (HT.out V h.b).2).mono fun e w' ⟨v, h1, h2, h3⟩ => ?_
      rw [hC1, open_k root plain hl K hK15] at h1 h2
      simp only at h1 h2
      obtain ⟨ap, cp, rfl, ht⟩ := told_of hN h2 h.b.size
      exact ⟨ap, cp, h1, ht, h.below h3, ho.below h3⟩
    obtain ⟨n2, C2, hres, hn2, l20, l29, hop2⟩ := reseal_k root plain hl K hK15
    rw [← hC1] at hres
    have e0 : decide (0 < K) = decide ((0 : Int) < (K : Int)) := by simp
    rw [e0] at hres
    have HRe : Hid (∀ V g mv mg d gb m c ap cp, BK W V g mv mg root (bs K 1) d → Own W V gb m c C1 → Told W V ap N cp plain → Calls Tryz.prog 18 #[.pointer (some ⟨g, 0, none⟩), .string nA, .string nM, .slice (some ⟨gb, 0, none⟩) m c] V (fun e w' => ∃ gc m2 c2, e = .returned (.tuple #[.slice (some ⟨gc, 0, none⟩) m2 c2, .bool (decide ((0 : Int) < (K : Int))), .int .i64 0]) ∧ Own W w' gc m2 c2 C2 ∧ Told W w' ap N cp plain ∧ BK W w' g mv mg root (bs K n2) d)) := by
      intro V g mv mg d gb m c ap cp h ho ht
      refine (reseal_l h.t (show (1 : Nat) ≤ 1000 by omega) nA nM szA szM C1 (some ⟨gb, 0, none⟩) m c ho.1 (by rw [ho.1]; omega) ho.2.1 (fun _ => ⟨gb, rfl⟩) ho.bytes (HT.out V h.b).1 (HT.out V h.b).2).mono fun e w' ⟨v, h1, h2, h3, h4⟩ => ?_
      rw [hres] at h1 h2 h3
      simp only at h1 h2 h3
      obtain ⟨gc, m2, c2, rfl, ho2⟩ := own_of h2 l20 h.b.size
      exact ⟨gc, m2, c2, h1, ho2, ht.prog h h4, h.prog h3 h4⟩
    have HO2 : Hid (∀ V B g mv mg d gb m c, Below W.heap.size W V → TreeM V B g mv mg root (bs K n2) d → Own W V gb m c C2 → Calls Tryz.prog 17 #[.pointer (some ⟨g, 0, none⟩), .string nA, .string nM, .slice (some ⟨gb, 0, none⟩) m c] V (fun e w' => ∃ ap cp, e = .returned (.tuple #[.slice ap N cp, .int .i64 ((K : Int) + 1), .int .i64 0]) ∧ Told W w' ap N cp plain ∧ Below V.heap.size V w')) := by
      intro V B g mv mg d gb m c hV h ho
      refine (open_l h nA nM szA szM C2 (some ⟨gb, 0, none⟩) m c ho.1 (by rw [ho.1]; omega) ho.2.1 (fun _ => ⟨gb, rfl⟩) ho.bytes (HT.out V hV).1 (HT.out V hV).2).mono fun e w' ⟨v, h1, h2, h3⟩ => ?_
      rw [hop2] at h1 h2
      simp only at h1 h2
      obtain ⟨ap, cp, rfl, ht⟩ := told_of hN h2 hV.size
      exact ⟨ap, cp, by rw [h1, show ((K + 1 : Nat) : Int) = (K : Int) + 1 by omega]; rfl, ht, h3⟩
    have HSm : Hid (∀ V ap cp, Below W.heap.size W V → Told W V ap N cp plain → Calls Tryz.prog 19 #[.slice ap N cp, .slice a N cap] V (fun e w' => e = .returned (.bool true) ∧ Below V.heap.size V w')) := by
      intro V ap cp hV ht
      rw [hN]
      exact same_self plain ap a cp cap V ht.bytes (HP.out V hV) Hpl.out
    have hn2' := hid hn2
    have e16 : Hid (((X : Int) % 16) = (K : Int)) := by rw [Hid, hK]; omega
    clear hW x0 b0 lk hB hN hl hC1 l1 hres hn2 l20 l29 hop2 e0 hT hO hK
    go_enter Tryz.func5, Tryz.ntmps5
    go_wp2_with (first
      | (with_reducible show Go.wpList _ _ _ _ _ _; rw [← HW.out]; refine wpList_load_row rfl 23 _ rfl w.heap.size rfl _ _ _ _ X0.out Tryz.underlying23 rfl HI.out ?_)
      | (go_at_call 6; refine (HNew.out W).mono ?_; rintro _ w1 ⟨g, mv, mg, rfl, t1, b1, hne⟩; have K1 := hid (BK.mk (treeM_new t1 hne (Nat.le_refl _)) b1); clear t1 b1 hne)
      | (go_at_call 15; refine (HS.out w1 _ _ _ K1.out).mono ?_; rintro _ w2 ⟨gb, mb, cb, rfl, ob, k2⟩; have OB := hid ob; have K2 := hid k2; clear ob k2))
    rw [e16.out]
    go_loopw [11] (fun i wr => ∃ j : Nat, i = .int .i64 (j : Int) ∧ j ≤ K ∧ BK W wr g mv mg root (bs j 1) j ∧ Own W wr gb mb cb C1) (fun i _ => K - (intOf i).toNat)
    case atStart => exact ⟨0, rfl, Nat.zero_le _, K2.out, OB.out⟩
    case round =>
      obtain ⟨j, rfl, hj, hk3, ho3⟩ := hrel
      have K3 := hid hk3
      have O3 := hid ho3
      clear hk3 ho3
      by_cases hlt : j < K
      · have g1 : (j : Int) < (K : Int) := by omega
        go_wp2_with (go_at_call 16; refine (HR.out _ _ _ _ j _ _ _ (by omega) K3.out O3.out).mono ?_; rintro _ w4 ⟨rfl, k4, o4⟩)
        go_roundw
        case rel => exact ⟨j + 1, by go_num, by omega, k4, o4⟩
        case measure => simp [intOf]; omega
      · have ej : j = K := by omega
        subst ej
        have g1 : ¬ (j : Int) < (j : Int) := by omega
        go_wp2_with (first
          | (go_at_call 17; refine (HOp.out _ _ _ _ _ _ _ _ K3.out O3.out).mono ?_; rintro _ w4 ⟨ap, cp, rfl, t4, k4, o4⟩; have K4 := hid k4; have O4 := hid o4; have T4 := hid t4; clear k4 o4 t4 K3 O3)
          | (go_at_call 18; refine (HRe.out _ _ _ _ _ _ _ _ _ _ K4.out O4.out T4.out).mono ?_; rintro _ w5 ⟨gc, mc, cc, rfl, o5, t5, k5⟩; have K5 := hid k5; have O5 := hid o5; have T5 := hid t5; clear k5 o5 t5 K4 O4 T4))
        obtain ⟨V0, hV0⟩ : ∃ V0, V0 = w5.drew := ⟨_, rfl⟩
        have b50 : Below w5.heap.size w5 V0 := by rw [hV0]; exact (Below.refl _ w5).drew
        have xr : V0.heap[w.heap.size]? = some (.cells (bvs root) 23 (0, 0)) := by
          have h1 := (K5.out.b.block _ (heap_lt X0.out)).trans X0.out
          rw [HO.out] at h1
          exact (b50.block _ (heap_lt h1)).trans h1
        refine wp_act _ fun A hA => ?_
        have sz : A.tmps.size = 128 := by rw [hA]; rfl
        have e3 : A.eval (.tmp 3) = .pointer (some ⟨w.heap.size, 0, none⟩) := by rw [hA]; rfl
        have e7 : A.eval (.tmp 7) = .pointer (some ⟨g, 0, none⟩) := by rw [hA]; rfl
        refine wp_split _ (back_region16 sz e3 e7 Hlk.out hK15 hn2'.out (K5.out.t.below b50) (HT.out _ (Below.on' K5.out.b b50)).1 hV0 xr) ?_
        rintro _ V1 ⟨g2, mv2, mg2, a1, N1, c1, rfl, ⟨B2, hB2, t2⟩, b01⟩
        rw [hA]
        simp only [Act.put, List.setIfInBounds_toArray, List.set_cons_succ, List.set_cons_zero]
        have b6 := Below.on' (Below.on' K5.out.b b50) b01
        have B6 := hid b6
        have T6 := hid t2
        have O6 := hid (O5.out.below (Below.on' b50 b01))
        have P6 := hid (T5.out.below (Below.on' b50 b01))
        clear hV0 b50 xr sz e3 e7 hA b01 b6 t2 hB2 K5 O5 T5
        go_wp2_with (first
          | (go_at_call 19; refine (HSm.out _ _ _ B9.out Q9.out).mono ?_; rintro _ w10 ⟨rfl, b10⟩; have B10 := hid (Below.on' B9.out b10); clear b10 B9 Q9)
          | (go_at_call 19; refine (HSm.out _ _ _ B8.out P8.out).mono ?_; rintro _ w9 ⟨rfl, b9⟩; have B9 := hid (Below.on' B8.out b9); have Q9 := hid (Q8.out.below b9); clear b9 B8 P8 Q8)
          | (go_at_call 8; refine (liveJ_any (HT.out _ B7.out).1 (HT.out _ B7.out).2).mono ?_; rintro _ w8 ⟨rfl, b8⟩; have B8 := hid (Below.on' B7.out b8); have P8 := hid (P7.out.below b8); have Q8 := hid (Q7.out.below b8); clear b8 B7 P7 Q7)
          | (go_at_call 17; refine (HO2.out _ _ _ _ _ _ _ _ _ B6.out T6.out O6.out).mono ?_; rintro _ w7 ⟨aq, cq, rfl, t7, b7⟩; have B7 := hid (Below.on' B6.out b7); have P7 := hid (P6.out.below b7); have Q7 := hid t7; clear t7 b7 B6 T6 O6 P6))
        go_ret
        exact ⟨rfl, HTb.out _ B10.out⟩
  · have HS : Hid (∀ V g mv mg, BK W V g mv mg root TS0 0 → Calls Tryz.prog 15 #[.pointer (some ⟨g, 0, none⟩), .string nA, .string nM, .slice a N cap] V (fun e w' => ∃ v, e = .returned (.tuple #[v, .int .i64 6]) ∧ BK W w' g mv mg root TS0 0)) := by
      intro V g mv mg h
      refine (seal_m h.t (by decide) nA nM szA szM plain a N cap hN (HP.out V h.b) (HT.out V h.b).1 (HT.out V h.b).2).mono fun e w' ⟨v, h1, h2, h3, h4⟩ => ?_
      rw [seal0_long root plain hl] at h1 h3
      exact ⟨v, h1, h.prog h3 h4⟩
    clear hW x0 b0 lk hB hN hl hT hO
    go_enter Tryz.func5, Tryz.ntmps5
    go_wp2_with (first
      | (with_reducible show Go.wpList _ _ _ _ _ _; rw [← HW.out]; refine wpList_load_row rfl 23 _ rfl w.heap.size rfl _ _ _ _ X0.out Tryz.underlying23 rfl HI.out ?_)
      | (go_at_call 6; refine (HNew.out W).mono ?_; rintro _ w1 ⟨g, mv, mg, rfl, t1, b1, hne⟩; have K1 := hid (BK.mk (treeM_new t1 hne (Nat.le_refl _)) b1); clear t1 b1 hne)
      | (go_at_call 15; refine (HS.out w1 _ _ _ K1.out).mono ?_; rintro _ w2 ⟨v2, rfl, k2⟩; have K2 := hid k2; clear k2)
      | (go_at_call 8; refine (liveJ_any (HT.out _ K2.out.b).1 (HT.out _ K2.out.b).2).mono ?_; rintro _ w3 ⟨rfl, b3⟩; have K3 := hid (K2.out.below b3); clear b3))
    go_ret
    exact ⟨rfl, HTb.out _ K3.out.b⟩
theorem keysBack_any {w : World} {O : Array Value} {root : List UInt8} (hO : HV O root) (plain : List UInt8) (a : Option Addr) (cap : Nat) (hB : BytesIn w a cap plain) (x : Int) (hx : (Lit.int .u8 x).wf = true) (hT : TabsJ w) :
    Calls Tryz.prog 5 #[.agg O, .slice a plain.length cap, .int .u8 x] w fun e w' => e = .returned (.bool true) ∧ Below w.heap.size w w' := by
  have h1 : 0 ≤ x ∧ x ≤ 255 := by simpa [Lit.wf, IntKind.min, IntKind.max, IntKind.signed, IntKind.bits] using hx
  obtain ⟨X, rfl⟩ : ∃ X : Nat, x = (X : Int) := ⟨x.toNat, by omega⟩
  exact keysBack_walk hO plain a cap hB X (by omega) hT
end Go.Proofs.YtdglmoikgmlaaaaGreatDoor.Bk
