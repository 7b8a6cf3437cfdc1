/- SealHides of the laws on sealed texts, walked. -/
import Derived.Test.YtgadjngodmbckaaDoorEBack
namespace Go.Proofs.YtgadjngodmbckaaDoor
open Go.ChangeShapes Go.WideShapes Go.ChangeAt Go.RowKit Go.Shelf
set_option linter.unusedVariables false
set_option maxRecDepth 20000

/-- a row of bytes that came in -/
structure BytesAt (w : World) (a : Option Addr) (cap : Nat) (l : List UInt8) : Prop where
  bytes : Bytes w a l
  nilcap : a = none → cap = 0
  cap : l.length ≤ cap
theorem open_slice {H : Type} {enc : TypeId × Value → H} {W : World} {fuel : Nat} {cs : List Value} {x : DataW H × List MemPlace} (hf : DataW.trod enc Tryd.prog W 0 (fun _ => true) true fuel 25 cs = some x) : ∃ a l cap, cs = [.slice a (List.length l) cap] ∧ BytesAt W a cap l := by
  rcases open_ints Tryd.underlying25 Tryd.underlying5 cellsByte hf with ⟨hcs, _⟩ | ⟨x, l', c', zs, hcs, _, hl, hm, hz, hx, hcell, hwz⟩
  · exact ⟨none, [], 0, hcs, fun i hi => by simp at hi, fun _ => rfl, by simp⟩
  · simp only [if_true] at hz
    have hlen : ((zs.take l').map fun z => UInt8.ofNat z.toNat).length = l' := by rw [List.length_map, List.length_take]; omega
    refine ⟨some x, (zs.take l').map fun z => UInt8.ofNat z.toNat, c', by rw [hlen]; exact hcs, fun i hi => ?_, (fun h => by cases h), by rw [hlen]; exact hl⟩
    obtain ⟨b, o, spot⟩ := x
    have hc := hcell i (by omega)
    have hspot : spot = none := by simpa [Addr.add] using World.cell?_spot (hcell 0 (by omega))
    subst hspot
    refine ⟨b, o, rfl, ?_⟩
    rw [addr_add] at hc
    rw [hc]
    have hi' : i < zs.length := by omega
    have hw := hwz zs[i] (List.getElem_mem _)
    have hr : 0 ≤ zs[i] ∧ zs[i] ≤ 255 := by simpa [Lit.wf, IntKind.min, IntKind.max, IntKind.signed, IntKind.bits] using hw
    simp only [List.getD, List.getElem?_eq_getElem hi', Option.getD_some, List.getElem_map, List.getElem_take]
    congr 2
    rw [UInt8.toNat_ofNat']
    omega
theorem mapM_each {α β : Type} {f : α → Option β} : ∀ (L : List α) (xs : List β), L.mapM f = some xs → ∀ i ∈ L, ∃ y, f i = some y
  | [], xs, h, i, hi => by cases hi
  | j :: L, xs, h, i, hi => by
    rw [List.mapM_cons] at h
    simp only [bind, Option.bind_eq_some_iff, pure, Option.some.injEq] at h
    obtain ⟨y, hy, ys, hys, rfl⟩ := h
    rcases List.mem_cons.1 hi with rfl | hi
    · exact ⟨y, hy⟩
    · exact mapM_each L ys hys i hi
/-- an argument of two rows of bytes -/
theorem open_two {H : Type} {enc : TypeId × Value → H} {W : World} {v : Value} {d : DataW H} {p : List MemPlace} {base0 : Nat} (hv : Value.okWide Tryd.prog W .any base0 35 v)
    (h : DataW.Trod enc Tryd.prog W 0 (fun _ => true) true 35 v d p) : ∃ a k c b l e, v = .agg #[.slice a (List.length k) c, .slice b (List.length l) e] ∧ BytesAt W a c k ∧ BytesAt W b e l := by
  simp only [Value.okWide, Tryd.underlying35] at hv
  obtain ⟨xs, rfl, hs, _⟩ := hv
  have hs2 : xs.size = 2 := hs.trans (by kernel_rfl)
  have cS : Tryd.prog.cellsOf 25 = 1 := by kernel_rfl
  obtain ⟨fuel, hf⟩ := h
  cases fuel with
  | zero => simp [DataW.trod] at hf
  | succ m =>
    rw [DataW.trod_step] at hf
    unfold DataW.trodStep at hf
    simp only [Tryd.underlying35, Value.cells] at hf
    split at hf
    · simp only [Option.map_eq_some_iff] at hf
      obtain ⟨ys, hy, _⟩ := hf
      have hall := mapM_each _ ys hy
      rw [cS] at hall
      have get : ∀ i (hi : i < 2), ∃ a l cap, xs[i]'(by omega) = .slice a (List.length l) cap ∧ BytesAt W a cap l := fun i hi => by
        obtain ⟨y, ey⟩ := hall i (by simp; omega)
        have h3 : (xs.toList.drop (i * 1)).take 1 = [xs[i]'(by omega)] := by
          rw [Nat.mul_one, List.drop_eq_getElem_cons (by simpa using (by omega : i < xs.size))]
          simp
        rw [h3] at ey
        obtain ⟨a, l, cap, e, hb⟩ := open_slice ey
        exact ⟨a, l, cap, by simpa using e, hb⟩
      obtain ⟨a, k, c, ea, ha⟩ := get 0 (by omega)
      obtain ⟨b, l, e, eb, hb⟩ := get 1 (by omega)
      refine ⟨a, k, c, b, l, e, ?_, ha, hb⟩
      congr 1
      apply Array.ext
      · simp [hs2]
      · intro i h1 h2
        have : i = 0 ∨ i = 1 := by omega
        rcases this with rfl | rfl
        · simpa using ea
        · simpa using eb
    · cases hf
theorem seal_byte (key : List UInt8) (once : Nat) (plain : List UInt8) (i : Nat) (h : i < plain.length) : (sealB key once plain)[8 + i]'(by rw [sealB_len]; omega) = (cross key once plain)[i]'(by rw [cross_len]; exact h) := by
  unfold sealB headB
  rw [List.getElem_append_left (by rw [List.length_append, be8_length, cross_len]; omega), List.getElem_append_right (by rw [be8_length]; omega)]
  simp [be8_length]

set_option maxHeartbeats 4000000 in
theorem sealHides_walk {w : World} {K : Array Value} {key : List UInt8} (hK : HV K key) (once : Nat) (a : Option Addr) (k : List UInt8) (ca : Nat) (b : Option Addr) (l : List UInt8) (cb : Nat) (ha : BytesAt w a ca k) (hb : BytesAt w b cb l) (hT : KAt w) :
    Calls Tryd.prog 4 #[.agg K, .int .u64 (once : Int), .agg #[.slice a k.length ca, .slice b l.length cb]] w fun e w' => e = .returned (.bool true) ∧ Below w.heap.size w w' := by
  have HK := hid hK
  have HA := hid ha
  have HB := hid hb
  have HT := hid hT
  have hinf : (Tryd.prog.info? 23).map (·.size) = some K.size := hK.info
  obtain ⟨n, hn⟩ : ∃ n, n = k.length := ⟨_, rfl⟩
  obtain ⟨m, hm⟩ : ∃ m, m = l.length := ⟨_, rfl⟩
  rw [← hn, ← hm]
  have Hn := hid hn
  have Hm := hid hm
  obtain ⟨V0, hV0⟩ : ∃ V0, V0 = (w.alloc (.cells K 23)).alloc (.cells #[.slice a n ca, .slice b m cb] 35) := ⟨_, rfl⟩
  have b0 : Hid (Below w.heap.size w V0) := by
    show Below _ _ _
    rw [hV0]; exact ((Below.refl _ w).alloc (Nat.le_refl _) _).alloc (by simp) _
  have r0 : Hid (V0.heap[w.heap.size + 1]? = some (.cells #[.slice a n ca, .slice b m cb] 35 (0, 0))) := by
    show _ = _
    rw [hV0]; exact heap_alloc2_new w _ _
  have k0 : Hid (V0.heap[w.heap.size]? = some (.cells K 23 (0, 0))) := by
    show _ = _
    rw [hV0]; exact heap_alloc2_old w _ _
  have HV0 := hid hV0.symm
  have c0 : V0.cell? ⟨w.heap.size + 1, 0, none⟩ = some (.slice a n ca) := by rw [cell_of_row _ _ _ _ _ _ r0.out]; rfl
  have c1 : V0.cell? ⟨w.heap.size + 1, 1, none⟩ = some (.slice b m cb) := by rw [cell_of_row _ _ _ _ _ _ r0.out]; rfl
  clear hK ha hb hT hn hm hV0
  have k0e : Hid (((w.alloc (.cells K 23)).alloc (.cells #[.slice a n ca, .slice b m cb] 35)).heap[w.heap.size]? = some (.cells K 23 (0, 0))) := heap_alloc2_old w _ _
  by_cases hsame : n = m
  · subst hsame
    by_cases hlong : 1024 < n
    · have q0 : (1024 : Int) < (n : Int) := by omega
      go_enter Tryd.func4, Tryd.ntmps4
      go_wp2_with fail
      rw [HV0.out]
      refine (live_any (HT.out.below b0.out)).mono ?_
      rintro _ W3 ⟨rfl, hb3⟩
      have b3 : Hid (Below w.heap.size w W3) := Below.on' b0.out hb3
      clear hb3
      go_wp2
      go_ret
      exact ⟨rfl, b3.out⟩
    · have q0 : ¬ (1024 : Int) < (n : Int) := by omega
      have q1 : IntKind.i64.wrap ((n : Int) + 24) = (n : Int) + 24 := by rw [IntKind.wrap_i64]; omega
      go_enter Tryd.func4, Tryd.ntmps4
      go_wp2_with (with_reducible show Go.wpList _ _ _ _ _ _; refine wpList_load_row rfl 23 (.tmp 3) rfl w.heap.size rfl 23 K (0, 0) _ k0e.out Tryd.underlying23 rfl HK.out.info ?_)
      rw [HV0.out]
      refine (seal_any HK.out once k a n ca Hn.out (HA.out.bytes.below b0.out) (by have := Hn.out; omega) (HT.out.below b0.out)).mono ?_
      rintro _ W1 ⟨v1, rfl, hown1, hb1⟩
      have ls1 : (sealB key once k).length = n + 24 := by rw [sealB_len, Hn.out]
      have ls2 : (sealB key once l).length = n + 24 := by rw [sealB_len, Hm.out]
      obtain ⟨g1, e1, rfl, hB1, hc1, _⟩ := own_some hown1 (by omega)
      rw [ls1] at hc1 ⊢
      have b1 : Hid (Below w.heap.size w W1) := Below.on' b0.out hb1
      have k1 : Hid (W1.heap[w.heap.size]? = some (.cells K 23 (0, 0))) := (hb1.block _ (heap_lt k0.out)).trans k0.out
      have r1 : Hid (W1.heap[w.heap.size + 1]? = some (.cells #[.slice a n ca, .slice b n cb] 35 (0, 0))) := (hb1.block _ (heap_lt r0.out)).trans r0.out
      have d1 : W1.cell? ⟨w.heap.size + 1, 1, none⟩ = some (.slice b n cb) := by rw [cell_of_row _ _ _ _ _ _ r1.out]; rfl
      have HB1 := hid hB1
      clear hown1 hb1 hB1 b0 k0 k0e r0 c0 c1
      go_wp2_with (with_reducible show Go.wpList _ _ _ _ _ _; refine wpList_load_row rfl 23 (.tmp 3) rfl w.heap.size rfl 23 K (0, 0) _ k1.out Tryd.underlying23 rfl HK.out.info ?_)
      refine (seal_any HK.out once l b n cb Hm.out (HB.out.bytes.below b1.out) (by have := Hm.out; omega) (HT.out.below b1.out)).mono ?_
      rintro _ W2 ⟨v2, rfl, hown2, hb2⟩
      obtain ⟨g2, e2, rfl, hB2, hc2, _⟩ := own_some hown2 (by omega)
      rw [ls2] at hc2 ⊢
      have b2 : Hid (Below w.heap.size w W2) := Below.on' b1.out hb2
      have r2 : Hid (W2.heap[w.heap.size + 1]? = some (.cells #[.slice a n ca, .slice b n cb] 35 (0, 0))) := (hb2.block _ (heap_lt r1.out)).trans r1.out
      have HB12 : Hid (Bytes W2 (some ⟨g1, 0, none⟩) (sealB key once k)) := HB1.out.below hb2
      have HB2 := hid hB2
      clear hown2 hb2 hB2 b1 k1 r1 HB1 d1
      go_wp2_with fail
      go_loopw [12] (fun v12 wr => ∃ i : Nat, i ≤ n ∧ v12 = .int .i64 (i : Int) ∧ Below W2.heap.size W2 wr) (fun v12 _ => n - (intOf v12).toNat)
      case atStart => exact ⟨0, by omega, rfl, Below.refl _ _⟩
      case round =>
        obtain ⟨i, hi, rfl, hbel⟩ := hrel
        have Hbel := hid hbel
        clear hbel
        by_cases hlt : i < n
        · have r3 := (Hbel.out.block _ (heap_lt r2.out)).trans r2.out
          have f0 : wr.cell? ⟨w.heap.size + 1, 0, none⟩ = some (.slice a n ca) := by rw [cell_of_row _ _ _ _ _ _ r3]; rfl
          have f1 : wr.cell? ⟨w.heap.size + 1, 1, none⟩ = some (.slice b n cb) := by rw [cell_of_row _ _ _ _ _ _ r3]; rfl
          have hk : i < k.length := by rw [← Hn.out]; exact hlt
          have hl2 : i < l.length := by rw [← Hm.out]; exact hlt
          obtain ⟨b1', o1', e1', x1⟩ := (HB12.out.below Hbel.out) (8 + i) (by omega)
          cases e1'
          obtain ⟨b2', o2', e2', x2⟩ := (HB2.out.below Hbel.out) (8 + i) (by omega)
          cases e2'
          have b3 := Below.on' b2.out Hbel.out
          obtain ⟨b3', o3', e3', x3⟩ := (HA.out.bytes.below b3) i hk
          obtain ⟨b4', o4', e4', x4⟩ := (HB.out.bytes.below b3) i hl2
          have hx := cross_hides key once k l (by rw [← Hn.out]; exact Hm.out) i hk
          rw [seal_byte key once k i hk, Nat.zero_add] at x1
          rw [seal_byte key once l i hl2, Nat.zero_add] at x2
          generalize (cross key once k)[i]'(by rw [cross_len]; exact hk) = p1 at *
          generalize (cross key once l)[i]'(by rw [cross_len]; exact hl2) = p2 at *
          generalize k[i] = p3 at *
          generalize l[i] = p4 at *
          obtain ⟨z, hz⟩ : ∃ z, z = p1 ^^^ p2 := ⟨_, rfl⟩
          have y1 : bits .xor .u8 (p1.toNat : Int) (p2.toNat : Int) = (z.toNat : Int) := by rw [hz]; exact b_xor p1 p2
          have y2 : bits .xor .u8 (p3.toNat : Int) (p4.toNat : Int) = (z.toNat : Int) := by rw [hz, hx]; exact b_xor p3 p4
          have q2 : IntKind.i64.wrap (8 + (i : Int)) = 8 + (i : Int) := by rw [IntKind.wrap_i64]; omega
          have q4 : ((8 : Int) + (i : Int)).toNat = 8 + i := by omega
          have q5 : (0 : Int) ≤ 8 + (i : Int) := by omega
          have q6 : (8 : Int) + (i : Int) < (n : Int) + 24 := by omega
          subst e3'
          subst e4'
          clear r3 b3 hx hz hk hl2
          go_wp2_with fail
          go_quiet (fail)
          go_wp2
          go_roundw
          case rel => exact ⟨i + 1, by omega, by go_num, Hbel.out.trans (below_drewN _ _ _)⟩
          case measure => simp [intOf]; omega
        · have b3 : Hid (Below w.heap.size w wr) := Below.on' b2.out Hbel.out
          clear Hbel b2 HB12 HB2 r2
          go_wp2_with fail
          refine (live_any (HT.out.below b3.out)).mono ?_
          rintro _ W3 ⟨rfl, hb3⟩
          have b4 : Hid (Below w.heap.size w W3) := Below.on' b3.out hb3
          clear hb3
          go_wp2
          go_ret
          exact ⟨rfl, b4.out⟩
  · have q0 : ((n : Int) != (m : Int)) = true := by rw [bne_iff_ne]; omega
    go_enter Tryd.func4, Tryd.ntmps4
    go_wp2_with fail
    rw [HV0.out]
    refine (live_any (HT.out.below b0.out)).mono ?_
    rintro _ W3 ⟨rfl, hb3⟩
    have b3 : Hid (Below w.heap.size w W3) := Below.on' b0.out hb3
    clear hb3
    go_wp2
    go_ret
    exact ⟨rfl, b3.out⟩
theorem sealHides_row {w : World} {K : Array Value} {key : List UInt8} (hK : HV K key) (z : Int) (hz : (Lit.int .u64 z).wf = true) (a : Option Addr) (k : List UInt8) (ca : Nat) (b : Option Addr) (l : List UInt8) (cb : Nat) (ha : BytesAt w a ca k) (hb : BytesAt w b cb l) (hT : KAt w) :
    Calls Tryd.prog 4 #[.agg K, .int .u64 z, .agg #[.slice a k.length ca, .slice b l.length cb]] w fun e w' => e = .returned (.bool true) ∧ Below w.heap.size w w' := by
  obtain ⟨m, rfl, hm⟩ := u64_nat z hz
  exact sealHides_walk hK m a k ca b l cb ha hb hT
end Go.Proofs.YtgadjngodmbckaaDoor
