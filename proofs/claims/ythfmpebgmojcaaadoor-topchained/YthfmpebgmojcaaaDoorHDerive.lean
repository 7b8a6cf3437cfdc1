/- YthfmpebgmojcaaaDoorHChain + YthfmpebgmojcaaaDoorECopy + YthfmpebgmojcaaaDoorEPair + YthfmpebgmojcaaaDoorHDerive -/
import Derived.Test.YthfmpebgmojcaaaDoorHTag
import Derived.Laws.AppendOwnNone
import Derived.Stop.BytesEq
import Derived.Test.YthfmpebgmojcaaaDoorHKey
/- The next link of a chain: hash.Chain. -/
namespace Go.Proofs.YthfmpebgmojcaaaDoor
open Go.RowKit
set_option linter.unusedVariables false
set_option maxRecDepth 20000
set_option maxRecDepth 20000
set_option maxHeartbeats 2000000 in
theorem chain_any {w : World} {h : List UInt8} {H : Array Value} (hH : HV H h) (b : List UInt8) (a : Option Addr) (n cap : Nat) (hn : n = b.length) (hB : Bytes w a b) (hl : b.length < 1000000000000000) (hcap : b.length ≤ cap) (hK : KAt w) :
    Calls Tryd.prog 60 #[.agg H, .slice a n cap] w fun e w' => ∃ O, e = .returned (.agg O) ∧ Hid (HV O (sha (h ++ b))) ∧ Below w.heap.size w w' := by
  obtain ⟨Z, hZ⟩ : ∃ Z, Z = bvs (List.replicate 32 0) := ⟨_, rfl⟩
  have zh := (zero_of_info zero_hash).1
  rw [← hZ] at zh
  have hz : Hid (HV Z (List.replicate 32 0)) := by
    show HV _ _
    rw [hZ]; exact hv_zero
  have zh := hid zh
  have HB := hid hB
  have HK := hid hK
  have HH := hid hH
  have Hn := hid hn
  have hlen : h.length = 32 := hH.len
  clear hZ hB hK hH hn
  go_enter Tryd.func60, Tryd.ntmps60
  go_wp2_with (with_reducible show Go.wpList _ _ _ _ _ _; refine wpList_alloc_row rfl 69 rfl Z zh.out ?_)
  have hm : Tryd.prog.follows .mixedOrders = true := by kernel_rfl
  obtain ⟨W0, hW0⟩ : ∃ W0, W0 = ((w.alloc (.cells H 69)).alloc (.cells Z 69)).drew := ⟨_, rfl⟩
  have b0 : Below w.heap.size w W0 := by rw [hW0]; exact (((Below.refl _ w).alloc (Nat.le_refl _) _).alloc (by simp) _).drew
  have x0 : W0.heap[w.heap.size]? = some (.cells H 69 (0, 0)) := by rw [hW0]; exact heap_alloc2_old w _ _
  have y0 : W0.heap[w.heap.size + 1]? = some (.cells Z 69 (0, 0)) := by rw [hW0]; exact heap_alloc2_new w _ _
  refine wp_act _ fun A hA => ?_
  rw [show (w.alloc (.cells H 69)).heap.size = w.heap.size + 1 by simp] at hA
  have sz : A.tmps.size = 11 := by rw [hA]; rfl
  have e1 : A.eval (.tmp 1) = .slice a n cap := by rw [hA]; rfl
  have e2 : A.eval (.tmp 2) = .pointer (some ⟨w.heap.size, 0, none⟩) := by rw [hA]; rfl
  have e4 : A.eval (.tmp 4) = .pointer (some ⟨w.heap.size + 1, 0, none⟩) := by rw [hA]; rfl
  obtain ⟨a0, ha0⟩ : ∃ a0, a0 = a := ⟨_, rfl⟩
  rw [← ha0] at hA
  refine wp_split (fun a W => ∃ v5 v6 v7 v8 v9 O, a = ⟨#[.agg H, .slice a0 n cap, .pointer (some ⟨w.heap.size, 0, none⟩), undef, .pointer (some ⟨w.heap.size + 1, 0, none⟩), v5, v6, v7, v8, v9, .agg O], []⟩ ∧ HV O (sha (h ++ b)) ∧ W.heap[w.heap.size + 1]? = some (.cells O 69 (0, 0)) ∧ Below w.heap.size w W) ?_ ?_
  · refine wp_region_held (S := fun _ => True) hm ?_
    rw [show ({ ((w.alloc (.cells H 69)).alloc (.cells Z 69)) with drawn := ((w.alloc (.cells H 69)).alloc (.cells Z 69)).drawn + 1 } : World) = W0 from hW0.symm]
    refine wpAnyH_take (i := 1) (v := .slice (some ⟨w.heap.size, 0, none⟩) 32 32) rfl (by kernel_rfl) (by kernel_rfl) (by kernel_rfl) (fun _ _ _ h => nomatch h.1) (yields_slice_hash (by simp [Region.wanted]) (.tmp 2) rfl w.heap.size e2) trivial ?_
    refine wpAnyH_take (i := 3) (v := .slice a n cap) rfl (by kernel_rfl) (by kernel_rfl) (by kernel_rfl) (fun _ _ _ h => nomatch h.1) (yields_move (by simp [Region.wanted]) (.tmp 1) rfl _ (evn e1)) trivial ?_
    obtain ⟨A2, hA2⟩ : ∃ A2, A2 = (A.put (some 6) (.slice (some ⟨w.heap.size, 0, none⟩) 32 32)).put (some 8) (.slice a n cap) := ⟨_, rfl⟩
    show wpAnyH _ _ _ _ _ _ _ ((A.put (some 6) (.slice (some ⟨w.heap.size, 0, none⟩) 32 32)).put (some 8) (.slice a n cap)) _
    have z2 : A2.tmps.size = 11 := by rw [hA2]; simp [put_sz, sz]
    have z6 : A2.eval (.tmp 6) = .slice (some ⟨w.heap.size, 0, none⟩) 32 32 := by rw [hA2]; exact evn (ev_eq _ _ (by simp [sz]))
    have z8 : A2.eval (.tmp 8) = .slice a n cap := by rw [hA2]; exact ev_eq _ _ (by simp [put_sz, sz])
    have z4 : A2.eval (.tmp 4) = .pointer (some ⟨w.heap.size + 1, 0, none⟩) := by rw [hA2]; exact evn (evn e4)
    rw [← hA2]
    clear hW0 e1 e2 e4 sz
    refine wpAnyH_all (rs := [0]) (by kernel_rfl) (by simp) fun i hmem => ?_
    obtain rfl : i = 0 := by simpa using hmem
    refine wpOp_own rfl rfl fun K' hK' => ?_
    refine wp_calls0 64 hf_start _ rfl ?_
    refine (start_rv _).mono ?_
    rintro _ w1 ⟨v5, rfl, hv5, hb1⟩
    have b1 := b0.trans (hb1.mono b0.size)
    have x1 := (hb1.block _ (heap_lt x0)).trans x0
    have y1 := (hb1.block _ (heap_lt y0)).trans y0
    refine ⟨_, rfl, hK' _ _ ⟨trivial, ?_⟩⟩
    clear hK' K' hmem
    show wpAnyH _ _ _ _ _ _ _ (A2.put (some 5) v5) _
    refine wpAnyH_all (rs := [2]) (by kernel_rfl) (by simp) fun i hmem => ?_
    obtain rfl : i = 2 := by simpa using hmem
    refine wpOp_own rfl rfl fun K' hK' => ?_
    refine wp_calls2 65 hf_with (.tmp 5) (.tmp 6) _ rfl v5 (.slice (some ⟨w.heap.size, 0, none⟩) 32 32) (ev_eq _ _ (by simp [z2])) (evn z6) ?_
    refine (with_rv hv5.out h (some ⟨w.heap.size, 0, none⟩) 32 32 hlen.symm (HH.out.bytes x1) (by simp; omega) (by omega) (HK.out.below b1)).mono ?_
    rintro _ w2 ⟨v7, rfl, hv7, hb2⟩
    have b2 := b1.trans (hb2.mono b1.size)
    have y2 := (hb2.block _ (heap_lt y1)).trans y1
    refine ⟨_, rfl, hK' _ _ ⟨trivial, ?_⟩⟩
    clear hK' K' hmem
    show wpAnyH _ _ _ _ _ _ _ ((A2.put (some 5) v5).put (some 7) v7) _
    refine wpAnyH_all (rs := [4]) (by kernel_rfl) (by simp) fun i hmem => ?_
    obtain rfl : i = 4 := by simpa using hmem
    refine wpOp_own rfl rfl fun K' hK' => ?_
    refine wp_calls2 65 hf_with (.tmp 7) (.tmp 8) _ rfl v7 (.slice a n cap) (ev_eq _ _ (by simp [put_sz, z2])) (evn (evn z8)) ?_
    refine (with_rv hv7.out b a n cap Hn.out (HB.out.below b2) (by simp; omega) hcap (HK.out.below b2)).mono ?_
    rintro _ w3 ⟨v9, rfl, hv9, hb3⟩
    have b3 := b2.trans (hb3.mono b2.size)
    have y3 := (hb3.block _ (heap_lt y2)).trans y2
    refine ⟨_, rfl, hK' _ _ ⟨trivial, ?_⟩⟩
    clear hK' K' hmem
    show wpAnyH _ _ _ _ _ _ _ (((A2.put (some 5) v5).put (some 7) v7).put (some 9) v9) _
    refine wpAnyH_all (rs := [5]) (by kernel_rfl) (by simp) fun i hmem => ?_
    obtain rfl : i = 5 := by simpa using hmem
    refine wpOp_own rfl rfl fun K' hK' => ?_
    refine wp_calls1 66 hf_sum (.tmp 9) _ rfl v9 (ev_eq _ _ (by simp [put_sz, z2])) ?_
    refine (sum_rv hv9.out (by simp; omega) (HK.out.below b3)).mono ?_
    rintro _ w4 ⟨O, rfl, hO, hb4⟩
    have b4 := b3.trans (hb4.mono b3.size)
    have y4 := (hb4.block _ (heap_lt y3)).trans y3
    refine ⟨_, rfl, hK' _ _ ⟨trivial, ?_⟩⟩
    clear hK' K' hmem
    obtain ⟨A5, hA5⟩ : ∃ A5, A5 = (((A2.put (some 5) v5).put (some 7) v7).put (some 9) v9).put (some 10) (.agg O) := ⟨_, rfl⟩
    show wpAnyH _ _ _ _ _ _ _ ((((A2.put (some 5) v5).put (some 7) v7).put (some 9) v9).put (some 10) (.agg O)) _
    have u4 : A5.eval (.tmp 4) = .pointer (some ⟨w.heap.size + 1, 0, none⟩) := by rw [hA5]; exact evn (evn (evn (evn z4)))
    have u10 : A5.eval (.tmp 10) = .agg O := by rw [hA5]; exact ev_eq _ _ (by simp [put_sz, z2])
    rw [← hA5]
    refine wpAnyH_all (rs := [6]) (by kernel_rfl) (by simp) fun i hmem => ?_
    obtain rfl : i = 6 := by simpa using hmem
    refine wpOp_own rfl rfl fun K' hK' => ?_
    refine wp_store_hash (.tmp 4) (.tmp 10) rfl (w.heap.size + 1) O Z hO.out hz.out u4 u10 y4 ?_
    refine hK' _ _ ⟨trivial, wpAnyH_done (by kernel_rfl) ⟨rfl, v5, .slice (some ⟨w.heap.size, 0, none⟩) 32 32, v7, .slice a n cap, v9, O, ?_, ?_, setRow_heap _ _ _ _ _ _ y4, b4.setRow (by omega) _⟩ _⟩
    · show A5 = _
      rw [hA5, hA2, hA]
      simp [Act.put]
    · have h := hO.out
      rwa [List.nil_append] at h
  · rintro aa W ⟨v5, v6, v7, v8, v9, O, rfl, hO, hrow, hb⟩
    have HO := hid hO
    have Hr := hid hrow
    have Hb := hid hb
    clear hO hrow hb HB HK HH hz zh x0 y0 b0 hW0 e1 e2 e4 sz
    go_wp2
    show bodyPost _ _ _ _ _ _
    refine bodyPost_ret (results_cell_row rfl _ _ (w.heap.size + 1) 69 O (0, 0) _ rfl Hr.out Tryd.underlying69 rfl HO.out.info) rfl ⟨O, rfl, HO, Hb.out⟩
end Go.Proofs.YthfmpebgmojcaaaDoor
/- Bytes appended from whatever slice; Copy and SameBytes of the reference (for the laws on sealed texts). -/
namespace Go.Proofs.YthfmpebgmojcaaaDoor
open Go.RowKit
set_option linter.unusedVariables false
set_option maxRecDepth 20000
set_option maxRecDepth 20000
def loadH (x : Value) : Sem Value := Instr.loadAt 69 x
theorem loadH_fold (x : Value) : Instr.loadAt 69 x = loadH x := rfl
theorem loadH_run {w : World} {g : Nat} {O : Array Value} {l : List UInt8} (hO : HV O l) (hg : w.heap[g]? = some (.cells O 69 (0, 0))) : (loadH (.pointer (some ⟨g, 0, none⟩))).run Tryd.prog w = .ok (.agg O) w := by
  have h := run_loadAt_mid (P := Tryd.prog) w g 0 69 O.toList _ (fun j v hj => by rw [Nat.zero_add, cell_of_row _ _ _ _ _ _ hg, ← hj, Array.getElem?_toList]) Tryd.underlying69 rfl (by rw [Array.length_toList]; exact hO.info)
  rw [Array.toArray_toList] at h
  exact h
theorem sizeOf_u8 (w : World) : (sizeOf 5).run Tryd.prog w = .ok 1 w := by
  have h : Tryd.t5.size = 1 := by kernel_rfl
  simp [sizeOf, h]
theorem hash_eq {A B : Array Value} {a b : List UInt8} (hA : HV A a) (hB : HV B b) (w : World) : (Op.equalIn 10000 69 (.agg A) (.agg B)).run Tryd.prog w = .ok (a == b) w := by
  rw [hA.eq, hB.eq]
  exact run_equalIn_bytes (P := Tryd.prog) w 9998 69 5 32 Tryd.underlying69 Tryd.underlying5 sizeOf_u8 a b hA.len hB.len
theorem app_src (w : World) {ops : Array Oper} {rest : List Oper} {o : Oper} {a : Act} {Q : Exit → Act → World → Prop} (hgd : o.guard = none) (s x : Operand)
    (ho : o.op = .call { callee := .builtin .append, args := #[s, x], argTypes := #[40, 40] }) (base : Nat) (v : Value) (xs : List UInt8) (hs : a.eval s = v)
    (hown : w.ownsRow base 5 1 v xs.length (cellsOf xs)) (ad : Option Addr) (n c : Nat) (news : List UInt8) (hn : n = news.length) (hx : a.eval x = .slice ad n c) (hB : Bytes w ad news) (hc : ad = none → c = 0)
    (hb : xs.length + news.length ≤ 140737488355328) (hbase : base ≤ w.heap.size)
    (h : ∀ v' w', w'.ownsRow base 5 1 v' (xs ++ news).length (cellsOf (xs ++ news)) → Below base w w' → wpList Tryd.prog ops Q rest (a.put o.dst v') w') :
    wpList Tryd.prog ops Q (o :: rest) a w := by
  cases ad with
  | none =>
    obtain ⟨i0, hi, hz0, hz1, hz2⟩ := info_parts Tryd.info5
    have hl : news = [] := by
      cases news with
      | nil => rfl
      | cons c x => obtain ⟨b, o, e, _⟩ := hB 0 (by simp); cases e
    subst hl
    have h0 : n = 0 := hn
    subst h0
    rw [hc rfl] at hx
    refine wpList_append_own_none hgd s x 40 ho base 5 i0 1 Tryd.underlying40 hi v xs.length (cellsOf xs) hs hown hx ?_
    refine h v w ?_ (Below.refl _ w)
    rw [List.append_nil]
    exact hown
  | some ad =>
    refine app_bytes w hgd s x ho base v xs hs hown ad n c news hn.symm hx (fun j hj => ?_) (by rw [hn]; exact hb) hbase (fun v' w' h1 h2 _ => h v' w' h1 h2)
    obtain ⟨b, o, e, hcl⟩ := hB j hj
    cases e
    rw [addr_add]
    exact hcl
theorem below_drewN (B : Nat) (w : World) (n : Nat) : Below B w (w.drewN n) := ⟨rfl, rfl, rfl, Nat.le_refl _, fun _ _ => rfl⟩
end Go.Proofs.YthfmpebgmojcaaaDoor
/- A hash and an error as what a function answers. -/
namespace Go.Proofs.YthfmpebgmojcaaaDoor
open Go.RowKit
set_option linter.unusedVariables false
set_option maxRecDepth 20000
set_option maxRecDepth 20000
theorem built_hash : Tryd.prog.built 69 [] = some (bvs (List.replicate 32 0)) := by kernel_rfl
theorem wpList_build_none {ops : Array Oper} {rest : List Oper} {o : Oper} {a : Act} {w : World} {Q : Exit → Act → World → Prop} (hg : o.guard = none) (t : TypeId) (ho : o.op = .build t #[]) (cells : Array Value)
    (hb : Tryd.prog.built t [] = some cells) (h : wpList Tryd.prog ops Q rest (a.put o.dst (.agg cells)) w) : wpList Tryd.prog ops Q (o :: rest) a w := by
  refine wpList_build hg t #[] ho ?_ ?_
  · simp [hb]
  · simpa [hb] using h
theorem results_row_tmp {P : Program} {fn : Func} {p u : Tmp} {ty : TypeId} (h : fn.results = #[.cell p ty, .tmp u]) (tmps : Array Value) (w : World) (g : Nat) (t : TypeId) (cs : Array Value) (fr : Nat × Nat) (d : TypeDesc)
    (hp : tmps.getD p undef = .pointer (some ⟨g, 0, none⟩)) (hg : w.heap[g]? = some (.cells cs t fr))
    (hu : P.underlying ty = some d) (hd : (match d with | .struct _ | .array _ _ => true | _ => false) = true) (hi : (P.info? ty).map (·.size) = some cs.size) :
    (results fn tmps).run P w = .ok (.tuple #[.agg cs, tmps.getD u undef]) w := by
  rw [results_cell_tmp h, hp]
  simp [asAddr, run_loadVar_row w g t ty cs fr d hg hu hd hi, Result.andThen]
def HashErr (w : World) (l : List UInt8) (er : Int) (e : Ending) (w' : World) : Prop := ∃ O, e = .returned (.tuple #[.agg O, .int .i64 er]) ∧ HV O l ∧ Below w.heap.size w w'
end Go.Proofs.YthfmpebgmojcaaaDoor
/- A key below another one: hash.Derive. -/
namespace Go.Proofs.YthfmpebgmojcaaaDoor.Ky
open Go.RowKit
set_option linter.unusedVariables false
set_option maxRecDepth 20000
def derRes (key : List UInt8) (l : List ByteArray) : List UInt8 := if keyErr l = 0 then hmac key (keyRes l) else List.replicate 32 0
set_option maxHeartbeats 1000000 in
theorem derive_any {w : World} {K : Array Value} {key : List UInt8} (hK : HV K key) (l : List ByteArray) (a : Option Addr) (n cap : Nat) (hn : n = l.length) (hX : Texts w a l) (hsz : ∀ s ∈ l, s.size ≤ 140737488351232) (hlen : l.length ≤ 140737488351232) (hT : KAt w) :
    Calls Tryd.prog 93 #[.agg K, .slice a n cap] w (HashErr w (derRes key l) (keyErr l : Int)) := by
  obtain ⟨Z, hZ⟩ : ∃ Z, Z = bvs (List.replicate 32 0) := ⟨_, rfl⟩
  have zh := (zero_of_info zero_hash).1
  have bh := built_hash
  rw [← hZ] at zh bh
  have hz : Hid (HV Z (List.replicate 32 0)) := by
    show HV _ _
    rw [hZ]; exact hv_zero
  have zh := hid zh
  have bh := hid bh
  have HK := hid hK
  have HX := hid hX
  have HT := hid hT
  have Hsz := hid hsz
  have hinf : (Tryd.prog.info? 69).map (·.size) = some K.size := hK.info
  obtain ⟨W0, hW0⟩ : ∃ W0, W0 = (w.alloc (.cells K 69)).alloc (.cells Z 69) := ⟨_, rfl⟩
  have b0 : Hid (Below w.heap.size w W0) := by
    show Below _ _ _
    rw [hW0]; exact ((Below.refl _ w).alloc (Nat.le_refl _) _).alloc (by simp) _
  have k0 : Hid (W0.heap[w.heap.size]? = some (.cells K 69 (0, 0))) := by
    show _ = _
    rw [hW0]; exact heap_alloc2_old w _ _
  have r0 : Hid (W0.heap[w.heap.size + 1]? = some (.cells Z 69 (0, 0))) := by
    show _ = _
    rw [hW0]; exact heap_alloc2_new w _ _
  have HW0 := hid hW0.symm
  have lk : keyErr l = 0 → (keyRes l).length ≤ 64 := fun h => by
    have h1 := h
    unfold keyErr at h
    unfold keyRes
    rw [if_pos h1]
    split at h
    · cases h
    · split at h
      · cases h
      · omega
  have Hlk := hid lk
  subst hn
  clear hK hX hT hsz hZ hW0 lk
  go_enter Tryd.func93, Tryd.ntmps93
  go_wp2_with (with_reducible show Go.wpList _ _ _ _ _ _; refine wpList_alloc_row rfl 69 rfl Z zh.out ?_)
  rw [HW0.out]
  refine (key_any l a cap _ (HX.out.below b0.out) Hsz.out hlen).mono ?_
  rintro _ W1 ⟨a1, c1, rfl, hB1, hb1, hc1⟩
  have b1 : Hid (Below w.heap.size w W1) := Below.on' b0.out hb1
  have k1 : Hid (W1.heap[w.heap.size]? = some (.cells K 69 (0, 0))) := (hb1.block _ (heap_lt k0.out)).trans k0.out
  have r1 : Hid (W1.heap[w.heap.size + 1]? = some (.cells Z 69 (0, 0))) := (hb1.block _ (heap_lt r0.out)).trans r0.out
  have HB1 := hid hB1
  clear hb1 hB1 b0 k0 r0
  by_cases he : keyErr l = 0
  · have hl64 := Hlk.out he
    have Hr : Hid (derRes key l = hmac key (keyRes l)) := by
      show _ = _
      unfold derRes; rw [if_pos he]
    have He := hid he
    rw [he]
    obtain ⟨m, hm⟩ : ∃ m, m = (keyRes l).length := ⟨_, rfl⟩
    rw [← hm] at hl64 hc1 ⊢
    have Hm := hid hm
    clear he hm Hlk
    go_wp2_with fail
    refine (tag_any key (some ⟨w.heap.size, 0, none⟩) 32 32 HK.out.len.symm (HK.out.bytes k1.out) (by rw [HK.out.len]; omega) (by rw [HK.out.len]; omega) (keyRes l) a1 m c1 Hm.out HB1.out (by have := Hm.out; omega) (by have := Hm.out; omega) (HT.out.below b1.out)).mono ?_
    rintro _ W2 ⟨O, rfl, hO, hb2⟩
    have HO := hid hO
    have b2 : Hid (Below w.heap.size w W2) := Below.on' b1.out hb2
    have r2 : Hid (W2.heap[w.heap.size + 1]? = some (.cells Z 69 (0, 0))) := (hb2.block _ (heap_lt r1.out)).trans r1.out
    clear hO hb2 b1 r1 k1 HB1
    go_wp2_with (with_reducible show Go.wpList _ _ _ _ _ _; refine wpList_store_row rfl 69 (.tmp 4) (.tmp 19) rfl (w.heap.size + 1) O rfl rfl 69 Z r2.out HO.out.info (hz.out.size.trans HO.out.size.symm) HO.out.one ?_)
    refine bodyPost_ret (results_row_tmp rfl _ _ (w.heap.size + 1) 69 O (0, 0) _ rfl (setRow_heap _ _ _ _ _ _ r2.out) Tryd.underlying69 rfl HO.out.info) rfl ?_
    rw [He.out]
    refine ⟨O, rfl, ?_, b2.out.setRow (by omega) _⟩
    rw [Hr.out]; exact HO.out
  · have Hr : Hid (derRes key l = List.replicate 32 0) := by
      show _ = _
      unfold derRes; rw [if_neg he]
    have q0 : ((keyErr l : Int) != 0) = true := by rw [bne_iff_ne]; omega
    have q1 : ¬ (keyErr l : Int) = 0 := by omega
    go_wp2_with (with_reducible show Go.wpList _ _ _ _ _ _; first
      | refine wpList_build_none rfl 69 rfl Z bh.out ?_
      | refine wpList_store_row rfl 69 (.tmp 4) (.tmp 15) rfl (w.heap.size + 1) Z rfl rfl 69 Z r1.out hz.out.info rfl hz.out.one ?_)
    refine bodyPost_ret (results_row_tmp rfl _ _ (w.heap.size + 1) 69 Z (0, 0) _ rfl (setRow_heap _ _ _ _ _ _ r1.out) Tryd.underlying69 rfl hz.out.info) rfl ?_
    refine ⟨Z, rfl, ?_, b1.out.setRow (by omega) _⟩
    rw [Hr.out]; exact hz.out
end Go.Proofs.YthfmpebgmojcaaaDoor.Ky
