/- YthfmpebgmojcaaaDoorHTop + YthfmpebgmojcaaaDoorHMask + YthfmpebgmojcaaaDoorHTag + YthfmpebgmojcaaaDoorHChain + YthfmpebgmojcaaaDoorECopy + YthfmpebgmojcaaaDoorHRef + YthfmpebgmojcaaaDoorHYields + YthfmpebgmojcaaaDoorHRefBase -/
import Derived.Test.YthfmpebgmojcaaaDoorHSum
import Derived.Laws.AppendOwnNone
import Derived.Stop.BytesEq
import Derived.Deep.QuietTactic
import Derived.BigQuiet
import Derived.BigRegion
/- The hash of bytes: hash.Sum. -/
namespace Go.Proofs.YthfmpebgmojcaaaDoor
open Go.RowKit
set_option linter.unusedVariables false
set_option maxRecDepth 20000
set_option maxRecDepth 20000
def RV (D : List UInt8) (v : Value) : Prop := ∃ s bk f, v = .agg (rvals s bk D.length) ∧ Part D s bk f
theorem start_rv (w : World) : Calls Tryd.prog 64 #[] w fun e w' => ∃ v, e = .returned v ∧ Hid (RV [] v) ∧ Below w.heap.size w w' :=
  (start_any w).mono fun e w' h => by
    obtain ⟨rfl, hb⟩ := h
    exact ⟨_, rfl, ⟨_, _, _, rfl, part_nil⟩, hb⟩
theorem with_rv {w : World} {D : List UInt8} {v : Value} (hv : RV D v) (l : List UInt8) (a : Option Addr) (n cap : Nat) (hn : n = l.length) (hB : Bytes w a l) (hl : D.length + l.length < 4611686018427387904) (hcap : l.length ≤ cap) (hK : KAt w) :
    Calls Tryd.prog 65 #[v, .slice a n cap] w fun e w' => ∃ v', e = .returned v' ∧ Hid (RV (D ++ l) v') ∧ Below w.heap.size w w' := by
  subst hn
  obtain ⟨s, bk, f, rfl, hP⟩ := hv
  refine (with_any hP l a cap hB hl hcap hK).mono fun e w' h => ?_
  obtain ⟨s', bk', f', rfl, hP', hb⟩ := h
  exact ⟨_, rfl, ⟨_, _, _, rfl, hP'⟩, hb⟩
structure HV (O : Array Value) (l : List UInt8) : Prop where
  eq : O = bvs l
  len : l.length = 32
theorem HV.size {O : Array Value} {l : List UInt8} (h : HV O l) : O.size = 32 := by rw [h.eq, bvs_size, h.len]
theorem HV.info {O : Array Value} {l : List UInt8} (h : HV O l) : (Tryd.prog.info? 69).map (·.size) = some O.size := by rw [h.size]; exact size_hash
theorem HV.one {O : Array Value} {l : List UInt8} (h : HV O l) : O.all (·.oneCell') = true := by rw [h.eq]; exact bvs_one _
theorem HV.bytes {O : Array Value} {l : List UInt8} (h : HV O l) {w : World} {g : Nat} (hg : w.heap[g]? = some (.cells O 69 (0, 0))) : Bytes w (some ⟨g, 0, none⟩) l := fun i hi =>
  ⟨g, 0, rfl, by rw [Nat.zero_add, cell_of_row _ _ _ _ _ _ hg, h.eq, bvs_get l i hi]⟩
theorem sum_rv {w : World} {D : List UInt8} {v : Value} (hv : RV D v) (hl : D.length < 1152921504606846976) (hK : KAt w) :
    Calls Tryd.prog 66 #[v] w fun e w' => ∃ O, e = .returned (.agg O) ∧ Hid (HV O (sha D)) ∧ Below w.heap.size w w' := by
  obtain ⟨s, bk, f, rfl, hP⟩ := hv
  refine (sum_any hP hl hK).mono fun e w' h => ?_
  obtain ⟨rfl, hb⟩ := h
  exact ⟨_, rfl, ⟨rfl, sha_length _⟩, hb⟩
theorem hv_zero : HV (bvs (List.replicate 32 0)) (List.replicate 32 0) := ⟨rfl, by simp⟩
end Go.Proofs.YthfmpebgmojcaaaDoor
/- A key as a block, masked: hash.masked. -/
namespace Go.Proofs.YthfmpebgmojcaaaDoor
open Go.RowKit
set_option linter.unusedVariables false
set_option maxRecDepth 20000
set_option maxRecDepth 20000
end Go.Proofs.YthfmpebgmojcaaaDoor
/- The HMAC of bytes: hash.Tag. -/
namespace Go.Proofs.YthfmpebgmojcaaaDoor
open Go.RowKit
set_option linter.unusedVariables false
set_option maxRecDepth 20000
set_option maxRecDepth 20000
theorem hf_start : ∀ (args : Array Value) (w : World), (callFunc 64 args).run Tryd.prog w = .ok (.enter 64 args) w := fun args w => by simp [go_sem]
theorem hf_with : ∀ (args : Array Value) (w : World), (callFunc 65 args).run Tryd.prog w = .ok (.enter 65 args) w := fun args w => by simp [go_sem]
theorem hf_sum : ∀ (args : Array Value) (w : World), (callFunc 66 args).run Tryd.prog w = .ok (.enter 66 args) w := fun args w => by simp [go_sem]
theorem yields_slice_hash {ops : Array Oper} {S : World → Prop} {op : Oper} {a : Act} (hw : Region.wanted op (yielded ops a.tmps) = true) (x : Operand) (ho : op.op = .slice 69 x none none none) (g : Nat) (hx : a.eval x = .pointer (some ⟨g, 0, none⟩)) : YieldsIf Tryd.prog ops S op (.slice (some ⟨g, 0, none⟩) 32 32) a := by
  refine .inl ⟨hw, fun w _ => ?_⟩
  unfold execOp
  simp only [ho, hx]
  simp [go_sem]
theorem yields_move {ops : Array Oper} {S : World → Prop} {op : Oper} {a : Act} (hw : Region.wanted op (yielded ops a.tmps) = true) (x : Operand) (ho : op.op = .move x) (v : Value) (hx : a.eval x = v) : YieldsIf Tryd.prog ops S op v a := by
  refine .inl ⟨hw, fun w _ => ?_⟩
  unfold execOp
  simp only [ho, hx]
  simp [go_sem]
theorem wp_store_hash {o : Oper} {a : Act} {w : World} {K : Act → World → Prop} {Q : Exit → Act → World → Prop} (x y : Operand) (ho : o.op = .store 69 x y) (g : Nat) (O Y : Array Value) {l m : List UInt8} (hO : HV O l) (hY : HV Y m) (ha : a.eval x = .pointer (some ⟨g, 0, none⟩)) (hb : a.eval y = .agg O)
    (hg : w.heap[g]? = some (.cells Y 69 (0, 0))) (h : K (a.put o.dst undef) (w.setRow g O)) : o.wp Tryd.prog a w K Q :=
  wp_store_row 69 x y ho g O ha hb 69 Y hg hO.info (hY.size.trans hO.size.symm) hO.one h
end Go.Proofs.YthfmpebgmojcaaaDoor
/- The next link of a chain: hash.Chain. -/
namespace Go.Proofs.YthfmpebgmojcaaaDoor
open Go.RowKit
set_option linter.unusedVariables false
set_option maxRecDepth 20000
set_option maxRecDepth 20000
set_option maxHeartbeats 2000000 in
theorem chain_any {w : World} {h : List UInt8} {H : Array Value} (hH : HV H h) (b : List UInt8) (a : Option Addr) (n cap : Nat) (hn : n = b.length) (hB : Bytes w a b) (hl : b.length < 1000000000000000) (hcap : b.length ≤ cap) (hK : KAt w) :
    Calls Tryd.prog 60 #[.agg H, .slice a n cap] w fun e w' => ∃ O, e = .returned (.agg O) ∧ Hid (HV O (sha (h ++ b))) ∧ Below w.heap.size w w' := by
  obtain ⟨Z, hZ⟩ : ∃ Z, Z = bvs (List.replicate 32 0) := ⟨_, rfl⟩
  have zh := (zero_of_info zero_hash).1
  rw [← hZ] at zh
  have hz : Hid (HV Z (List.replicate 32 0)) := by
    show HV _ _
    rw [hZ]; exact hv_zero
  have zh := hid zh
  have HB := hid hB
  have HK := hid hK
  have HH := hid hH
  have Hn := hid hn
  have hlen : h.length = 32 := hH.len
  clear hZ hB hK hH hn
  go_enter Tryd.func60, Tryd.ntmps60
  go_wp2_with (with_reducible show Go.wpList _ _ _ _ _ _; refine wpList_alloc_row rfl 69 rfl Z zh.out ?_)
  have hm : Tryd.prog.follows .mixedOrders = true := by kernel_rfl
  obtain ⟨W0, hW0⟩ : ∃ W0, W0 = ((w.alloc (.cells H 69)).alloc (.cells Z 69)).drew := ⟨_, rfl⟩
  have b0 : Below w.heap.size w W0 := by rw [hW0]; exact (((Below.refl _ w).alloc (Nat.le_refl _) _).alloc (by simp) _).drew
  have x0 : W0.heap[w.heap.size]? = some (.cells H 69 (0, 0)) := by rw [hW0]; exact heap_alloc2_old w _ _
  have y0 : W0.heap[w.heap.size + 1]? = some (.cells Z 69 (0, 0)) := by rw [hW0]; exact heap_alloc2_new w _ _
  refine wp_act _ fun A hA => ?_
  rw [show (w.alloc (.cells H 69)).heap.size = w.heap.size + 1 by simp] at hA
  have sz : A.tmps.size = 11 := by rw [hA]; rfl
  have e1 : A.eval (.tmp 1) = .slice a n cap := by rw [hA]; rfl
  have e2 : A.eval (.tmp 2) = .pointer (some ⟨w.heap.size, 0, none⟩) := by rw [hA]; rfl
  have e4 : A.eval (.tmp 4) = .pointer (some ⟨w.heap.size + 1, 0, none⟩) := by rw [hA]; rfl
  obtain ⟨a0, ha0⟩ : ∃ a0, a0 = a := ⟨_, rfl⟩
  rw [← ha0] at hA
  refine wp_split (fun a W => ∃ v5 v6 v7 v8 v9 O, a = ⟨#[.agg H, .slice a0 n cap, .pointer (some ⟨w.heap.size, 0, none⟩), undef, .pointer (some ⟨w.heap.size + 1, 0, none⟩), v5, v6, v7, v8, v9, .agg O], []⟩ ∧ HV O (sha (h ++ b)) ∧ W.heap[w.heap.size + 1]? = some (.cells O 69 (0, 0)) ∧ Below w.heap.size w W) ?_ ?_
  · refine wp_region_held (S := fun _ => True) hm ?_
    rw [show ({ ((w.alloc (.cells H 69)).alloc (.cells Z 69)) with drawn := ((w.alloc (.cells H 69)).alloc (.cells Z 69)).drawn + 1 } : World) = W0 from hW0.symm]
    refine wpAnyH_take (i := 1) (v := .slice (some ⟨w.heap.size, 0, none⟩) 32 32) rfl (by kernel_rfl) (by kernel_rfl) (by kernel_rfl) (fun _ _ _ h => nomatch h.1) (yields_slice_hash (by simp [Region.wanted]) (.tmp 2) rfl w.heap.size e2) trivial ?_
    refine wpAnyH_take (i := 3) (v := .slice a n cap) rfl (by kernel_rfl) (by kernel_rfl) (by kernel_rfl) (fun _ _ _ h => nomatch h.1) (yields_move (by simp [Region.wanted]) (.tmp 1) rfl _ (evn e1)) trivial ?_
    obtain ⟨A2, hA2⟩ : ∃ A2, A2 = (A.put (some 6) (.slice (some ⟨w.heap.size, 0, none⟩) 32 32)).put (some 8) (.slice a n cap) := ⟨_, rfl⟩
    show wpAnyH _ _ _ _ _ _ _ ((A.put (some 6) (.slice (some ⟨w.heap.size, 0, none⟩) 32 32)).put (some 8) (.slice a n cap)) _
    have z2 : A2.tmps.size = 11 := by rw [hA2]; simp [put_sz, sz]
    have z6 : A2.eval (.tmp 6) = .slice (some ⟨w.heap.size, 0, none⟩) 32 32 := by rw [hA2]; exact evn (ev_eq _ _ (by simp [sz]))
    have z8 : A2.eval (.tmp 8) = .slice a n cap := by rw [hA2]; exact ev_eq _ _ (by simp [put_sz, sz])
    have z4 : A2.eval (.tmp 4) = .pointer (some ⟨w.heap.size + 1, 0, none⟩) := by rw [hA2]; exact evn (evn e4)
    rw [← hA2]
    clear hW0 e1 e2 e4 sz
    refine wpAnyH_all (rs := [0]) (by kernel_rfl) (by simp) fun i hmem => ?_
    obtain rfl : i = 0 := by simpa using hmem
    refine wpOp_own rfl rfl fun K' hK' => ?_
    refine wp_calls0 64 hf_start _ rfl ?_
    refine (start_rv _).mono ?_
    rintro _ w1 ⟨v5, rfl, hv5, hb1⟩
    have b1 := b0.trans (hb1.mono b0.size)
    have x1 := (hb1.block _ (heap_lt x0)).trans x0
    have y1 := (hb1.block _ (heap_lt y0)).trans y0
    refine ⟨_, rfl, hK' _ _ ⟨trivial, ?_⟩⟩
    clear hK' K' hmem
    show wpAnyH _ _ _ _ _ _ _ (A2.put (some 5) v5) _
    refine wpAnyH_all (rs := [2]) (by kernel_rfl) (by simp) fun i hmem => ?_
    obtain rfl : i = 2 := by simpa using hmem
    refine wpOp_own rfl rfl fun K' hK' => ?_
    refine wp_calls2 65 hf_with (.tmp 5) (.tmp 6) _ rfl v5 (.slice (some ⟨w.heap.size, 0, none⟩) 32 32) (ev_eq _ _ (by simp [z2])) (evn z6) ?_
    refine (with_rv hv5.out h (some ⟨w.heap.size, 0, none⟩) 32 32 hlen.symm (HH.out.bytes x1) (by simp; omega) (by omega) (HK.out.below b1)).mono ?_
    rintro _ w2 ⟨v7, rfl, hv7, hb2⟩
    have b2 := b1.trans (hb2.mono b1.size)
    have y2 := (hb2.block _ (heap_lt y1)).trans y1
    refine ⟨_, rfl, hK' _ _ ⟨trivial, ?_⟩⟩
    clear hK' K' hmem
    show wpAnyH _ _ _ _ _ _ _ ((A2.put (some 5) v5).put (some 7) v7) _
    refine wpAnyH_all (rs := [4]) (by kernel_rfl) (by simp) fun i hmem => ?_
    obtain rfl : i = 4 := by simpa using hmem
    refine wpOp_own rfl rfl fun K' hK' => ?_
    refine wp_calls2 65 hf_with (.tmp 7) (.tmp 8) _ rfl v7 (.slice a n cap) (ev_eq _ _ (by simp [put_sz, z2])) (evn (evn z8)) ?_
    refine (with_rv hv7.out b a n cap Hn.out (HB.out.below b2) (by simp; omega) hcap (HK.out.below b2)).mono ?_
    rintro _ w3 ⟨v9, rfl, hv9, hb3⟩
    have b3 := b2.trans (hb3.mono b2.size)
    have y3 := (hb3.block _ (heap_lt y2)).trans y2
    refine ⟨_, rfl, hK' _ _ ⟨trivial, ?_⟩⟩
    clear hK' K' hmem
    show wpAnyH _ _ _ _ _ _ _ (((A2.put (some 5) v5).put (some 7) v7).put (some 9) v9) _
    refine wpAnyH_all (rs := [5]) (by kernel_rfl) (by simp) fun i hmem => ?_
    obtain rfl : i = 5 := by simpa using hmem
    refine wpOp_own rfl rfl fun K' hK' => ?_
    refine wp_calls1 66 hf_sum (.tmp 9) _ rfl v9 (ev_eq _ _ (by simp [put_sz, z2])) ?_
    refine (sum_rv hv9.out (by simp; omega) (HK.out.below b3)).mono ?_
    rintro _ w4 ⟨O, rfl, hO, hb4⟩
    have b4 := b3.trans (hb4.mono b3.size)
    have y4 := (hb4.block _ (heap_lt y3)).trans y3
    refine ⟨_, rfl, hK' _ _ ⟨trivial, ?_⟩⟩
    clear hK' K' hmem
    obtain ⟨A5, hA5⟩ : ∃ A5, A5 = (((A2.put (some 5) v5).put (some 7) v7).put (some 9) v9).put (some 10) (.agg O) := ⟨_, rfl⟩
    show wpAnyH _ _ _ _ _ _ _ ((((A2.put (some 5) v5).put (some 7) v7).put (some 9) v9).put (some 10) (.agg O)) _
    have u4 : A5.eval (.tmp 4) = .pointer (some ⟨w.heap.size + 1, 0, none⟩) := by rw [hA5]; exact evn (evn (evn (evn z4)))
    have u10 : A5.eval (.tmp 10) = .agg O := by rw [hA5]; exact ev_eq _ _ (by simp [put_sz, z2])
    rw [← hA5]
    refine wpAnyH_all (rs := [6]) (by kernel_rfl) (by simp) fun i hmem => ?_
    obtain rfl : i = 6 := by simpa using hmem
    refine wpOp_own rfl rfl fun K' hK' => ?_
    refine wp_store_hash (.tmp 4) (.tmp 10) rfl (w.heap.size + 1) O Z hO.out hz.out u4 u10 y4 ?_
    refine hK' _ _ ⟨trivial, wpAnyH_done (by kernel_rfl) ⟨rfl, v5, .slice (some ⟨w.heap.size, 0, none⟩) 32 32, v7, .slice a n cap, v9, O, ?_, ?_, setRow_heap _ _ _ _ _ _ y4, b4.setRow (by omega) _⟩ _⟩
    · show A5 = _
      rw [hA5, hA2, hA]
      simp [Act.put]
    · have h := hO.out
      rwa [List.nil_append] at h
  · rintro aa W ⟨v5, v6, v7, v8, v9, O, rfl, hO, hrow, hb⟩
    have HO := hid hO
    have Hr := hid hrow
    have Hb := hid hb
    clear hO hrow hb HB HK HH hz zh x0 y0 b0 hW0 e1 e2 e4 sz
    go_wp2
    show bodyPost _ _ _ _ _ _
    refine bodyPost_ret (results_cell_row rfl _ _ (w.heap.size + 1) 69 O (0, 0) _ rfl Hr.out Tryd.underlying69 rfl HO.out.info) rfl ⟨O, rfl, HO, Hb.out⟩
end Go.Proofs.YthfmpebgmojcaaaDoor
/- Bytes appended from whatever slice; Copy and SameBytes of the reference (for the laws on sealed texts). -/
namespace Go.Proofs.YthfmpebgmojcaaaDoor
open Go.RowKit
set_option linter.unusedVariables false
set_option maxRecDepth 20000
set_option maxRecDepth 20000
def loadH (x : Value) : Sem Value := Instr.loadAt 69 x
theorem loadH_fold (x : Value) : Instr.loadAt 69 x = loadH x := rfl
theorem loadH_run {w : World} {g : Nat} {O : Array Value} {l : List UInt8} (hO : HV O l) (hg : w.heap[g]? = some (.cells O 69 (0, 0))) : (loadH (.pointer (some ⟨g, 0, none⟩))).run Tryd.prog w = .ok (.agg O) w := by
  have h := run_loadAt_mid (P := Tryd.prog) w g 0 69 O.toList _ (fun j v hj => by rw [Nat.zero_add, cell_of_row _ _ _ _ _ _ hg, ← hj, Array.getElem?_toList]) Tryd.underlying69 rfl (by rw [Array.length_toList]; exact hO.info)
  rw [Array.toArray_toList] at h
  exact h
theorem sizeOf_u8 (w : World) : (sizeOf 5).run Tryd.prog w = .ok 1 w := by
  have h : Tryd.t5.size = 1 := by kernel_rfl
  simp [sizeOf, h]
theorem hash_eq {A B : Array Value} {a b : List UInt8} (hA : HV A a) (hB : HV B b) (w : World) : (Op.equalIn 10000 69 (.agg A) (.agg B)).run Tryd.prog w = .ok (a == b) w := by
  rw [hA.eq, hB.eq]
  exact run_equalIn_bytes (P := Tryd.prog) w 9998 69 5 32 Tryd.underlying69 Tryd.underlying5 sizeOf_u8 a b hA.len hB.len
theorem app_src (w : World) {ops : Array Oper} {rest : List Oper} {o : Oper} {a : Act} {Q : Exit → Act → World → Prop} (hgd : o.guard = none) (s x : Operand)
    (ho : o.op = .call { callee := .builtin .append, args := #[s, x], argTypes := #[40, 40] }) (base : Nat) (v : Value) (xs : List UInt8) (hs : a.eval s = v)
    (hown : w.ownsRow base 5 1 v xs.length (cellsOf xs)) (ad : Option Addr) (n c : Nat) (news : List UInt8) (hn : n = news.length) (hx : a.eval x = .slice ad n c) (hB : Bytes w ad news) (hc : ad = none → c = 0)
    (hb : xs.length + news.length ≤ 140737488355328) (hbase : base ≤ w.heap.size)
    (h : ∀ v' w', w'.ownsRow base 5 1 v' (xs ++ news).length (cellsOf (xs ++ news)) → Below base w w' → wpList Tryd.prog ops Q rest (a.put o.dst v') w') :
    wpList Tryd.prog ops Q (o :: rest) a w := by
  cases ad with
  | none =>
    obtain ⟨i0, hi, hz0, hz1, hz2⟩ := info_parts Tryd.info5
    have hl : news = [] := by
      cases news with
      | nil => rfl
      | cons c x => obtain ⟨b, o, e, _⟩ := hB 0 (by simp); cases e
    subst hl
    have h0 : n = 0 := hn
    subst h0
    rw [hc rfl] at hx
    refine wpList_append_own_none hgd s x 40 ho base 5 i0 1 Tryd.underlying40 hi v xs.length (cellsOf xs) hs hown hx ?_
    refine h v w ?_ (Below.refl _ w)
    rw [List.append_nil]
    exact hown
  | some ad =>
    refine app_bytes w hgd s x ho base v xs hs hown ad n c news hn.symm hx (fun j hj => ?_) (by rw [hn]; exact hb) hbase (fun v' w' h1 h2 _ => h v' w' h1 h2)
    obtain ⟨b, o, e, hcl⟩ := hB j hj
    cases e
    rw [addr_add]
    exact hcl
theorem below_drewN (B : Nat) (w : World) (n : Nat) : Below B w (w.drewN n) := ⟨rfl, rfl, rfl, Nat.le_refl _, fun _ _ => rfl⟩
end Go.Proofs.YthfmpebgmojcaaaDoor
/- The reference's words: turn, constants. -/
namespace Go.Proofs.YthfmpebgmojcaaaDoor
open Go.RowKit
set_option linter.unusedVariables false
set_option maxRecDepth 100000
set_option maxHeartbeats 1000000 in
theorem turn_any (x : W32) (n : Nat) (h0 : 0 < n) (h1 : n < 32) (w : World) :
    Calls Tryd.prog 120 #[vw x, .int .i64 (n : Int)] w fun e w' => e = .returned (vw (rotr x n)) ∧ w' = w.drew := by
  have f1 : (0 : Int) ≤ (n : Int) := by omega
  have f2 : (n : Int) ≤ 32 := by omega
  have f3 : IntKind.i64.wrap (32 - (n : Int)) = ((32 - n : Nat) : Int) := by rw [IntKind.wrap_i64]; omega
  have f3' : (32 : Int) - (n : Int) = ((32 - n : Nat) : Int) := by omega
  have f4 : (0 : Int) ≤ ((32 - n : Nat) : Int) := by omega
  have f5 : ((32 - n : Nat) : Int) ≤ 32 := by omega
  go_enter Tryd.func120, Tryd.ntmps120
  go_wp2_with fail
  go_region
  go_wp2
  go_ret
  refine ⟨ret_int ?_, rfl⟩
  rw [w_shlm, w_shr, w_or, BitVec.or_comm]
  rfl
theorem hf_turn : ∀ (args : Array Value) (w : World), (callFunc 120 args).run Tryd.prog w = .ok (.enter 120 args) w := fun args w => by simp [go_sem]
theorem wp_store_word {o : Oper} {a : Act} {w : World} {K : Act → World → Prop} {Q : Exit → Act → World → Prop} (x y : Operand) (ho : o.op = .store 129 x y) (g i : Nat) (v : W32) (u : Value) (hx : a.eval x = .pointer (some ⟨g, i, none⟩)) (hy : a.eval y = vw v)
    (hc : w.cell? ⟨g, i, none⟩ = some u) (hf : w.frozen? ⟨g, i, none⟩ = false) (h : K (a.put o.dst undef) (w.setCell ⟨g, i, none⟩ (vw v))) : o.wp Tryd.prog a w K Q := by
  unfold Oper.wp execOp
  simp only [ho, hx, hy]
  simp [go_sem, hc, hf]
  exact h
theorem Tryd.info129 : (Tryd.prog.info? 129).map (fun i => (i.zero, i.size, i.bytes)) = some (some (.int .u32 0), 1, 4) := by kernel_rfl
theorem app_words (w : World) {ops : Array Oper} {rest : List Oper} {o : Oper} {a : Act} {Q : Exit → Act → World → Prop} (hgd : o.guard = none) (s x : Operand)
    (ho : o.op = .call { callee := .builtin .append, args := #[s, x], argTypes := #[197, 197] }) (base : Nat) (v : Value) (xs : List W32) (hs : a.eval s = v)
    (hown : w.ownsRow base 129 1 v xs.length (xs.map vw)) (ad : Addr) (m c : Nat) (news : List W32) (hm : news.length = m) (hx : a.eval x = .slice (some ad) m c)
    (hnews : ∀ j (h : j < news.length), w.cell? (ad.add j) = some (vw news[j])) (hb : xs.length + m ≤ 17592186044416) (hbase : base ≤ w.heap.size)
    (h : ∀ v' w', w'.ownsRow base 129 1 v' (xs ++ news).length ((xs ++ news).map vw) → Below base w w' → wpList Tryd.prog ops Q rest (a.put o.dst v') w') :
    wpList Tryd.prog ops Q (o :: rest) a w := by
  obtain ⟨i0, hi, hz0, hz1, hz2⟩ := info_parts Tryd.info129
  subst hm
  refine wpList_append_own w hgd s x 197 ho base 129 i0 (.int .u32 0) 1 4 Tryd.underlying197 hi hz0 hz1 hz2 rfl (by decide) v xs.length (xs.map vw) hs hown ad news.length c (news.map vw) hx (by simp) (fun j u hj => ?_) (fun u hu => ?_) (by unfold maxLen; omega) (by omega) hbase ?_
  · have hj' : j < news.length := by
      have := (List.getElem?_eq_some_iff.1 hj).1
      simpa using this
    rw [hnews j hj', ← hj]
    simp [hj']
  · obtain ⟨y, _, rfl⟩ := List.mem_map.1 hu
    rfl
  · intro v' w' h1 h2 h3
    rw [← List.map_append, ← List.length_append] at h1
    exact h v' w' h1 ((Below.refl _ _).grown h2 hbase (fun k hk => (hown.lt k hk).1))
def kcells : Array Value := #[.int .u32 1116352408, .int .u32 1899447441, .int .u32 3049323471, .int .u32 3921009573, .int .u32 961987163, .int .u32 1508970993, .int .u32 2453635748, .int .u32 2870763221, .int .u32 3624381080, .int .u32 310598401, .int .u32 607225278, .int .u32 1426881987, .int .u32 1925078388, .int .u32 2162078206, .int .u32 2614888103, .int .u32 3248222580, .int .u32 3835390401, .int .u32 4022224774, .int .u32 264347078, .int .u32 604807628, .int .u32 770255983, .int .u32 1249150122, .int .u32 1555081692, .int .u32 1996064986, .int .u32 2554220882, .int .u32 2821834349, .int .u32 2952996808, .int .u32 3210313671, .int .u32 3336571891, .int .u32 3584528711, .int .u32 113926993, .int .u32 338241895, .int .u32 666307205, .int .u32 773529912, .int .u32 1294757372, .int .u32 1396182291, .int .u32 1695183700, .int .u32 1986661051, .int .u32 2177026350, .int .u32 2456956037, .int .u32 2730485921, .int .u32 2820302411, .int .u32 3259730800, .int .u32 3345764771, .int .u32 3516065817, .int .u32 3600352804, .int .u32 4094571909, .int .u32 275423344, .int .u32 430227734, .int .u32 506948616, .int .u32 659060556, .int .u32 883997877, .int .u32 958139571, .int .u32 1322822218, .int .u32 1537002063, .int .u32 1747873779, .int .u32 1955562222, .int .u32 2024104815, .int .u32 2227730452, .int .u32 2361852424, .int .u32 2428436474, .int .u32 2756734187, .int .u32 3204031479, .int .u32 3329325298]
theorem kcells_eq : kcells = (KL.map vw).toArray := by kernel_rfl
set_option maxHeartbeats 1000000 in
theorem constants_any (w : World) :
    Calls Tryd.prog 119 #[] w fun e w' => e = .returned (.slice (some ⟨w.heap.size, 0, none⟩) 64 64) ∧ w' = w.alloc (.cells kcells 129) := by
  go_enter Tryd.func119, Tryd.ntmps119
  go_wp2
  go_ret
  exact ⟨rfl, rfl⟩
end Go.Proofs.YthfmpebgmojcaaaDoor
/- Operations on words that yield without a walk: for regions that are gone through by hand. -/
namespace Go.Proofs.YthfmpebgmojcaaaDoor
open Go.RowKit
set_option linter.unusedVariables false
set_option maxRecDepth 20000
section
variable {ops : Array Oper} {S : World → Prop} {op : Oper} {a : Act}
theorem yh_assign (hw : Region.wanted op (yielded ops a.tmps) = true) (x : Operand) (ho : op.op = .assign x) (v : Value) (hx : a.eval x = v) : YieldsIf Tryd.prog ops S op v a := by
  refine .inl ⟨hw, fun w _ => ?_⟩
  unfold execOp
  simp only [ho, hx]
  simp [go_sem]
theorem y_index (hw : Region.wanted op (yielded ops a.tmps) = true) (x y : Operand) (ho : op.op = .indexAddr 197 x y) (g n c k : Nat) (hx : a.eval x = .slice (some ⟨g, 0, none⟩) n c) (hy : a.eval y = .int .i64 (k : Int)) (hk : k < n) : YieldsIf Tryd.prog ops S op (.pointer (some ⟨g, k, none⟩)) a := by
  refine .inl ⟨hw, fun w _ => ?_⟩
  have h1 : (k : Int) < (n : Int) := by omega
  have h0 : (0 : Int) ≤ (k : Int) := by omega
  unfold execOp
  simp only [ho, hx, hy]
  simp [go_sem, h0, h1]
theorem y_load (hw : Region.wanted op (yielded ops a.tmps) = true) (x : Operand) (ho : op.op = .load 129 x) (g k : Nat) (v : W32) (hx : a.eval x = .pointer (some ⟨g, k, none⟩)) (hS : ∀ w, S w → w.cell? ⟨g, k, none⟩ = some (vw v)) : YieldsIf Tryd.prog ops S op (vw v) a := by
  refine .inl ⟨hw, fun w hw' => ?_⟩
  have h1 := hS w hw'
  unfold execOp
  simp only [ho, hx]
  simp [go_sem, h1]
theorem y_xor (hw : Region.wanted op (yielded ops a.tmps) = true) (x y : Operand) (ho : op.op = .binOp .xor 129 x y 129) (p q : W32) (hx : a.eval x = vw p) (hy : a.eval y = vw q) : YieldsIf Tryd.prog ops S op (vw (p ^^^ q)) a := by
  refine .inl ⟨hw, fun w _ => ?_⟩
  have h1 := w_xor p q
  unfold execOp
  simp only [ho, hx, hy]
  simp [go_sem, h1]
theorem y_and (hw : Region.wanted op (yielded ops a.tmps) = true) (x y : Operand) (ho : op.op = .binOp .and 129 x y 129) (p q : W32) (hx : a.eval x = vw p) (hy : a.eval y = vw q) : YieldsIf Tryd.prog ops S op (vw (p &&& q)) a := by
  refine .inl ⟨hw, fun w _ => ?_⟩
  have h1 := w_and p q
  unfold execOp
  simp only [ho, hx, hy]
  simp [go_sem, h1]
theorem y_not (hw : Region.wanted op (yielded ops a.tmps) = true) (x : Operand) (ho : op.op = .unOp .xor 129 x) (p : W32) (hx : a.eval x = vw p) : YieldsIf Tryd.prog ops S op (vw (~~~p)) a := by
  refine .inl ⟨hw, fun w _ => ?_⟩
  have h1 := w_not p
  have sg : IntKind.u32.signed = false := rfl
  obtain ⟨r, hr⟩ : ∃ r, r = ~~~p := ⟨_, rfl⟩
  rw [← hr] at h1 ⊢
  unfold execOp
  simp only [ho, hx]
  simp [go_sem, sg, h1]
theorem y_add (hw : Region.wanted op (yielded ops a.tmps) = true) (x y : Operand) (ho : op.op = .binOp .add 129 x y 129) (p q : W32) (hx : a.eval x = vw p) (hy : a.eval y = vw q) : YieldsIf Tryd.prog ops S op (vw (p + q)) a := by
  refine .inl ⟨hw, fun w _ => ?_⟩
  have h1 := w_add p q
  obtain ⟨r, hr⟩ : ∃ r, r = p + q := ⟨_, rfl⟩
  rw [← hr] at h1 ⊢
  clear hr
  unfold execOp
  simp only [ho, hx, hy]
  simp [go_sem, h1]
end
theorem wp_build8 {o : Oper} {a : Act} {w : World} {K : Act → World → Prop} {Q : Exit → Act → World → Prop} (t0 t1 t2 t3 t4 t5 t6 t7 : Operand) (ho : o.op = .buildSlice 197 8 #[(0, t0), (1, t1), (2, t2), (3, t3), (4, t4), (5, t5), (6, t6), (7, t7)]) (v0 v1 v2 v3 v4 v5 v6 v7 : W32) (h0 : a.eval t0 = vw v0) (h1 : a.eval t1 = vw v1) (h2 : a.eval t2 = vw v2) (h3 : a.eval t3 = vw v3) (h4 : a.eval t4 = vw v4) (h5 : a.eval t5 = vw v5) (h6 : a.eval t6 = vw v6) (h7 : a.eval t7 = vw v7)
    (h : K (a.put o.dst (.slice (some ⟨w.heap.size, 0, none⟩) 8 8)) (w.alloc (.cells #[vw v0, vw v1, vw v2, vw v3, vw v4, vw v5, vw v6, vw v7] 129))) : o.wp Tryd.prog a w K Q := by
  unfold Oper.wp execOp
  simp only [ho, List.map_toArray, List.map_cons, List.map_nil, h0, h1, h2, h3, h4, h5, h6, h7]
  simp [go_sem]
  exact h
end Go.Proofs.YthfmpebgmojcaaaDoor
/- What the walk of the reference's Sum leans on. -/
namespace Go.Proofs.YthfmpebgmojcaaaDoor
open Go.RowKit
set_option linter.unusedVariables false
set_option maxRecDepth 100000
def zpad (l : List UInt8) (k : Nat) : List UInt8 := l ++ 128 :: List.replicate k 0
theorem zpad_length (l : List UInt8) (k : Nat) : (zpad l k).length = l.length + 1 + k := by simp [zpad]; omega
theorem zpad_step (l : List UInt8) (k : Nat) : zpad l k ++ [0] = zpad l (k + 1) := by
  simp [zpad, List.replicate_succ', List.append_assoc]
def mAt (l : List UInt8) (k : Nat) : List UInt8 := zpad l (noughts l.length) ++ (be8 (l.length * 8)).take k
theorem mAt_all (l : List UInt8) : mAt l 8 = l ++ pad l.length := by
  unfold mAt zpad pad
  rw [List.take_of_length_le (by rw [be8_length]; omega), List.append_assoc, List.cons_append]
theorem mAt_step (l : List UInt8) (k : Nat) (h : k < 8) : mAt l k ++ [UInt8.ofNat (l.length * 8 / 2 ^ (56 - 8 * k))] = mAt l (k + 1) := by
  unfold mAt
  rw [List.take_succ_eq_append_getElem (by rw [be8_length]; exact h), be8_get _ _ h, List.append_assoc]
theorem mAt_length (l : List UInt8) (k : Nat) : (mAt l k).length ≤ l.length + 73 := by
  have h1 : ((be8 (l.length * 8)).take k).length ≤ 8 := by rw [List.length_take, be8_length]; omega
  have h2 : noughts l.length < 64 := by unfold noughts; omega
  unfold mAt
  rw [List.length_append, zpad_length]
  omega
structure BL (N gm : Nat) (cur : Array Value) (V wr : World) (s : S8) : Prop where
  h : wr.heap[N + 1]? = some (.cells s.vals 129 (0, 0))
  k : wr.heap[N + 1 + 1]? = some (.cells kcells 129 (0, 0))
  m : wr.heap[gm]? = some (.cells cur 5 (0, 0))
  bel : Below (N + 1) V wr
theorem BL.below {N gm : Nat} {cur : Array Value} {V wr wr' : World} {s : S8} (h : BL N gm cur V wr s) (hb : Below wr.heap.size wr wr') : BL N gm cur V wr' s :=
  ⟨(hb.block _ (heap_lt h.h)).trans h.h, (hb.block _ (heap_lt h.k)).trans h.k, (hb.block _ (heap_lt h.m)).trans h.m, h.bel.trans (hb.mono (Nat.le_of_lt (heap_lt h.h)))⟩
theorem BL.alloc {N gm : Nat} {cur : Array Value} {V wr : World} {s : S8} (h : BL N gm cur V wr s) (o : Obj) : BL N gm cur V (wr.alloc o) s := h.below ((Below.refl _ _).alloc (Nat.le_refl _) _)
theorem BL.other {N gm : Nat} {cur : Array Value} {V wr wr' : World} {s : S8} (h : BL N gm cur V wr s) (g : Nat) (h1 : g ≠ N + 1) (h2 : g ≠ N + 1 + 1) (h3 : g ≠ gm) (h4 : N + 1 ≤ g) (hb : ∀ k, k ≠ g → wr'.heap[k]? = wr.heap[k]?) (hbel : Below (N + 1) wr wr') : BL N gm cur V wr' s :=
  ⟨(hb _ (Ne.symm h1)).trans h.h, (hb _ (Ne.symm h2)).trans h.k, (hb _ (Ne.symm h3)).trans h.m, h.bel.trans hbel⟩
theorem made_words (n : Nat) : madeCells (Value.int .u32 0).cells n = wvs (List.replicate n 0) := by
  have h : (madeCells (Value.int .u32 0).cells n).toList = (wvs (List.replicate n 0)).toList := by
    have : (Value.int .u32 0).cells = #[.int .u32 0] := rfl
    rw [this, toList_madeCells_one]
    simp [wvs]
  exact Array.toList_inj.1 h
theorem extZ_cell' {bs : List UInt8} {w : World} {g k : Nat} {t : TypeId} (h0 : 16 ≤ k) (h1 : k < 64) (d : Nat) (hd : 0 < d) (hd2 : d ≤ 16) (hW : w.heap[g]? = some (.cells (wvs (extZ bs k)) t (0, 0))) :
    w.cell? ⟨g, k - d, none⟩ = some (vw ((ext (k - 16) (wordsAt bs 64)).getD (k - d) 0)) := by
  rw [cell_of_row _ _ _ _ _ _ hW, wvs, List.getElem?_toArray, List.getElem?_map, extZ_get bs k (k - d) h0 (by omega)]
  rfl
theorem nextW_at (bs : List UInt8) (k : Nat) (h0 : 16 ≤ k) (h1 : k < 64) : nextW (ext (k - 16) (wordsAt bs 64)) = nearMix ((ext (k - 16) (wordsAt bs 64)).getD (k - 2) 0) + (ext (k - 16) (wordsAt bs 64)).getD (k - 7) 0 + farMix ((ext (k - 16) (wordsAt bs 64)).getD (k - 15) 0) + (ext (k - 16) (wordsAt bs 64)).getD (k - 16) 0 := by
  have hl : (ext (k - 16) (wordsAt bs 64)).length = k := by rw [ext_length, wordsAt_length]; omega
  unfold nextW
  rw [hl]
def VW (w : World) (g : Nat) (s : S8) : Prop := ∀ q (h : q < 8), w.cell? ⟨g, q, none⟩ = some (vw (s.toL[q]'h))
theorem VW.below {w w' : World} {g : Nat} {s : S8} (h : VW w g s) (hb : Below w.heap.size w w') : VW w' g s := fun q hq => (hb.cell (World.block_lt_of_cell? _ _ (h q hq))).trans (h q hq)
theorem vrow_of {w : World} {B : Nat} {v : Value} {s : S8} (h : w.ownsRow B 129 1 v ([] ++ s.toL).length (([] ++ s.toL).map vw)) : ∃ g cap, v = .slice (some ⟨g, 0, none⟩) 8 cap ∧ B ≤ g ∧ VW w g s := by
  rcases h.2 with ⟨_, h0⟩ | ⟨g, cap, cur, hv, hb, hg, hc, hm, hs, ht⟩
  · have : (8 : Nat) = 0 := h0
    omega
  · refine ⟨g, cap, hv, hb, fun q hq => ?_⟩
    rw [cell_of_row _ _ _ _ _ _ hg]
    have h3 := congrArg (fun l : List Value => l[q]?) ht
    have hq' : q < ([] ++ s.toL).length * 1 := hq
    simp only [List.getElem?_take_of_lt hq'] at h3
    rw [← Array.getElem?_toList, h3, List.nil_append, List.getElem?_map, List.getElem?_eq_getElem (by exact hq)]
    rfl
theorem rd_at (a b c d e f g h kk ww : W32) : rd ⟨a, b, c, d, e, f, g, h⟩ (ww + kk) = ⟨h + (rotr e 6 ^^^ rotr e 11 ^^^ rotr e 25) + (e &&& f ^^^ ~~~e &&& g) + kk + ww + (rotr a 2 ^^^ rotr a 13 ^^^ rotr a 22) + (a &&& b ^^^ a &&& c ^^^ b &&& c), a, b, c, d + (h + (rotr e 6 ^^^ rotr e 11 ^^^ rotr e 25) + (e &&& f ^^^ ~~~e &&& g) + kk + ww), e, f, g⟩ := by
  unfold rd t1 t2
  simp only
  generalize rotr e 6 ^^^ rotr e 11 ^^^ rotr e 25 = s1
  generalize e &&& f ^^^ ~~~e &&& g = ch
  generalize rotr a 2 ^^^ rotr a 13 ^^^ rotr a 22 = s0
  generalize a &&& b ^^^ a &&& c ^^^ b &&& c = mj
  have e1 : h + s1 + ch + (ww + kk) = h + s1 + ch + kk + ww := by ac_rfl
  rw [e1]
  have e2 : h + s1 + ch + kk + ww + (s0 + mj) = h + s1 + ch + kk + ww + s0 + mj := by ac_rfl
  rw [e2]
theorem eq_yields {ops : Array Oper} {S : World → Prop} {op : Oper} {a : Act} {p q : W32} (h : p = q) (hy : YieldsIf Tryd.prog ops S op (vw p) a) : YieldsIf Tryd.prog ops S op (vw q) a := h ▸ hy
theorem vw_alloc {wr : World} {gv gk gw r : Nat} {s : S8} {kk ww : W32} (h : VW wr gv s ∧ wr.cell? ⟨gk, r, none⟩ = some (vw kk) ∧ wr.cell? ⟨gw, r, none⟩ = some (vw ww)) (o : Obj) : VW (wr.alloc o) gv s ∧ (wr.alloc o).cell? ⟨gk, r, none⟩ = some (vw kk) ∧ (wr.alloc o).cell? ⟨gw, r, none⟩ = some (vw ww) := by
  have hb : Below wr.heap.size wr (wr.alloc o) := (Below.refl _ _).alloc (Nat.le_refl _) o
  exact ⟨h.1.below hb, (hb.cell (World.block_lt_of_cell? _ _ h.2.1)).trans h.2.1, (hb.cell (World.block_lt_of_cell? _ _ h.2.2)).trans h.2.2⟩
end Go.Proofs.YthfmpebgmojcaaaDoor
