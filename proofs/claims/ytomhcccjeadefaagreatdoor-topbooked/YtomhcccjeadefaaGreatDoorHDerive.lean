/- YtomhcccjeadefaaGreatDoorECopy + YtomhcccjeadefaaGreatDoorEPair + YtomhcccjeadefaaGreatDoorHDerive -/
import Derived.Test.YtomhcccjeadefaaGreatDoorHTag
import Derived.Laws.AppendOwnNone
import Derived.Stop.BytesEq
import Derived.Test.YtomhcccjeadefaaGreatDoorHKey
/- Bytes appended from whatever slice; Copy and SameBytes of the reference (for the laws on sealed texts). -/
namespace Go.Proofs.YtomhcccjeadefaaGreatDoor
open Go.RowKit
set_option linter.unusedVariables false
set_option maxRecDepth 20000
def loadH (x : Value) : Sem Value := Instr.loadAt 27 x
theorem loadH_fold (x : Value) : Instr.loadAt 27 x = loadH x := rfl
theorem loadH_run {w : World} {g : Nat} {O : Array Value} {l : List UInt8} (hO : HV O l) (hg : w.heap[g]? = some (.cells O 27 (0, 0))) : (loadH (.pointer (some ⟨g, 0, none⟩))).run Tryz.prog w = .ok (.agg O) w := by
  have h := run_loadAt_mid (P := Tryz.prog) w g 0 27 O.toList _ (fun j v hj => by rw [Nat.zero_add, cell_of_row _ _ _ _ _ _ hg, ← hj, Array.getElem?_toList]) Tryz.underlying27 rfl (by rw [Array.length_toList]; exact hO.info)
  rw [Array.toArray_toList] at h
  exact h
theorem sizeOf_u8 (w : World) : (sizeOf 5).run Tryz.prog w = .ok 1 w := by
  have h : Tryz.t5.size = 1 := by kernel_rfl
  simp [sizeOf, h]
theorem app_src (w : World) {ops : Array Oper} {rest : List Oper} {o : Oper} {a : Act} {Q : Exit → Act → World → Prop} (hgd : o.guard = none) (s x : Operand)
    (ho : o.op = .call { callee := .builtin .append, args := #[s, x], argTypes := #[29, 29] }) (base : Nat) (v : Value) (xs : List UInt8) (hs : a.eval s = v)
    (hown : w.ownsRow base 5 1 v xs.length (cellsOf xs)) (ad : Option Addr) (n c : Nat) (news : List UInt8) (hn : n = news.length) (hx : a.eval x = .slice ad n c) (hB : Bytes w ad news) (hc : ad = none → c = 0)
    (hb : xs.length + news.length ≤ 140737488355328) (hbase : base ≤ w.heap.size)
    (h : ∀ v' w', w'.ownsRow base 5 1 v' (xs ++ news).length (cellsOf (xs ++ news)) → Below base w w' → wpList Tryz.prog ops Q rest (a.put o.dst v') w') :
    wpList Tryz.prog ops Q (o :: rest) a w := by
  cases ad with
  | none =>
    obtain ⟨i0, hi, hz0, hz1, hz2⟩ := info_parts Tryz.info5
    have hl : news = [] := by
      cases news with
      | nil => rfl
      | cons c x => obtain ⟨b, o, e, _⟩ := hB 0 (by simp); cases e
    subst hl
    have h0 : n = 0 := hn
    subst h0
    rw [hc rfl] at hx
    refine wpList_append_own_none hgd s x 29 ho base 5 i0 1 Tryz.underlying29 hi v xs.length (cellsOf xs) hs hown hx ?_
    refine h v w ?_ (Below.refl _ w)
    rw [List.append_nil]
    exact hown
  | some ad =>
    refine app_bytes w hgd s x ho base v xs hs hown ad n c news hn.symm hx (fun j hj => ?_) (by rw [hn]; exact hb) hbase (fun v' w' h1 h2 _ => h v' w' h1 h2)
    obtain ⟨b, o, e, hcl⟩ := hB j hj
    cases e
    rw [addr_add]
    exact hcl
theorem below_drewN (B : Nat) (w : World) (n : Nat) : Below B w (w.drewN n) := ⟨rfl, rfl, rfl, Nat.le_refl _, fun _ _ => rfl⟩
end Go.Proofs.YtomhcccjeadefaaGreatDoor
/- A hash and an error as what a function answers. -/
namespace Go.Proofs.YtomhcccjeadefaaGreatDoor
open Go.RowKit
set_option linter.unusedVariables false
set_option maxRecDepth 20000
theorem built_hash : Tryz.prog.built 27 [] = some (bvs (List.replicate 32 0)) := by kernel_rfl
theorem wpList_build_none {ops : Array Oper} {rest : List Oper} {o : Oper} {a : Act} {w : World} {Q : Exit → Act → World → Prop} (hg : o.guard = none) (t : TypeId) (ho : o.op = .build t #[]) (cells : Array Value)
    (hb : Tryz.prog.built t [] = some cells) (h : wpList Tryz.prog ops Q rest (a.put o.dst (.agg cells)) w) : wpList Tryz.prog ops Q (o :: rest) a w := by
  refine wpList_build hg t #[] ho ?_ ?_
  · simp [hb]
  · simpa [hb] using h
theorem results_row_tmp {P : Program} {fn : Func} {p u : Tmp} {ty : TypeId} (h : fn.results = #[.cell p ty, .tmp u]) (tmps : Array Value) (w : World) (g : Nat) (t : TypeId) (cs : Array Value) (fr : Nat × Nat) (d : TypeDesc)
    (hp : tmps.getD p undef = .pointer (some ⟨g, 0, none⟩)) (hg : w.heap[g]? = some (.cells cs t fr))
    (hu : P.underlying ty = some d) (hd : (match d with | .struct _ | .array _ _ => true | _ => false) = true) (hi : (P.info? ty).map (·.size) = some cs.size) :
    (results fn tmps).run P w = .ok (.tuple #[.agg cs, tmps.getD u undef]) w := by
  rw [results_cell_tmp h, hp]
  simp [asAddr, run_loadVar_row w g t ty cs fr d hg hu hd hi, Result.andThen]
def HashErr (w : World) (l : List UInt8) (er : Int) (e : Ending) (w' : World) : Prop := ∃ O, e = .returned (.tuple #[.agg O, .int .i64 er]) ∧ HV O l ∧ Below w.heap.size w w'
end Go.Proofs.YtomhcccjeadefaaGreatDoor
/- A key below another one: hash.Derive. -/
namespace Go.Proofs.YtomhcccjeadefaaGreatDoor
open Go.RowKit
set_option linter.unusedVariables false
set_option maxRecDepth 20000
def derRes (key : List UInt8) (l : List ByteArray) : List UInt8 := if keyErr l = 0 then hmac key (keyRes l) else List.replicate 32 0
set_option maxHeartbeats 1000000 in
theorem derive_any {w : World} {K : Array Value} {key : List UInt8} (hK : HV K key) (l : List ByteArray) (a : Option Addr) (n cap : Nat) (hn : n = l.length) (hX : Texts w a l) (hsz : ∀ s ∈ l, s.size ≤ 140737488351232) (hlen : l.length ≤ 140737488351232) (hT : KAt w) :
    Calls Tryz.prog 47 #[.agg K, .slice a n cap] w (HashErr w (derRes key l) (keyErr l : Int)) := by
  obtain ⟨Z, hZ⟩ : ∃ Z, Z = bvs (List.replicate 32 0) := ⟨_, rfl⟩
  have zh := (zero_of_info zero_hash).1
  have bh := built_hash
  rw [← hZ] at zh bh
  have hz : Hid (HV Z (List.replicate 32 0)) := by
    show HV _ _
    rw [hZ]; exact hv_zero
  have zh := hid zh
  have bh := hid bh
  have HK := hid hK
  have HX := hid hX
  have HT := hid hT
  have Hsz := hid hsz
  have hinf : (Tryz.prog.info? 27).map (·.size) = some K.size := hK.info
  obtain ⟨W0, hW0⟩ : ∃ W0, W0 = (w.alloc (.cells K 27)).alloc (.cells Z 27) := ⟨_, rfl⟩
  have b0 : Hid (Below w.heap.size w W0) := by
    show Below _ _ _
    rw [hW0]; exact ((Below.refl _ w).alloc (Nat.le_refl _) _).alloc (by simp) _
  have k0 : Hid (W0.heap[w.heap.size]? = some (.cells K 27 (0, 0))) := by
    show _ = _
    rw [hW0]; exact heap_alloc2_old w _ _
  have r0 : Hid (W0.heap[w.heap.size + 1]? = some (.cells Z 27 (0, 0))) := by
    show _ = _
    rw [hW0]; exact heap_alloc2_new w _ _
  have HW0 := hid hW0.symm
  have lk : keyErr l = 0 → (keyRes l).length ≤ 64 := fun h => by
    have h1 := h
    unfold keyErr at h
    unfold keyRes
    rw [if_pos h1]
    split at h
    · cases h
    · split at h
      · cases h
      · omega
  have Hlk := hid lk
  subst hn
  clear hK hX hT hsz hZ hW0 lk
  go_enter Tryz.func47, Tryz.ntmps47
  go_wp2_with (with_reducible show Go.wpList _ _ _ _ _ _; refine wpList_alloc_row rfl 27 rfl Z zh.out ?_)
  rw [HW0.out]
  refine (key_any l a cap _ (HX.out.below b0.out) Hsz.out hlen).mono ?_
  rintro _ W1 ⟨a1, c1, rfl, hB1, hb1, hc1⟩
  have b1 : Hid (Below w.heap.size w W1) := Below.on' b0.out hb1
  have k1 : Hid (W1.heap[w.heap.size]? = some (.cells K 27 (0, 0))) := (hb1.block _ (heap_lt k0.out)).trans k0.out
  have r1 : Hid (W1.heap[w.heap.size + 1]? = some (.cells Z 27 (0, 0))) := (hb1.block _ (heap_lt r0.out)).trans r0.out
  have HB1 := hid hB1
  clear hb1 hB1 b0 k0 r0
  by_cases he : keyErr l = 0
  · have hl64 := Hlk.out he
    have Hr : Hid (derRes key l = hmac key (keyRes l)) := by
      show _ = _
      unfold derRes; rw [if_pos he]
    have He := hid he
    rw [he]
    obtain ⟨m, hm⟩ : ∃ m, m = (keyRes l).length := ⟨_, rfl⟩
    rw [← hm] at hl64 hc1 ⊢
    have Hm := hid hm
    clear he hm Hlk
    go_wp2_with fail
    refine (tag_any key (some ⟨w.heap.size, 0, none⟩) 32 32 HK.out.len.symm (HK.out.bytes k1.out) (by rw [HK.out.len]; omega) (by rw [HK.out.len]; omega) (keyRes l) a1 m c1 Hm.out HB1.out (by have := Hm.out; omega) (by have := Hm.out; omega) (HT.out.below b1.out)).mono ?_
    rintro _ W2 ⟨O, rfl, hO, hb2⟩
    have HO := hid hO
    have b2 : Hid (Below w.heap.size w W2) := Below.on' b1.out hb2
    have r2 : Hid (W2.heap[w.heap.size + 1]? = some (.cells Z 27 (0, 0))) := (hb2.block _ (heap_lt r1.out)).trans r1.out
    clear hO hb2 b1 r1 k1 HB1
    go_wp2_with (with_reducible show Go.wpList _ _ _ _ _ _; refine wpList_store_row rfl 27 (.tmp 4) (.tmp 19) rfl (w.heap.size + 1) O rfl rfl 27 Z r2.out HO.out.info (hz.out.size.trans HO.out.size.symm) HO.out.one ?_)
    refine bodyPost_ret (results_row_tmp rfl _ _ (w.heap.size + 1) 27 O (0, 0) _ rfl (setRow_heap _ _ _ _ _ _ r2.out) Tryz.underlying27 rfl HO.out.info) rfl ?_
    rw [He.out]
    refine ⟨O, rfl, ?_, b2.out.setRow (by omega) _⟩
    rw [Hr.out]; exact HO.out
  · have Hr : Hid (derRes key l = List.replicate 32 0) := by
      show _ = _
      unfold derRes; rw [if_neg he]
    have q0 : ((keyErr l : Int) != 0) = true := by rw [bne_iff_ne]; omega
    have q1 : ¬ (keyErr l : Int) = 0 := by omega
    go_wp2_with (with_reducible show Go.wpList _ _ _ _ _ _; first
      | refine wpList_build_none rfl 27 rfl Z bh.out ?_
      | refine wpList_store_row rfl 27 (.tmp 4) (.tmp 15) rfl (w.heap.size + 1) Z rfl rfl 27 Z r1.out hz.out.info rfl hz.out.one ?_)
    refine bodyPost_ret (results_row_tmp rfl _ _ (w.heap.size + 1) 27 Z (0, 0) _ rfl (setRow_heap _ _ _ _ _ _ r1.out) Tryz.underlying27 rfl hz.out.info) rfl ?_
    refine ⟨Z, rfl, ?_, b1.out.setRow (by omega) _⟩
    rw [Hr.out]; exact hz.out
end Go.Proofs.YtomhcccjeadefaaGreatDoor
