/- YtdglmoikgmlaaaaGreatDoorECopy + YtdglmoikgmlaaaaGreatDoorEPair + YtdglmoikgmlaaaaGreatDoorHDerive -/
import Derived.Test.YtdglmoikgmlaaaaGreatDoorHTag
import Derived.Laws.AppendOwnNone
import Derived.Stop.BytesEq
import Derived.Test.YtdglmoikgmlaaaaGreatDoorHKey
/- Bytes appended from whatever slice; Copy and SameBytes of the reference (for the laws on sealed texts). -/
namespace Go.Proofs.YtdglmoikgmlaaaaGreatDoor
open Go.RowKit
set_option linter.unusedVariables false
set_option maxRecDepth 20000
def loadH (x : Value) : Sem Value := Instr.loadAt 23 x
theorem loadH_fold (x : Value) : Instr.loadAt 23 x = loadH x := rfl
theorem loadH_run {w : World} {g : Nat} {O : Array Value} {l : List UInt8} (hO : HV O l) (hg : w.heap[g]? = some (.cells O 23 (0, 0))) : (loadH (.pointer (some ⟨g, 0, none⟩))).run Tryz.prog w = .ok (.agg O) w := by
  have h := run_loadAt_mid (P := Tryz.prog) w g 0 23 O.toList _ (fun j v hj => by rw [Nat.zero_add, cell_of_row _ _ _ _ _ _ hg, ← hj, Array.getElem?_toList]) Tryz.underlying23 rfl (by rw [Array.length_toList]; exact hO.info)
  rw [Array.toArray_toList] at h
  exact h
theorem sizeOf_u8 (w : World) : (sizeOf 5).run Tryz.prog w = .ok 1 w := by
  have h : Tryz.t5.size = 1 := by kernel_rfl
  simp [sizeOf, h]
theorem hash_eq {A B : Array Value} {a b : List UInt8} (hA : HV A a) (hB : HV B b) (w : World) : (Op.equalIn 10000 23 (.agg A) (.agg B)).run Tryz.prog w = .ok (a == b) w := by
  rw [hA.eq, hB.eq]
  exact run_equalIn_bytes (P := Tryz.prog) w 9998 23 5 32 Tryz.underlying23 Tryz.underlying5 sizeOf_u8 a b hA.len hB.len
theorem hash_same {A B : Array Value} {a : List UInt8} (hA : HV A a) (hB : HV B a) (w : World) : (Op.equalIn 10000 23 (.agg A) (.agg B)).run Tryz.prog w = .ok true w := by
  rw [hash_eq hA hB, beq_self_eq_true]
theorem app_src (w : World) {ops : Array Oper} {rest : List Oper} {o : Oper} {a : Act} {Q : Exit → Act → World → Prop} (hgd : o.guard = none) (s x : Operand)
    (ho : o.op = .call { callee := .builtin .append, args := #[s, x], argTypes := #[41, 41] }) (base : Nat) (v : Value) (xs : List UInt8) (hs : a.eval s = v)
    (hown : w.ownsRow base 5 1 v xs.length (cellsOf xs)) (ad : Option Addr) (n c : Nat) (news : List UInt8) (hn : n = news.length) (hx : a.eval x = .slice ad n c) (hB : Bytes w ad news) (hc : ad = none → c = 0)
    (hb : xs.length + news.length ≤ 140737488355328) (hbase : base ≤ w.heap.size)
    (h : ∀ v' w', w'.ownsRow base 5 1 v' (xs ++ news).length (cellsOf (xs ++ news)) → Below base w w' → wpList Tryz.prog ops Q rest (a.put o.dst v') w') :
    wpList Tryz.prog ops Q (o :: rest) a w := by
  cases ad with
  | none =>
    obtain ⟨i0, hi, hz0, hz1, hz2⟩ := info_parts Tryz.info5
    have hl : news = [] := by
      cases news with
      | nil => rfl
      | cons c x => obtain ⟨b, o, e, _⟩ := hB 0 (by simp); cases e
    subst hl
    have h0 : n = 0 := hn
    subst h0
    rw [hc rfl] at hx
    refine wpList_append_own_none hgd s x 41 ho base 5 i0 1 Tryz.underlying41 hi v xs.length (cellsOf xs) hs hown hx ?_
    refine h v w ?_ (Below.refl _ w)
    rw [List.append_nil]
    exact hown
  | some ad =>
    refine app_bytes w hgd s x ho base v xs hs hown ad n c news hn.symm hx (fun j hj => ?_) (by rw [hn]; exact hb) hbase (fun v' w' h1 h2 _ => h v' w' h1 h2)
    obtain ⟨b, o, e, hcl⟩ := hB j hj
    cases e
    rw [addr_add]
    exact hcl
set_option maxHeartbeats 400000 in
theorem copy_any (x : List UInt8) (a : Option Addr) (n cap : Nat) (w : World) (hn : n = x.length) (hB : Bytes w a x) (hc : a = none → cap = 0) (hlen : x.length ≤ 140737488355328) :
    Calls Tryz.prog 20 #[.slice a n cap] w fun e w' => ∃ v, e = .returned v ∧ w'.ownsRow w.heap.size 5 1 v x.length (cellsOf x) ∧ Below w.heap.size w w' := by
  have HB := hid hB
  have Hn := hid hn
  have Hc := hid hc
  clear hB hn hc
  go_enter Tryz.func20, Tryz.ntmps20
  go_wp2_with (at_builtin; refine app_src _ rfl (.tmp 4) (.tmp 5) rfl w.heap.size _ [] rfl (World.ownsRow_nil _ _ _ _) a n cap x Hn.out rfl HB.out Hc.out (by simp; omega) (Nat.le_refl _) ?_; intro v1 w1 ho1 hb1)
  go_ret
  exact ⟨_, rfl, by simpa using ho1, hb1⟩
theorem below_drewN (B : Nat) (w : World) (n : Nat) : Below B w (w.drewN n) := ⟨rfl, rfl, rfl, Nat.le_refl _, fun _ _ => rfl⟩
set_option maxHeartbeats 400000 in
theorem sameBytes_any (x y : List UInt8) (a b : Option Addr) (ca cb : Nat) (w : World) (hx : Bytes w a x) (hy : Bytes w b y) (lx : x.length ≤ 140737488351232) (ly : y.length ≤ 140737488351232) :
    Calls Tryz.prog 19 #[.slice a x.length ca, .slice b y.length cb] w fun e w' => e = .returned (.bool (decide (x = y))) ∧ Below w.heap.size w w' := by
  have Hx := hid hx
  have Hy := hid hy
  clear hx hy
  by_cases hl : x.length = y.length
  · have d1 : ((x.length : Int) != (y.length : Int)) = false := by rw [bne_eq_false_iff_eq]; omega
    have Hl := hid hl
    clear hl
    go_enter Tryz.func19, Tryz.ntmps19
    go_wp2
    go_loopw [5] (fun i wr => ∃ k : Nat, k ≤ x.length ∧ i = .int .i64 k ∧ x.take k = y.take k ∧ Below w.heap.size w wr) (fun i _ => x.length - (intOf i).toNat)
    case atStart => exact ⟨0, Nat.zero_le _, rfl, rfl, Below.refl _ _⟩
    case round =>
      obtain ⟨k, hk, rfl, hpre, hbel⟩ := hrel
      have Hpre := hid hpre
      have Hbel := hid hbel
      clear hpre hbel
      by_cases hlt : k < x.length
      · have hlt2 : k < y.length := by have := Hl.out; omega
        obtain ⟨b1, o1, ha, hc1⟩ := (Hx.out.below Hbel.out) k hlt
        obtain ⟨b2, o2, hb, hc2⟩ := (Hy.out.below Hbel.out) k hlt2
        have HX : Hid (x.take (k + 1) = x.take k ++ [x[k]]) := List.take_succ_eq_append_getElem hlt
        have HY : Hid (y.take (k + 1) = y.take k ++ [y[k]]) := List.take_succ_eq_append_getElem hlt2
        have HN : Hid (x[k] ≠ y[k] → x ≠ y) := fun h e => h (by subst e; rfl)
        generalize x[k] = c1 at *
        generalize y[k] = c2 at *
        subst ha
        subst hb
        by_cases hc : c1 = c2
        · have e1 : ((c1.toNat : Int) != (c2.toNat : Int)) = false := by rw [hc]; simp
          have H12 := hid hc
          clear hc
          go_wp2
          go_quiet (fail)
          go_wp2
          go_roundw
          case rel => exact ⟨k + 1, by omega, by go_num, by rw [HX.out, HY.out, Hpre.out, H12.out], Hbel.out.trans (below_drewN _ _ _)⟩
          case measure => simp [intOf]; omega
        · have e1 : ((c1.toNat : Int) != (c2.toNat : Int)) = true := by
            rw [bne_iff_ne]
            intro e
            exact hc (UInt8.toNat_inj.1 (by omega))
          have Hne := hid (HN.out hc)
          clear hc
          go_wp2
          go_quiet (fail)
          go_wp2
          go_ret
          exact ⟨ret_bool (by simp [Hne.out]), Hbel.out.trans (below_drewN _ _ _)⟩
      · go_wp2
        go_ret
        refine ⟨ret_bool ?_, Hbel.out⟩
        have h := Hpre.out
        rw [List.take_of_length_le (by omega), List.take_of_length_le (by have := Hl.out; omega)] at h
        simp [h]
  · have d1 : ((x.length : Int) != (y.length : Int)) = true := by rw [bne_iff_ne]; omega
    have hne : decide (x = y) = false := by simp; intro e; exact hl (congrArg List.length e)
    rw [hne]
    clear hl hne
    go_enter Tryz.func19, Tryz.ntmps19
    go_wp2
    go_ret
    exact ⟨rfl, Below.refl _ _⟩
end Go.Proofs.YtdglmoikgmlaaaaGreatDoor
/- A hash and an error as what a function answers. -/
namespace Go.Proofs.YtdglmoikgmlaaaaGreatDoor
open Go.RowKit
set_option linter.unusedVariables false
set_option maxRecDepth 20000
theorem built_hash : Tryz.prog.built 23 [] = some (bvs (List.replicate 32 0)) := by kernel_rfl
theorem wpList_build_none {ops : Array Oper} {rest : List Oper} {o : Oper} {a : Act} {w : World} {Q : Exit → Act → World → Prop} (hg : o.guard = none) (t : TypeId) (ho : o.op = .build t #[]) (cells : Array Value)
    (hb : Tryz.prog.built t [] = some cells) (h : wpList Tryz.prog ops Q rest (a.put o.dst (.agg cells)) w) : wpList Tryz.prog ops Q (o :: rest) a w := by
  refine wpList_build hg t #[] ho ?_ ?_
  · simp [hb]
  · simpa [hb] using h
theorem results_row_tmp {P : Program} {fn : Func} {p u : Tmp} {ty : TypeId} (h : fn.results = #[.cell p ty, .tmp u]) (tmps : Array Value) (w : World) (g : Nat) (t : TypeId) (cs : Array Value) (fr : Nat × Nat) (d : TypeDesc)
    (hp : tmps.getD p undef = .pointer (some ⟨g, 0, none⟩)) (hg : w.heap[g]? = some (.cells cs t fr))
    (hu : P.underlying ty = some d) (hd : (match d with | .struct _ | .array _ _ => true | _ => false) = true) (hi : (P.info? ty).map (·.size) = some cs.size) :
    (results fn tmps).run P w = .ok (.tuple #[.agg cs, tmps.getD u undef]) w := by
  rw [results_cell_tmp h, hp]
  simp [asAddr, run_loadVar_row w g t ty cs fr d hg hu hd hi, Result.andThen]
def HashErr (w : World) (l : List UInt8) (er : Int) (e : Ending) (w' : World) : Prop := ∃ O, e = .returned (.tuple #[.agg O, .int .i64 er]) ∧ HV O l ∧ Below w.heap.size w w'
end Go.Proofs.YtdglmoikgmlaaaaGreatDoor
/- A key below another one: hash.Derive. -/
namespace Go.Proofs.YtdglmoikgmlaaaaGreatDoor
open Go.RowKit
set_option linter.unusedVariables false
set_option maxRecDepth 20000
def derRes (key : List UInt8) (l : List ByteArray) : List UInt8 := if keyErr l = 0 then hmac key (keyRes l) else List.replicate 32 0
set_option maxHeartbeats 1000000 in
theorem derive_any {w : World} {K : Array Value} {key : List UInt8} (hK : HV K key) (l : List ByteArray) (a : Option Addr) (n cap : Nat) (hn : n = l.length) (hX : Texts w a l) (hsz : ∀ s ∈ l, s.size ≤ 140737488351232) (hlen : l.length ≤ 140737488351232) (hT : KAt w) :
    Calls Tryz.prog 49 #[.agg K, .slice a n cap] w (HashErr w (derRes key l) (keyErr l : Int)) := by
  obtain ⟨Z, hZ⟩ : ∃ Z, Z = bvs (List.replicate 32 0) := ⟨_, rfl⟩
  have zh := (zero_of_info zero_hash).1
  have bh := built_hash
  rw [← hZ] at zh bh
  have hz : Hid (HV Z (List.replicate 32 0)) := by
    show HV _ _
    rw [hZ]; exact hv_zero
  have zh := hid zh
  have bh := hid bh
  have HK := hid hK
  have HX := hid hX
  have HT := hid hT
  have Hsz := hid hsz
  have hinf : (Tryz.prog.info? 23).map (·.size) = some K.size := hK.info
  obtain ⟨W0, hW0⟩ : ∃ W0, W0 = (w.alloc (.cells K 23)).alloc (.cells Z 23) := ⟨_, rfl⟩
  have b0 : Hid (Below w.heap.size w W0) := by
    show Below _ _ _
    rw [hW0]; exact ((Below.refl _ w).alloc (Nat.le_refl _) _).alloc (by simp) _
  have k0 : Hid (W0.heap[w.heap.size]? = some (.cells K 23 (0, 0))) := by
    show _ = _
    rw [hW0]; exact heap_alloc2_old w _ _
  have r0 : Hid (W0.heap[w.heap.size + 1]? = some (.cells Z 23 (0, 0))) := by
    show _ = _
    rw [hW0]; exact heap_alloc2_new w _ _
  have HW0 := hid hW0.symm
  have lk : keyErr l = 0 → (keyRes l).length ≤ 64 := fun h => by
    have h1 := h
    unfold keyErr at h
    unfold keyRes
    rw [if_pos h1]
    split at h
    · cases h
    · split at h
      · cases h
      · omega
  have Hlk := hid lk
  subst hn
  clear hK hX hT hsz hZ hW0 lk
  go_enter Tryz.func49, Tryz.ntmps49
  go_wp2_with (with_reducible show Go.wpList _ _ _ _ _ _; refine wpList_alloc_row rfl 23 rfl Z zh.out ?_)
  rw [HW0.out]
  refine (key_any l a cap _ (HX.out.below b0.out) Hsz.out hlen).mono ?_
  rintro _ W1 ⟨a1, c1, rfl, hB1, hb1, hc1⟩
  have b1 : Hid (Below w.heap.size w W1) := Below.on' b0.out hb1
  have k1 : Hid (W1.heap[w.heap.size]? = some (.cells K 23 (0, 0))) := (hb1.block _ (heap_lt k0.out)).trans k0.out
  have r1 : Hid (W1.heap[w.heap.size + 1]? = some (.cells Z 23 (0, 0))) := (hb1.block _ (heap_lt r0.out)).trans r0.out
  have HB1 := hid hB1
  clear hb1 hB1 b0 k0 r0
  by_cases he : keyErr l = 0
  · have hl64 := Hlk.out he
    have Hr : Hid (derRes key l = hmac key (keyRes l)) := by
      show _ = _
      unfold derRes; rw [if_pos he]
    have He := hid he
    rw [he]
    obtain ⟨m, hm⟩ : ∃ m, m = (keyRes l).length := ⟨_, rfl⟩
    rw [← hm] at hl64 hc1 ⊢
    have Hm := hid hm
    clear he hm Hlk
    go_wp2_with fail
    refine (tag_any key (some ⟨w.heap.size, 0, none⟩) 32 32 HK.out.len.symm (HK.out.bytes k1.out) (by rw [HK.out.len]; omega) (by rw [HK.out.len]; omega) (keyRes l) a1 m c1 Hm.out HB1.out (by have := Hm.out; omega) (by have := Hm.out; omega) (HT.out.below b1.out)).mono ?_
    rintro _ W2 ⟨O, rfl, hO, hb2⟩
    have HO := hid hO
    have b2 : Hid (Below w.heap.size w W2) := Below.on' b1.out hb2
    have r2 : Hid (W2.heap[w.heap.size + 1]? = some (.cells Z 23 (0, 0))) := (hb2.block _ (heap_lt r1.out)).trans r1.out
    clear hO hb2 b1 r1 k1 HB1
    go_wp2_with (with_reducible show Go.wpList _ _ _ _ _ _; refine wpList_store_row rfl 23 (.tmp 4) (.tmp 19) rfl (w.heap.size + 1) O rfl rfl 23 Z r2.out HO.out.info (hz.out.size.trans HO.out.size.symm) HO.out.one ?_)
    refine bodyPost_ret (results_row_tmp rfl _ _ (w.heap.size + 1) 23 O (0, 0) _ rfl (setRow_heap _ _ _ _ _ _ r2.out) Tryz.underlying23 rfl HO.out.info) rfl ?_
    rw [He.out]
    refine ⟨O, rfl, ?_, b2.out.setRow (by omega) _⟩
    rw [Hr.out]; exact HO.out
  · have Hr : Hid (derRes key l = List.replicate 32 0) := by
      show _ = _
      unfold derRes; rw [if_neg he]
    have q0 : ((keyErr l : Int) != 0) = true := by rw [bne_iff_ne]; omega
    have q1 : ¬ (keyErr l : Int) = 0 := by omega
    go_wp2_with (with_reducible show Go.wpList _ _ _ _ _ _; first
      | refine wpList_build_none rfl 23 rfl Z bh.out ?_
      | refine wpList_store_row rfl 23 (.tmp 4) (.tmp 15) rfl (w.heap.size + 1) Z rfl rfl 23 Z r1.out hz.out.info rfl hz.out.one ?_)
    refine bodyPost_ret (results_row_tmp rfl _ _ (w.heap.size + 1) 23 Z (0, 0) _ rfl (setRow_heap _ _ _ _ _ _ r1.out) Tryz.underlying23 rfl hz.out.info) rfl ?_
    refine ⟨Z, rfl, ?_, b1.out.setRow (by omega) _⟩
    rw [Hr.out]; exact hz.out
end Go.Proofs.YtdglmoikgmlaaaaGreatDoor
