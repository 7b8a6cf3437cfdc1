/- YtomhcccjeadefaaGreatDoorESeal + YtomhcccjeadefaaGreatDoorEOpenY -/
import Derived.Test.YtomhcccjeadefaaGreatDoorETagOf
/- Bytes sealed: seal.Seal. -/
namespace Go.Proofs.YtomhcccjeadefaaGreatDoor
open Go.RowKit Go.Shelf
set_option linter.unusedVariables false
set_option maxRecDepth 20000
theorem bytes_of_own0 {w : World} {B e : Nat} {v : Value} {n : Nat} {l : List UInt8} (h : w.ownsRow B e 1 v n (cellsOf l)) : ∃ a cap, v = .slice a l.length cap ∧ Bytes w a l ∧ l.length ≤ cap ∧ (a = none → cap = 0) := by
  obtain ⟨a, cap, rfl, h1, h2⟩ := bytes_of_own h
  refine ⟨a, cap, rfl, h1, h2, fun e => ?_⟩
  subst e
  rcases h.2 with ⟨h3, _⟩ | ⟨g, c, cur, h3, _⟩
  · simp at h3; exact h3.2
  · simp at h3
theorem own_on {w w' : World} {B e s n : Nat} {v : Value} {xs : List Value} (h : w.ownsRow B e s v n xs) (hb : Below w.heap.size w w') : w'.ownsRow B e s v n xs := by
  refine ⟨h.1, ?_⟩
  rcases h.2 with h0 | ⟨g, cap, cur, hv, hg, hgb, r⟩
  · exact .inl h0
  · exact .inr ⟨g, cap, cur, hv, hg, (hb.block _ (heap_lt hgb)).trans hgb, r⟩
set_option maxHeartbeats 400000 in
theorem seal_long {w : World} {K : Array Value} {key : List UInt8} (hK : HV K key) (once n : Nat) (a : Option Addr) (cap : Nat) (hl : 1024 < n) :
    Calls Tryz.prog 25 #[.agg K, .int .u64 (once : Int), .slice a n cap] w fun e w' => e = .returned (.tuple #[.slice none 0 0, .int .i64 6]) ∧ Below w.heap.size w w' := by
  have q0 : (1024 : Int) < (n : Int) := by omega
  have hinf : (Tryz.prog.info? 27).map (·.size) = some K.size := hK.info
  go_enter Tryz.func25, Tryz.ntmps25
  go_wp2
  go_ret2
  exact ⟨rfl, (Below.refl _ w).alloc (Nat.le_refl _) _⟩
set_option maxHeartbeats 2000000 in
theorem seal_any {w : World} {K : Array Value} {key : List UInt8} (hK : HV K key) (once : Nat) (plain : List UInt8) (a : Option Addr) (n cap : Nat) (hn : n = plain.length) (hB : Bytes w a plain) (hl : plain.length ≤ 1024) (hT : KAt w) :
    Calls Tryz.prog 25 #[.agg K, .int .u64 (once : Int), .slice a n cap] w fun e w' => ∃ v, e = .returned (.tuple #[v, .int .i64 0]) ∧ w'.ownsRow w.heap.size 5 1 v (sealB key once plain).length (cellsOf (sealB key once plain)) ∧ Below w.heap.size w w' := by
  obtain ⟨i0, hi, hz0, hz1, hz2⟩ := info_parts Tryz.info5
  obtain ⟨Y, hY⟩ : ∃ Y, Y = bvs (List.replicate 16 0) := ⟨_, rfl⟩
  have zt := (zero_of_info zero_tag).1
  rw [← hY] at zt
  have hy : Hid (TV Y (List.replicate 16 0)) := by
    show TV _ _
    rw [hY]; exact ⟨rfl, by simp⟩
  have zt := hid zt
  have HK := hid hK
  have HB := hid hB
  have HT := hid hT
  have Hn := hid hn
  have hl1 : n ≤ 1024 := by omega
  have q0 : ¬ (1024 : Int) < (n : Int) := by omega
  have hinf : (Tryz.prog.info? 27).map (·.size) = some K.size := hK.info
  clear hK hB hT hn hY
  go_enter Tryz.func25, Tryz.ntmps25
  go_wp2_with fail
  refine (size_any _ n hl1).mono ?_
  rintro _ w1 ⟨rfl, rfl⟩
  go_wp2_with fail
  rw [run_make (P := Tryz.prog) _ 29 5 i0 (.int .u8 0) Tryz.underlying29 hi hz0 .i64 .i64 0 ((n : Int) + 24) (by omega) (by omega) (by rw [hz2]; omega) (by omega)]
  simp only [Result.andThen]
  rw [Oper.upon_value, show (0 : Int).toNat = 0 from rfl, show ((n : Int) + 24).toNat = n + 24 by omega, hz1, Nat.mul_one]
  have own1 := own_made (w.alloc (.cells K 27)) (n + 24) (by omega)
  rw [World.size_alloc] at own1 ⊢
  obtain ⟨W1, hW1⟩ : ∃ W1, W1 = (w.alloc (.cells K 27)).alloc (.cells (madeCells (Value.int .u8 0).cells (n + 24)) 5) := ⟨_, rfl⟩
  have k1 : Hid (W1.heap[w.heap.size]? = some (.cells K 27 (0, 0))) := by
    show _ = _
    rw [hW1]; exact heap_alloc2_old w _ _
  have b1 : Hid (Below w.heap.size w W1) := by
    show Below _ _ _
    rw [hW1]; exact ((Below.refl _ w).alloc (Nat.le_refl _) _).alloc (by simp) _
  have s1 : w.heap.size + 1 ≤ W1.heap.size := by rw [hW1]; simp
  rw [← hW1] at own1 ⊢
  have Hown1 := hid own1
  clear hW1 own1 hi hz0 hz1 hz2
  go_wp2_with fail
  refine (appendNumber_any (w.heap.size + 1) _ [] once Hown1.out s1 (by simp)).mono ?_
  rintro _ W2 ⟨v2, rfl, hown2, hb2⟩
  have Hown2 := hid hown2
  have k2 : Hid (W2.heap[w.heap.size]? = some (.cells K 27 (0, 0))) := (hb2.block _ (by omega)).trans k1.out
  have b2 : Hid (Below w.heap.size w W2) := b1.out.trans (hb2.mono (by omega))
  have s2 : w.heap.size + 1 ≤ W2.heap.size := Nat.le_trans s1 hb2.size
  clear hown2 hb2 k1 b1 s1 Hown1
  go_wp2_with (with_reducible show Go.wpList _ _ _ _ _ _; refine wpList_load_row rfl 27 (.tmp 3) rfl w.heap.size rfl 27 K (0, 0) _ k2.out Tryz.underlying27 rfl HK.out.info ?_)
  refine (crossed_any HK.out once plain a n cap Hn.out (HB.out.below b2.out) (by omega) (HT.out.below b2.out)).mono ?_
  rintro _ W3 ⟨v3, rfl, hown3, hb3⟩
  obtain ⟨a3, c3, rfl, hB3, hc3, hn3⟩ := bytes_of_own0 hown3
  have l3 : (cross key once plain).length = n := by rw [cross_len, Hn.out]
  have Hown3 : Hid (W3.ownsRow (w.heap.size + 1) 5 1 v2 (be8 once).length (cellsOf (be8 once))) := by
    show World.ownsRow _ _ _ _ _ _ _
    have h := own_on Hown2.out hb3
    rwa [List.nil_append] at h
  have HB3 := hid hB3
  have Hn3 := hid hn3
  have k3 : Hid (W3.heap[w.heap.size]? = some (.cells K 27 (0, 0))) := (hb3.block _ (by omega)).trans k2.out
  have b3 : Hid (Below w.heap.size w W3) := Below.on' b2.out hb3
  have s3 : w.heap.size + 1 ≤ W3.heap.size := Nat.le_trans s2 hb3.size
  have l8 : (be8 once).length = 8 := be8_length once
  clear hown3 hb3 k2 b2 s2 Hown2 hB3 hn3
  rw [l3]
  go_wp2_with (first
    | (at_builtin; refine app_src _ rfl (.tmp 20) (.tmp 24) rfl (w.heap.size + 1) _ (be8 once) rfl Hown3.out a3 n c3 (cross key once plain) l3.symm rfl HB3.out Hn3.out (by omega) s3 ?_; intro v4 W4 hown4 hb4; obtain ⟨a4, c4, rfl, hB4, hc4, hn4⟩ := bytes_of_own0 hown4; have k4 : Hid (W4.heap[w.heap.size]? = some (.cells K 27 (0, 0))) := (hb4.block _ (by omega)).trans k3.out; have b4 : Hid (Below w.heap.size w W4) := b3.out.trans (hb4.mono (by omega)); have s4 : w.heap.size + 1 ≤ W4.heap.size := Nat.le_trans s3 hb4.size; have Hown4 := hid hown4; have HB4 := hid hB4; have Hn4 := hid hn4; clear hown4 hb4 hB4 hn4)
    | (with_reducible show Go.wpList _ _ _ _ _ _; refine wpList_load_row rfl 27 (.tmp 3) rfl w.heap.size rfl 27 K (0, 0) _ k4.out Tryz.underlying27 rfl HK.out.info ?_))
  have l4 : (be8 once ++ cross key once plain).length = 8 + n := by rw [List.length_append, l8, l3]
  have l5 : (headB key once plain).length = 8 + n := l4
  refine (tagOf_any HK.out (headB key once plain) a4 (8 + n) c4 l5.symm HB4.out Hn4.out (by omega) (HT.out.below b4.out)).mono ?_
  rintro _ W5 ⟨T, rfl, hT5, hb5⟩
  have Hown5 : Hid ((W5.alloc (.cells T 112)).ownsRow (w.heap.size + 1) 5 1 (.slice a4 (8 + n) c4) (headB key once plain).length (cellsOf (headB key once plain))) := by
    show World.ownsRow _ _ _ _ _ _ _
    have h := own_on Hown4.out hb5
    rw [l4] at h
    rw [l5]
    exact h.alloc _
  have HB5 : Hid (Bytes (W5.alloc (.cells T 112)) (some ⟨W5.heap.size, 0, none⟩) (tagB key (headB key once plain))) := hT5.out.bytes (heap_alloc_new W5 _)
  have b5 : Hid (Below w.heap.size w (W5.alloc (.cells T 112))) := (Below.on' b4.out hb5).alloc (Below.on' b4.out hb5).size _
  have s5 : w.heap.size + 1 ≤ (W5.alloc (.cells T 112)).heap.size := by have := hb5.size; rw [World.size_alloc]; omega
  have l16 : (tagB key (headB key once plain)).length = 16 := tagB_len _ _
  clear hb5 b4 k4 Hown4 HB4 b3 k3 Hown3 HB3
  go_wp2_with (first
    | (with_reducible show Go.wpList _ _ _ _ _ _; refine wpList_alloc_row rfl 112 rfl Y zt.out ?_)
    | (with_reducible show Go.wpList _ _ _ _ _ _; refine wpList_store_row rfl 112 (.tmp 9) (.tmp 28) rfl W5.heap.size T rfl rfl 112 Y (heap_alloc_new W5 _) hT5.out.info (hy.out.size.trans hT5.out.size.symm) hT5.out.one ?_; rw [World.setRow_alloc_new])
    | (at_builtin; refine app_src _ rfl (.tmp 29) (.tmp 30) rfl (w.heap.size + 1) _ (headB key once plain) rfl Hown5.out (some ⟨W5.heap.size, 0, none⟩) 16 16 (tagB key (headB key once plain)) l16.symm rfl HB5.out (fun e => by cases e) (by omega) s5 ?_; intro v6 W6 hown6 hb6; have Hown6 := hid hown6; have Hb6 := hid hb6; clear hown6 hb6))
  go_ret2
  exact ⟨_, rfl, own_mono Hown6.out (by omega), b5.out.trans (Hb6.out.mono (by omega))⟩
end Go.Proofs.YtomhcccjeadefaaGreatDoor
/- What was sealed, opened: seal.Open. -/
namespace Go.Proofs.YtomhcccjeadefaaGreatDoor
open Go.RowKit Go.Shelf
set_option linter.unusedVariables false
set_option maxRecDepth 20000
theorem hf_tagOf : ∀ (args : Array Value) (w : World), (callFunc 51 args).run Tryz.prog w = .ok (.enter 51 args) w := fun args w => by simp [go_sem]
theorem hf_crossed : ∀ (args : Array Value) (w : World), (callFunc 50 args).run Tryz.prog w = .ok (.enter 50 args) w := fun args w => by simp [go_sem]
theorem tag_eq {A B : Array Value} {a b : List UInt8} (hA : TV A a) (hB : TV B b) (w : World) : (Op.equalIn 10000 112 (.agg A) (.agg B)).run Tryz.prog w = .ok (a == b) w := by
  rw [hA.eq, hB.eq]
  exact run_equalIn_bytes (P := Tryz.prog) w 9998 112 5 16 Tryz.underlying112 Tryz.underlying5 sizeOf_u8 a b hA.len hB.len
section
variable {ops : Array Oper} {S : World → Prop} {op : Oper} {a : Act}
theorem y_from (hw : Region.wanted op (yielded ops a.tmps) = true) (x : Operand) (t : Nat) (ho : op.op = .slice 29 x (some (.tmp t)) none none) (g o n c k : Nat) (hx : a.eval x = .slice (some ⟨g, o, none⟩) n c) (hy : a.eval (.tmp t) = .int .i64 (k : Int)) (hk : k < n) (hc : n ≤ c) : YieldsIf Tryz.prog ops S op (.slice (some ⟨g, o + k, none⟩) (n - k) (c - k)) a := by
  refine .inl ⟨hw, fun w _ => ?_⟩
  have h0 : (0 : Int) ≤ (k : Int) := by omega
  have h1 : (k : Int) ≤ (n : Int) := by omega
  have h3 : ¬ c = k := by omega
  have hy' : a.tmps[t]?.getD undef = .int .i64 (k : Int) := by simpa [Act.eval] using hy
  unfold execOp
  simp only [ho, hx]
  simp [go_sem, hy', h0, h1, h3]
theorem y_upto (hw : Region.wanted op (yielded ops a.tmps) = true) (x : Operand) (t : Nat) (ho : op.op = .slice 29 x none (some (.tmp t)) none) (g o n c k : Nat) (hx : a.eval x = .slice (some ⟨g, o, none⟩) n c) (hy : a.eval (.tmp t) = .int .i64 (k : Int)) (hk : k ≤ c) : YieldsIf Tryz.prog ops S op (.slice (some ⟨g, o, none⟩) k c) a := by
  refine .inl ⟨hw, fun w _ => ?_⟩
  have h0 : (0 : Int) ≤ (k : Int) := by omega
  have h1 : (k : Int) ≤ (c : Int) := by omega
  have hy' : a.tmps[t]?.getD undef = .int .i64 (k : Int) := by simpa [Act.eval] using hy
  unfold execOp
  simp only [ho, hx]
  simp [go_sem, hy', h0, h1]
theorem y_part (hw : Region.wanted op (yielded ops a.tmps) = true) (x : Operand) (t : Nat) (ho : op.op = .slice 29 x (some (.const (.int .i64 8))) (some (.tmp t)) none) (g o n c k : Nat) (hx : a.eval x = .slice (some ⟨g, o, none⟩) n c) (hy : a.eval (.tmp t) = .int .i64 (k : Int)) (hk : 8 ≤ k) (hc : k < c) : YieldsIf Tryz.prog ops S op (.slice (some ⟨g, o + 8, none⟩) (k - 8) (c - 8)) a := by
  refine .inl ⟨hw, fun w _ => ?_⟩
  have h0 : (8 : Int) ≤ (k : Int) := by omega
  have h1 : (k : Int) ≤ (c : Int) := by omega
  have h3 : ¬ c = 8 := by omega
  have hy' : a.tmps[t]?.getD undef = .int .i64 (k : Int) := by simpa [Act.eval] using hy
  unfold execOp
  simp only [ho, hx]
  simp [go_sem, hy', h0, h1, h3]
theorem y_arr (hw : Region.wanted op (yielded ops a.tmps) = true) (x : Operand) (ho : op.op = .sliceToArrayPointer 112 x) (ad : Option Addr) (n c : Nat) (hx : a.eval x = .slice ad n c) (hn : 16 ≤ n) : YieldsIf Tryz.prog ops S op (.pointer ad) a := by
  refine .inl ⟨hw, fun w _ => ?_⟩
  unfold execOp
  simp only [ho, hx, Sem.run_bind, run_array_tag ad n c w hn, Result.andThen_ok, Sem.run_pure]
theorem y_loadT (hw : Region.wanted op (yielded ops a.tmps) = true) (x : Operand) (ho : op.op = .load 112 x) (g o : Nat) (l : List UInt8) (hl : l.length = 16) (hx : a.eval x = .pointer (some ⟨g, o, none⟩)) (hS : ∀ w, S w → Bytes w (some ⟨g, o, none⟩) l) : YieldsIf Tryz.prog ops S op (.agg (bvs l)) a := by
  refine .inl ⟨hw, fun w hw' => ?_⟩
  unfold execOp
  simp only [ho, hx, Sem.run_bind, run_load_tag hl (hS w hw'), Result.andThen_ok, Sem.run_pure]
theorem y_loadK (hw : Region.wanted op (yielded ops a.tmps) = true) (x : Operand) (ho : op.op = .load 27 x) (g : Nat) {O : Array Value} {l : List UInt8} (hO : HV O l) (hx : a.eval x = .pointer (some ⟨g, 0, none⟩)) (hS : ∀ w, S w → w.heap[g]? = some (.cells O 27 (0, 0))) : YieldsIf Tryz.prog ops S op (.agg O) a := by
  refine .inl ⟨hw, fun w hw' => ?_⟩
  have h := loadH_run hO (hS w hw')
  rw [← loadH_fold] at h
  unfold execOp
  simp only [ho, hx, Sem.run_bind, h, Result.andThen_ok, Sem.run_pure]
theorem y_neqT (hw : Region.wanted op (yielded ops a.tmps) = true) (x y : Operand) (ho : op.op = .binOp .neq 112 x y 112) (A B : Array Value) {l m : List UInt8} (hA : TV A l) (hB : TV B m) (hx : a.eval x = .agg A) (hy : a.eval y = .agg B) : YieldsIf Tryz.prog ops S op (.bool (!(l == m))) a := by
  refine .inl ⟨hw, fun w _ => ?_⟩
  have h := tag_eq hA hB w
  unfold execOp
  simp only [ho, hx, hy]
  simp [go_sem, h]
theorem y_assign (hw : Region.wanted op (yielded ops a.tmps) = true) (x : Operand) (ho : op.op = .assign x) (v : Value) (hx : a.eval x = v) : YieldsIf Tryz.prog ops S op v a := by
  refine .inl ⟨hw, fun w _ => ?_⟩
  unfold execOp
  simp only [ho, hx]
  simp [go_sem]
end
end Go.Proofs.YtomhcccjeadefaaGreatDoor
