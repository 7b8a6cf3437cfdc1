/- YtomhcccjeadefaaGreatDoorCShelf + YtomhcccjeadefaaGreatDoorCB9 + YtomhcccjeadefaaGreatDoorCB10 -/
import Derived.Ground.NamesProg
import Derived.Shelf.Strings.Split
import Derived.Test.YtomhcccjeadefaaGreatDoorProg
import Derived.Test.YtomhcccjeadefaaGreatDoorCB8
import Derived.Lib.Bytealg
import Derived.Laws.IdiomStrings
import Derived.Laws.Cover3
/- The library's functions that cred calls, as they stand in this translation. -/
namespace Go.Proofs.YtomhcccjeadefaaGreatDoor
open Go.Shelf
def Tryz.laysSplit_ren : Go.Shelf.Ren := ⟨fun | 146 => 53 | 221 => 74 | 268 => 98 | 138 => 99 | 143 => 100 | 195 => 129 | 197 => 130 | 218 => 131 | 219 => 132 | 260 => 146 | 217 => 147 | 225 => 148 | 224 => 149 | 267 => 150 | 266 => 157 | 314 => 158 | n => n, fun | 9 => 9 | 31 => 36 | 3 => 3 | 4 => 4 | 0 => 0 | 105 => 188 | 21 => 21 | 5 => 5 | 46 => 135 | 119 => 206 | 139 => 209 | 138 => 208 | 146 => 210 | 51 => 59 | n => n, fun | 1 => 1 | 3 => 3 | 4 => 4 | n => n⟩
theorem Tryz.laysSplit : Go.Proofs.Lays.n146 Tryz.prog Tryz.laysSplit_ren := {
  mixed := by kernel_rfl
  f138 := Tryz.func99.trans (congrArg some (by kernel_rfl))
  f143 := Tryz.func100.trans (congrArg some (by kernel_rfl))
  f146 := Tryz.func53.trans (congrArg some (by kernel_rfl))
  f195 := Tryz.func129.trans (congrArg some (by kernel_rfl))
  f197 := Tryz.func130.trans (congrArg some (by kernel_rfl))
  f217 := Tryz.func147.trans (congrArg some (by kernel_rfl))
  f218 := Tryz.func131.trans (congrArg some (by kernel_rfl))
  f219 := Tryz.func132.trans (congrArg some (by kernel_rfl))
  f221 := Tryz.func74.trans (congrArg some (by kernel_rfl))
  f224 := Tryz.func149.trans (congrArg some (by kernel_rfl))
  f225 := Tryz.func148.trans (congrArg some (by kernel_rfl))
  f260 := Tryz.func146.trans (congrArg some (by kernel_rfl))
  f266 := Tryz.func157.trans (congrArg some (by kernel_rfl))
  f267 := Tryz.func150.trans (congrArg some (by kernel_rfl))
  f268 := Tryz.func98.trans (congrArg some (by kernel_rfl))
  f314 := Tryz.func158.trans (congrArg some (by kernel_rfl))
  t0 := Tryz.underlying0
  a0 := Tryz.isAgg0
  z0 := Tryz.sizeOf0
  v0 := Tryz.zeroValue0
  t3 := Tryz.underlying3
  a3 := Tryz.isAgg3
  z3 := Tryz.sizeOf3
  v3 := Tryz.zeroValue3
  t4 := Tryz.underlying4
  a4 := Tryz.isAgg4
  z4 := Tryz.sizeOf4
  v4 := Tryz.zeroValue4
  t5 := Tryz.underlying5
  a5 := Tryz.isAgg5
  z5 := Tryz.sizeOf5
  v5 := Tryz.zeroValue5
  t9 := Tryz.underlying9
  a9 := Tryz.isAgg9
  z9 := Tryz.sizeOf9
  v9 := Tryz.zeroValue9
  t21 := Tryz.underlying21
  a21 := Tryz.isAgg21
  z21 := Tryz.sizeOf21
  v21 := Tryz.zeroValue21
  t31 := Tryz.underlying36
  a31 := Tryz.isAgg36
  z31 := Tryz.sizeOf36
  v31 := Tryz.zeroValue36
  t46 := Tryz.underlying135
  a46 := Tryz.isAgg135
  z46 := Tryz.sizeOf135
  v46 := Tryz.zeroValue135
  t51 := Tryz.underlying59
  a51 := Tryz.isAgg59
  z51 := Tryz.sizeOf59
  v51 := Tryz.zeroValue59
  t105 := Tryz.underlying188
  a105 := Tryz.isAgg188
  z105 := Tryz.sizeOf188
  v105 := Tryz.zeroValue188
  t119 := Tryz.underlying206
  a119 := Tryz.isAgg206
  z119 := Tryz.sizeOf206
  t138 := Tryz.underlying208
  a138 := Tryz.isAgg208
  z138 := Tryz.sizeOf208
  v138 := Tryz.zeroValue208
  t139 := Tryz.underlying209
  a139 := Tryz.isAgg209
  z139 := Tryz.sizeOf209
  v139 := Tryz.zeroValue209
  t146 := Tryz.underlying210
  a146 := Tryz.isAgg210
  z146 := Tryz.sizeOf210
  v146 := Tryz.zeroValue210
  g1 := by kernel_rfl
  g3 := by kernel_rfl
  g4 := by kernel_rfl }
end Go.Proofs.YtomhcccjeadefaaGreatDoor
/- A book of passwords, loaded: strings.Split of the one key, state.Rising of one row, state.Hash of a column. -/
namespace Go.Proofs.YtomhcccjeadefaaGreatDoor
open Go.RowKit Go.Maps
set_option linter.unusedVariables false
set_option maxRecDepth 20000
namespace Sp
open Go.Shelf
def slashG : ByteArray := ⟨#[47]⟩
theorem hf_ibsJ (args : Array Value) (w : World) : (callFunc 157 args).run Tryz.prog w = ((Extern.BytealgIndexByte.indexByte args).run Tryz.prog w).andThen fun v w' => .ok (.value v) w' :=
  run_callFunc_extern Tryz.func157 (by kernel_rfl) (by kernel_rfl) (by kernel_rfl) (by kernel_rfl) args w
attribute [local go_sem ↓] hf_ibsJ
theorem sliteJ (s : ByteArray) (w : World) : Calls Tryz.prog 147 #[.string s, .int .u8 47] w fun e w' => e = .returned (.int .i64 (Lib.indexByte s.data.toList 47)) ∧ w' = w := by
  have h := Lib.run_indexByteString (P := Tryz.prog) s 47
  simp only [show (47 : Int).toNat.toUInt8 = 47 from rfl] at h
  go_enter Tryz.func147, Tryz.ntmps147
  go_wp2
  go_ret
  exact ⟨rfl, rfl⟩
set_option maxHeartbeats 2000000 in
theorem indexJ (s : ByteArray) (w : World) : Calls Tryz.prog 132 #[.string s, .string ⟨#[47]⟩] w fun e w' => e = .returned (.int .i64 (Lib.indexByte s.data.toList 47)) ∧ w' = w := by
  by_cases h : ([47] == s.toList) = true
  · have e : Lib.indexByte s.data.toList 47 = 0 := by
      have h1 : [47] = s.toList := by simpa using h
      rw [Lib.toList_data] at h1
      rw [← h1]
      rfl
    rw [e]
    clear e
    go_enter Tryz.func132, Tryz.ntmps132
    go_wp2
    go_ret
    exact ⟨rfl, rfl⟩
  · have h' : ([47] == s.toList) = false := by simpa using h
    clear h
    go_enter Tryz.func132, Tryz.ntmps132
    go_wp2_with (go_at_call 147; refine (sliteJ s _).mono ?_; rintro _ _ ⟨rfl, rfl⟩)
    go_ret
    exact ⟨rfl, rfl⟩
theorem sindexG (s : ByteArray) (w : World) : Calls Tryz.prog 100 #[.string s, .string ⟨#[47]⟩] w fun e w' => e = .returned (.int .i64 (Lib.indexByte s.data.toList 47)) ∧ w' = w := by
  have h9 := hid (indexJ s w)
  go_enter Tryz.func100, Tryz.ntmps100
  go_wp2_with (go_at_call 132; refine h9.out.mono ?_; rintro _ w1 ⟨rfl, e1⟩; have E1 := hid e1; clear e1)
  go_ret
  exact ⟨rfl, E1.out⟩
def namesG (s : ByteArray) : List ByteArray := Lib.splitB slashG 0 (Lib.countB s slashG) s
theorem indexB_byte (s : ByteArray) : Lib.indexB s slashG = Lib.indexByte s.data.toList 47 := Lib.index_one _ _
theorem names_len (s : ByteArray) : (namesG s).length = Lib.countB s slashG + 1 := Lib.splitB_all slashG (by decide) 0 _ s rfl
theorem names_tu : namesG kTU = [oT, oU] := by
  have hx : Lib.indexB kTU slashG = ((1 : Nat) : Int) := by rw [indexB_byte]; decide +kernel
  have hc := Lib.countB_hit kTU slashG 1 (by decide) hx
  have e1 : kTU.extract (1 + slashG.size) kTU.size = oU := by decide +kernel
  have e2 : kTU.extract 0 (1 + 0) = oT := by decide +kernel
  have hm : Lib.indexB oU slashG = -1 := by rw [indexB_byte]; decide +kernel
  unfold namesG
  rw [show Lib.countB kTU slashG = Lib.countB (kTU.extract (1 + slashG.size) kTU.size) slashG + 1 by omega, Lib.splitB_hit _ _ _ _ 1 hx, e1, e2, Lib.splitB_miss _ _ _ _ hm]
theorem infoStr : (Tryz.prog.info? 9).map (fun i => (i.zero, i.size, i.bytes)) = some (some (.string ByteArray.empty), 1, 16) := by kernel_rfl
theorem genSplit_any (s : ByteArray) (hs : s.size < 4294967281) (w : World) :
    Calls Tryz.prog 74 #[.string s, .string slashG, .int .i64 0, .int .i64 (-1)] w fun e w' => e = .returned (.slice (some ⟨w.heap.size, 0, none⟩) (namesG s).length (namesG s).length) ∧ w' = w.alloc (.cells ((namesG s).map Value.string).toArray 9) := by
  have hle := Lib.countB_le slashG (by decide) s.size s (Nat.le_refl _)
  have hlen := names_len s
  have c := Any.strings_genSplit_core (P := Tryz.prog) (ρ := Tryz.laysSplit_ren) { Tryz.laysSplit with } infoStr s slashG 0 (-1) (Lib.countB s slashG + 1) w hs (by decide) (Nat.zero_le _)
    (fun x c hx => (sindexG x (w.alloc (.cells c 9))).mono (fun e w' h => ⟨by rw [h.1, indexB_byte], h.2⟩))
    ((Any.strings_Count_one (P := Tryz.prog) (ρ := Tryz.laysSplit_ren) { Tryz.laysSplit with } s 47 w).mono (fun e w' h => ⟨by
      rw [h.1]
      show _ = Ending.returned (Value.int .i64 ((Lib.count s.data.toList [47] : Nat) : Int))
      rw [Lib.count_one]
      rfl, h.2⟩))
    (by decide) (by decide) (by rw [if_pos (by decide)]; omega)
  rw [Nat.add_sub_cancel] at c
  refine c.mono fun e w' h => ⟨?_, ?_⟩
  · rw [h.1, hlen]
    rw [show (Lib.splitB slashG 0 (Lib.countB s slashG) s).length = Lib.countB s slashG + 1 from hlen]
  · rw [h.2, show Lib.countB s slashG + 1 = (Lib.splitB slashG 0 (Lib.countB s slashG) s).length from hlen.symm, Lib.cellsOf_full]
    rfl
end Sp
set_option maxHeartbeats 1000000 in
theorem splitTU (w : World) :
    Calls Tryz.prog 53 #[.string kTU, .string ⟨#[47]⟩] w fun e w' => e = .returned (.slice (some ⟨w.heap.size, 0, none⟩) 2 2) ∧ w' = w.alloc (.cells #[.string oT, .string oU] 9) := by
  have h9 := hid (Sp.genSplit_any kTU (by decide +kernel) w)
  rw [Sp.names_tu] at h9
  obtain ⟨W, hW⟩ : ∃ W, W = w.alloc (.cells #[.string oT, .string oU] 9) := ⟨_, rfl⟩
  simp only [List.map_cons, List.map_nil, List.length_cons, List.length_nil] at h9
  rw [← hW] at h9 ⊢
  clear hW
  unfold Sp.slashG at h9
  go_enter Tryz.func53, Tryz.ntmps53
  go_wp2_with (go_at_call 74; refine h9.out.mono ?_; rintro _ w1 ⟨rfl, e1⟩; have E1 := hid e1; clear e1)
  go_ret
  exact ⟨rfl, E1.out⟩
theorem rising1 (p : Option Addr) (c : Nat) (w : World) : Calls Tryz.prog 29 #[.slice p 1 c] w fun e w' => e = .returned (.bool true) ∧ w' = w := by
  go_enter Tryz.func29, Tryz.ntmps29
  go_wp2_with fail
  go_loopw [3] (fun i wr => i = .int .i64 1 ∧ wr = w) (fun _ _ => 0)
  case atStart => exact ⟨rfl, rfl⟩
  case round =>
    obtain ⟨rfl, rfl⟩ := hrel
    go_wp2_with fail
    go_ret
    exact ⟨rfl, rfl⟩
set_option maxHeartbeats 1000000 in
theorem hashOf_ok (w : World) (h : List UInt8) (hl : h.length = 32) :
    Calls Tryz.prog 76 #[.string (mkH h)] w fun e w' => ∃ O, HV O h ∧ e = .returned (.tuple #[.agg O, .bool true]) ∧ Below w.heap.size w w' := by
  obtain ⟨Z, hZ⟩ : ∃ Z, Z = bvs (List.replicate 32 0) := ⟨_, rfl⟩
  have zh := (zero_of_info zero_hash).1
  rw [← hZ] at zh
  have hz : Hid (HV Z (List.replicate 32 0)) := by
    show HV _ _
    rw [hZ]; exact hv_zero
  have zh := hid zh
  have hO : HV (bvs h) h := ⟨rfl, hl⟩
  have hsz : (mkH h).size = 32 := by show h.toArray.size = 32; simpa using hl
  have b0 : Below w.heap.size w (w.alloc (.cells Z 27)) := (Below.refl _ w).alloc (Nat.le_refl _) _
  have r0 : (w.alloc (.cells Z 27)).heap[w.heap.size]? = some (.cells Z 27 (0, 0)) := heap_alloc_new w _
  obtain ⟨cp, W1, hc1, hB1, hcp, hb1⟩ := conv_str (w.alloc (.cells Z 27)) (mkH h)
  rw [hsz] at hc1 hcp
  have hrange : W1.rangeAt (w.alloc (.cells Z 27)).heap.size 0 (cellsOf h) := fun j u hj => by
    have hj' : j < h.length := by
      have := (List.getElem?_eq_some_iff.1 hj).1
      simpa [cellsOf_length] using this
    obtain ⟨bb, oo, e, hcl⟩ := hB1 j hj'
    cases e
    rw [hcl]
    have e9 : (cellsOf h)[j]? = some (.int .u8 (h[j].toNat : Int)) := by simp [cellsOf, hj']
    rw [e9] at hj
    rw [← hj]
    rfl
  have R1 := hid ((hb1.block _ (heap_lt r0)).trans r0)
  have B1 := hid (Below.on' b0 hb1)
  rw [show (w.alloc (.cells Z 27)).heap.size = w.heap.size + 1 by simp] at hrange
  have Hr := hid hrange
  have sh := hid hO.info
  have sl : Hid ((Tryz.prog.info? 27).map (·.size) = some (cellsOf h).length) := by
    show _ = _
    rw [hO.info, hO.size, cellsOf_length, hl]
  have one := hid hO.one
  have bv : Hid ((cellsOf h).toArray = bvs h) := rfl
  have zs : Hid (Z.size = (bvs h).size) := hz.out.size.trans hO.size.symm
  have HO := hid hO
  generalize mkH h = t at *
  generalize cellsOf h = Lc at *
  generalize bvs h = O at *
  clear hZ hB1 hb1 b0 r0 hrange hO
  have hap : ∀ (a : Option Addr) (W : World), (Instr.arrayAt 27 (.slice a 32 cp)).run Tryz.prog W = .ok (.pointer a) W := fun a W => run_arrayAt W 27 5 32 a 32 cp Tryz.underlying27 (Nat.le_refl _)
  go_enter Tryz.func76, Tryz.ntmps76
  go_wp2_with (first
    | (with_reducible show Go.wpList _ _ _ _ _ _; refine wpList_alloc_row rfl 27 rfl Z zh.out ?_)
    | (with_reducible show Go.wpList _ _ _ _ _ _; refine wpList_load_mid rfl 27 _ rfl (w.heap.size + 1) 0 rfl Lc _ Hr.out Tryz.underlying27 rfl sl.out ?_; rw [bv.out])
    | (with_reducible show Go.wpList _ _ _ _ _ _; refine wpList_store_row rfl 27 _ _ rfl w.heap.size O rfl rfl 27 Z R1.out sh.out zs.out one.out ?_))
  refine bodyPost_ret (results_row_tmp rfl _ _ w.heap.size 27 O (0, 0) _ rfl (setRow_heap _ _ _ _ _ _ R1.out) Tryz.underlying27 rfl sh.out) rfl ?_
  exact ⟨O, HO.out, rfl, B1.out.setRow (Nat.le_refl _) _⟩
end Go.Proofs.YtomhcccjeadefaaGreatDoor
/- A book of passwords, loaded: its one record. (Printed by gen/cb10.py.) -/
namespace Go.Proofs.YtomhcccjeadefaaGreatDoor
open Go.RowKit Go.Maps
set_option linter.unusedVariables false
set_option maxRecDepth 20000
theorem built_rec2 (h : List UInt8) (hl : h.length = 32) : Tryz.prog.built 93 [(0, .agg #[.int .i64 0, .int .i64 0]), (1, .agg (bvs h)), (2, .string saltB), (3, .int .i64 2)] = some (recC 0 0 h 2).toArray := by
  obtain ⟨x0, x1, x2, x3, x4, x5, x6, x7, x8, x9, x10, x11, x12, x13, x14, x15, x16, x17, x18, x19, x20, x21, x22, x23, x24, x25, x26, x27, x28, x29, x30, x31, rfl⟩ := len32J h hl
  kernel_rfl
def TR (g q : Nat) (O : Array Value) (mh x2 x0 : ByteArray) (V : World) : Prop := V.heap[g]? = some (.cells O 27 (0, 0)) ∧ V.heap[q]? = some (.cells #[.string mh, .string saltB, .string x2, .string x0, .string x0] 9 (0, 0))
section
variable {g q : Nat} {O : Array Value} {mh x2 x0 : ByteArray} {V V' : World}
theorem TR.below (s : TR g q O mh x2 x0 V) (hb : Below V.heap.size V V') : TR g q O mh x2 x0 V' := ⟨(hb.block _ (heap_lt s.1)).trans s.1, (hb.block _ (heap_lt s.2)).trans s.2⟩
theorem TR.c1 (s : TR g q O mh x2 x0 V) : V.cell? ⟨q, 1, none⟩ = some (.string saltB) := cell_of_row _ _ 1 _ _ _ s.2
theorem TR.ldH (s : TR g q O mh x2 x0 V) {h : List UInt8} (hO : HV O h) : (Instr.loadAt 27 (.pointer (some ⟨g, 0, none⟩))).run Tryz.prog V = .ok (.agg O) V := by
  simp only [Instr.loadAt, Instr.sureAddr, Sem.run_bind, Sem.run_pure, Result.andThen]
  rw [run_loadVar_row (P := Tryz.prog) V g 27 27 O _ _ s.1 Tryz.underlying27 rfl hO.info]
end
theorem built_ct : Tryz.prog.built 90 [(0, .int .i64 0), (1, .int .i64 0)] = some #[.int .i64 0, .int .i64 0] := by kernel_rfl
theorem y_bct {ops : Array Oper} {S : World → Prop} {op : Oper} {a : Act} (hw : Region.wanted op (yielded ops a.tmps) = true) (x y : Operand) (ho : op.op = .build 90 #[(0, x), (1, y)]) (h0 : a.eval x = .int .i64 0) (h1 : a.eval y = .int .i64 0) : YieldsIf Tryz.prog ops S op (.agg #[.int .i64 0, .int .i64 0]) a := by
  refine .inl ⟨hw, fun w _ => ?_⟩
  unfold execOp
  simp only [ho, List.map_toArray, List.map_cons, List.map_nil, h0, h1]
  have h := run_build (P := Tryz.prog) w 90 #[(0, .int .i64 0), (1, .int .i64 0)] _ built_ct
  simp only [Sem.run_bind, h]
  rfl
theorem y_brc {ops : Array Oper} {S : World → Prop} {op : Oper} {a : Act} {O RC : Array Value} {h : List UInt8} (hw : Region.wanted op (yielded ops a.tmps) = true) (x y z u : Operand) (ho : op.op = .build 93 #[(0, x), (1, y), (2, z), (3, u)]) (hO : HV O h) (hRC : RC = (recC 0 0 h 2).toArray) (h0 : a.eval x = .agg #[.int .i64 0, .int .i64 0]) (h1 : a.eval y = .agg O) (h2 : a.eval z = .string saltB) (h3 : a.eval u = .int .i64 2) : YieldsIf Tryz.prog ops S op (.agg RC) a := by
  refine .inl ⟨hw, fun w _ => ?_⟩
  unfold execOp
  simp only [ho, List.map_toArray, List.map_cons, List.map_nil, h0, h1, h2, h3]
  have hr := run_build (P := Tryz.prog) w 93 #[(0, .agg #[.int .i64 0, .int .i64 0]), (1, .agg (bvs h)), (2, .string saltB), (3, .int .i64 2)] _ (built_rec2 h hO.len)
  rw [← hO.eq, ← hRC] at hr
  simp only [Sem.run_bind, hr]
  rfl
theorem wp_boxR {o : Oper} {a : Act} {w : World} {K : Act → World → Prop} {Q : Exit → Act → World → Prop} (x : Operand) (ho : o.op = .box 93 x) (RC : Array Value) (hx : a.eval x = .agg RC)
    (h : K (a.put o.dst (.pointer (some ⟨w.heap.size, 0, none⟩))) (w.alloc (.cells RC 93))) : o.wp Tryz.prog a w K Q := by
  unfold Oper.wp execOp
  simp only [ho, hx]
  simp [go_sem]
  exact h
noncomputable def codeTR (n : Nat) : Code := ((Tryz.f75.body.bind (regionAt n)).getD .skip)
set_option maxHeartbeats 4000000 in
theorem tr_region9 {V0 W5 : World} {g q : Nat} {O RC : Array Value} {h : List UInt8} {mh x2 x0 : ByteArray} {A : Act} (sz : A.tmps.size = 74) (e0 : A.eval (.tmp 0) = .slice (some ⟨q, 0, none⟩) 5 5) (e4 : A.eval (.tmp 4) = .pointer (some ⟨g, 0, none⟩)) (e6 : A.eval (.tmp 6) = .int .i64 2) (e8 : A.eval (.tmp 8) = .int .i64 0) (e10 : A.eval (.tmp 10) = .int .i64 0) (hO : HV O h) (hRC : RC = (recC 0 0 h 2).toArray) (hV0 : V0 = W5.drew) (hs0 : TR g q O mh x2 x0 V0) :
    (codeTR 9).wp Tryz.prog (fun x a V => x = .normal ∧ ∃ r : Nat, a = ((((((((((((A.put (some 64) (.int .i64 0)).put (some 65) (.int .i64 0)).put (some 66) (.agg #[.int .i64 0, .int .i64 0])).put (some 67) (.agg O)).put (some 68) (.slice (some ⟨q, 0, none⟩) 5 5)).put (some 69) (.pointer (some ⟨q, 1, none⟩))).put (some 70) (.string saltB)).put (some 71) (.int .i64 2)).put (some 72) (.agg RC)).put (some 73) (.pointer (some ⟨r, 0, none⟩))).put (some 2) (.pointer (some ⟨r, 0, none⟩))).put (some 3) (.bool true)) ∧ V.heap[r]? = some (.cells RC 93 (0, 0)) ∧ V0.heap.size ≤ r ∧ Below V0.heap.size V0 V) A W5 := by
  have hm : Tryz.prog.follows .mixedOrders = true := by kernel_rfl
  unfold codeTR
  conv => arg 2; whnf
  refine wp_region_G (fun _ => false) (TR g q O mh x2 x0) hm ?_
  rw [show ({ W5 with drawn := W5.drawn + 1 } : World) = V0 from hV0.symm]
  refine wpAnyG_take (i := 0) (v := .int .i64 0) rfl (by kernel_rfl) (by kernel_rfl) (by kernel_rfl) (fun _ _ _ h => nomatch h.1) (yg_mv (by simp [Region.wanted]) (.tmp 8) rfl e8) hs0 ?_
  show wpAnyG _ _ _ _ _ _ _ _ (A.put (some 64) (.int .i64 0)) _
  refine wpAnyG_take (i := 1) (v := .int .i64 0) rfl (by kernel_rfl) (by kernel_rfl) (by kernel_rfl) (fun _ _ _ h => nomatch h.1) (yg_mv (by simp [Region.wanted]) (.tmp 10) rfl ((ev_ne _ _ (by decide)).trans e10)) hs0 ?_
  show wpAnyG _ _ _ _ _ _ _ _ ((A.put (some 64) (.int .i64 0)).put (some 65) (.int .i64 0)) _
  refine wpAnyG_take (i := 2) (v := .agg #[.int .i64 0, .int .i64 0]) rfl (by kernel_rfl) (by kernel_rfl) (by kernel_rfl) (fun _ _ _ h => nomatch h.1) (y_bct (by simp [Region.wanted]) (.tmp 64) (.tmp 65) rfl ((ev_ne _ _ (by decide)).trans (ev_eq _ _ (by simp [sz]))) (ev_eq _ _ (by simp [put_sz, sz]))) hs0 ?_
  show wpAnyG _ _ _ _ _ _ _ _ (((A.put (some 64) (.int .i64 0)).put (some 65) (.int .i64 0)).put (some 66) (.agg #[.int .i64 0, .int .i64 0])) _
  refine wpAnyG_take (i := 3) (v := .agg O) rfl (by kernel_rfl) (by kernel_rfl) (by kernel_rfl) (fun _ _ _ h => nomatch h.1) (yg_ld (by simp [Region.wanted]) (.tmp 4) rfl ((ev_ne _ _ (by decide)).trans ((ev_ne _ _ (by decide)).trans ((ev_ne _ _ (by decide)).trans e4))) (fun w hw => hw.ldH hO)) hs0 ?_
  show wpAnyG _ _ _ _ _ _ _ _ ((((A.put (some 64) (.int .i64 0)).put (some 65) (.int .i64 0)).put (some 66) (.agg #[.int .i64 0, .int .i64 0])).put (some 67) (.agg O)) _
  refine wpAnyG_take (i := 4) (v := .slice (some ⟨q, 0, none⟩) 5 5) rfl (by kernel_rfl) (by kernel_rfl) (by kernel_rfl) (fun _ _ _ h => nomatch h.1) (yg_mv (by simp [Region.wanted]) (.tmp 0) rfl ((ev_ne _ _ (by decide)).trans ((ev_ne _ _ (by decide)).trans ((ev_ne _ _ (by decide)).trans ((ev_ne _ _ (by decide)).trans e0))))) hs0 ?_
  show wpAnyG _ _ _ _ _ _ _ _ (((((A.put (some 64) (.int .i64 0)).put (some 65) (.int .i64 0)).put (some 66) (.agg #[.int .i64 0, .int .i64 0])).put (some 67) (.agg O)).put (some 68) (.slice (some ⟨q, 0, none⟩) 5 5)) _
  refine wpAnyG_take (i := 5) (v := .pointer (some ⟨q, 1, none⟩)) rfl (by kernel_rfl) (by kernel_rfl) (by kernel_rfl) (fun _ _ _ h => nomatch h.1) (yg_ix (by simp [Region.wanted]) (.tmp 68) (.const (.int .i64 1)) rfl (ev_eq _ _ (by simp [put_sz, sz])) rfl (fun w => by simp [go_sem])) hs0 ?_
  show wpAnyG _ _ _ _ _ _ _ _ ((((((A.put (some 64) (.int .i64 0)).put (some 65) (.int .i64 0)).put (some 66) (.agg #[.int .i64 0, .int .i64 0])).put (some 67) (.agg O)).put (some 68) (.slice (some ⟨q, 0, none⟩) 5 5)).put (some 69) (.pointer (some ⟨q, 1, none⟩))) _
  refine wpAnyG_take (i := 6) (v := .string saltB) rfl (by kernel_rfl) (by kernel_rfl) (by kernel_rfl) (fun _ _ _ h => nomatch h.1) (yg_ld (by simp [Region.wanted]) (.tmp 69) rfl (ev_eq _ _ (by simp [put_sz, sz])) (fun w hw => by have h1 := hw.c1; simp [go_sem, h1])) hs0 ?_
  show wpAnyG _ _ _ _ _ _ _ _ (((((((A.put (some 64) (.int .i64 0)).put (some 65) (.int .i64 0)).put (some 66) (.agg #[.int .i64 0, .int .i64 0])).put (some 67) (.agg O)).put (some 68) (.slice (some ⟨q, 0, none⟩) 5 5)).put (some 69) (.pointer (some ⟨q, 1, none⟩))).put (some 70) (.string saltB)) _
  refine wpAnyG_take (i := 7) (v := .int .i64 2) rfl (by kernel_rfl) (by kernel_rfl) (by kernel_rfl) (fun _ _ _ h => nomatch h.1) (yg_mv (by simp [Region.wanted]) (.tmp 6) rfl ((ev_ne _ _ (by decide)).trans ((ev_ne _ _ (by decide)).trans ((ev_ne _ _ (by decide)).trans ((ev_ne _ _ (by decide)).trans ((ev_ne _ _ (by decide)).trans ((ev_ne _ _ (by decide)).trans ((ev_ne _ _ (by decide)).trans e6)))))))) hs0 ?_
  show wpAnyG _ _ _ _ _ _ _ _ ((((((((A.put (some 64) (.int .i64 0)).put (some 65) (.int .i64 0)).put (some 66) (.agg #[.int .i64 0, .int .i64 0])).put (some 67) (.agg O)).put (some 68) (.slice (some ⟨q, 0, none⟩) 5 5)).put (some 69) (.pointer (some ⟨q, 1, none⟩))).put (some 70) (.string saltB)).put (some 71) (.int .i64 2)) _
  refine wpAnyG_take (i := 8) (v := .agg RC) rfl (by kernel_rfl) (by kernel_rfl) (by kernel_rfl) (fun _ _ _ h => nomatch h.1) (y_brc (by simp [Region.wanted]) (.tmp 66) (.tmp 67) (.tmp 70) (.tmp 71) rfl hO hRC ((ev_ne _ _ (by decide)).trans ((ev_ne _ _ (by decide)).trans ((ev_ne _ _ (by decide)).trans ((ev_ne _ _ (by decide)).trans ((ev_ne _ _ (by decide)).trans (ev_eq _ _ (by simp [put_sz, sz]))))))) ((ev_ne _ _ (by decide)).trans ((ev_ne _ _ (by decide)).trans ((ev_ne _ _ (by decide)).trans ((ev_ne _ _ (by decide)).trans (ev_eq _ _ (by simp [put_sz, sz])))))) ((ev_ne _ _ (by decide)).trans (ev_eq _ _ (by simp [put_sz, sz]))) (ev_eq _ _ (by simp [put_sz, sz]))) hs0 ?_
  show wpAnyG _ _ _ _ _ _ _ _ (((((((((A.put (some 64) (.int .i64 0)).put (some 65) (.int .i64 0)).put (some 66) (.agg #[.int .i64 0, .int .i64 0])).put (some 67) (.agg O)).put (some 68) (.slice (some ⟨q, 0, none⟩) 5 5)).put (some 69) (.pointer (some ⟨q, 1, none⟩))).put (some 70) (.string saltB)).put (some 71) (.int .i64 2)).put (some 72) (.agg RC)) _
  refine wpAnyG_all (rs := [9]) (by kernel_rfl) (by simp) fun i1 hm1 => ?_
  obtain rfl : i1 = 9 := by simpa using hm1
  refine wpOp_own rfl rfl fun K1 hK1 => ?_
  refine wp_boxR (.tmp 72) rfl RC (ev_eq _ _ (by simp [put_sz, sz])) ?_
  have hb1 : Below V0.heap.size V0 (V0.alloc (.cells RC 93)) := (Below.refl _ V0).alloc (Nat.le_refl _) _
  have hs1 := hs0.below hb1
  refine hK1 _ _ ⟨.inr hs1, ?_⟩
  clear hK1 K1 hm1
  show wpAnyG _ _ _ _ _ _ _ _ ((((((((((A.put (some 64) (.int .i64 0)).put (some 65) (.int .i64 0)).put (some 66) (.agg #[.int .i64 0, .int .i64 0])).put (some 67) (.agg O)).put (some 68) (.slice (some ⟨q, 0, none⟩) 5 5)).put (some 69) (.pointer (some ⟨q, 1, none⟩))).put (some 70) (.string saltB)).put (some 71) (.int .i64 2)).put (some 72) (.agg RC)).put (some 73) (.pointer (some ⟨V0.heap.size, 0, none⟩))) _
  obtain ⟨Az1, hAz1⟩ : ∃ Az1, Az1 = ((((((((((A.put (some 64) (.int .i64 0)).put (some 65) (.int .i64 0)).put (some 66) (.agg #[.int .i64 0, .int .i64 0])).put (some 67) (.agg O)).put (some 68) (.slice (some ⟨q, 0, none⟩) 5 5)).put (some 69) (.pointer (some ⟨q, 1, none⟩))).put (some 70) (.string saltB)).put (some 71) (.int .i64 2)).put (some 72) (.agg RC)).put (some 73) (.pointer (some ⟨V0.heap.size, 0, none⟩))) := ⟨_, rfl⟩
  have szAz1 : Az1.tmps.size = 74 := by rw [hAz1]; simp [put_sz, sz]
  have eAz173 : Az1.eval (.tmp 73) = .pointer (some ⟨V0.heap.size, 0, none⟩) := by rw [hAz1]; exact (ev_eq _ _ (by simp [put_sz, sz]))
  rw [← hAz1]
  refine wpAnyG_one (i := 10) (v := .pointer (some ⟨V0.heap.size, 0, none⟩)) rfl (by kernel_rfl) (yg_as (by simp [Region.wanted]) (.tmp 73) rfl eAz173) hs1 ?_
  show wpAnyG _ _ _ _ _ _ _ _ (Az1.put (some 2) (.pointer (some ⟨V0.heap.size, 0, none⟩))) _
  refine wpAnyG_one (i := 11) (v := .bool true) rfl (by kernel_rfl) (yg_as (by simp [Region.wanted]) (.const (.bool true)) rfl rfl) hs1 ?_
  show wpAnyG _ _ _ _ _ _ _ _ ((Az1.put (some 2) (.pointer (some ⟨V0.heap.size, 0, none⟩))).put (some 3) (.bool true)) _
  refine wpAnyG_done (by kernel_rfl) ⟨rfl, V0.heap.size, ?_, heap_alloc_new V0 _, Nat.le_refl _, hb1⟩ _
  show ((Az1.put (some 2) (.pointer (some ⟨V0.heap.size, 0, none⟩))).put (some 3) (.bool true)) = _
  rw [hAz1]
set_option maxHeartbeats 8000000 in
theorem toRecord_ok {w : World} {q : Nat} {h : List UInt8} (hq : w.heap[q]? = some (.cells #[.string (mkH h), .string saltB, .string (txtJ 2), .string (txtJ 0), .string (txtJ 0)] 9 (0, 0))) (hl : h.length = 32) :
    Calls Tryz.prog 75 #[.slice (some ⟨q, 0, none⟩) 5 5] w fun e w' => ∃ r, e = .returned (.tuple #[.pointer (some ⟨r, 0, none⟩), .bool true]) ∧ RecAt w' r 0 0 h ∧ w.heap.size ≤ r ∧ Below w.heap.size w w' := by
  have HH := hid (fun W => hashOf_ok W h hl)
  have n1 : ∀ W : World, Calls Tryz.prog 101 #[.string (txtJ 2), .int .i64 1, .int .i64 64] W fun e w' => e = .returned (.tuple #[.int .i64 2, .bool true]) ∧ w' = W := fun W => number_back 2 1 64 (by omega) (by omega) (by omega) W
  have N1 := hid n1
  have n2 : ∀ W : World, Calls Tryz.prog 101 #[.string (txtJ 0), .int .i64 0, .int .i64 3] W fun e w' => e = .returned (.tuple #[.int .i64 0, .bool true]) ∧ w' = W := fun W => number_back 0 0 3 (by omega) (by omega) (by omega) W
  have N2 := hid n2
  have n3 : ∀ W : World, Calls Tryz.prog 101 #[.string (txtJ 0), .int .i64 0, .int .i64 1099511627876] W fun e w' => e = .returned (.tuple #[.int .i64 0, .bool true]) ∧ w' = W := fun W => number_back 0 0 1099511627876 (by omega) (by omega) (by omega) W
  have N3 := hid n3
  obtain ⟨Z, hZ⟩ : ∃ Z, Z = bvs (List.replicate 32 0) := ⟨_, rfl⟩
  have zh := (zero_of_info zero_hash).1
  rw [← hZ] at zh
  have hz : Hid (HV Z (List.replicate 32 0)) := by
    show HV _ _
    rw [hZ]; exact hv_zero
  have Zh := hid zh
  obtain ⟨RC, hRC⟩ : ∃ RC, RC = (recC 0 0 h 2).toArray := ⟨_, rfl⟩
  unfold RecAt
  rw [← hRC]
  have HRC := hid hRC
  have Hq := hid hq
  clear zh hZ hRC
  obtain ⟨mh, hmh⟩ : ∃ mh, mh = mkH h := ⟨_, rfl⟩
  obtain ⟨x2, hx2⟩ : ∃ x2, x2 = txtJ 2 := ⟨_, rfl⟩
  obtain ⟨x0, hx0⟩ : ∃ x0, x0 = txtJ 0 := ⟨_, rfl⟩
  rw [← hmh] at HH Hq
  rw [← hx2] at N1 Hq
  rw [← hx0] at N2 N3 Hq
  clear hq hmh hx2 hx0 n1 n2 n3
  have y0 : w.cell? ⟨q, 0, none⟩ = some (.string mh) := cell_of_row _ _ 0 _ _ _ Hq.out
  have y1 : w.cell? ⟨q, 1, none⟩ = some (.string saltB) := cell_of_row _ _ 1 _ _ _ Hq.out
  have s1 : ¬ 8 < (saltB.size : Int) := by unfold saltB; decide
  go_enter Tryz.func75, Tryz.ntmps75
  go_wp2_with (first
    | (go_at_call 76; refine (HH.out w).mono ?_; rintro _ w1 ⟨O, hO, rfl, b1⟩; obtain ⟨V, hV⟩ : ∃ V, V = (w1.alloc (.cells Z 27)).setRow w1.heap.size O := ⟨_, rfl⟩; have HO := hid hO; have B1 := hid b1; have X2 := hid (heap_alloc_new w1 (.cells Z 27)); have X3 := hid (setRow_heap (w1.alloc (.cells Z 27)) _ _ O _ _ X2.out); have BV := hid ((Below.on' b1 ((Below.refl _ w1).alloc (Nat.le_refl _) (.cells Z 27))).setRow b1.size O); rw [← hV] at X3 BV; have HV1 := hid hV; have Y := hid ((BV.out.block _ (heap_lt Hq.out)).trans Hq.out); have z2 : V.cell? ⟨q, 2, none⟩ = some (.string x2) := cell_of_row _ _ 2 _ _ _ Y.out; have z3 : V.cell? ⟨q, 3, none⟩ = some (.string x0) := cell_of_row _ _ 3 _ _ _ Y.out; have z4 : V.cell? ⟨q, 4, none⟩ = some (.string x0) := cell_of_row _ _ 4 _ _ _ Y.out; clear b1 hO hV)
    | (with_reducible show Go.wpList _ _ _ _ _ _; first
      | refine wpList_alloc_row rfl 27 rfl Z Zh.out ?_
      | (refine wpList_store_row rfl 27 _ _ rfl w1.heap.size O rfl rfl 27 Z X2.out HO.out.info (by rw [hz.out.size, HO.out.size]) HO.out.one ?_; rw [← HV1.out]))
    | (go_at_call 101; (first | with_reducible refine (N1.out V).mono ?_ | with_reducible refine (N2.out V).mono ?_ | with_reducible refine (N3.out V).mono ?_); rintro _ w9 ⟨rfl, e9⟩; subst w9))
  obtain ⟨V0, hV0⟩ : ∃ V0, V0 = V.drew := ⟨_, rfl⟩
  have b0 : Below V.heap.size V V0 := by rw [hV0]; exact (Below.refl _ V).drew
  refine wp_act _ fun A hA => ?_
  have sz : A.tmps.size = 74 := by rw [hA]; rfl
  have e0 : A.eval (.tmp 0) = .slice (some ⟨q, 0, none⟩) 5 5 := by rw [hA]; rfl
  have e4 : A.eval (.tmp 4) = .pointer (some ⟨w1.heap.size, 0, none⟩) := by rw [hA]; rfl
  have e6 : A.eval (.tmp 6) = .int .i64 2 := by rw [hA]; rfl
  have e8 : A.eval (.tmp 8) = .int .i64 0 := by rw [hA]; rfl
  have e10 : A.eval (.tmp 10) = .int .i64 0 := by rw [hA]; rfl
  refine wp_split _ (tr_region9 sz e0 e4 e6 e8 e10 HO.out HRC.out hV0 (TR.below ⟨X3.out, Y.out⟩ b0)) ?_
  rintro _ V2 ⟨r, rfl, hr, hr0, hb⟩
  rw [hA]
  simp only [Act.put, List.setIfInBounds_toArray, List.set_cons_succ, List.set_cons_zero]
  have B9 := hid (Below.on' b0 hb)
  have Hr := hid hr
  have Hr0 := hid (Nat.le_trans b0.size hr0)
  clear sz e0 e4 e6 e8 e10 hA A b0 hb hr hr0 hV0
  go_wp2_with fail
  go_ret2
  exact ⟨r, rfl, Hr.out, Nat.le_trans BV.out.size Hr0.out, Below.on' BV.out B9.out⟩
end Go.Proofs.YtomhcccjeadefaaGreatDoor
