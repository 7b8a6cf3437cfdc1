/- YthfmpebgmojcaaaDoorARefTag + YthfmpebgmojcaaaDoorARefSum -/
import Derived.Test.YthfmpebgmojcaaaDoorHRefBase
import Derived.Laws.AppendOwnNone
import Derived.Deep.AppendLies
import Derived.Test.YthfmpebgmojcaaaDoorHRefN9
import Derived.BigRegion
/- The reference's bytes of a hash, and its tags: holdfastref07.bytesOf, Tag. -/
namespace Go.Proofs.YthfmpebgmojcaaaDoor
open Go.RowKit
set_option linter.unusedVariables false
set_option maxRecDepth 20000
def SumOk : Prop := ∀ (w : World) (l : List UInt8) (a : Option Addr) (n cap : Nat), n = l.length → Bytes w a l → (a = none → cap = 0) → l.length ≤ 140737488355000 → l.length ≤ cap →
    Calls Tryd.prog 104 #[.slice a n cap] w fun e w' => ∃ O, e = .returned (.agg O) ∧ Hid (HV O (sha l)) ∧ Below w.heap.size w w'
set_option maxHeartbeats 1000000 in
theorem refBytesOf_any {w : World} {H : Array Value} {h : List UInt8} (hH : HV H h) :
    Calls Tryd.prog 103 #[.agg H] w fun e w' => ∃ v, e = .returned v ∧ w'.ownsRow w.heap.size 5 1 v h.length (cellsOf h) ∧ Below w.heap.size w w' := by
  have HH := hid hH
  have lh : h.length = 32 := hH.len
  have x0 := hid (heap_alloc_new w (.cells H 69))
  have hsz : (Tryd.prog.info? 69).map (·.size) = some H.size := hH.info
  clear hH
  go_enter Tryd.func103, Tryd.ntmps103
  go_wp2_with fail
  go_loopw [3, 4] (fun v3 v4 wr => ∃ k : Nat, k ≤ 32 ∧ v4 = .int .i64 k ∧ wr.ownsRow (w.heap.size + 1) 5 1 v3 (h.take k).length (cellsOf (h.take k)) ∧ wr.heap[w.heap.size]? = some (.cells H 69 (0, 0)) ∧ Below w.heap.size w wr) (fun _ v4 _ => 32 - (intOf v4).toNat)
  case atStart => exact ⟨0, Nat.zero_le _, rfl, World.ownsRow_nil _ _ _ _, x0.out, (Below.refl _ w).alloc (Nat.le_refl _) _⟩
  case round =>
    clear x0
    obtain ⟨k, hk, rfl, hown, hx, hbel⟩ := hrel
    have Hown := hid hown
    have Hx := hid hx
    have Hbel := hid hbel
    have Hbig : Hid (w.heap.size + 1 ≤ wr.heap.size) := heap_lt hx
    clear hown hx hbel
    by_cases hlt : k < 32
    · have hkh : k < h.length := by omega
      have c1 : wr.cell? ⟨w.heap.size, k, none⟩ = some (.int .u8 (h[k].toNat : Int)) := by rw [cell_of_row _ _ _ _ _ _ Hx.out, HH.out.eq, bvs_get h k hkh]
      have Hst : Hid (h.take (k + 1) = h.take k ++ [h[k]]) := List.take_succ_eq_append_getElem hkh
      have Hlen : Hid ((h.take k).length ≤ 32) := by show _ ≤ _; simp; omega
      obtain ⟨c, hc⟩ : ∃ c, c = h[k] := ⟨_, rfl⟩
      rw [← hc] at c1 Hst
      clear hc hkh
      go_wp2_with (at_builtin; refine app_lits _ rfl (.tmp 9) (.tmp 13) rfl (w.heap.size + 1) _ (h.take k) rfl Hown.out [c] 1 rfl rfl (by have := Hlen.out; omega) Hbig.out ?_; intro v' w' hown' hb' hv'; have Hown' := hid hown'; have Hb' := hid hb'; clear hown' hb' hv')
      go_roundw
      case rel =>
        refine ⟨k + 1, by omega, by go_num, ?_, (Hb'.out.block _ (by omega)).trans Hx.out, Hbel.out.trans (Hb'.out.mono (by omega))⟩
        rw [Hst.out]; exact Hown'.out
      case measure => simp [intOf]; omega
    · have hk32 : k = 32 := by omega
      have h1 := Hown.out
      rw [hk32, List.take_of_length_le (by omega)] at h1
      have Hend := hid (own_mono h1 (Nat.le_succ _))
      clear hk32 hk Hown h1
      go_wp2
      go_ret
      exact ⟨_, rfl, Hend.out, Hbel.out⟩
theorem app_srcH (w : World) {ops : Array Oper} {rest : List Oper} {o : Oper} {a : Act} {Q : Exit → Act → World → Prop} (hgd : o.guard = none) (s x : Operand)
    (ho : o.op = .call { callee := .builtin .append, args := #[s, x], argTypes := #[40, 40] }) (base : Nat) (v : Value) (xs : List UInt8) (hs : a.eval s = v)
    (hown : w.ownsRow base 5 1 v xs.length (cellsOf xs)) (ad : Option Addr) (n c : Nat) (news : List UInt8) (hn : n = news.length) (hx : a.eval x = .slice ad n c) (hB : Bytes w ad news) (hc : ad = none → c = 0)
    (hb : xs.length + news.length ≤ 140737488355328) (hbase : base ≤ w.heap.size)
    (h : ∀ v' w', w'.ownsRow base 5 1 v' (xs ++ news).length (cellsOf (xs ++ news)) → w.grownBy w' v.ownBlock → wpList Tryd.prog ops Q rest (a.put o.dst v') w') :
    wpList Tryd.prog ops Q (o :: rest) a w := by
  obtain ⟨i0, hi, hz0, hz1, hz2⟩ := info_parts Tryd.info5
  subst hn
  cases ad with
  | none =>
    have hl : news = [] := by
      cases news with
      | nil => rfl
      | cons c x => obtain ⟨b, o, e, _⟩ := hB 0 (by simp); cases e
    subst hl
    rw [hc rfl] at hx
    refine wpList_append_own_none hgd s x 40 ho base 5 i0 1 Tryd.underlying40 hi v xs.length (cellsOf xs) hs hown hx ?_
    refine h v w ?_ ⟨rfl, rfl, rfl, Nat.le_refl _, fun _ _ _ => rfl⟩
    rw [List.append_nil]
    exact hown
  | some ad =>
    refine wpList_append_own w hgd s x 40 ho base 5 i0 (.int .u8 0) 1 1 Tryd.underlying40 hi hz0 hz1 hz2 rfl (by decide) v xs.length (cellsOf xs) hs hown ad news.length c (cellsOf news) hx (by simp [cellsOf_length]) (fun j u hj => ?_) (cellsOf_one _) (by unfold maxLen; omega) (by omega) hbase ?_
    · have hj' : j < news.length := by
        have := (List.getElem?_eq_some_iff.1 hj).1
        simpa [cellsOf_length] using this
      obtain ⟨b, o, e, hcl⟩ := hB j hj'
      cases e
      rw [addr_add, hcl]
      rw [cellsOf_get news j hj'] at hj
      rw [← hj]
    · intro v' w' h1 h2 h3
      rw [← cellsOf_append, ← List.length_append] at h1
      exact h v' w' h1 h2
theorem bytes_ofH {w : World} {B e : Nat} {v : Value} {n : Nat} {l : List UInt8} (h : w.ownsRow B e 1 v n (cellsOf l)) : ∃ a cap, v = .slice a l.length cap ∧ Bytes w a l ∧ l.length ≤ cap ∧ (a = none → cap = 0) := by
  obtain ⟨a, cap, rfl, h1, h2⟩ := bytes_of_own h
  refine ⟨a, cap, rfl, h1, h2, fun e => ?_⟩
  subst e
  rcases h.2 with ⟨h3, _⟩ | ⟨g, c, cur, h3, _⟩
  · simp at h3; exact h3.2
  · simp at h3
end Go.Proofs.YthfmpebgmojcaaaDoor
/- The reference's SHA-256: holdfastref07.Sum. -/
namespace Go.Proofs.YthfmpebgmojcaaaDoor
open Go.RowKit
set_option linter.unusedVariables false
set_option maxRecDepth 100000
set_option maxHeartbeats 8000000 in
theorem refSum_any {w : World} (l : List UInt8) (a : Option Addr) (n cap : Nat) (hn : n = l.length) (hB : Bytes w a l) (hc : a = none → cap = 0) (hl : l.length ≤ 140737488355000) (hcap : l.length ≤ cap) :
    Calls Tryd.prog 104 #[.slice a n cap] w fun e w' => ∃ O, e = .returned (.agg O) ∧ Hid (HV O (sha l)) ∧ Below w.heap.size w w' := by
  obtain ⟨Z, hZ⟩ : ∃ Z, Z = bvs (List.replicate 32 0) := ⟨_, rfl⟩
  have zh := (zero_of_info zero_hash).1
  rw [← hZ] at zh
  have hz : Hid (HV Z (List.replicate 32 0)) := by
    show HV _ _
    rw [hZ]; exact hv_zero
  have zh := hid zh
  have HB := hid hB
  have Hn := hid hn
  have Hc := hid hc
  clear hZ hB hn hc
  go_enter Tryd.func104, Tryd.ntmps104
  go_wp2_with (with_reducible show Go.wpList _ _ _ _ _ _; refine wpList_alloc_row rfl 69 rfl Z zh.out ?_)
  refine (constants_any _).mono ?_
  rintro _ w1 ⟨rfl, hw1⟩
  have R0 : Hid (w1.heap[w.heap.size]? = some (.cells Z 69 (0, 0))) := by
    show _ = _
    rw [hw1]; exact alloc3_0 _ _ _ _
  have H0 : Hid (w1.heap[w.heap.size + 1]? = some (.cells init.vals 129 (0, 0))) := by
    show _ = _
    rw [hw1]; exact alloc3_1 _ _ _ _
  have K0 : Hid (w1.heap[w.heap.size + 1 + 1]? = some (.cells kcells 129 (0, 0))) := by
    show _ = _
    rw [hw1]; exact alloc3_2 _ _ _ _
  have B0 : Hid (Below w.heap.size w w1) := by
    show Below _ _ _
    rw [hw1]; exact (((Below.refl _ w).alloc (Nat.le_refl _) _).alloc (by simp) _).alloc (by simp; omega) _
  have S0 : Hid (w1.heap.size = w.heap.size + 3) := by
    show _ = _
    rw [hw1]; simp
  clear hw1
  go_wp2_with (at_builtin; first
    | (refine app_src _ rfl (.tmp 27) (.tmp 28) rfl (w.heap.size + 3) _ [] rfl (World.ownsRow_nil _ _ _ _) a n cap l Hn.out rfl (HB.out.below B0.out) Hc.out (by simp; omega) (Nat.le_of_eq S0.out.symm) ?_; intro v2 w2 ho2 hb2; have Ho2 := hid ho2; have Hb2 := hid hb2; have S2 : Hid (w.heap.size + 3 ≤ w2.heap.size) := (by have := hb2.size; have := S0.out; show _ ≤ _; omega); clear ho2 hb2)
    | (refine app_lits _ rfl (.tmp 29) (.tmp 30) rfl (w.heap.size + 3) _ l rfl (by have h := Ho2.out; rwa [List.nil_append] at h) [128] 1 rfl rfl (by omega) S2.out ?_; intro v3 w3 ho3 hb3 hv3; have Ho3 := hid ho3; have Hb3 := hid hb3; clear ho3 hb3 hv3))
  have B3 : Hid (Below (w.heap.size + 3) w1 w3) := Hb2.out.trans Hb3.out
  have nl : noughts l.length < 64 := by unfold noughts; omega
  obtain ⟨nz, hnz⟩ : ∃ nz, nz = noughts l.length := ⟨_, rfl⟩
  have Hnz := hid hnz
  have dnz : nz = (64 - (l.length + 1 + 8) % 64) % 64 := by rw [hnz]; rfl
  rw [← hnz] at nl
  clear Hb2 Hb3 Ho2 S2 HB hnz
  have Dnz := hid dnz
  clear dnz
  go_loopw [5] (fun v5 wr => ∃ k : Nat, k ≤ nz ∧ wr.ownsRow (w.heap.size + 3) 5 1 v5 (zpad l k).length (cellsOf (zpad l k)) ∧ Below (w.heap.size + 3) w1 wr) (fun v5 _ => 200 + l.length - (match v5 with | .slice _ n _ => n | _ => 0))
  case atStart => exact ⟨0, Nat.zero_le _, Ho3.out, B3.out⟩
  case round =>
    clear Ho3 B3
    obtain ⟨k, hk, hown, hbel⟩ := hrel
    have Hown := hid hown
    have Hbel := hid hbel
    obtain ⟨a5, c5, rfl, hB5, hc5⟩ := bytes_of_own hown
    have Hbig : Hid (w.heap.size + 3 ≤ wr.heap.size) := (by have := hbel.size; have := S0.out; show _ ≤ _; omega)
    clear hbel hown
    obtain ⟨N5, hN5⟩ : ∃ N5, N5 = (zpad l k).length := ⟨_, rfl⟩
    have hN5' : N5 = l.length + 1 + k := by rw [hN5, zpad_length]
    have Hown2 : Hid (wr.ownsRow (w.heap.size + 3) 5 1 (.slice a5 N5 c5) (zpad l k).length (cellsOf (zpad l k))) := (by show World.ownsRow _ _ _ _ _ _ _; rw [hN5]; exact Hown.out)
    rw [← hN5] at Hown hc5 ⊢
    have q1 : (N5 : Int).tmod 64 = ((N5 % 64 : Nat) : Int) := by rw [Int.tmod_eq_emod_of_nonneg (by omega)]; omega
    have HN5 := hid hN5
    by_cases hex : N5 % 64 = 56
    rotate_left
    · have q2 : (((N5 % 64 : Nat) : Int) != 56) = true := by rw [bne_iff_ne]; omega
      have hlt : k < nz := by have := Dnz.out; omega
      have hN5b : N5 ≤ 140737488355200 := by omega
      have Hst := hid (zpad_step l k)
      have HL : Hid ((zpad l k).length = N5) := HN5.out.symm
      have Hfin : Hid (N5 < 200 + l.length) := (by show _ < _; omega)
      clear hN5 hN5' hex hB5
      go_wp2_with (at_builtin; refine app_lits _ rfl (.tmp 36) (.tmp 37) rfl (w.heap.size + 3) _ (zpad l k) rfl Hown2.out [0] 1 rfl rfl (by have := HL.out; omega) Hbig.out ?_; intro v' w' hown' hb' hv'; have Hown' := hid hown'; have Hb' := hid hb'; clear hown' hb' hv')
      go_roundw
      case rel => exact ⟨k + 1, by omega, by rw [← Hst.out]; exact Hown'.out, Hbel.out.trans Hb'.out⟩
      case measure =>
        obtain ⟨a6, c6, e6, _, _⟩ := bytes_of_own Hown'.out
        rw [e6]
        have := HL.out
        have := Hfin.out
        simp
        omega
    · have q2 : (((N5 % 64 : Nat) : Int) != 56) = false := by rw [bne_eq_false_iff_eq]; omega
      have q2' : ((N5 : Int) % 64 != 56) = false := by rw [bne_eq_false_iff_eq]; omega
      have hkz : k = nz := by have := Dnz.out; omega
      have Hm0 : Hid (wr.ownsRow (w.heap.size + 3) 5 1 (.slice a5 N5 c5) (mAt l 0).length (cellsOf (mAt l 0))) := by
        have h := Hown.out
        have e : mAt l 0 = zpad l k := by rw [hkz, Hnz.out]; simp [mAt]
        rw [e, ← HN5.out]
        exact h
      have Hn2 : Hid (IntKind.u64.wrap (n : Int) = (l.length : Int)) := (by have := Hn.out; show _ = _; rw [IntKind.wrap_u64]; omega)
      have q3 := Hn2.out
      have q4 : IntKind.u64.wrap ((l.length : Int) * 8) = (l.length : Int) * 8 := by rw [IntKind.wrap_u64]; omega
      obtain ⟨V, hV⟩ : ∃ V, V = wr := ⟨_, rfl⟩
      rw [← hV] at Hm0 Hbig Hbel ⊢
      clear hV hkz hN5 hN5' hex hB5 Hown q1 hk
      go_wp2_with fail
      clear q2 q2'
      go_loopw [5, 7] (fun v5 v7 wr => ∃ k : Nat, k ≤ 8 ∧ v7 = .int .i64 k ∧ wr.ownsRow (w.heap.size + 3) 5 1 v5 (mAt l k).length (cellsOf (mAt l k)) ∧ Below (w.heap.size + 3) w1 wr) (fun _ v7 _ => 8 - (intOf v7).toNat)
      case atStart => exact ⟨0, Nat.zero_le _, rfl, Hm0.out, Hbel.out⟩
      case round =>
        clear Hm0 Hbel Hbig
        obtain ⟨k, hk, rfl, hown, hbel⟩ := hrel
        have Hown := hid hown
        have Hbel := hid hbel
        have Hbig : Hid (w.heap.size + 3 ≤ wr.heap.size) := (by have := hbel.size; have := S0.out; show _ ≤ _; omega)
        clear hown hbel
        by_cases hlt : k < 8
        · have r0 : (0 : Int) ≤ 56 - 8 * (k : Int) := by omega
          have r1 : (56 : Int) - 8 * (k : Int) ≤ 64 := by omega
          have Hst := hid (mAt_step l k hlt)
          obtain ⟨b, hb8⟩ : ∃ b, b = UInt8.ofNat (l.length * 8 / 2 ^ (56 - 8 * k)) := ⟨_, rfl⟩
          have r5 : (l.length : Int) * 8 / 2 ^ (56 - 8 * k) % 256 = (b.toNat : Int) := by
            have h := byte_of (l.length * 8 / 2 ^ (56 - 8 * k))
            rw [← hb8, IntKind.wrap_u8] at h
            rw [← h]
            simp
          rw [← hb8] at Hst
          have Hlen := hid (mAt_length l k)
          clear hb8 q3 q4
          go_wp2_with (at_builtin; refine app_lits _ rfl (.tmp 47) (.tmp 54) rfl (w.heap.size + 3) _ (mAt l k) rfl Hown.out [b] 1 rfl rfl (by have := Hlen.out; omega) Hbig.out ?_; intro v' w' hown' hb' hv'; have Hown' := hid hown'; have Hb' := hid hb'; clear hown' hb' hv')
          go_roundw
          case rel =>
            exact ⟨k + 1, by omega, by go_num, by rw [← Hst.out]; exact Hown'.out, Hbel.out.trans Hb'.out⟩
          case measure => simp [intOf]; omega
        · have hk8 : k = 8 := by omega
          have Hend : Hid (wr.ownsRow (w.heap.size + 3) 5 1 u5 (l ++ pad l.length).length (cellsOf (l ++ pad l.length))) := by
            have h := Hown.out
            rw [hk8, mAt_all] at h
            exact h
          have hpos : 0 < (l ++ pad l.length).length := by rw [List.length_append, pad_length]; omega
          obtain ⟨gm, cm, cur, rfl, hgm, hcur, hcm, _, _, hcut⟩ : ∃ gm cm cur, u5 = .slice (some ⟨gm, 0, none⟩) (l ++ pad l.length).length cm ∧ w.heap.size + 3 ≤ gm ∧ wr.heap[gm]? = some (.cells cur 5 (0, 0)) ∧ (l ++ pad l.length).length ≤ cm ∧ cm ≤ maxLen ∧ cur.size = cm * 1 ∧ cur.toList.take ((l ++ pad l.length).length * 1) = cellsOf (l ++ pad l.length) := by
            rcases Hend.out.2 with ⟨_, h0⟩ | ⟨g, cap, cur, h1, h2, h3, h4, h5, h6, h7⟩
            · omega
            · exact ⟨g, cap, cur, h1, h2, h3, h4, h5, h6, h7⟩
          have Hcur := hid hcur
          have Hcut := hid hcut
          clear hcut
          have hM0 : (l ++ pad l.length).length % 64 = 0 := by rw [List.length_append]; exact pad_whole _
          have hM1 : (l ++ pad l.length).length ≤ 140737488355200 := by
            rw [List.length_append, pad_length]
            have : noughts l.length < 64 := by unfold noughts; omega
            omega
          have Hsha : Hid (sha l = outB (blks init (l ++ pad l.length))) := rfl
          obtain ⟨m, hm⟩ : ∃ m, m = l ++ pad l.length := ⟨_, rfl⟩
          rw [← hm] at Hcut hM0 hM1 Hsha hcm hpos ⊢
          obtain ⟨M, hM⟩ : ∃ M, M = m.length := ⟨_, rfl⟩
          rw [← hM] at Hcut hM0 hM1 hcm hpos ⊢
          rw [Nat.mul_one] at Hcut
          have HM := hid hM
          have HM0 := hid hM0
          obtain ⟨V2, hV2⟩ : ∃ V2, V2 = wr := ⟨_, rfl⟩
          rw [← hV2] at Hcur hcur Hbig Hbel ⊢
          have HR : Hid (V2.heap[w.heap.size]? = some (.cells Z 69 (0, 0))) := (Hbel.out.block _ (by omega)).trans R0.out
          have HKk : Hid (V2.heap[w.heap.size + 1 + 1]? = some (.cells kcells 129 (0, 0))) := (Hbel.out.block _ (by omega)).trans K0.out
          have HV2 : Hid (Below w.heap.size w V2) := B0.out.trans (Hbel.out.mono (by omega))
          have BL0 : Hid (BL w.heap.size gm cur V2 V2 (blks init (m.take (64 * 0)))) := ⟨(by rw [Nat.mul_zero, List.take_zero]; exact (Hbel.out.block _ (by omega)).trans H0.out), HKk.out, hcur, Below.refl _ _⟩
          have Hmb : Hid (∀ (W : World) (i : Nat) (hi : i < m.length), W.heap[gm]? = some (.cells cur 5 (0, 0)) → W.cell? ⟨gm, i, none⟩ = some (.int .u8 (m[i].toNat : Int))) := fun W i hi hW => by
            rw [cell_of_row _ _ _ _ _ _ hW]
            have h1 := congrArg (fun l : List Value => l[i]?) Hcut.out
            simp only [List.getElem?_take_of_lt (show i < M by rw [hM]; exact hi)] at h1
            rw [← Array.getElem?_toList, h1, cellsOf_get m i hi]
          clear hV2 hm hM Hend Hown hk8 hk R0 H0 K0 B0 Hbel q3 q4 hM0 hcur Hcur Hcut HKk
          go_wp2_with fail
          clear hlt
          refine loop3 (N := w.heap.size) (gm := gm) (M := M) (cm := cm) (cur := cur) (V2 := V2) (m := m) HM.out HM0.out hM1 (by omega) Hmb.out ⟨⟨rfl, rfl, rfl, rfl, rfl, rfl⟩, Nat.zero_le _, rfl, BL0.out⟩ ?_
          rename_i K9 hK9
          intro A3 W3 j3 I3 hj3
          show K9 A3 W3
          refine hK9 _ _ ?_
          clear hK9
          have F3 := I3.f
          have hb3 := I3.bl
          have hsm : blks init (m.take (64 * j3)) = blks init m := by rw [hj3, HM.out, List.take_length]
          rw [hsm] at hb3
          have x2 : A3.eval (.tmp 2) = .pointer (some ⟨w.heap.size, 0, none⟩) := F3.x2
          have d3 : A3.defers = [] := F3.df
          have r3 : W3.heap[w.heap.size]? = some (.cells Z 69 (0, 0)) := (hb3.bel.block _ (by omega)).trans HR.out
          have b3 : Below w.heap.size w W3 := HV2.out.trans (hb3.bel.mono (by omega))
          have s3 : w.heap.size + 1 < W3.heap.size := heap_lt hb3.h
          refine wp_seq ?_
          refine wp_split _ (out43 A3 W3 Z zh.out F3.sz) ?_
          rintro A4 W4 ⟨⟨k4, c4⟩, hW4⟩
          show Code.wp _ _ _ A4 W4
          have bb : Below W3.heap.size W3 W4 := by rw [hW4]; exact (Below.refl _ _).alloc (Nat.le_refl _) _
          have F4 := F3.keep k4 (by decide)
          refine wp_seq ?_
          refine wp_seq ?_
          refine wp_split _ (out44 A4 W4 F4.sz) ?_
          rintro A5 W5 ⟨⟨k5, c5'⟩, hW5⟩
          show Code.wp _ _ _ A5 W5
          have F5 := F4.keep k5 (by decide)
          have x23 := (k5.keep 23 (by decide)).trans c4
          refine wp_block ?_
          refine loop9 (N := w.heap.size) (s := blks init m) (Z := Z) (w := w) F5.x3 x23 s3 ⟨F5.sz, Keep.refl _ _, Nat.zero_le _, c5', ?_, ?_, ?_, ?_⟩ ?_
          · rw [hW5, hW4, outAt_zero, ← hz.out.eq]; exact heap_alloc_new W3 _
          · rw [hW5]; exact (bb.block _ s3).trans hb3.h
          · rw [hW5]; exact (bb.block _ (by omega)).trans r3
          · rw [hW5]; exact b3.trans (bb.mono (by omega))
          intro A6 W6 I6
          show Code.wp _ _ _ A6 W6
          have x23_6 := (I6.k.keep 23 (by decide)).trans x23
          have x2_6 := (I6.k.keep 2 (by decide)).trans ((k5.keep 2 (by decide)).trans ((k4.keep 2 (by decide)).trans x2))
          have hO6 := I6.o
          rw [outAt_all] at hO6
          refine wp_seq ?_
          refine wp_split _ (out48 A6 W6 w.heap.size W3.heap.size (outB (blks init m)) (outB_length _) Z hz.out.size I6.sz x2_6 x23_6 hO6 I6.r size_hash) ?_
          rintro A7 W7 ⟨k7, hW7⟩
          show Code.wp _ _ _ A7 W7
          refine wp_ret ?_
          have x2_7 := (k7.keep 2 (by decide)).trans x2_6
          have d7 : A7.defers = [] := k7.df.trans (I6.k.df.trans (k5.df.trans (k4.df.trans d3)))
          show bodyPost _ _ _ _ _ _
          refine bodyPost_ret (results_cell_row rfl _ _ w.heap.size 69 (bvs (outB (blks init m))) (0, 0) _ (by simpa [Act.eval] using x2_7) (by rw [hW7]; exact setRow_heap _ _ _ _ _ _ I6.r) Tryd.underlying69 rfl (by rw [bvs_size, outB_length]; exact size_hash)) d7 ⟨_, rfl, ?_, ?_⟩
          · show HV _ _
            rw [Hsha.out]
            exact ⟨rfl, outB_length _⟩
          · rw [hW7]; exact I6.b.setRow (Nat.le_refl _) _
theorem sumOk : SumOk := fun w l a n cap hn hB hc hl hcap => refSum_any l a n cap hn hB hc hl hcap
end Go.Proofs.YthfmpebgmojcaaaDoor
