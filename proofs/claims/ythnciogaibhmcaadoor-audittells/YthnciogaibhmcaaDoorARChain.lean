/- YthnciogaibhmcaaDoorARefTag + YthnciogaibhmcaaDoorARefSum + YthnciogaibhmcaaDoorARefNum + YthnciogaibhmcaaDoorARefRow + YthnciogaibhmcaaDoorARBytes + YthnciogaibhmcaaDoorARChain -/
import Derived.Test.YthnciogaibhmcaaDoorECopy
import Derived.Laws.AppendOwnNone
import Derived.Test.YthnciogaibhmcaaDoorHMask
import Derived.Test.YthnciogaibhmcaaDoorHTag
import Derived.Deep.AppendLies
import Derived.Test.YthnciogaibhmcaaDoorHRefN9
import Derived.BigRegion
import Derived.Test.YthnciogaibhmcaaDoorARow
import Derived.Test.YthnciogaibhmcaaDoorABytes
/- The reference's bytes of a hash, and its tags: holdfastref07.bytesOf, Tag. -/
namespace Go.Proofs.YthnciogaibhmcaaDoor
open Go.RowKit
set_option linter.unusedVariables false
set_option maxRecDepth 20000

/-- what the reference's Sum answers -/
def SumOk : Prop := ∀ (w : World) (l : List UInt8) (a : Option Addr) (n cap : Nat), n = l.length → Bytes w a l → (a = none → cap = 0) → l.length ≤ 140737488355000 → l.length ≤ cap →
    Calls Tryd.prog 66 #[.slice a n cap] w fun e w' => ∃ O, e = .returned (.agg O) ∧ Hid (HV O (sha l)) ∧ Below w.heap.size w w'

set_option maxHeartbeats 1000000 in
theorem refBytesOf_any {w : World} {H : Array Value} {h : List UInt8} (hH : HV H h) :
    Calls Tryd.prog 65 #[.agg H] w fun e w' => ∃ v, e = .returned v ∧ w'.ownsRow w.heap.size 5 1 v h.length (cellsOf h) ∧ Below w.heap.size w w' := by
  have HH := hid hH
  have lh : h.length = 32 := hH.len
  have x0 := hid (heap_alloc_new w (.cells H 49))
  have hsz : (Tryd.prog.info? 49).map (·.size) = some H.size := hH.info
  clear hH
  go_enter Tryd.func65, Tryd.ntmps65
  go_wp2_with fail
  go_loopw [3, 4] (fun v3 v4 wr => ∃ k : Nat, k ≤ 32 ∧ v4 = .int .i64 k ∧ wr.ownsRow (w.heap.size + 1) 5 1 v3 (h.take k).length (cellsOf (h.take k)) ∧ wr.heap[w.heap.size]? = some (.cells H 49 (0, 0)) ∧ Below w.heap.size w wr) (fun _ v4 _ => 32 - (intOf v4).toNat)
  case atStart => exact ⟨0, Nat.zero_le _, rfl, World.ownsRow_nil _ _ _ _, x0.out, (Below.refl _ w).alloc (Nat.le_refl _) _⟩
  case round =>
    clear x0
    obtain ⟨k, hk, rfl, hown, hx, hbel⟩ := hrel
    have Hown := hid hown
    have Hx := hid hx
    have Hbel := hid hbel
    have Hbig : Hid (w.heap.size + 1 ≤ wr.heap.size) := heap_lt hx
    clear hown hx hbel
    by_cases hlt : k < 32
    · have hkh : k < h.length := by omega
      have c1 : wr.cell? ⟨w.heap.size, k, none⟩ = some (.int .u8 (h[k].toNat : Int)) := by rw [cell_of_row _ _ _ _ _ _ Hx.out, HH.out.eq, bvs_get h k hkh]
      have Hst : Hid (h.take (k + 1) = h.take k ++ [h[k]]) := List.take_succ_eq_append_getElem hkh
      have Hlen : Hid ((h.take k).length ≤ 32) := by show _ ≤ _; simp; omega
      obtain ⟨c, hc⟩ : ∃ c, c = h[k] := ⟨_, rfl⟩
      rw [← hc] at c1 Hst
      clear hc hkh
      go_wp2_with (at_builtin; refine app_lits _ rfl (.tmp 9) (.tmp 13) rfl (w.heap.size + 1) _ (h.take k) rfl Hown.out [c] 1 rfl rfl (by have := Hlen.out; omega) Hbig.out ?_; intro v' w' hown' hb' hv'; have Hown' := hid hown'; have Hb' := hid hb'; clear hown' hb' hv')
      go_roundw
      case rel =>
        refine ⟨k + 1, by omega, by go_num, ?_, (Hb'.out.block _ (by omega)).trans Hx.out, Hbel.out.trans (Hb'.out.mono (by omega))⟩
        rw [Hst.out]; exact Hown'.out
      case measure => simp [intOf]; omega
    · have hk32 : k = 32 := by omega
      have h1 := Hown.out
      rw [hk32, List.take_of_length_le (by omega)] at h1
      have Hend := hid (own_mono h1 (Nat.le_succ _))
      clear hk32 hk Hown h1
      go_wp2
      go_ret
      exact ⟨_, rfl, Hend.out, Hbel.out⟩

/-- append(v, src...) where v is the call's own, src whatever bytes; which blocks turn -/
theorem app_srcH (w : World) {ops : Array Oper} {rest : List Oper} {o : Oper} {a : Act} {Q : Exit → Act → World → Prop} (hgd : o.guard = none) (s x : Operand)
    (ho : o.op = .call { callee := .builtin .append, args := #[s, x], argTypes := #[84, 84] }) (base : Nat) (v : Value) (xs : List UInt8) (hs : a.eval s = v)
    (hown : w.ownsRow base 5 1 v xs.length (cellsOf xs)) (ad : Option Addr) (n c : Nat) (news : List UInt8) (hn : n = news.length) (hx : a.eval x = .slice ad n c) (hB : Bytes w ad news) (hc : ad = none → c = 0)
    (hb : xs.length + news.length ≤ 140737488355328) (hbase : base ≤ w.heap.size)
    (h : ∀ v' w', w'.ownsRow base 5 1 v' (xs ++ news).length (cellsOf (xs ++ news)) → w.grownBy w' v.ownBlock → wpList Tryd.prog ops Q rest (a.put o.dst v') w') :
    wpList Tryd.prog ops Q (o :: rest) a w := by
  obtain ⟨i0, hi, hz0, hz1, hz2⟩ := info_parts Tryd.info5
  subst hn
  cases ad with
  | none =>
    have hl : news = [] := by
      cases news with
      | nil => rfl
      | cons c x => obtain ⟨b, o, e, _⟩ := hB 0 (by simp); cases e
    subst hl
    rw [hc rfl] at hx
    refine wpList_append_own_none hgd s x 84 ho base 5 i0 1 Tryd.underlying84 hi v xs.length (cellsOf xs) hs hown hx ?_
    refine h v w ?_ ⟨rfl, rfl, rfl, Nat.le_refl _, fun _ _ _ => rfl⟩
    rw [List.append_nil]
    exact hown
  | some ad =>
    refine wpList_append_own w hgd s x 84 ho base 5 i0 (.int .u8 0) 1 1 Tryd.underlying84 hi hz0 hz1 hz2 rfl (by decide) v xs.length (cellsOf xs) hs hown ad news.length c (cellsOf news) hx (by simp [cellsOf_length]) (fun j u hj => ?_) (cellsOf_one _) (by unfold maxLen; omega) (by omega) hbase ?_
    · have hj' : j < news.length := by
        have := (List.getElem?_eq_some_iff.1 hj).1
        simpa [cellsOf_length] using this
      obtain ⟨b, o, e, hcl⟩ := hB j hj'
      cases e
      rw [addr_add, hcl]
      rw [cellsOf_get news j hj'] at hj
      rw [← hj]
    · intro v' w' h1 h2 h3
      rw [← cellsOf_append, ← List.length_append] at h1
      exact h v' w' h1 h2

theorem bytes_ofH {w : World} {B e : Nat} {v : Value} {n : Nat} {l : List UInt8} (h : w.ownsRow B e 1 v n (cellsOf l)) : ∃ a cap, v = .slice a l.length cap ∧ Bytes w a l ∧ l.length ≤ cap ∧ (a = none → cap = 0) := by
  obtain ⟨a, cap, rfl, h1, h2⟩ := bytes_of_own h
  refine ⟨a, cap, rfl, h1, h2, fun e => ?_⟩
  subst e
  rcases h.2 with ⟨h3, _⟩ | ⟨g, c, cur, h3, _⟩
  · simp at h3; exact h3.2
  · simp at h3
end Go.Proofs.YthnciogaibhmcaaDoor

/- The reference's SHA-256: holdfastref07.Sum. -/
namespace Go.Proofs.YthnciogaibhmcaaDoor
open Go.RowKit
set_option linter.unusedVariables false
set_option maxRecDepth 100000
set_option maxHeartbeats 8000000 in
theorem refSum_any {w : World} (l : List UInt8) (a : Option Addr) (n cap : Nat) (hn : n = l.length) (hB : Bytes w a l) (hc : a = none → cap = 0) (hl : l.length ≤ 140737488355000) (hcap : l.length ≤ cap) :
    Calls Tryd.prog 66 #[.slice a n cap] w fun e w' => ∃ O, e = .returned (.agg O) ∧ Hid (HV O (sha l)) ∧ Below w.heap.size w w' := by
  obtain ⟨Z, hZ⟩ : ∃ Z, Z = bvs (List.replicate 32 0) := ⟨_, rfl⟩
  have zh := (zero_of_info zero_hash).1
  rw [← hZ] at zh
  have hz : Hid (HV Z (List.replicate 32 0)) := by
    show HV _ _
    rw [hZ]; exact hv_zero
  have zh := hid zh
  have HB := hid hB
  have Hn := hid hn
  have Hc := hid hc
  clear hZ hB hn hc
  go_enter Tryd.func66, Tryd.ntmps66
  go_wp2_with (with_reducible show Go.wpList _ _ _ _ _ _; refine wpList_alloc_row rfl 49 rfl Z zh.out ?_)
  refine (constants_any _).mono ?_
  rintro _ w1 ⟨rfl, hw1⟩
  have R0 : Hid (w1.heap[w.heap.size]? = some (.cells Z 49 (0, 0))) := by
    show _ = _
    rw [hw1]; exact alloc3_0 _ _ _ _
  have H0 : Hid (w1.heap[w.heap.size + 1]? = some (.cells init.vals 101 (0, 0))) := by
    show _ = _
    rw [hw1]; exact alloc3_1 _ _ _ _
  have K0 : Hid (w1.heap[w.heap.size + 1 + 1]? = some (.cells kcells 101 (0, 0))) := by
    show _ = _
    rw [hw1]; exact alloc3_2 _ _ _ _
  have B0 : Hid (Below w.heap.size w w1) := by
    show Below _ _ _
    rw [hw1]; exact (((Below.refl _ w).alloc (Nat.le_refl _) _).alloc (by simp) _).alloc (by simp; omega) _
  have S0 : Hid (w1.heap.size = w.heap.size + 3) := by
    show _ = _
    rw [hw1]; simp
  clear hw1
  go_wp2_with (at_builtin; first
    | (refine app_src _ rfl (.tmp 27) (.tmp 28) rfl (w.heap.size + 3) _ [] rfl (World.ownsRow_nil _ _ _ _) a n cap l Hn.out rfl (HB.out.below B0.out) Hc.out (by simp; omega) (Nat.le_of_eq S0.out.symm) ?_; intro v2 w2 ho2 hb2; have Ho2 := hid ho2; have Hb2 := hid hb2; have S2 : Hid (w.heap.size + 3 ≤ w2.heap.size) := (by have := hb2.size; have := S0.out; show _ ≤ _; omega); clear ho2 hb2)
    | (refine app_lits _ rfl (.tmp 29) (.tmp 30) rfl (w.heap.size + 3) _ l rfl (by have h := Ho2.out; rwa [List.nil_append] at h) [128] 1 rfl rfl (by omega) S2.out ?_; intro v3 w3 ho3 hb3 hv3; have Ho3 := hid ho3; have Hb3 := hid hb3; clear ho3 hb3 hv3))
  have B3 : Hid (Below (w.heap.size + 3) w1 w3) := Hb2.out.trans Hb3.out
  have nl : noughts l.length < 64 := by unfold noughts; omega
  obtain ⟨nz, hnz⟩ : ∃ nz, nz = noughts l.length := ⟨_, rfl⟩
  have Hnz := hid hnz
  have dnz : nz = (64 - (l.length + 1 + 8) % 64) % 64 := by rw [hnz]; rfl
  rw [← hnz] at nl
  clear Hb2 Hb3 Ho2 S2 HB hnz
  have Dnz := hid dnz
  clear dnz
  go_loopw [5] (fun v5 wr => ∃ k : Nat, k ≤ nz ∧ wr.ownsRow (w.heap.size + 3) 5 1 v5 (zpad l k).length (cellsOf (zpad l k)) ∧ Below (w.heap.size + 3) w1 wr) (fun v5 _ => 200 + l.length - (match v5 with | .slice _ n _ => n | _ => 0))
  case atStart => exact ⟨0, Nat.zero_le _, Ho3.out, B3.out⟩
  case round =>
    clear Ho3 B3
    obtain ⟨k, hk, hown, hbel⟩ := hrel
    have Hown := hid hown
    have Hbel := hid hbel
    obtain ⟨a5, c5, rfl, hB5, hc5⟩ := bytes_of_own hown
    have Hbig : Hid (w.heap.size + 3 ≤ wr.heap.size) := (by have := hbel.size; have := S0.out; show _ ≤ _; omega)
    clear hbel hown
    obtain ⟨N5, hN5⟩ : ∃ N5, N5 = (zpad l k).length := ⟨_, rfl⟩
    have hN5' : N5 = l.length + 1 + k := by rw [hN5, zpad_length]
    have Hown2 : Hid (wr.ownsRow (w.heap.size + 3) 5 1 (.slice a5 N5 c5) (zpad l k).length (cellsOf (zpad l k))) := (by show World.ownsRow _ _ _ _ _ _ _; rw [hN5]; exact Hown.out)
    rw [← hN5] at Hown hc5 ⊢
    have q1 : (N5 : Int).tmod 64 = ((N5 % 64 : Nat) : Int) := by rw [Int.tmod_eq_emod_of_nonneg (by omega)]; omega
    have HN5 := hid hN5
    by_cases hex : N5 % 64 = 56
    rotate_left
    · have q2 : (((N5 % 64 : Nat) : Int) != 56) = true := by rw [bne_iff_ne]; omega
      have hlt : k < nz := by have := Dnz.out; omega
      have hN5b : N5 ≤ 140737488355200 := by omega
      have Hst := hid (zpad_step l k)
      have HL : Hid ((zpad l k).length = N5) := HN5.out.symm
      have Hfin : Hid (N5 < 200 + l.length) := (by show _ < _; omega)
      clear hN5 hN5' hex hB5
      go_wp2_with (at_builtin; refine app_lits _ rfl (.tmp 36) (.tmp 37) rfl (w.heap.size + 3) _ (zpad l k) rfl Hown2.out [0] 1 rfl rfl (by have := HL.out; omega) Hbig.out ?_; intro v' w' hown' hb' hv'; have Hown' := hid hown'; have Hb' := hid hb'; clear hown' hb' hv')
      go_roundw
      case rel => exact ⟨k + 1, by omega, by rw [← Hst.out]; exact Hown'.out, Hbel.out.trans Hb'.out⟩
      case measure =>
        obtain ⟨a6, c6, e6, _, _⟩ := bytes_of_own Hown'.out
        rw [e6]
        have := HL.out
        have := Hfin.out
        simp
        omega
    · have q2 : (((N5 % 64 : Nat) : Int) != 56) = false := by rw [bne_eq_false_iff_eq]; omega
      have q2' : ((N5 : Int) % 64 != 56) = false := by rw [bne_eq_false_iff_eq]; omega
      have hkz : k = nz := by have := Dnz.out; omega
      have Hm0 : Hid (wr.ownsRow (w.heap.size + 3) 5 1 (.slice a5 N5 c5) (mAt l 0).length (cellsOf (mAt l 0))) := by
        have h := Hown.out
        have e : mAt l 0 = zpad l k := by rw [hkz, Hnz.out]; simp [mAt]
        rw [e, ← HN5.out]
        exact h
      have Hn2 : Hid (IntKind.u64.wrap (n : Int) = (l.length : Int)) := (by have := Hn.out; show _ = _; rw [IntKind.wrap_u64]; omega)
      have q3 := Hn2.out
      have q4 : IntKind.u64.wrap ((l.length : Int) * 8) = (l.length : Int) * 8 := by rw [IntKind.wrap_u64]; omega
      obtain ⟨V, hV⟩ : ∃ V, V = wr := ⟨_, rfl⟩
      rw [← hV] at Hm0 Hbig Hbel ⊢
      clear hV hkz hN5 hN5' hex hB5 Hown q1 hk
      go_wp2_with fail
      clear q2 q2'
      go_loopw [5, 7] (fun v5 v7 wr => ∃ k : Nat, k ≤ 8 ∧ v7 = .int .i64 k ∧ wr.ownsRow (w.heap.size + 3) 5 1 v5 (mAt l k).length (cellsOf (mAt l k)) ∧ Below (w.heap.size + 3) w1 wr) (fun _ v7 _ => 8 - (intOf v7).toNat)
      case atStart => exact ⟨0, Nat.zero_le _, rfl, Hm0.out, Hbel.out⟩
      case round =>
        clear Hm0 Hbel Hbig
        obtain ⟨k, hk, rfl, hown, hbel⟩ := hrel
        have Hown := hid hown
        have Hbel := hid hbel
        have Hbig : Hid (w.heap.size + 3 ≤ wr.heap.size) := (by have := hbel.size; have := S0.out; show _ ≤ _; omega)
        clear hown hbel
        by_cases hlt : k < 8
        · have r0 : (0 : Int) ≤ 56 - 8 * (k : Int) := by omega
          have r1 : (56 : Int) - 8 * (k : Int) ≤ 64 := by omega
          have Hst := hid (mAt_step l k hlt)
          obtain ⟨b, hb8⟩ : ∃ b, b = UInt8.ofNat (l.length * 8 / 2 ^ (56 - 8 * k)) := ⟨_, rfl⟩
          have r5 : (l.length : Int) * 8 / 2 ^ (56 - 8 * k) % 256 = (b.toNat : Int) := by
            have h := byte_of (l.length * 8 / 2 ^ (56 - 8 * k))
            rw [← hb8, IntKind.wrap_u8] at h
            rw [← h]
            simp
          rw [← hb8] at Hst
          have Hlen := hid (mAt_length l k)
          clear hb8 q3 q4
          go_wp2_with (at_builtin; refine app_lits _ rfl (.tmp 47) (.tmp 54) rfl (w.heap.size + 3) _ (mAt l k) rfl Hown.out [b] 1 rfl rfl (by have := Hlen.out; omega) Hbig.out ?_; intro v' w' hown' hb' hv'; have Hown' := hid hown'; have Hb' := hid hb'; clear hown' hb' hv')
          go_roundw
          case rel =>
            exact ⟨k + 1, by omega, by go_num, by rw [← Hst.out]; exact Hown'.out, Hbel.out.trans Hb'.out⟩
          case measure => simp [intOf]; omega
        · have hk8 : k = 8 := by omega
          have Hend : Hid (wr.ownsRow (w.heap.size + 3) 5 1 u5 (l ++ pad l.length).length (cellsOf (l ++ pad l.length))) := by
            have h := Hown.out
            rw [hk8, mAt_all] at h
            exact h
          have hpos : 0 < (l ++ pad l.length).length := by rw [List.length_append, pad_length]; omega
          obtain ⟨gm, cm, cur, rfl, hgm, hcur, hcm, _, _, hcut⟩ : ∃ gm cm cur, u5 = .slice (some ⟨gm, 0, none⟩) (l ++ pad l.length).length cm ∧ w.heap.size + 3 ≤ gm ∧ wr.heap[gm]? = some (.cells cur 5 (0, 0)) ∧ (l ++ pad l.length).length ≤ cm ∧ cm ≤ maxLen ∧ cur.size = cm * 1 ∧ cur.toList.take ((l ++ pad l.length).length * 1) = cellsOf (l ++ pad l.length) := by
            rcases Hend.out.2 with ⟨_, h0⟩ | ⟨g, cap, cur, h1, h2, h3, h4, h5, h6, h7⟩
            · omega
            · exact ⟨g, cap, cur, h1, h2, h3, h4, h5, h6, h7⟩
          have Hcur := hid hcur
          have Hcut := hid hcut
          clear hcut
          have hM0 : (l ++ pad l.length).length % 64 = 0 := by rw [List.length_append]; exact pad_whole _
          have hM1 : (l ++ pad l.length).length ≤ 140737488355200 := by
            rw [List.length_append, pad_length]
            have : noughts l.length < 64 := by unfold noughts; omega
            omega
          have Hsha : Hid (sha l = outB (blks init (l ++ pad l.length))) := rfl
          obtain ⟨m, hm⟩ : ∃ m, m = l ++ pad l.length := ⟨_, rfl⟩
          rw [← hm] at Hcut hM0 hM1 Hsha hcm hpos ⊢
          obtain ⟨M, hM⟩ : ∃ M, M = m.length := ⟨_, rfl⟩
          rw [← hM] at Hcut hM0 hM1 hcm hpos ⊢
          rw [Nat.mul_one] at Hcut
          have HM := hid hM
          have HM0 := hid hM0
          obtain ⟨V2, hV2⟩ : ∃ V2, V2 = wr := ⟨_, rfl⟩
          rw [← hV2] at Hcur hcur Hbig Hbel ⊢
          have HR : Hid (V2.heap[w.heap.size]? = some (.cells Z 49 (0, 0))) := (Hbel.out.block _ (by omega)).trans R0.out
          have HKk : Hid (V2.heap[w.heap.size + 1 + 1]? = some (.cells kcells 101 (0, 0))) := (Hbel.out.block _ (by omega)).trans K0.out
          have HV2 : Hid (Below w.heap.size w V2) := B0.out.trans (Hbel.out.mono (by omega))
          have BL0 : Hid (BL w.heap.size gm cur V2 V2 (blks init (m.take (64 * 0)))) := ⟨(by rw [Nat.mul_zero, List.take_zero]; exact (Hbel.out.block _ (by omega)).trans H0.out), HKk.out, hcur, Below.refl _ _⟩
          have Hmb : Hid (∀ (W : World) (i : Nat) (hi : i < m.length), W.heap[gm]? = some (.cells cur 5 (0, 0)) → W.cell? ⟨gm, i, none⟩ = some (.int .u8 (m[i].toNat : Int))) := fun W i hi hW => by
            rw [cell_of_row _ _ _ _ _ _ hW]
            have h1 := congrArg (fun l : List Value => l[i]?) Hcut.out
            simp only [List.getElem?_take_of_lt (show i < M by rw [hM]; exact hi)] at h1
            rw [← Array.getElem?_toList, h1, cellsOf_get m i hi]
          clear hV2 hm hM Hend Hown hk8 hk R0 H0 K0 B0 Hbel q3 q4 hM0 hcur Hcur Hcut HKk
          go_wp2_with fail
          clear hlt
          refine loop3 (N := w.heap.size) (gm := gm) (M := M) (cm := cm) (cur := cur) (V2 := V2) (m := m) HM.out HM0.out hM1 (by omega) Hmb.out ⟨⟨rfl, rfl, rfl, rfl, rfl, rfl⟩, Nat.zero_le _, rfl, BL0.out⟩ ?_
          rename_i K9 hK9
          intro A3 W3 j3 I3 hj3
          show K9 A3 W3
          refine hK9 _ _ ?_
          clear hK9
          have F3 := I3.f
          have hb3 := I3.bl
          have hsm : blks init (m.take (64 * j3)) = blks init m := by rw [hj3, HM.out, List.take_length]
          rw [hsm] at hb3
          have x2 : A3.eval (.tmp 2) = .pointer (some ⟨w.heap.size, 0, none⟩) := F3.x2
          have d3 : A3.defers = [] := F3.df
          have r3 : W3.heap[w.heap.size]? = some (.cells Z 49 (0, 0)) := (hb3.bel.block _ (by omega)).trans HR.out
          have b3 : Below w.heap.size w W3 := HV2.out.trans (hb3.bel.mono (by omega))
          have s3 : w.heap.size + 1 < W3.heap.size := heap_lt hb3.h
          refine wp_seq ?_
          refine wp_split _ (out43 A3 W3 Z zh.out F3.sz) ?_
          rintro A4 W4 ⟨⟨k4, c4⟩, hW4⟩
          show Code.wp _ _ _ A4 W4
          have bb : Below W3.heap.size W3 W4 := by rw [hW4]; exact (Below.refl _ _).alloc (Nat.le_refl _) _
          have F4 := F3.keep k4 (by decide)
          refine wp_seq ?_
          refine wp_seq ?_
          refine wp_split _ (out44 A4 W4 F4.sz) ?_
          rintro A5 W5 ⟨⟨k5, c5'⟩, hW5⟩
          show Code.wp _ _ _ A5 W5
          have F5 := F4.keep k5 (by decide)
          have x23 := (k5.keep 23 (by decide)).trans c4
          refine wp_block ?_
          refine loop9 (N := w.heap.size) (s := blks init m) (Z := Z) (w := w) F5.x3 x23 s3 ⟨F5.sz, Keep.refl _ _, Nat.zero_le _, c5', ?_, ?_, ?_, ?_⟩ ?_
          · rw [hW5, hW4, outAt_zero, ← hz.out.eq]; exact heap_alloc_new W3 _
          · rw [hW5]; exact (bb.block _ s3).trans hb3.h
          · rw [hW5]; exact (bb.block _ (by omega)).trans r3
          · rw [hW5]; exact b3.trans (bb.mono (by omega))
          intro A6 W6 I6
          show Code.wp _ _ _ A6 W6
          have x23_6 := (I6.k.keep 23 (by decide)).trans x23
          have x2_6 := (I6.k.keep 2 (by decide)).trans ((k5.keep 2 (by decide)).trans ((k4.keep 2 (by decide)).trans x2))
          have hO6 := I6.o
          rw [outAt_all] at hO6
          refine wp_seq ?_
          refine wp_split _ (out48 A6 W6 w.heap.size W3.heap.size (outB (blks init m)) (outB_length _) Z hz.out.size I6.sz x2_6 x23_6 hO6 I6.r size_hash) ?_
          rintro A7 W7 ⟨k7, hW7⟩
          show Code.wp _ _ _ A7 W7
          refine wp_ret ?_
          have x2_7 := (k7.keep 2 (by decide)).trans x2_6
          have d7 : A7.defers = [] := k7.df.trans (I6.k.df.trans (k5.df.trans (k4.df.trans d3)))
          show bodyPost _ _ _ _ _ _
          refine bodyPost_ret (results_cell_row rfl _ _ w.heap.size 49 (bvs (outB (blks init m))) (0, 0) _ (by simpa [Act.eval] using x2_7) (by rw [hW7]; exact setRow_heap _ _ _ _ _ _ I6.r) Tryd.underlying49 rfl (by rw [bvs_size, outB_length]; exact size_hash)) d7 ⟨_, rfl, ?_, ?_⟩
          · show HV _ _
            rw [Hsha.out]
            exact ⟨rfl, outB_length _⟩
          · rw [hW7]; exact I6.b.setRow (Nat.le_refl _) _
theorem sumOk : SumOk := fun w l a n cap hn hB hc hl hcap => refSum_any l a n cap hn hB hc hl hcap
end Go.Proofs.YthnciogaibhmcaaDoor

/- The reference's Number, by a contract. -/
namespace Go.Proofs.YthnciogaibhmcaaDoor
open Go.RowKit
set_option linter.unusedVariables false
set_option maxRecDepth 20000

abbrev digits16 : ByteArray := ⟨#[48, 49, 50, 51, 52, 53, 54, 55, 56, 57, 97, 98, 99, 100, 101, 102]⟩
theorem digits16_at : ∀ d : Fin 16, digits16.data[d.val]? = some (hexc d.val) := by decide +kernel
theorem hex16_at (d : Nat) (hd : d < 16) (h : d < digits16.size) : digits16[d]'h = hexc d :=
  (Array.getElem?_eq_some_iff.1 (digits16_at ⟨d, hd⟩)).2

set_option maxHeartbeats 400000 in
theorem digit_any (d : Nat) (hd : d < 16) (w : World) :
    Calls Tryd.prog 75 #[.int .i64 d] w fun e w' => e = .returned (.int .u8 ((hexc d).toNat : Int)) ∧ w' = w := by
  go_enter Tryd.func75, Tryd.ntmps75
  go_wp2
  go_ret
  exact ⟨ret_int (by rw [← hex16_at d hd (by exact hd)]), rfl⟩

/-- the letter of k digits -/
def letk (k : Nat) : UInt8 := UInt8.ofNat (97 + k)
theorem letk_toNat (k : Nat) (hk : k ≤ 16) : (letk k).toNat = 97 + k := by
  unfold letk
  rw [UInt8.toNat_ofNat']
  omega

/-- string([]byte{c}) -/
theorem cv1 (W : World) (c : UInt8) : (convert 84 9 (.slice (some ⟨W.heap.size, 0, none⟩) 1 1)).run Tryd.prog (W.alloc (.cells #[.int .u8 (c.toNat : Int)] 5)) =
    .ok (.string ⟨#[c]⟩) (W.alloc (.cells #[.int .u8 (c.toNat : Int)] 5)) := by
  exact run_convert_bytes_back (P := Tryd.prog) (W.alloc (.cells #[.int .u8 (c.toNat : Int)] 5)) 84 9 5 ⟨W.heap.size, 0, none⟩ 1 [c] Tryd.underlying84 Tryd.underlying5 Tryd.underlying9 (fun j hj => by
    have : j = 0 := by simpa using hj
    subst this
    simp [Addr.add])
theorem cvk (W : World) (k : Nat) (hk : k ≤ 16) : (convert 84 9 (.slice (some ⟨W.heap.size, 0, none⟩) 1 1)).run Tryd.prog (W.alloc (.cells #[.int .u8 (97 + (k : Int))] 5)) =
    .ok (.string ⟨#[letk k]⟩) (W.alloc (.cells #[.int .u8 (97 + (k : Int))] 5)) := by
  have h := cv1 W (letk k)
  rw [letk_toNat k hk] at h
  simpa using h

theorem lo_cons (k n u : Nat) (hu : u = n / 16 ^ k) : (⟨#[hexc (u % 16)]⟩ : ByteArray) ++ ⟨(lo k n).toArray⟩ = ⟨(lo (k + 1) n).toArray⟩ := by
  rw [lo, ← hu]
  apply ByteArray.ext
  simp [ByteArray.data_append]

theorem numT_of (n k : Nat) (h1 : k = 0 ∨ 16 ^ (k - 1) ≤ n) (h2 : n < 16 ^ k) : (⟨#[letk k]⟩ : ByteArray) ++ ⟨(lo k n).toArray⟩ = ⟨(numT n).toArray⟩ := by
  cases k with
  | zero =>
    have : n = 0 := by simpa using h2
    subst this
    rfl
  | succ k =>
    have hn : n ≠ 0 := by
      rcases h1 with h1 | h1
      · omega
      · have := Nat.pow_pos (n := k) (show 0 < 16 by omega)
        simp at h1
        omega
    have h3 : k = 0 ∨ 16 ^ k ≤ n := by
      rcases h1 with h1 | h1
      · omega
      · exact .inr (by simpa using h1)
    unfold numT
    rw [if_neg hn, log_of n k hn h3 h2]
    have e : letk (k + 1) = letr k := by unfold letk letr; rw [show 97 + (k + 1) = 98 + k by omega]
    rw [e]
    apply ByteArray.ext
    simp [ByteArray.data_append]

theorem next_pow (n k u : Nat) (hn : n ≤ 4611686018427387904) (hu : u = n / 16 ^ k) (h : 0 < u) : 16 ^ k ≤ n ∧ k + 1 ≤ 16 := by
  have h1 : 16 ^ k ≤ n := by
    rw [hu] at h
    have := (Nat.le_div_iff_mul_le (Nat.pow_pos (show 0 < 16 by omega))).1 h
    omega
  refine ⟨h1, ?_⟩
  have h2 : 16 ^ k < 16 ^ 16 := Nat.lt_of_le_of_lt (Nat.le_trans h1 hn) (by decide)
  have := (Nat.pow_lt_pow_iff_right (a := 16) (by omega)).1 h2
  omega

set_option maxHeartbeats 400000 in
theorem refNumber_any (n : Nat) (h : n ≤ 4611686018427387904) (w : World) :
    Calls Tryd.prog 61 #[.int .i64 n] w fun e w' => e = .returned (.tuple #[.string ⟨(numT n).toArray⟩, .int .i64 0]) ∧ Below w.heap.size w w' := by
  have d1 : decide ((n : Int) < 0) = false := by simp
  have d2 : decide (4611686018427387904 < (n : Int)) = false := by simp; omega
  go_enter Tryd.func61, Tryd.ntmps61
  go_wp2_with fail
  go_loopw [0, 4, 5] (fun m s c wr => ∃ k : Nat, k ≤ 16 ∧ (k = 0 ∨ 16 ^ (k - 1) ≤ n) ∧ m = .int .i64 ((n / 16 ^ k : Nat) : Int) ∧ s = .string ⟨(lo k n).toArray⟩ ∧ c = .int .i64 k ∧ Below w.heap.size w wr) (fun m _ _ _ => (intOf m).toNat)
  case atStart => exact ⟨0, by omega, .inl rfl, by simp, rfl, rfl, Below.refl _ _⟩
  case round =>
    obtain ⟨k, hk, hkn, rfl, rfl, rfl, hbel⟩ := hrel
    obtain ⟨u, hu⟩ : ∃ u, u = n / 16 ^ k := ⟨_, rfl⟩
    rw [← hu]
    have Hu := hid hu
    have Hkn := hid hkn
    have hun : u ≤ 4611686018427387904 := by rw [hu]; exact Nat.le_trans (Nat.div_le_self _ _) h
    have hl := lo_length k n
    clear hu hkn
    by_cases hu0 : 0 < u
    · have hnp := hid (next_pow n k u h Hu.out hu0)
      have hcv := cv1
      go_wp2_with (go_at_call 75; refine (digit_any (u % 16) (Nat.mod_lt _ (by omega)) _).mono ?_; rintro e w' ⟨rfl, rfl⟩)
      go_roundw
      case rel =>
        refine ⟨k + 1, hnp.out.2, .inr (by simpa using hnp.out.1), ?_, congrArg Value.string (lo_cons k n u Hu.out), by go_num, hbel.alloc hbel.size _⟩
        rw [Nat.pow_succ, ← Nat.div_div_eq_div_mul, ← Hu.out]; go_num
      case measure => simp [intOf]; omega
    · have hcv := fun W => cvk W k hk
      go_wp2
      go_ret2
      refine ⟨ret_two (congrArg Value.string (numT_of n k Hkn.out ?_)) rfl, hbel.alloc hbel.size _⟩
      have h0 : n / 16 ^ k = 0 := by rw [← Hu.out]; omega
      exact (Nat.div_eq_zero_iff.1 h0).resolve_left (by have := Nat.pow_pos (n := k) (show 0 < 16 by omega); omega)

theorem refNum_any (n : Nat) (h : n ≤ 4611686018427387904) (w : World) :
    Calls Tryd.prog 41 #[.int .i64 n] w fun e w' => e = .returned (.string ⟨(numT n).toArray⟩) ∧ Below w.heap.size w w' := by
  go_enter Tryd.func41, Tryd.ntmps41
  go_wp2_with (go_at_call 61; refine (refNumber_any n h _).mono ?_; rintro e w' ⟨rfl, hb⟩)
  go_ret
  exact ⟨rfl, hb⟩
end Go.Proofs.YthnciogaibhmcaaDoor

/- The reference's Row, by a contract. -/
namespace Go.Proofs.YthnciogaibhmcaaDoor
open Go.RowKit
set_option linter.unusedVariables false
set_option maxRecDepth 20000

set_option maxHeartbeats 400000 in
theorem refRow_any (l : List ByteArray) (a : Option Addr) (cap : Nat) (w : World) (hT : Texts w a l) (hsz : ∀ s ∈ l, s.size ≤ 140737488351232) (hlen : l.length ≤ 140737488351232) :
    Calls Tryd.prog 67 #[.slice a l.length cap] w fun e w' => ∃ a' cap', e = .returned (.tuple #[.slice a' (rowRes l).length cap', .int .i64 (rowErr l : Int)]) ∧ Bytes w' a' (rowRes l) ∧ Below w.heap.size w w' ∧ (rowRes l).length ≤ cap' ∧ (a' = none → cap' = 0) := by
  by_cases h8 : 8 < l.length
  · have e1 : rowErr l = 2 := by unfold rowErr; rw [if_pos h8]
    have e2 : rowRes l = [] := by unfold rowRes; rw [e1, if_neg (by omega)]
    rw [e1, e2]
    go_enter Tryd.func67, Tryd.ntmps67
    go_wp2
    go_ret2
    exact ⟨none, 0, rfl, fun i hi => by simp at hi, Below.refl _ _, Nat.le_refl _, fun _ => rfl⟩
  have HT := hid hT
  have Hsz := hid hsz
  clear hT hsz
  have Hown := hid (own_lit w l.length (by omega))
  have E : Hid (∀ e r, rowErr l = e → rowRes l = r → rowErr l = e) := fun _ _ h _ => h
  generalize he : rowErr l = er
  generalize hr : rowRes l = rr
  have He := hid he
  have Hr := hid hr
  clear he hr E
  go_enter Tryd.func67, Tryd.ntmps67
  go_wp2_with fail
  go_loopw [4, 5] (fun v i wr => ∃ k : Nat, k ≤ l.length ∧ i = .int .i64 k ∧ wr.ownsRow w.heap.size 5 1 v (rowTo l k).length (cellsOf (rowTo l k)) ∧ Below w.heap.size w wr ∧ ∀ s ∈ l.take k, s.size ≤ 70) (fun _ i _ => l.length - (intOf i).toNat)
  case atStart => exact ⟨0, Nat.zero_le _, rfl, Hown.out, (Below.refl _ _).alloc (Nat.le_refl _) _, by simp⟩
  case round =>
    obtain ⟨k, hk, rfl, hownr, hbel, hsm⟩ := hrel
    have hbd := rowTo_bound l k hk hsm
    have Hownr := hid hownr
    have hszr := hbel.size
    have Hbel := hid hbel
    have Hsm := hid hsm
    clear hownr hbel hsm
    by_cases hlt : k < l.length
    · obtain ⟨b, o, ha, hcw⟩ := HT.out k hlt
      have hblt : b < w.heap.size := World.block_lt_of_cell? _ _ hcw
      have hc := (Hbel.out.cell (p := ⟨b, o + k, none⟩) hblt).trans hcw
      clear hcw
      have Hstep := hid (rowTo_step l k hlt)
      have Hmem : Hid (l[k]'hlt ∈ l) := List.getElem_mem _
      have Htk : Hid (l.take (k + 1) = l.take k ++ [l[k]'hlt]) := List.take_succ_eq_append_getElem hlt
      generalize (l[k]'hlt) = s at hc Hstep Hmem Htk
      subst ha
      have hs47 := Hsz.out s Hmem.out
      by_cases h70 : 70 < s.size
      · have e1 : er = 6 := by
          rw [← He.out]
          unfold rowErr
          rw [if_neg h8, if_pos (List.any_eq_true.2 ⟨s, Hmem.out, by simpa using h70⟩)]
        have e2 : rr = [] := by rw [← Hr.out]; unfold rowRes; rw [He.out, e1, if_neg (by omega)]
        subst e1
        subst e2
        go_wp2
        go_ret2
        exact ⟨none, 0, rfl, fun i hi => by simp at hi, Hbel.out, Nat.le_refl _, fun _ => rfl⟩
      · generalize hys : rowTo l k = ys at Hownr hbd Hstep
        have Hys := hid hys
        clear hys
        go_wp2_with (first | (at_builtin; refine app_nat _ rfl (.tmp 25) (.tmp 32) rfl w.heap.size _ ys rfl Hownr.out s.size (by omega) rfl (by omega) (by omega) ?_; intro v1 w1 ho1 hb1 hs1; have hc1 := (hb1.cell (p := ⟨b, o + k, none⟩) hblt).trans hc) | (at_builtin; refine app_str _ rfl (.tmp 34) (.tmp 38) rfl w.heap.size _ (ys ++ [UInt8.ofNat s.size]) rfl ho1 s rfl (by simp; omega) (by have := hb1.size; omega) ?_; intro v2 w2 ho2 hb2 hs2))
        go_roundw
        case rel =>
          refine ⟨k + 1, by omega, by go_num, by rw [Hstep.out]; exact ho2, Hbel.out.trans (hb1.trans hb2), ?_⟩
          intro t ht
          rw [Htk.out] at ht
          rcases List.mem_append.1 ht with h | h
          · exact Hsm.out t h
          · have : t = s := by simpa using h
            subst this
            omega
        case measure => simp [intOf]; omega
    · have hk' : k = l.length := by omega
      have hany : l.any (fun s => decide (70 < s.size)) = false := by
        rw [← Bool.not_eq_true, List.any_eq_true]
        rintro ⟨s, hs, h⟩
        have := Hsm.out s (by rw [hk', List.take_length]; exact hs)
        simp at h
        omega
      have hrow : rowTo l k = rowOf (bs l) := by
        unfold rowTo rowOf
        rw [hk', List.take_length]
        simp [bs]
      rw [hrow] at Hownr hbd
      obtain ⟨av, cv, hv, hB, hcap, hnone⟩ := bytes_ofH Hownr.out
      have Hnone := hid hnone
      clear hnone
      have HB := hid hB
      clear hB
      by_cases h72 : 72 < (rowOf (bs l)).length
      · have e1 : er = 6 := by
          rw [← He.out]
          unfold rowErr
          rw [if_neg h8, hany, if_neg (by simp), if_pos h72]
        have e2 : rr = [] := by rw [← Hr.out]; unfold rowRes; rw [He.out, e1, if_neg (by omega)]
        subst e1
        subst e2
        subst hv
        clear hany hrow hk'
        go_wp2
        go_ret2
        exact ⟨none, 0, rfl, fun i hi => by simp at hi, Hbel.out, Nat.le_refl _, fun _ => rfl⟩
      · have e1 : er = 0 := by
          rw [← He.out]
          unfold rowErr
          rw [if_neg h8, hany, if_neg (by simp), if_neg h72]
        have e2 : rr = rowOf (bs l) := by rw [← Hr.out]; unfold rowRes; rw [He.out, e1, if_pos rfl]
        subst e1
        subst e2
        subst hv
        clear hany hrow hk'
        go_wp2
        go_ret2
        exact ⟨av, cv, rfl, HB.out, Hbel.out, hcap, Hnone.out⟩
end Go.Proofs.YthnciogaibhmcaaDoor

/- The reference's bytes of an event: holdfastref14.Bytes by a contract (printed out of ABytes by gen/arbytes.py). -/
namespace Go.Proofs.YthnciogaibhmcaaDoor
open Go.RowKit
set_option linter.unusedVariables false
set_option maxRecDepth 20000
theorem rNum_any (n : Nat) (h : n ≤ 4611686018427387904) (w : World) : Calls Tryd.prog 41 #[.int .i64 (n : Int)] w fun e w' => e = .returned (.string (txt n)) ∧ Below w.heap.size w w' := refNum_any n h w
/-- what the reference's Bytes answers -/
def RBPost (w : World) (l : List UInt8) (x : Ending) (w' : World) : Prop := ∃ a cap, x = .returned (.slice a l.length cap) ∧ Bytes w' a l ∧ Below w.heap.size w w' ∧ l.length ≤ cap ∧ (a = none → cap = 0)
theorem hf_rnum : ∀ (args : Array Value) (w : World), (callFunc 41 args).run Tryd.prog w = .ok (.enter 41 args) w := fun args w => by simp [go_sem]
theorem hf_rrow : ∀ (args : Array Value) (w : World), (callFunc 67 args).run Tryd.prog w = .ok (.enter 67 args) w := fun args w => by simp [go_sem]

set_option maxHeartbeats 2000000 in
theorem rBytes_any (w : World) (e : Ev) (hn : e.num ≤ 4611686018427387904) (ht : e.tim ≤ 4611686018427387904) (h1 : e.what.size ≤ 12) (h2 : e.who.size ≤ 30) :
    Calls Tryd.prog 51 #[.agg (eVals e).toArray] w (RBPost w (evB e)) := by
  have HR := hid (fun (p q : ByteArray) (hp : p.size ≤ 100) (hq : q.size ≤ 100) (W : World) (ad : Option Addr) (h : Texts W ad [p, q, e.what, e.who]) => refRow_any [p, q, e.what, e.who] ad 4 W h (fun s hs => by simp at hs; rcases hs with rfl | rfl | rfl | rfl <;> omega) (by simp))
  have N1 : ∀ n, n ≤ 4611686018427387904 → (txt n).size ≤ 100 := fun n h => by
    show (numT n).toArray.size ≤ 100
    unfold numT
    split
    · decide
    · rw [List.size_toArray, List.length_cons, lo_length]
      have := (Nat.log2_lt (by omega)).2 (show n < 2 ^ 63 by omega)
      omega
  obtain ⟨pt, hpt⟩ : ∃ pt, pt = txt e.num := ⟨_, rfl⟩
  obtain ⟨qt, hqt⟩ : ∃ qt, qt = txt e.tim := ⟨_, rfl⟩
  have hl : Hid (rowRes [pt, qt, e.what, e.who] = evB e) := by
    show _ = _
    rw [hpt, hqt]; rfl
  have C1 := hid (fun W => rNum_any e.num hn W)
  have C2 := hid (fun W => rNum_any e.tim ht W)
  have s1 := N1 e.num hn
  have s2 := N1 e.tim ht
  rw [← hpt] at C1 s1
  rw [← hqt] at C2 s2
  have HR := hid (HR.out pt qt s1 s2)
  rw [hl.out] at HR
  clear hl N1 hpt hqt
  generalize evB e = l at *
  generalize ((rowErr [pt, qt, e.what, e.who] : Nat) : Int) = er at *
  unfold eVals
  generalize e.num = p at *
  generalize e.tim = q at *
  generalize e.what = r at *
  generalize e.who = s at *
  clear hn ht s1 s2 h1 h2
  obtain ⟨W, hW⟩ : ∃ W, W = w.alloc (.cells #[.int .i64 (p : Int), .int .i64 (q : Int), .string r, .string s] 60) := ⟨_, rfl⟩
  have hb1 : Below w.heap.size w W := by rw [hW]; exact (Below.refl _ w).alloc (Nat.le_refl _) _
  have t0 : W.heap[w.heap.size]? = some (.cells #[.int .i64 (p : Int), .int .i64 (q : Int), .string r, .string s] 60 (0, 0)) := by rw [hW]; exact heap_alloc_new w _
  have d0 := (Array.getElem?_eq_some_iff.1 t0).1
  have q0 : W.cell? ⟨w.heap.size, 0, none⟩ = some (.int .i64 (p : Int)) := cell_of_row _ _ 0 _ _ _ t0
  have q1 : W.cell? ⟨w.heap.size, 1, none⟩ = some (.int .i64 (q : Int)) := cell_of_row _ _ 1 _ _ _ t0
  have q2 : W.cell? ⟨w.heap.size, 2, none⟩ = some (.string r) := cell_of_row _ _ 2 _ _ _ t0
  have q3 : W.cell? ⟨w.heap.size, 3, none⟩ = some (.string s) := cell_of_row _ _ 3 _ _ _ t0
  have HW := hid hW
  have HB := hid hb1
  clear hb1 hW t0
  go_enter Tryd.func51, Tryd.ntmps51
  go_wp2
  rw [← HW.out]
  have hm : Tryd.prog.follows .mixedOrders = true := by kernel_rfl
  refine wp_act _ fun A hA => ?_
  have sz : A.tmps.size = 21 := by rw [hA]; rfl
  have e1 : A.eval (.tmp 1) = .pointer (some ⟨w.heap.size, 0, none⟩) := by rw [hA]; rfl
  have hs0 : Below W.heap.size W W.drew := (Below.refl _ W).drew
  refine wp_split (fun a V => ∃ (w2 : World) (aC : Option Addr) (cC : Nat), a = ⟨#[.agg #[.int .i64 (p : Int), .int .i64 (q : Int), .string r, .string s], .pointer (some ⟨w.heap.size, 0, none⟩), .slice none 0 0, .slice aC l.length cC, .int .i64 er, .tuple #[.slice aC l.length cC, .int .i64 er], .pointer (some ⟨w.heap.size, 0, none⟩), .int .i64 (p : Int), .string pt, .pointer (some ⟨w.heap.size, 1, none⟩), .int .i64 (q : Int), .string qt, .pointer (some ⟨w.heap.size, 2, none⟩), .string r, .pointer (some ⟨w.heap.size, 3, none⟩), .string s, .slice (some ⟨w2.heap.size, 0, none⟩) 4 4, .tuple #[.slice aC l.length cC, .int .i64 er], .slice aC l.length cC, .int .i64 er, undef], []⟩ ∧ Bytes V aC l ∧ Below w.heap.size w V ∧ l.length ≤ cC ∧ (aC = none → cC = 0)) ?_ ?_
  · refine wp_region_held (S := fun V => Below W.heap.size W V) hm ?_
    show wpAnyH _ _ _ _ _ _ _ A W.drew
    refine wpAnyH_take (i := 0) (v := .pointer (some ⟨w.heap.size, 0, none⟩)) rfl (by kernel_rfl) (by kernel_rfl) (by kernel_rfl) (fun _ _ _ h => nomatch h.1) (y_ev 0 (by decide) (by simp [Region.wanted]) (.tmp 1) rfl w.heap.size e1) hs0 ?_
    show wpAnyH _ _ _ _ _ _ _ (A.put (some 6) (.pointer (some ⟨w.heap.size, 0, none⟩))) _
    refine wpAnyH_take (i := 1) (v := .int .i64 (p : Int)) rfl (by kernel_rfl) (by kernel_rfl) (by kernel_rfl) (fun _ _ _ h => nomatch h.1) (y_loadI (by simp [Region.wanted]) (.tmp 6) rfl w.heap.size 0 _ (ev_eq _ _ (by simp [sz])) (fun V hV => (hV.cell (p := ⟨w.heap.size, 0, none⟩) d0).trans q0)) hs0 ?_
    show wpAnyH _ _ _ _ _ _ _ ((A.put (some 6) (.pointer (some ⟨w.heap.size, 0, none⟩))).put (some 7) (.int .i64 (p : Int))) _
    refine wpAnyH_take (i := 3) (v := .pointer (some ⟨w.heap.size, 1, none⟩)) rfl (by kernel_rfl) (by kernel_rfl) (by kernel_rfl) (fun _ _ _ h => nomatch h.1) (y_ev 1 (by decide) (by simp [Region.wanted]) (.tmp 1) rfl w.heap.size ((ev_ne _ _ (by decide)).trans ((ev_ne _ _ (by decide)).trans e1))) hs0 ?_
    show wpAnyH _ _ _ _ _ _ _ (((A.put (some 6) (.pointer (some ⟨w.heap.size, 0, none⟩))).put (some 7) (.int .i64 (p : Int))).put (some 9) (.pointer (some ⟨w.heap.size, 1, none⟩))) _
    refine wpAnyH_take (i := 4) (v := .int .i64 (q : Int)) rfl (by kernel_rfl) (by kernel_rfl) (by kernel_rfl) (fun _ _ _ h => nomatch h.1) (y_loadI (by simp [Region.wanted]) (.tmp 9) rfl w.heap.size 1 _ (ev_eq _ _ (by simp [put_sz, sz])) (fun V hV => (hV.cell (p := ⟨w.heap.size, 1, none⟩) d0).trans q1)) hs0 ?_
    show wpAnyH _ _ _ _ _ _ _ ((((A.put (some 6) (.pointer (some ⟨w.heap.size, 0, none⟩))).put (some 7) (.int .i64 (p : Int))).put (some 9) (.pointer (some ⟨w.heap.size, 1, none⟩))).put (some 10) (.int .i64 (q : Int))) _
    refine wpAnyH_take (i := 6) (v := .pointer (some ⟨w.heap.size, 2, none⟩)) rfl (by kernel_rfl) (by kernel_rfl) (by kernel_rfl) (fun _ _ _ h => nomatch h.1) (y_ev 2 (by decide) (by simp [Region.wanted]) (.tmp 1) rfl w.heap.size ((ev_ne _ _ (by decide)).trans ((ev_ne _ _ (by decide)).trans ((ev_ne _ _ (by decide)).trans ((ev_ne _ _ (by decide)).trans e1))))) hs0 ?_
    show wpAnyH _ _ _ _ _ _ _ (((((A.put (some 6) (.pointer (some ⟨w.heap.size, 0, none⟩))).put (some 7) (.int .i64 (p : Int))).put (some 9) (.pointer (some ⟨w.heap.size, 1, none⟩))).put (some 10) (.int .i64 (q : Int))).put (some 12) (.pointer (some ⟨w.heap.size, 2, none⟩))) _
    refine wpAnyH_take (i := 7) (v := .string r) rfl (by kernel_rfl) (by kernel_rfl) (by kernel_rfl) (fun _ _ _ h => nomatch h.1) (y_loadS (by simp [Region.wanted]) (.tmp 12) rfl w.heap.size 2 _ (ev_eq _ _ (by simp [put_sz, sz])) (fun V hV => (hV.cell (p := ⟨w.heap.size, 2, none⟩) d0).trans q2)) hs0 ?_
    show wpAnyH _ _ _ _ _ _ _ ((((((A.put (some 6) (.pointer (some ⟨w.heap.size, 0, none⟩))).put (some 7) (.int .i64 (p : Int))).put (some 9) (.pointer (some ⟨w.heap.size, 1, none⟩))).put (some 10) (.int .i64 (q : Int))).put (some 12) (.pointer (some ⟨w.heap.size, 2, none⟩))).put (some 13) (.string r)) _
    refine wpAnyH_take (i := 8) (v := .pointer (some ⟨w.heap.size, 3, none⟩)) rfl (by kernel_rfl) (by kernel_rfl) (by kernel_rfl) (fun _ _ _ h => nomatch h.1) (y_ev 3 (by decide) (by simp [Region.wanted]) (.tmp 1) rfl w.heap.size ((ev_ne _ _ (by decide)).trans ((ev_ne _ _ (by decide)).trans ((ev_ne _ _ (by decide)).trans ((ev_ne _ _ (by decide)).trans ((ev_ne _ _ (by decide)).trans ((ev_ne _ _ (by decide)).trans e1))))))) hs0 ?_
    show wpAnyH _ _ _ _ _ _ _ (((((((A.put (some 6) (.pointer (some ⟨w.heap.size, 0, none⟩))).put (some 7) (.int .i64 (p : Int))).put (some 9) (.pointer (some ⟨w.heap.size, 1, none⟩))).put (some 10) (.int .i64 (q : Int))).put (some 12) (.pointer (some ⟨w.heap.size, 2, none⟩))).put (some 13) (.string r)).put (some 14) (.pointer (some ⟨w.heap.size, 3, none⟩))) _
    refine wpAnyH_take (i := 9) (v := .string s) rfl (by kernel_rfl) (by kernel_rfl) (by kernel_rfl) (fun _ _ _ h => nomatch h.1) (y_loadS (by simp [Region.wanted]) (.tmp 14) rfl w.heap.size 3 _ (ev_eq _ _ (by simp [put_sz, sz])) (fun V hV => (hV.cell (p := ⟨w.heap.size, 3, none⟩) d0).trans q3)) hs0 ?_
    show wpAnyH _ _ _ _ _ _ _ ((((((((A.put (some 6) (.pointer (some ⟨w.heap.size, 0, none⟩))).put (some 7) (.int .i64 (p : Int))).put (some 9) (.pointer (some ⟨w.heap.size, 1, none⟩))).put (some 10) (.int .i64 (q : Int))).put (some 12) (.pointer (some ⟨w.heap.size, 2, none⟩))).put (some 13) (.string r)).put (some 14) (.pointer (some ⟨w.heap.size, 3, none⟩))).put (some 15) (.string s)) _
    refine wpAnyH_all (rs := [2]) (by kernel_rfl) (by simp) fun i1 hm1 => ?_
    obtain rfl : i1 = 2 := by simpa using hm1
    refine wpOp_own rfl rfl fun K1 hK1 => ?_
    refine wp_calls1 41 hf_rnum (.tmp 7) _ rfl (.int .i64 (p : Int)) ((ev_ne _ _ (by decide)).trans ((ev_ne _ _ (by decide)).trans ((ev_ne _ _ (by decide)).trans ((ev_ne _ _ (by decide)).trans ((ev_ne _ _ (by decide)).trans ((ev_ne _ _ (by decide)).trans (ev_eq _ _ (by simp [put_sz, sz])))))))) ?_
    refine (C1.out _).mono ?_
    rintro _ w1 ⟨rfl, hb1⟩
    have hs1 := hs0.trans (hb1.mono hs0.size)
    refine ⟨_, rfl, hK1 _ _ ⟨(hs1), ?_⟩⟩
    clear hK1 K1 hm1
    show wpAnyH _ _ _ _ _ _ _ (((((((((A.put (some 6) (.pointer (some ⟨w.heap.size, 0, none⟩))).put (some 7) (.int .i64 (p : Int))).put (some 9) (.pointer (some ⟨w.heap.size, 1, none⟩))).put (some 10) (.int .i64 (q : Int))).put (some 12) (.pointer (some ⟨w.heap.size, 2, none⟩))).put (some 13) (.string r)).put (some 14) (.pointer (some ⟨w.heap.size, 3, none⟩))).put (some 15) (.string s)).put (some 8) (.string pt)) _
    refine wpAnyH_all (rs := [5]) (by kernel_rfl) (by simp) fun i2 hm2 => ?_
    obtain rfl : i2 = 5 := by simpa using hm2
    refine wpOp_own rfl rfl fun K2 hK2 => ?_
    refine wp_calls1 41 hf_rnum (.tmp 10) _ rfl (.int .i64 (q : Int)) ((ev_ne _ _ (by decide)).trans ((ev_ne _ _ (by decide)).trans ((ev_ne _ _ (by decide)).trans ((ev_ne _ _ (by decide)).trans ((ev_ne _ _ (by decide)).trans (ev_eq _ _ (by simp [put_sz, sz]))))))) ?_
    refine (C2.out _).mono ?_
    rintro _ w2 ⟨rfl, hb2⟩
    have hs2 := hs1.trans (hb2.mono hs1.size)
    refine ⟨_, rfl, hK2 _ _ ⟨(hs2), ?_⟩⟩
    clear hK2 K2 hm2
    show wpAnyH _ _ _ _ _ _ _ ((((((((((A.put (some 6) (.pointer (some ⟨w.heap.size, 0, none⟩))).put (some 7) (.int .i64 (p : Int))).put (some 9) (.pointer (some ⟨w.heap.size, 1, none⟩))).put (some 10) (.int .i64 (q : Int))).put (some 12) (.pointer (some ⟨w.heap.size, 2, none⟩))).put (some 13) (.string r)).put (some 14) (.pointer (some ⟨w.heap.size, 3, none⟩))).put (some 15) (.string s)).put (some 8) (.string pt)).put (some 11) (.string qt)) _
    refine wpAnyH_all (rs := [10]) (by kernel_rfl) (by simp) fun i3 hm3 => ?_
    obtain rfl : i3 = 10 := by simpa using hm3
    refine wpOp_own rfl rfl fun K3 hK3 => ?_
    refine wp_build4 (.tmp 8) (.tmp 11) (.tmp 13) (.tmp 15) rfl pt qt r s ((ev_ne _ _ (by decide)).trans (ev_eq _ _ (by simp [put_sz, sz]))) (ev_eq _ _ (by simp [put_sz, sz])) ((ev_ne _ _ (by decide)).trans ((ev_ne _ _ (by decide)).trans ((ev_ne _ _ (by decide)).trans ((ev_ne _ _ (by decide)).trans (ev_eq _ _ (by simp [put_sz, sz])))))) ((ev_ne _ _ (by decide)).trans ((ev_ne _ _ (by decide)).trans (ev_eq _ _ (by simp [put_sz, sz])))) ?_
    have hs3 := hs2.alloc hs2.size (.cells #[.string pt, .string qt, .string r, .string s] 9)
    refine hK3 _ _ ⟨(hs3), ?_⟩
    clear hK3 K3 hm3
    show wpAnyH _ _ _ _ _ _ _ (((((((((((A.put (some 6) (.pointer (some ⟨w.heap.size, 0, none⟩))).put (some 7) (.int .i64 (p : Int))).put (some 9) (.pointer (some ⟨w.heap.size, 1, none⟩))).put (some 10) (.int .i64 (q : Int))).put (some 12) (.pointer (some ⟨w.heap.size, 2, none⟩))).put (some 13) (.string r)).put (some 14) (.pointer (some ⟨w.heap.size, 3, none⟩))).put (some 15) (.string s)).put (some 8) (.string pt)).put (some 11) (.string qt)).put (some 16) (.slice (some ⟨w2.heap.size, 0, none⟩) 4 4)) _
    refine wpAnyH_all (rs := [11]) (by kernel_rfl) (by simp) fun i4 hm4 => ?_
    obtain rfl : i4 = 11 := by simpa using hm4
    refine wpOp_own rfl rfl fun K4 hK4 => ?_
    refine wp_calls1 67 hf_rrow (.tmp 16) _ rfl (.slice (some ⟨w2.heap.size, 0, none⟩) 4 4) (ev_eq _ _ (by simp [put_sz, sz])) ?_
    refine (HR.out _ _ (texts_new _ _ _ _)).mono ?_
    rintro _ w4 ⟨aC, cC, rfl, hbyC, hbC, hcC, hnC⟩
    have hs4 := hs3.trans (hbC.mono hs3.size)
    refine ⟨_, rfl, hK4 _ _ ⟨(hs4), ?_⟩⟩
    clear hK4 K4 hm4
    show wpAnyH _ _ _ _ _ _ _ ((((((((((((A.put (some 6) (.pointer (some ⟨w.heap.size, 0, none⟩))).put (some 7) (.int .i64 (p : Int))).put (some 9) (.pointer (some ⟨w.heap.size, 1, none⟩))).put (some 10) (.int .i64 (q : Int))).put (some 12) (.pointer (some ⟨w.heap.size, 2, none⟩))).put (some 13) (.string r)).put (some 14) (.pointer (some ⟨w.heap.size, 3, none⟩))).put (some 15) (.string s)).put (some 8) (.string pt)).put (some 11) (.string qt)).put (some 16) (.slice (some ⟨w2.heap.size, 0, none⟩) 4 4)).put (some 17) (.tuple #[.slice aC l.length cC, .int .i64 er])) _
    refine wpAnyH_take (i := 12) (v := .tuple #[.slice aC l.length cC, .int .i64 er]) rfl (by kernel_rfl) (by kernel_rfl) (by kernel_rfl) (fun _ _ _ h => nomatch h.1) (yields_move (by simp [Region.wanted]) (.tmp 17) rfl _ (ev_eq _ _ (by simp [put_sz, sz]))) (hs4) ?_
    show wpAnyH _ _ _ _ _ _ _ (((((((((((((A.put (some 6) (.pointer (some ⟨w.heap.size, 0, none⟩))).put (some 7) (.int .i64 (p : Int))).put (some 9) (.pointer (some ⟨w.heap.size, 1, none⟩))).put (some 10) (.int .i64 (q : Int))).put (some 12) (.pointer (some ⟨w.heap.size, 2, none⟩))).put (some 13) (.string r)).put (some 14) (.pointer (some ⟨w.heap.size, 3, none⟩))).put (some 15) (.string s)).put (some 8) (.string pt)).put (some 11) (.string qt)).put (some 16) (.slice (some ⟨w2.heap.size, 0, none⟩) 4 4)).put (some 17) (.tuple #[.slice aC l.length cC, .int .i64 er])).put (some 5) (.tuple #[.slice aC l.length cC, .int .i64 er])) _
    refine wpAnyH_take (i := 13) (v := .slice aC l.length cC) rfl (by kernel_rfl) (by kernel_rfl) (by kernel_rfl) (fun _ _ _ h => nomatch h.1) (y_ext0 (by simp [Region.wanted]) (.tmp 5) rfl _ _ (ev_eq _ _ (by simp [put_sz, sz]))) (hs4) ?_
    show wpAnyH _ _ _ _ _ _ _ ((((((((((((((A.put (some 6) (.pointer (some ⟨w.heap.size, 0, none⟩))).put (some 7) (.int .i64 (p : Int))).put (some 9) (.pointer (some ⟨w.heap.size, 1, none⟩))).put (some 10) (.int .i64 (q : Int))).put (some 12) (.pointer (some ⟨w.heap.size, 2, none⟩))).put (some 13) (.string r)).put (some 14) (.pointer (some ⟨w.heap.size, 3, none⟩))).put (some 15) (.string s)).put (some 8) (.string pt)).put (some 11) (.string qt)).put (some 16) (.slice (some ⟨w2.heap.size, 0, none⟩) 4 4)).put (some 17) (.tuple #[.slice aC l.length cC, .int .i64 er])).put (some 5) (.tuple #[.slice aC l.length cC, .int .i64 er])).put (some 18) (.slice aC l.length cC)) _
    refine wpAnyH_take (i := 14) (v := .int .i64 er) rfl (by kernel_rfl) (by kernel_rfl) (by kernel_rfl) (fun _ _ _ h => nomatch h.1) (y_ext1 (by simp [Region.wanted]) (.tmp 5) rfl _ _ ((ev_ne _ _ (by decide)).trans (ev_eq _ _ (by simp [put_sz, sz])))) (hs4) ?_
    show wpAnyH _ _ _ _ _ _ _ (((((((((((((((A.put (some 6) (.pointer (some ⟨w.heap.size, 0, none⟩))).put (some 7) (.int .i64 (p : Int))).put (some 9) (.pointer (some ⟨w.heap.size, 1, none⟩))).put (some 10) (.int .i64 (q : Int))).put (some 12) (.pointer (some ⟨w.heap.size, 2, none⟩))).put (some 13) (.string r)).put (some 14) (.pointer (some ⟨w.heap.size, 3, none⟩))).put (some 15) (.string s)).put (some 8) (.string pt)).put (some 11) (.string qt)).put (some 16) (.slice (some ⟨w2.heap.size, 0, none⟩) 4 4)).put (some 17) (.tuple #[.slice aC l.length cC, .int .i64 er])).put (some 5) (.tuple #[.slice aC l.length cC, .int .i64 er])).put (some 18) (.slice aC l.length cC)).put (some 19) (.int .i64 er)) _
    refine wpAnyH_take (i := 15) (v := .slice aC l.length cC) rfl (by kernel_rfl) (by kernel_rfl) (by kernel_rfl) (fun _ _ _ h => nomatch h.1) (y_assign (by simp [Region.wanted]) (.tmp 18) rfl _ ((ev_ne _ _ (by decide)).trans (ev_eq _ _ (by simp [put_sz, sz])))) (hs4) ?_
    show wpAnyH _ _ _ _ _ _ _ ((((((((((((((((A.put (some 6) (.pointer (some ⟨w.heap.size, 0, none⟩))).put (some 7) (.int .i64 (p : Int))).put (some 9) (.pointer (some ⟨w.heap.size, 1, none⟩))).put (some 10) (.int .i64 (q : Int))).put (some 12) (.pointer (some ⟨w.heap.size, 2, none⟩))).put (some 13) (.string r)).put (some 14) (.pointer (some ⟨w.heap.size, 3, none⟩))).put (some 15) (.string s)).put (some 8) (.string pt)).put (some 11) (.string qt)).put (some 16) (.slice (some ⟨w2.heap.size, 0, none⟩) 4 4)).put (some 17) (.tuple #[.slice aC l.length cC, .int .i64 er])).put (some 5) (.tuple #[.slice aC l.length cC, .int .i64 er])).put (some 18) (.slice aC l.length cC)).put (some 19) (.int .i64 er)).put (some 3) (.slice aC l.length cC)) _
    refine wpAnyH_take (i := 16) (v := .int .i64 er) rfl (by kernel_rfl) (by kernel_rfl) (by kernel_rfl) (fun _ _ _ h => nomatch h.1) (y_assign (by simp [Region.wanted]) (.tmp 19) rfl _ ((ev_ne _ _ (by decide)).trans (ev_eq _ _ (by simp [put_sz, sz])))) (hs4) ?_
    show wpAnyH _ _ _ _ _ _ _ (((((((((((((((((A.put (some 6) (.pointer (some ⟨w.heap.size, 0, none⟩))).put (some 7) (.int .i64 (p : Int))).put (some 9) (.pointer (some ⟨w.heap.size, 1, none⟩))).put (some 10) (.int .i64 (q : Int))).put (some 12) (.pointer (some ⟨w.heap.size, 2, none⟩))).put (some 13) (.string r)).put (some 14) (.pointer (some ⟨w.heap.size, 3, none⟩))).put (some 15) (.string s)).put (some 8) (.string pt)).put (some 11) (.string qt)).put (some 16) (.slice (some ⟨w2.heap.size, 0, none⟩) 4 4)).put (some 17) (.tuple #[.slice aC l.length cC, .int .i64 er])).put (some 5) (.tuple #[.slice aC l.length cC, .int .i64 er])).put (some 18) (.slice aC l.length cC)).put (some 19) (.int .i64 er)).put (some 3) (.slice aC l.length cC)).put (some 4) (.int .i64 er)) _
    refine wpAnyH_done (by kernel_rfl) ⟨rfl, w2, aC, cC, ?_, hbyC, HB.out.trans (hs4.mono HB.out.size), hcC, hnC⟩ _
    rw [hA]
    simp [Act.put]
  · rintro _ V ⟨w2, aC, cC, rfl, hby, hb, hcc, hnn⟩
    have HBy := hid hby
    have Hnn := hid hnn
    have HBb := hid hb
    clear hby hb hnn e1 sz hA
    go_wp2
    go_ret
    exact ⟨aC, cC, rfl, HBy.out, HBb.out, hcc, Hnn.out⟩
end Go.Proofs.YthnciogaibhmcaaDoor

/- The reference's chained hash: holdfastref07.Chain by a contract. -/
namespace Go.Proofs.YthnciogaibhmcaaDoor
open Go.RowKit
set_option linter.unusedVariables false
set_option maxRecDepth 20000

set_option maxHeartbeats 1000000 in
theorem refChain_any {w : World} {h : List UInt8} {H : Array Value} (hH : HV H h) (b : List UInt8) (a : Option Addr) (n cap : Nat) (hn : n = b.length) (hB : Bytes w a b) (hl : b.length ≤ 1000) (hc : a = none → cap = 0) :
    Calls Tryd.prog 50 #[.agg H, .slice a n cap] w fun e w' => ∃ O, e = .returned (.agg O) ∧ Hid (HV O (sha (h ++ b))) ∧ Below w.heap.size w w' := by
  obtain ⟨Z, hZ⟩ : ∃ Z, Z = bvs (List.replicate 32 0) := ⟨_, rfl⟩
  have zh := (zero_of_info zero_hash).1
  rw [← hZ] at zh
  have hz : Hid (HV Z (List.replicate 32 0)) := by
    show HV _ _
    rw [hZ]; exact hv_zero
  have zh := hid zh
  have HB := hid hB
  have HH := hid hH
  have Hn := hid hn
  have Hc := hid hc
  have lh : h.length = 32 := hH.len
  have hsz : (Tryd.prog.info? 49).map (·.size) = some H.size := hH.info
  have x0 : Hid (((w.alloc (.cells H 49)).alloc (.cells Z 49)).heap[w.heap.size]? = some (.cells H 49 (0, 0))) := heap_alloc2_old w _ _
  have y0 : Hid (((w.alloc (.cells H 49)).alloc (.cells Z 49)).heap[w.heap.size + 1]? = some (.cells Z 49 (0, 0))) := heap_alloc2_new w _ _
  have b0 : Hid (Below w.heap.size w ((w.alloc (.cells H 49)).alloc (.cells Z 49))) := ((Below.refl _ w).alloc (Nat.le_refl _) _).alloc (by simp) _
  clear hZ hB hH hn hc
  go_enter Tryd.func50, Tryd.ntmps50
  go_wp2_with (first
    | (with_reducible show Go.wpList _ _ _ _ _ _; refine wpList_alloc_row rfl 49 rfl Z zh.out ?_)
    | (with_reducible show Go.wpList _ _ _ _ _ _; refine wpList_load_row rfl 49 _ rfl w.heap.size rfl _ _ _ _ x0.out Tryd.underlying49 rfl hsz ?_)
    | (go_at_call 65; refine (refBytesOf_any HH.out).mono ?_; rintro _ W1 ⟨v, rfl, ho, hb1⟩; have Ho := hid ho; have Hb1 := hid hb1; clear ho hb1)
    | (at_builtin; refine app_srcH _ rfl (.tmp 8) (.tmp 9) rfl w.heap.size _ h rfl (own_mono Ho.out (by simp; omega)) a n cap b Hn.out rfl (HB.out.below (Below.on' b0.out Hb1.out)) Hc.out (by omega) (Below.on' b0.out Hb1.out).size ?_; intro v' W2 ho' hg'; have Ho' := hid ho'; have Hg' := hid hg'; clear ho' hg'))
  have k1 := Below.on' b0.out Hb1.out
  have b2 : Hid (Below w.heap.size w W2) := k1.grown Hg'.out k1.size fun j ej => ((own_mono Ho.out (by simp; omega) : W1.ownsRow w.heap.size 5 1 v h.length (cellsOf h)).lt j ej).1
  have y2 : Hid (W2.heap[w.heap.size + 1]? = some (.cells Z 49 (0, 0))) := by
    have y1 : W1.heap[w.heap.size + 1]? = some (.cells Z 49 (0, 0)) := (Hb1.out.block _ (heap_lt y0.out)).trans y0.out
    refine (Hg'.out.block _ (heap_lt y1) (fun e => ?_)).trans y1
    have := (Ho.out.lt _ e.symm).1
    simp at this
    omega
  obtain ⟨a7, c7, rfl, hB7, hc7, hn7⟩ := bytes_ofH Ho'.out
  have HB7 := hid hB7
  have Hn7 := hid hn7
  have ll : (h ++ b).length ≤ 2000 := by rw [List.length_append]; omega
  clear hB7 hn7 Ho Ho' Hg' Hb1 k1 b0 x0 y0 HB Hc HH hsz
  go_wp2_with (first
    | (go_at_call 66; refine (sumOk _ (h ++ b) a7 _ c7 rfl HB7.out Hn7.out (by omega) hc7).mono ?_; rintro _ w5 ⟨O, rfl, hO, hb5⟩; have b5 := hid (Below.on' b2.out hb5); have y5 := hid ((hb5.block _ (heap_lt y2.out)).trans y2.out); clear hb5)
    | (with_reducible show Go.wpList _ _ _ _ _ _; refine wpList_store_row rfl 49 (.tmp 4) (.tmp 11) rfl (w.heap.size + 1) O rfl rfl 49 Z y5.out hO.out.info (hz.out.size.trans hO.out.size.symm) hO.out.one ?_))
  refine bodyPost_ret (results_cell_row rfl _ _ (w.heap.size + 1) 49 O (0, 0) _ rfl (setRow_heap _ _ _ _ _ _ y5.out) Tryd.underlying49 rfl hO.out.info) rfl ⟨O, rfl, hO, b5.out.setRow (by omega) _⟩
end Go.Proofs.YthnciogaibhmcaaDoor
