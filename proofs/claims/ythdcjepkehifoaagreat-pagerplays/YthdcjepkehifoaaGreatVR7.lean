/- Unpin and Pin of the reference's cache, by contracts. -/
import Derived.Test.YthdcjepkehifoaaGreatVR6
import Derived.Test.YthdcjepkehifoaaGreatVPin2
namespace Go.Proofs.YthdcjepkehifoaaGreat
open Go.RowKit Go.Maps Go.Sort Go.Shelf
set_option linter.unusedVariables false
set_option maxRecDepth 20000
def UnpR (w : World) (B q : Nat) (m : RM) (r : RS) (zs : List Int) (e : Ending) (w' : World) : Prop :=
  (∃ p', unpL r.pins zs = some p' ∧ e = .returned (.int .i64 0) ∧ RPo w B q m r { r with pins := p' } w') ∨ (unpL r.pins zs = none ∧ e = .returned (.int .i64 4) ∧ RPo w B q m r r w')
theorem filter_cast (l : List Nat) (y : Nat) : l.filter (fun z : Nat => (z : Int) != (y : Int)) = l.filter (fun z => z != y) := List.filter_congr fun z _ => by
  by_cases h : z = y
  · subst h; simp
  · have e1 : ((z : Int) != (y : Int)) = true := by rw [bne_iff_ne]; omega
    have e2 : (z != y) = true := by rw [bne_iff_ne]; exact h
    rw [e1, e2]
theorem ints_below {w w' : World} {a : Option Addr} {zs : List Int} (h : IntsAt w a zs) (hb : Below w.heap.size w w') : IntsAt w' a zs := fun i hi => by
  obtain ⟨b, o, e, hc⟩ := h i hi
  exact ⟨b, o, e, (hb.cell (World.block_lt_of_cell? _ _ hc)).trans hc⟩
set_option maxHeartbeats 2000000 in
theorem rpUnpin_any {w : World} {B q : Nat} {m : RM} {r : RS} (h : RPm w B q m r) (a : Option Addr) (zs : List Int) (c : Nat) (hi : IntsAt w a zs) (hl : zs.length ≤ 9223372036854775807) (hp : r.pins.length ≤ 100) :
    Calls Tryz.prog 114 #[.pointer (some ⟨q, 0, none⟩), .slice a zs.length c] w (UnpR w B q m r zs) := by
  have H := hid h
  have Hi := hid hi
  have c4 := h.c4
  have hbB : B ≤ w.heap.size := by have := heap_lt h.obj; have := h.Bq; omega
  obtain ⟨pa, pk, hpv, hpn⟩ := numsRow h.prow
  rw [hpv] at c4
  have Hpv := hid hpv
  unfold UnpR
  clear h hi hpv hpn
  go_enter Tryz.func114, Tryz.ntmps114
  go_wp2
  go_loopw [5, 6] (fun v i wr => ∃ k : Nat, ∃ pk : List Nat, k ≤ zs.length ∧ i = .int .i64 k ∧ unpL r.pins zs = unpL pk (zs.drop k) ∧ pk.length ≤ 100 ∧ wr.ownsRow B 3 1 v pk.length (natCells pk) ∧ (∀ j, v.ownBlock = some j → m.pv.ownBlock = some j ∨ w.heap.size ≤ j) ∧ Below w.heap.size w wr) (fun _ i _ => zs.length - (intOf i).toNat)
  case atStart => exact ⟨0, r.pins, Nat.zero_le _, rfl, by rw [List.drop_zero], hp, by rw [← Hpv.out]; exact H.out.prow, fun j hj => .inl (by rw [Hpv.out]; exact hj), Below.refl _ _⟩
  case round =>
    obtain ⟨k, p1, hk, rfl, hun, hp1, hrow, hbl, hB⟩ := hrel
    obtain ⟨va, vk, hv, hnum⟩ := numsRow hrow
    subst hv
    have Hun := hid hun
    have Hrow := hid hrow
    have Hbl := hid hbl
    have HB := hid hB
    have Hnum := hid hnum
    have c4r := (H.out.below hB).c4
    have z4r := (H.out.below hB).z 4
    rw [Hpv.out] at c4r
    clear hun hrow hbl hB hnum c4
    by_cases hlt : k < zs.length
    · obtain ⟨b, o, rfl, hc⟩ := ints_below Hi.out HB.out k hlt
      have Hdk := hid (List.drop_eq_getElem_cons hlt)
      generalize zs[k] = x at *
      have Hha := hid (rhas_any wr va p1 vk Hnum.out (by omega) x)
      have g1 : (k : Int) < (zs.length : Int) := by omega
      have g2 : (0 : Int) ≤ (k : Int) := by omega
      by_cases hin : ∃ y ∈ p1, (y : Int) = x
      · rw [decide_eq_true hin] at Hha
        have Hst : Hid (unpL r.pins zs = unpL (p1.filter (fun y : Nat => (y : Int) != x)) (zs.drop (k + 1))) := by
          show _ = _
          rw [Hun.out, Hdk.out, unpL, if_pos hin]
        obtain ⟨y, hy, rfl⟩ := hin
        have Hwo := hid (rwithout_any wr va p1 vk Hnum.out (by omega) y)
        have hfl : (p1.filter (fun z => z != y)).length ≤ 100 := Nat.le_trans (List.length_filter_le _ _) hp1
        go_wp2_with (fail)
        refine Hha.out.mono ?_
        rintro e u ⟨rfl, hu⟩
        subst u
        go_wp2_with (fail)
        refine Hwo.out.mono ?_
        rintro e w2 ⟨v2, rfl, hr2, hb2⟩
        have HR2 := hid hr2
        have Hb2 := hid hb2
        have hsz := HB.out.size
        clear hr2 hb2 Hwo Hha
        go_wp2
        go_roundw
        case rel => exact ⟨k + 1, p1.filter (fun z => z != y), by omega, by go_num, by rw [Hst.out, filter_cast], hfl, HR2.out.mono (by omega), fun j hj => .inr (by have := (HR2.out.lt j hj).1; omega), HB.out.trans (Hb2.out.mono HB.out.size)⟩
        case measure => simp [intOf]; omega
      · rw [decide_eq_false hin] at Hha
        have Hno : Hid (unpL r.pins zs = none) := by
          show _ = _
          rw [Hun.out, Hdk.out, unpL, if_neg hin]
        clear hin
        go_wp2_with (fail)
        refine Hha.out.mono ?_
        rintro e u ⟨rfl, hu⟩
        subst u
        go_wp2
        go_ret
        exact .inr ⟨Hno.out, rfl, RPo.of_below H.out HB.out⟩
    · have hkl : k = zs.length := by omega
      subst hkl
      have g1 : ¬ (zs.length : Int) < (zs.length : Int) := by omega
      have Hyes : Hid (unpL r.pins zs = some p1) := by
        show _ = _
        rw [Hun.out, List.drop_length]
        rfl
      have hn : ∀ j, (Value.slice va p1.length vk).ownBlock = some j → ¬ m.R j ∧ j ≠ q := fun j hj => by
        rcases Hbl.out j hj with h1 | h1
        · exact H.out.pR j h1
        · exact H.out.isNew h1
      have Hfin := hid ((H.out.below HB.out).setP Hrow.out hn)
      clear hn
      go_wp2
      go_ret
      refine .inl ⟨p1, Hyes.out, rfl, { m with pv := .slice va p1.length vk }, Hfin.out, (Out.of_below (P := rWr q m) HB.out).comp ((setC_out wr q 4 _).imp (fun _ _ e => .inl e)) (fun j hj => .inl hj), fun j hj => .inl hj, fun j hj => ?_⟩
      rcases hj with e | e | e | e | e | e
      · exact .inl (.inl e)
      · exact .inl (.inr (.inl e))
      · exact .inl (.inr (.inr (.inl e)))
      · exact (Hbl.out j e).imp (fun e => .inr (.inr (.inr (.inl e)))) id
      · exact .inl (.inr (.inr (.inr (.inr (.inl e)))))
      · exact .inl (.inr (.inr (.inr (.inr (.inr e)))))
/-- what is so of a cache stays so -/
theorem CaOk.use {s : PS} (ok : CaOk s) (he : Ext s) {q : Nat} (hq : q < s.P) : CaOk (useS s q) := by
  have hm : q ∉ s.ord → CaOk (missS s q) := fun h => CaOk.push (s := { s with mi := s.mi + 1, u := s.u + 1 }) ⟨ok.nd, ok.olt, ok.ol, ok.mo1, ok.mo2, ok.dup, ok.dlt, ok.dlen, Nat.le_succ_of_le ok.hit, Nat.succ_le_succ ok.mit⟩ h hq he.full false
  unfold useS
  by_cases h : q ∈ s.ord
  · rw [if_pos h]
    have h1 : CaOk { s with hi := s.hi + 1, u := s.u + 1 } := ⟨ok.nd, ok.olt, ok.ol, ok.mo1, ok.mo2, ok.dup, ok.dlt, ok.dlen, Nat.succ_le_succ ok.hit, Nat.le_succ_of_le ok.mit⟩
    have h2 := h1.drop q
    refine CaOk.push (s := dropS { s with hi := s.hi + 1, u := s.u + 1 } q) h2 ?_ hq ?_ (s.pin q)
    · show q ∉ s.ord.filter (fun x => x != q)
      simp
    · show (s.ord.filter (fun x => x != q)).length ≤ s.mo
      exact Nat.le_trans (List.length_filter_le _ _) he.full
  · rw [if_neg h]
    split
    · exact (hm h).drop _
    · exact hm h
theorem CaOk.pin1 {s : PS} (ok : CaOk s) (he : Ext s) {q : Nat} (hq : q < s.P) : CaOk (Go.Proofs.YthdcjepkehifoaaGreat.pin1 s q) := by
  have h := ok.use he hq
  exact ⟨h.nd, h.olt, h.ol, h.mo1, h.mo2, h.dup, h.dlt, h.dlen, h.hit, h.mit⟩
theorem Ext.pin1 {s : PS} (ok : CaOk s) (he : Ext s) {q : Nat} (hq : q < s.P) (hd : (s.dl.lookup q).isSome = false) : Ext (Go.Proofs.YthdcjepkehifoaaGreat.pin1 s q) := by
  have h := useS_ext ok he hq hd
  exact ⟨h.full, h.apart⟩
/-- pins of both are as many -/
theorem pinL_same {s : PS} {r : RS} (ag : Agree s r) (ok : CaOk s) (l : List Nat) : (pinL (pinsOf s) l).length = (pinL r.pins l).length := by
  obtain ⟨h1, h2⟩ := pinL_spec (ok.nd.filter s.pin) l
  obtain ⟨h3, h4⟩ := pinL_spec ag.pn l
  refine nodup_len h1 h3 (fun x => ?_)
  rw [h4, ag.pm]
  refine (h2 x).trans ?_
  rw [List.mem_filter]
theorem len_lt {l : List Nat} (hn : l.Nodup) {P : Nat} (h : ∀ x ∈ l, x < P) : l.length ≤ P := by
  have := len_of_sub hn (List.nodup_range (n := P)) (fun x hx => List.mem_range.2 (h x hx))
  simpa using this
end Go.Proofs.YthdcjepkehifoaaGreat
