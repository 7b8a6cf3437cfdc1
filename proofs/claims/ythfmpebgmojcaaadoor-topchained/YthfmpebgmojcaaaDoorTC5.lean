/- YthfmpebgmojcaaaDoorQSI + YthfmpebgmojcaaaDoorQLd7 + YthfmpebgmojcaaaDoorTC5 -/
import Derived.Test.YthfmpebgmojcaaaDoorTC2
import Derived.Deep.RegionHeld3
import Derived.Test.YthfmpebgmojcaaaDoorTC1
import Derived.Test.YthfmpebgmojcaaaDoorTC6
import Derived.Test.YthfmpebgmojcaaaDoorADel
/- The reference's SameRows of rows of the call's own, and rows that were handed in. -/
namespace Go.Proofs.YthfmpebgmojcaaaDoor.Xr
open Go.RowKit
set_option linter.unusedVariables false
set_option maxRecDepth 20000
def RIn (w : World) (a : Option Addr) (m : List Rw) : Prop := ∀ i (h : i < m.length), ∃ b o ad cap, a = some ⟨b, o, none⟩ ∧ w.cell? ⟨b, o + i * 2, none⟩ = some (.string m[i].key) ∧ w.cell? ⟨b, o + (i * 2 + 1), none⟩ = some (.slice ad m[i].cols.length cap) ∧ Texts w ad m[i].cols
theorem RIn.below {w w' : World} {a : Option Addr} {m : List Rw} (h : RIn w a m) (hb : Below w.heap.size w w') : RIn w' a m := fun i hi => by
  obtain ⟨b, o, ad, cap, e, h1, h2, h3⟩ := h i hi
  exact ⟨b, o, ad, cap, e, cell_on hb h1, cell_on hb h2, h3.below hb⟩
def Small (m : List Rw) : Prop := m.length ≤ 140737488351232 ∧ ∀ r ∈ m, r.key.size ≤ 140737488351232 ∧ r.cols.length ≤ 140737488351232 ∧ ∀ c ∈ r.cols, c.size ≤ 140737488351232
end Go.Proofs.YthfmpebgmojcaaaDoor.Xr
/- The program's Load of any rows that were handed in. -/
namespace Go.Proofs.YthfmpebgmojcaaaDoor
open Go.RowKit
set_option linter.unusedVariables false
set_option maxRecDepth 20000
def tx (m : List Xr.Rw) : List TR := m.map fun x => (x.key, x.cols)
theorem tx_len (m : List Xr.Rw) : (tx m).length = m.length := List.length_map ..
theorem txIn_of {w : World} {a : Option Addr} {m : List Xr.Rw} (h : Xr.RIn w a m) (hm : 0 < m.length) : ∃ b o, a = some ⟨b, o, none⟩ ∧ TxIn w b o (tx m) := by
  obtain ⟨b, o, ad, cap, rfl, h1, h2, h3⟩ := h 0 hm
  refine ⟨b, o, rfl, fun i hi => ?_⟩
  rw [tx_len] at hi
  obtain ⟨b', o', ad', cap', e, k1, k2, k3⟩ := h i hi
  cases e
  have e1 : (tx m)[i]'(by rw [tx_len]; exact hi) = (m[i].key, m[i].cols) := by simp [tx]
  rw [e1]
  exact ⟨ad', cap', k1, k2, k3⟩
theorem load_arg {w : World} (a : Option Addr) (cap : Nat) (m : List Xr.Rw) (h : Xr.RIn w a m) (hs : Xr.Small m) (hcap : m.length ≤ cap) (hT : Tabs w w.heap.size) :
    Calls Tryd.prog 6 #[.slice a m.length cap] w (LoadAny w (loadC (tx m))) := by
  by_cases hl : m.length < 4 ∨ 68 < m.length
  · have := load_short (w := w) a cap (tx m) (by rw [tx_len]; exact hl)
    rw [tx_len] at this
    exact this
  · obtain ⟨b, o, rfl, ht⟩ := txIn_of h (by omega)
    have hsz : ∀ r ∈ tx m, ∀ x ∈ r.2, x.size ≤ maxLen := fun r hr x hx => by
      obtain ⟨y, hy, rfl⟩ := List.mem_map.1 hr
      exact Nat.le_trans ((hs.2 y hy).2.2 x hx) (by decide)
    have hlen := tx_len m
    rw [← hlen] at hl hcap ⊢
    generalize tx m = R at *
    match R, hl, ht, hsz, hcap with
    | r0 :: r1 :: r2 :: r3 :: l, hl, ht, hsz, hcap =>
      have e1 : (r0 :: r1 :: r2 :: r3 :: l).length = 4 + l.length := by simp; omega
      rw [e1] at hl hcap ⊢
      exact load_long b o cap r0 r1 r2 r3 l ht hsz (by omega) hcap hT
    | [], hl, _, _, _ => simp at hl
    | [_], hl, _, _, _ => simp at hl
    | [_, _], hl, _, _, _ => simp at hl
    | [_, _, _], hl, _, _, _ => simp at hl
end Go.Proofs.YthfmpebgmojcaaaDoor
/- TopChained walked. -/
namespace Go.Proofs.YthfmpebgmojcaaaDoor
open Go.RowKit Go.Shelf
set_option linter.unusedVariables false
set_option maxRecDepth 20000
attribute [local go_sem ↓] loadL_fold storeL_fold loadH_fold storeH_fold buildH_fold
theorem rin_own {w : World} {B : Nat} {v : Value} {rs : List Xr.RC} {m : List Xr.Rw} (h : w.ownsRow B 75 2 v rs.length (Xr.rcCells rs)) (hi : Xr.RowsIs w rs m) : ∃ a c, v = .slice a m.length c ∧ m.length ≤ c ∧ Xr.RIn w a m := by
  have hl := hi.length
  have hc : ∃ a c, v = .slice a rs.length c ∧ rs.length ≤ c := by
    rcases h.2 with ⟨e, h0⟩ | ⟨g, cap, cur, e, _, _, hc, _⟩
    · exact ⟨none, 0, by rw [e, h0], by omega⟩
    · exact ⟨_, _, e, hc⟩
  obtain ⟨a, c, rfl, hc⟩ := hc
  refine ⟨a, c, by rw [hl], by omega, fun i h9 => ?_⟩
  obtain ⟨g, cap, e, h1, h2⟩ := Xr.rows_at h i (by omega)
  have hr := Xr.RowsIs.get i (by omega) h9 hi
  cases e
  refine ⟨g, 0, rs[i].ad, rs[i].cap, rfl, ?_, ?_, hr.2.2.texts⟩
  · rw [Nat.zero_add, ← hr.1]; exact h1
  · rw [Nat.zero_add, ← hr.2.1]; exact h2
theorem rowsIs_less {w : World} : ∀ {bs : List Xr.RC} {m : List Xr.Rw} (k : Nat), Xr.RowsIs w bs m → Xr.RowsIs w (bs.take k ++ bs.drop (k + 1)) (m.take k ++ m.drop (k + 1))
  | [], [], k, _ => by
    rw [List.take_nil, List.drop_nil, List.take_nil, List.drop_nil]
    exact trivial
  | r :: l, x :: m, 0, h => h.2
  | r :: l, x :: m, k + 1, h => ⟨h.1, rowsIs_less k h.2⟩
theorem tx_less (c : Ch) (k : Nat) : tx ((rowsX c).take k ++ (rowsX c).drop (k + 1)) = (rowsOf c).take k ++ (rowsOf c).drop (k + 1) := by
  have e : ∀ l : List (ByteArray × List ByteArray), tx (l.map toX) = l := fun l => by
    unfold tx
    rw [List.map_map]
    exact (List.map_congr_left (g := id) fun x _ => rfl).trans (List.map_id l)
  unfold rowsX
  rw [← List.map_take, ← List.map_drop, ← List.map_append, e]
set_option maxHeartbeats 8000000 in
theorem topChained_walk {W : World} (l : List UInt8) (a : Option Addr) (cap : Nat) (hl : BytesIn W a cap l) (nk : Int) (hnk : (Lit.int .u8 nk).wf = true) (hT : Tabs W W.heap.size) :
    Calls Tryd.prog 5 #[.slice a l.length cap, .int .u8 nk] W fun e w' => e = .returned (.bool true) ∧ Below W.heap.size W w' := by
  have hn0 : 0 ≤ nk ∧ nk ≤ 255 := by simpa [Lit.wf, IntKind.min, IntKind.max, IntKind.signed, IntKind.bits] using hnk
  clear hnk
  obtain ⟨kk, rfl⟩ : ∃ m : Nat, nk = m := ⟨nk.toNat, by omega⟩
  have Hl := hid hl
  have HT := hid hT
  have hln := hl.length
  obtain ⟨N, hN⟩ : ∃ N, N = l.length := ⟨_, rfl⟩
  rw [← hN] at hln ⊢
  have HLen := hid hN
  obtain ⟨B, hB⟩ : ∃ B, B = W.heap.size := ⟨_, rfl⟩
  have HB := hid hB
  rw [← hB] at HT
  clear hl hT hN hB
  go_enter Tryd.func5, Tryd.ntmps5
  go_wp2_with fail
  refine (new_any W).mono ?_
  rintro _ w1 ⟨gc, rfl, h1, b1⟩
  have H1 := hid h1
  have B1 := hid b1
  clear h1 b1
  have hcv := Lib.run_convert_bytes_const (P := Tryd.prog) w1 40 5 #[.int .u8 114] 1 1 Tryd.underlying40 Tryd.underlying5
  go_wp2_with fail
  have b1a : ∀ f, Below w1.heap.size w1 (w1.alloc (.cells #[.int .u8 114] 5 f)) := fun f => (Below.refl _ w1).alloc (Nat.le_refl _) _
  refine (hsum_any [114] (some ⟨w1.heap.size, 0, none⟩) 1 1 rfl (Ky.bytes_fr [114] 5 (Ky.heap_alloc_fr w1 _)) (by decide) (by decide) ((HT.out.keep (HB.out ▸ Below.on' B1.out (b1a _))).kat)).mono ?_
  rintro _ w2 ⟨O, rfl, hO, b2⟩
  have B2 := hid (Below.on' (Below.on' B1.out (b1a _)) b2)
  have hOe := hO.out.eq
  have hOl := hO.out.len
  generalize sha [114] = root at hO hOe hOl
  rw [hOe]
  have H2 := hid ((H1.out.below (b1a _)).below b2)
  clear hO hOe b1a hcv H1 B1 b2
  go_wp2_with fail
  refine (Ky.new_t w2 root hOl).mono ?_
  rintro _ w3 ⟨g, mv, mg, rfl, t3, b3⟩
  have hA : Hid (CA W w3 B gc g mv mg root 0 (.slice none 0 0) ch0) := by
    have e := HB.out
    refine ⟨e ▸ (H2.out.below b3), e ▸ (t3.mono B2.out.size), addI0, HT.out.keep (e ▸ Below.on' B2.out b3), e ▸ Below.on' B2.out b3, e ▸ Nat.le_trans B2.out.size b3.size⟩
  clear H2 B2 t3 b3
  go_wp2_with fail
  go_loopw [7] (fun i wr => ∃ (k : Nat) (v : Value) (c : Ch), k ≤ N ∧ k ≤ 20 ∧ i = .int .i64 (k : Int) ∧ CA W wr B gc g mv mg root k v c) (fun i _ => N - (intOf i).toNat)
  case atStart => exact ⟨0, _, _, Nat.zero_le _, Nat.zero_le _, rfl, hA.out⟩
  case round =>
    obtain ⟨k, v, c, hk, hk20, rfl, hC⟩ := hrel
    have HC := hid hC
    clear hC hA
    by_cases hlt : k < N
    · have g1 : decide ((k : Int) < (N : Int)) = true := by simp; omega
      by_cases hlt2 : k < 20
      · have g2 : decide ((k : Int) < 20) = true := by simp; omega
        have hkl : k < l.length := by have := HLen.out; omega
        obtain ⟨bb, oo, rfl, hc⟩ := Hl.out.bytes k hkl
        obtain ⟨x, hx⟩ : ∃ x : Nat, x = (l[k]).toNat := ⟨_, rfl⟩
        rw [← hx] at hc
        have hx255 : x ≤ 255 := by rw [hx]; have := (l[k]).toNat_lt; omega
        have c0 := (HC.out.bel.cell (HB.out ▸ World.block_lt_of_cell? _ _ hc)).trans hc
        obtain ⟨y, m26, hy⟩ : ∃ y : Nat, (x : Int) % 26 = (y : Int) ∧ y ≤ 25 := ⟨x % 26, by omega, by omega⟩
        have t26 : (x : Int).tmod 26 = (y : Int) := (Int.tmod_eq_emod_of_nonneg (by omega)).trans m26
        have hcv : (convert 40 9 (.slice (some ⟨wr.heap.size, 0, none⟩) 1 1)).run Tryd.prog (wr.alloc (.cells #[.int .u8 (97 + (y : Int))] 5)) = .ok (.string (wA (97 + y))) (wr.alloc (.cells #[.int .u8 (97 + (y : Int))] 5)) := by
          have h9 := conv1C wr (97 + y) (by omega)
          rw [show ((97 + y : Nat) : Int) = 97 + (y : Int) by omega] at h9
          exact h9
        have z5 : (y : Int) ≤ 25 := by omega
        have z5' : (0 : Int) ≤ (y : Int) := by omega
        have HA9 := hid (ca_add (HC.out.below ((Below.refl _ wr).alloc (Nat.le_refl _) (.cells #[.int .u8 (97 + (y : Int))] 5))) hlt2 (97 + y))
        have Hlt := hid hlt2
        have Hlt1 := hid hlt
        clear hk hk20 hx hc hkl hlt hlt2 hy
        go_wp2_with (go_at_call 20; refine HA9.out.mono ?_; rintro _ w4 ⟨p, v4, c4, rfl, hC4⟩; have HC4 := hid hC4; clear hC4)
        refine ⟨⟨k + 1, v4, c4, by have := Hlt1.out; omega, by have := Hlt.out; omega, by go_num, HC4.out.below ((Below.refl _ w4).alloc (Nat.le_refl _) _)⟩, ?_⟩
        simp [intOf]
        omega
      · have g2 : decide ((k : Int) < 20) = false := by simp; omega
        have HAn := hid (ca_anchor HC.out hk20)
        have Hk20 := hid hk20
        clear hk hk20
        go_wp2_with fail
        refine HAn.out.mono ?_
        rintro _ w4 ⟨x4, rfl, h4, a4⟩
        have HA4 := hid h4
        have Han := hid a4
        clear h4 a4 HAn
        go_wp2_with fail
        generalize ancC c = d at HA4 Han
        have hok := HA4.out.ad.md.ok
        have hdn : d.cnt < 1152921504606846976 := by have := HA4.out.ad.md.cnt; have := Hk20.out; omega
        refine (rows_x HA4.out.ch hok hdn HA4.out.tb HA4.out.hB).mono ?_
        rintro _ w5 ⟨vR, rs, rfl, ho, hi, hb5⟩
        obtain ⟨aR, cR, rfl⟩ := Xr.slice_of_own ho
        have hcp : Hid (CP W w5 B w5.heap.size gc g mv mg root v d (.slice aR rs.length cR) rs 0 0 (.slice none 0 0) []) := cp_start HA4.out ho hi hb5
        have hM := hi.length
        have hcs := cols_small HA4.out.ad Hk20.out
        have hMk : rs.length ≤ 24 := by rw [hM, rowsX_len, HA4.out.ad.len]; have := Hk20.out; omega
        obtain ⟨M, hMM⟩ : ∃ M, M = rs.length := ⟨_, rfl⟩
        rw [← hMM] at hMk hM hcp ⊢
        have HM := hid hM
        have HMM := hid hMM
        have Hcs := hid hcs
        obtain ⟨G, hG⟩ : ∃ G, G = w5.heap.size := ⟨_, rfl⟩
        rw [← hG] at hcp
        clear ho hi hb5 hM hcs hMM hok hdn HC hG
        go_wp2_with fail
        go_loopw [10, 12] (fun vB i wr => ∃ (j n : Nat) (bs : List Xr.RC) (x : Value), j ≤ M ∧ n ≤ 1000000 * j ∧ i = .int .i64 (j : Int) ∧ x = vB ∧ CP W wr B G gc g mv mg root v d (.slice aR M cR) rs n j x bs) (fun _ i _ => M - (intOf i).toNat)
        case atStart => exact ⟨0, 0, [], _, Nat.zero_le _, Nat.zero_le _, rfl, rfl, hcp.out⟩
        case round =>
          obtain ⟨j, n, bs, x, hj, hn9, rfl, rfl, hC⟩ := hrel
          have HC := hid hC
          clear hC hcp
          by_cases hlt : j < M
          · have g1 : decide ((j : Int) < (M : Int)) = true := by simp; omega
            have hjm : j < (rowsX d).length := by have := HM.out; omega
            have hjr : j < rs.length := by have := HMM.out; omega
            obtain ⟨gR, capR, eR, kR, sR⟩ := Xr.rows_at HC.out.ro j hjr
            injection eR with e1 e2 e3
            subst e1
            obtain ⟨r1, r2, bC, cur, r3, r4, r5⟩ := HC.out.ri.get j hjr hjm
            have hcs := Hcs.out _ (List.getElem_mem hjm)
            obtain ⟨q, hq⟩ : ∃ q, q = rs[j] := ⟨_, rfl⟩
            obtain ⟨xj, hxj⟩ : ∃ x, x = (rowsX d)[j] := ⟨_, rfl⟩
            have hcl := rowsX_cols d _ (List.getElem_mem hjm)
            have hne := rowsX_ne d _ (List.getElem_mem hjm)
            rw [← hq] at kR sR r1 r2 r3
            rw [← hxj] at r1 r2 r5 hcs hcl hne
            have Hxj : Hid (∀ h : j < (rowsX d).length, (rowsX d)[j] = xj) := fun h => hxj.symm
            obtain ⟨key, ad, C, cp⟩ := q
            obtain ⟨kx, cx⟩ := xj
            simp only at kR sR r1 r2 r3 r5 hcs hcl hne
            subst r1 r3
            have HCl := hid r2
            have Hcc := hid hcs
            have Hcl := hid hcl
            have Hne := hid hne
            have HC0 : Hid (∀ V : World, Ky.OutJ (Ky.Mine g mv mg) wr V → V.cell? ⟨gR, j * 2, none⟩ = some (.string key) ∧ V.cell? ⟨gR, j * 2 + 1, none⟩ = some (.slice (some ⟨bC, 0, none⟩) C cp)) := by
              intro V o
              obtain ⟨curR, hgR⟩ := own_obj HC.out.ro (k := gR) rfl
              exact ⟨cell_mine HC.out.tr o hgR (by decide) kR, cell_mine HC.out.tr o hgR (by decide) sR⟩
            have HC1 : Hid (∀ V : World, Ky.OutJ (Ky.Mine g mv mg) wr V → ∀ i (h : i < cx.length), V.cell? ⟨bC, i, none⟩ = some (.string cx[i])) := by
              intro V o i hi
              obtain ⟨b, o', e, hc⟩ := (colAt_mine HC.out.tr o ⟨bC, cur, rfl, r4, r5⟩).texts i hi
              cases e
              rw [Nat.zero_add] at hc
              exact hc
            have Hj := hid hlt
            clear hq hxj hcs hcl hne r2 r4 r5 hjr hjm e2 e3 sR
            go_wp2_with fail
            have hx0 : Hid (CX wr (wr.alloc (.cells #[.string key, .slice none 0 0] 75)) B g mv mg root n key [] (.slice none 0 0)) := CX.start HC.out key
            obtain ⟨w0, rfl⟩ : ∃ w0, w0 = wr := ⟨_, rfl⟩
            obtain ⟨gx, hgx⟩ : ∃ gx, gx = w0.heap.size := ⟨_, rfl⟩
            have Hgx := hid hgx
            rw [← hgx]
            clear hgx
            go_loopw [14] (fun qi wv => ∃ (q : Nat) (vc : Value), q ≤ C ∧ qi = .int .i64 (q : Int) ∧ CX w0 wv B g mv mg root (n + q) key (cx.take q) vc) (fun qi _ => C - (intOf qi).toNat)
            case atStart => exact ⟨0, _, Nat.zero_le _, rfl, hx0.out⟩
            case round =>
              obtain ⟨q, vc, hq, rfl, hX⟩ := hrel
              have HX := hid hX
              clear hX hx0
              by_cases hlt2 : q < C
              · have g1 : decide ((q : Int) < (C : Int)) = true := by simp; omega
                have hql : q < cx.length := by have := HCl.out; omega
                obtain ⟨c0, c1⟩ := HC0.out wr HX.out.fr
                have c2 := HC1.out wr HX.out.fr q hql
                have hss := Hcc.out _ (List.getElem_mem hql)
                have htk : cx.take (q + 1) = cx.take q ++ [cx[q]] := List.take_succ_eq_append_getElem hql
                obtain ⟨s, hs⟩ : ∃ s, s = cx[q] := ⟨_, rfl⟩
                rw [← hs] at c2 hss htk
                have Htk := hid htk
                have Hss := hid hss
                obtain ⟨cq, W6, hcv, hBq, hcq, hb6⟩ := conv_str wr s
                have HX6 := hid (HX.out.below hb6)
                have HCP6 := HX6.out.cp HC.out
                have hS := hid (Ky.seal_open HX6.out.tr (by have := Hj.out; have := HC.out.hB; have := Hcl.out; have := HCl.out; omega) s.data.toList (some ⟨wr.heap.size, 0, none⟩) s.size cq (by rfl) (by have := hss.2; show s.data.toList.length ≤ 1024; rw [Array.length_toList]; exact Nat.le_trans this (by decide)) hBq HCP6.tb (Nat.le_trans HCP6.hB HCP6.hG))
                have Hq2 := hid hlt2
                clear hs hss htk hql hBq hcq hb6 HCP6
                go_wp2_with (first
                  | (go_at_call 28; refine hS.out.mono ?_; rintro _ w7 ⟨gb, mb, cb, rfl, t7, o7, hO7⟩; have HX7 := hid (HX6.out.seal o7 t7); have HO7 := hid hO7; clear t7 o7 hO7 hS)
                  | (go_at_call 29; refine HO7.out.mono ?_; rintro _ w8 ⟨ap, cp8, rfl, p8, b8⟩; have HX8 := hid (HX7.out.below b8); have P8 := hid p8; have cX : w8.cell? ⟨gx, 1, none⟩ = some vc := (by rw [Hgx.out]; exact cell_of_row _ _ 1 _ _ _ HX8.out.ob); have hcv2 : (convert 40 9 (.slice ap s.size cp8)).run Tryd.prog w8 = .ok (.string s) w8 := (by have h9 := Ky.conv_own p8 (by rw [Array.length_toList]; exact Hss.out.1); exact h9); have O8 : Hid (w8.ownsRow (gx + 1) 9 1 vc (cx.take q).length (strsOf (cx.take q))) := (by show w8.ownsRow _ _ _ _ _ _; rw [Hgx.out]; exact HX8.out.oc); clear b8 p8 HO7)
                  | (at_builtin; refine app_text w8 rfl (.tmp 117) (.tmp 120) rfl (gx + 1) vc (cx.take q) rfl O8.out s rfl (by have := Hcl.out; rw [List.length_take]; omega) (by rw [Hgx.out]; exact HX8.out.sz) ?_; intro v9 w9 ho9 hb9 hv9; have HO9 := hid ho9; have HB9 := hid hb9; obtain ⟨g9, c9, rfl⟩ := hv9; obtain ⟨L9, hL9⟩ : ∃ L9, L9 = (cx.take q ++ [s]).length := ⟨_, rfl⟩; have HL9 := hid hL9; rw [← hL9]; have hob9 : w9.heap[gx]? = some (.cells #[.string key, vc] 75 (0, 0)) := (hb9.block _ (by omega)).trans (by rw [Hgx.out]; exact HX8.out.ob); have cX9 := cell_of_row _ _ 1 _ _ _ hob9; have f9 := frozen_of_row _ _ 1 _ _ hob9; clear hL9 ho9 hb9 hob9))
                rw [IntWalk.wrap64_in _ (by have := Hcl.out; have := HCl.out; have := Hq2.out; omega)]
                refine ⟨⟨q + 1, .slice (some ⟨g9, 0, none⟩) L9 c9, by have := Hq2.out; omega, by go_num, ?_⟩, ?_⟩
                · rw [Htk.out, HL9.out, Hgx.out]
                  exact CX.app (w := w8) (w' := w9) (s := s) HX8.out (by rw [← Hgx.out]; exact HB9.out) (by rw [← Hgx.out]; exact HO9.out)
                · have := Hq2.out
                  simp [intOf]
                  omega
              · have g1 : decide ((q : Int) < (C : Int)) = false := by simp; omega
                have hqC : q = C := by omega
                have hall : cx.take q = cx := by rw [hqC, HCl.out, List.take_length]
                obtain ⟨c0, c1⟩ := HC0.out wr HX.out.fr
                have hx9 := HX.out
                rw [hall, hqC] at hx9
                obtain ⟨aC, cC, rfl⟩ := Xr.slice_of_own hx9.oc
                rw [← HCl.out] at hx9
                have HX9 := hid hx9
                have hP := hx9.cp HC.out
                have HP := hid hP
                have hob : wr.heap[gx]? = some (.cells #[.string key, .slice aC C cC] 75 (0, 0)) := by rw [Hgx.out]; exact hx9.ob
                have cA := cell_of_row _ _ 0 _ _ _ hob
                have cB := cell_of_row _ _ 1 _ _ _ hob
                have hbs : bs.length ≤ 2000000000 := by rw [hP.bi.length, List.length_take]; omega
                clear hall hx9 hqC hq hP hob HX
                go_wp2_with (at_builtin; refine Xr.app_rowL rfl (.tmp 123) (.tmp 125) rfl wr key aC C cC rfl G x bs rfl HP.out.bo rfl hbs HP.out.hG ?_; intro v9 w9 ho9 hg9; have HO9 := hid ho9; have HG9 := hid hg9; clear ho9 hg9)
                have hjm : j < (rowsX d).length := by have := HM.out; have := Hj.out; omega
                have hcol : Xr.ColAt wr aC cx := (by have o9 := HX9.out.oc; rw [HCl.out] at o9; exact colAt_own (cap := cC) (own_monoW o9 (Nat.zero_le _)) Hne.out)
                refine ⟨⟨j + 1, n + C, _, v9, by have := Hj.out; omega, by have := Hcl.out; have := HCl.out; omega, by go_num, rfl, HP.out.push HG9.out HO9.out hjm (Hxj.out hjm) ⟨rfl, HCl.out, hcol⟩⟩, ?_⟩
                have := Hj.out
                simp [intOf]
                omega
          · have g1 : decide ((j : Int) < (M : Int)) = false := by simp; omega
            have hjM : j = M := by omega
            have hP := HC.out
            have hbi := hP.bi
            rw [hjM, HM.out, List.take_length] at hbi
            obtain ⟨bb, cb, eb, hcb, htx⟩ := txRows_of hP.bo hbi
            have Hbi := hid hbi
            clear hbi
            have hM4 : M = 4 + d.ev.length := by rw [HM.out, rowsX_len]
            rw [← hM4] at eb hcb
            subst eb
            have hld := made_ldable HA4.out.ad.md (by have := Hk20.out; omega)
            have hok := HA4.out.ad.md.ok
            have hdn : d.cnt < 1152921504606846976 := by have := HA4.out.ad.md.cnt; have := Hk20.out; omega
            have hT9 : Tabs wr wr.heap.size := hP.tb.mono (Nat.le_trans hP.hB hP.hG)
            have hLd := load_ok bb cb d htx hld (by rw [← hM4]; exact hcb) hT9
            rw [← hM4] at hLd
            have HLd := hid hLd
            have HP := hid hP
            have Hld := hid hld
            have HdN := hid hdn
            have Htx := hid htx
            have HT9 := hid hT9
            have hver : verE d = 0 := HA4.out.ad.md.sound.ver
            have Hver := hid hver
            obtain ⟨D, hD⟩ : ∃ D, D = bvs d.hd := ⟨_, rfl⟩
            have heq2 : ∀ V, (Op.equalIn 10000 69 (.agg D) (.agg D)).run Tryd.prog V = .ok true V := fun V => by
              rw [hD, hash_eq (a := d.hd) (b := d.hd) ⟨rfl, hok.lh⟩ ⟨rfl, hok.lh⟩]
              simp
            have HD := hid hD
            have Hok := hid hok
            have HM4 := hid hM4
            have Hcb := hid hcb
            have hM0 : 0 < M := by omega
            obtain ⟨out, hko, hout⟩ : ∃ o : Nat, (kk : Int) % (M : Int) = (o : Int) ∧ o < M := ⟨kk % M, by omega, Nat.mod_lt _ hM0⟩
            have hkt : (kk : Int).tmod (M : Int) = (out : Int) := (Int.tmod_eq_emod_of_nonneg (by omega)).trans hko
            have hMz : ((M : Int) == 0) = false := by simp; omega
            have hMz2 : ¬ (M : Int) = 0 := by omega
            have Hout := hid hout
            clear hjM hP hcb htx hM4 hld hdn hT9 hLd hver hD hok hj hout
            go_wp2_with (first
              | (go_at_call 6; refine HLd.out.mono ?_; rintro _ w6 ⟨g6, v6, rfl, h6, b6⟩; have H6 := hid h6; have B6 := hid b6; clear h6 b6 HLd)
              | (go_at_call 11; refine (verify_any H6.out Hok.out HdN.out (HT9.out.below (Nat.le_refl _) B6.out) B6.out.size).mono ?_; rw [Hver.out]; rintro _ w7 ⟨rfl, b7⟩; have B7 := hid (Below.on' B6.out b7); have H7 := hid (H6.out.below b7); clear b7)
              | (go_at_call 30; refine (head_any H7.out Hok.out.l).mono ?_; rw [← HD.out]; rintro _ w8 ⟨rfl, b8⟩; have B8 := hid (Below.on' B7.out b8); clear b8 H7)
              | (go_at_call 30; refine (head_any (HP.out.below B8.out).ch Hok.out.l).mono ?_; rw [← HD.out]; rintro _ w9 ⟨rfl, b9⟩; have B9 := hid (Below.on' B8.out b9); clear b9))
            obtain ⟨V0, hV0⟩ : ∃ V0, V0 = w9.drew := ⟨_, rfl⟩
            have b0 : Below w9.heap.size w9 V0 := by rw [hV0]; exact (Below.refl _ w9).drew
            have P0 := (HP.out.below B9.out).below b0
            have hMb : M = bs.length := by have := Hbi.out.length; have := HM.out; omega
            refine wp_act _ fun A hA => ?_
            have sz : A.tmps.size = 168 := by rw [hA]; rfl
            have e23 : A.eval (.tmp 23) = .slice none 0 0 := by rw [hA]; rfl
            have e10 : A.eval (.tmp 10) = .slice (some ⟨bb, 0, none⟩) M cb := by rw [hA]; rfl
            have e22 : A.eval (.tmp 22) = .int .i64 (out : Int) := by rw [hA]; rfl
            refine wp_split _ (tc_region32 sz e23 e10 e22 hMb Hout.out Hcb.out hMk (by rw [IntKind.wrap_i64]; have := Hout.out; omega) hV0 P0.bo) ?_
            rintro _ V6 ⟨v61, v62, rfl, ho6, hb6⟩
            rw [hA]
            simp only [Act.put, List.setIfInBounds_toArray, List.set_cons_succ, List.set_cons_zero]
            generalize (if cb = out + 1 then (⟨bb, 0, none⟩ : Addr) else ⟨bb, (out + 1) * 2, none⟩) = ad9
            have P6 := P0.below hb6
            have hbi6 : Xr.RowsIs V6 bs (rowsX d) := ((Hbi.out.below B9.out).below b0).below hb6
            have hless := rowsIs_less out hbi6
            obtain ⟨a6, c6, rfl, hc6, hin⟩ := rin_own ho6 hless
            have hnone : loadC (tx ((rowsX d).take out ++ (rowsX d).drop (out + 1))) = none := by
              rw [tx_less]
              exact loadC_less d Hld.out HA4.out.ad.bn Han.out out (by rw [rowsOf_len, ← HM4.out]; exact Hout.out)
            have hsm : Xr.Small ((rowsX d).take out ++ (rowsX d).drop (out + 1)) := by
              have hlen : ((rowsX d).take out ++ (rowsX d).drop (out + 1)).length ≤ 24 := by
                rw [List.length_append, List.length_take, List.length_drop]
                have := HM.out
                omega
              refine ⟨by omega, fun r hr => ?_⟩
              have hr' : r ∈ rowsX d := by
                rcases List.mem_append.1 hr with h | h
                · exact List.mem_of_mem_take h
                · exact List.mem_of_mem_drop h
              refine ⟨key_small Hld.out r hr', by have := rowsX_cols d r hr'; omega, fun c hc => by have := (Hcs.out r hr' c hc).2; omega⟩
            have hT6 : Tabs V6 V6.heap.size := P6.tb.mono (Nat.le_trans P6.hB P6.hG)
            have hL6 := load_arg a6 c6 _ hin hsm hc6 hT6
            rw [hnone] at hL6
            have HL6 := hid hL6
            have HP6 := hid P6
            clear sz e23 e10 e22 hA A P0 b0 hV0 ho6 hb6 P6 hbi6 hless hin hc6 hnone hsm hT6 hL6 hMb
            obtain ⟨m6, hm6⟩ : ∃ m6, m6 = ((rowsX d).take out ++ (rowsX d).drop (out + 1)).length := ⟨_, rfl⟩
            rw [← hm6] at HL6 ⊢
            clear hm6
            go_wp2_with (go_at_call 6; refine HL6.out.mono ?_; rintro _ wX ⟨bX, eX, xX⟩; clear xX; obtain rfl := eX rfl; have HBX := hid bX; clear eX bX)
            go_ret
            exact ⟨rfl, HB.out ▸ HP6.out.bel.trans (HBX.out.mono (Nat.le_trans HP6.out.hB HP6.out.hG))⟩
    · have g1 : decide ((k : Int) < (N : Int)) = false := by simp; omega
      have HAn := hid (ca_anchor HC.out hk20)
      have Hk20 := hid hk20
      clear hk hk20
      go_wp2_with fail
      refine HAn.out.mono ?_
      rintro _ w4 ⟨x4, rfl, h4, a4⟩
      have HA4 := hid h4
      have Han := hid a4
      clear h4 a4 HAn
      go_wp2_with fail
      generalize ancC c = d at HA4 Han
      have hok := HA4.out.ad.md.ok
      have hdn : d.cnt < 1152921504606846976 := by have := HA4.out.ad.md.cnt; have := Hk20.out; omega
      refine (rows_x HA4.out.ch hok hdn HA4.out.tb HA4.out.hB).mono ?_
      rintro _ w5 ⟨vR, rs, rfl, ho, hi, hb5⟩
      obtain ⟨aR, cR, rfl⟩ := Xr.slice_of_own ho
      have hcp : Hid (CP W w5 B w5.heap.size gc g mv mg root v d (.slice aR rs.length cR) rs 0 0 (.slice none 0 0) []) := cp_start HA4.out ho hi hb5
      have hM := hi.length
      have hcs := cols_small HA4.out.ad Hk20.out
      have hMk : rs.length ≤ 24 := by rw [hM, rowsX_len, HA4.out.ad.len]; have := Hk20.out; omega
      obtain ⟨M, hMM⟩ : ∃ M, M = rs.length := ⟨_, rfl⟩
      rw [← hMM] at hMk hM hcp ⊢
      have HM := hid hM
      have HMM := hid hMM
      have Hcs := hid hcs
      obtain ⟨G, hG⟩ : ∃ G, G = w5.heap.size := ⟨_, rfl⟩
      rw [← hG] at hcp
      clear ho hi hb5 hM hcs hMM hok hdn HC hG
      go_wp2_with fail
      go_loopw [10, 12] (fun vB i wr => ∃ (j n : Nat) (bs : List Xr.RC) (x : Value), j ≤ M ∧ n ≤ 1000000 * j ∧ i = .int .i64 (j : Int) ∧ x = vB ∧ CP W wr B G gc g mv mg root v d (.slice aR M cR) rs n j x bs) (fun _ i _ => M - (intOf i).toNat)
      case atStart => exact ⟨0, 0, [], _, Nat.zero_le _, Nat.zero_le _, rfl, rfl, hcp.out⟩
      case round =>
        obtain ⟨j, n, bs, x, hj, hn9, rfl, rfl, hC⟩ := hrel
        have HC := hid hC
        clear hC hcp
        by_cases hlt : j < M
        · have g1 : decide ((j : Int) < (M : Int)) = true := by simp; omega
          have hjm : j < (rowsX d).length := by have := HM.out; omega
          have hjr : j < rs.length := by have := HMM.out; omega
          obtain ⟨gR, capR, eR, kR, sR⟩ := Xr.rows_at HC.out.ro j hjr
          injection eR with e1 e2 e3
          subst e1
          obtain ⟨r1, r2, bC, cur, r3, r4, r5⟩ := HC.out.ri.get j hjr hjm
          have hcs := Hcs.out _ (List.getElem_mem hjm)
          obtain ⟨q, hq⟩ : ∃ q, q = rs[j] := ⟨_, rfl⟩
          obtain ⟨xj, hxj⟩ : ∃ x, x = (rowsX d)[j] := ⟨_, rfl⟩
          have hcl := rowsX_cols d _ (List.getElem_mem hjm)
          have hne := rowsX_ne d _ (List.getElem_mem hjm)
          rw [← hq] at kR sR r1 r2 r3
          rw [← hxj] at r1 r2 r5 hcs hcl hne
          have Hxj : Hid (∀ h : j < (rowsX d).length, (rowsX d)[j] = xj) := fun h => hxj.symm
          obtain ⟨key, ad, C, cp⟩ := q
          obtain ⟨kx, cx⟩ := xj
          simp only at kR sR r1 r2 r3 r5 hcs hcl hne
          subst r1 r3
          have HCl := hid r2
          have Hcc := hid hcs
          have Hcl := hid hcl
          have Hne := hid hne
          have HC0 : Hid (∀ V : World, Ky.OutJ (Ky.Mine g mv mg) wr V → V.cell? ⟨gR, j * 2, none⟩ = some (.string key) ∧ V.cell? ⟨gR, j * 2 + 1, none⟩ = some (.slice (some ⟨bC, 0, none⟩) C cp)) := by
            intro V o
            obtain ⟨curR, hgR⟩ := own_obj HC.out.ro (k := gR) rfl
            exact ⟨cell_mine HC.out.tr o hgR (by decide) kR, cell_mine HC.out.tr o hgR (by decide) sR⟩
          have HC1 : Hid (∀ V : World, Ky.OutJ (Ky.Mine g mv mg) wr V → ∀ i (h : i < cx.length), V.cell? ⟨bC, i, none⟩ = some (.string cx[i])) := by
            intro V o i hi
            obtain ⟨b, o', e, hc⟩ := (colAt_mine HC.out.tr o ⟨bC, cur, rfl, r4, r5⟩).texts i hi
            cases e
            rw [Nat.zero_add] at hc
            exact hc
          have Hj := hid hlt
          clear hq hxj hcs hcl hne r2 r4 r5 hjr hjm e2 e3 sR
          go_wp2_with fail
          have hx0 : Hid (CX wr (wr.alloc (.cells #[.string key, .slice none 0 0] 75)) B g mv mg root n key [] (.slice none 0 0)) := CX.start HC.out key
          obtain ⟨w0, rfl⟩ : ∃ w0, w0 = wr := ⟨_, rfl⟩
          obtain ⟨gx, hgx⟩ : ∃ gx, gx = w0.heap.size := ⟨_, rfl⟩
          have Hgx := hid hgx
          rw [← hgx]
          clear hgx
          go_loopw [14] (fun qi wv => ∃ (q : Nat) (vc : Value), q ≤ C ∧ qi = .int .i64 (q : Int) ∧ CX w0 wv B g mv mg root (n + q) key (cx.take q) vc) (fun qi _ => C - (intOf qi).toNat)
          case atStart => exact ⟨0, _, Nat.zero_le _, rfl, hx0.out⟩
          case round =>
            obtain ⟨q, vc, hq, rfl, hX⟩ := hrel
            have HX := hid hX
            clear hX hx0
            by_cases hlt2 : q < C
            · have g1 : decide ((q : Int) < (C : Int)) = true := by simp; omega
              have hql : q < cx.length := by have := HCl.out; omega
              obtain ⟨c0, c1⟩ := HC0.out wr HX.out.fr
              have c2 := HC1.out wr HX.out.fr q hql
              have hss := Hcc.out _ (List.getElem_mem hql)
              have htk : cx.take (q + 1) = cx.take q ++ [cx[q]] := List.take_succ_eq_append_getElem hql
              obtain ⟨s, hs⟩ : ∃ s, s = cx[q] := ⟨_, rfl⟩
              rw [← hs] at c2 hss htk
              have Htk := hid htk
              have Hss := hid hss
              obtain ⟨cq, W6, hcv, hBq, hcq, hb6⟩ := conv_str wr s
              have HX6 := hid (HX.out.below hb6)
              have HCP6 := HX6.out.cp HC.out
              have hS := hid (Ky.seal_open HX6.out.tr (by have := Hj.out; have := HC.out.hB; have := Hcl.out; have := HCl.out; omega) s.data.toList (some ⟨wr.heap.size, 0, none⟩) s.size cq (by rfl) (by have := hss.2; show s.data.toList.length ≤ 1024; rw [Array.length_toList]; exact Nat.le_trans this (by decide)) hBq HCP6.tb (Nat.le_trans HCP6.hB HCP6.hG))
              have Hq2 := hid hlt2
              clear hs hss htk hql hBq hcq hb6 HCP6
              go_wp2_with (first
                | (go_at_call 28; refine hS.out.mono ?_; rintro _ w7 ⟨gb, mb, cb, rfl, t7, o7, hO7⟩; have HX7 := hid (HX6.out.seal o7 t7); have HO7 := hid hO7; clear t7 o7 hO7 hS)
                | (go_at_call 29; refine HO7.out.mono ?_; rintro _ w8 ⟨ap, cp8, rfl, p8, b8⟩; have HX8 := hid (HX7.out.below b8); have P8 := hid p8; have cX : w8.cell? ⟨gx, 1, none⟩ = some vc := (by rw [Hgx.out]; exact cell_of_row _ _ 1 _ _ _ HX8.out.ob); have hcv2 : (convert 40 9 (.slice ap s.size cp8)).run Tryd.prog w8 = .ok (.string s) w8 := (by have h9 := Ky.conv_own p8 (by rw [Array.length_toList]; exact Hss.out.1); exact h9); have O8 : Hid (w8.ownsRow (gx + 1) 9 1 vc (cx.take q).length (strsOf (cx.take q))) := (by show w8.ownsRow _ _ _ _ _ _; rw [Hgx.out]; exact HX8.out.oc); clear b8 p8 HO7)
                | (at_builtin; refine app_text w8 rfl (.tmp 117) (.tmp 120) rfl (gx + 1) vc (cx.take q) rfl O8.out s rfl (by have := Hcl.out; rw [List.length_take]; omega) (by rw [Hgx.out]; exact HX8.out.sz) ?_; intro v9 w9 ho9 hb9 hv9; have HO9 := hid ho9; have HB9 := hid hb9; obtain ⟨g9, c9, rfl⟩ := hv9; obtain ⟨L9, hL9⟩ : ∃ L9, L9 = (cx.take q ++ [s]).length := ⟨_, rfl⟩; have HL9 := hid hL9; rw [← hL9]; have hob9 : w9.heap[gx]? = some (.cells #[.string key, vc] 75 (0, 0)) := (hb9.block _ (by omega)).trans (by rw [Hgx.out]; exact HX8.out.ob); have cX9 := cell_of_row _ _ 1 _ _ _ hob9; have f9 := frozen_of_row _ _ 1 _ _ hob9; clear hL9 ho9 hb9 hob9))
              rw [IntWalk.wrap64_in _ (by have := Hcl.out; have := HCl.out; have := Hq2.out; omega)]
              refine ⟨⟨q + 1, .slice (some ⟨g9, 0, none⟩) L9 c9, by have := Hq2.out; omega, by go_num, ?_⟩, ?_⟩
              · rw [Htk.out, HL9.out, Hgx.out]
                exact CX.app (w := w8) (w' := w9) (s := s) HX8.out (by rw [← Hgx.out]; exact HB9.out) (by rw [← Hgx.out]; exact HO9.out)
              · have := Hq2.out
                simp [intOf]
                omega
            · have g1 : decide ((q : Int) < (C : Int)) = false := by simp; omega
              have hqC : q = C := by omega
              have hall : cx.take q = cx := by rw [hqC, HCl.out, List.take_length]
              obtain ⟨c0, c1⟩ := HC0.out wr HX.out.fr
              have hx9 := HX.out
              rw [hall, hqC] at hx9
              obtain ⟨aC, cC, rfl⟩ := Xr.slice_of_own hx9.oc
              rw [← HCl.out] at hx9
              have HX9 := hid hx9
              have hP := hx9.cp HC.out
              have HP := hid hP
              have hob : wr.heap[gx]? = some (.cells #[.string key, .slice aC C cC] 75 (0, 0)) := by rw [Hgx.out]; exact hx9.ob
              have cA := cell_of_row _ _ 0 _ _ _ hob
              have cB := cell_of_row _ _ 1 _ _ _ hob
              have hbs : bs.length ≤ 2000000000 := by rw [hP.bi.length, List.length_take]; omega
              clear hall hx9 hqC hq hP hob HX
              go_wp2_with (at_builtin; refine Xr.app_rowL rfl (.tmp 123) (.tmp 125) rfl wr key aC C cC rfl G x bs rfl HP.out.bo rfl hbs HP.out.hG ?_; intro v9 w9 ho9 hg9; have HO9 := hid ho9; have HG9 := hid hg9; clear ho9 hg9)
              have hjm : j < (rowsX d).length := by have := HM.out; have := Hj.out; omega
              have hcol : Xr.ColAt wr aC cx := (by have o9 := HX9.out.oc; rw [HCl.out] at o9; exact colAt_own (cap := cC) (own_monoW o9 (Nat.zero_le _)) Hne.out)
              refine ⟨⟨j + 1, n + C, _, v9, by have := Hj.out; omega, by have := Hcl.out; have := HCl.out; omega, by go_num, rfl, HP.out.push HG9.out HO9.out hjm (Hxj.out hjm) ⟨rfl, HCl.out, hcol⟩⟩, ?_⟩
              have := Hj.out
              simp [intOf]
              omega
        · have g1 : decide ((j : Int) < (M : Int)) = false := by simp; omega
          have hjM : j = M := by omega
          have hP := HC.out
          have hbi := hP.bi
          rw [hjM, HM.out, List.take_length] at hbi
          obtain ⟨bb, cb, eb, hcb, htx⟩ := txRows_of hP.bo hbi
          have Hbi := hid hbi
          clear hbi
          have hM4 : M = 4 + d.ev.length := by rw [HM.out, rowsX_len]
          rw [← hM4] at eb hcb
          subst eb
          have hld := made_ldable HA4.out.ad.md (by have := Hk20.out; omega)
          have hok := HA4.out.ad.md.ok
          have hdn : d.cnt < 1152921504606846976 := by have := HA4.out.ad.md.cnt; have := Hk20.out; omega
          have hT9 : Tabs wr wr.heap.size := hP.tb.mono (Nat.le_trans hP.hB hP.hG)
          have hLd := load_ok bb cb d htx hld (by rw [← hM4]; exact hcb) hT9
          rw [← hM4] at hLd
          have HLd := hid hLd
          have HP := hid hP
          have Hld := hid hld
          have HdN := hid hdn
          have Htx := hid htx
          have HT9 := hid hT9
          have hver : verE d = 0 := HA4.out.ad.md.sound.ver
          have Hver := hid hver
          obtain ⟨D, hD⟩ : ∃ D, D = bvs d.hd := ⟨_, rfl⟩
          have heq2 : ∀ V, (Op.equalIn 10000 69 (.agg D) (.agg D)).run Tryd.prog V = .ok true V := fun V => by
            rw [hD, hash_eq (a := d.hd) (b := d.hd) ⟨rfl, hok.lh⟩ ⟨rfl, hok.lh⟩]
            simp
          have HD := hid hD
          have Hok := hid hok
          have HM4 := hid hM4
          have Hcb := hid hcb
          have hM0 : 0 < M := by omega
          obtain ⟨out, hko, hout⟩ : ∃ o : Nat, (kk : Int) % (M : Int) = (o : Int) ∧ o < M := ⟨kk % M, by omega, Nat.mod_lt _ hM0⟩
          have hkt : (kk : Int).tmod (M : Int) = (out : Int) := (Int.tmod_eq_emod_of_nonneg (by omega)).trans hko
          have hMz : ((M : Int) == 0) = false := by simp; omega
          have hMz2 : ¬ (M : Int) = 0 := by omega
          have Hout := hid hout
          clear hjM hP hcb htx hM4 hld hdn hT9 hLd hver hD hok hj hout
          go_wp2_with (first
            | (go_at_call 6; refine HLd.out.mono ?_; rintro _ w6 ⟨g6, v6, rfl, h6, b6⟩; have H6 := hid h6; have B6 := hid b6; clear h6 b6 HLd)
            | (go_at_call 11; refine (verify_any H6.out Hok.out HdN.out (HT9.out.below (Nat.le_refl _) B6.out) B6.out.size).mono ?_; rw [Hver.out]; rintro _ w7 ⟨rfl, b7⟩; have B7 := hid (Below.on' B6.out b7); have H7 := hid (H6.out.below b7); clear b7)
            | (go_at_call 30; refine (head_any H7.out Hok.out.l).mono ?_; rw [← HD.out]; rintro _ w8 ⟨rfl, b8⟩; have B8 := hid (Below.on' B7.out b8); clear b8 H7)
            | (go_at_call 30; refine (head_any (HP.out.below B8.out).ch Hok.out.l).mono ?_; rw [← HD.out]; rintro _ w9 ⟨rfl, b9⟩; have B9 := hid (Below.on' B8.out b9); clear b9))
          obtain ⟨V0, hV0⟩ : ∃ V0, V0 = w9.drew := ⟨_, rfl⟩
          have b0 : Below w9.heap.size w9 V0 := by rw [hV0]; exact (Below.refl _ w9).drew
          have P0 := (HP.out.below B9.out).below b0
          have hMb : M = bs.length := by have := Hbi.out.length; have := HM.out; omega
          refine wp_act _ fun A hA => ?_
          have sz : A.tmps.size = 168 := by rw [hA]; rfl
          have e23 : A.eval (.tmp 23) = .slice none 0 0 := by rw [hA]; rfl
          have e10 : A.eval (.tmp 10) = .slice (some ⟨bb, 0, none⟩) M cb := by rw [hA]; rfl
          have e22 : A.eval (.tmp 22) = .int .i64 (out : Int) := by rw [hA]; rfl
          refine wp_split _ (tc_region32 sz e23 e10 e22 hMb Hout.out Hcb.out hMk (by rw [IntKind.wrap_i64]; have := Hout.out; omega) hV0 P0.bo) ?_
          rintro _ V6 ⟨v61, v62, rfl, ho6, hb6⟩
          rw [hA]
          simp only [Act.put, List.setIfInBounds_toArray, List.set_cons_succ, List.set_cons_zero]
          generalize (if cb = out + 1 then (⟨bb, 0, none⟩ : Addr) else ⟨bb, (out + 1) * 2, none⟩) = ad9
          have P6 := P0.below hb6
          have hbi6 : Xr.RowsIs V6 bs (rowsX d) := ((Hbi.out.below B9.out).below b0).below hb6
          have hless := rowsIs_less out hbi6
          obtain ⟨a6, c6, rfl, hc6, hin⟩ := rin_own ho6 hless
          have hnone : loadC (tx ((rowsX d).take out ++ (rowsX d).drop (out + 1))) = none := by
            rw [tx_less]
            exact loadC_less d Hld.out HA4.out.ad.bn Han.out out (by rw [rowsOf_len, ← HM4.out]; exact Hout.out)
          have hsm : Xr.Small ((rowsX d).take out ++ (rowsX d).drop (out + 1)) := by
            have hlen : ((rowsX d).take out ++ (rowsX d).drop (out + 1)).length ≤ 24 := by
              rw [List.length_append, List.length_take, List.length_drop]
              have := HM.out
              omega
            refine ⟨by omega, fun r hr => ?_⟩
            have hr' : r ∈ rowsX d := by
              rcases List.mem_append.1 hr with h | h
              · exact List.mem_of_mem_take h
              · exact List.mem_of_mem_drop h
            refine ⟨key_small Hld.out r hr', by have := rowsX_cols d r hr'; omega, fun c hc => by have := (Hcs.out r hr' c hc).2; omega⟩
          have hT6 : Tabs V6 V6.heap.size := P6.tb.mono (Nat.le_trans P6.hB P6.hG)
          have hL6 := load_arg a6 c6 _ hin hsm hc6 hT6
          rw [hnone] at hL6
          have HL6 := hid hL6
          have HP6 := hid P6
          clear sz e23 e10 e22 hA A P0 b0 hV0 ho6 hb6 P6 hbi6 hless hin hc6 hnone hsm hT6 hL6 hMb
          obtain ⟨m6, hm6⟩ : ∃ m6, m6 = ((rowsX d).take out ++ (rowsX d).drop (out + 1)).length := ⟨_, rfl⟩
          rw [← hm6] at HL6 ⊢
          clear hm6
          go_wp2_with (go_at_call 6; refine HL6.out.mono ?_; rintro _ wX ⟨bX, eX, xX⟩; clear xX; obtain rfl := eX rfl; have HBX := hid bX; clear eX bX)
          go_ret
          exact ⟨rfl, HB.out ▸ HP6.out.bel.trans (HBX.out.mono (Nat.le_trans HP6.out.hB HP6.out.hG))⟩
end Go.Proofs.YthfmpebgmojcaaaDoor
