/- YthfmpebgmojcaaaDoorQSI + YthfmpebgmojcaaaDoorQRl3 -/
import Derived.Test.YthfmpebgmojcaaaDoorZRows
import Derived.Deep.RegionHeld3
import Derived.Test.YthfmpebgmojcaaaDoorQRl2
/- The reference's SameRows of rows of the call's own, and rows that were handed in. -/
namespace Go.Proofs.YthfmpebgmojcaaaDoor.Xr
open Go.RowKit
set_option linter.unusedVariables false
set_option maxRecDepth 20000
def RIn (w : World) (a : Option Addr) (m : List Rw) : Prop := ∀ i (h : i < m.length), ∃ b o ad cap, a = some ⟨b, o, none⟩ ∧ w.cell? ⟨b, o + i * 2, none⟩ = some (.string m[i].key) ∧ w.cell? ⟨b, o + (i * 2 + 1), none⟩ = some (.slice ad m[i].cols.length cap) ∧ Texts w ad m[i].cols
theorem RIn.below {w w' : World} {a : Option Addr} {m : List Rw} (h : RIn w a m) (hb : Below w.heap.size w w') : RIn w' a m := fun i hi => by
  obtain ⟨b, o, ad, cap, e, h1, h2, h3⟩ := h i hi
  exact ⟨b, o, ad, cap, e, cell_on hb h1, cell_on hb h2, h3.below hb⟩
def Small (m : List Rw) : Prop := m.length ≤ 140737488351232 ∧ ∀ r ∈ m, r.key.size ≤ 140737488351232 ∧ r.cols.length ≤ 140737488351232 ∧ ∀ c ∈ r.cols, c.size ≤ 140737488351232
set_option maxHeartbeats 6400000 in
theorem sameRows_in {w : World} {B1 : Nat} {v1 : Value} {r1 : List RC} {m : List Rw} (h1 : w.ownsRow B1 75 2 v1 r1.length (rcCells r1)) (a2 : Option Addr) (N c2 : Nat) (hN : N = m.length) (h2 : RIn w a2 m) (i1 : RowsIs w r1 m) (hm : m.length ≤ 1000000000) (hc : ∀ x ∈ m, x.cols.length ≤ 1000) :
    Calls Tryd.prog 9 #[v1, .slice a2 N c2] w fun e w' => e = .returned (.bool true) ∧ Below w.heap.size w w' := by
  have H1 := hid h1
  have H2 := hid h2
  have I1 := hid i1
  have Hc := hid hc
  obtain ⟨a1, c1, e1⟩ := slice_of_own h1
  rw [← hN] at hm
  have L1 : r1.length = N := by rw [hN]; exact i1.length
  rw [L1] at e1
  have HL1 := hid L1
  have HN := hid hN
  have E1 := hid e1
  rw [e1]
  clear h1 h2 i1 hc L1 hN e1
  go_enter Tryd.func9, Tryd.ntmps9
  go_wp2
  go_loopw [5] (fun i wr => ∃ k : Nat, k ≤ N ∧ i = .int .i64 k ∧ Below w.heap.size w wr) (fun i _ => N - (intOf i).toNat)
  case atStart => exact ⟨0, Nat.zero_le _, rfl, Below.refl _ _⟩
  case round =>
    obtain ⟨k, hk, rfl, hb⟩ := hrel
    have HB := hid hb
    clear hb
    by_cases hlt : k < N
    · have g1 : (k : Int) < (N : Int) := by omega
      have g0 : (0 : Int) ≤ (k : Int) := by omega
      obtain ⟨g, cap, ev1, ka, kb⟩ := rows_at (own_onW H1.out HB.out) k (by rw [HL1.out]; exact hlt)
      obtain ⟨g', o', ad2, cp2, ev2, la, lb, lt2⟩ := H2.out.below HB.out k (by rw [← HN.out]; exact hlt)
      have R1 := I1.out.get k (by rw [HL1.out]; exact hlt) (by rw [← HN.out]; exact hlt)
      have hcl := Hc.out _ (List.getElem_mem (by rw [← HN.out]; exact hlt : k < m.length))
      rw [E1.out] at ev1
      injection ev1 with x1 x2 x3
      subst x1 ev2
      generalize m[k]'(by rw [← HN.out]; exact hlt) = x at *
      generalize r1[k]'(by rw [HL1.out]; exact hlt) = q1 at *
      obtain ⟨k1, ad1, n1, cp1⟩ := q1
      obtain ⟨kx, cx⟩ := x
      obtain ⟨e1, e2, e3⟩ := R1
      dsimp only at e1 e2 e3 ka kb la lb lt2 hcl
      subst e1 e2
      have T1 := hid (e3.below HB.out)
      have T2 := hid lt2
      have HS := hid (fun (V : World) (hb : Below wr.heap.size wr V) => show Calls Tryd.prog 38 #[.slice ad1 cx.length cp1, .slice ad2 cx.length cp2] V (fun e w' => e = .returned (.bool true) ∧ Below V.heap.size V w') from (sameTexts_any cx cx ad1 ad2 cp1 cp2 V (T1.out.below hb).texts (T2.out.below hb) (by omega) (by omega)).mono (fun e w' h => ⟨h.1.trans (by rw [decide_eq_true (rfl : cx = cx)]), h.2⟩))
      have Z : Hid (wr.drew.cell? ⟨g, k * 2, none⟩ = some (.string k1) ∧ wr.drew.cell? ⟨g, k * 2 + 1, none⟩ = some (.slice ad1 cx.length cp1) ∧ wr.drew.cell? ⟨g', o' + k * 2, none⟩ = some (.string k1) ∧ wr.drew.cell? ⟨g', o' + k * 2 + 1, none⟩ = some (.slice ad2 cx.length cp2)) := ⟨ka, kb, la, lb⟩
      have bd : Below wr.heap.size wr wr.drew := below_drewN _ _ 1
      have BD := hid bd
      clear e3 x2 x3 ka kb la lb bd hcl lt2
      go_wp2_with fail
      go_region_held3 (fun w9 => w9.cell? ⟨g, k * 2, none⟩ = some (.string k1) ∧ w9.cell? ⟨g, k * 2 + 1, none⟩ = some (.slice ad1 cx.length cp1) ∧ w9.cell? ⟨g', o' + k * 2, none⟩ = some (.string k1) ∧ w9.cell? ⟨g', o' + k * 2 + 1, none⟩ = some (.slice ad2 cx.length cp2))
        (exact Z.out)
        ((go_at_call 38; refine (HS.out _ BD.out).mono ?_; rintro e w1 ⟨rfl, hb1⟩; have Z := hid (And.intro (cell_on hb1 Z.out.1) (And.intro (cell_on hb1 Z.out.2.1) (And.intro (cell_on hb1 Z.out.2.2.1) (cell_on hb1 Z.out.2.2.2)))); have B1 := hid (Below.on' HB.out (undrew1 hb1)); clear hb1))
      go_wp2
      go_roundw
      case rel => exact ⟨k + 1, by omega, by go_num, B1.out⟩
      case measure => simp [intOf]; omega
    · have e : k = N := by omega
      subst e
      go_wp2
      go_ret
      exact ⟨rfl, HB.out⟩
end Go.Proofs.YthfmpebgmojcaaaDoor.Xr
/- Load of any rows that were handed in, the program's and the reference's. -/
namespace Go.Proofs.YthfmpebgmojcaaaDoor
open Go.RowKit
set_option linter.unusedVariables false
set_option maxRecDepth 20000
def tx (m : List Xr.Rw) : List TR := m.map fun x => (x.key, x.cols)
theorem tx_len (m : List Xr.Rw) : (tx m).length = m.length := List.length_map ..
theorem tx_toX (m : List Xr.Rw) : (tx m).map toX = m := by
  unfold tx
  rw [List.map_map]
  exact (List.map_congr_left (g := id) fun x _ => rfl).trans (List.map_id m)
theorem tx_rows {m : List Xr.Rw} {c : Ch} (h : loadC (tx m) = some c) : m = rowsX c := by
  rw [← tx_toX m, (loadC_some h).1]
  rfl
theorem txIn_of {w : World} {a : Option Addr} {m : List Xr.Rw} (h : Xr.RIn w a m) (hm : 0 < m.length) : ∃ b o, a = some ⟨b, o, none⟩ ∧ TxIn w b o (tx m) := by
  obtain ⟨b, o, ad, cap, rfl, h1, h2, h3⟩ := h 0 hm
  refine ⟨b, o, rfl, fun i hi => ?_⟩
  rw [tx_len] at hi
  obtain ⟨b', o', ad', cap', e, k1, k2, k3⟩ := h i hi
  cases e
  have e1 : (tx m)[i]'(by rw [tx_len]; exact hi) = (m[i].key, m[i].cols) := by simp [tx]
  rw [e1]
  exact ⟨ad', cap', k1, k2, k3⟩
set_option maxHeartbeats 4000000 in
theorem rload_bad {w : World} (b o cap : Nat) (r0 : TR) (l : List TR) (hR : TxIn w b o (r0 :: l)) (h3 : 3 ≤ l.length) (hl : l.length ≤ 67) (hb : ¬ (r0.1 = ⟨#[35]⟩ ∧ r0.2.length = 3)) :
    Calls Tryd.prog 7 #[.slice (some ⟨b, o, none⟩) (1 + l.length) cap] w (RLoadAny w (loadC (r0 :: l))) := by
  have hx : loadC (r0 :: l) = none := by
    cases hc : loadC (r0 :: l) with
    | none => rfl
    | some c =>
      have h := (loadC_some hc).1
      simp only [rowsOf, headRows, List.cons_append, List.cons.injEq] at h
      exact absurd (by rw [h.1]; exact ⟨rfl, rfl⟩) hb
  obtain ⟨a0, p0, u0, v0, s0⟩ := hR 0 (by simp)
  obtain ⟨key, cols⟩ := r0
  have x0 : w.cell? ⟨b, o, none⟩ = some (.string key) := u0
  have y0 : w.cell? ⟨b, o + 1, none⟩ = some (.slice a0 cols.length p0) := v0
  have hb' : ¬ (key = ⟨#[35]⟩ ∧ cols.length = 3) := hb
  obtain ⟨n, hn⟩ : ∃ n, n = cols.length := ⟨_, rfl⟩
  rw [← hn] at y0 hb'
  generalize loadC ((key, cols) :: l) = X at *
  obtain ⟨N, hN⟩ : ∃ N, N = 1 + l.length := ⟨_, rfl⟩
  rw [← hN]
  have g4 : ¬ (N : Int) < 4 := by omega
  have g68 : ¬ (68 : Int) < (N : Int) := by omega
  have hn0 : 0 < N := by omega
  have HX := hid hx
  clear hR u0 v0 s0 hN hl h3 hb hx hn
  by_cases hk : key = ⟨#[35]⟩
  · subst hk
    have h3 : ((n : Int) != 3) = true := by rw [bne, beq_eq_false_iff_ne.2 (fun e => hb' ⟨rfl, by omega⟩)]; rfl
    clear hb'
    go_enter Tryd.func7, Tryd.ntmps7
    go_wp2_with fail
    go_ret2
    exact RLoadAny.no HX.out (Below.refl _ _)
  · have k1 : (key.toList == (⟨#[35]⟩ : ByteArray).toList) = false := by rw [eqQ]; exact decide_eq_false hk
    have k2 : ¬ key.toList = [35] := fun e => hk ((str_eqQ _ _).2 (e.trans (by rw [Lib.toList_data])))
    clear hb' hk
    go_enter Tryd.func7, Tryd.ntmps7
    go_wp2_with fail
    go_ret2
    exact RLoadAny.no HX.out (Below.refl _ _)
theorem rload_any {w : World} (a : Option Addr) (cap : Nat) (m : List Xr.Rw) (h : Xr.RIn w a m) (hs : Xr.Small m) (hcap : m.length ≤ cap) :
    Calls Tryd.prog 7 #[.slice a m.length cap] w (RLoadAny w (loadC (tx m))) := by
  by_cases hl : m.length < 4 ∨ 68 < m.length
  · have := rload_short (w := w) a cap (tx m) (by rw [tx_len]; exact hl)
    rw [tx_len] at this
    exact this
  · obtain ⟨b, o, rfl, ht⟩ := txIn_of h (by omega)
    have hsz : ∀ r ∈ tx m, ∀ x ∈ r.2, x.size ≤ maxLen := fun r hr x hx => by
      obtain ⟨y, hy, rfl⟩ := List.mem_map.1 hr
      exact Nat.le_trans ((hs.2 y hy).2.2 x hx) (by decide)
    have hlen := tx_len m
    rw [← hlen] at hl hcap ⊢
    generalize tx m = R at *
    match R, hl, ht, hsz, hcap with
    | r0 :: r1 :: r2 :: r3 :: l, hl, ht, hsz, hcap =>
      have e1 : (r0 :: r1 :: r2 :: r3 :: l).length = 4 + l.length := by simp; omega
      by_cases hg : r0.1 = ⟨#[35]⟩ ∧ r0.2.length = 3
      · obtain ⟨k0, cols⟩ := r0
        obtain ⟨rfl, hg2⟩ := hg
        match cols, hg2, ht, hsz, e1 with
        | [p, q, s], _, ht, hsz, e1 =>
          rw [e1] at hl hcap ⊢
          exact rload_long b o cap p q s r1 r2 r3 l ht hsz (by omega) hcap
      · have e2 : (r0 :: r1 :: r2 :: r3 :: l).length = 1 + (r1 :: r2 :: r3 :: l).length := by simp; omega
        rw [e2]
        exact rload_bad b o cap r0 (r1 :: r2 :: r3 :: l) ht (by simp) (by simp; simp at hl; omega) hg
    | [], hl, _, _, _ => simp at hl
    | [_], hl, _, _, _ => simp at hl
    | [_, _], hl, _, _, _ => simp at hl
    | [_, _, _], hl, _, _, _ => simp at hl
theorem load_arg {w : World} (a : Option Addr) (cap : Nat) (m : List Xr.Rw) (h : Xr.RIn w a m) (hs : Xr.Small m) (hcap : m.length ≤ cap) (hT : Tabs w w.heap.size) :
    Calls Tryd.prog 6 #[.slice a m.length cap] w (LoadAny w (loadC (tx m))) := by
  by_cases hl : m.length < 4 ∨ 68 < m.length
  · have := load_short (w := w) a cap (tx m) (by rw [tx_len]; exact hl)
    rw [tx_len] at this
    exact this
  · obtain ⟨b, o, rfl, ht⟩ := txIn_of h (by omega)
    have hsz : ∀ r ∈ tx m, ∀ x ∈ r.2, x.size ≤ maxLen := fun r hr x hx => by
      obtain ⟨y, hy, rfl⟩ := List.mem_map.1 hr
      exact Nat.le_trans ((hs.2 y hy).2.2 x hx) (by decide)
    have hlen := tx_len m
    rw [← hlen] at hl hcap ⊢
    generalize tx m = R at *
    match R, hl, ht, hsz, hcap with
    | r0 :: r1 :: r2 :: r3 :: l, hl, ht, hsz, hcap =>
      have e1 : (r0 :: r1 :: r2 :: r3 :: l).length = 4 + l.length := by simp; omega
      rw [e1] at hl hcap ⊢
      exact load_long b o cap r0 r1 r2 r3 l ht hsz (by omega) hcap hT
    | [], hl, _, _, _ => simp at hl
    | [_], hl, _, _, _ => simp at hl
    | [_, _], hl, _, _, _ => simp at hl
    | [_, _, _], hl, _, _, _ => simp at hl
end Go.Proofs.YthfmpebgmojcaaaDoor
