/- write of package wal: a group's blocks, by a contract. -/
import Derived.Test.YtcaifnenejjfaaaWWrite
namespace Go.Proofs.Ytcaifnenejjfaaa
open Go.RowKit Go.Maps
set_option linter.unusedVariables false
set_option maxRecDepth 20000

/-- the bytes that a page leads to -/
def bytesAt (w : World) (p : PgV) : List UInt8 := (List.range p.2.2.1).map fun i => match p.2.1 with
  | some ⟨b, o, _⟩ => (match w.cell? ⟨b, o + i, none⟩ with | some (.int _ x) => UInt8.ofNat x.toNat | _ => 0)
  | none => 0
theorem bytesAt_length (w : World) (p : PgV) : (bytesAt w p).length = p.2.2.1 := by simp [bytesAt]
theorem bytesAt_eq {w : World} {m : Int} {b o c : Nat} {x : List UInt8} (h : Bytes w (some ⟨b, o, none⟩) x) : bytesAt w (m, some ⟨b, o, none⟩, x.length, c) = x := by
  apply List.ext_getElem (by rw [bytesAt_length])
  intro i h1 h2
  obtain ⟨b', o', e, hc⟩ := h i h2
  cases e
  simp [bytesAt, hc]
theorem bytesAt_keep {w w' : World} {p : PgV} (h : ∀ b o t, p.2.1 = some ⟨b, o, t⟩ → w'.heap[b]? = w.heap[b]?) : bytesAt w' p = bytesAt w p := by
  unfold bytesAt
  apply List.map_congr_left
  intro i _
  cases hp : p.2.1 with
  | none => rfl
  | some a =>
    obtain ⟨b, o, t⟩ := a
    dsimp only
    rw [World.cell?_of_block (a := ⟨b, o + i, none⟩) (h b o t hp)]

/-- a page whose bytes lie outside of some blocks -/
def PgOk (w : World) (F : Nat → Prop) (p : PgV) : Prop := ∃ b o, p.2.1 = some ⟨b, o, none⟩ ∧ p.2.2.1 = 256 ∧ Bytes w (some ⟨b, o, none⟩) (bytesAt w p) ∧ ¬ F b ∧ b < w.heap.size
theorem PgOk.keep {w w' : World} {F F' : Nat → Prop} {p : PgV} (h : PgOk w F p) (ho : Out F w w') (hF : ∀ k, k < w.heap.size → F' k → F k) : PgOk w' F' p ∧ bytesAt w' p = bytesAt w p := by
  obtain ⟨b, o, h1, h2, h3, h4, h5⟩ := h
  have hb : w'.heap[b]? = w.heap[b]? := ho.block b h5 h4
  have e : bytesAt w' p = bytesAt w p := bytesAt_keep fun b' o' t e => by
    rw [h1] at e
    cases e
    exact hb
  exact ⟨⟨b, o, h1, h2, by rw [e]; exact h3.keep hb, fun h => h4 (hF b h5 h), Nat.lt_of_lt_of_le h5 ho.size⟩, e⟩

/-- a group's numbers -/
def numsP (s : List PgV) : List Nat := s.map fun p => p.1.toNat
theorem numsP_length (s : List PgV) : (numsP s).length = s.length := by simp [numsP]
theorem numsP_get (s : List PgV) (i : Nat) (h : i < (numsP s).length) : (numsP s)[i] = (s[i]'(by rw [numsP_length] at h; exact h)).1.toNat := by simp [numsP]

theorem LogMem.setG {w : World} {B l d g cap mb n : Nat} {v : Value} {S G U : Nat} {pl : Nat → Option Nat} {ps : List (List UInt8)} {ch : List (Nat × List UInt8)} (h : LogMem w B l d g cap mb n v S G U pl ps ch) (G' : Nat) :
    LogMem (w.setCell ⟨l, 0, none⟩ (.int .i64 (G' : Int))) B l d g cap mb n v S G' U pl ps ch ∧ Out (fun k => k = l) w (w.setCell ⟨l, 0, none⟩ (.int .i64 (G' : Int))) := by
  have o : ∀ k, k ≠ l → (w.setCell ⟨l, 0, none⟩ (.int .i64 (G' : Int))).heap[k]? = w.heap[k]? := fun k hk => heap_setCell_other _ _ _ _ hk
  have s : (w.setCell ⟨l, 0, none⟩ (.int .i64 (G' : Int))).heap.size = w.heap.size := by simp [World.setCell]
  refine ⟨⟨?_, h.disk.keep (o d (Ne.symm h.ld)) (o g (Ne.symm h.lg)) (fun k e => o k (fun e' => h.lv (by rw [e, e']))), h.map.keep (o mb h.mne.1), h.bl, h.bm, h.ld, h.lg, h.lv⟩, ⟨rfl, rfl, rfl, Nat.le_of_eq s.symm, fun k hk hp => o k hp⟩⟩
  rw [heap_setCell_same w l 0 _ _ (.int .i64 (G' : Int)) h.obj]
  simp

set_option maxHeartbeats 3200000 in
theorem write_any' {w : World} {B l d g cap mb n : Nat} {v : Value} {S G U : Nat} {pl : Nat → Option Nat} {fs : List (List UInt8)} {ls : List (Nat × List UInt8)} (h : LogMem w B l d g cap mb n v S G U pl (psOf fs ls) (chOf fs ls)) (P : Nat) (hl : fs.length = S + 1 + P) (hm : fs.length ≤ 1024) (s : List PgV) (gb c j : Nat) (hs : PgsAt w gb 0 s) (hj : s.length = j + 1) (hj2 : j ≤ 99) (hgb : ¬ logBlock l d g mb v gb) (hok : ∀ p ∈ s, PgOk w (logBlock l d g mb v) p) (hr : ∀ p ∈ s, 0 ≤ p.1 ∧ p.1 < (P : Int)) (hup : s.Pairwise (fun a b => a.1 < b.1)) (hU : U + j + 2 ≤ S) (hG : G + 1 < 9223372036854775808) (hls : ls.length ≤ 900000) (hn : n ≤ 1000000) (hbase : B ≤ w.heap.size) :
    Calls Try.prog 35 #[.pointer (some ⟨l, 0, none⟩), .slice (some ⟨gb, 0, none⟩) (j + 1) c] w fun e w' => e = .returned (.tuple #[]) ∧ ∃ v', LogMem w' B l d g cap mb (n + s.length) v' S (G + 1) (U + s.length + 1) (noted pl (U + 2) (numsP s)) (psOf fs (ls ++ commitWs U G (numsP s) (s.map (bytesAt w)))) (chOf fs (ls ++ commitWs U G (numsP s) (s.map (bytesAt w)))) ∧ NewV w v v' ∧ Out (logBlock l d g mb v) w w' := by
  obtain ⟨i0, hi, hz0, hz1, hz2⟩ := info_parts Try.info3
  have H := hid h
  have Hs := hid hs
  have Hj := hid hj
  have Hgb := hid hgb
  have Hok := hid hok
  have Hr := hid hr
  have Hup := hid hup
  have Hl := hid hl
  have hgw : gb < w.heap.size := World.block_lt_of_cell? _ _ (hs 0 (by omega)).1
  obtain ⟨N, hN⟩ : ∃ N, N = numsP s := ⟨_, rfl⟩
  have HN := hid hN
  have Hnl : Hid (N.length = j + 1) := by show _ = _; rw [hN, numsP_length, hj]
  clear h hs hj hgb hok hr hup hl hN
  go_enter Try.func35, Try.ntmps35
  go_wp2_with (at_make; refine wpList_make_full _ rfl _ _ 33 rfl w.heap.size 3 i0 (.int .i64 0) 1 Try.underlying33 hi hz0 hz1 .i64 .i64 _ _ (j + 1) rfl rfl (by omega) (by omega) (by rw [hz2]; omega) (by unfold maxLen; omega) (by simp) ?_; intro w0 hown0 hgrow0; have Hown0 := hid hown0; have Hb0 := hid ((Below.refl _ w).grown hgrow0 (Nat.le_refl _) (by simp)); clear hown0 hgrow0)
  have Hst : Hid (w0.ownsRow w.heap.size 3 1 (.slice (some ⟨w.heap.size, 0, none⟩) (j + 1) (j + 1)) (j + 1) (nums (filled N 0))) := by
    have h := Hown0.out
    rw [made_nums] at h
    have e : filled N 0 = List.replicate (j + 1) 0 := by unfold filled; rw [Hnl.out]; rfl
    rw [e]; exact h
  clear Hown0
  go_loopw [14] (fun i wr => ∃ k : Nat, k ≤ j + 1 ∧ i = .int .i64 k ∧ wr.ownsRow w.heap.size 3 1 (.slice (some ⟨w.heap.size, 0, none⟩) (j + 1) (j + 1)) (j + 1) (nums (filled N k)) ∧ Below w.heap.size w wr) (fun i _ => j + 1 - (intOf i).toNat)
  case atStart => exact ⟨0, Nat.zero_le _, rfl, Hst.out, Hb0.out⟩
  case round =>
    obtain ⟨k, hk, rfl, hown, hbel⟩ := hrel
    have Hown := hid hown
    have Hbel := hid hbel
    clear hown hbel Hst Hb0
    by_cases hlt : k < j + 1
    · have hks : k < s.length := by rw [Hj.out]; exact hlt
      have hkn : k < N.length := by rw [Hnl.out]; exact hlt
      have HsR := hid (Hs.out.keep (Hbel.out.block gb hgw))
      have e0 := (HsR.out k hks).1
      have e1 := (HsR.out k hks).2
      rw [Nat.zero_add] at e0 e1
      have hlen : Hid ((filled N k).length = j + 1) := by show _ = _; rw [filled_length _ _ (by omega), Hnl.out]
      have ex : s[k].1 = (N[k] : Int) := by
        have h1 := Hr.out _ (List.getElem_mem hks)
        have h2 : N[k] = (s[k]).1.toNat := by
          have := HN.out
          subst this
          exact numsP_get s k hkn
        omega
      rw [ex] at e0
      have Hfs := hid (filled_set N k hkn)
      have Hn6 : N[k] < 65536 := by have := Hr.out _ (List.getElem_mem hks); have := Hl.out; omega
      generalize N[k] = x at *
      generalize s[k].2.1 = a at *
      generalize s[k].2.2.1 = L at *
      generalize s[k].2.2.2 = cc at *
      have HownA := hid (Hown.out.alloc (.cells #[.int .i64 (x : Int), .slice a L cc] 48))
      have c1 := (HownA.out.cellAt k (by omega)).trans (nums_get _ k (by rw [hlen.out]; exact hlt))
      have z1 := HownA.out.frozenAt k
      have Hsd := hid (HownA.out.stored k (.int .i64 (x : Int)))
      rw [nums_set, Hfs.out] at Hsd
      have HbA := hid (Hbel.out.alloc Hbel.out.size (.cells #[.int .i64 (x : Int), .slice a L cc] 48))
      generalize ((filled N k)[k]'(by rw [hlen.out]; exact hlt)) = c0 at c1
      have d0 : (0 : Int) ≤ (k : Int) := by omega
      have d1 : (k : Int) < (j : Int) + 1 := by omega
      clear ex hks hkn
      go_wp2
      go_roundw
      case rel => exact ⟨k + 1, by omega, by go_num, Hsd.out.1, HbA.out.grown Hsd.out.2 HbA.out.size (by simp)⟩
      case measure => simp [intOf]; omega
    · have Ho1 : Hid (wr.ownsRow w.heap.size 3 1 (.slice (some ⟨w.heap.size, 0, none⟩) (j + 1) (j + 1)) (j + 1) (nums N)) := by
        have h := Hown.out
        rw [show k = N.length by rw [Hnl.out]; omega, filled_all] at h
        exact h
      have H1 := hid (H.out.below Hbel.out)
      have c2 := H1.out.c2
      clear Hown
      have Hnums1 : Hid (Nums wr (some ⟨w.heap.size, 0, none⟩) N) := fun i hi => by
        refine ⟨w.heap.size, 0, rfl, ?_⟩
        rw [Nat.zero_add, Ho1.out.cellAt i (by rw [Hnl.out] at hi; omega), nums_get N i hi]
      have Hnlt : Hid (∀ x ∈ N, x < 65536) := fun x hx => by
        obtain ⟨i, hi, rfl⟩ := List.getElem_of_mem hx
        have e := HN.out
        have h2 : N[i] = (s[i]'(by rw [Hj.out]; rw [Hnl.out] at hi; exact hi)).1.toNat := by subst e; exact numsP_get s i hi
        have := Hr.out _ (List.getElem_mem (show i < s.length by rw [Hj.out]; rw [Hnl.out] at hi; exact hi))
        have := Hl.out
        omega
      have hXw : w.heap.size < wr.heap.size := (Ho1.out.lt _ rfl).2
      have Hnx := hid (next_any (H1.out.keep (w' := wr.drew) (fun _ _ => rfl)) (by have := Hl.out; omega))
      have Hix : Hid (Calls Try.prog 57 #[.slice (some ⟨w.heap.size, 0, none⟩) (j + 1) (j + 1)] wr.drew fun e w' => ∃ g c, e = .returned (.slice (some ⟨g, 0, none⟩) 256 c) ∧ w'.ownsRow wr.heap.size 5 1 (.slice (some ⟨g, 0, none⟩) 256 c) 256 (cellsOf (indexB N)) ∧ Below wr.heap.size wr w') := by
        have h := indexBytes_any N (some ⟨w.heap.size, 0, none⟩) (j + 1) wr.drew (fun i hi => Hnums1.out i hi) (by rw [Hnl.out]; omega) Hnlt.out
        rw [Hnl.out] at h
        exact h.mono fun e w' hh => by obtain ⟨g, c, h1, h2, h3⟩ := hh; exact ⟨g, c, h1, h2, undrew1 h3⟩
      have Hl256 := hid (indexB_length N (by rw [Hnl.out]; omega))
      go_wp2
      go_region_held3 (fun w9 => w9.cell? ⟨l, 2, none⟩ = some (.pointer (some ⟨d, 0, none⟩))) (first | exact c2 | exact q2.out | exact q.out)
        (first
          | ((go_at_call 51; refine Hnx.out.mono ?_; rintro e w3 ⟨rfl, rfl⟩))
          | ((go_at_call 57; refine Hix.out.mono ?_; rintro e w4 ⟨g4, c4, rfl, ho4, hb4⟩; have H4 := hid (H1.out.below hb4); have q := hid H4.out.c2; have Hb4 := hid hb4; have Hw4 := hid (fun mI hmI => logWrite H4.out (U + 1) (by have := Hl.out; omega) (indexB N) Hl256.out g4 0 c4 (bytes_of_row ho4 Hl256.out) (fun hh => by have h1 := (H1.out.lts _ hh).2; have h2 := (ho4.lt g4 rfl).1; omega) (by omega) (Nat.le_trans hbase (Nat.le_trans Hbel.out.size hb4.size)) mI hmI); clear ho4 hb4))
          | ((go_at_call 36; refine (Hw4.out _ (by omega)).mono ?_; rintro e w5 ⟨rfl, v5, hM5, hn5, ho5⟩; have H5 := hid hM5; have q2 := hid hM5.c2; have Hn5 := hid hn5; have Ho5 := hid ho5; clear hM5 hn5 ho5)))
      clear c2 q q2 Hnx Hix Hw4
      have HX5 : Hid (w5.ownsRow w.heap.size 3 1 (.slice (some ⟨w.heap.size, 0, none⟩) (j + 1) (j + 1)) (j + 1) (nums N)) := by
        refine own_keep (own_below Ho1.out Hb4.out) fun k hk => ?_
        cases hk
        exact Ho5.out.block _ (Nat.lt_of_lt_of_le hXw Hb4.out.size) (fun hh => Nat.lt_irrefl _ (H.out.lts _ hh).2)
      have Hall5 : Hid (NewV w v v5 ∧ v5.ownBlock ≠ some w.heap.size ∧ Out (logBlock l d g mb v) w w5 ∧ w.heap.size < w5.heap.size) := by
        refine ⟨fun k hk => (Hn5.out k hk).imp id (fun h => Nat.le_trans (Nat.le_trans Hbel.out.size Hb4.out.size) h), fun e => ?_, ((Out.of_below Hbel.out).trans (Out.of_below (P := fun _ => False) Hb4.out) (fun _ _ e => e.elim)).trans Ho5.out (fun _ _ e => e), Nat.lt_of_lt_of_le hXw (Nat.le_trans Hb4.out.size Ho5.out.size)⟩
        rcases Hn5.out _ e with h | h
        · have := (H.out.lts _ (.inr (.inr (.inr (.inr h))))).2; omega
        · have := Hb4.out.size; omega
      have Hxs : Hid ((s.map (bytesAt w)).length = j + 1) := by show _ = _; rw [List.length_map, Hj.out]
      clear Hbel H1 Ho1 Hnums1 Hb4 H4 Hn5 Ho5
      go_wp2
      go_loopw [37] (fun i wr => ∃ k : Nat, k ≤ j + 1 ∧ i = .int .i64 k ∧ ∃ vk, LogMem wr B l d g cap mb n vk S G U pl (psOf fs (ls ++ ((U + 1, indexB N) :: putAt (U + 2) ((s.map (bytesAt w)).take k)))) (chOf fs (ls ++ ((U + 1, indexB N) :: putAt (U + 2) ((s.map (bytesAt w)).take k)))) ∧ wr.ownsRow w.heap.size 3 1 (.slice (some ⟨w.heap.size, 0, none⟩) (j + 1) (j + 1)) (j + 1) (nums N) ∧ (NewV w v vk ∧ vk.ownBlock ≠ some w.heap.size ∧ Out (logBlock l d g mb v) w wr ∧ w.heap.size < wr.heap.size)) (fun i _ => j + 1 - (intOf i).toNat)
      case atStart => exact ⟨0, Nat.zero_le _, rfl, v5, H5.out, HX5.out, Hall5.out⟩
      case round =>
        obtain ⟨k2, hk2, rfl, vk, hM, hX, hA⟩ := hrel
        have HM := hid hM
        have HX := hid hX
        have HA := hid hA
        clear hM hX hA H5 HX5 Hall5
        by_cases hlt2 : k2 < j + 1
        · have hks : k2 < s.length := by rw [Hj.out]; exact hlt2
          have hkx : k2 < (s.map (bytesAt w)).length := by rw [Hxs.out]; exact hlt2
          have HsR := hid (Hs.out.keep (HA.out.2.2.1.block gb hgw Hgb.out))
          have e0 := (HsR.out k2 hks).1
          have e1 := (HsR.out k2 hks).2
          rw [Nat.zero_add] at e0 e1
          have hpk := (Hok.out _ (List.getElem_mem hks)).keep HA.out.2.2.1 (F' := logBlock l d g mb vk) (fun k hk hb => (HA.out.1.block hb).resolve_right (by omega))
          obtain ⟨⟨pb, po, hp1, hp2, hp3, hp4, hp5⟩, hpe⟩ := hpk
          have Hx : Hid ((s.map (bytesAt w)).take (k2 + 1) = (s.map (bytesAt w)).take k2 ++ [bytesAt w s[k2]]) := by
            show _ = _
            rw [List.take_succ_eq_append_getElem hkx, List.getElem_map]
          have hl256 : (bytesAt w s[k2]).length = 256 := by rw [bytesAt_length]; exact hp2
          rw [hpe] at hp3
          rw [hp1, hp2] at e1
          have Hp3 := hid hp3
          have Hp4 := hid hp4
          have Hl2 := hid hl256
          generalize s[k2].1 = x at *
          generalize s[k2].2.2.2 = cc at *
          generalize bytesAt w s[k2] = xb at *
          clear hp1 hp2 hp3 hp4 hpe hks hkx hl256
          have d0 : (0 : Int) ≤ (k2 : Int) := by omega
          have d1 : (k2 : Int) < (j : Int) + 1 := by omega
          go_wp2
          have HbA := hid ((Below.refl _ wr).alloc (Nat.le_refl _) (.cells #[.int .i64 x, .slice (some ⟨pb, po, none⟩) 256 cc] 48))
          have Hy := hid (heap_alloc_new wr (.cells #[.int .i64 x, .slice (some ⟨pb, po, none⟩) 256 cc] 48))
          generalize wr.alloc (.cells #[.int .i64 x, .slice (some ⟨pb, po, none⟩) 256 cc] 48) = W at *
          have HMW := hid (HM.out.below HbA.out)
          have y1 := cell_of_row _ _ 1 _ _ _ Hy.out
          have l2 := HMW.out.c2
          have Hnx := hid (next_any (HMW.out.keep (w' := W.drew) (fun _ _ => rfl)) (by have := Hl.out; omega))
          have HpW : Hid (Bytes W.drew (some ⟨pb, po, none⟩) xb) := fun i hi => Hp3.out.below HbA.out i hi
          have Hwr := hid (fun mI hmI => logWrite (HMW.out.keep (w' := W.drew) (fun _ _ => rfl)) (U + 2 + k2) (by have := Hl.out; omega) xb Hl2.out pb po cc HpW.out Hp4.out (by rw [List.length_append, List.length_cons, putAt_length, List.length_take]; omega) (Nat.le_trans hbase (Nat.le_trans HA.out.2.2.1.size HbA.out.size)) mI hmI)
          generalize hY : wr.heap.size = Y at *
          have Hsz := hid hY
          clear hY
          have f1 : IntKind.i64.wrap (1 + (U : Int) + 1) = 1 + (U : Int) + 1 := by rw [IntKind.wrap_i64]; have := Hl.out; omega
          have f2 : IntKind.i64.wrap (1 + (U : Int) + 1 + (k2 : Int)) = 1 + (U : Int) + 1 + (k2 : Int) := by rw [IntKind.wrap_i64]; have := Hl.out; omega
          clear e0 e1
          go_region_held3 (fun w9 => w9.cell? ⟨l, 2, none⟩ = some (.pointer (some ⟨d, 0, none⟩)) ∧ w9.cell? ⟨Y, 1, none⟩ = some (.slice (some ⟨pb, po, none⟩) 256 cc)) (first | exact ⟨l2, y1⟩ | exact q2.out)
            (first
              | ((go_at_call 51; refine Hnx.out.mono ?_; rintro e w3 ⟨rfl, rfl⟩))
              | ((go_at_call 36; refine (Hwr.out _ (by omega)).mono ?_; rintro e w6 ⟨rfl, v6, hM6, hn6, ho6'⟩; have ho6 := ho6'.undrew; have hyl : Y < W.heap.size := World.block_lt_of_cell? _ _ y1; have hyn : ¬ logBlock l d g mb vk Y := (fun hh => by have := (HM.out.lts _ hh).2; have := Hsz.out; omega); have q2 := hid (And.intro hM6.c2 ((World.cell?_of_block (a := ⟨Y, 1, none⟩) (ho6.block Y hyl hyn)).trans y1)); have H6 := hid hM6; have Hn6 := hid hn6; have Ho6 := hid ho6; clear hM6 hn6 ho6 ho6' hyl hyn)))
          clear l2 y1 q2 Hnx Hwr
          go_wp2
          go_roundw
          case rel =>
            obtain rfl := Hsz.out
            have hWs : w.heap.size < W.heap.size := Nat.lt_of_lt_of_le HA.out.2.2.2 HbA.out.size
            have hneX : ¬ logBlock l d g mb vk w.heap.size := by
              have a1 := (H.out.lts l (.inl rfl)).2
              have a2 := (H.out.lts d (.inr (.inl rfl))).2
              have a3 := (H.out.lts g (.inr (.inr (.inl rfl)))).2
              have a4 := (H.out.lts mb (.inr (.inr (.inr (.inl rfl))))).2
              rintro (e | e | e | e | e)
              · omega
              · omega
              · omega
              · omega
              · exact HA.out.2.1 e
            refine ⟨k2 + 1, by omega, by go_num, v6, ?_, ?_, ?_, ?_, ?_, ?_⟩
            · have e : ls ++ ((U + 1, indexB N) :: putAt (U + 2) ((s.map (bytesAt w)).take (k2 + 1))) = ls ++ ((U + 1, indexB N) :: putAt (U + 2) ((s.map (bytesAt w)).take k2)) ++ [(U + 2 + k2, xb)] := by
                rw [Hx.out, putAt_snoc, List.length_take, Hxs.out, show min k2 (j + 1) = k2 by omega]
                simp
              rw [e]
              exact H6.out
            · refine own_keep (own_below HX.out HbA.out) fun k hk => ?_
              cases hk
              exact Ho6.out.block _ hWs hneX
            · exact HA.out.1.trans (w' := W) Hn6.out (by omega)
            · intro e
              rcases Hn6.out _ e with h | h
              · exact HA.out.2.1 h
              · have : W.drew.heap.size = W.heap.size := rfl
                omega
            · exact (HA.out.2.2.1.trans (Out.of_below (P := fun _ => False) HbA.out) (fun _ _ e => e.elim)).trans Ho6.out (fun k hk hb => (HA.out.1.block hb).resolve_right (by omega))
            · exact Nat.lt_of_lt_of_le hWs Ho6.out.size
          case measure => simp [intOf]; omega
        · have e2 : k2 = j + 1 := by omega
          have HM2 : Hid (LogMem wr B l d g cap mb n vk S G U pl (psOf fs (ls ++ ((U + 1, indexB N) :: putAt (U + 2) (s.map (bytesAt w))))) (chOf fs (ls ++ ((U + 1, indexB N) :: putAt (U + 2) (s.map (bytesAt w)))))) := by
            have h := HM.out
            rw [List.take_of_length_le (by rw [Hxs.out]; omega)] at h
            exact h
          have Hnums2 : Hid (Nums wr (some ⟨w.heap.size, 0, none⟩) N) := fun i hi => by
            refine ⟨w.heap.size, 0, rfl, ?_⟩
            rw [Nat.zero_add, HX.out.cellAt i (by rw [Hnl.out] at hi; omega), nums_get N i hi]
          have Hnd : Hid (N.Nodup) := by
            have h1 := HN.out
            subst h1
            unfold numsP
            refine List.Pairwise.map (R := fun a b : PgV => a.1 < b.1 ∧ 0 ≤ a.1) _ (fun a b h => by omega) ?_
            refine List.Pairwise.imp_of_mem (fun ha _ h => ⟨h, (Hr.out _ ha).1⟩) Hup.out
          have hXl : w.heap.size ≠ l ∧ w.heap.size ≠ mb := ⟨fun e => absurd (H.out.lts l (.inl rfl)).2 (by omega), fun e => absurd (H.out.lts mb (.inr (.inr (.inr (.inl rfl))))).2 (by omega)⟩
          have Hnt := hid (note_any HM2.out N w.heap.size 0 (j + 1) Hnums2.out Hnd.out (by rw [Hnl.out]; omega) Hnlt.out hXl (by have := Hl.out; omega) hn)
          rw [Hnl.out] at Hnt
          clear HM e2 hXl
          go_wp2_with (go_at_call 53; refine Hnt.out.mono ?_; rintro e w7 ⟨rfl, hM7, ho7⟩; have HM7 := hid hM7; have Ho7 := hid ho7; have g0 := hM7.c0; have z0 := hM7.z 0; have fg : IntKind.i64.wrap ((G : Int) + 1) = (G : Int) + 1 := (by rw [IntKind.wrap_i64]; omega); have hsg := hM7.setG (G + 1); rw [show ((G + 1 : Nat) : Int) = (G : Int) + 1 by omega] at hsg; have Hsg := hid hsg; clear hM7 ho7 hsg)
          have hsz7 : w.heap.size ≤ w7.heap.size := Nat.le_trans HA.out.2.2.1.size Ho7.out.size
          refine (writeHead_any Hsg.out.1 (by omega) (by have := Hl.out; omega) (by have := Hl.out; omega) (by rw [List.length_append, List.length_cons, putAt_length, Hxs.out]; omega) (Nat.le_trans hbase (Nat.le_trans hsz7 Hsg.out.2.size))).mono ?_
          rintro e w9 ⟨rfl, v9, hM9, hn9, ho9⟩
          have HM9 := hid hM9
          have Hn9 := hid hn9
          have Ho9 := hid ho9
          clear hM9 hn9 ho9 g0 z0
          go_wp2
          go_end0
          have e : ls ++ commitWs U G (numsP s) (s.map (bytesAt w)) = ls ++ ((U + 1, indexB N) :: putAt (U + 2) (s.map (bytesAt w))) ++ [(0, headB (G + 1) (U + (j + 1) + 1))] := by
            unfold commitWs
            rw [← HN.out, Hnl.out]
            simp
          refine ⟨rfl, v9, ?_, ?_, ?_⟩
          · rw [e, Hj.out, ← HN.out]
            exact HM9.out
          · exact HA.out.1.trans (w' := w7.setCell ⟨l, 0, none⟩ (.int .i64 ((G : Int) + 1))) Hn9.out (Nat.le_trans hsz7 Hsg.out.2.size)
          · refine ((HA.out.2.2.1.trans Ho7.out (fun k _ h => h.elim (fun e => .inl e) (fun e => .inr (.inr (.inr (.inl e)))))).trans Hsg.out.2 (fun k _ e => .inl e)).trans Ho9.out (fun k hk hb => (HA.out.1.block hb).resolve_right (by omega))
end Go.Proofs.Ytcaifnenejjfaaa
