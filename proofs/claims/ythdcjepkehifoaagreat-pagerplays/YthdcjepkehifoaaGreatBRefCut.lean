/- YthdcjepkehifoaaGreatBPlay + YthdcjepkehifoaaGreatBReplay + YthdcjepkehifoaaGreatBImage + YthdcjepkehifoaaGreatBRefImg + YthdcjepkehifoaaGreatBRefCut -/
import Derived.Test.YthdcjepkehifoaaGreatBPair
/- play of the laws of layer 1, by a contract: disk and reference stand as one log says. -/

namespace Go.Proofs.YthdcjepkehifoaaGreat
open Go.RowKit
set_option linter.unusedVariables false
set_option maxRecDepth 20000

/-- what play leaves: a disk and a reference's disk of one log -/
structure Played (w : World) (B d g cap : Nat) (v : Value) (r : Nat) (F L : Value) (vs us : List Value) (fs : List (List UInt8)) (ls : List (Nat × List UInt8)) : Prop where
  pair : Pair w B d g cap v (psOf fs ls) (chOf fs ls) r F L vs us fs ls
  ok : ∀ c ∈ ls, c.1 < fs.length ∧ c.2.length = 256

theorem undrewO {P : Nat → Prop} {w w' : World} (h : Out P w.drew w') : Out P w w' := ⟨h.os, h.tape, h.output, h.size, h.block⟩
theorem cellsOf_set (l : List UInt8) (k : Nat) (b : UInt8) : (cellsOf l).set k (.int .u8 (b.toNat : Int)) = cellsOf (l.set k b) := by
  unfold cellsOf; rw [List.map_set]

end Go.Proofs.YthdcjepkehifoaaGreat

/- The walk of BlockReplays. -/
namespace Go.Proofs.YthdcjepkehifoaaGreat
open Go.RowKit
set_option linter.unusedVariables false
set_option maxRecDepth 20000

theorem lcells_get (ls : List (Nat × List UInt8)) (us : List Value) (h : us.length = ls.length) (i : Nat) (hi : i < ls.length) (hi' : i < us.length) : (lcells ls us)[i * 2]? = some (.int .i64 (ls[i].1 : Int)) ∧ (lcells ls us)[i * 2 + 1]? = some us[i] := by
  induction ls generalizing us i with
  | nil => simp at hi
  | cons c ls ih =>
    cases us with
    | nil => simp at hi'
    | cons u us =>
      cases i with
      | zero => exact ⟨rfl, rfl⟩
      | succ i =>
        have := ih us (by simpa using h) i (by simpa using hi) (by simpa using hi')
        rw [show (i + 1) * 2 = i * 2 + 2 by omega, show i * 2 + 2 + 1 = i * 2 + 1 + 2 by omega]
        simp only [lcells, List.getElem?_cons_succ]
        exact this
theorem psOf_take (fs : List (List UInt8)) (ls : List (Nat × List UInt8)) (i : Nat) (hi : i < ls.length) : psOf fs (ls.take (i + 1)) = (psOf fs (ls.take i)).set ls[i].1 ls[i].2 := by
  rw [List.take_succ_eq_append_getElem hi, psOf_snoc]
theorem Played.below {w w' : World} {B d g cap : Nat} {v : Value} {r : Nat} {F L : Value} {vs us : List Value} {fs : List (List UInt8)} {ls : List (Nat × List UInt8)} (h : Played w B d g cap v r F L vs us fs ls) (hb : Below w.heap.size w w') : Played w' B d g cap v r F L vs us fs ls := ⟨h.pair.below hb, h.ok⟩

end Go.Proofs.YthdcjepkehifoaaGreat

/- Image of package block, by a contract: a row of rows of bytes of one's own. -/
namespace Go.Proofs.YthdcjepkehifoaaGreat
open Go.RowKit
set_option linter.unusedVariables false
set_option maxRecDepth 20000

/-- rows of bytes in a row -/
structure ImgAt (w : World) (B : Nat) (V : Value) (vs : List Value) (ps : List (List UInt8)) : Prop where
  row : w.ownsRow B 36 1 V ps.length vs
  vlen : vs.length = ps.length
  rows : ∀ i (h : i < ps.length) (h' : i < vs.length), w.ownsRow B 5 1 vs[i] (ps[i]).length (cellsOf ps[i])
theorem ImgAt.below {w w' : World} {B : Nat} {V : Value} {vs : List Value} {ps : List (List UInt8)} (h : ImgAt w B V vs ps) (hb : Below w.heap.size w w') : ImgAt w' B V vs ps :=
  ⟨own_below h.row hb, h.vlen, fun i hi hi' => own_below (h.rows i hi hi') hb⟩
/-- the cell of a row in it, and its bytes -/
theorem ImgAt.cell {w : World} {B : Nat} {V : Value} {vs : List Value} {ps : List (List UInt8)} (h : ImgAt w B V vs ps) {b c : Nat} (hV : V = .slice (some ⟨b, 0, none⟩) ps.length c) (i : Nat) (hi : i < ps.length) : ∃ a cc, w.cell? ⟨b, i, none⟩ = some (.slice a (ps[i]).length cc) ∧ Bytes w a ps[i] ∧ (ps[i]).length ≤ cc := by
  have hi' : i < vs.length := by rw [h.vlen]; exact hi
  obtain ⟨a, cc, hv, hB, hc⟩ := bytes_of_own (h.rows i hi hi')
  refine ⟨a, cc, ?_, hB, hc⟩
  have hrow := h.row
  subst hV
  rw [hrow.cellAt i (by omega), List.getElem?_eq_getElem hi', hv]

theorem made_nils (n : Nat) : (madeCells (Value.slice none 0 0).cells (n * 1)).toList = List.replicate n (.slice none 0 0) := by
  have : (Value.slice none 0 0).cells = #[.slice none 0 0] := rfl
  rw [this, toList_madeCells_one, Nat.mul_one]

set_option maxHeartbeats 1600000 in
set_option maxRecDepth 20000 in
theorem image_ap {w : World} {B d g cap : Nat} {v : Value} {ps : List (List UInt8)} {ch : List (Nat × List UInt8)} (h : DiskAt w B d g cap v ps ch) (h1 : 1 ≤ ps.length) (h2 : ps.length ≤ 1024) :
    Calls Tryz.prog 36 #[.pointer (some ⟨d, 0, none⟩)] w fun e w' => ∃ b vs, e = .returned (.slice (some ⟨b, 0, none⟩) ps.length ps.length) ∧ ImgAt w' w.heap.size (.slice (some ⟨b, 0, none⟩) ps.length ps.length) vs ps ∧ Below w.heap.size w w' ∧ ∀ u ∈ vs, u.ownBlock ≠ some b := by
  obtain ⟨i0, hi0, hz0, hz1, hz2⟩ := info_parts Tryz.info36
  have H := hid h
  have c0 := h.c0
  clear h
  go_enter Tryz.func36, Tryz.ntmps36
  go_wp2_with (at_make; refine wpList_make_full _ rfl _ _ 46 rfl w.heap.size 36 i0 _ 1 Tryz.underlying46 hi0 hz0 hz1 .i64 .i64 _ _ ps.length rfl rfl (by omega) (by omega) (by rw [hz2]; omega) (by unfold maxLen; omega) (Nat.le_refl _) ?_; intro w0 hown0 hgrow0; have c0' := (hgrow0.cell_far ⟨d, 0, none⟩ H.out.lts.1 (by simp)).trans c0)
  have hown1 := hown0
  rw [made_nils] at hown1
  have Hown := hid hown1
  have Hgrow := hid hgrow0
  have hlt0 := (hown0.lt w.heap.size rfl).2
  clear hown0 hown1 hgrow0
  go_loopw [18] (fun i wr => ∃ (k : Nat) (vs : List Value), k ≤ ps.length ∧ i = .int .i64 (k : Int) ∧ vs.length = k ∧ wr.ownsRow w.heap.size 36 1 (.slice (some ⟨w.heap.size, 0, none⟩) ps.length ps.length) ps.length (vs ++ List.replicate (ps.length - k) (.slice none 0 0)) ∧
      (∀ i (h : i < ps.length) (h' : i < vs.length), wr.ownsRow w.heap.size 5 1 vs[i] (ps[i]).length (cellsOf ps[i])) ∧ (∀ u ∈ vs, u.ownBlock ≠ some w.heap.size) ∧ Below w.heap.size w wr) (fun i _ => ps.length - (intOf i).toNat)
  case atStart => exact ⟨0, [], by omega, rfl, rfl, by simpa using Hown.out, (fun i h h' => by simp at h'), (fun u hu => by cases hu), (Below.refl _ w).grown Hgrow.out (Nat.le_refl _) (by simp)⟩
  case round =>
    obtain ⟨k, vs, hk, rfl, hvl, hrow, hrows, hap, hB⟩ := hrel
    have Hvl := hid hvl
    have Hrow := hid hrow
    have Hrows := hid hrows
    have Hap := hid hap
    have HB := hid hB
    clear hvl hrow hrows hap hB c0'
    by_cases hlt : k < ps.length
    · have hD := H.out.below HB.out
      have c1 := hD.c0
      have h256 : (ps[k]).length = 256 := hD.full _ (List.getElem_mem _)
      have Hc := hid (clone_any (ps[k]) g (k * 256) 256 wr (hD.page k hlt) (by omega))
      rw [h256] at Hc
      have H256 := hid h256
      have f0 : (0 : Int) ≤ (k : Int) := by omega
      have f1 : (k : Int) < (ps.length : Int) := by omega
      have hszr := (Hrow.out.lt w.heap.size rfl).2
      clear hD h256
      go_wp2_with (fail)
      refine Hc.out.mono ?_
      rintro e w4 ⟨u0, rfl, hu, hb4, hne⟩
      obtain ⟨bu, cu, rfl, _, _⟩ := hu.form (by omega)
      obtain ⟨u, hue⟩ : ∃ u, u = Value.slice (some ⟨bu, 0, none⟩) 256 cu := ⟨_, rfl⟩
      have Hue := hid hue
      have hrow4 := own_below Hrow.out hb4
      have k1 := hrow4.cellAt k (by omega)
      rw [List.getElem?_append_right (by rw [Hvl.out]; omega), Hvl.out, Nat.sub_self, List.getElem?_replicate, if_pos (by omega)] at k1
      have k2 := hrow4.frozenAt k
      have Hs := hid (hrow4.stored k (.slice (some ⟨bu, 0, none⟩) 256 cu))
      have Hu := hid hu
      rw [← hue] at Hu Hs
      have Hb4 := hid hb4
      clear hrow4 hu hb4 hne Hc hue
      go_wp2
      go_roundw
      case rel =>
        rw [← Hue.out]
        refine ⟨k + 1, vs ++ [u], by omega, by go_num, by rw [List.length_append, Hvl.out]; rfl, ?_, ?_, ?_, ?_⟩
        · have e : (vs ++ List.replicate (ps.length - k) (Value.slice none 0 0)).set k u = vs ++ [u] ++ List.replicate (ps.length - (k + 1)) (.slice none 0 0) := by
            rw [List.set_append_right _ _ (by rw [Hvl.out]; omega), Hvl.out, Nat.sub_self, show ps.length - k = (ps.length - (k + 1)) + 1 by omega, List.replicate_succ, List.set_cons_zero, List.append_assoc]
            rfl
          rw [← e]
          exact Hs.out.1
        · intro i hi hi'
          have hfar : ∀ (u' : Value) (n : Nat) (xs : List Value), w4.ownsRow w.heap.size 5 1 u' n xs → u'.ownBlock ≠ some w.heap.size → (w4.setCell ⟨w.heap.size, k, none⟩ u).ownsRow w.heap.size 5 1 u' n xs := fun u' n xs ho hn => own_keep ho fun q e => heap_setCell_other _ _ _ _ (fun e' => hn (by rw [e]; exact congrArg some e'))
          by_cases hil : i < vs.length
          · rw [List.getElem_append_left hil]
            have hr := own_below (Hrows.out i hi hil) Hb4.out
            simpa using hfar _ _ _ hr (Hap.out _ (List.getElem_mem hil))
          · have hik : i = k := by simp at hi'; have := Hvl.out; omega
            subst hik
            rw [List.getElem_append_right (by omega)]
            simp only [List.getElem_singleton]
            rw [H256.out]
            simpa using hfar _ _ _ (Hu.out.mono HB.out.size) (fun e => by have := (Hu.out.lt _ e).1; omega)
        · intro u' hu'
          rcases List.mem_append.1 hu' with h | h
          · exact Hap.out u' h
          · rw [List.mem_singleton.1 h]
            intro e
            have := (Hu.out.lt _ e).1
            omega
        · exact (HB.out.trans (Hb4.out.mono HB.out.size)).setCell (Nat.le_refl _) _
      case measure => simp [intOf]; omega
    · have hkn : k = ps.length := by omega
      subst hkn
      have f1 : ¬ (ps.length : Int) < (ps.length : Int) := by omega
      go_wp2
      go_ret
      have hrow := Hrow.out
      rw [Nat.sub_self, List.replicate_zero, List.append_nil] at hrow
      first | exact ⟨_, rfl, vs, ⟨hrow, Hvl.out, Hrows.out⟩, HB.out, Hap.out⟩ | exact ⟨_, vs, rfl, ⟨hrow, Hvl.out, Hrows.out⟩, HB.out, Hap.out⟩

theorem image_ok {w : World} {B d g cap : Nat} {v : Value} {ps : List (List UInt8)} {ch : List (Nat × List UInt8)} (h : DiskAt w B d g cap v ps ch) (h1 : 1 ≤ ps.length) (h2 : ps.length ≤ 1024) :
    Calls Tryz.prog 36 #[.pointer (some ⟨d, 0, none⟩)] w fun e w' => ∃ b vs, e = .returned (.slice (some ⟨b, 0, none⟩) ps.length ps.length) ∧ ImgAt w' w.heap.size (.slice (some ⟨b, 0, none⟩) ps.length ps.length) vs ps ∧ Below w.heap.size w w' :=
  (image_ap h h1 h2).mono fun e w' ⟨b, vs, h1, h2, h3, _⟩ => ⟨b, vs, h1, h2, h3⟩
end Go.Proofs.YthdcjepkehifoaaGreat

/- CopyAll, at, Image, Cut of the reference's disks, and SameAll, by contracts. -/
namespace Go.Proofs.YthdcjepkehifoaaGreat
open Go.RowKit
set_option linter.unusedVariables false
set_option maxRecDepth 20000

theorem RefAt.img {w : World} {B r : Nat} {F L : Value} {vs us : List Value} {fs : List (List UInt8)} {ls : List (Nat × List UInt8)} (h : RefAt w B r F L vs us fs ls) : ImgAt w B F vs fs := ⟨h.first, h.vlen, h.rows⟩

/-- one row more -/
theorem img_snoc {w w1 w3 : World} {H : Nat} {V : Value} {vs : List Value} {ps : List (List UInt8)} {u : Value} {x : List UInt8} {gg cap1 : Nat} (h : ImgAt w H V vs ps) (hap : ∀ v ∈ vs, ∀ j, v.ownBlock = some j → some j ≠ V.ownBlock)
    (hu : w1.ownsRow w.heap.size 5 1 u x.length (cellsOf x)) (hb1 : Below w.heap.size w w1) (hH : H ≤ w.heap.size)
    (hown3 : w3.ownsRow H 36 1 (.slice (some ⟨gg, 0, none⟩) (ps.length + 1) cap1) (ps.length + 1) (vs ++ [u])) (kb : ∀ j, j < w1.heap.size → some j ≠ V.ownBlock → w3.heap[j]? = w1.heap[j]?) (hat : V.ownBlock = some gg ∨ w1.heap.size ≤ gg) :
    ImgAt w3 H (.slice (some ⟨gg, 0, none⟩) (ps.length + 1) cap1) (vs ++ [u]) (ps ++ [x]) ∧ ∀ v ∈ vs ++ [u], ∀ j, v.ownBlock = some j → some j ≠ (Value.slice (some ⟨gg, 0, none⟩) (ps.length + 1) cap1).ownBlock := by
  have hvl := h.vlen
  have hVlt : ∀ j, V.ownBlock = some j → j < w.heap.size := fun j e => (h.row.lt j e).2
  have hold : ∀ v ∈ vs, ∀ j, v.ownBlock = some j → j < w.heap.size := fun v hv j e => by
    obtain ⟨i, hi, rfl⟩ := List.getElem_of_mem hv
    exact ((h.rows i (by omega) hi).lt j e).2
  refine ⟨⟨?_, by simp [hvl], ?_⟩, ?_⟩
  · rw [show (ps ++ [x]).length = ps.length + 1 by simp]; exact hown3
  · intro i hi hi'
    by_cases hlt : i < ps.length
    · rw [List.getElem_append_left (show i < vs.length by omega)]
      simp only [List.getElem_append_left hlt]
      refine own_keep (own_below (h.rows i hlt (by omega)) hb1) fun j e => kb j ?_ (hap _ (List.getElem_mem _) j e)
      have := hold _ (List.getElem_mem _) j e
      have := hb1.size
      omega
    · have hi2 : i = ps.length := by simp at hi; omega
      subst hi2
      rw [List.getElem_append_right (by omega)]
      simp only [hvl, Nat.sub_self, List.getElem_singleton, List.getElem_concat_length]
      exact (own_keep hu fun j e => kb j (hu.lt j e).2 (fun e' => by have := hVlt j e'.symm; have := (hu.lt j e).1; omega)).mono hH
  · intro v hv j e h2
    have hj := own_slice h2.symm
    have hs1 := hb1.size
    rcases List.mem_append.1 hv with hm | hm
    · rcases hat with h3 | h3
      · exact hap v hm j e (by rw [hj, h3])
      · have := hold v hm j e; omega
    · rw [List.mem_singleton.1 hm] at e
      have h5 := hu.lt j e
      rcases hat with h3 | h3
      · have := hVlt _ h3; omega
      · omega

set_option maxHeartbeats 1600000 in
set_option maxRecDepth 20000 in
theorem copyAll_ok {w : World} {B b c : Nat} {vs : List Value} {ps : List (List UInt8)} (h : ImgAt w B (.slice (some ⟨b, 0, none⟩) ps.length c) vs ps) (hf : ∀ p ∈ ps, p.length = 256) (h2 : ps.length ≤ 1024) :
    Calls Tryz.prog 90 #[.slice (some ⟨b, 0, none⟩) ps.length c] w fun e w' => ∃ V' vs', e = .returned V' ∧ ImgAt w' w.heap.size V' vs' ps ∧ (∀ v ∈ vs', ∀ j, v.ownBlock = some j → some j ≠ V'.ownBlock) ∧ Below w.heap.size w w' := by
  obtain ⟨i0, hi0, hz0, hz1, hz2⟩ := info_parts Tryz.info36
  have H := hid h
  have Hf := hid hf
  clear h hf
  go_enter Tryz.func90, Tryz.ntmps90
  go_wp2
  go_loopw [4, 3] (fun i o wr => ∃ (k : Nat) (vs' : List Value), k ≤ ps.length ∧ i = .int .i64 (k : Int) ∧ ImgAt wr w.heap.size o vs' (ps.take k) ∧ (∀ v ∈ vs', ∀ j, v.ownBlock = some j → some j ≠ o.ownBlock) ∧ Below w.heap.size w wr) (fun i _ _ => ps.length - (intOf i).toNat)
  case atStart => exact ⟨0, [], by omega, rfl, ⟨World.ownsRow_nil _ _ _ _, rfl, fun i hi => by simp at hi⟩, (fun v hv => by cases hv), Below.refl _ _⟩
  case round =>
    obtain ⟨k, vs', hk, rfl, hI, hap, hB⟩ := hrel
    have HI := hid hI
    have Hap := hid hap
    have HB := hid hB
    have htl : (ps.take k).length = k := by rw [List.length_take]; omega
    have hrow := hI.row
    rw [htl] at hrow
    have Hrow := hid hrow
    have Htl := hid htl
    clear hI hap hB hrow htl
    by_cases hlt : k < ps.length
    · obtain ⟨a1, cc1, k1, hB1, hl1⟩ := (H.out.below HB.out).cell rfl k hlt
      have h256 := Hf.out _ (List.getElem_mem hlt)
      obtain ⟨bx, ox, rfl⟩ : ∃ bx ox, a1 = some ⟨bx, ox, none⟩ := by
        obtain ⟨b', o', e, _⟩ := hB1 0 (by omega)
        exact ⟨b', o', e⟩
      have Hc := hid (copyB (ps[k]) bx ox cc1 wr hB1 (by omega) (by omega))
      rw [h256] at Hc k1
      have Htk := hid (List.take_succ_eq_append_getElem hlt)
      have f0 : (0 : Int) ≤ (k : Int) := by omega
      have f1 : (k : Int) < (ps.length : Int) := by omega
      have H256 := hid h256
      clear hB1 hl1 h256
      generalize ps[k] = x at *
      go_wp2_with (fail)
      refine Hc.out.mono ?_
      rintro e w4 ⟨u0, rfl, hu, hb4⟩
      obtain ⟨bu, cu, rfl, _, _⟩ := hu.form (by omega)
      have Hu := hid hu
      have Hb4 := hid hb4
      have hs4 := hb4.size
      clear hu hb4 Hc
      go_wp2_with (at_builtin; refine wpList_append_lies _ rfl _ _ 46 rfl w.heap.size 36 i0 _ 1 24 Tryz.underlying46 hi0 hz0 hz1 hz2 rfl (by omega) u3 k vs' rfl ((own_below Hrow.out Hb4.out).alloc _) ⟨w4.heap.size, 0, none⟩ 1 1 [.slice (some ⟨bu, 0, none⟩) 256 cu] rfl rfl (World.news_of_block (cs := #[.slice (some ⟨bu, 0, none⟩) 256 cu]) (t := 36) (fr := (0, 0)) (heap_alloc_new w4 _)) ?q1 ?q2 ?q3 ?q4 ?q5 (w4.heap.size + 1) ?q6 ?_)
      case q1 => intro q hq; rw [List.mem_singleton.1 hq]; rfl
      case q2 => omega
      case q3 => unfold maxLen; omega
      case q4 => omega
      case q5 => have := HB.out.size; simp; omega
      case q6 => simp
      intro gg cap1 w5 hown5 hgrow5 hat5 hlt5
      have hu' : w4.ownsRow wr.heap.size 5 1 (.slice (some ⟨bu, 0, none⟩) 256 cu) x.length (cellsOf x) := by rw [H256.out]; exact Hu.out
      have hE := hid (img_snoc (w3 := w5) (gg := gg) (cap1 := cap1) HI.out Hap.out hu' Hb4.out HB.out.size (by rw [Htl.out]; exact hown5) (fun j hj hne => (hgrow5.block j (by simp; omega) hne).trans (Below.heap_alloc _ _ _ hj)) (by rcases hat5 with h | h; exact .inl h; exact .inr (by omega)))
      rw [Htl.out, ← Htk.out] at hE
      have HB5 := hid (((HB.out.trans (Hb4.out.mono HB.out.size)).alloc (by have := HB.out.size; omega) _).grown hgrow5 (by have := HB.out.size; simp; omega) (fun j e => (Hrow.out.lt j e).1))
      clear hown5 hgrow5 hat5 hlt5 hu'
      go_wp2
      go_roundw
      case rel => exact ⟨k + 1, _, by omega, by go_num, hE.out.1, hE.out.2, HB5.out⟩
      case measure => simp [intOf]; omega
    · have hkn : k = ps.length := by omega
      subst hkn
      have f1 : ¬ (ps.length : Int) < (ps.length : Int) := by omega
      have hI := HI.out
      rw [List.take_length] at hI
      have HI2 := hid hI
      clear hI
      go_wp2
      go_ret
      first | exact ⟨_, rfl, _, HI2.out, Hap.out, HB.out⟩ | exact ⟨_, rfl, ⟨_, HI2.out, Hap.out⟩, HB.out⟩

/-- a row put in another's place -/
theorem img_set {w w1 : World} {H gg c m : Nat} {vs : List Value} {ps : List (List UInt8)} {u : Value} {x : List UInt8} (h : ImgAt w H (.slice (some ⟨gg, 0, none⟩) m c) vs ps) (hap : ∀ v ∈ vs, ∀ j, v.ownBlock = some j → some j ≠ (Value.slice (some ⟨gg, 0, none⟩) m c).ownBlock)
    (hu : w1.ownsRow w.heap.size 5 1 u x.length (cellsOf x)) (hb1 : Below w.heap.size w w1) (hH : H ≤ w.heap.size) (n : Nat) (hn : n < ps.length) (hm : m = ps.length) :
    (ImgAt (w1.setCell ⟨gg, n, none⟩ u) H (.slice (some ⟨gg, 0, none⟩) m c) (vs.set n u) (ps.set n x) ∧ ∀ v ∈ vs.set n u, ∀ j, v.ownBlock = some j → some j ≠ (Value.slice (some ⟨gg, 0, none⟩) m c).ownBlock) ∧ Below H w (w1.setCell ⟨gg, n, none⟩ u) := by
  subst hm
  have hgg := h.row.lt gg rfl
  have hvl := h.vlen
  have hap' : ∀ v ∈ vs.set n u, ∀ j, v.ownBlock = some j → some j ≠ (Value.slice (some ⟨gg, 0, none⟩) ps.length c).ownBlock := by
    intro v hv j e
    rcases List.mem_or_eq_of_mem_set hv with h1 | h1
    · exact hap v h1 j e
    · rw [h1] at e
      intro h2
      have := own_slice h2.symm
      have := (hu.lt j e).1
      omega
  have hs := (own_below h.row hb1).stored n u
  refine ⟨⟨⟨?_, by simp [hvl], ?_⟩, hap'⟩, (hb1.mono hH).setCell hgg.1 _⟩
  · rw [List.length_set]; exact hs.1
  · intro i hi hi'
    have hlast : ∀ v ∈ vs.set n u, ∀ (m : Nat) (xs : List Value), w1.ownsRow H 5 1 v m xs → (w1.setCell ⟨gg, n, none⟩ u).ownsRow H 5 1 v m xs := fun v hv m xs ho => own_keep ho fun j e => heap_setCell_other _ _ _ _ (fun e' => hap' v hv j e (by rw [show j = gg from e']; rfl))
    by_cases hin : n = i
    · subst hin
      have hmem : u ∈ vs.set n u := List.mem_set (by omega) u
      simp only [List.getElem_set_self]
      exact hlast u hmem _ _ (hu.mono hH)
    · have hmem : vs[i]'(by simpa using hi') ∈ vs.set n u := by
        have := List.getElem_mem (l := vs.set n u) hi'
        rwa [List.getElem_set_ne hin] at this
      rw [List.getElem_set_ne hin]
      simp only [List.getElem_set_ne hin]
      exact hlast _ hmem _ _ (own_below (h.rows i (by simpa using hi) (by simpa using hi')) hb1)

set_option maxHeartbeats 3200000 in
set_option maxRecDepth 20000 in
theorem at_ok {w : World} {B r : Nat} {F L : Value} {vs us : List Value} {fs : List (List UInt8)} {ls : List (Nat × List UInt8)} (h : RefAt w B r F L vs us fs ls) (hok : ∀ c ∈ ls, c.1 < fs.length ∧ c.2.length = 256) (hf : ∀ p ∈ fs, p.length = 256) (h1 : 1 ≤ fs.length) (h2 : fs.length ≤ 1024) (k : Nat) (hk : k ≤ ls.length) (hls : ls.length ≤ 1000000) :
    Calls Tryz.prog 86 #[.pointer (some ⟨r, 0, none⟩), .int .i64 (k : Int)] w fun e w' => ∃ b c vs', e = .returned (.slice (some ⟨b, 0, none⟩) fs.length c) ∧ ImgAt w' w.heap.size (.slice (some ⟨b, 0, none⟩) fs.length c) vs' (psOf fs (ls.take k)) ∧ Below w.heap.size w w' := by
  obtain ⟨bF, cF, rfl, _, _⟩ := h.first.form (by omega)
  have H := hid h
  have Hok := hid hok
  have c0 := cell_of_row _ _ 0 _ _ _ h.obj
  have c1 := cell_of_row _ _ 1 _ _ _ h.obj
  simp only [List.getElem?_toArray, List.getElem?_cons_zero, List.getElem?_cons_succ] at c0 c1
  obtain ⟨la, lc, rfl⟩ : ∃ la lc, L = .slice la ls.length lc := by
    rcases h.log.2 with ⟨hv, h0⟩ | ⟨g', cap', cur', hv, _⟩
    · exact ⟨none, 0, by rw [hv, h0]⟩
    · exact ⟨_, _, hv⟩
  have Hcp := hid (copyAll_ok h.img hf h2)
  have C1 := hid c1
  clear h hok hf c1
  go_enter Tryz.func86, Tryz.ntmps86
  go_wp2_with (fail)
  refine Hcp.out.mono ?_
  rintro e w1 ⟨V', vs1, rfl, hI, hap, hB1⟩
  obtain ⟨gg, cg, rfl, _, _⟩ := hI.row.form (by omega)
  have HI := hid hI
  have Hap := hid hap
  have HB1 := hid hB1
  clear hI hap hB1 Hcp c0
  go_wp2
  go_loopw [6] (fun i wr => ∃ (j : Nat) (vs' : List Value), j ≤ k ∧ i = .int .i64 (j : Int) ∧ ImgAt wr w.heap.size (.slice (some ⟨gg, 0, none⟩) fs.length cg) vs' (psOf fs (ls.take j)) ∧ (∀ v ∈ vs', ∀ j, v.ownBlock = some j → some j ≠ (Value.slice (some ⟨gg, 0, none⟩) fs.length cg).ownBlock) ∧ Below w.heap.size w wr) (fun i _ => k - (intOf i).toNat)
  case atStart => exact ⟨0, vs1, by omega, rfl, by simpa [psOf] using HI.out, Hap.out, HB1.out⟩
  case round =>
    obtain ⟨j, vs', hj, rfl, hI, hap, hB⟩ := hrel
    have HI2 := hid hI
    have Hap2 := hid hap
    have HB := hid hB
    clear hI hap hB HI Hap HB1
    by_cases hlt : j < k
    · have hR := H.out.below HB.out
      have hjl : j < ls.length := by omega
      have hul : j < us.length := by rw [hR.ulen]; exact hjl
      obtain ⟨gl, lc', hla, hglb, hgll⟩ := hR.log.form (by omega)
      cases hla
      have hg2 := lcells_get ls us hR.ulen j hjl hul
      have hrlt := H.out.lts
      have c1 : wr.cell? ⟨r, 1, none⟩ = some (.slice (some ⟨gl, 0, none⟩) ls.length lc) := (HB.out.cell (show (⟨r, 1, none⟩ : Addr).block < w.heap.size from hrlt.1)).trans C1.out
      have c2 : wr.cell? ⟨gl, j * 2, none⟩ = some (.int .i64 (ls[j].1 : Int)) := (hR.log.cellAt (j * 2) (by omega)).trans hg2.1
      have hrow := hR.lrows j hjl hul
      have hok := Hok.out _ (List.getElem_mem hjl)
      obtain ⟨bu, cu, hue, hbu, hbub, hbul⟩ := own_form hrow (by omega)
      have c3 : wr.cell? ⟨gl, j * 2 + 1, none⟩ = some (.slice (some ⟨bu, 0, none⟩) 256 cu) := by
        rw [(hR.log.cellAt (j * 2 + 1) (by omega)).trans hg2.2, hue, hok.2]
      have hggw := (HI2.out.row.lt gg rfl)
      have hglw : gl < w.heap.size := (H.out.log.lt gl rfl).2
      have hpl := psOf_length fs (ls.take j)
      have Htk := hid (psOf_take fs ls j hjl)
      have Hc := hid (copyB (w := wr.drew) ls[j].2 bu 0 cu hbu (by omega) (by omega))
      rw [hok.2] at Hc
      have hrow2 := HI2.out.row
      rw [hpl] at hrow2
      have hcg := hrow2.cellAt ls[j].1 (by omega)
      rw [List.getElem?_eq_getElem (show ls[j].1 < vs'.length by rw [HI2.out.vlen, hpl]; exact hok.1)] at hcg
      have hzg := hrow2.frozenAt ls[j].1
      have Hhok := hid hok
      have f0 : (0 : Int) ≤ (j : Int) := by omega
      have f1 : (j : Int) < (ls.length : Int) := by omega
      have f2 : (j : Int) < (k : Int) := by omega
      have f3 : (0 : Int) ≤ (ls[j].1 : Int) := by omega
      have f4 : (ls[j].1 : Int) < (fs.length : Int) := by omega
      have n1 : gl ≠ gg := by omega
      have n2 : r ≠ gg := by have := hrlt.1; omega
      generalize vs'[ls[j].1]'(by rw [HI2.out.vlen, hpl]; exact hok.1) = old at *
      have Hpl := hid hpl
      clear hR hg2 hrow hok hue hbu hbub hbul hglb hgll hrlt hpl hrow2
      generalize ls[j].1 = N at *
      generalize ls[j].2 = x at *
      go_wp2
      go_region_held3 (fun w9 => w9.cell? ⟨r, 1, none⟩ = some (.slice (some ⟨gl, 0, none⟩) ls.length lc) ∧ w9.cell? ⟨gl, j * 2, none⟩ = some (.int .i64 (N : Int)) ∧ w9.cell? ⟨gl, j * 2 + 1, none⟩ = some (.slice (some ⟨bu, 0, none⟩) 256 cu)) (first | exact ⟨c1, c2, c3⟩ | exact q.out | exact ⟨(World.cell?_setCell_far _ _ _ _ (Ne.symm n2)).trans q.out.1, (World.cell?_setCell_far _ _ _ _ (Ne.symm n1)).trans q.out.2.1, (World.cell?_setCell_far _ _ _ _ (Ne.symm n1)).trans q.out.2.2⟩)
        (first | ((go_at_call 135; refine Hc.out.mono ?_; rintro e w4 ⟨u0, rfl, hu, hb4'⟩; obtain ⟨b5, c5, rfl, _, _⟩ := hu.form (by omega); have hb4 := undrew hb4'; have q := hid (And.intro ((hb4.cell (World.block_lt_of_cell? _ _ c1)).trans c1) (And.intro ((hb4.cell (World.block_lt_of_cell? _ _ c2)).trans c2) ((hb4.cell (World.block_lt_of_cell? _ _ c3)).trans c3))); have k1 := (hb4.cell (World.block_lt_of_cell? _ _ hcg)).trans hcg; have k2 := (World.frozen?_of_block (a := ⟨gg, N, none⟩) (hb4.block gg hggw.2)).trans hzg; have Hu := hid hu; have Hb4 := hid hb4; clear hu hb4 hb4')))
      have hE := hid (img_set (x := x) HI2.out Hap2.out (by rw [Hhok.out.2]; exact Hu.out) Hb4.out HB.out.size N (by rw [Hpl.out]; exact Hhok.out.1) Hpl.out.symm)
      rw [← Htk.out] at hE
      clear c1 c2 c3 k1 k2 q hcg hzg
      go_wp2
      go_roundw
      case rel => exact ⟨j + 1, _, by omega, by go_num, hE.out.1.1, hE.out.1.2, HB.out.trans hE.out.2⟩
      case measure => simp [intOf]; omega
    · have hjk : j = k := by omega
      subst hjk
      have f1 : ¬ (j : Int) < (j : Int) := by omega
      go_wp2
      go_ret
      exact ⟨_, _, rfl, ⟨_, HI2.out⟩, HB.out⟩
end Go.Proofs.YthdcjepkehifoaaGreat

/- Image and Cut of the reference's disks, SameAll, and Writes of package block, by contracts. -/
namespace Go.Proofs.YthdcjepkehifoaaGreat
open Go.RowKit
set_option linter.unusedVariables false
set_option maxRecDepth 20000

set_option maxHeartbeats 800000 in
theorem refImage_nil (w : World) : Calls Tryz.prog 37 #[.pointer none] w fun e w' => e = .returned (.slice none 0 0) ∧ w' = w := by
  go_enter Tryz.func37, Tryz.ntmps37
  go_wp2
  go_ret
  exact ⟨rfl, rfl⟩

set_option maxHeartbeats 800000 in
set_option maxRecDepth 20000 in
theorem refImage_ok {w : World} {B r : Nat} {F L : Value} {vs us : List Value} {fs : List (List UInt8)} {ls : List (Nat × List UInt8)} (h : RefAt w B r F L vs us fs ls) (hok : ∀ c ∈ ls, c.1 < fs.length ∧ c.2.length = 256) (hf : ∀ p ∈ fs, p.length = 256) (h1 : 1 ≤ fs.length) (h2 : fs.length ≤ 1024) (hls : ls.length ≤ 1000000) :
    Calls Tryz.prog 37 #[.pointer (some ⟨r, 0, none⟩)] w fun e w' => ∃ b c vs', e = .returned (.slice (some ⟨b, 0, none⟩) fs.length c) ∧ ImgAt w' w.heap.size (.slice (some ⟨b, 0, none⟩) fs.length c) vs' (psOf fs ls) ∧ Below w.heap.size w w' := by
  have Ha := hid (at_ok h hok hf h1 h2 ls.length (Nat.le_refl _) hls)
  rw [List.take_length] at Ha
  have c1 := cell_of_row _ _ 1 _ _ _ h.obj
  simp only [List.getElem?_toArray, List.getElem?_cons_zero, List.getElem?_cons_succ] at c1
  obtain ⟨la, lc, rfl⟩ : ∃ la lc, L = .slice la ls.length lc := by
    rcases h.log.2 with ⟨hv, h0⟩ | ⟨g', cap', cur', hv, _⟩
    · exact ⟨none, 0, by rw [hv, h0]⟩
    · exact ⟨_, _, hv⟩
  clear h hok hf
  go_enter Tryz.func37, Tryz.ntmps37
  go_wp2_with (fail)
  refine Ha.out.mono ?_
  rintro e w1 ⟨b, c, vs', rfl, hI, hB⟩
  go_wp2
  go_ret
  first | exact ⟨_, _, _, rfl, hI, hB⟩ | exact ⟨_, _, rfl, ⟨_, hI⟩, hB⟩ | exact ⟨_, _, rfl, _, hI, hB⟩

set_option maxHeartbeats 800000 in
theorem sameAll_nil (w : World) : Calls Tryz.prog 35 #[.slice none 0 0, .slice none 0 0] w fun e w' => e = .returned (.bool true) ∧ w' = w := by
  go_enter Tryz.func35, Tryz.ntmps35
  go_wp2
  go_loopw [5] (fun i wr => i = .int .i64 0 ∧ wr = w) (fun _ _ => 0)
  case atStart => exact ⟨rfl, rfl⟩
  case round =>
    obtain ⟨rfl, rfl⟩ := hrel
    go_wp2
    go_ret
    exact ⟨rfl, rfl⟩

set_option maxHeartbeats 1600000 in
set_option maxRecDepth 20000 in
theorem sameAll_eq {w : World} {B1 b1 c1 B2 b2 c2 n : Nat} {vs1 vs2 : List Value} {ps : List (List UInt8)} (hn : n = ps.length) (h1 : ImgAt w B1 (.slice (some ⟨b1, 0, none⟩) n c1) vs1 ps) (h2 : ImgAt w B2 (.slice (some ⟨b2, 0, none⟩) n c2) vs2 ps) (hl : ps.length ≤ 1024) (hf : ∀ p ∈ ps, p.length ≤ 140737488351232) :
    Calls Tryz.prog 35 #[.slice (some ⟨b1, 0, none⟩) n c1, .slice (some ⟨b2, 0, none⟩) n c2] w fun e w' => e = .returned (.bool true) ∧ Below w.heap.size w w' := by
  subst hn
  have H1 := hid h1
  have H2 := hid h2
  have Hf := hid hf
  clear h1 h2 hf
  go_enter Tryz.func35, Tryz.ntmps35
  go_wp2
  go_loopw [5] (fun i wr => ∃ k : Nat, k ≤ ps.length ∧ i = .int .i64 (k : Int) ∧ Below w.heap.size w wr) (fun i _ => ps.length - (intOf i).toNat)
  case atStart => exact ⟨0, by omega, rfl, Below.refl _ _⟩
  case round =>
    obtain ⟨k, hk, rfl, hB⟩ := hrel
    have HB := hid hB
    clear hB
    by_cases hlt : k < ps.length
    · obtain ⟨a1, e1, k1, hb1, _⟩ := (H1.out.below HB.out).cell rfl k hlt
      obtain ⟨a2, e2, k2, hb2, _⟩ := (H2.out.below HB.out).cell rfl k hlt
      have hfk := Hf.out _ (List.getElem_mem hlt)
      have Hs : Hid (Calls Tryz.prog 30 #[.slice a1 (ps[k]).length e1, .slice a2 (ps[k]).length e2] wr.drew fun e w' => e = .returned (.bool true) ∧ Below wr.drew.heap.size wr.drew w') := by
        have h := sameBytes_any ps[k] ps[k] a1 a2 e1 e2 wr.drew hb1 hb2 hfk hfk
        simp only [decide_true] at h
        exact h
      have f0 : (0 : Int) ≤ (k : Int) := by omega
      have f1 : (k : Int) < (ps.length : Int) := by omega
      clear hb1 hb2 hfk
      generalize (ps[k]).length = lk at *
      go_wp2
      go_region_held3 (fun w9 => w9.cell? ⟨b1, k, none⟩ = some (.slice a1 lk e1) ∧ w9.cell? ⟨b2, k, none⟩ = some (.slice a2 lk e2)) (first | exact ⟨k1, k2⟩ | exact q.out)
        (first | ((go_at_call 30; refine Hs.out.mono ?_; rintro e w4 ⟨rfl, hb4'⟩; have hb4 := undrew hb4'; have q := hid (And.intro ((hb4.cell (World.block_lt_of_cell? _ _ k1)).trans k1) ((hb4.cell (World.block_lt_of_cell? _ _ k2)).trans k2)); have Hb4 := hid hb4; clear hb4 hb4')))
      have HB4 := hid (HB.out.trans (Hb4.out.mono HB.out.size))
      clear k1 k2 q Hb4 Hs
      go_wp2
      go_roundw
      case rel => exact ⟨k + 1, by omega, by go_num, HB4.out⟩
      case measure => simp [intOf]; omega
    · have f1 : ¬ (k : Int) < (ps.length : Int) := by omega
      go_wp2
      go_ret
      exact ⟨rfl, HB.out⟩
end Go.Proofs.YthdcjepkehifoaaGreat
