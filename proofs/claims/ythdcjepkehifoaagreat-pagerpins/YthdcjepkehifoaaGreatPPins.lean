/- YthdcjepkehifoaaGreatPAll + YthdcjepkehifoaaGreatPPin1 + YthdcjepkehifoaaGreatPPin2 + YthdcjepkehifoaaGreatPPins -/
import Derived.Test.YthdcjepkehifoaaGreatPDds
import Derived.Test.YthdcjepkehifoaaGreatWOne
import Derived.Shelf.SlicesG.CompactI
import Derived.Lib.RowBridge
import Derived.Test.YthdcjepkehifoaaGreatPLive
import Derived.BigQuiet
import Derived.Test.YthdcjepkehifoaaGreatBLift
import Derived.Deep.Slices
import Derived.SliceStrings
import Derived.ChangeSlices
/- all of law 4: all pages of a log, by a contract. -/
namespace Go.Proofs.YthdcjepkehifoaaGreat
open Go.RowKit Go.Maps Go.Sort Go.Shelf
set_option linter.unusedVariables false
set_option maxRecDepth 20000
/-- rows of pages of their own -/
def Img (w : World) (B : Nat) (v : Value) (ps : List (List UInt8)) : Prop := ∃ vs, ImgAt w B v vs ps ∧ ∀ u ∈ vs, ∀ j, u.ownBlock = some j → some j ≠ v.ownBlock
def pagesOf (s : PS) : List (List UInt8) := (List.range s.P).map s.page
theorem pagesOf_len (s : PS) : (pagesOf s).length = s.P := by simp [pagesOf]
theorem page_at {w : World} {p : Nat} {m : PM} {s : PS} (h : PgMem w p m s) {q : Nat} (hq : q < s.P) : (psOf (fresh s.S s.P) s.ls)[(plOf s.gs q).getD (s.S + 1 + q)]? = some (s.page q) := by
  have hlen := pageNow_length h.log.inv q hq
  show (psOf (fresh s.S s.P) s.ls)[placeOf s.S s.gs q]? = some (pageNow (psOf (fresh s.S s.P) s.ls) s.S s.gs q)
  unfold pageNow at hlen ⊢
  cases e : (psOf (fresh s.S s.P) s.ls)[placeOf s.S s.gs q]? with
  | none => rw [List.getD_eq_getElem?_getD, e] at hlen; simp at hlen
  | some y => rw [List.getD_eq_getElem?_getD, e]; rfl
set_option maxHeartbeats 1600000 in
/-- all pages of a log, whatever tells its pages -/
theorem all_gen {w : World} (l : Nat) (ps : List (List UInt8)) (hP' : ps.length ≤ 99) (hf : ∀ k (hk : k < ps.length), ps[k].length = 256)
    (hpg : ∀ w', Below w.heap.size w w' → Calls Tryz.prog 17 #[.pointer (some ⟨l, 0, none⟩)] w' fun e w'' => e = .returned (.int .i64 (ps.length : Int)) ∧ Below w'.heap.size w' w'')
    (hrd : ∀ w', Below w.heap.size w w' → ∀ k (hk : k < ps.length), Calls Tryz.prog 28 #[.pointer (some ⟨l, 0, none⟩), .int .i64 (k : Int)] w' fun e w'' => ∃ g c, e = .returned (.tuple #[.slice (some ⟨g, 0, none⟩) 256 c, .int .i64 0]) ∧ w''.ownsRow w'.heap.size 5 1 (.slice (some ⟨g, 0, none⟩) 256 c) 256 (cellsOf ps[k]) ∧ 256 ≤ c ∧ Below w'.heap.size w' w'') :
    Calls Tryz.prog 69 #[.pointer (some ⟨l, 0, none⟩)] w fun e w' => ∃ v, e = .returned v ∧ Img w' w.heap.size v ps ∧ Below w.heap.size w w' := by
  obtain ⟨i0, hi0, hz0, hz1, hz2⟩ := info_parts Tryz.info36
  have Hf := hid hf
  have HPg := hid hpg
  have HRd := hid hrd
  clear hf hpg hrd
  go_enter Tryz.func69, Tryz.ntmps69
  go_wp2
  go_loopw [4, 3] (fun i o wr => ∃ (k : Nat) (vs' : List Value), k ≤ ps.length ∧ i = .int .i64 (k : Int) ∧ ImgAt wr w.heap.size o vs' (ps.take k) ∧ (∀ v ∈ vs', ∀ j, v.ownBlock = some j → some j ≠ o.ownBlock) ∧ Below w.heap.size w wr) (fun i _ _ => ps.length - (intOf i).toNat)
  case atStart => exact ⟨0, [], by omega, rfl, ⟨World.ownsRow_nil _ _ _ _, rfl, fun i hi => by simp at hi⟩, (fun v hv => by cases hv), Below.refl _ _⟩
  case round =>
    obtain ⟨k, vs', hk, rfl, hI, hap, hB⟩ := hrel
    have HI := hid hI
    have Hap := hid hap
    have HB := hid hB
    have htl : (ps.take k).length = k := by rw [List.length_take]; omega
    have Htl := hid htl
    have HPg1 := hid (HPg.out wr hB)
    clear hI hap hB htl
    go_wp2_with fail
    refine HPg1.out.mono ?_
    rintro _ w3 ⟨rfl, b3⟩
    have HB3 := hid (HB.out.trans (b3.mono HB.out.size))
    have HI3 := hid (HI.out.below b3)
    have hrow := HI3.out.row
    rw [Htl.out] at hrow
    have Hrow := hid hrow
    clear b3 HPg1 hrow
    by_cases hlt : k < ps.length
    · have Htk := hid (List.take_succ_eq_append_getElem hlt)
      have Hc := hid (HRd.out w3 HB3.out k hlt)
      have H256 := hid (Hf.out k hlt)
      have f1 : (k : Int) < (ps.length : Int) := by omega
      have f2 : (k : Int) < 100 := by omega
      generalize ps[k] = x at *
      go_wp2_with fail
      refine Hc.out.mono ?_
      rintro _ w4 ⟨bu, cu, rfl, hu, _, hb4⟩
      have Hu := hid hu
      have Hb4 := hid hb4
      have hs4 := hb4.size
      clear hu hb4 Hc
      go_wp2_with (at_builtin; refine wpList_append_lies _ rfl _ _ 46 rfl w.heap.size 36 i0 _ 1 24 Tryz.underlying46 hi0 hz0 hz1 hz2 rfl (by omega) u3 k vs' rfl ((own_below Hrow.out Hb4.out).alloc _) ⟨w4.heap.size, 0, none⟩ 1 1 [.slice (some ⟨bu, 0, none⟩) 256 cu] rfl rfl (World.news_of_block (cs := #[.slice (some ⟨bu, 0, none⟩) 256 cu]) (t := 36) (fr := (0, 0)) (heap_alloc_new w4 _)) ?q1 ?q2 ?q3 ?q4 ?q5 (w4.heap.size + 1) ?q6 ?_)
      case q1 => intro q hq; rw [List.mem_singleton.1 hq]; rfl
      case q2 => omega
      case q3 => unfold maxLen; omega
      case q4 => omega
      case q5 => have := HB3.out.size; simp; omega
      case q6 => simp
      intro gg cap1 w5 hown5 hgrow5 hat5 hlt5
      have hu' : w4.ownsRow w3.heap.size 5 1 (.slice (some ⟨bu, 0, none⟩) 256 cu) x.length (cellsOf x) := by rw [H256.out]; exact Hu.out
      have hE := hid (img_snoc (w3 := w5) (gg := gg) (cap1 := cap1) HI3.out Hap.out hu' Hb4.out HB3.out.size (by rw [Htl.out]; exact hown5) (fun j hj hne => (hgrow5.block j (by simp; omega) hne).trans (Below.heap_alloc _ _ _ hj)) (by rcases hat5 with h | h; exact .inl h; exact .inr (by omega)))
      rw [Htl.out, ← Htk.out] at hE
      have HB5 := hid (((HB3.out.trans (Hb4.out.mono HB3.out.size)).alloc (by have := HB3.out.size; omega) _).grown hgrow5 (by have := HB3.out.size; simp; omega) (fun j e => (Hrow.out.lt j e).1))
      clear hown5 hgrow5 hat5 hlt5 hu'
      go_wp2
      go_roundw
      case rel => exact ⟨k + 1, _, by omega, by go_num, hE.out.1, hE.out.2, HB5.out⟩
      case measure => simp [intOf]; omega
    · have hkn : k = ps.length := by omega
      subst hkn
      have f1 : ¬ (ps.length : Int) < (ps.length : Int) := by omega
      have hI := HI3.out
      rw [List.take_length] at hI
      have HI2 := hid hI
      clear hI
      go_wp2
      go_ret
      exact ⟨_, rfl, ⟨_, HI2.out, Hap.out⟩, HB3.out⟩
theorem all_any {w : World} {p : Nat} {m : PM} {s : PS} (h : PgMem w p m s) (hP : s.P ≤ 99) :
    Calls Tryz.prog 69 #[.pointer (some ⟨m.l, 0, none⟩)] w fun e w' => ∃ v, e = .returned v ∧ Img w' w.heap.size v (pagesOf s) ∧ Below w.heap.size w w' := by
  have hlen := h.log.inv.len
  have hmost := h.log.inv.most
  have hpl := pagesOf_len s
  have hpk : ∀ k (hk : k < (pagesOf s).length), (pagesOf s)[k] = s.page k := fun k hk => by simp [pagesOf]
  refine all_gen m.l (pagesOf s) (by omega) (fun k hk => ?_) (fun w' hb => ?_) (fun w' hb k hk => ?_)
  · rw [hpk]; exact page_len h (by omega)
  · rw [hpl]; exact logPages_any (h.below hb).log.mem s.P hlen hmost
  · rw [hpk]; exact logRead_ok (h.below hb).log.mem s.P hlen hmost k (by omega) (s.page k) (page_at h (by omega))
/-- all pages of a log that was opened -/
theorem all_log {w : World} {B l d g cap mb n : Nat} {v : Value} {S G U P : Nat} {gs : List (List Nat)} {ps : List (List UInt8)} {ch : List (Nat × List UInt8)} (h : LogMem w B l d g cap mb n v S G U (plOf gs) ps ch) (hi : LogInv ps S G gs P) (hP : P ≤ 99) :
    Calls Tryz.prog 69 #[.pointer (some ⟨l, 0, none⟩)] w fun e w' => ∃ v, e = .returned v ∧ Img w' w.heap.size v ((List.range P).map (pageNow ps S gs)) ∧ Below w.heap.size w w' := by
  have hlen := hi.len
  have hmost := hi.most
  have hpl : ((List.range P).map (pageNow ps S gs)).length = P := by simp
  have hpk : ∀ k (hk : k < ((List.range P).map (pageNow ps S gs)).length), ((List.range P).map (pageNow ps S gs))[k] = pageNow ps S gs k := fun k hk => by simp
  refine all_gen l ((List.range P).map (pageNow ps S gs)) (by omega) (fun k hk => ?_) (fun w' hb => ?_) (fun w' hb k hk => ?_)
  · rw [hpk]; exact pageNow_length hi k (by omega)
  · rw [hpl]; exact logPages_any (h.below hb) P hlen hmost
  · rw [hpk]
    refine logRead_ok (h.below hb) P hlen hmost k (by omega) (pageNow ps S gs k) ?_
    have hl := pageNow_length hi k (by omega)
    show ps[placeOf S gs k]? = some (pageNow ps S gs k)
    unfold pageNow at hl ⊢
    cases e : ps[placeOf S gs k]? with
    | none => rw [List.getD_eq_getElem?_getD, e] at hl; simp at hl
    | some y => rw [List.getD_eq_getElem?_getD, e]; rfl
end Go.Proofs.YthdcjepkehifoaaGreat

/- distinct of package pager; ContainsFunc by isDirty where nothing is dirty. -/
namespace Go.Proofs.YthdcjepkehifoaaGreat
open Go.RowKit Go.Maps Go.Sort Go.Shelf
set_option linter.unusedVariables false
set_option maxRecDepth 20000

theorem nat_ints (l : List Nat) : natCells l = (l.map fun (n : Nat) => (n : Int)).map (Value.int .i64) := by
  unfold natCells
  rw [List.map_map]
  rfl
/-- a row of numbers of one's own is sorted: it has as many -/
theorem sort_nat {w : World} {B n : Nat} {v : Value} {zs : List Int} (h : w.ownsRow B 3 1 v n (zs.map (Value.int .i64))) (hl : zs.length < 4611686018427387904) :
    Calls Tryz.prog 131 #[v] w fun e w' => e = .returned (.tuple #[]) ∧ (∃ ts : List Int, ts.length = zs.length ∧ w'.ownsRow B 3 1 v n (ts.map (Value.int .i64))) ∧ Below B w w' := by
  have hn : zs.length = n := by have := h.1; simpa using this
  subst hn
  rcases h.2 with ⟨rfl, h0⟩ | ⟨g, cap, cur, rfl, hg, hb, hc, hm, hs, ht⟩
  · refine (AnyM.slices_Sort_int_none Tryz.sortA none 0 w).mono ?_
    rintro e w' ⟨rfl, rfl⟩
    exact ⟨rfl, ⟨zs, rfl, h⟩, Below.refl _ _⟩
  · have hH : Holds (Value.int .i64) w g 0 zs.toArray := holds_of_blockI hb (by rw [Nat.mul_one] at ht; exact ht)
    refine (AnyM.slices_Sort_int Tryz.sortA g 0 cap zs w hH (Array.getElem?_eq_some_iff.1 hb).1 hl).mono ?_
    rintro e w' ⟨rfl, m, os, rfl⟩
    have hg2 := grownBy_sortedI (w := w) (g := g) (n := m) (os := os) (zs.mergeSort fun x y => decide (x ≤ y)).toArray
    refine ⟨rfl, ⟨zs.mergeSort fun x y => decide (x ≤ y), List.length_mergeSort _, ownsRow_sortedI (ss := zs) (ts := zs.mergeSort fun x y => decide (x ≤ y)) (List.length_mergeSort _) hg hb hc hm hs⟩, hg2.os, hg2.tape, hg2.output, hg2.size, fun k hk => ?_⟩
    by_cases hk2 : k < w.heap.size
    · exact hg2.block k hk2 (fun e => by cases e; omega)
    · have := (Array.getElem?_eq_some_iff.1 hb).1
      omega
theorem put_below {w : World} {B g n : Nat} (hB : B ≤ g) (d : Array Int) : Below B w (putRow (Value.int .i64) (Sort.ahead w n) g 0 d) := by
  refine ⟨rfl, rfl, rfl, by simp, fun k hk => ?_⟩
  have : g ≠ k := by omega
  simp [putRow, mapBlock, Sort.ahead, Array.getElem?_modify, this]
/-- what Compact tells has no more of them -/
theorem compact_nat {w : World} {B n : Nat} {v : Value} {zs : List Int} (h : w.ownsRow B 3 1 v n (zs.map (Value.int .i64))) (hl : zs.length ≤ 4000) :
    Calls Tryz.prog 180 #[v] w fun e w' => ∃ a k c, e = .returned (.slice a k c) ∧ k ≤ n ∧ Below B w w' := by
  have hn : zs.length = n := by have := h.1; simpa using this
  subst hn
  rcases h.2 with ⟨rfl, h0⟩ | ⟨g, cap, cur, rfl, hg, hb, hc, hm, hs, ht⟩
  · refine (AnyG.slices_Compact_int_empty Tryz.compF none 0 w).mono ?_
    rintro e w' ⟨rfl, rfl⟩
    exact ⟨_, _, _, rfl, Nat.zero_le _, Below.refl _ _⟩
  · have hH : Holds (Value.int .i64) w g 0 zs.toArray := holds_of_blockI hb (by rw [Nat.mul_one] at ht; exact ht)
    refine (AnyG.slices_Compact_int Tryz.compF g 0 cap zs w hH (by omega) (by omega)).mono ?_
    rintro e w' ⟨rfl, q, rfl⟩
    exact ⟨_, _, _, rfl, Lib.compact_length_le zs, put_below hg _⟩
set_option maxHeartbeats 400000 in
theorem distinct_any {w : World} {B : Nat} {v : Value} {l : List Nat} (h : w.ownsRow B 3 1 v l.length (natCells l)) (hl : l.length ≤ 4000) :
    Calls Tryz.prog 152 #[v] w fun e w' => ∃ a k c, e = .returned (.slice a k c) ∧ k ≤ l.length ∧ Below w.heap.size w w' := by
  have Hc := hid (clone_int w B v l (by omega) h)
  clear h
  go_enter Tryz.func152, Tryz.ntmps152
  go_wp2_with (fail)
  refine Hc.out.mono ?_
  rintro e w1 ⟨v1, rfl, hr1, hb1⟩
  rw [nat_ints] at hr1
  have Hs := hid (sort_nat hr1 (by rw [List.length_map]; omega))
  have Hb1 := hid hb1
  clear hr1 hb1 Hc
  go_wp2_with (fail)
  refine Hs.out.mono ?_
  rintro e w2 ⟨rfl, ⟨ts, hts, hr2⟩, hb2⟩
  rw [List.length_map] at hts
  have Hcp := hid (compact_nat hr2 (by omega))
  have Hb2 := hid (Hb1.out.trans hb2)
  clear hr2 hb2 Hs Hb1 hts
  go_wp2_with (fail)
  refine Hcp.out.mono ?_
  rintro e w3 ⟨a3, k3, c3, rfl, hk3, hb3⟩
  have Hb3 := hid (Hb2.out.trans hb3)
  clear hb3 Hcp Hb2
  go_wp2
  go_ret
  exact ⟨_, _, _, rfl, hk3, Hb3.out⟩
theorem noDirty {s : PS} (h : s.dl = []) (x : Int) : isDi s x = false := by
  simp [isDi, h]
set_option maxHeartbeats 800000 in
/-- IndexFunc by isDirty, nothing dirty -/
theorem idxDirty_any {w : World} {p : Nat} {m : PM} {s : PS} (h : PgMem w p m s) (hd : s.dl = []) (a : Option Addr) (l : List Nat) (c : Nat) (hn : Nums w a l) (hl : l.length ≤ 4000) (hlt : ∀ x ∈ l, x < 4096) :
    Calls Tryz.prog 160 #[.slice a l.length c, .func (.func 120) #[.pointer (some ⟨p, 0, none⟩)] #[]] w fun e w' => e = .returned (.int .i64 (-1)) ∧ w' = w := by
  have H := hid h
  have Hd := hid hd
  have Hn := hid hn
  have Hlt := hid hlt
  clear h hd hn hlt
  go_enter Tryz.func160, Tryz.ntmps160
  go_wp2
  go_loopw [8] (fun i wr => ∃ k : Nat, k ≤ l.length ∧ i = .int .i64 k ∧ wr = w) (fun i _ => l.length - (intOf i).toNat)
  case atStart => exact ⟨0, Nat.zero_le _, rfl, rfl⟩
  case round =>
    obtain ⟨k, hk, rfl, rfl⟩ := hrel
    by_cases hlt : k < l.length
    · obtain ⟨b, o, rfl, hc⟩ := Hn.out k hlt
      have hx := Hlt.out _ (List.getElem_mem hlt)
      generalize l[k] = x at *
      have Hi := hid (isDirty_any H.out (x : Int) (by omega))
      rw [noDirty Hd.out] at Hi
      have g1 : (k : Int) < (l.length : Int) := by omega
      have g2 : (0 : Int) ≤ (k : Int) := by omega
      go_wp2_with (fail)
      refine Hi.out.mono ?_
      rintro e u ⟨rfl, hu⟩
      subst u
      go_wp2
      go_roundw
      case rel => exact ⟨k + 1, by omega, by go_num, trivial⟩
      case measure => simp [intOf]; omega
    · have g1 : ¬ (k : Int) < (l.length : Int) := by omega
      go_wp2
      go_ret
      exact ⟨rfl, rfl⟩
theorem contDirty_any {w : World} {p : Nat} {m : PM} {s : PS} (h : PgMem w p m s) (hd : s.dl = []) (a : Option Addr) (l : List Nat) (c : Nat) (hn : Nums w a l) (hl : l.length ≤ 4000) (hlt : ∀ x ∈ l, x < 4096) :
    Calls Tryz.prog 124 #[.slice a l.length c, .func (.func 120) #[.pointer (some ⟨p, 0, none⟩)] #[]] w fun e w' => e = .returned (.bool false) ∧ w' = w := by
  have Hi := hid (idxDirty_any h hd a l c hn hl hlt)
  clear h
  go_enter Tryz.func124, Tryz.ntmps124
  go_wp2_with (fail)
  refine Hi.out.mono ?_
  rintro e u ⟨rfl, hu⟩
  subst u
  go_wp2
  go_ret
  exact ⟨rfl, rfl⟩
set_option maxHeartbeats 800000 in
/-- pinnedWith, the cache empty -/
theorem pinned0_any {w : World} {p : Nat} {m : PM} {s : PS} (h : PgMem w p m s) (ho : s.ord = []) {B : Nat} {v : Value} {l : List Nat} (hr : w.ownsRow B 3 1 v l.length (natCells l)) (hl : l.length ≤ 4000) :
    Calls Tryz.prog 125 #[.pointer (some ⟨p, 0, none⟩), v] w fun e w' => ∃ k : Nat, e = .returned (.int .i64 (k : Int)) ∧ k ≤ l.length ∧ Below w.heap.size w w' := by
  have Hc := hid (clone_int w B v l (by omega) hr)
  have H := hid h
  have hrow := h.row
  rw [ho] at hrow
  obtain ⟨oa, oc, hov⟩ : ∃ oa oc, m.ov = .slice oa 0 oc := by
    rcases hrow.2 with ⟨h1, h2⟩ | ⟨g, cap, _, h1, _⟩
    · exact ⟨none, 0, h1⟩
    · exact ⟨_, _, h1⟩
  have Hov := hid hov
  clear h ho hrow hov hr
  go_enter Tryz.func125, Tryz.ntmps125
  go_wp2_with (fail)
  refine Hc.out.mono ?_
  rintro e w1 ⟨v1, rfl, hr1, hb1⟩
  have H1 := H.out.below hb1
  have c4 := H1.c4
  rw [Hov.out] at c4
  have Hdi := hid (distinct_any hr1 hl)
  have Hb1 := hid hb1
  clear hr1 hb1 Hc H1
  go_wp2
  go_loopw [5, 15] (fun x i wr => x = v1 ∧ i = .int .i64 0 ∧ wr = w1) (fun _ _ _ => 0)
  case atStart => exact ⟨rfl, rfl, rfl⟩
  case round =>
    obtain ⟨rfl, rfl, rfl⟩ := hrel
    go_wp2_with (fail)
    refine Hdi.out.mono ?_
    rintro e w2 ⟨a2, k2, c2, rfl, hk2, hb2⟩
    have Hb2 := hid (Hb1.out.trans (hb2.mono Hb1.out.size))
    clear hb2 Hdi
    go_wp2
    go_ret
    exact ⟨k2, rfl, hk2, Hb2.out⟩
end Go.Proofs.YthdcjepkehifoaaGreat

/- Pin of package pager on a cache that has nothing yet, by a contract. -/
namespace Go.Proofs.YthdcjepkehifoaaGreat
open Go.RowKit Go.Maps Go.Sort Go.Shelf
set_option linter.unusedVariables false
set_option maxRecDepth 20000

/-- these pages are in the cache, and pinned -/
def Pinned (s : PS) (X : List Nat) : Prop := s.dl = [] ∧ ∀ x ∈ X, x ∈ s.ord ∧ s.pin x = true
def pin1 (s : PS) (q : Nat) : PS := { useS s q with pin := upd (useS s q).pin q true }
theorem upd_eq {α : Type} (f : Nat → α) (q : Nat) (v : α) : upd f q v q = v := by simp [upd]
theorem upd_ne' {α : Type} (f : Nat → α) {q x : Nat} (v : α) (h : x ≠ q) : upd f q v x = f x := by simp [upd, h]
/-- what was pinned stays so when a page is used -/
theorem use_pinned {s : PS} {X : List Nat} (h : Pinned s X) (q : Nat) : Pinned (useS s q) X := by
  obtain ⟨h1, h2⟩ := h
  unfold useS
  by_cases hq : q ∈ s.ord
  · rw [if_pos hq]
    refine ⟨h1, fun x hx => ?_⟩
    obtain ⟨g1, g2⟩ := h2 x hx
    refine ⟨?_, ?_⟩
    · show x ∈ s.ord.filter (fun y => y != q) ++ [q]
      by_cases e : x = q
      · subst e; simp
      · simp [g1, e]
    · show upd s.pin q (s.pin q) x = true
      by_cases e : x = q
      · subst e; rw [upd_eq]; exact g2
      · rw [upd_ne' _ _ e]; exact g2
  · rw [if_neg hq]
    have hm : Pinned (missS s q) X := by
      refine ⟨h1, fun x hx => ?_⟩
      obtain ⟨g1, g2⟩ := h2 x hx
      refine ⟨?_, ?_⟩
      · show x ∈ s.ord ++ [q]
        simp [g1]
      · show upd s.pin q false x = true
        rw [upd_ne' _ _ (fun e => hq (by rw [← e]; exact g1))]
        exact g2
    split
    · have hex : ∃ x ∈ (missS s q).ord, (missS s q).pin x = false := ⟨q, by show q ∈ s.ord ++ [q]; simp, upd_eq _ _ _⟩
      have hfu : (missS s q).pin (firstUn (missS s q)) = false := by
        unfold firstUn
        cases hf : (missS s q).ord.find? (fun x => !(missS s q).pin x) with
        | some y =>
          have := List.find?_some hf
          simpa using this
        | none =>
          obtain ⟨x, hx, hp⟩ := hex
          have := (List.find?_eq_none.1 hf) x hx
          simp [hp] at this
      refine ⟨hm.1, fun x hx => ?_⟩
      obtain ⟨g1, g2⟩ := hm.2 x hx
      refine ⟨?_, g2⟩
      show x ∈ (missS s q).ord.filter (fun y => y != firstUn (missS s q))
      rw [List.mem_filter]
      refine ⟨g1, ?_⟩
      rw [bne_iff_ne]
      intro e
      rw [e, hfu] at g2
      cases g2
    · exact hm
theorem use_in {s : PS} (q : Nat) (hl : s.ord.length < s.mo) : q ∈ (useS s q).ord ∧ (useS s q).ord.length ≤ s.ord.length + 1 ∧ (useS s q).mo = s.mo ∧ (useS s q).P = s.P ∧ (useS s q).t = s.t + 1 := by
  unfold useS
  by_cases hq : q ∈ s.ord
  · rw [if_pos hq]
    refine ⟨by show q ∈ s.ord.filter (fun y => y != q) ++ [q]; simp, ?_, rfl, rfl, rfl⟩
    show (s.ord.filter (fun y => y != q) ++ [q]).length ≤ _
    rw [List.length_append]
    have := List.length_filter_le (fun y => y != q) s.ord
    simp
    omega
  · rw [if_neg hq, if_neg (by show ¬ s.mo < (s.ord ++ [q]).length; rw [List.length_append]; simp; omega)]
    refine ⟨by show q ∈ s.ord ++ [q]; simp, ?_, rfl, rfl, rfl⟩
    show (s.ord ++ [q]).length ≤ _
    rw [List.length_append]
    simp
theorem pin1_pinned {s : PS} {X : List Nat} (h : Pinned s X) (q : Nat) (hl : s.ord.length < s.mo) : Pinned (pin1 s q) (X ++ [q]) := by
  have hu := use_pinned h q
  refine ⟨hu.1, fun x hx => ?_⟩
  by_cases e : x = q
  · subst e
    exact ⟨(use_in x hl).1, upd_eq _ _ _⟩
  · rcases List.mem_append.1 hx with hx | hx
    · exact ⟨(hu.2 x hx).1, by show upd _ q true x = true; rw [upd_ne' _ _ e]; exact (hu.2 x hx).2⟩
    · exact absurd (List.mem_singleton.1 hx) e
section
variable {w w' : World} {p : Nat} {m : PM} {s : PS} {F : Nat → Prop}
theorem PgMem.setPin (h : PgMem w p m s) {q : Nat} (hq : q ∈ s.ord) : PgMem (w.setCell ⟨m.fr q, 1, none⟩ (.bool true)) p m { s with pin := upd s.pin q true } := by
  obtain ⟨n1, n2, n3, n4, n5⟩ := h.fr_ne hq
  have o : ∀ k, k ≠ m.fr q → (w.setCell ⟨m.fr q, 1, none⟩ (.bool true)).heap[k]? = w.heap[k]? := fun k hk => heap_setCell_other _ _ _ _ hk
  have hb : ∀ (b : Nat) (x : List UInt8), BBlk w b x → b ≠ m.fr q := fun b x hx e => h.byt hx (.inr (.inr (.inr (.inr (.inr ⟨q, hq, e⟩)))))
  refine ⟨(o p (Ne.symm n1)).trans h.obj, h.log.keep (fun j hj => o j (fun e => n2 (e ▸ hj))) (Nat.le_refl _), ownsRow_keep h.row fun k e => o k (fun e' => n3 (by rw [e, e'])), h.cmap.keep (o _ (Ne.symm n4)), h.dmap.keep (o _ (Ne.symm n5)), fun x hx => ?_, fun x hx => (h.fby x hx).keep (o _ (hb _ _ (h.fby x hx))), fun c hc => (h.dby c hc).keep (o _ (hb _ _ (h.dby c hc))), h.inj, h.cd, h.cl, h.dm', h.cnt, h.dnt, ⟨h.ok.nd, h.ok.olt, h.ok.ol, h.ok.mo1, h.ok.mo2, h.ok.dup, h.ok.dlt, h.ok.dlen, h.ok.hit, h.ok.mit⟩⟩
  by_cases e : x = q
  · subst e
    show (w.setCell ⟨m.fr x, 1, none⟩ (.bool true)).heap[m.fr x]? = some (.cells #[.slice (some ⟨m.fb x, 0, none⟩) 256 (m.fc x), .bool (upd s.pin x true x)] 162 (0, 0))
    rw [upd_eq, heap_setCell_same w (m.fr x) 1 _ _ (.bool true) (h.frm x hx)]
    simp
  · show (w.setCell ⟨m.fr q, 1, none⟩ (.bool true)).heap[m.fr x]? = some (.cells #[.slice (some ⟨m.fb x, 0, none⟩) 256 (m.fc x), .bool (upd s.pin q true x)] 162 (0, 0))
    rw [upd_ne' _ _ e]
    exact (o _ (fun e' => e (h.inj x hx q hq e'))).trans (h.frm x hx)
theorem use_c (h : Cache w p s F) (ht : s.t ≤ 100000) (q : Nat) (hqP : q < s.P) (hd : s.dl = []) :
    Calls Tryz.prog 119 #[.pointer (some ⟨p, 0, none⟩), .int .i64 (q : Int)] w fun e w' => (∃ b c, e = .returned (.slice (some ⟨b, 0, none⟩) 256 c)) ∧ Cache w' p (useS s q) F ∧ Kept F w w' := by
  obtain ⟨m, h1, h2, h3⟩ := h
  refine (use_any h1 q hqP h2.full ht).mono ?_
  rintro e w' ⟨b, c, m', rfl, _, hm, ho, hf⟩
  refine ⟨⟨b, c, rfl⟩, kept_of h1 h2 h3 hm (useS_ext h1.ok h2 hqP (by rw [hd]; rfl)) ho (fun k hq => by
      rcases hq with e | e | e
      · exact .inl (.inl e)
      · exact .inl (.inr (.inr (.inr (.inl e))))
      · exact .inl (.inr (.inr (.inl e)))) hf⟩
/-- a cache, a page of it pinned -/
theorem Cache.setPin (h : PgMem w p m s) (he : Ext s) (h3 : ∀ k, F k → k < w.heap.size ∧ ¬ allB p m s k) {q : Nat} (hq : q ∈ s.ord) : Cache (w.setCell ⟨m.fr q, 1, none⟩ (.bool true)) p { s with pin := upd s.pin q true } F ∧ Kept F w (w.setCell ⟨m.fr q, 1, none⟩ (.bool true)) := by
  refine ⟨⟨m, h.setPin hq, ⟨he.full, he.apart⟩, fun k hk => ⟨by simpa [World.setCell] using (h3 k hk).1, (h3 k hk).2⟩⟩, ⟨rfl, rfl, rfl, by simp [World.setCell], fun k hk hn => heap_setCell_other _ _ _ _ (fun e => hn (fun hF => (h3 k hF).2 ?_))⟩⟩
  exact .inl (.inr (.inr (.inr (.inr (.inr ⟨q, hq, e⟩)))))
end
/-- between two rounds of Pin -/
def NRel (w : World) (p : Nat) (F : Nat → Prop) (s0 : PS) (l : List Nat) (k : Nat) (wr : World) : Prop := ∃ s, Cache wr p s F ∧ Pinned s (l.take k) ∧ s.ord.length ≤ k ∧ s.mo = s0.mo ∧ s.P = s0.P ∧ s.t ≤ s0.t + k ∧ Kept F w wr
set_option maxHeartbeats 1600000 in
theorem pin_any {w : World} {p : Nat} {s : PS} {F : Nat → Prop} (h : Cache w p s F) (hd : s.dl = []) (ho : s.ord = []) (ht : s.t ≤ 1000) {B : Nat} {v : Value} (l : List Nat) (hr : w.ownsRow B 3 1 v l.length (natCells l)) (hF : ∀ k, v.ownBlock = some k → F k) (hl : l.length ≤ 3) (hmo : 3 < s.mo) (hlt : ∀ x ∈ l, x < s.P) (hP : s.P ≤ 1024) :
    Calls Tryz.prog 70 #[.pointer (some ⟨p, 0, none⟩), v] w fun e w' => e = .returned (.int .i64 0) ∧ ∃ s', Cache w' p s' F ∧ Pinned s' l ∧ s'.mo = s.mo ∧ s'.P = s.P ∧ s'.t ≤ s.t + 3 ∧ Kept F w w' := by
  obtain ⟨va, vc, rfl⟩ : ∃ va vc, v = .slice va l.length vc := by
    rcases hr.2 with ⟨h1, h2⟩ | ⟨g, cap, _, h1, _⟩
    · exact ⟨none, 0, by rw [h1, h2]⟩
    · exact ⟨_, _, h1⟩
  have hnum : ∀ u : World, u.ownsRow B 3 1 (.slice va l.length vc) l.length (natCells l) → Nums u va l := fun u hu i hi => by
    obtain ⟨g, c, e, _, _⟩ := hu.form (by omega)
    cases e
    refine ⟨g, 0, rfl, ?_⟩
    have h1 := hu.cellAt i (by omega)
    rw [Nat.zero_add, h1]
    unfold natCells
    rw [List.getElem?_map, List.getElem?_eq_getElem hi]
    rfl
  have HC := hid h
  obtain ⟨m, h1, h2, h3⟩ := h
  have H1 := hid h1
  have Hnum := hid hnum
  have Hr := hid hr
  have HF := hid hF
  have Hlt := hid hlt
  have Hd := hid hd
  have Ho := hid ho
  have hints : IntsAt w va (l.map fun (n : Nat) => (n : Int)) := fun i hi => by
    rw [List.length_map] at hi
    obtain ⟨b, o, e, hc⟩ := hnum w hr i hi
    exact ⟨b, o, e, by rw [hc, List.getElem_map]⟩
  have hre := pgReach_any h1 va (l.map fun (n : Nat) => (n : Int)) vc hints (by rw [List.length_map]; omega)
  rw [List.length_map] at hre
  have hz : reachE s.P (l.map fun (n : Nat) => (n : Int)) = 0 := by
    unfold reachE
    rw [if_pos]
    rw [List.all_eq_true]
    intro x hx
    obtain ⟨y, hy, rfl⟩ := List.mem_map.1 hx
    have := hlt y hy
    simp
    omega
  rw [hz] at hre
  have Hre := hid hre
  clear h1 h2 h3 hnum hr hF hlt hd ho hints hre hz
  go_enter Tryz.func70, Tryz.ntmps70
  go_wp2_with (fail)
  refine Hre.out.mono ?_
  rintro e w1 ⟨rfl, hb1⟩
  have H2 := hid (H1.out.below hb1)
  have HC1 := hid (HC.out.below hb1)
  have Hr1 := hid (own_below Hr.out hb1)
  have HK1 : Hid (Kept F w w1) := Kept.of_below hb1
  clear hb1 Hre H1 HC
  go_wp2_with (fail)
  refine (contDirty_any H2.out Hd.out va l vc (Hnum.out w1 Hr1.out) (by omega) (fun x hx => by have := Hlt.out x hx; omega)).mono ?_
  rintro e u ⟨rfl, hu⟩
  subst u
  have c1 := H2.out.c1
  have Hpw := hid (pinned0_any (H2.out.below (w' := w1.drew) ⟨rfl, rfl, rfl, Nat.le_refl _, fun _ _ => rfl⟩) Ho.out (own_below Hr1.out (w' := w1.drew) ⟨rfl, rfl, rfl, Nat.le_refl _, fun _ _ => rfl⟩) (by omega))
  go_wp2
  go_region_held3 (fun w9 => w9.cell? ⟨p, 1, none⟩ = some (.int .i64 (s.mo : Int))) (first | exact c1 | exact q1.out)
    ((go_at_call 125; refine Hpw.out.mono ?_; rintro e w2 ⟨k2, rfl, hk2, hb2'⟩; have hb2 := undrew1 hb2'; have q1 := hid ((hb2.cell (World.block_lt_of_cell? _ _ c1)).trans c1); have Hb2 := hid hb2; clear hb2 hb2'))
  clear c1 q1 Hpw
  have g1 : ¬ (s.mo : Int) < (k2 : Int) := by omega
  have HN0 : Hid (NRel w p F s l 0 w2) := ⟨s, HC1.out.below Hb2.out, ⟨Hd.out, fun x hx => by simp at hx⟩, by rw [Ho.out]; exact Nat.le_refl _, rfl, rfl, Nat.le_refl _, HK1.out.to (Kept.of_below Hb2.out)⟩
  have Hr2 : Hid (∀ u, Kept F w u → u.ownsRow B 3 1 (.slice va l.length vc) l.length (natCells l)) := fun u hk => ownsRow_keep Hr.out fun k e => hk.get (HF.out k e) (Hr.out.lt k e).2
  clear H2 HC1 Hr1 HK1 Hb2
  go_wp2
  clear g1
  go_loopw [28] (fun i wr => ∃ k : Nat, k ≤ l.length ∧ i = .int .i64 k ∧ NRel w p F s l k wr) (fun i _ => l.length - (intOf i).toNat)
  case atStart => exact ⟨0, Nat.zero_le _, rfl, HN0.out⟩
  case round =>
    obtain ⟨k, hk, rfl, s1, hC, hPi, hol, hmo1, hP1, ht1, hKe⟩ := hrel
    have HCk := hid hC
    have HPi := hid hPi
    have HKe := hid hKe
    clear hC hPi hKe HN0
    by_cases hlt : k < l.length
    · obtain ⟨b, o, rfl, hc⟩ := Hnum.out wr (Hr2.out wr HKe.out) k hlt
      have hxP := Hlt.out _ (List.getElem_mem hlt)
      have Htk := hid (List.take_succ_eq_append_getElem hlt)
      generalize l[k] = x at *
      have g1 : (k : Int) < (l.length : Int) := by omega
      have g2 : (0 : Int) ≤ (k : Int) := by omega
      have hui := use_in (s := s1) x (by omega)
      have Hpn := hid (pin1_pinned HPi.out x (by omega))
      have Hus := hid (use_c HCk.out (by omega) x (by omega) HPi.out.1)
      go_wp2_with (fail)
      refine Hus.out.mono ?_
      rintro e w3 ⟨⟨b3, c3, rfl⟩, ⟨m3, g3, g4, g5⟩, hk3⟩
      have H3 := hid g3
      have Hlk := hid (g3.cl_in hui.1 (by omega)).2
      have hsp := Cache.setPin g3 g4 g5 hui.1
      have HSP := hid hsp
      have c3' := g3.c3
      have f1 := cell_of_row _ _ 1 _ _ _ (g3.frm x hui.1)
      have z1 := frozen_of_row _ _ 1 _ _ (g3.frm x hui.1)
      have hl3 := Hlk.out
      have HK3 := hid (HKe.out.to hk3)
      clear hk3 g3 g4 g5 hsp Hus
      go_wp2
      go_roundw
      case rel => exact ⟨k + 1, by omega, by go_num, pin1 s1 x, HSP.out.1, by rw [Htk.out]; exact Hpn.out, by show (useS s1 x).ord.length ≤ k + 1; omega, by show (useS s1 x).mo = s.mo; omega, by show (useS s1 x).P = s.P; omega, by show (useS s1 x).t ≤ s.t + (k + 1); omega, HK3.out.to HSP.out.2⟩
      case measure => simp [intOf]; omega
    · have hkl : k = l.length := by omega
      subst hkl
      have g1 : ¬ (l.length : Int) < (l.length : Int) := by omega
      go_wp2
      go_ret
      exact ⟨rfl, s1, HCk.out, by have := HPi.out; rwa [List.take_length] at this, hmo1, hP1, by omega, HKe.out⟩
end Go.Proofs.YthdcjepkehifoaaGreat

/- PagerPins' walk. -/
namespace Go.Proofs.YthdcjepkehifoaaGreat
open Go.RowKit Go.Maps Go.Sort Go.Shelf
set_option linter.unusedVariables false
set_option maxRecDepth 20000
/-- the pages that are to be pinned -/
def pinL (ps : List UInt8) (k : Nat) : List Nat := (ps.take k).map fun b => b.toNat % 11
theorem pinL_len (ps : List UInt8) {k : Nat} (h : k ≤ ps.length) : (pinL ps k).length = k := by simp [pinL]; omega
theorem pinL_step (ps : List UInt8) {k : Nat} (h : k < ps.length) : pinL ps (k + 1) = pinL ps k ++ [ps[k].toNat % 11] := by
  unfold pinL
  rw [List.take_succ_eq_append_getElem h, List.map_append]
  rfl
theorem pinL_lt (ps : List UInt8) (k : Nat) : ∀ x ∈ pinL ps k, x < 11 := by
  intro x hx
  obtain ⟨b, _, rfl⟩ := List.mem_map.1 hx
  omega
theorem nums_row {u : World} {B : Nat} {a : Option Addr} {c : Nat} {l : List Nat} (h : u.ownsRow B 3 1 (.slice a l.length c) l.length (natCells l)) : Nums u a l := fun i hi => by
  obtain ⟨g, c, e, _, _⟩ := h.form (by omega)
  cases e
  refine ⟨g, 0, rfl, ?_⟩
  have h1 := h.cellAt i (by omega)
  rw [Nat.zero_add, h1]
  unfold natCells
  rw [List.getElem?_map, List.getElem?_eq_getElem hi]
  rfl
theorem irow_form {u : World} {B : Nat} {v : Value} {n : Nat} {cs : List Value} (h : u.ownsRow B 3 1 v n cs) : ∃ a c, v = .slice a n c := by
  rcases h.2 with ⟨h1, h2⟩ | ⟨g, cap, _, h1, _⟩
  · exact ⟨none, 0, by rw [h1, h2]⟩
  · exact ⟨_, _, h1⟩
theorem below_drewN' (b : Nat) (w : World) (n : Nat) : Below b w (w.drewN n) := ⟨rfl, rfl, rfl, Nat.le_refl _, fun _ _ => rfl⟩
/-- between two reads -/
def PRel (w3 : World) (p : Nat) (F : Nat → Prop) (l : List Nat) (k : Nat) (wr : World) : Prop := ∃ s, Cache wr p s F ∧ Pinned s l ∧ s.P = 11 ∧ s.t ≤ 3 + k ∧ Kept F w3 wr
set_option maxHeartbeats 1000000 in
theorem pagerPins_walk (pa : Option Addr) (ps : List UInt8) (pc : Nat) (ra : Option Addr) (rs : List UInt8) (rc : Nat) (w : World) (hp : Bytes w pa ps) (hpl : ps.length ≤ 9223372036854775807) (hr : Bytes w ra rs) (hrl : rs.length ≤ 9223372036854775807) :
    Calls Tryz.prog 11 #[.slice pa ps.length pc, .slice ra rs.length rc] w fun e w' => e = .returned (.bool true) ∧ Below w.heap.size w w' := by
  have HP := hid hp
  have HR := hid hr
  obtain ⟨N, hN⟩ : ∃ N, N = ps.length := ⟨_, rfl⟩
  obtain ⟨M, hM⟩ : ∃ M, M = rs.length := ⟨_, rfl⟩
  rw [← hN, ← hM]
  rw [← hN] at hpl
  rw [← hM] at hrl
  have HN := hid hN
  have HM := hid hM
  clear hp hr hN hM
  go_enter Tryz.func11, Tryz.ntmps11
  go_wp2_with (fail)
  refine (open_c w 10 4 (by omega) (by omega) (by omega) (by omega) (fun k => k < w.heap.size) (fun k h => h)).mono ?_
  rintro e w1 ⟨p, q, rfl, hC1, hb1⟩
  have HC1 := hid hC1
  have Hb1 := hid hb1
  clear hC1 hb1
  go_wp2_with (fail)
  refine (pgLive_any w1).mono ?_
  rintro e w2 ⟨rfl, hb2⟩
  have HC2 := hid (HC1.out.below hb2)
  have Hb2 := hid (Below.on' Hb1.out hb2)
  clear hb2 HC1 Hb1
  obtain ⟨i0, hi0, hz0, hz1, hz2⟩ := info_parts Tryz.infoInt
  go_wp2
  go_loopw [8, 9] (fun v i wr => ∃ k : Nat, k ≤ N ∧ k ≤ 3 ∧ i = .int .i64 k ∧ wr.ownsRow w2.heap.size 3 1 v (pinL ps k).length (natCells (pinL ps k)) ∧ Below w2.heap.size w2 wr) (fun _ i _ => 3 - (intOf i).toNat)
  case atStart => exact ⟨0, Nat.zero_le _, by omega, rfl, World.ownsRow_nil _ _ _ _, Below.refl _ _⟩
  case round =>
    obtain ⟨k, hk, hk3, rfl, hown, hB⟩ := hrel
    have Hown := hid hown
    have HB := hid hB
    have hkl := pinL_len ps (k := k) (by have := HN.out; omega)
    clear hown hB
    by_cases hlt : k < N ∧ k < 3
    · have d1 : (k : Int) < (N : Int) := by omega
      have d2 : (k : Int) < 3 := by omega
      have d3 : (0 : Int) ≤ (k : Int) := by omega
      have hkN : k < ps.length := by have := HN.out; omega
      obtain ⟨b, o, rfl, hc⟩ := HP.out k hkN
      have hc1 := ((Below.on' Hb2.out HB.out).cell (World.block_lt_of_cell? _ _ hc)).trans hc
      have Hst := hid (pinL_step ps hkN)
      clear hc
      have hxl := UInt8.toNat_lt ps[k]
      generalize ps[k].toNat = x at *
      have hx11 : ((x % 11 : Nat) : Int) = (x : Int) % 11 := by omega
      go_wp2_with (at_builtin; refine wpList_append_own_at _ rfl _ _ 30 rfl w2.heap.size 3 i0 (.int .i64 0) 1 8 Tryz.underlying30 hi0 hz0 hz1 hz2 rfl (by decide) _ _ _ rfl (Hown.out.alloc _) ⟨wr.heap.size, 0, none⟩ 1 1 [.int .i64 ((x : Int) % 11)] rfl rfl (World.news_of_block (cs := #[.int .i64 ((x : Int) % 11)]) (t := 3) (fr := (0, 0)) (heap_alloc_new wr _)) (by simp [Value.oneCell']) (by unfold maxLen; omega) (by omega) (by rw [World.size_alloc]; have := HB.out.size; omega) ?_; intro v' w6 hown6 hgrow6 hnil6 hloc6)
      go_roundw
      case rel =>
        refine ⟨k + 1, by omega, by omega, by go_num, ?_, (HB.out.alloc HB.out.size _).grown hgrow6 (by rw [World.size_alloc]; have := HB.out.size; omega) (fun j e => (Hown.out.lt j e).1)⟩
        rw [Hst.out, List.length_append]
        unfold natCells at hown6 ⊢
        rw [List.map_append]
        simp only [List.map_cons, List.map_nil, hx11]
        exact hown6
      case measure => simp [intOf]; omega
    · have Hlt := hid (pinL_lt ps k)
      obtain ⟨w3, hw3⟩ : ∃ w3, w3 = wr := ⟨_, rfl⟩
      subst hw3
      have Hb3 := hid (Below.on' Hb2.out HB.out)
      obtain ⟨F, hC3, hFr, hFb⟩ : ∃ F : Nat → Prop, Cache w3 p (newS 10 11 0 0 [] [] 4) F ∧ (∀ j, u8.ownBlock = some j → F j) ∧ (∀ j, j < w.heap.size → F j) := ⟨_, HC2.out.add HB.out, fun j e => .inr (Hown.out.lt j e), fun j h => .inl h⟩
      have HFb := hid hFb
      generalize pinL ps k = l at *
      obtain ⟨la, lc, rfl⟩ := irow_form Hown.out
      have Hpin := hid (pin_any hC3 rfl rfl (by show 0 ≤ 1000; omega) l Hown.out hFr (by omega) (by show 3 < 4; omega) (fun x hx => Hlt.out x hx) (by show 11 ≤ 1024; omega))
      have Hrow : Hid (∀ u, Kept F w3 u → u.ownsRow w2.heap.size 3 1 (.slice la l.length lc) l.length (natCells l)) := fun u hk => ownsRow_keep Hown.out fun k e => hk.get (hFr k e) (Hown.out.lt k e).2
      have HBk : Hid (∀ u, Kept F w3 u → Below w.heap.size w u) := fun u hk => Hb3.out.trans (hk.below Hb3.out.size hFb)
      have hcase : (¬ (k : Int) < (N : Int)) ∨ ((k : Int) < (N : Int) ∧ ¬ (k : Int) < 3) := by omega
      have hl3 : l.length ≤ 3 := by omega
      clear HC2 Hown HB hC3 hFr hFb Hb3 Hb2 Hlt hkl
      rcases hcase with d1 | ⟨d1, d2⟩
      all_goals
        go_wp2_with (fail)
        refine Hpin.out.mono ?_
        rintro e w4 ⟨rfl, s4, hC4, hP4, hmo4, hPP4, ht4, hK4⟩
        have H0 : Hid (PRel w3 p F l 0 w4) := ⟨s4, hC4, hP4, hPP4, ht4, hK4⟩
        clear hC4 hP4 hmo4 hPP4 ht4 hK4 Hpin d1
        go_wp2
        go_loopw [10] (fun i wr2 => ∃ k : Nat, k ≤ M ∧ k ≤ 60 ∧ i = .int .i64 k ∧ PRel w3 p F l k wr2) (fun i _ => 60 - (intOf i).toNat)
        case atStart => exact ⟨0, Nat.zero_le _, by omega, rfl, H0.out⟩
        case round =>
          obtain ⟨k2, hk2, hk60, rfl, s, hC, hPi, hPP, hst, hK⟩ := hrel
          obtain ⟨w4', hw4⟩ : ∃ w4', w4' = wr := ⟨_, rfl⟩
          subst hw4
          have HBw := hid (HBk.out _ hK)
          by_cases hlt : k2 < M ∧ k2 < 60
          · have d1 : (k2 : Int) < (M : Int) := by omega
            have d2 : (k2 : Int) < 60 := by omega
            have d3 : (0 : Int) ≤ (k2 : Int) := by omega
            have hkM : k2 < rs.length := by have := HM.out; omega
            obtain ⟨b, o, rfl, hc⟩ := HR.out k2 hkM
            have hc1 := (HBw.out.cell (World.block_lt_of_cell? _ _ hc)).trans hc
            clear hc
            have hxl := UInt8.toNat_lt rs[k2]
            generalize rs[k2].toNat = x at *
            obtain ⟨x11, hx11⟩ : ∃ x11 : Nat, x11 = x % 11 := ⟨_, rfl⟩
            have hxx : (x : Int) % 11 = (x11 : Int) := by omega
            have hxx2 : x11 < 11 := by omega
            clear hx11
            have Hrd := hid (read_c hC (by omega) (x11 : Int) (by omega))
            have HKw := hid hK
            have HPi := hid hPi
            clear hC hK hPi
            go_wp2_with (fail)
            refine Hrd.out.mono ?_
            rintro e w5 (⟨hbad, _⟩ | ⟨_, b5, c5, rfl, _, hC5', hK5, _⟩)
            · exact absurd hbad (not_bad (by omega))
            have hpp : Pinned (useS s x11) l := use_pinned HPi.out x11
            have hrs := readS_same (s := s) x11
            have hre : readS s x11 = useS s x11 := by unfold readS; rw [HPi.out.1]; rfl
            have hC5 := hC5'.mono (F' := F) (fun k h => .inl h)
            rw [Int.toNat_natCast] at hC5
            obtain ⟨s5, hs5⟩ : ∃ s5, s5 = readS s x11 := ⟨_, rfl⟩
            rw [← hre] at hpp
            rw [← hs5] at hpp hC5 hrs
            have hP5 : s5.P = 11 := by omega
            have ht5 : s5.t ≤ 3 + (k2 + 1) := by omega
            have HPi5 := hid hpp
            have HK5 := hid (HKw.out.to hK5)
            have HC5 := hid hC5
            have Hca := hid (cached_c hC5)
            clear hs5 hre hrs hC5 hC5' hpp hK5 Hrd HPi HKw HBw hc1 hxx
            go_wp2_with (fail)
            refine Hca.out.mono ?_
            rintro e w6 ⟨cv, rfl, hr6, hb6⟩
            obtain ⟨ca, cc, rfl⟩ := irow_form hr6
            have HC6 := hid (HC5.out.below hb6)
            have HK6 := hid (HK5.out.to (Kept.of_below hb6))
            have HL6 := hid (nums_row (Hrow.out w6 HK6.out))
            have HN6 := hid (nums_row hr6)
            have Hn64 : Hid (s5.ord.length ≤ 65) := (by obtain ⟨m, g, _⟩ := HC5.out; have h1 := g.ok.ol; have h2 := g.ok.mo2; omega : s5.ord.length ≤ 65)
            clear hb6 hr6 Hca HC5 HK5
            have Hin := hid (fun x hx => (HPi5.out.2 x hx).1)
            obtain ⟨co, hco⟩ : ∃ co, co = s5.ord := ⟨_, rfl⟩
            rw [← hco] at Hin Hn64 HN6 ⊢
            clear hco
            have hn64 := Hn64.out
            go_wp2
            go_loopw [12] (fun i wr3 => ∃ k : Nat, k ≤ l.length ∧ i = .int .i64 k ∧ Below w6.heap.size w6 wr3) (fun i _ => l.length - (intOf i).toNat)
            case atStart => exact ⟨0, Nat.zero_le _, rfl, Below.refl _ _⟩
            case round =>
              obtain ⟨k3, hk3, rfl, hB3⟩ := hrel
              have HB3 := hid hB3
              clear hB3
              obtain ⟨w7, hw7⟩ : ∃ w7, w7 = wr := ⟨_, rfl⟩
              subst hw7
              by_cases hlt3 : k3 < l.length
              · obtain ⟨lb, lo, rfl, hlc⟩ := HL6.out k3 hlt3
                have hin := Hin.out _ (List.getElem_mem hlt3)
                generalize l[k3] = x at *
                have d4 : (k3 : Int) < (l.length : Int) := by omega
                have d5 : (0 : Int) ≤ (k3 : Int) := by omega
                have Hlc := hid hlc
                clear hlc
                go_wp2
                go_loopw [13, 14] (fun b j wr4 => ∃ (k : Nat) (bb : Bool), k ≤ co.length ∧ j = .int .i64 k ∧ b = .bool bb ∧ (bb = true ↔ x ∈ co.take k) ∧ Below w6.heap.size w6 wr4) (fun _ j _ => co.length - (intOf j).toNat)
                case atStart => exact ⟨0, false, Nat.zero_le _, rfl, rfl, by simp, HB3.out⟩
                case round =>
                  obtain ⟨k4, bb, hk4, rfl, rfl, hbb, hB4⟩ := hrel
                  have HB4 := hid hB4
                  have Hbb := hid hbb
                  clear hB4 hbb
                  by_cases hlt4 : k4 < co.length
                  · obtain ⟨cb, cq, rfl, hcc⟩ := HN6.out k4 hlt4
                    have Htk := hid (List.take_succ_eq_append_getElem hlt4)
                    generalize co[k4] = y at *
                    have d6 : (k4 : Int) < (co.length : Int) := by omega
                    have d7 : (0 : Int) ≤ (k4 : Int) := by omega
                    have e1 := (HB4.out.cell (World.block_lt_of_cell? _ _ Hlc.out)).trans Hlc.out
                    have e2 := (HB4.out.cell (World.block_lt_of_cell? _ _ hcc)).trans hcc
                    clear hcc
                    cases bb
                    · go_wp2
                      go_quiet (fail)
                      go_wp2
                      go_roundw
                      case rel =>
                        refine ⟨k4 + 1, _, by omega, by go_num, rfl, ?_, HB4.out.trans (below_drewN' _ _ _)⟩
                        rw [Htk.out, List.mem_append, List.mem_singleton, ← Hbb.out]
                        simp
                        omega
                      case measure => simp [intOf]; omega
                    · go_wp2
                      go_quiet (fail)
                      go_wp2
                      go_roundw
                      case rel =>
                        refine ⟨k4 + 1, _, by omega, by go_num, rfl, ?_, HB4.out.trans (below_drewN' _ _ _)⟩
                        rw [Htk.out, List.mem_append, ← Hbb.out]
                        simp
                      case measure => simp [intOf]; omega
                  · have hkk : k4 = co.length := by omega
                    subst hkk
                    have hbt : bb = true := Hbb.out.2 (by rw [List.take_length]; exact hin)
                    subst hbt
                    have d6 : ¬ (co.length : Int) < (co.length : Int) := by omega
                    go_wp2
                    go_roundw
                    case rel => exact ⟨k3 + 1, by omega, by go_num, HB4.out⟩
                    case measure => simp [intOf]; omega
              · have d4 : ¬ (k3 : Int) < (l.length : Int) := by omega
                go_wp2
                go_roundw
                case rel => exact ⟨k2 + 1, by omega, by omega, by go_num, s5, HC6.out.below HB3.out, HPi5.out, hP5, ht5, HK6.out.to (Kept.of_below HB3.out)⟩
                case measure => simp [intOf]; omega
          · have hcase : (¬ (k2 : Int) < (M : Int)) ∨ ((k2 : Int) < (M : Int) ∧ ¬ (k2 : Int) < 60) := by omega
            rcases hcase with d1 | ⟨d1, d2⟩
            all_goals
              go_wp2
              go_ret
              exact ⟨rfl, HBw.out⟩
theorem cellsByteW : Tryz.prog.cellsOf 5 = 1 := by kernel_rfl
open Go.ChangeShapes Go.WideShapes Go.ChangeAt Go.Deep in
/-- a row of bytes that is handed in -/
theorem open_bytesW {H : Type} {enc : TypeId × Value → H} {W : World} {a : Option Addr} {len cap : Nat} {d : DataW H} {p : List MemPlace}
    (h : DataW.Trod enc Tryz.prog W 0 (fun _ => true) true 36 (.slice a len cap) d p) : ∃ l : List UInt8, l.length = len ∧ Bytes W a l ∧ l.length ≤ 9223372036854775807 := by
  obtain ⟨fuel, hf⟩ := h
  rcases open_ints Tryz.underlying36 Tryz.underlying5 cellsByteW hf with ⟨hcs, _⟩ | ⟨x, l', c', zs, hcs, _, hl, hm, hz, hx, hcell, hwz⟩
  · simp [Value.cells] at hcs
    obtain ⟨rfl, rfl, rfl⟩ := hcs
    exact ⟨[], rfl, fun i hi => by simp at hi, by simp⟩
  · simp [Value.cells] at hcs
    obtain ⟨rfl, rfl, rfl⟩ := hcs
    simp only [if_true] at hz
    have hlen : ((zs.take len).map fun z => UInt8.ofNat z.toNat).length = len := by rw [List.length_map, List.length_take]; omega
    refine ⟨(zs.take len).map fun z => UInt8.ofNat z.toNat, hlen, fun i hi => ?_, by rw [hlen]; unfold maxLen at hm; omega⟩
    obtain ⟨b, o, spot⟩ := x
    have hc := hcell i (by omega)
    have hspot : spot = none := by simpa [Addr.add] using World.cell?_spot (hcell 0 (by omega))
    subst hspot
    refine ⟨b, o, rfl, ?_⟩
    rw [addr_add] at hc
    rw [hc]
    have hi' : i < zs.length := by omega
    have hw := hwz zs[i] (List.getElem_mem _)
    have hr : 0 ≤ zs[i] ∧ zs[i] ≤ 255 := by simpa [Lit.wf, IntKind.min, IntKind.max, IntKind.signed, IntKind.bits] using hw
    simp only [List.getD, List.getElem?_eq_getElem hi', Option.getD_some, List.getElem_map, List.getElem_take]
    congr 2
    rw [UInt8.toNat_ofNat']
    omega

end Go.Proofs.YthdcjepkehifoaaGreat
