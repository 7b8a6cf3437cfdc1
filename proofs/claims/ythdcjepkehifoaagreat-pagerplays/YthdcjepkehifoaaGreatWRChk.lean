/- YthdcjepkehifoaaGreatWRO + YthdcjepkehifoaaGreatWRHead + YthdcjepkehifoaaGreatWRSel + YthdcjepkehifoaaGreatWQ + YthdcjepkehifoaaGreatWRChk -/
import Derived.Test.YthdcjepkehifoaaGreatWRefHead
import Derived.Test.YthdcjepkehifoaaGreatWOne
/- Open of the laws over a new disk: both logs. -/
namespace Go.Proofs.YthdcjepkehifoaaGreat
open Go.RowKit Go.Maps
set_option linter.unusedVariables false
set_option maxRecDepth 20000

set_option maxHeartbeats 1600000 in
theorem refOpen_two {w : World} {B r : Nat} {F L : Value} {vs us : List Value} {n : Nat} (h : RefAt w B r F L vs us (List.replicate n zpage) []) (S P : Nat) (hn : n = S + 1 + P) (hS : 2 ≤ S) (hP : 1 ≤ P) (h2 : n ≤ 1024) :
    Calls Tryz.prog 44 #[.pointer (some ⟨r, 0, none⟩), .int .i64 (S : Int)] w fun e w' => ∃ m r3 F3 vs3, e = .returned (.tuple #[.pointer (some ⟨m, 0, none⟩), .int .i64 0]) ∧ RefLog w' w.heap.size m r3 F3 (.slice none 0 0) vs3 [] S 0 0 (List.replicate n zpage) [] ∧ (∀ k, (k = r3 ∨ refBlock F3 (.slice none 0 0) vs3 [] k) → k ≠ m) ∧ Below w.heap.size w w' := by
  have Hbl := hid (refBlocks_any h)
  have Him := hid (refImage_ok h (by simp) (fun p hp => by rw [(List.mem_replicate.1 hp).2, zpage_length]) (by rw [List.length_replicate]; omega) (by rw [List.length_replicate]; exact h2) (by simp))
  rw [List.length_replicate] at Hbl Him
  have f1 : IntKind.i64.wrap ((n : Int) - 2) = (n : Int) - 2 := by rw [IntKind.wrap_i64]; omega
  have f2 : ¬ (n : Int) - 2 < (S : Int) := by omega
  have f3 : ¬ (S : Int) < 2 := by omega
  have Hn := hid hn
  clear h hn
  go_enter Tryz.func44, Tryz.ntmps44
  go_wp2_with (fail)
  refine Hbl.out.mono ?_
  rintro e w1 ⟨rfl, e1⟩
  subst w1
  go_wp2_with (fail)
  refine Him.out.mono ?_
  rintro e w2 ⟨b, c, vs', rfl, hI, hb2⟩
  have Hl := hid (refLoad_ok (ps := psOf (List.replicate n zpage) []) (b := b) (c := c) (by rw [psOf_length, List.length_replicate]; exact hI) (by rw [psOf_length, List.length_replicate]; omega) (by rw [psOf_length, List.length_replicate]; exact h2))
  rw [psOf_length, List.length_replicate] at Hl
  have Hb2 := hid hb2
  clear hI hb2 Him Hbl
  go_wp2_with (fail)
  refine Hl.out.mono ?_
  rintro e w3 ⟨hp | ⟨hp, r3, F3, vs3, rfl, hR⟩, hb3⟩
  · exfalso
    obtain ⟨⟨p, hp, hne⟩, _⟩ := hp
    exact hne (by rw [(List.mem_replicate.1 hp).2, zpage_length])
  have HR := hid (hR.mono Hb2.out.size)
  have Hlt := hid hR.lts
  have Hb3 := hid (Hb2.out.trans (hb3.mono Hb2.out.size))
  clear hR hb3 hp Hl Hb2
  go_wp2_with (fail)
  have HR4 := hid (HR.out.below ((Below.refl _ w3).alloc (Nat.le_refl _) (.cells #[.pointer (some ⟨r3, 0, none⟩), .int .i64 (S : Int), .int .i64 0, .int .i64 0] 103)))
  have hn0 := heap_alloc_new w3 (.cells #[.pointer (some ⟨r3, 0, none⟩), .int .i64 (S : Int), .int .i64 0, .int .i64 0] 103)
  have k0 := cell_of_row _ _ 0 _ _ _ hn0
  have Hb4 := hid (Hb3.out.alloc Hb3.out.size (.cells #[.pointer (some ⟨r3, 0, none⟩), .int .i64 (S : Int), .int .i64 0, .int .i64 0] 103))
  have Hm : Hid (RefLog _ w.heap.size w3.heap.size r3 F3 (.slice none 0 0) vs3 [] S 0 0 (List.replicate n zpage) []) := ⟨hn0, HR4.out, Hb3.out.size⟩
  clear hn0
  refine (refLogBlock_zero HR4.out w3.heap.size 0 0 0 k0 (by have := Hn.out; omega) h2).mono ?_
  rintro e w5 ⟨v, rfl, ho, hb5⟩
  obtain ⟨vb, vc, rfl, _, _, hvb⟩ := row_form ho (by omega)
  have Hz := hid (zeros_zpage vb 0 vc w5 (bytes_of_row ho zpage_length))
  have Hb5 := hid (Hb4.out.trans (hb5.mono Hb4.out.size))
  have Hm5 := hid (Hm.out.below hb5)
  clear ho hb5 HR HR4 k0 Hb3 Hb4 Hm
  go_wp2_with (fail)
  refine Hz.out.mono ?_
  rintro e w6 ⟨rfl, rfl⟩
  go_wp2
  go_ret2
  refine ⟨_, r3, F3, vs3, rfl, Hm5.out, fun k hk => ?_, Hb5.out⟩
  rcases hk with rfl | hk
  · have := Hlt.out.1; omega
  · have := (Hlt.out.2 k hk).2; omega

/-- the blocks of a reference's log -/
def rBlk (m r : Nat) (F L : Value) (vs us : List Value) (k : Nat) : Prop := k = m ∨ k = r ∨ refBlock F L vs us k
/-- a reference's log, whatever its disk holds -/
structure RW (w : World) (B m r : Nat) (F L : Value) (vs us : List Value) (S G U : Nat) (fs : List (List UInt8)) (ls : List (Nat × List UInt8)) : Prop where
  mem : RefLog w B m r F L vs us S G U fs ls
  far : ∀ k, (k = r ∨ refBlock F L vs us k) → k ≠ m
  ok : ∀ c ∈ ls, c.1 < fs.length ∧ c.2.length = 256
  full : ∀ p ∈ fs, p.length = 256
theorem RW.lts {w : World} {B m r : Nat} {F L : Value} {vs us : List Value} {S G U : Nat} {fs : List (List UInt8)} {ls : List (Nat × List UInt8)} (h : RW w B m r F L vs us S G U fs ls) : ∀ k, rBlk m r F L vs us k → B ≤ k ∧ k < w.heap.size := by
  rintro k (rfl | rfl | hk)
  · exact ⟨h.mem.bm, (Array.getElem?_eq_some_iff.1 h.mem.obj).1⟩
  · exact ⟨h.mem.disk.br, h.mem.disk.lts.1⟩
  · exact h.mem.disk.lts.2 k hk
theorem RW.keep {w w' : World} {B m r : Nat} {F L : Value} {vs us : List Value} {S G U : Nat} {fs : List (List UInt8)} {ls : List (Nat × List UInt8)} (h : RW w B m r F L vs us S G U fs ls) (hk : ∀ k, rBlk m r F L vs us k → w'.heap[k]? = w.heap[k]?) : RW w' B m r F L vs us S G U fs ls :=
  ⟨⟨(hk m (.inl rfl)).trans h.mem.obj, h.mem.disk.keep (hk r (.inr (.inl rfl))) (fun k hh => hk k (.inr (.inr hh))), h.mem.bm⟩, h.far, h.ok, h.full⟩
theorem RW.below {w w' : World} {B m r : Nat} {F L : Value} {vs us : List Value} {S G U : Nat} {fs : List (List UInt8)} {ls : List (Nat × List UInt8)} (h : RW w B m r F L vs us S G U fs ls) (hb : Below w.heap.size w w') : RW w' B m r F L vs us S G U fs ls := h.keep fun k hk => hb.block k (h.lts k hk).2
theorem RW.mono {w : World} {B B' m r : Nat} {F L : Value} {vs us : List Value} {S G U : Nat} {fs : List (List UInt8)} {ls : List (Nat × List UInt8)} (h : RW w B m r F L vs us S G U fs ls) (hB : B' ≤ B) : RW w B' m r F L vs us S G U fs ls :=
  ⟨⟨h.mem.obj, h.mem.disk.mono hB, Nat.le_trans hB h.mem.bm⟩, h.far, h.ok, h.full⟩
/-- a cell of the log stored anew -/
theorem RW.set2 {w : World} {B m r : Nat} {F L : Value} {vs us : List Value} {S G U : Nat} {fs : List (List UInt8)} {ls : List (Nat × List UInt8)} (h : RW w B m r F L vs us S G U fs ls) (G' : Nat) : RW (w.setCell ⟨m, 2, none⟩ (.int .i64 (G' : Int))) B m r F L vs us S G' U fs ls := by
  have o : ∀ k, k ≠ m → (w.setCell ⟨m, 2, none⟩ (.int .i64 (G' : Int))).heap[k]? = w.heap[k]? := fun k hk => heap_setCell_other _ _ _ _ hk
  refine ⟨⟨?_, h.mem.disk.keep (o r (h.far r (.inl rfl))) (fun k hk => o k (h.far k (.inr hk))), h.mem.bm⟩, h.far, h.ok, h.full⟩
  rw [heap_setCell_same w m 2 _ _ (.int .i64 (G' : Int)) h.mem.obj]
  simp
theorem RW.set3 {w : World} {B m r : Nat} {F L : Value} {vs us : List Value} {S G U : Nat} {fs : List (List UInt8)} {ls : List (Nat × List UInt8)} (h : RW w B m r F L vs us S G U fs ls) (U' : Nat) : RW (w.setCell ⟨m, 3, none⟩ (.int .i64 (U' : Int))) B m r F L vs us S G U' fs ls := by
  have o : ∀ k, k ≠ m → (w.setCell ⟨m, 3, none⟩ (.int .i64 (U' : Int))).heap[k]? = w.heap[k]? := fun k hk => heap_setCell_other _ _ _ _ hk
  refine ⟨⟨?_, h.mem.disk.keep (o r (h.far r (.inl rfl))) (fun k hk => o k (h.far k (.inr hk))), h.mem.bm⟩, h.far, h.ok, h.full⟩
  rw [heap_setCell_same w m 3 _ _ (.int .i64 (U' : Int)) h.mem.obj]
  simp
theorem out_set (w : World) (m i : Nat) (v : Value) : Out (fun k => k = m) w (w.setCell ⟨m, i, none⟩ v) :=
  ⟨rfl, rfl, rfl, by simp [World.setCell], fun k _ hp => heap_setCell_other _ _ _ _ hp⟩
theorem Out.mono {P Q : Nat → Prop} {w w' : World} (h : Out P w w') (hPQ : ∀ k, P k → Q k) : Out Q w w' := ⟨h.os, h.tape, h.output, h.size, fun k hk hn => h.block k hk (fun hp => hn (hPQ k hp))⟩
/-- two steps; the later one may touch what the first one made -/
theorem Out.comp {P Q : Nat → Prop} {w w1 w2 : World} (h : Out P w w1) (h2 : Out Q w1 w2) (hQ : ∀ k, Q k → P k ∨ w.heap.size ≤ k) : Out P w w2 :=
  ⟨h2.os.trans h.os, h2.tape.trans h.tape, h2.output.trans h.output, Nat.le_trans h.size h2.size, fun k hk hn => (h2.block k (Nat.lt_of_lt_of_le hk h.size) (fun hq => by rcases hQ k hq with h' | h'; exact hn h'; omega)).trans (h.block k hk hn)⟩
/-- the reference's log behind a write -/
def RWPost (w : World) (B m r : Nat) (F L : Value) (vs us : List Value) (S G U : Nat) (fs : List (List UInt8)) (ls : List (Nat × List UInt8)) (w' : World) : Prop :=
  ∃ L' us', RW w' B m r F L' vs us' S G U fs ls ∧ (∀ k, rBlk m r F L' vs us' k → rBlk m r F L vs us k ∨ w.heap.size ≤ k) ∧ Out (rBlk m r F L vs us) w w'
theorem rw_write {w : World} {B m r : Nat} {F L : Value} {vs us : List Value} {S G U : Nat} {fs : List (List UInt8)} {ls : List (Nat × List UInt8)} (h : RW w B m r F L vs us S G U fs ls) (n : Nat) (hn : n < fs.length) (x : List UInt8) (hx : x.length = 256) (b o cx : Nat) (hB : Bytes w (some ⟨b, o, none⟩) x) (hls : ls.length ≤ 1000000) (hbase : B ≤ w.heap.size) (nI : Int) (hnI : nI = (n : Int)) :
    Calls Tryz.prog 126 #[.pointer (some ⟨r, 0, none⟩), .int .i64 nI, .slice (some ⟨b, o, none⟩) 256 cx] w fun e w' => e = .returned (.int .i64 0) ∧ RWPost w B m r F L vs us S G U fs (ls ++ [(n, x)]) w' := by
  subst hnI
  obtain ⟨fa, fc, hF⟩ : ∃ fa fc, F = .slice fa fs.length fc := by
    rcases h.mem.disk.first.2 with ⟨hv, h0⟩ | ⟨g, cap, cur, hv, _⟩
    · exact ⟨none, 0, by rw [hv, h0]⟩
    · exact ⟨_, _, hv⟩
  refine (refWrite_ok h.mem.disk fa fc hF n hn x hx b o cx hB hls hbase).mono ?_
  rintro e w' ⟨rfl, L', u, hR, hb, ho⟩
  have hm := h.lts m (.inl rfl)
  have hmr : m ≠ r := fun e => h.far r (.inl rfl) e.symm
  have hO : Out (rBlk m r F L vs us) w w' := ⟨ho.os, ho.tape, ho.output, ho.size, fun k hk hp => ho.block k hk (fun e => hp (.inr (.inl e))) (fun e => hp (.inr (.inl e))) (by simp)⟩
  refine ⟨rfl, L', us ++ [u], ⟨⟨(ho.block m hm.2 hmr hmr (by simp)).trans h.mem.obj, hR, h.mem.bm⟩, fun k hk => ?_, fun c hc => ?_, h.full⟩, fun k hk => ?_, hO⟩
  · rcases hk with rfl | hk
    · exact h.far _ (.inl rfl)
    · rcases hb k hk with h1 | h1
      · exact h.far k (.inr h1)
      · omega
  · rcases List.mem_append.1 hc with h1 | h1
    · exact h.ok c h1
    · rw [List.mem_singleton.1 h1]; exact ⟨hn, hx⟩
  · rcases hk with rfl | rfl | hk
    · exact .inl (.inl rfl)
    · exact .inl (.inr (.inl rfl))
    · rcases hb k hk with h1 | h1
      · exact .inl (.inr (.inr h1))
      · exact .inr h1
end Go.Proofs.YthdcjepkehifoaaGreat

/- head of the reference's log: it writes the head's block. -/
namespace Go.Proofs.YthdcjepkehifoaaGreat
open Go.RowKit Go.Maps
set_option linter.unusedVariables false
set_option maxRecDepth 20000

theorem set_mid (a : List UInt8) (x y : UInt8) (r : List UInt8) (n : Nat) (hn : n = a.length) : (a ++ (x :: r)).set n y = a ++ (y :: r) := by
  subst hn
  rw [List.set_append_right _ _ (Nat.le_refl _), Nat.sub_self, List.set_cons_zero]
/-- a head's block, so many bytes of its number laid -/
def headAt (G i : Nat) : List UInt8 := ([72, 70] ++ (be 8 G).take i) ++ List.replicate (254 - i) 0
theorem headAt_len (G i : Nat) (h : i ≤ 8) : (headAt G i).length = 256 := by
  unfold headAt
  rw [List.length_append, List.length_append, List.length_take, be_length, List.length_replicate]
  simp
  omega
theorem headAt_zero (G : Nat) : ((List.replicate 256 (0 : UInt8)).set 0 72).set 1 70 = headAt G 0 := by
  unfold headAt
  rw [List.take_zero]
  rfl
theorem headAt_set (G i : Nat) (h : i < 8) : (headAt G i).set (2 + i) (UInt8.ofNat (G / 2 ^ (56 - 8 * i))) = headAt G (i + 1) := by
  unfold headAt
  rw [show 254 - i = (254 - (i + 1)) + 1 by omega, List.replicate_succ, set_mid _ _ _ _ _ (by rw [List.length_append, List.length_take, be_length]; simp; omega)]
  have e := be8_get G i h
  have hl : i < (be 8 G).length := by rw [be_length]; exact h
  rw [List.getElem?_eq_getElem hl] at e
  rw [List.take_succ_eq_append_getElem hl, Option.some.inj e]
  simp
theorem headAt_end (G U : Nat) : ((headAt G 8).set 10 (UInt8.ofNat (U / 256))).set 11 (UInt8.ofNat U) = headB G U := by
  unfold headAt
  rw [List.take_of_length_le (by rw [be_length]; exact Nat.le_refl _)]
  rw [show 254 - 8 = 244 + 1 + 1 by rfl, List.replicate_succ, set_mid _ _ _ _ _ (by rw [List.length_append, be_length]; rfl), List.replicate_succ]
  rw [show [72, 70] ++ be 8 G ++ UInt8.ofNat (U / 256) :: 0 :: List.replicate 244 0 = ([72, 70] ++ be 8 G ++ [UInt8.ofNat (U / 256)]) ++ (0 :: List.replicate 244 0) from by rw [List.append_assoc ([72, 70] ++ be 8 G)]; rfl, set_mid _ _ _ _ _ (by rw [List.length_append, List.length_append, be_length]; rfl)]
  unfold headB
  rw [be2]
  simp

theorem Int.natCast_ediv_pow2 (G e : Nat) : ((G / 2 ^ e : Nat) : Int) = (G : Int) / 2 ^ e := by
  rw [Int.natCast_ediv, Int.natCast_pow]
  rfl
/-- the row of bytes that head makes -/
def HRow (w : World) (l : List UInt8) (wr : World) : Prop := wr.ownsRow w.heap.size 5 1 (.slice (some ⟨w.heap.size, 0, none⟩) 256 256) 256 (cellsOf l) ∧ Below w.heap.size w wr
theorem HRow.set {w wr : World} {l : List UInt8} (h : HRow w l wr) (k : Nat) (b : UInt8) (x : Int) (hx : x = (b.toNat : Int)) : HRow w (l.set k b) (wr.setCell ⟨w.heap.size, k, none⟩ (.int .u8 x)) := by
  subst hx
  obtain ⟨h1, h2⟩ := h
  have hs := h1.stored k (.int .u8 (b.toNat : Int))
  rw [cellsOf_set] at hs
  exact ⟨hs.1, h2.grown hs.2 h2.size (by simp)⟩
theorem HRow.cell {w wr : World} {l : List UInt8} (h : HRow w l wr) (hl : l.length = 256) (k : Nat) (hk : k < 256) : ∃ c : Nat, wr.cell? ⟨w.heap.size, k, none⟩ = some (.int .u8 (c : Int)) := ⟨_, (h.1.cellAt k (by omega)).trans (cellsOf_get l k (by omega))⟩

theorem RWPost.comp0 {w w1 w2 : World} {B m r : Nat} {F L : Value} {vs us : List Value} {S G U : Nat} {fs : List (List UInt8)} {ls : List (Nat × List UInt8)} (hb : Below w.heap.size w w1) (h2 : RWPost w1 B m r F L vs us S G U fs ls w2) : RWPost w B m r F L vs us S G U fs ls w2 := by
  obtain ⟨L2, us2, hR, hn, ho2⟩ := h2
  refine ⟨L2, us2, hR, fun k hk => ?_, (Out.of_below hb).comp ho2 (fun _ h => .inl h)⟩
  rcases hn k hk with h | h
  · exact .inl h
  · have := hb.size; exact .inr (by omega)
set_option maxHeartbeats 1600000 in
theorem rhead_any {w : World} {B m r : Nat} {F L : Value} {vs us : List Value} {S G U : Nat} {fs : List (List UInt8)} {ls : List (Nat × List UInt8)} (h : RW w B m r F L vs us S G U fs ls) (hG : G < 9223372036854775808) (hU : U < 65536) (hf : 0 < fs.length) (hls : ls.length ≤ 1000000) (hbase : B ≤ w.heap.size) :
    Calls Tryz.prog 127 #[.pointer (some ⟨m, 0, none⟩)] w fun e w' => e = .returned (.tuple #[]) ∧ RWPost w B m r F L vs us S G U fs (ls ++ [(0, headB G U)]) w' := by
  obtain ⟨i0, hi, hz0, hz1, hz2⟩ := info_parts Tryz.info5
  have H := hid h
  clear h
  go_enter Tryz.func127, Tryz.ntmps127
  go_wp2_with (at_make; refine wpList_make_full _ rfl _ _ 36 rfl w.heap.size 5 i0 (.int .u8 0) 1 Tryz.underlying36 hi hz0 hz1 .i64 .i64 _ _ 256 rfl rfl (by omega) (by omega) (by rw [hz2]; omega) (by unfold maxLen; omega) (Nat.le_refl _) ?_; intro w1 hown1 hgrow1; have H1 : Hid (HRow w (List.replicate 256 0) w1) := ⟨made_own hown1, (Below.refl _ w).grown hgrow1 (Nat.le_refl _) (by simp)⟩; clear hown1 hgrow1; obtain ⟨x0, k0⟩ := H1.out.cell List.length_replicate 0 (by omega); obtain ⟨x1, k1⟩ := H1.out.cell List.length_replicate 1 (by omega); have z0 := H1.out.1.frozenAt 0; have z1 := H1.out.1.frozenAt 1)
  have H2 : Hid (HRow w (headAt G 0) ((w1.setCell ⟨w.heap.size, 0, none⟩ (.int .u8 72)).setCell ⟨w.heap.size, 1, none⟩ (.int .u8 70))) := by
    have h := (H1.out.set 0 72 72 (by rfl)).set 1 70 70 (by rfl)
    rw [headAt_zero G] at h
    exact h
  clear H1 k0 k1 z0 z1
  go_loopw [3] (fun i wr => ∃ k : Nat, k ≤ 8 ∧ i = .int .i64 k ∧ HRow w (headAt G k) wr) (fun i _ => 8 - (intOf i).toNat)
  case atStart => exact ⟨0, Nat.zero_le _, rfl, H2.out⟩
  case round =>
    obtain ⟨k, hk, rfl, hR⟩ := hrel
    have HR := hid hR
    clear hR H2
    have HW := hid (H.out.below HR.out.2)
    by_cases hlt : k < 8
    · obtain ⟨x0, k0⟩ := HR.out.cell (headAt_len G k hk) (2 + k) (by omega)
      have z0 := HR.out.1.frozenAt (2 + k)
      have c2 := HW.out.mem.c2
      have g1 : IntKind.i64.wrap (2 + (k : Int)) = ((2 + k : Nat) : Int) := by rw [IntKind.wrap_i64]; omega
      have g2 : IntKind.i64.wrap (8 * (k : Int)) = 8 * (k : Int) := by rw [IntKind.wrap_i64]; omega
      have g3 : IntKind.i64.wrap (56 - 8 * (k : Int)) = ((56 - 8 * k : Nat) : Int) := by rw [IntKind.wrap_i64]; omega
      have g4 : ((2 + k : Nat) : Int) < 256 := by omega
      have g5 : (k : Int) < 8 := by omega
      go_wp2
      go_roundw
      case rel =>
        refine ⟨k + 1, by omega, by go_num, ?_⟩
        rw [← headAt_set G k hlt]
        refine HR.out.set (2 + k) _ _ ?_
        rw [UInt8.toNat_ofNat']
        rw [← Int.natCast_ediv_pow2 G (56 - 8 * k)]
        omega
      case measure => simp [intOf]; omega
    · obtain rfl : k = 8 := by omega
      obtain ⟨x0, k0⟩ := HR.out.cell (headAt_len G 8 hk) 10 (by omega)
      obtain ⟨x1, k1⟩ := HR.out.cell (headAt_len G 8 hk) 11 (by omega)
      have z0 := HR.out.1.frozenAt 10
      have z1 := HR.out.1.frozenAt 11
      have c3 := HW.out.mem.c3
      have c0 := HW.out.mem.c0
      have hmw : m < w.heap.size := (H.out.lts m (.inl rfl)).2
      have hne : m ≠ w.heap.size := by omega
      go_wp2
      go_region
      have H2 : Hid (HRow w (headB G U) (((wr.setCell ⟨w.heap.size, 10, none⟩ (.int .u8 ((U : Int) / 256))).setCell ⟨w.heap.size, 11, none⟩ (.int .u8 ((U : Int) % 256))).drew)) := by
        have h := (HR.out.set 10 (UInt8.ofNat (U / 256)) ((U : Int) / 256) (by rw [UInt8.toNat_ofNat']; omega)).set 11 (UInt8.ofNat U) ((U : Int) % 256) (by rw [UInt8.toNat_ofNat']; omega)
        rw [headAt_end G U] at h
        exact ⟨h.1, h.2.os, h.2.tape, h.2.output, h.2.size, h.2.block⟩
      clear c3 z0 z1 k0 k1 c0
      generalize ((wr.setCell ⟨w.heap.size, 10, none⟩ (.int .u8 ((U : Int) / 256))).setCell ⟨w.heap.size, 11, none⟩ (.int .u8 ((U : Int) % 256))).drew = V at *
      have HV := hid (H.out.below H2.out.2)
      have c0 := HV.out.mem.c0
      have hsV := H2.out.2.size
      have Hw := hid (rw_write HV.out 0 hf (headB G U) (headB_length G U) w.heap.size 0 256 (bytes_of_row H2.out.1 (headB_length G U)) hls (by omega) 0 rfl)
      go_wp2_with (fail)
      refine Hw.out.mono ?_
      rintro e w2 ⟨rfl, hP⟩
      have HP := hid hP
      clear hP Hw
      go_wp2
      go_end0
      exact ⟨rfl, RWPost.comp0 H2.out.2 HP.out⟩
end Go.Proofs.YthdcjepkehifoaaGreat

/- The pages of a group by their numbers, as the reference picks them. -/
namespace Go.Proofs.YthdcjepkehifoaaGreat
open Go.RowKit Go.Maps
set_option linter.unusedVariables false

def pick (lp : List PgV) (n : Nat) : List PgV := lp.filter fun p => p.1 == (n : Int)
def selN (lp : List PgV) : Nat → List PgV
  | 0 => []
  | n + 1 => selN lp n ++ pick lp n
theorem pick_mem {lp : List PgV} {n : Nat} {p : PgV} : p ∈ pick lp n ↔ p ∈ lp ∧ p.1 = (n : Int) := by
  unfold pick
  rw [List.mem_filter, beq_iff_eq]
theorem selN_mem {lp : List PgV} {n : Nat} {p : PgV} : p ∈ selN lp n ↔ p ∈ lp ∧ 0 ≤ p.1 ∧ p.1 < (n : Int) := by
  induction n with
  | zero => simp [selN]
  | succ n ih =>
    rw [selN, List.mem_append, ih, pick_mem]
    constructor
    · rintro (⟨h1, h2, h3⟩ | ⟨h1, h2⟩)
      · exact ⟨h1, h2, by omega⟩
      · exact ⟨h1, by omega, by omega⟩
    · rintro ⟨h1, h2, h3⟩
      by_cases h : p.1 < (n : Int)
      · exact .inl ⟨h1, h2, h⟩
      · exact .inr ⟨h1, by omega⟩
theorem pick_few {lp : List PgV} (hn : (lp.map (·.1)).Nodup) (n : Nat) : (pick lp n).Pairwise (fun a b => a.1 < b.1) := by
  induction lp with
  | nil => exact List.Pairwise.nil
  | cons p lp ih =>
    rw [List.map_cons, List.nodup_cons] at hn
    have ih := ih hn.2
    unfold pick at ih ⊢
    rw [List.filter_cons]
    split
    · next h =>
      rw [List.pairwise_cons]
      refine ⟨fun q hq => ?_, ih⟩
      exfalso
      rw [List.mem_filter, beq_iff_eq] at hq
      rw [beq_iff_eq] at h
      exact hn.1 (List.mem_map.2 ⟨q, hq.1, hq.2.trans h.symm⟩)
    · exact ih
theorem selN_up {lp : List PgV} (hn : (lp.map (·.1)).Nodup) (n : Nat) : (selN lp n).Pairwise (fun a b => a.1 < b.1) := by
  induction n with
  | zero => exact List.Pairwise.nil
  | succ n ih =>
    rw [selN, List.pairwise_append]
    refine ⟨ih, pick_few hn n, fun a ha b hb => ?_⟩
    have h1 := (selN_mem.1 ha).2.2
    have h2 := (pick_mem.1 hb).2
    omega
theorem selN_perm {lp : List PgV} (hn : (lp.map (·.1)).Nodup) (P : Nat) (hr : ∀ p ∈ lp, 0 ≤ p.1 ∧ p.1 < (P : Int)) : (selN lp P).Perm lp := by
  have h1 : (selN lp P).Nodup := (selN_up hn P).imp (fun h e => by rw [e] at h; omega)
  have h2 : lp.Nodup := by
    have h : lp.Pairwise (fun a b => a.1 ≠ b.1) := List.pairwise_map.1 hn
    exact h.imp (fun h e => h (by rw [e]))
  refine (List.perm_ext_iff_of_nodup h1 h2).2 fun p => ?_
  rw [selN_mem]
  exact ⟨fun h => h.1, fun h => ⟨h, hr p h⟩⟩
/-- between two rounds of the picking -/
def selA (lp : List PgV) (n i : Nat) : List PgV := selN lp n ++ pick (lp.take i) n
theorem selA_zero (lp : List PgV) (n : Nat) : selA lp n 0 = selN lp n := by simp [selA, pick]
theorem selA_end (lp : List PgV) (n : Nat) : selA lp n lp.length = selN lp (n + 1) := by simp [selA, selN]
theorem selA_hit (lp : List PgV) (n i : Nat) (hi : i < lp.length) (h : lp[i].1 = (n : Int)) : selA lp n (i + 1) = selA lp n i ++ [lp[i]] := by
  unfold selA pick
  rw [List.take_succ_eq_append_getElem hi, List.filter_append, List.append_assoc]
  simp [h]
theorem selA_miss (lp : List PgV) (n i : Nat) (hi : i < lp.length) (h : lp[i].1 ≠ (n : Int)) : selA lp n (i + 1) = selA lp n i := by
  unfold selA pick
  rw [List.take_succ_eq_append_getElem hi, List.filter_append]
  simp [h]
theorem selN_sub (lp : List PgV) (n d : Nat) : (selN lp n).length ≤ (selN lp (n + d)).length := by
  induction d with
  | zero => exact Nat.le_refl _
  | succ d ih =>
    refine Nat.le_trans ih ?_
    rw [← Nat.add_assoc, selN, List.length_append]
    omega
theorem selA_len {lp : List PgV} (hn : (lp.map (·.1)).Nodup) (P : Nat) (hr : ∀ p ∈ lp, 0 ≤ p.1 ∧ p.1 < (P : Int)) (n i : Nat) (hnP : n < P) : (selA lp n i).length ≤ lp.length := by
  rw [← (selN_perm hn P hr).length_eq]
  obtain ⟨d, rfl⟩ : ∃ d, P = (n + 1) + d := ⟨P - (n + 1), by omega⟩
  refine Nat.le_trans ?_ (selN_sub lp (n + 1) d)
  unfold selA pick
  rw [selN, List.length_append, List.length_append]
  unfold pick
  have := ((List.take_sublist i lp).filter (fun p => p.1 == (n : Int))).length_le
  omega
theorem selA_mem {lp : List PgV} {n i : Nat} {p : PgV} (h : p ∈ selA lp n i) : p ∈ lp := by
  rcases List.mem_append.1 h with h | h
  · exact (selN_mem.1 h).1
  · exact List.mem_of_mem_take (pick_mem.1 h).1

/-- an index block, two bytes more -/
theorem ixB_set (len : Nat) (ns : List Nat) (n : Nat) (h : ns.length < 127) : ((ixB len ns).set (2 + 2 * ns.length) (UInt8.ofNat (n / 256))).set (3 + 2 * ns.length) (UInt8.ofNat n) = ixB len (ns ++ [n]) := by
  unfold ixB
  have e1 : List.replicate (254 - 2 * ns.length) (0 : UInt8) = 0 :: 0 :: List.replicate (254 - 2 * (ns ++ [n]).length) 0 := by
    rw [show 254 - 2 * ns.length = (254 - 2 * (ns ++ [n]).length) + 1 + 1 by rw [List.length_append]; simp; omega, List.replicate_succ, List.replicate_succ]
  rw [e1, ← List.append_assoc, set_mid _ _ _ _ _ (by rw [List.length_append, be_length, flat_be_length])]
  rw [show be 2 len ++ ns.flatMap (be 2) ++ UInt8.ofNat (n / 256) :: 0 :: List.replicate (254 - 2 * (ns ++ [n]).length) 0 = (be 2 len ++ ns.flatMap (be 2) ++ [UInt8.ofNat (n / 256)]) ++ (0 :: List.replicate (254 - 2 * (ns ++ [n]).length) 0) by simp]
  rw [set_mid _ _ _ _ _ (by rw [List.length_append, List.length_append, be_length, flat_be_length]; simp; omega)]
  rw [List.flatMap_append]
  simp [be2]
theorem ixB_start (len : Nat) : ((List.replicate 256 (0 : UInt8)).set 0 (UInt8.ofNat (len / 256))).set 1 (UInt8.ofNat len) = ixB len [] := by
  unfold ixB
  rw [be2]
  rfl
theorem numsP_snoc (s : List PgV) (p : PgV) (n : Nat) (h : p.1 = (n : Int)) : numsP (s ++ [p]) = numsP s ++ [n] := by
  unfold numsP
  rw [List.map_append]
  simp [h]
end Go.Proofs.YthdcjepkehifoaaGreat

/- A log, and a set that has all its blocks: what Commit and Checkpoint leave. -/
namespace Go.Proofs.YthdcjepkehifoaaGreat
open Go.RowKit Go.Maps
set_option linter.unusedVariables false
set_option maxRecDepth 20000

def LogQ (w : World) (B S P k l G : Nat) (gs : List (List Nat)) (ls : List (Nat × List UInt8)) (Q : Nat → Prop) : Prop := ∃ d g c m n v, At1 w B S P k l d g c m n v G gs ls ∧ ∀ j, logBlock l d g m v j → Q j
theorem LogQ.at {w : World} {B S P k l G : Nat} {gs : List (List Nat)} {ls : List (Nat × List UInt8)} {Q : Nat → Prop} (h : LogQ w B S P k l G gs ls Q) : LogAt w B S P k l G gs ls := by
  obtain ⟨d, g, c, m, n, v, h, _⟩ := h
  exact ⟨d, g, c, m, n, v, h⟩
theorem LogQ.keep {w w' : World} {B S P k l G : Nat} {gs : List (List Nat)} {ls : List (Nat × List UInt8)} {Q : Nat → Prop} (h : LogQ w B S P k l G gs ls Q) (hk : ∀ j, j < w.heap.size → Q j → w'.heap[j]? = w.heap[j]?) : LogQ w' B S P k l G gs ls Q := by
  obtain ⟨d, g, c, m, n, v, h, hQ⟩ := h
  exact ⟨d, g, c, m, n, v, ⟨h.mem.keep fun j hj => hk j (h.mem.lts j hj).2 (hQ j hj), h.inv, h.gr, h.lsl, h.nl⟩, hQ⟩
theorem LogQ.below {w w' : World} {B S P k l G : Nat} {gs : List (List Nat)} {ls : List (Nat × List UInt8)} {Q : Nat → Prop} (h : LogQ w B S P k l G gs ls Q) (hb : Below w.heap.size w w') : LogQ w' B S P k l G gs ls Q := h.keep fun j hj _ => hb.block j hj
theorem LogQ.le {w : World} {B S P k k' l G : Nat} {gs : List (List Nat)} {ls : List (Nat × List UInt8)} {Q : Nat → Prop} (h : LogQ w B S P k l G gs ls Q) (hk : k ≤ k') : LogQ w B S P k' l G gs ls Q := by
  obtain ⟨d, g, c, m, n, v, h, hQ⟩ := h
  have h1 := h.gr
  have h2 := h.lsl
  have h3 := h.nl
  exact ⟨d, g, c, m, n, v, ⟨h.mem, h.inv, by omega, by omega, by omega⟩, hQ⟩
/-- only blocks that are there, from B on -/
theorem LogQ.cut {w : World} {B S P k l G : Nat} {gs : List (List Nat)} {ls : List (Nat × List UInt8)} {Q : Nat → Prop} (h : LogQ w B S P k l G gs ls Q) : LogQ w B S P k l G gs ls (fun j => Q j ∧ B ≤ j ∧ j < w.heap.size) := by
  obtain ⟨d, g, c, m, n, v, h, hQ⟩ := h
  exact ⟨d, g, c, m, n, v, h, fun j hj => ⟨hQ j hj, h.mem.lts j hj⟩⟩

theorem new_log {w : World} {l d g m : Nat} {v v' : Value} {Q : Nat → Prop} (hQ : ∀ j, logBlock l d g m v j → Q j) (hnv : NewV w v v') : ∀ j, logBlock l d g m v' j → Q j ∨ w.heap.size ≤ j := by
  rintro j (h | h | h | h | h)
  · exact .inl (hQ j (.inl h))
  · exact .inl (hQ j (.inr (.inl h)))
  · exact .inl (hQ j (.inr (.inr (.inl h))))
  · exact .inl (hQ j (.inr (.inr (.inr (.inl h)))))
  · rcases hnv j h with h | h
    · exact .inl (hQ j (.inr (.inr (.inr (.inr h)))))
    · exact .inr h

theorem q_check {w : World} {B S P k l G : Nat} {gs : List (List Nat)} {ls : List (Nat × List UInt8)} {Q : Nat → Prop} (h : LogQ w B S P k l G gs ls Q) (hk : k ≤ 1000) (hP : P ≤ 100) (hB : B ≤ w.heap.size) :
    Calls Tryz.prog 50 #[.pointer (some ⟨l, 0, none⟩)] w fun e w' => e = .returned (.int .i64 0) ∧ ∃ Q', LogQ w' B S P (k + 1) l G [] (ls ++ cpWs S P G gs ls) Q' ∧ (∀ j, Q' j → Q j ∨ w.heap.size ≤ j) ∧ Out Q w w' := by
  have h0 := h
  obtain ⟨d, g, c, m, n, v, h, hQ⟩ := h
  have h1 := h.inv.len
  have h2 := h.inv.most
  have h3 := h.lsl
  have h4 := h.nl
  have h5 := h.gr
  have h6 := h.inv.used
  by_cases hu : usedOf gs = 0
  · have hgs := gs_nil hu
    subst hgs
    refine (check_empty (by have := h.mem; rw [usedOf_nil] at this; exact this)).mono ?_
    rintro e w' ⟨rfl, rfl⟩
    refine ⟨rfl, Q, ?_, fun j hj => .inl hj, Out.refl _ _⟩
    unfold cpWs
    rw [if_pos hu, List.append_nil]
    exact h0.le (Nat.le_succ k)
  · rw [psOf_length] at h1 h2
    refine (check_any h.mem P h1 h2 (by omega) (by omega) (by omega) (by omega) hB (touchedOf P gs) (touchedOf_up P gs) (touched_iff h.inv) (pageNow (psOf (fresh S P) ls) S gs) (fun p hp => ?_) (Nat.le_trans (touched_len P gs) (by omega))).mono ?_
    · obtain ⟨hpP, hps⟩ := touched_lt hp
      refine ⟨hpP, pageNow_length h.inv p hpP, ?_⟩
      obtain ⟨q, hq⟩ := Option.isSome_iff_exists.1 hps
      have hql := plOf_le gs p q hq
      refine ⟨q, hq, by omega, ?_⟩
      have hpl : placeOf S gs p = q := by unfold placeOf; rw [hq]; rfl
      unfold pageNow
      rw [hpl]
      have hlt : q < (psOf (fresh S P) ls).length := by rw [← hpl]; exact placeOf_lt h.inv p hpP
      rw [List.getElem?_eq_getElem hlt]
      simp [List.getD, List.getElem?_eq_getElem hlt]
    · rintro e w' ⟨rfl, v', hM, hnv, ho⟩
      have ec : cpWs S P G gs ls = homeWs S (pageNow (psOf (fresh S P) ls) S gs) (touchedOf P gs) ++ [(0, headB G 0)] := by
        unfold cpWs; rw [if_neg hu]; rfl
      refine ⟨rfl, _, ⟨d, g, c, m, 0, v', ⟨?_, ?_, by omega, ?_, by omega⟩, fun j hj => hj⟩, new_log hQ hnv, ho.imp fun j _ hj => hQ j hj⟩
      · rw [ec]; exact hM
      · have hc := (h.inv.check (by omega)).1
        rw [ec, psOf_append]
        exact hc
      · rw [ec, List.length_append, List.length_append]
        unfold homeWs
        rw [List.length_map]
        have := touched_len P gs
        simp
        omega

/-- a group that is refused, and with what; one that is taken -/
def CErr (S P U : Nat) (lp : List PgV) (c : Int) : Prop := (c = 0 ∧ lp.length = 0) ∨ (c = 6 ∧ 100 < lp.length) ∨ (0 < lp.length ∧ lp.length ≤ 100 ∧ ((c = 2 ∧ BadRange P lp) ∨ (c = 3 ∧ ¬ BadRange P lp ∧ BadForm lp) ∨ (c = 7 ∧ ¬ BadRange P lp ∧ ¬ BadForm lp ∧ S < U + lp.length + 1)))
def COk (S P U : Nat) (lp : List PgV) : Prop := 0 < lp.length ∧ lp.length ≤ 100 ∧ ¬ BadRange P lp ∧ ¬ BadForm lp ∧ U + lp.length + 1 ≤ S
theorem CErr.uniq {S P U : Nat} {lp : List PgV} {c c' : Int} (h : CErr S P U lp c) (h' : CErr S P U lp c') : c = c' := by
  unfold CErr at h h'
  by_cases a : BadRange P lp <;> by_cases b : BadForm lp <;> simp only [a, b, not_true_eq_false, not_false_eq_true, and_true, and_false, true_and, false_and, or_false, false_or] at h h' <;> omega
theorem CErr.not {S P U : Nat} {lp : List PgV} {c : Int} (h : CErr S P U lp c) : ¬ COk S P U lp := by
  rintro ⟨h1, h2, h3, h4, h5⟩
  rcases h with ⟨_, h⟩ | ⟨_, h⟩ | ⟨_, _, (⟨_, h⟩ | ⟨_, _, h⟩ | ⟨_, _, _, h⟩)⟩
  · omega
  · omega
  · exact h3 h
  · exact h4 h
  · omega
theorem COk.good {S P U : Nat} {lp : List PgV} (h : COk S P U lp) : (lp.map (·.1)).Nodup ∧ (∀ p ∈ lp, p.2.2.1 = 256) ∧ ∀ p ∈ lp, 0 ≤ p.1 ∧ p.1 < (P : Int) := by
  obtain ⟨h1, h2, h3, h4, h5⟩ := h
  refine ⟨Classical.byContradiction fun hn => h4 (.inl hn), fun p hp => Classical.byContradiction fun hn => h4 (.inr ⟨p, hp, hn⟩), fun p hp => ?_⟩
  have : ¬ (p.1 < 0 ∨ (P : Int) ≤ p.1) := fun h => h3 ⟨p, hp, h⟩
  omega
theorem COk.nums {S P U : Nat} {lp : List PgV} (h : COk S P U lp) : GoodIx P (numsP (selN lp P)) ∧ (numsP (selN lp P)).length = lp.length := by
  obtain ⟨g1, g2, g3⟩ := h.good
  have hp := selN_perm g1 P g3
  have hl := hp.length_eq
  have h1 := h.1
  have h2 := h.2.1
  refine ⟨good_nums (P := P) (by omega) (by omega) (selN_up g1 P) (fun hb => h.2.2.1 ((badRange_perm hp).1 hb)), by rw [numsP_length, hl]⟩

/-- what Commit tells, and leaves -/
def CmQ (w : World) (B S P k l G : Nat) (gs : List (List Nat)) (ls : List (Nat × List UInt8)) (Q : Nat → Prop) (lp : List PgV) (e : Ending) (w' : World) : Prop :=
  Out Q w w' ∧ ((∃ c : Int, e = .returned (.int .i64 c) ∧ CErr S P (usedOf gs) lp c ∧ LogQ w' B S P (k + 1) l G gs ls Q) ∨
    (e = .returned (.int .i64 0) ∧ COk S P (usedOf gs) lp ∧ ∃ Q', (∀ j, Q' j → Q j ∨ w.heap.size ≤ j) ∧ LogQ w' B S P (k + 1) l (G + 1) (gs ++ [numsP (selN lp P)]) (ls ++ commitWs (usedOf gs) G (numsP (selN lp P)) ((selN lp P).map (bytesAt w))) Q'))
theorem q_commit {w : World} {B S P k l G : Nat} {gs : List (List Nat)} {ls : List (Nat × List UInt8)} {H : Nat} {Q : Nat → Prop} (h : LogQ w B S P k l G gs ls Q) (hQH : ∀ j, Q j → j < H) (hk : k ≤ 1000) (hB : B ≤ w.heap.size)
    {q : List Int} {sh : Bool} {y : UInt8} {lp : List PgV} (hd : DeedPgs w H q sh y lp) (a : Option Addr) (cp : Nat) (hp : 0 < lp.length → ∃ b, a = some ⟨b, 0, none⟩ ∧ PgsAt w b 0 lp) :
    Calls Tryz.prog 48 #[.pointer (some ⟨l, 0, none⟩), .slice a lp.length cp] w (CmQ w B S P k l G gs ls Q lp) := by
  have h0 := h
  obtain ⟨d, g, c, m, n, v, h, hF⟩ := h
  have h1 := h.inv.len
  have h2 := h.inv.most
  rw [psOf_length] at h1 h2
  have h3 := h.lsl
  have h4 := h.nl
  have h5 := h.gr
  have h6 := h.inv.used
  rcases (show lp.length = 0 ∨ 100 < lp.length ∨ (0 < lp.length ∧ lp.length ≤ 100) by omega) with hz | hz | ⟨hz1, hz2⟩
  · rw [hz]
    refine (commit_none _ _ _ _).mono ?_
    rintro e w' ⟨rfl, rfl⟩
    exact ⟨Out.refl _ _, .inl ⟨0, rfl, .inl ⟨rfl, hz⟩, h0.le (Nat.le_succ k)⟩⟩
  · refine (commit_long _ _ _ _ _ hz).mono ?_
    rintro e w' ⟨rfl, rfl⟩
    exact ⟨Out.refl _ _, .inl ⟨6, rfl, .inr (.inl ⟨rfl, hz⟩), h0.le (Nat.le_succ k)⟩⟩
  · obtain ⟨b, rfl, hpg⟩ := hp hz1
    refine (commit_any h.mem P h1 h2 h6 lp b 0 cp hpg hz1 hz2 (hd.ok (fun j hj => hQH j (hF j hj))) (by omega) (by omega) (by omega) hB).mono ?_
    rintro e w' (⟨cc, rfl, hc, hb⟩ | ⟨rfl, hr, hf, hU, s, v', hs, hup, hM, hnv, ho⟩)
    · exact ⟨Out.of_below hb, .inl ⟨cc, rfl, .inr (.inr ⟨hz1, hz2, hc⟩), (h0.below hb).le (Nat.le_succ k)⟩⟩
    · have hcok : COk S P (usedOf gs) lp := ⟨hz1, hz2, hr, hf, hU⟩
      obtain ⟨g1, g2, g3⟩ := hcok.good
      have es : s = selN lp P := List.Perm.eq_of_pairwise (le := fun a b : PgV => a.1 < b.1) (fun a b _ _ h1 h2 => by omega) hup (selN_up g1 P) (hs.trans (selN_perm g1 P g3).symm)
      subst es
      obtain ⟨hgi, hns⟩ := hcok.nums
      refine ⟨ho.imp fun j _ hj => hF j hj, .inr ⟨rfl, hcok, _, new_log hF hnv, ⟨d, g, c, m, n + lp.length, v', ⟨?_, ?_, by omega, ?_, by omega⟩, fun j hj => hj⟩⟩⟩
      · rw [usedOf_snoc, plOf_snoc, hns]; exact hM
      · rw [psOf_append]
        refine h.inv.commit (numsP (selN lp P)) ((selN lp P).map (bytesAt w)) hgi (by rw [List.length_map, numsP_length]) (fun x hx => ?_) (by omega) (by omega)
        obtain ⟨p, hpm, rfl⟩ := List.mem_map.1 hx
        rw [bytesAt_length]
        exact g2 p (hs.mem_iff.1 hpm)
      · rw [List.length_append, commitWs_length, List.length_map, (selN_perm g1 P g3).length_eq]
        omega
end Go.Proofs.YthdcjepkehifoaaGreat

/- Checkpoint of the reference's log, by a contract. -/
namespace Go.Proofs.YthdcjepkehifoaaGreat
open Go.RowKit Go.Maps
set_option linter.unusedVariables false
set_option maxRecDepth 20000

/-- a whole reference's log, and a set that has all its blocks -/
def RQ (w : World) (B m S G : Nat) (gs : List (List Nat)) (P : Nat) (ls : List (Nat × List UInt8)) (R : Nat → Prop) : Prop :=
  ∃ r F L vs us, RW w B m r F L vs us S G (usedOf gs) (fresh S P) ls ∧ LogInv (psOf (fresh S P) ls) S G gs P ∧ ∀ j, rBlk m r F L vs us j → R j
theorem RQ.keep {w w' : World} {B m S G : Nat} {gs : List (List Nat)} {P : Nat} {ls : List (Nat × List UInt8)} {R : Nat → Prop} (h : RQ w B m S G gs P ls R) (hk : ∀ j, j < w.heap.size → R j → w'.heap[j]? = w.heap[j]?) : RQ w' B m S G gs P ls R := by
  obtain ⟨r, F, L, vs, us, h, hi, hR⟩ := h
  exact ⟨r, F, L, vs, us, h.keep fun j hj => hk j (h.lts j hj).2 (hR j hj), hi, hR⟩
theorem RQ.below {w w' : World} {B m S G : Nat} {gs : List (List Nat)} {P : Nat} {ls : List (Nat × List UInt8)} {R : Nat → Prop} (h : RQ w B m S G gs P ls R) (hb : Below w.heap.size w w') : RQ w' B m S G gs P ls R := h.keep fun j hj _ => hb.block j hj
theorem RQ.cut {w : World} {B m S G : Nat} {gs : List (List Nat)} {P : Nat} {ls : List (Nat × List UInt8)} {R : Nat → Prop} (h : RQ w B m S G gs P ls R) : RQ w B m S G gs P ls (fun j => R j ∧ B ≤ j ∧ j < w.heap.size) := by
  obtain ⟨r, F, L, vs, us, h, hi, hR⟩ := h
  exact ⟨r, F, L, vs, us, h, hi, fun j hj => ⟨hR j hj, h.lts j hj⟩⟩
theorem RW.refOk {w : World} {B m r : Nat} {F L : Value} {vs us : List Value} {S G : Nat} {gs : List (List Nat)} {P : Nat} {fs : List (List UInt8)} {ls : List (Nat × List UInt8)} (h : RW w B m r F L vs us S G (usedOf gs) fs ls) (hi : LogInv (psOf fs ls) S G gs P) (hl : ls.length ≤ 1000000) : RefOk w B m r F L vs us S G gs P fs ls := ⟨h.mem, hi, h.ok, h.full, hl⟩
theorem RWPost.trans {w w1 w2 : World} {B m r : Nat} {F L : Value} {vs us : List Value} {S' G' U' : Nat} {fs : List (List UInt8)} {ls' : List (Nat × List UInt8)} {L1 : Value} {us1 : List Value} (h1 : ∀ k, rBlk m r F L1 vs us1 k → rBlk m r F L vs us k ∨ w.heap.size ≤ k) (ho : Out (rBlk m r F L vs us) w w1) (h2 : RWPost w1 B m r F L1 vs us1 S' G' U' fs ls' w2) : RWPost w B m r F L vs us S' G' U' fs ls' w2 := by
  obtain ⟨L2, us2, hR, hn, ho2⟩ := h2
  refine ⟨L2, us2, hR, fun k hk => ?_, ho.comp ho2 h1⟩
  rcases hn k hk with h | h
  · exact h1 k h
  · have := ho.size; exact .inr (by omega)

set_option maxHeartbeats 400000 in
theorem rcheck_empty {w : World} {B m r : Nat} {F L : Value} {vs us : List Value} {S G : Nat} {fs : List (List UInt8)} {ls : List (Nat × List UInt8)} (h : RW w B m r F L vs us S G 0 fs ls) :
    Calls Tryz.prog 74 #[.pointer (some ⟨m, 0, none⟩)] w fun e w' => e = .returned (.int .i64 0) ∧ w' = w := by
  have c3 := h.mem.c3
  clear h
  go_enter Tryz.func74, Tryz.ntmps74
  go_wp2
  go_ret
  exact ⟨rfl, rfl⟩

/-- between two rounds of Checkpoint -/
def KRel (w : World) (B m r : Nat) (F L : Value) (vs us : List Value) (S G U : Nat) (fs : List (List UInt8)) (ls : List (Nat × List UInt8)) (f : Nat → List UInt8) (t : List Nat) (k : Nat) (wr : World) : Prop := RWPost w B m r F L vs us S G U fs (ls ++ homeWs S f (t.take k)) wr
set_option maxHeartbeats 3200000 in
theorem rcheck_any {w : World} {B m r : Nat} {F L : Value} {vs us : List Value} {S G : Nat} {gs : List (List Nat)} {P : Nat} {ls : List (Nat × List UInt8)} (h : RW w B m r F L vs us S G (usedOf gs) (fresh S P) ls) (hi : LogInv (psOf (fresh S P) ls) S G gs P) (hu : 0 < usedOf gs) (hG : G < 9223372036854775808) (hls : ls.length ≤ 900000) (hbase : B ≤ w.heap.size) :
    Calls Tryz.prog 74 #[.pointer (some ⟨m, 0, none⟩)] w fun e w' => e = .returned (.int .i64 0) ∧ RWPost w B m r F L vs us S G 0 (fresh S P) (ls ++ (homeWs S (pageNow (psOf (fresh S P) ls) S gs) (touchedOf P gs) ++ [(0, headB G 0)])) w' := by
  have c3 := h.mem.c3
  have hlen := hi.len
  have hmost := hi.most
  rw [psOf_length] at hlen hmost
  have d1 : ((usedOf gs : Int) == 0) = false := by rw [beq_eq_false_iff_ne]; omega
  have Hto := hid (rtouched_any (h.refOk hi (by omega)))
  have H := hid h
  have Hi := hid hi
  have Hhp := hid (fun k => hi.home_part ((touchedOf P gs).take k) (fun n hn => touched_lt (List.mem_of_mem_take hn)))
  have Hlen := hid hlen
  have Htl := hid (fun n (hn : n ∈ touchedOf P gs) => (touched_lt hn).1)
  have Htn := hid (touchedOf_len P gs)
  generalize touchedOf P gs = t at *
  have htl : t.length ≤ 1024 := by have := Htn.out; omega
  have Hf := hid (fun p (hp : p < P) => pageNow_length hi p hp)
  generalize hff : pageNow (psOf (fresh S P) ls) S gs = f at *
  have Hff := hid hff
  clear h hi hlen hff
  go_enter Tryz.func74, Tryz.ntmps74
  go_wp2_with (fail)
  refine Hto.out.mono ?_
  rintro e w1 ⟨vt, rfl, hrow, hb1⟩
  obtain ⟨ta, tc, rfl⟩ : ∃ ta tc, vt = .slice ta t.length tc := by
    rcases hrow.2 with ⟨h1, h2⟩ | ⟨g, cap, _, h1, _⟩
    · exact ⟨none, 0, by rw [h1, h2]⟩
    · exact ⟨_, _, h1⟩
  have Hrow := hid hrow
  have Hb1 := hid hb1
  have H1 := hid (H.out.below hb1)
  have Hlt := hid H.out.lts
  have HR0 : Hid (KRel w1 B m r F L vs us S G (usedOf gs) (fresh S P) ls f t 0 w1) := ⟨L, us, by rw [List.take_zero]; show RW _ _ _ _ _ _ _ _ _ _ _ _ (ls ++ []); rw [List.append_nil]; exact H1.out, fun k hk => .inl hk, Out.refl _ _⟩
  clear hrow hb1 c3 Hto
  go_wp2
  go_loopw [4] (fun i wr => ∃ k : Nat, k ≤ t.length ∧ i = .int .i64 k ∧ KRel w1 B m r F L vs us S G (usedOf gs) (fresh S P) ls f t k wr) (fun i _ => t.length - (intOf i).toNat)
  case atStart => exact ⟨0, Nat.zero_le _, rfl, HR0.out⟩
  case round =>
    obtain ⟨k, hk, rfl, hR⟩ := hrel
    obtain ⟨L1, us1, hW, hnw, hOw⟩ := hR
    have HW := hid hW
    have Hnw := hid hnw
    have HO := hid hOw
    have c0 := hW.mem.c0
    have c1 := hW.mem.c1
    have hs1 := Hb1.out.size
    have hso := hOw.size
    clear hW hnw hOw HR0
    by_cases hlt : k < t.length
    · obtain ⟨gt, ct, e1, _, _⟩ := Hrow.out.form (by omega)
      obtain ⟨rfl, rfl⟩ : ta = some ⟨gt, 0, none⟩ ∧ tc = ct := by cases e1; exact ⟨rfl, rfl⟩
      have hgt := Hrow.out.lt gt rfl
      have Hgn : Hid (∀ L2 us2, (∀ j, rBlk m r F L2 vs us2 j → rBlk m r F L vs us j ∨ w1.heap.size ≤ j) → ¬ rBlk m r F L2 vs us2 gt) := fun L2 us2 hn hg => by
        rcases hn gt hg with hh | hh
        · have := (Hlt.out gt hh).2; omega
        · omega
      have ct0 : wr.cell? ⟨gt, k, none⟩ = some (.int .i64 (t[k] : Int)) := by
        have h1 := Hrow.out.cellAt k (by omega)
        rw [nums_get t k hlt] at h1
        exact (World.cell?_of_block (a := ⟨gt, k, none⟩) (HO.out.block gt hgt.2 (fun hh => by have := (Hlt.out gt hh).2; omega))).trans h1
      have hxP := Htl.out t[k] (List.getElem_mem hlt)
      have Htk := hid (homeWs_take S f t k hlt)
      generalize t[k] = x at *
      obtain ⟨hi2, hp2⟩ := Hhp.out k
      have Hx256 := hid (Hf.out x hxP)
      have hlen1 : (ls ++ homeWs S f (t.take k)).length ≤ 1000000 := by
        have := Htn.out
        rw [List.length_append]; unfold homeWs; rw [List.length_map, List.length_take]; have := Hlen.out; omega
      have hok2 : RefOk wr B m r F L1 vs us1 S G gs P (fresh S P) (ls ++ homeWs S f (t.take k)) := HW.out.refOk (by rw [psOf_append]; exact hi2) hlen1
      have Hok := hid (hok2.below (w' := wr.drew) ⟨rfl, rfl, rfl, Nat.le_refl _, fun _ _ => rfl⟩)
      have Hpx : Hid ((psOf (fresh S P) (ls ++ homeWs S f (t.take k)))[placeOf S gs x]? = some (f x)) := by
        have h1 := hok2.page x hxP
        rw [psOf_append, hp2 x hxP] at h1
        rw [psOf_append]
        exact h1
      have g1 : (k : Int) < (t.length : Int) := by omega
      have g2 : IntKind.i64.wrap ((S : Int) + 1) = (S : Int) + 1 := by rw [IntKind.wrap_i64]; have := Hlen.out; omega
      have g3 : IntKind.i64.wrap ((S : Int) + 1 + (x : Int)) = (S : Int) + 1 + (x : Int) := by rw [IntKind.wrap_i64]; have := Hlen.out; omega
      have hxf : S + 1 + x < (fresh S P).length := by rw [fresh_length]; omega
      have hwB : B ≤ wr.heap.size := Nat.le_trans hbase (Nat.le_trans hs1 hso)
      clear hi2 hp2 e1 hok2
      go_wp2
      go_region_held3 (fun w9 => w9.cell? ⟨m, 0, none⟩ = some (.pointer (some ⟨r, 0, none⟩)) ∧ w9.cell? ⟨m, 1, none⟩ = some (.int .i64 (S : Int)) ∧ w9.cell? ⟨gt, k, none⟩ = some (.int .i64 (x : Int))) (first | exact ⟨c0, c1, ct0⟩ | exact q3.out | exact q2.out | exact q1.out)
        (first
          | ((go_at_call 126; refine (Hw.out _ (by omega)).mono ?_; rintro e u3 ⟨rfl, hP3⟩; have HP3 := hid hP3; have q3 := hid (by obtain ⟨L2, us2, hW2, hn2, ho2⟩ := HP3.out; exact And.intro hW2.mem.c0 (And.intro hW2.mem.c1 ((World.cell?_of_block (a := ⟨gt, k, none⟩) (ho2.block gt (World.block_lt_of_cell? _ _ Hct2.out) (Hgn.out L1 us1 Hnw.out))).trans Hct2.out))); clear hP3))
          | ((go_at_call 83; refine (rblock_any HW1.out.mem HW1.out.ok HW1.out.full hmost hlen1 _ _ Hpx.out).mono ?_; rintro e u2 ⟨bv, rfl, ho2, hb2⟩; rw [Hx256.out] at ho2; obtain ⟨g2', c2', rfl, _, _, _⟩ := row_form ho2 (by omega); have H2 := hid (HW1.out.below hb2); have Hct2 := hid ((hb2.cell (World.block_lt_of_cell? _ _ Hct1.out)).trans Hct1.out); have q2 := hid (And.intro H2.out.mem.c0 (And.intro H2.out.mem.c1 Hct2.out)); have Hbu2 := hid (Hbu1.out.trans (hb2.mono Hbu1.out.size)); have Hw := hid (fun mI hmI => rw_write H2.out (S + 1 + x) hxf (f x) Hx256.out g2' 0 c2' (bytes_of_row ho2 Hx256.out) hlen1 (Nat.le_trans hwB Hbu2.out.size) mI hmI); clear ho2 hb2))
          | ((go_at_call 80; refine (place_any Hok.out x hxP).mono ?_; rintro e u1 ⟨rfl, hb1'⟩; have hb1 := undrew1 hb1'; have HW1 := hid (HW.out.below hb1); have Hct1 := hid ((hb1.cell (World.block_lt_of_cell? _ _ ct0)).trans ct0); have q1 := hid (And.intro HW1.out.mem.c0 (And.intro HW1.out.mem.c1 Hct1.out)); have Hbu1 := hid hb1; clear hb1 hb1')))
      clear c0 c1 ct0 q1 q2 q3 Hw Hok
      have HK : Hid (KRel w1 B m r F L vs us S G (usedOf gs) (fresh S P) ls f t (k + 1) u3) := by
        have h3 := HP3.out
        rw [List.append_assoc, ← Htk.out] at h3
        exact RWPost.trans Hnw.out (HO.out.comp (Out.of_below (P := rBlk m r F L vs us) Hbu2.out) (fun _ h => .inl h)) h3
      go_wp2
      go_roundw
      case rel => exact ⟨k + 1, by omega, by go_num, HK.out⟩
      case measure => simp [intOf]; omega
    · obtain rfl : k = t.length := by omega
      have g1 : ¬ (t.length : Int) < (t.length : Int) := by omega
      have z3 := frozen_of_row _ _ 3 _ _ HW.out.mem.obj
      have c3 := HW.out.mem.c3
      have hlen1 : (ls ++ homeWs S f (t.take t.length)).length ≤ 1000000 := by
        have := Htn.out
        rw [List.length_append]; unfold homeWs; rw [List.length_map, List.length_take]; have := Hlen.out; omega
      have HS : Hid (RW (wr.setCell ⟨m, 3, none⟩ (.int .i64 0)) B m r F L1 vs us1 S G 0 (fresh S P) (ls ++ homeWs S f (t.take t.length))) := HW.out.set3 0
      have hsz : (wr.setCell ⟨m, 3, none⟩ (.int .i64 0)).heap.size = wr.heap.size := by simp [World.setCell]
      have Hh := hid (rhead_any HS.out hG (by omega) (by rw [fresh_length]; omega) hlen1 (by rw [hsz]; omega))
      clear c0 c1 hsz
      go_wp2_with (fail)
      refine Hh.out.mono ?_
      rintro e w2 ⟨rfl, hP2⟩
      have HP2 := hid hP2
      clear hP2 Hh
      go_wp2
      go_ret
      refine ⟨rfl, ?_⟩
      have h3 := HP2.out
      rw [List.take_length, List.append_assoc] at h3
      have ho : Out (rBlk m r F L vs us) w (wr.setCell ⟨m, 3, none⟩ (.int .i64 0)) := ((Out.of_below Hb1.out).comp HO.out (fun _ h => .inl h)).comp (out_set wr m 3 _) (fun j hj => .inl (.inl hj))
      refine RWPost.trans (w1 := wr.setCell ⟨m, 3, none⟩ (.int .i64 0)) (fun j hj => ?_) ho h3
      rcases Hnw.out j hj with hh | hh
      · exact .inl hh
      · exact .inr (by omega)
/-- Checkpoint of a whole reference's log -/
theorem r_check {w : World} {B m S G : Nat} {gs : List (List Nat)} {P : Nat} {ls : List (Nat × List UInt8)} {R : Nat → Prop} (h : RQ w B m S G gs P ls R) (hG : G < 9223372036854775808) (hls : ls.length ≤ 900000) (hbase : B ≤ w.heap.size) :
    Calls Tryz.prog 74 #[.pointer (some ⟨m, 0, none⟩)] w fun e w' => e = .returned (.int .i64 0) ∧ ∃ R', RQ w' B m S G [] P (ls ++ cpWs S P G gs ls) R' ∧ (∀ j, R' j → R j ∨ w.heap.size ≤ j) ∧ Out R w w' := by
  have h0 := h
  obtain ⟨r, F, L, vs, us, h, hi, hR⟩ := h
  by_cases hu : usedOf gs = 0
  · have hgs := gs_nil hu
    subst hgs
    refine (rcheck_empty (by rw [usedOf_nil] at h; exact h)).mono ?_
    rintro e w' ⟨rfl, rfl⟩
    refine ⟨rfl, R, ?_, fun j hj => .inl hj, Out.refl _ _⟩
    unfold cpWs
    rw [if_pos hu, List.append_nil]
    exact h0
  · refine (rcheck_any h hi (by omega) hG hls hbase).mono ?_
    rintro e w' ⟨rfl, L', us', hW, hn, ho⟩
    have ec : cpWs S P G gs ls = homeWs S (pageNow (psOf (fresh S P) ls) S gs) (touchedOf P gs) ++ [(0, headB G 0)] := by
      unfold cpWs; rw [if_neg hu]; rfl
    refine ⟨rfl, _, ⟨r, F, L', vs, us', ?_, ?_, fun j hj => hj⟩, fun j hj => (hn j hj).imp (hR j) id, ho.imp fun j _ hj => hR j hj⟩
    · rw [ec]; exact hW
    · rw [ec, psOf_append]
      exact (hi.check (by omega)).1
end Go.Proofs.YthdcjepkehifoaaGreat
