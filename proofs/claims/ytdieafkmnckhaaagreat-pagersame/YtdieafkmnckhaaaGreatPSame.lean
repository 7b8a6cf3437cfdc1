/- YtdieafkmnckhaaaGreatPPair + YtdieafkmnckhaaaGreatPSame -/
import Derived.Test.YtdieafkmnckhaaaGreatPAborts
/- Two caches beside one another. -/
namespace Go.Proofs.YtdieafkmnckhaaaGreat
open Go.RowKit Go.Maps Go.Sort Go.Shelf
set_option linter.unusedVariables false
set_option maxRecDepth 20000
/-- two caches over logs that hold the same, with the same dirty pages -/
structure Sim (a b : PS) : Prop where
  S : a.S = b.S
  P : a.P = b.P
  G : a.G = b.G
  gs : a.gs = b.gs
  ls : a.ls = b.ls
  dl : a.dl = b.dl
section
variable {a b : PS}
theorem Sim.page (h : Sim a b) (q : Nat) : a.page q = b.page q := page_congr h.S h.P h.gs h.ls q
theorem Sim.now (h : Sim a b) (q : Nat) : a.now q = b.now q := by unfold PS.now; rw [h.dl, h.page]
theorem Sim.read (h : Sim a b) (q : Nat) : Sim (readS a q) (readS b q) := by
  obtain ⟨h1, h2, h3, h4, h5, h6, h7, h8⟩ := readS_same (s := a) q
  obtain ⟨g1, g2, g3, g4, g5, g6, g7, g8⟩ := readS_same (s := b) q
  exact ⟨by rw [h1, g1, h.S], by rw [h2, g2, h.P], by rw [h8, g8, h.G], by rw [h6, g6, h.gs], by rw [h7, g7, h.ls], by rw [h5, g5, h.dl]⟩
theorem Sim.write (h : Sim a b) (q : Nat) (y : List UInt8) : Sim (writeS a q y) (writeS b q y) := ⟨h.S, h.P, h.G, h.gs, h.ls, by show dIns q y a.dl = dIns q y b.dl; rw [h.dl]⟩
theorem Sim.abort (h : Sim a b) : Sim (abortS a) (abortS b) := ⟨h.S, h.P, h.G, h.gs, h.ls, rfl⟩
theorem Sim.ck (h : Sim a b) : Sim (ckS a) (ckS b) := by
  refine ⟨h.S, h.P, h.G, rfl, ?_, h.dl⟩
  show a.ls ++ cpWs a.S a.P a.G a.gs a.ls = b.ls ++ cpWs b.S b.P b.G b.gs b.ls
  rw [h.S, h.P, h.G, h.gs, h.ls]
theorem Sim.cm (h : Sim a b) : Sim (cmS a) (cmS b) := by
  refine ⟨h.S, h.P, ?_, ?_, ?_, rfl⟩
  · show a.G + 1 = b.G + 1; rw [h.G]
  · show a.gs ++ [a.dl.map (·.1)] = b.gs ++ [b.dl.map (·.1)]; rw [h.gs, h.dl]
  · show a.ls ++ commitWs (usedOf a.gs) a.G (a.dl.map (·.1)) (a.dl.map (·.2)) = b.ls ++ commitWs (usedOf b.gs) b.G (b.dl.map (·.1)) (b.dl.map (·.2))
    rw [h.ls, h.gs, h.G, h.dl]
theorem Sim.full (h : Sim a b) : Sim (fullS a) (fullS b) := ⟨h.ck.S, h.ck.P, h.ck.G, h.ck.gs, h.ck.ls, h.ck.dl⟩
theorem Sim.comOk (h : Sim a b) : comOk a ↔ comOk b := by unfold Go.Proofs.YtdieafkmnckhaaaGreat.comOk; rw [h.dl, h.S]
theorem Sim.fits (h : Sim a b) : fits a ↔ fits b := by unfold Go.Proofs.YtdieafkmnckhaaaGreat.fits; rw [h.gs, h.dl, h.S]
theorem Sim.commit (h : Sim a b) : Sim (commitS a) (commitS b) := by
  unfold commitS
  by_cases h0 : a.dl.length = 0
  · have h0b : b.dl.length = 0 := by rw [← h.dl]; exact h0
    rw [if_pos h0, if_pos h0b]
    exact ⟨h.S, h.P, h.G, h.gs, h.ls, h.dl⟩
  · have h0b : ¬ b.dl.length = 0 := by rw [← h.dl]; exact h0
    rw [if_neg h0, if_neg h0b]
    by_cases hf : Go.Proofs.YtdieafkmnckhaaaGreat.fits a
    · have hfb : Go.Proofs.YtdieafkmnckhaaaGreat.fits b := h.fits.1 hf
      rw [if_pos hf, if_pos hfb]
      exact ⟨h.cm.S, h.cm.P, h.cm.G, h.cm.gs, h.cm.ls, h.cm.dl⟩
    · have hfb : ¬ Go.Proofs.YtdieafkmnckhaaaGreat.fits b := fun x => hf (h.fits.2 x)
      rw [if_neg hf, if_neg hfb]
      exact ⟨h.ck.cm.S, h.ck.cm.P, h.ck.cm.G, h.ck.cm.gs, h.ck.cm.ls, h.ck.cm.dl⟩
theorem Sim.writeE (h : Sim a b) (x : Int) (n : Nat) : writeE a x n = writeE b x n := by unfold Go.Proofs.YtdieafkmnckhaaaGreat.writeE; rw [h.P, h.dl]
theorem Sim.bad (h : Sim a b) (x : Int) : badP a x ↔ badP b x := by unfold badP; rw [h.P]
end
/-- two caches in memory, apart, and blocks that are neither's -/
def Pair4 (w : World) (x y : Nat) (s1 s2 : PS) (F : Nat → Prop) : Prop := ∃ m1 m2, PgMem w x m1 s1 ∧ PgMem w y m2 s2 ∧ Ext s1 ∧ Ext s2 ∧ (∀ k, allB x m1 s1 k → ¬ allB y m2 s2 k) ∧ ∀ k, F k → k < w.heap.size ∧ ¬ allB x m1 s1 k ∧ ¬ allB y m2 s2 k
section
variable {w w' : World} {x y : Nat} {s1 s2 : PS} {F : Nat → Prop}
theorem Pair4.symm (h : Pair4 w x y s1 s2 F) : Pair4 w y x s2 s1 F := by
  obtain ⟨m1, m2, h1, h2, h3, h4, h5, h6⟩ := h
  exact ⟨m2, m1, h2, h1, h4, h3, fun k hk hx => h5 k hx hk, fun k hk => ⟨(h6 k hk).1, (h6 k hk).2.2, (h6 k hk).2.1⟩⟩
theorem Pair4.mono {F' : Nat → Prop} (h : Pair4 w x y s1 s2 F) (hF : ∀ k, F' k → F k) : Pair4 w x y s1 s2 F' := by
  obtain ⟨m1, m2, h1, h2, h3, h4, h5, h6⟩ := h
  exact ⟨m1, m2, h1, h2, h3, h4, h5, fun k hk => h6 k (hF k hk)⟩
theorem Pair4.below (h : Pair4 w x y s1 s2 F) (hb : Below w.heap.size w w') : Pair4 w' x y s1 s2 F := by
  obtain ⟨m1, m2, h1, h2, h3, h4, h5, h6⟩ := h
  exact ⟨m1, m2, h1.below hb, h2.below hb, h3, h4, h5, fun k hk => ⟨Nat.lt_of_lt_of_le (h6 k hk).1 hb.size, (h6 k hk).2⟩⟩
theorem Pair4.left (h : Pair4 w x y s1 s2 F) : ∃ m2, PgMem w y m2 s2 ∧ Ext s2 ∧ (∀ k, F k → k < w.heap.size ∧ ¬ allB y m2 s2 k) ∧ Cache w x s1 (fun k => F k ∨ allB y m2 s2 k) := by
  obtain ⟨m1, m2, h1, h2, h3, h4, h5, h6⟩ := h
  refine ⟨m2, h2, h4, fun k hk => ⟨(h6 k hk).1, (h6 k hk).2.2⟩, m1, h1, h3, fun k hk => ?_⟩
  rcases hk with hk | hk
  · exact ⟨(h6 k hk).1, (h6 k hk).2.1⟩
  · exact ⟨h2.lts k hk, fun hx => h5 k hx hk⟩
theorem Pair4.of {m2 : PM} {s1' : PS} {G : Nat → Prop} (hy : PgMem w y m2 s2) (he : Ext s2) (hF : ∀ k, F k → k < w.heap.size ∧ ¬ allB y m2 s2 k) (hC : Cache w' x s1' (fun k => G k ∨ allB y m2 s2 k)) (hk : Kept (fun k => F k ∨ allB y m2 s2 k) w w') (hG : ∀ k, G k → F k ∨ w.heap.size ≤ k) : Pair4 w' x y s1' s2 G := by
  obtain ⟨m1, h1, h2, h3⟩ := hC
  refine ⟨m1, m2, h1, hy.keep (fun k hk' => hk.get (.inr hk') (hy.lts k hk')), h2, he, fun k hx hy' => (h3 k (.inr hy')).2 hx, fun k hk' => ⟨(h3 k (.inl hk')).1, (h3 k (.inl hk')).2, fun ha => ?_⟩⟩
  rcases hG k hk' with h5 | h5
  · exact (hF k h5).2 ha
  · have := hy.lts k ha; omega
def ReadP (w : World) (x y : Nat) (s1 s2 : PS) (F : Nat → Prop) (z : Int) (e : Ending) (w' : World) : Prop :=
  (badP s1 z ∧ e = .returned (.tuple #[.slice none 0 0, .int .i64 2]) ∧ Pair4 w' x y s1 s2 F ∧ Below w.heap.size w w') ∨
  (¬ badP s1 z ∧ ∃ b c, e = .returned (.tuple #[.slice (some ⟨b, 0, none⟩) 256 c, .int .i64 0]) ∧ w'.ownsRow w.heap.size 5 1 (.slice (some ⟨b, 0, none⟩) 256 c) 256 (cellsOf (s1.now z.toNat)) ∧ Pair4 w' x y (readS s1 z.toNat) s2 (fun k => F k ∨ k = b) ∧ Kept F w w' ∧ w.heap.size ≤ b)
theorem read_p (h : Pair4 w x y s1 s2 F) (ht : s1.t ≤ 100000) (z : Int) (hz : -9223372036854775808 ≤ z ∧ z ≤ 9223372036854775807) :
    Calls Tryz.prog 32 #[.pointer (some ⟨x, 0, none⟩), .int .i64 z] w (ReadP w x y s1 s2 F z) := by
  obtain ⟨m2, hy, he, hF, hC⟩ := h.left
  refine (read_c hC ht z hz).mono ?_
  rintro _ w' (⟨hb, rfl, _, hbl⟩ | ⟨hb, b, c, rfl, r, C, o, hlb⟩)
  · exact .inl ⟨hb, rfl, h.below hbl, hbl⟩
  · refine .inr ⟨hb, b, c, rfl, r, Pair4.of hy he hF (C.mono (fun k hk => ?_)) o (fun k hk => ?_), o.mono (fun k hk => .inl hk), hlb⟩
    · rcases hk with (hk | hk) | hk
      · exact .inl (.inl hk)
      · exact .inr hk
      · exact .inl (.inr hk)
    · rcases hk with hk | hk
      · exact .inl hk
      · exact .inr (by rw [hk]; exact hlb)
theorem write_p (h : Pair4 w x y s1 s2 F) (ht : s1.t ≤ 100000) (z : Int) (hz : -9223372036854775808 ≤ z ∧ z ≤ 9223372036854775807) (yy : List UInt8) (a : Option Addr) (c : Nat) (hy : Bytes w a yy) (n : Nat) (hn : n = yy.length) :
    Calls Tryz.prog 35 #[.pointer (some ⟨x, 0, none⟩), .int .i64 z, .slice a n c] w fun r w' => ∃ (e : Int) (s' : PS), r = .returned (.int .i64 e) ∧ wrOr s1 s' z yy e ∧ Pair4 w' x y s' s2 F ∧ Kept F w w' := by
  obtain ⟨m2, hy2, he, hF, hC⟩ := h.left
  refine (write_d hC ht z hz yy a c hy n hn).mono ?_
  rintro _ w' ⟨e, s', rfl, hor, C, o⟩
  exact ⟨e, s', rfl, hor, Pair4.of hy2 he hF C o (fun k hk => .inl hk), o.mono (fun k hk => .inl hk)⟩
/-- what a commit leaves -/
def comSt (s s' : PS) : Prop := (comOk s ∧ s' = commitS s) ∨ (¬ comOk s ∧ s' = fullS s)
theorem com_p (h : Pair4 w x y s1 s2 F) (ht : s1.t ≤ 7000) (hP : s1.P ≤ 100) :
    Calls Tryz.prog 37 #[.pointer (some ⟨x, 0, none⟩)] w fun r w' => ∃ (e : Int) (s' : PS), r = .returned (.int .i64 e) ∧ comSt s1 s' ∧ Pair4 w' x y s' s2 F ∧ Kept F w w' := by
  obtain ⟨m2, hy2, he, hF, hC⟩ := h.left
  refine (com_c hC ht hP).mono ?_
  rintro _ w' (⟨hc, rfl, C, o⟩ | ⟨hc, rfl, C, o⟩)
  · exact ⟨_, _, rfl, .inl ⟨hc, rfl⟩, Pair4.of hy2 he hF C o (fun k hk => .inl hk), o.mono (fun k hk => .inl hk)⟩
  · exact ⟨_, _, rfl, .inr ⟨hc, rfl⟩, Pair4.of hy2 he hF C o (fun k hk => .inl hk), o.mono (fun k hk => .inl hk)⟩
theorem abort_p (h : Pair4 w x y s1 s2 F) :
    Calls Tryz.prog 38 #[.pointer (some ⟨x, 0, none⟩)] w fun r w' => ∃ e : Int, r = .returned (.int .i64 e) ∧ Pair4 w' x y (abortS s1) s2 F ∧ Kept F w w' := by
  obtain ⟨m2, hy2, he, hF, hC⟩ := h.left
  refine (abort_c hC).mono ?_
  rintro _ w' ⟨rfl, C, o⟩
  exact ⟨_, rfl, Pair4.of hy2 he hF C o (fun k hk => .inl hk), o.mono (fun k hk => .inl hk)⟩
theorem cached_p (h : Pair4 w x y s1 s2 F) :
    Calls Tryz.prog 16 #[.pointer (some ⟨x, 0, none⟩)] w fun r w' => ∃ a n c, r = .returned (.slice a n c) ∧ n ≤ s1.mo ∧ Below w.heap.size w w' := by
  obtain ⟨m1, m2, h1, h2, h3, h4, h5, h6⟩ := h
  refine (cached_any h1).mono ?_
  rintro _ w' ⟨v, rfl, r, b⟩
  obtain ⟨a, c, rfl⟩ := own_slc r
  exact ⟨a, _, c, rfl, h3.full, b⟩
/-- the image of its log's disk -/
theorem image_p (h : Pair4 w x y s1 s2 F) (ht : s1.t ≤ 7000) : Calls Tryz.prog 25 #[.pointer (some ⟨x, 0, none⟩)] w fun r w' => w' = w ∧ ∃ l0, r = .returned (.pointer (some ⟨l0, 0, none⟩)) ∧
    Calls Tryz.prog 26 #[.pointer (some ⟨l0, 0, none⟩)] w fun r1 w1 => Below w.heap.size w w1 ∧ ∃ d0, r1 = .returned (.pointer (some ⟨d0, 0, none⟩)) ∧
      Calls Tryz.prog 27 #[.pointer (some ⟨d0, 0, none⟩)] w1 fun r2 w2 => Below w1.heap.size w1 w2 ∧ ∃ b vs, r2 = .returned (.slice (some ⟨b, 0, none⟩) (s1.S + 1 + s1.P) (s1.S + 1 + s1.P)) ∧ ImgAt w2 w1.heap.size (.slice (some ⟨b, 0, none⟩) (s1.S + 1 + s1.P) (s1.S + 1 + s1.P)) vs (psOf (fresh s1.S s1.P) s1.ls) := by
  obtain ⟨m1, m2, h1, h2, h3, h4, h5, h6⟩ := h
  refine (pgLog_any h1).mono ?_
  rintro _ w' ⟨rfl, rfl⟩
  refine ⟨rfl, _, rfl, ?_⟩
  have hlen : (psOf (fresh s1.S s1.P) s1.ls).length = s1.S + 1 + s1.P := h1.log.inv.len
  have hmost := h1.log.inv.most
  have hls := h1.log.lsl
  refine (logDisk_ok h1.log.mem (by omega) hmost (by rw [chOf_length]; omega)).mono ?_
  rintro _ w1 ⟨d', g', cap', v', rfl, hD, hb⟩
  refine ⟨hb, _, rfl, ?_⟩
  refine (image_ok hD (by omega) hmost).mono ?_
  rintro _ w2 ⟨b, vs, rfl, hI, hb2⟩
  rw [hlen] at hI ⊢
  exact ⟨hb2, b, vs, rfl, hI⟩
end
end Go.Proofs.YtdieafkmnckhaaaGreat

/- PagerSame's walk. -/
namespace Go.Proofs.YtdieafkmnckhaaaGreat
open Go.RowKit Go.Maps Go.Sort Go.Shelf
set_option linter.unusedVariables false
set_option maxRecDepth 20000
noncomputable def codeSm (n : Nat) : Code := ((Tryz.f4.body.bind (regionAt n)).getD .skip)
set_option maxHeartbeats 1000000 in
theorem sm_region15 {V0 W5 : World} {p p2 b o N cap i : Nat} {kd : Int} {qa : Option Addr} {qq : List Int} {qc : Nat} {y : UInt8} {sh : Bool} {s s2 : PS} {F : Nat → Prop} {A : Act} (sz : A.tmps.size = 157) (e0 : A.eval (.tmp 2) = .slice (some ⟨b, o, none⟩) N cap) (e3 : A.eval (.tmp 7) = .pointer (some ⟨p, 0, none⟩)) (e7 : A.eval (.tmp 13) = .int .i64 (i : Int)) (hiN : i < N) (hV0 : V0 = W5.drew) (hs0 : DdCells b (o + i * 4) kd qa qq qc y sh V0) (hD : DdOk V0 ⟨kd, qa, qq, qc, y, sh⟩) (hC : Pair4 V0 p p2 s s2 F) (ht : s.t ≤ 100000) (hq : -9223372036854775808 ≤ firstOf qq ∧ firstOf qq ≤ 9223372036854775807) :
    (codeSm 15).wp Tryz.prog (fun x a V => x = .normal ∧ ∃ g gc e s', a = ((((((((((((A.put (some 94) (.pointer (some ⟨p, 0, none⟩))).put (some 95) (.slice (some ⟨b, o, none⟩) N cap)).put (some 96) (.int .i64 (i : Int))).put (some 97) (.pointer (some ⟨b, o + i * 4, none⟩))).put (some 98) (.agg #[.int .i64 kd, .slice qa qq.length qc, .int .u8 (y.toNat : Int), .bool sh])).put (some 100) (.slice (some ⟨b, o, none⟩) N cap)).put (some 101) (.int .i64 (i : Int))).put (some 102) (.pointer (some ⟨b, o + i * 4, none⟩))).put (some 103) (.agg #[.int .i64 kd, .slice qa qq.length qc, .int .u8 (y.toNat : Int), .bool sh])).put (some 99) (.int .i64 (firstOf qq))).put (some 104) (.slice (some ⟨g, 0, none⟩) (dLen sh) gc)).put (some 105) (.int .i64 e)) ∧ wrOr s s' (firstOf qq) (List.replicate (dLen sh) y) e ∧ Pair4 V p p2 s' s2 F ∧ Kept F V0 V) A W5 := by
  have hm : Tryz.prog.follows .mixedOrders = true := by kernel_rfl
  unfold codeSm
  conv => arg 2; whnf
  refine wp_region_G (fun i => i == 11) (DdCells b (o + i * 4) kd qa qq qc y sh) hm ?_
  rw [show ({ W5 with drawn := W5.drawn + 1 } : World) = V0 from hV0.symm]
  refine wpAnyG_take (i := 0) (v := .pointer (some ⟨p, 0, none⟩)) rfl (by kernel_rfl) (by kernel_rfl) (by kernel_rfl) (fun _ _ _ h => nomatch h.1) (yg_mv (by simp [Region.wanted]) (.tmp 7) rfl e3) hs0 ?_
  show wpAnyG _ _ _ _ _ _ _ _ (A.put (some 94) (.pointer (some ⟨p, 0, none⟩))) _
  refine wpAnyG_take (i := 1) (v := .slice (some ⟨b, o, none⟩) N cap) rfl (by kernel_rfl) (by kernel_rfl) (by kernel_rfl) (fun _ _ _ h => nomatch h.1) (yg_mv (by simp [Region.wanted]) (.tmp 2) rfl ((ev_ne _ _ (by decide)).trans e0)) hs0 ?_
  show wpAnyG _ _ _ _ _ _ _ _ ((A.put (some 94) (.pointer (some ⟨p, 0, none⟩))).put (some 95) (.slice (some ⟨b, o, none⟩) N cap)) _
  refine wpAnyG_take (i := 2) (v := .int .i64 (i : Int)) rfl (by kernel_rfl) (by kernel_rfl) (by kernel_rfl) (fun _ _ _ h => nomatch h.1) (yg_mv (by simp [Region.wanted]) (.tmp 13) rfl ((ev_ne _ _ (by decide)).trans ((ev_ne _ _ (by decide)).trans e7))) hs0 ?_
  show wpAnyG _ _ _ _ _ _ _ _ (((A.put (some 94) (.pointer (some ⟨p, 0, none⟩))).put (some 95) (.slice (some ⟨b, o, none⟩) N cap)).put (some 96) (.int .i64 (i : Int))) _
  refine wpAnyG_take (i := 3) (v := .pointer (some ⟨b, o + i * 4, none⟩)) rfl (by kernel_rfl) (by kernel_rfl) (by kernel_rfl) (fun _ _ _ h => nomatch h.1) (y_idxD (by simp [Region.wanted]) (.tmp 95) (.tmp 96) rfl ((ev_ne _ _ (by decide)).trans (ev_eq _ _ (by simp [put_sz, sz]))) (ev_eq _ _ (by simp [put_sz, sz])) hiN) hs0 ?_
  show wpAnyG _ _ _ _ _ _ _ _ ((((A.put (some 94) (.pointer (some ⟨p, 0, none⟩))).put (some 95) (.slice (some ⟨b, o, none⟩) N cap)).put (some 96) (.int .i64 (i : Int))).put (some 97) (.pointer (some ⟨b, o + i * 4, none⟩))) _
  refine wpAnyG_take (i := 4) (v := .agg #[.int .i64 kd, .slice qa qq.length qc, .int .u8 (y.toNat : Int), .bool sh]) rfl (by kernel_rfl) (by kernel_rfl) (by kernel_rfl) (fun _ _ _ h => nomatch h.1) (y_ldD (by simp [Region.wanted]) (.tmp 97) rfl (ev_eq _ _ (by simp [put_sz, sz]))) hs0 ?_
  show wpAnyG _ _ _ _ _ _ _ _ (((((A.put (some 94) (.pointer (some ⟨p, 0, none⟩))).put (some 95) (.slice (some ⟨b, o, none⟩) N cap)).put (some 96) (.int .i64 (i : Int))).put (some 97) (.pointer (some ⟨b, o + i * 4, none⟩))).put (some 98) (.agg #[.int .i64 kd, .slice qa qq.length qc, .int .u8 (y.toNat : Int), .bool sh])) _
  refine wpAnyG_take (i := 6) (v := .slice (some ⟨b, o, none⟩) N cap) rfl (by kernel_rfl) (by kernel_rfl) (by kernel_rfl) (fun _ _ _ h => nomatch h.1) (yg_mv (by simp [Region.wanted]) (.tmp 2) rfl ((ev_ne _ _ (by decide)).trans ((ev_ne _ _ (by decide)).trans ((ev_ne _ _ (by decide)).trans ((ev_ne _ _ (by decide)).trans ((ev_ne _ _ (by decide)).trans e0)))))) hs0 ?_
  show wpAnyG _ _ _ _ _ _ _ _ ((((((A.put (some 94) (.pointer (some ⟨p, 0, none⟩))).put (some 95) (.slice (some ⟨b, o, none⟩) N cap)).put (some 96) (.int .i64 (i : Int))).put (some 97) (.pointer (some ⟨b, o + i * 4, none⟩))).put (some 98) (.agg #[.int .i64 kd, .slice qa qq.length qc, .int .u8 (y.toNat : Int), .bool sh])).put (some 100) (.slice (some ⟨b, o, none⟩) N cap)) _
  refine wpAnyG_take (i := 7) (v := .int .i64 (i : Int)) rfl (by kernel_rfl) (by kernel_rfl) (by kernel_rfl) (fun _ _ _ h => nomatch h.1) (yg_mv (by simp [Region.wanted]) (.tmp 13) rfl ((ev_ne _ _ (by decide)).trans ((ev_ne _ _ (by decide)).trans ((ev_ne _ _ (by decide)).trans ((ev_ne _ _ (by decide)).trans ((ev_ne _ _ (by decide)).trans ((ev_ne _ _ (by decide)).trans e7))))))) hs0 ?_
  show wpAnyG _ _ _ _ _ _ _ _ (((((((A.put (some 94) (.pointer (some ⟨p, 0, none⟩))).put (some 95) (.slice (some ⟨b, o, none⟩) N cap)).put (some 96) (.int .i64 (i : Int))).put (some 97) (.pointer (some ⟨b, o + i * 4, none⟩))).put (some 98) (.agg #[.int .i64 kd, .slice qa qq.length qc, .int .u8 (y.toNat : Int), .bool sh])).put (some 100) (.slice (some ⟨b, o, none⟩) N cap)).put (some 101) (.int .i64 (i : Int))) _
  refine wpAnyG_take (i := 8) (v := .pointer (some ⟨b, o + i * 4, none⟩)) rfl (by kernel_rfl) (by kernel_rfl) (by kernel_rfl) (fun _ _ _ h => nomatch h.1) (y_idxD (by simp [Region.wanted]) (.tmp 100) (.tmp 101) rfl ((ev_ne _ _ (by decide)).trans (ev_eq _ _ (by simp [put_sz, sz]))) (ev_eq _ _ (by simp [put_sz, sz])) hiN) hs0 ?_
  show wpAnyG _ _ _ _ _ _ _ _ ((((((((A.put (some 94) (.pointer (some ⟨p, 0, none⟩))).put (some 95) (.slice (some ⟨b, o, none⟩) N cap)).put (some 96) (.int .i64 (i : Int))).put (some 97) (.pointer (some ⟨b, o + i * 4, none⟩))).put (some 98) (.agg #[.int .i64 kd, .slice qa qq.length qc, .int .u8 (y.toNat : Int), .bool sh])).put (some 100) (.slice (some ⟨b, o, none⟩) N cap)).put (some 101) (.int .i64 (i : Int))).put (some 102) (.pointer (some ⟨b, o + i * 4, none⟩))) _
  refine wpAnyG_take (i := 9) (v := .agg #[.int .i64 kd, .slice qa qq.length qc, .int .u8 (y.toNat : Int), .bool sh]) rfl (by kernel_rfl) (by kernel_rfl) (by kernel_rfl) (fun _ _ _ h => nomatch h.1) (y_ldD (by simp [Region.wanted]) (.tmp 102) rfl (ev_eq _ _ (by simp [put_sz, sz]))) hs0 ?_
  show wpAnyG _ _ _ _ _ _ _ _ (((((((((A.put (some 94) (.pointer (some ⟨p, 0, none⟩))).put (some 95) (.slice (some ⟨b, o, none⟩) N cap)).put (some 96) (.int .i64 (i : Int))).put (some 97) (.pointer (some ⟨b, o + i * 4, none⟩))).put (some 98) (.agg #[.int .i64 kd, .slice qa qq.length qc, .int .u8 (y.toNat : Int), .bool sh])).put (some 100) (.slice (some ⟨b, o, none⟩) N cap)).put (some 101) (.int .i64 (i : Int))).put (some 102) (.pointer (some ⟨b, o + i * 4, none⟩))).put (some 103) (.agg #[.int .i64 kd, .slice qa qq.length qc, .int .u8 (y.toNat : Int), .bool sh])) _
  obtain ⟨Az1, hAz1⟩ : ∃ Az1, Az1 = (((((((((A.put (some 94) (.pointer (some ⟨p, 0, none⟩))).put (some 95) (.slice (some ⟨b, o, none⟩) N cap)).put (some 96) (.int .i64 (i : Int))).put (some 97) (.pointer (some ⟨b, o + i * 4, none⟩))).put (some 98) (.agg #[.int .i64 kd, .slice qa qq.length qc, .int .u8 (y.toNat : Int), .bool sh])).put (some 100) (.slice (some ⟨b, o, none⟩) N cap)).put (some 101) (.int .i64 (i : Int))).put (some 102) (.pointer (some ⟨b, o + i * 4, none⟩))).put (some 103) (.agg #[.int .i64 kd, .slice qa qq.length qc, .int .u8 (y.toNat : Int), .bool sh])) := ⟨_, rfl⟩
  have szAz1 : Az1.tmps.size = 157 := by rw [hAz1]; simp [put_sz, sz]
  have eAz194 : Az1.eval (.tmp 94) = .pointer (some ⟨p, 0, none⟩) := by rw [hAz1]; exact ((ev_ne _ _ (by decide)).trans ((ev_ne _ _ (by decide)).trans ((ev_ne _ _ (by decide)).trans ((ev_ne _ _ (by decide)).trans ((ev_ne _ _ (by decide)).trans ((ev_ne _ _ (by decide)).trans ((ev_ne _ _ (by decide)).trans ((ev_ne _ _ (by decide)).trans (ev_eq _ _ (by simp [sz]))))))))))
  have eAz198 : Az1.eval (.tmp 98) = .agg #[.int .i64 kd, .slice qa qq.length qc, .int .u8 (y.toNat : Int), .bool sh] := by rw [hAz1]; exact ((ev_ne _ _ (by decide)).trans ((ev_ne _ _ (by decide)).trans ((ev_ne _ _ (by decide)).trans ((ev_ne _ _ (by decide)).trans (ev_eq _ _ (by simp [put_sz, sz]))))))
  have eAz1103 : Az1.eval (.tmp 103) = .agg #[.int .i64 kd, .slice qa qq.length qc, .int .u8 (y.toNat : Int), .bool sh] := by rw [hAz1]; exact (ev_eq _ _ (by simp [put_sz, sz]))
  rw [← hAz1]
  refine wpAnyG_all (rs := [5]) (by kernel_rfl) (by simp) fun i1 hm1 => ?_
  obtain rfl : i1 = 5 := by simpa using hm1
  refine wpOp_own rfl rfl fun K1 hK1 => ?_
  refine wp_calls1 33 hf_first (.tmp 98) _ rfl (.agg #[.int .i64 kd, .slice qa qq.length qc, .int .u8 (y.toNat : Int), .bool sh]) eAz198 ?_
  refine (first4_any kd qa qq qc y sh V0 hD.ints hD.len).mono ?_
  rintro _ V1 ⟨rfl, b1⟩
  have hs1 := hs0.below b1
  have C1 := hC.below b1
  refine ⟨_, rfl, hK1 _ _ ⟨.inr hs1, ?_⟩⟩
  clear hK1 K1 hm1
  show wpAnyG _ _ _ _ _ _ _ _ (Az1.put (some 99) (.int .i64 (firstOf qq))) _
  refine wpAnyG_all (rs := [10]) (by kernel_rfl) (by simp) fun i2 hm2 => ?_
  obtain rfl : i2 = 10 := by simpa using hm2
  refine wpOp_own rfl rfl fun K2 hK2 => ?_
  refine wp_calls1 36 hf_bytes4 (.tmp 103) _ rfl (.agg #[.int .i64 kd, .slice qa qq.length qc, .int .u8 (y.toNat : Int), .bool sh]) ((ev_ne _ _ (by decide)).trans eAz1103) ?_
  refine (bytes4_any kd (.slice qa qq.length qc) y sh V1 rfl).mono ?_
  rintro _ V2 ⟨g, gc, rfl, r2, hg2, b2⟩
  have hs2 := hs1.below b2
  have C2 := C1.below b2
  refine ⟨_, rfl, hK2 _ _ ⟨.inr hs2, ?_⟩⟩
  clear hK2 K2 hm2
  show wpAnyG _ _ _ _ _ _ _ _ ((Az1.put (some 99) (.int .i64 (firstOf qq))).put (some 104) (.slice (some ⟨g, 0, none⟩) (dLen sh) gc)) _
  refine wpAnyG_all (rs := [11]) (by kernel_rfl) (by simp) fun i3 hm3 => ?_
  obtain rfl : i3 = 11 := by simpa using hm3
  refine wpOp_own rfl rfl fun K3 hK3 => ?_
  refine wp_calls3 35 hf_pgw (.tmp 94) (.tmp 99) (.tmp 104) _ rfl (.pointer (some ⟨p, 0, none⟩)) (.int .i64 (firstOf qq)) (.slice (some ⟨g, 0, none⟩) (dLen sh) gc) ((ev_ne _ _ (by decide)).trans ((ev_ne _ _ (by decide)).trans eAz194)) ((ev_ne _ _ (by decide)).trans (ev_eq _ _ (by simp [szAz1]))) (ev_eq _ _ (by simp [put_sz, szAz1])) ?_
  refine (write_p C2 ht (firstOf qq) hq (List.replicate (dLen sh) y) (some ⟨g, 0, none⟩) gc (bytes_of_row r2 List.length_replicate) (dLen sh) List.length_replicate.symm).mono ?_
  rintro _ V3 ⟨e, s', rfl, hor, C3, o3⟩
  have oF := ((Kept.of_below b1).to (Kept.of_below b2)).to o3
  refine ⟨_, rfl, hK3 _ _ ⟨.inl rfl, ?_⟩⟩
  clear hK3 K3 hm3
  show wpAnyG _ _ _ _ _ _ _ _ (((Az1.put (some 99) (.int .i64 (firstOf qq))).put (some 104) (.slice (some ⟨g, 0, none⟩) (dLen sh) gc)).put (some 105) (.int .i64 e)) _
  refine wpAnyG_done (by kernel_rfl) ⟨rfl, g, gc, e, s', ?_, hor, C3, oF⟩ _
  show (((Az1.put (some 99) (.int .i64 (firstOf qq))).put (some 104) (.slice (some ⟨g, 0, none⟩) (dLen sh) gc)).put (some 105) (.int .i64 e)) = _
  rw [hAz1]
set_option maxHeartbeats 1000000 in
theorem sm_region16 {V0 W5 : World} {p p2 b o N cap i : Nat} {kd : Int} {qa : Option Addr} {qq : List Int} {qc : Nat} {y : UInt8} {sh : Bool} {s s2 : PS} {F : Nat → Prop} {A : Act} (sz : A.tmps.size = 157) (e0 : A.eval (.tmp 2) = .slice (some ⟨b, o, none⟩) N cap) (e3 : A.eval (.tmp 10) = .pointer (some ⟨p, 0, none⟩)) (e7 : A.eval (.tmp 13) = .int .i64 (i : Int)) (hiN : i < N) (hV0 : V0 = W5.drew) (hs0 : DdCells b (o + i * 4) kd qa qq qc y sh V0) (hD : DdOk V0 ⟨kd, qa, qq, qc, y, sh⟩) (hC : Pair4 V0 p p2 s s2 F) (ht : s.t ≤ 100000) (hq : -9223372036854775808 ≤ firstOf qq ∧ firstOf qq ≤ 9223372036854775807) :
    (codeSm 16).wp Tryz.prog (fun x a V => x = .normal ∧ ∃ g gc e s', a = ((((((((((((A.put (some 106) (.pointer (some ⟨p, 0, none⟩))).put (some 107) (.slice (some ⟨b, o, none⟩) N cap)).put (some 108) (.int .i64 (i : Int))).put (some 109) (.pointer (some ⟨b, o + i * 4, none⟩))).put (some 110) (.agg #[.int .i64 kd, .slice qa qq.length qc, .int .u8 (y.toNat : Int), .bool sh])).put (some 112) (.slice (some ⟨b, o, none⟩) N cap)).put (some 113) (.int .i64 (i : Int))).put (some 114) (.pointer (some ⟨b, o + i * 4, none⟩))).put (some 115) (.agg #[.int .i64 kd, .slice qa qq.length qc, .int .u8 (y.toNat : Int), .bool sh])).put (some 111) (.int .i64 (firstOf qq))).put (some 116) (.slice (some ⟨g, 0, none⟩) (dLen sh) gc)).put (some 117) (.int .i64 e)) ∧ wrOr s s' (firstOf qq) (List.replicate (dLen sh) y) e ∧ Pair4 V p p2 s' s2 F ∧ Kept F V0 V) A W5 := by
  have hm : Tryz.prog.follows .mixedOrders = true := by kernel_rfl
  unfold codeSm
  conv => arg 2; whnf
  refine wp_region_G (fun i => i == 11) (DdCells b (o + i * 4) kd qa qq qc y sh) hm ?_
  rw [show ({ W5 with drawn := W5.drawn + 1 } : World) = V0 from hV0.symm]
  refine wpAnyG_take (i := 0) (v := .pointer (some ⟨p, 0, none⟩)) rfl (by kernel_rfl) (by kernel_rfl) (by kernel_rfl) (fun _ _ _ h => nomatch h.1) (yg_mv (by simp [Region.wanted]) (.tmp 10) rfl e3) hs0 ?_
  show wpAnyG _ _ _ _ _ _ _ _ (A.put (some 106) (.pointer (some ⟨p, 0, none⟩))) _
  refine wpAnyG_take (i := 1) (v := .slice (some ⟨b, o, none⟩) N cap) rfl (by kernel_rfl) (by kernel_rfl) (by kernel_rfl) (fun _ _ _ h => nomatch h.1) (yg_mv (by simp [Region.wanted]) (.tmp 2) rfl ((ev_ne _ _ (by decide)).trans e0)) hs0 ?_
  show wpAnyG _ _ _ _ _ _ _ _ ((A.put (some 106) (.pointer (some ⟨p, 0, none⟩))).put (some 107) (.slice (some ⟨b, o, none⟩) N cap)) _
  refine wpAnyG_take (i := 2) (v := .int .i64 (i : Int)) rfl (by kernel_rfl) (by kernel_rfl) (by kernel_rfl) (fun _ _ _ h => nomatch h.1) (yg_mv (by simp [Region.wanted]) (.tmp 13) rfl ((ev_ne _ _ (by decide)).trans ((ev_ne _ _ (by decide)).trans e7))) hs0 ?_
  show wpAnyG _ _ _ _ _ _ _ _ (((A.put (some 106) (.pointer (some ⟨p, 0, none⟩))).put (some 107) (.slice (some ⟨b, o, none⟩) N cap)).put (some 108) (.int .i64 (i : Int))) _
  refine wpAnyG_take (i := 3) (v := .pointer (some ⟨b, o + i * 4, none⟩)) rfl (by kernel_rfl) (by kernel_rfl) (by kernel_rfl) (fun _ _ _ h => nomatch h.1) (y_idxD (by simp [Region.wanted]) (.tmp 107) (.tmp 108) rfl ((ev_ne _ _ (by decide)).trans (ev_eq _ _ (by simp [put_sz, sz]))) (ev_eq _ _ (by simp [put_sz, sz])) hiN) hs0 ?_
  show wpAnyG _ _ _ _ _ _ _ _ ((((A.put (some 106) (.pointer (some ⟨p, 0, none⟩))).put (some 107) (.slice (some ⟨b, o, none⟩) N cap)).put (some 108) (.int .i64 (i : Int))).put (some 109) (.pointer (some ⟨b, o + i * 4, none⟩))) _
  refine wpAnyG_take (i := 4) (v := .agg #[.int .i64 kd, .slice qa qq.length qc, .int .u8 (y.toNat : Int), .bool sh]) rfl (by kernel_rfl) (by kernel_rfl) (by kernel_rfl) (fun _ _ _ h => nomatch h.1) (y_ldD (by simp [Region.wanted]) (.tmp 109) rfl (ev_eq _ _ (by simp [put_sz, sz]))) hs0 ?_
  show wpAnyG _ _ _ _ _ _ _ _ (((((A.put (some 106) (.pointer (some ⟨p, 0, none⟩))).put (some 107) (.slice (some ⟨b, o, none⟩) N cap)).put (some 108) (.int .i64 (i : Int))).put (some 109) (.pointer (some ⟨b, o + i * 4, none⟩))).put (some 110) (.agg #[.int .i64 kd, .slice qa qq.length qc, .int .u8 (y.toNat : Int), .bool sh])) _
  refine wpAnyG_take (i := 6) (v := .slice (some ⟨b, o, none⟩) N cap) rfl (by kernel_rfl) (by kernel_rfl) (by kernel_rfl) (fun _ _ _ h => nomatch h.1) (yg_mv (by simp [Region.wanted]) (.tmp 2) rfl ((ev_ne _ _ (by decide)).trans ((ev_ne _ _ (by decide)).trans ((ev_ne _ _ (by decide)).trans ((ev_ne _ _ (by decide)).trans ((ev_ne _ _ (by decide)).trans e0)))))) hs0 ?_
  show wpAnyG _ _ _ _ _ _ _ _ ((((((A.put (some 106) (.pointer (some ⟨p, 0, none⟩))).put (some 107) (.slice (some ⟨b, o, none⟩) N cap)).put (some 108) (.int .i64 (i : Int))).put (some 109) (.pointer (some ⟨b, o + i * 4, none⟩))).put (some 110) (.agg #[.int .i64 kd, .slice qa qq.length qc, .int .u8 (y.toNat : Int), .bool sh])).put (some 112) (.slice (some ⟨b, o, none⟩) N cap)) _
  refine wpAnyG_take (i := 7) (v := .int .i64 (i : Int)) rfl (by kernel_rfl) (by kernel_rfl) (by kernel_rfl) (fun _ _ _ h => nomatch h.1) (yg_mv (by simp [Region.wanted]) (.tmp 13) rfl ((ev_ne _ _ (by decide)).trans ((ev_ne _ _ (by decide)).trans ((ev_ne _ _ (by decide)).trans ((ev_ne _ _ (by decide)).trans ((ev_ne _ _ (by decide)).trans ((ev_ne _ _ (by decide)).trans e7))))))) hs0 ?_
  show wpAnyG _ _ _ _ _ _ _ _ (((((((A.put (some 106) (.pointer (some ⟨p, 0, none⟩))).put (some 107) (.slice (some ⟨b, o, none⟩) N cap)).put (some 108) (.int .i64 (i : Int))).put (some 109) (.pointer (some ⟨b, o + i * 4, none⟩))).put (some 110) (.agg #[.int .i64 kd, .slice qa qq.length qc, .int .u8 (y.toNat : Int), .bool sh])).put (some 112) (.slice (some ⟨b, o, none⟩) N cap)).put (some 113) (.int .i64 (i : Int))) _
  refine wpAnyG_take (i := 8) (v := .pointer (some ⟨b, o + i * 4, none⟩)) rfl (by kernel_rfl) (by kernel_rfl) (by kernel_rfl) (fun _ _ _ h => nomatch h.1) (y_idxD (by simp [Region.wanted]) (.tmp 112) (.tmp 113) rfl ((ev_ne _ _ (by decide)).trans (ev_eq _ _ (by simp [put_sz, sz]))) (ev_eq _ _ (by simp [put_sz, sz])) hiN) hs0 ?_
  show wpAnyG _ _ _ _ _ _ _ _ ((((((((A.put (some 106) (.pointer (some ⟨p, 0, none⟩))).put (some 107) (.slice (some ⟨b, o, none⟩) N cap)).put (some 108) (.int .i64 (i : Int))).put (some 109) (.pointer (some ⟨b, o + i * 4, none⟩))).put (some 110) (.agg #[.int .i64 kd, .slice qa qq.length qc, .int .u8 (y.toNat : Int), .bool sh])).put (some 112) (.slice (some ⟨b, o, none⟩) N cap)).put (some 113) (.int .i64 (i : Int))).put (some 114) (.pointer (some ⟨b, o + i * 4, none⟩))) _
  refine wpAnyG_take (i := 9) (v := .agg #[.int .i64 kd, .slice qa qq.length qc, .int .u8 (y.toNat : Int), .bool sh]) rfl (by kernel_rfl) (by kernel_rfl) (by kernel_rfl) (fun _ _ _ h => nomatch h.1) (y_ldD (by simp [Region.wanted]) (.tmp 114) rfl (ev_eq _ _ (by simp [put_sz, sz]))) hs0 ?_
  show wpAnyG _ _ _ _ _ _ _ _ (((((((((A.put (some 106) (.pointer (some ⟨p, 0, none⟩))).put (some 107) (.slice (some ⟨b, o, none⟩) N cap)).put (some 108) (.int .i64 (i : Int))).put (some 109) (.pointer (some ⟨b, o + i * 4, none⟩))).put (some 110) (.agg #[.int .i64 kd, .slice qa qq.length qc, .int .u8 (y.toNat : Int), .bool sh])).put (some 112) (.slice (some ⟨b, o, none⟩) N cap)).put (some 113) (.int .i64 (i : Int))).put (some 114) (.pointer (some ⟨b, o + i * 4, none⟩))).put (some 115) (.agg #[.int .i64 kd, .slice qa qq.length qc, .int .u8 (y.toNat : Int), .bool sh])) _
  obtain ⟨Az1, hAz1⟩ : ∃ Az1, Az1 = (((((((((A.put (some 106) (.pointer (some ⟨p, 0, none⟩))).put (some 107) (.slice (some ⟨b, o, none⟩) N cap)).put (some 108) (.int .i64 (i : Int))).put (some 109) (.pointer (some ⟨b, o + i * 4, none⟩))).put (some 110) (.agg #[.int .i64 kd, .slice qa qq.length qc, .int .u8 (y.toNat : Int), .bool sh])).put (some 112) (.slice (some ⟨b, o, none⟩) N cap)).put (some 113) (.int .i64 (i : Int))).put (some 114) (.pointer (some ⟨b, o + i * 4, none⟩))).put (some 115) (.agg #[.int .i64 kd, .slice qa qq.length qc, .int .u8 (y.toNat : Int), .bool sh])) := ⟨_, rfl⟩
  have szAz1 : Az1.tmps.size = 157 := by rw [hAz1]; simp [put_sz, sz]
  have eAz1106 : Az1.eval (.tmp 106) = .pointer (some ⟨p, 0, none⟩) := by rw [hAz1]; exact ((ev_ne _ _ (by decide)).trans ((ev_ne _ _ (by decide)).trans ((ev_ne _ _ (by decide)).trans ((ev_ne _ _ (by decide)).trans ((ev_ne _ _ (by decide)).trans ((ev_ne _ _ (by decide)).trans ((ev_ne _ _ (by decide)).trans ((ev_ne _ _ (by decide)).trans (ev_eq _ _ (by simp [sz]))))))))))
  have eAz1110 : Az1.eval (.tmp 110) = .agg #[.int .i64 kd, .slice qa qq.length qc, .int .u8 (y.toNat : Int), .bool sh] := by rw [hAz1]; exact ((ev_ne _ _ (by decide)).trans ((ev_ne _ _ (by decide)).trans ((ev_ne _ _ (by decide)).trans ((ev_ne _ _ (by decide)).trans (ev_eq _ _ (by simp [put_sz, sz]))))))
  have eAz1115 : Az1.eval (.tmp 115) = .agg #[.int .i64 kd, .slice qa qq.length qc, .int .u8 (y.toNat : Int), .bool sh] := by rw [hAz1]; exact (ev_eq _ _ (by simp [put_sz, sz]))
  rw [← hAz1]
  refine wpAnyG_all (rs := [5]) (by kernel_rfl) (by simp) fun i1 hm1 => ?_
  obtain rfl : i1 = 5 := by simpa using hm1
  refine wpOp_own rfl rfl fun K1 hK1 => ?_
  refine wp_calls1 33 hf_first (.tmp 110) _ rfl (.agg #[.int .i64 kd, .slice qa qq.length qc, .int .u8 (y.toNat : Int), .bool sh]) eAz1110 ?_
  refine (first4_any kd qa qq qc y sh V0 hD.ints hD.len).mono ?_
  rintro _ V1 ⟨rfl, b1⟩
  have hs1 := hs0.below b1
  have C1 := hC.below b1
  refine ⟨_, rfl, hK1 _ _ ⟨.inr hs1, ?_⟩⟩
  clear hK1 K1 hm1
  show wpAnyG _ _ _ _ _ _ _ _ (Az1.put (some 111) (.int .i64 (firstOf qq))) _
  refine wpAnyG_all (rs := [10]) (by kernel_rfl) (by simp) fun i2 hm2 => ?_
  obtain rfl : i2 = 10 := by simpa using hm2
  refine wpOp_own rfl rfl fun K2 hK2 => ?_
  refine wp_calls1 36 hf_bytes4 (.tmp 115) _ rfl (.agg #[.int .i64 kd, .slice qa qq.length qc, .int .u8 (y.toNat : Int), .bool sh]) ((ev_ne _ _ (by decide)).trans eAz1115) ?_
  refine (bytes4_any kd (.slice qa qq.length qc) y sh V1 rfl).mono ?_
  rintro _ V2 ⟨g, gc, rfl, r2, hg2, b2⟩
  have hs2 := hs1.below b2
  have C2 := C1.below b2
  refine ⟨_, rfl, hK2 _ _ ⟨.inr hs2, ?_⟩⟩
  clear hK2 K2 hm2
  show wpAnyG _ _ _ _ _ _ _ _ ((Az1.put (some 111) (.int .i64 (firstOf qq))).put (some 116) (.slice (some ⟨g, 0, none⟩) (dLen sh) gc)) _
  refine wpAnyG_all (rs := [11]) (by kernel_rfl) (by simp) fun i3 hm3 => ?_
  obtain rfl : i3 = 11 := by simpa using hm3
  refine wpOp_own rfl rfl fun K3 hK3 => ?_
  refine wp_calls3 35 hf_pgw (.tmp 106) (.tmp 111) (.tmp 116) _ rfl (.pointer (some ⟨p, 0, none⟩)) (.int .i64 (firstOf qq)) (.slice (some ⟨g, 0, none⟩) (dLen sh) gc) ((ev_ne _ _ (by decide)).trans ((ev_ne _ _ (by decide)).trans eAz1106)) ((ev_ne _ _ (by decide)).trans (ev_eq _ _ (by simp [szAz1]))) (ev_eq _ _ (by simp [put_sz, szAz1])) ?_
  refine (write_p C2 ht (firstOf qq) hq (List.replicate (dLen sh) y) (some ⟨g, 0, none⟩) gc (bytes_of_row r2 List.length_replicate) (dLen sh) List.length_replicate.symm).mono ?_
  rintro _ V3 ⟨e, s', rfl, hor, C3, o3⟩
  have oF := ((Kept.of_below b1).to (Kept.of_below b2)).to o3
  refine ⟨_, rfl, hK3 _ _ ⟨.inl rfl, ?_⟩⟩
  clear hK3 K3 hm3
  show wpAnyG _ _ _ _ _ _ _ _ (((Az1.put (some 111) (.int .i64 (firstOf qq))).put (some 116) (.slice (some ⟨g, 0, none⟩) (dLen sh) gc)).put (some 117) (.int .i64 e)) _
  refine wpAnyG_done (by kernel_rfl) ⟨rfl, g, gc, e, s', ?_, hor, C3, oF⟩ _
  show (((Az1.put (some 111) (.int .i64 (firstOf qq))).put (some 116) (.slice (some ⟨g, 0, none⟩) (dLen sh) gc)).put (some 117) (.int .i64 e)) = _
  rw [hAz1]
/-- two new caches -/
theorem open_p {w w1 w2 : World} {x y : Nat} {s1 s2 : PS} (h1 : Cache w1 x s1 (fun k => k < w.heap.size)) (h2 : Cache w2 y s2 (fun k => k < w1.heap.size)) (hb : Below w1.heap.size w1 w2) (hs : w.heap.size ≤ w1.heap.size) : Pair4 w2 x y s1 s2 (fun k => k < w.heap.size) := by
  obtain ⟨m1, a1, a2, a3⟩ := h1
  obtain ⟨m2, c1, c2, c3⟩ := h2
  exact ⟨m1, m2, a1.below hb, c1, a2, c2, fun k hk => (c3 k (a1.lts k hk)).2, fun k hk => ⟨Nat.lt_of_lt_of_le (a3 k hk).1 hb.size, (a3 k hk).2, (c3 k (by omega)).2⟩⟩
theorem wrOr.sim {a b a' b' : PS} {z : Int} {yy : List UInt8} {e e' : Int} (h : Sim a b) (h1 : wrOr a a' z yy e) (h2 : wrOr b b' z yy e') : Sim a' b' := by
  rcases h1 with ⟨h1, _, rfl⟩ | ⟨h1, _, rfl⟩ <;> rcases h2 with ⟨h2, _, rfl⟩ | ⟨h2, _, rfl⟩
  · exact h
  · rw [h.writeE] at h1; exact absurd h2 h1
  · rw [h.writeE] at h1; exact absurd h1 h2
  · exact h.write _ _
theorem wrOr.same {a a' : PS} {z : Int} {yy : List UInt8} {e : Int} (h1 : wrOr a a' z yy e) : a'.mo = a.mo ∧ a'.P = a.P ∧ a'.t ≤ a.t + 1 := by
  rcases h1 with ⟨_, _, rfl⟩ | ⟨_, _, rfl⟩
  · exact ⟨rfl, rfl, Nat.le_succ _⟩
  · exact ⟨rfl, rfl, Nat.le_refl _⟩
theorem comSt.sim {a b a' b' : PS} (h : Sim a b) (h1 : comSt a a') (h2 : comSt b b') : Sim a' b' := by
  rcases h1 with ⟨h1, rfl⟩ | ⟨h1, rfl⟩ <;> rcases h2 with ⟨h2, rfl⟩ | ⟨h2, rfl⟩
  · exact h.commit
  · exact absurd (h.comOk.1 h1) h2
  · exact absurd (h.comOk.2 h2) h1
  · exact h.full
theorem comSt.same {a a' : PS} (h1 : comSt a a') : a'.mo = a.mo ∧ a'.P = a.P ∧ a'.t ≤ a.t + 3 := by
  rcases h1 with ⟨_, rfl⟩ | ⟨_, rfl⟩
  · obtain ⟨_, q2, _, q4, q5, _⟩ := commitS_same (s := a)
    exact ⟨q2, q4, Nat.le_of_eq q5⟩
  · exact ⟨rfl, rfl, Nat.le_refl _⟩
set_option maxHeartbeats 8000000 in
theorem pagerSame_walk (za zb : Nat) (hza : za < 256) (hzb : zb < 256) (a : Option Addr) (l : List Dd) (cap : Nat) (w : World) (hl : DdsAt w a l) (hll : l.length ≤ 9223372036854775807) : Calls Tryz.prog 4 #[.int .u8 (za : Int), .int .u8 (zb : Int), .slice a l.length cap] w fun e w' => e = .returned (.bool true) ∧ Below w.heap.size w w' := by
  obtain ⟨N, hN⟩ : ∃ N, N = l.length := ⟨_, rfl⟩
  have HL := hid hl
  have HN := hid hN
  rw [← hN] at hll ⊢
  clear hl hN
  obtain ⟨F, hF⟩ : ∃ F : Nat → Prop, F = fun k => k < w.heap.size := ⟨_, rfl⟩
  have HF : Hid (∀ k, k < w.heap.size → F k) := by rw [hF]; exact fun k hk => hk
  have HFe := hid hF
  have HO : Hid (∀ (z : Nat) (w1 : World), Calls Tryz.prog 12 #[.int .i64 6, .int .i64 ((z : Int) % 64 + 1)] w1 fun e w' => ∃ p q, e = .returned (.tuple #[.pointer (some ⟨p, 0, none⟩), .pointer (some ⟨q, 0, none⟩), .bool true]) ∧ Cache w' p (newS 6 11 0 0 [] [] (z % 64 + 1)) (fun k => k < w1.heap.size) ∧ Below w1.heap.size w1 w') := fun z w1 => by
    have h := open_c w1 6 (z % 64 + 1) (by omega) (by omega) (by omega) (by omega) (fun k => k < w1.heap.size) (fun k hk => hk)
    rw [show ((z % 64 + 1 : Nat) : Int) = (z : Int) % 64 + 1 by omega] at h
    exact h
  clear hF
  go_enter Tryz.func4, Tryz.ntmps4
  go_wp2_with fail
  refine (HO.out za w).mono ?_
  rintro _ w1 ⟨x, qx, rfl, C1, b1⟩
  have HC1 := hid C1
  have HB1 := hid b1
  clear C1 b1
  go_wp2_with fail
  refine (HO.out zb w1).mono ?_
  rintro _ w2 ⟨y, qy, rfl, C2, b2⟩
  have HP2 : Hid (Pair4 w2 x y (newS 6 11 0 0 [] [] (za % 64 + 1)) (newS 6 11 0 0 [] [] (zb % 64 + 1)) F) := by rw [HFe.out]; exact open_p HC1.out C2 b2 HB1.out.size
  have HB2 := hid (Below.on' HB1.out b2)
  clear C2 b2 HC1 HB1
  go_wp2_with fail
  refine (pgLive_any _).mono ?_
  rintro _ w3 ⟨rfl, b3⟩
  have HP3 := hid (HP2.out.below b3)
  have HB3 := hid (Below.on' HB2.out b3)
  clear b3 HP2 HB2
  go_wp2_with fail
  go_loopw [13] (fun i wr => ∃ (k : Nat) (s1 s2 : PS), k ≤ N ∧ k ≤ 60 ∧ i = .int .i64 (k : Int) ∧ Sim s1 s2 ∧ s1.P = 11 ∧ s1.t ≤ 3 * k ∧ s2.t ≤ 3 * k ∧ s1.mo = za % 64 + 1 ∧ s2.mo = zb % 64 + 1 ∧ Pair4 wr x y s1 s2 F ∧ Below w.heap.size w wr) (fun i _ => 60 - (intOf i).toNat)
  case atStart => exact ⟨0, newS 6 11 0 0 [] [] (za % 64 + 1), newS 6 11 0 0 [] [] (zb % 64 + 1), Nat.zero_le _, Nat.zero_le _, rfl, ⟨rfl, rfl, rfl, rfl, rfl, rfl⟩, rfl, Nat.zero_le _, Nat.zero_le _, rfl, rfl, HP3.out, HB3.out⟩
  case round =>
    obtain ⟨k, s1, s2, hkN, hk60, rfl, hS, hsP, hst1, hst2, hm1, hm2, hP, hB⟩ := hrel
    have HS := hid hS
    have HP := hid hP
    have HB := hid hB
    have Hk := hid (And.intro hm1 (And.intro hm2 hsP))
    clear hS hP hB hsP hm1 hm2 HP3 HB3
    by_cases hlt : k < N ∧ k < 60
    · obtain ⟨hlt1, hlt2⟩ := hlt
      have f1 : (k : Int) < (N : Int) := by omega
      have f2 : (k : Int) < 60 := by omega
      have hkl : k < l.length := by have := HN.out; omega
      obtain ⟨b, o, ha, d0, d1, d2, d3, hok⟩ := HL.out k hkl
      subst ha
      generalize hdd : l[k] = dd at *
      obtain ⟨kd, qa, qq, qc, yb, sh⟩ := dd
      dsimp only at d0 d1 d2 d3
      have hq := first_wf hok
      dsimp only at hq
      have hdc : DdCells b (o + k * 4) kd qa qq qc yb sh w := ⟨d0, d1, d2, d3⟩
      have HDc : Hid (∀ w', Below w.heap.size w w' → DdCells b (o + k * 4) kd qa qq qc yb sh w') := fun w' hb => hdc.below hb
      have HDo : Hid (∀ w', Below w.heap.size w w' → DdOk w' ⟨kd, qa, qq, qc, yb, sh⟩) := fun w' hb => hok.below hb
      clear hdd hok hdc d0 d1 d2 d3
      by_cases hk0 : kd = 0
      · subst hk0
        obtain ⟨d0, d1, d2, d3⟩ := HDc.out wr HB.out
        have Hfi := hid (first4_any 0 qa qq qc yb sh wr (HDo.out wr HB.out).ints (HDo.out wr HB.out).len)
        go_wp2_with fail
        refine Hfi.out.mono ?_
        rintro _ w4 ⟨rfl, b9⟩
        have HB4 := hid (HB.out.trans (b9.mono HB.out.size))
        have HP4 := hid (HP.out.below b9)
        clear b9 Hfi d0 d1 d2 d3
        have HRx := hid (read_p HP4.out (by omega) (firstOf qq) hq)
        go_wp2_with fail
        refine HRx.out.mono ?_
        rintro _ w5 (⟨hbad, rfl, P5, b5⟩ | ⟨hgood, bx, cx, rfl, rx, P5, o5, hbx⟩)
        · have HB5 := hid (HB4.out.trans (b5.mono HB4.out.size))
          have HP5 := hid P5
          clear P5 b5 HRx
          obtain ⟨d0, d1, d2, d3⟩ := HDc.out w5 HB5.out
          have Hfi := hid (first4_any 0 qa qq qc yb sh w5 (HDo.out w5 HB5.out).ints (HDo.out w5 HB5.out).len)
          go_wp2_with fail
          refine Hfi.out.mono ?_
          rintro _ w6 ⟨rfl, b9⟩
          have HB6 := hid (HB5.out.trans (b9.mono HB5.out.size))
          have HP6 := hid (HP5.out.below b9)
          clear b9 Hfi d0 d1 d2 d3
          have HRy := hid (read_p HP6.out.symm (by omega) (firstOf qq) hq)
          go_wp2_with fail
          refine HRy.out.mono ?_
          rintro _ w7 (⟨_, rfl, P7, b7⟩ | ⟨hgood, _⟩)
          rotate_left
          · exact absurd ((HS.out.bad _).1 hbad) hgood
          have HB7 := hid (HB6.out.trans (b7.mono HB6.out.size))
          have HP7 := hid P7.symm
          have HSb := hid (same_eqA (w := w7) (a := none) (b := none) (x := []) (n := 0) 0 0 (fun i hi => by cases hi) (fun i hi => by cases hi) rfl (by omega))
          clear P7 b7 HRy hbad
          go_wp2_with fail
          refine HSb.out.mono ?_
          rintro _ w8 ⟨rfl, b8⟩
          have HB8 := hid (HB7.out.trans (b8.mono HB7.out.size))
          have HP8 := hid (HP7.out.below b8)
          clear b8 HSb
          obtain ⟨t1, ht1⟩ : ∃ t, t = s1 := ⟨_, rfl⟩
          obtain ⟨t2, ht2⟩ : ∃ t, t = s2 := ⟨_, rfl⟩
          have HPz : Hid (Pair4 w8 x y t1 t2 F) := by rw [ht1, ht2]; exact HP8.out
          have HBz : Hid (Below w.heap.size w w8) := HB8.out
          have HSz : Hid (Sim t1 t2) := by rw [ht1, ht2]; exact HS.out
          have Hkz : Hid (t1.mo = za % 64 + 1 ∧ t2.mo = zb % 64 + 1 ∧ t1.P = 11 ∧ t1.t ≤ 3 * k + 3 ∧ t2.t ≤ 3 * k + 3) := by
            rw [ht1, ht2]
            exact ⟨Hk.out.1, Hk.out.2.1, Hk.out.2.2, by omega, by omega⟩
          clear ht1 ht2
          have HCa := hid (cached_p HPz.out)
          rw [Hkz.out.1] at HCa
          go_wp2_with fail
          refine HCa.out.mono ?_
          rintro _ wA ⟨aA, nA, cA, rfl, lA, bA⟩
          have HPA := hid (HPz.out.below bA)
          have HBA := hid (Below.on' HBz.out bA)
          have HCb := hid (cached_p HPA.out.symm)
          rw [Hkz.out.2.1] at HCb
          have gA : ¬ ((za : Int) % 64 + 1 < (nA : Int)) := by omega
          clear bA HCa
          go_wp2_with fail
          refine HCb.out.mono ?_
          rintro _ wB ⟨aB, nB, cB, rfl, lB, bB⟩
          have HPB := hid (HPA.out.below bB)
          have HBB := hid (Below.on' HBA.out bB)
          have gB : ¬ ((zb : Int) % 64 + 1 < (nB : Int)) := by omega
          clear bB HCb
          go_wp2
          go_roundw
          case rel => exact ⟨k + 1, t1, t2, by omega, by omega, by go_num, HSz.out, Hkz.out.2.2.1, by have := Hkz.out.2.2.2.1; omega, by have := Hkz.out.2.2.2.2; omega, Hkz.out.1, Hkz.out.2.1, HPB.out, HBB.out⟩
          case measure => simp [intOf]; omega
        · have HB5 := hid (HB4.out.trans (o5.below HB4.out.size HF.out))
          have HP5 := hid P5
          have HRowx := hid rx
          have hbx' := (rx.lt bx rfl).2
          clear P5 o5 HRx rx
          obtain ⟨d0, d1, d2, d3⟩ := HDc.out w5 HB5.out
          have Hfi := hid (first4_any 0 qa qq qc yb sh w5 (HDo.out w5 HB5.out).ints (HDo.out w5 HB5.out).len)
          go_wp2_with fail
          refine Hfi.out.mono ?_
          rintro _ w6 ⟨rfl, b9⟩
          have HB6 := hid (HB5.out.trans (b9.mono HB5.out.size))
          have HP6 := hid (HP5.out.below b9)
          have HRowx6 := hid (own_keep HRowx.out (w' := w6) (fun k e => b9.block k (by cases e; exact hbx')))
          have hs6 := b9.size
          clear b9 Hfi d0 d1 d2 d3
          have HRy := hid (read_p HP6.out.symm (by omega) (firstOf qq) hq)
          go_wp2_with fail
          refine HRy.out.mono ?_
          rintro _ w7 (⟨hbad, _⟩ | ⟨_, b7, c7, rfl, ry, P7, o7, hb7⟩)
          · exact absurd ((HS.out.bad _).2 hbad) hgood
          have HB7 := hid (HB6.out.trans (o7.below HB6.out.size (fun k hk => .inl (HF.out k hk))))
          have HP7 := hid (P7.symm.mono (F' := F) (fun k hk => .inl (.inl hk)))
          have rx7 := own_keep HRowx6.out (w' := w7) (fun k e => o7.get (.inr (by cases e; rfl)) (by cases e; show bx < _; omega))
          have h256 : (s1.now (firstOf qq).toNat).length = 256 := by have := rx7.1; simpa [cellsOf_length] using this
          rw [← HS.out.now] at ry
          have HSb := hid (same_eqA cx c7 (bytes_of_row rx7 h256) (bytes_of_row ry h256) h256 (by omega))
          clear P7 o7 HRy rx7 ry h256 HRowx HRowx6
          go_wp2_with fail
          refine HSb.out.mono ?_
          rintro _ w8 ⟨rfl, b8⟩
          have HB8 := hid (HB7.out.trans (b8.mono HB7.out.size))
          have HP8 := hid (HP7.out.below b8)
          clear b8 HSb
          obtain ⟨t1, ht1⟩ : ∃ t, t = readS s1 (firstOf qq).toNat := ⟨_, rfl⟩
          obtain ⟨t2, ht2⟩ : ∃ t, t = readS s2 (firstOf qq).toNat := ⟨_, rfl⟩
          have HPz : Hid (Pair4 w8 x y t1 t2 F) := by rw [ht1, ht2]; exact HP8.out
          have HBz : Hid (Below w.heap.size w w8) := HB8.out
          have HSz : Hid (Sim t1 t2) := by rw [ht1, ht2]; exact HS.out.read _
          have Hkz : Hid (t1.mo = za % 64 + 1 ∧ t2.mo = zb % 64 + 1 ∧ t1.P = 11 ∧ t1.t ≤ 3 * k + 3 ∧ t2.t ≤ 3 * k + 3) := by
            rw [ht1, ht2]
            obtain ⟨_, q2, q3, q4, _⟩ := readS_same (s := s1) (firstOf qq).toNat
            obtain ⟨_, r2', r3', r4', _⟩ := readS_same (s := s2) (firstOf qq).toNat
            exact ⟨by rw [q3]; exact Hk.out.1, by rw [r3']; exact Hk.out.2.1, by rw [q2]; exact Hk.out.2.2, by omega, by omega⟩
          clear ht1 ht2
          have HCa := hid (cached_p HPz.out)
          rw [Hkz.out.1] at HCa
          go_wp2_with fail
          refine HCa.out.mono ?_
          rintro _ wA ⟨aA, nA, cA, rfl, lA, bA⟩
          have HPA := hid (HPz.out.below bA)
          have HBA := hid (Below.on' HBz.out bA)
          have HCb := hid (cached_p HPA.out.symm)
          rw [Hkz.out.2.1] at HCb
          have gA : ¬ ((za : Int) % 64 + 1 < (nA : Int)) := by omega
          clear bA HCa
          go_wp2_with fail
          refine HCb.out.mono ?_
          rintro _ wB ⟨aB, nB, cB, rfl, lB, bB⟩
          have HPB := hid (HPA.out.below bB)
          have HBB := hid (Below.on' HBA.out bB)
          have gB : ¬ ((zb : Int) % 64 + 1 < (nB : Int)) := by omega
          clear bB HCb
          go_wp2
          go_roundw
          case rel => exact ⟨k + 1, t1, t2, by omega, by omega, by go_num, HSz.out, Hkz.out.2.2.1, by have := Hkz.out.2.2.2.1; omega, by have := Hkz.out.2.2.2.2; omega, Hkz.out.1, Hkz.out.2.1, HPB.out, HBB.out⟩
          case measure => simp [intOf]; omega
      by_cases hk1 : kd = 1
      · subst hk1
        obtain ⟨d0, d1, d2, d3⟩ := HDc.out wr HB.out
        go_wp2_with fail
        obtain ⟨V0, hV0⟩ : ∃ V0, V0 = wr.drew := ⟨_, rfl⟩
        have b10 : Below wr.heap.size wr V0 := by rw [hV0]; exact (Below.refl _ wr).drew
        have hB0 := HB.out.trans (b10.mono HB.out.size)
        refine wp_act _ fun A hA => ?_
        have sz : A.tmps.size = 157 := by rw [hA]; rfl
        have e0 : A.eval (.tmp 2) = .slice (some ⟨b, o, none⟩) N cap := by rw [hA]; rfl
        have e3 : A.eval (.tmp 7) = .pointer (some ⟨x, 0, none⟩) := by rw [hA]; rfl
        have e7 : A.eval (.tmp 13) = .int .i64 (k : Int) := by rw [hA]; rfl
        refine wp_split _ (sm_region15 sz e0 e3 e7 hlt1 hV0 (HDc.out V0 hB0) (HDo.out V0 hB0) (HP.out.below b10) (by omega) hq) ?_
        rintro _ w5 ⟨g15, gc15, ex, sx, rfl, orx, P9, o9⟩
        rw [hA]
        simp only [Act.put, List.setIfInBounds_toArray, List.set_cons_succ, List.set_cons_zero]
        have HP5 := hid P9
        have HB5 := hid (hB0.trans (o9.below (Nat.le_trans HB.out.size b10.size) HF.out))
        clear d0 d1 d2 d3 P9 o9 hA sz e0 e3 e7 b10 hV0 hB0
        go_wp2_with fail
        obtain ⟨V0, hV0⟩ : ∃ V0, V0 = w5.drew := ⟨_, rfl⟩
        have b10 : Below w5.heap.size w5 V0 := by rw [hV0]; exact (Below.refl _ w5).drew
        have hB0 := HB5.out.trans (b10.mono HB5.out.size)
        refine wp_act _ fun A hA => ?_
        have sz : A.tmps.size = 157 := by rw [hA]; rfl
        have e0 : A.eval (.tmp 2) = .slice (some ⟨b, o, none⟩) N cap := by rw [hA]; rfl
        have e3 : A.eval (.tmp 10) = .pointer (some ⟨y, 0, none⟩) := by rw [hA]; rfl
        have e7 : A.eval (.tmp 13) = .int .i64 (k : Int) := by rw [hA]; rfl
        refine wp_split _ (sm_region16 sz e0 e3 e7 hlt1 hV0 (HDc.out V0 hB0) (HDo.out V0 hB0) (HP5.out.symm.below b10) (by omega) hq) ?_
        rintro _ w6 ⟨g16, gc16, ey, sy, rfl, ory, P9, o9⟩
        rw [hA]
        simp only [Act.put, List.setIfInBounds_toArray, List.set_cons_succ, List.set_cons_zero]
        have HP6 := hid P9
        have HB6 := hid (hB0.trans (o9.below (Nat.le_trans HB5.out.size b10.size) HF.out))
        clear P9 o9 hA sz e0 e3 e7 b10 hV0 hB0
        obtain ⟨t1, ht1⟩ : ∃ t, t = sx := ⟨_, rfl⟩
        obtain ⟨t2, ht2⟩ : ∃ t, t = sy := ⟨_, rfl⟩
        have HPz : Hid (Pair4 w6 x y t1 t2 F) := by rw [ht1, ht2]; exact HP6.out.symm
        have HBz : Hid (Below w.heap.size w w6) := HB6.out
        have HSz : Hid (Sim t1 t2) := by rw [ht1, ht2]; exact orx.sim HS.out ory
        have Hkz : Hid (t1.mo = za % 64 + 1 ∧ t2.mo = zb % 64 + 1 ∧ t1.P = 11 ∧ t1.t ≤ 3 * k + 3 ∧ t2.t ≤ 3 * k + 3) := by
          rw [ht1, ht2]
          obtain ⟨q1, q2, q3⟩ := orx.same
          obtain ⟨r1, r2, r3⟩ := ory.same
          exact ⟨by rw [q1]; exact Hk.out.1, by rw [r1]; exact Hk.out.2.1, by rw [q2]; exact Hk.out.2.2, by omega, by omega⟩
        clear ht1 ht2
        clear orx ory
        have HCa := hid (cached_p HPz.out)
        rw [Hkz.out.1] at HCa
        go_wp2_with fail
        refine HCa.out.mono ?_
        rintro _ wA ⟨aA, nA, cA, rfl, lA, bA⟩
        have HPA := hid (HPz.out.below bA)
        have HBA := hid (Below.on' HBz.out bA)
        have HCb := hid (cached_p HPA.out.symm)
        rw [Hkz.out.2.1] at HCb
        have gA : ¬ ((za : Int) % 64 + 1 < (nA : Int)) := by omega
        clear bA HCa
        go_wp2_with fail
        refine HCb.out.mono ?_
        rintro _ wB ⟨aB, nB, cB, rfl, lB, bB⟩
        have HPB := hid (HPA.out.below bB)
        have HBB := hid (Below.on' HBA.out bB)
        have gB : ¬ ((zb : Int) % 64 + 1 < (nB : Int)) := by omega
        clear bB HCb
        go_wp2
        go_roundw
        case rel => exact ⟨k + 1, t1, t2, by omega, by omega, by go_num, HSz.out, Hkz.out.2.2.1, by have := Hkz.out.2.2.2.1; omega, by have := Hkz.out.2.2.2.2; omega, Hkz.out.1, Hkz.out.2.1, HPB.out, HBB.out⟩
        case measure => simp [intOf]; omega
      by_cases hk2 : kd = 2
      · subst hk2
        obtain ⟨d0, d1, d2, d3⟩ := HDc.out wr HB.out
        have HCx := hid (com_p HP.out (by omega) (by have := Hk.out.2.2; omega))
        go_wp2_with fail
        refine HCx.out.mono ?_
        rintro _ w5 ⟨ex, sx, rfl, orx, P5, o5⟩
        have HB5 := hid (HB.out.trans (o5.below HB.out.size HF.out))
        have HP5 := hid P5
        have HCy := hid (com_p HP5.out.symm (by omega) (by have := Hk.out.2.2; rw [← HS.out.P]; omega))
        clear P5 o5 HCx d0 d1 d2 d3
        go_wp2_with fail
        refine HCy.out.mono ?_
        rintro _ w6 ⟨ey, sy, rfl, ory, P6, o6⟩
        have HB6 := hid (HB5.out.trans (o6.below HB5.out.size HF.out))
        have HP6 := hid P6
        clear P6 o6 HCy
        obtain ⟨t1, ht1⟩ : ∃ t, t = sx := ⟨_, rfl⟩
        obtain ⟨t2, ht2⟩ : ∃ t, t = sy := ⟨_, rfl⟩
        have HPz : Hid (Pair4 w6 x y t1 t2 F) := by rw [ht1, ht2]; exact HP6.out.symm
        have HBz : Hid (Below w.heap.size w w6) := HB6.out
        have HSz : Hid (Sim t1 t2) := by rw [ht1, ht2]; exact orx.sim HS.out ory
        have Hkz : Hid (t1.mo = za % 64 + 1 ∧ t2.mo = zb % 64 + 1 ∧ t1.P = 11 ∧ t1.t ≤ 3 * k + 3 ∧ t2.t ≤ 3 * k + 3) := by
          rw [ht1, ht2]
          obtain ⟨q1, q2, q3⟩ := orx.same
          obtain ⟨r1, r2, r3⟩ := ory.same
          exact ⟨by rw [q1]; exact Hk.out.1, by rw [r1]; exact Hk.out.2.1, by rw [q2]; exact Hk.out.2.2, by omega, by omega⟩
        clear ht1 ht2
        clear orx ory
        have HCa := hid (cached_p HPz.out)
        rw [Hkz.out.1] at HCa
        go_wp2_with fail
        refine HCa.out.mono ?_
        rintro _ wA ⟨aA, nA, cA, rfl, lA, bA⟩
        have HPA := hid (HPz.out.below bA)
        have HBA := hid (Below.on' HBz.out bA)
        have HCb := hid (cached_p HPA.out.symm)
        rw [Hkz.out.2.1] at HCb
        have gA : ¬ ((za : Int) % 64 + 1 < (nA : Int)) := by omega
        clear bA HCa
        go_wp2_with fail
        refine HCb.out.mono ?_
        rintro _ wB ⟨aB, nB, cB, rfl, lB, bB⟩
        have HPB := hid (HPA.out.below bB)
        have HBB := hid (Below.on' HBA.out bB)
        have gB : ¬ ((zb : Int) % 64 + 1 < (nB : Int)) := by omega
        clear bB HCb
        go_wp2
        go_roundw
        case rel => exact ⟨k + 1, t1, t2, by omega, by omega, by go_num, HSz.out, Hkz.out.2.2.1, by have := Hkz.out.2.2.2.1; omega, by have := Hkz.out.2.2.2.2; omega, Hkz.out.1, Hkz.out.2.1, HPB.out, HBB.out⟩
        case measure => simp [intOf]; omega
      by_cases hk3 : kd = 3
      · subst hk3
        obtain ⟨d0, d1, d2, d3⟩ := HDc.out wr HB.out
        have HCx := hid (abort_p HP.out)
        go_wp2_with fail
        refine HCx.out.mono ?_
        rintro _ w5 ⟨ex, rfl, P5, o5⟩
        have HB5 := hid (HB.out.trans (o5.below HB.out.size HF.out))
        have HP5 := hid P5
        have HCy := hid (abort_p HP5.out.symm)
        clear P5 o5 HCx d0 d1 d2 d3
        go_wp2_with fail
        refine HCy.out.mono ?_
        rintro _ w6 ⟨ey, rfl, P6, o6⟩
        have HB6 := hid (HB5.out.trans (o6.below HB5.out.size HF.out))
        have HP6 := hid P6
        clear P6 o6 HCy
        obtain ⟨t1, ht1⟩ : ∃ t, t = abortS s1 := ⟨_, rfl⟩
        obtain ⟨t2, ht2⟩ : ∃ t, t = abortS s2 := ⟨_, rfl⟩
        have HPz : Hid (Pair4 w6 x y t1 t2 F) := by rw [ht1, ht2]; exact HP6.out.symm
        have HBz : Hid (Below w.heap.size w w6) := HB6.out
        have HSz : Hid (Sim t1 t2) := by rw [ht1, ht2]; exact HS.out.abort
        have Hkz : Hid (t1.mo = za % 64 + 1 ∧ t2.mo = zb % 64 + 1 ∧ t1.P = 11 ∧ t1.t ≤ 3 * k + 3 ∧ t2.t ≤ 3 * k + 3) := by
          rw [ht1, ht2]
          exact ⟨Hk.out.1, Hk.out.2.1, Hk.out.2.2, by show s1.t ≤ _; omega, by show s2.t ≤ _; omega⟩
        clear ht1 ht2
        have HCa := hid (cached_p HPz.out)
        rw [Hkz.out.1] at HCa
        go_wp2_with fail
        refine HCa.out.mono ?_
        rintro _ wA ⟨aA, nA, cA, rfl, lA, bA⟩
        have HPA := hid (HPz.out.below bA)
        have HBA := hid (Below.on' HBz.out bA)
        have HCb := hid (cached_p HPA.out.symm)
        rw [Hkz.out.2.1] at HCb
        have gA : ¬ ((za : Int) % 64 + 1 < (nA : Int)) := by omega
        clear bA HCa
        go_wp2_with fail
        refine HCb.out.mono ?_
        rintro _ wB ⟨aB, nB, cB, rfl, lB, bB⟩
        have HPB := hid (HPA.out.below bB)
        have HBB := hid (Below.on' HBA.out bB)
        have gB : ¬ ((zb : Int) % 64 + 1 < (nB : Int)) := by omega
        clear bB HCb
        go_wp2
        go_roundw
        case rel => exact ⟨k + 1, t1, t2, by omega, by omega, by go_num, HSz.out, Hkz.out.2.2.1, by have := Hkz.out.2.2.2.1; omega, by have := Hkz.out.2.2.2.2; omega, Hkz.out.1, Hkz.out.2.1, HPB.out, HBB.out⟩
        case measure => simp [intOf]; omega
      · obtain ⟨d0, d1, d2, d3⟩ := HDc.out wr HB.out
        obtain ⟨t1, ht1⟩ : ∃ t, t = s1 := ⟨_, rfl⟩
        obtain ⟨t2, ht2⟩ : ∃ t, t = s2 := ⟨_, rfl⟩
        have HPz : Hid (Pair4 wr x y t1 t2 F) := by rw [ht1, ht2]; exact HP.out
        have HBz : Hid (Below w.heap.size w wr) := HB.out
        have HSz : Hid (Sim t1 t2) := by rw [ht1, ht2]; exact HS.out
        have Hkz : Hid (t1.mo = za % 64 + 1 ∧ t2.mo = zb % 64 + 1 ∧ t1.P = 11 ∧ t1.t ≤ 3 * k + 3 ∧ t2.t ≤ 3 * k + 3) := by
          rw [ht1, ht2]
          exact ⟨Hk.out.1, Hk.out.2.1, Hk.out.2.2, by omega, by omega⟩
        clear ht1 ht2
        have HCa := hid (cached_p HPz.out)
        rw [Hkz.out.1] at HCa
        go_wp2_with fail
        refine HCa.out.mono ?_
        rintro _ wA ⟨aA, nA, cA, rfl, lA, bA⟩
        have HPA := hid (HPz.out.below bA)
        have HBA := hid (Below.on' HBz.out bA)
        have HCb := hid (cached_p HPA.out.symm)
        rw [Hkz.out.2.1] at HCb
        have gA : ¬ ((za : Int) % 64 + 1 < (nA : Int)) := by omega
        clear bA HCa
        go_wp2_with fail
        refine HCb.out.mono ?_
        rintro _ wB ⟨aB, nB, cB, rfl, lB, bB⟩
        have HPB := hid (HPA.out.below bB)
        have HBB := hid (Below.on' HBA.out bB)
        have gB : ¬ ((zb : Int) % 64 + 1 < (nB : Int)) := by omega
        clear bB HCb
        go_wp2
        go_roundw
        case rel => exact ⟨k + 1, t1, t2, by omega, by omega, by go_num, HSz.out, Hkz.out.2.2.1, by have := Hkz.out.2.2.2.1; omega, by have := Hkz.out.2.2.2.2; omega, Hkz.out.1, Hkz.out.2.1, HPB.out, HBB.out⟩
        case measure => simp [intOf]; omega
    · have HIx := hid (image_p HP.out (by omega))
      have hlen : Hid ((psOf (fresh s1.S s1.P) s1.ls).length = s1.S + 1 + s1.P ∧ s1.S + 1 + s1.P ≤ 1024 ∧ ∀ p ∈ psOf (fresh s1.S s1.P) s1.ls, p.length = 256) := by
        obtain ⟨m1, m2, h1, _⟩ := HP.out
        have h2 : (psOf (fresh s1.S s1.P) s1.ls).length = s1.S + 1 + s1.P := h1.log.inv.len
        have h3 := h1.log.inv.most
        exact ⟨h2, by omega, h1.log.inv.full⟩
      rcases (show (¬ (k : Int) < (N : Int)) ∨ ((k : Int) < (N : Int) ∧ ¬ (k : Int) < 60) by omega) with f1 | ⟨f1, f2⟩
      all_goals
        go_wp2_with fail
        refine HIx.out.mono ?_
        rintro _ _ ⟨rfl, l0, rfl, hDx⟩
        have HDx := hid hDx
        clear hDx HIx
        go_wp2_with fail
        refine HDx.out.mono ?_
        rintro _ w4 ⟨b4, d0, rfl, hIm⟩
        have HIm := hid hIm
        have HB4 := hid (Below.on' HB.out b4)
        have HP4 := hid (HP.out.below b4)
        clear hIm HDx b4
        go_wp2_with fail
        refine HIm.out.mono ?_
        rintro _ w5 ⟨b5, bx, vx, rfl, hIx⟩
        have HIx5 := hid hIx
        have HB5 := hid (Below.on' HB4.out b5)
        have HP5 := hid (HP4.out.below b5)
        have HIy := hid (image_p HP5.out.symm (by omega))
        rw [← HS.out.S, ← HS.out.P, ← HS.out.ls] at HIy
        clear hIx b5 HIm HB4 HP4
        go_wp2_with fail
        refine HIy.out.mono ?_
        rintro _ _ ⟨rfl, l1, rfl, hDy⟩
        have HDy := hid hDy
        clear hDy HIy
        go_wp2_with fail
        refine HDy.out.mono ?_
        rintro _ w6 ⟨b6, d1, rfl, hIm⟩
        have HIm := hid hIm
        have HB6 := hid (Below.on' HB5.out b6)
        have HIx6 := hid (HIx5.out.below b6)
        clear hIm HDy b6
        go_wp2_with fail
        refine HIm.out.mono ?_
        rintro _ w7 ⟨b7, by', vy, rfl, hIy⟩
        have HB7 := hid (Below.on' HB6.out b7)
        have HSa := hid (sameAll_eq hlen.out.1.symm (HIx6.out.below b7) hIy (by rw [hlen.out.1]; exact hlen.out.2.1) (fun p hp => by rw [hlen.out.2.2 p hp]; omega))
        clear hIy b7 HIm HIx6
        go_wp2_with fail
        refine HSa.out.mono ?_
        rintro _ w8 ⟨rfl, b8⟩
        have HB8 := hid (Below.on' HB7.out b8)
        clear b8
        go_wp2
        go_ret
        exact ⟨rfl, HB8.out⟩
end Go.Proofs.YtdieafkmnckhaaaGreat
