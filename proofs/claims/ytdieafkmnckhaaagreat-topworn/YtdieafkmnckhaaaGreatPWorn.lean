/- TopWorn's walk. -/
import Derived.Test.YtdieafkmnckhaaaGreatPCache
import Derived.Test.YtdieafkmnckhaaaGreatBLift
import Derived.Deep.Slices
import Derived.SliceStrings
import Derived.ChangeSlices
namespace Go.Proofs.YtdieafkmnckhaaaGreat
open Go.RowKit Go.Maps Go.Sort Go.Shelf
set_option linter.unusedVariables false
set_option maxRecDepth 20000
/-- a cache over a log that is known -/
def CacheL (w : World) (p : Nat) (s : PS) (F : Nat → Prop) (l : Nat) : Prop := ∃ m, PgMem w p m s ∧ Ext s ∧ (∀ k, F k → k < w.heap.size ∧ ¬ allB p m s k) ∧ m.l = l
section
variable {w w' : World} {p l : Nat} {s : PS} {F : Nat → Prop}
theorem CacheL.below (h : CacheL w p s F l) (hb : Below w.heap.size w w') : CacheL w' p s F l := by
  obtain ⟨m, h1, h2, h3, h4⟩ := h
  exact ⟨m, h1.below hb, h2, fun k hk => ⟨Nat.lt_of_lt_of_le (h3 k hk).1 hb.size, (h3 k hk).2⟩, h4⟩
theorem CacheL.add (h : CacheL w p s F l) (hb : Below w.heap.size w w') {F' : Nat → Prop} (hF : ∀ k, F' k → F k ∨ (w.heap.size ≤ k ∧ k < w'.heap.size)) : CacheL w' p s F' l := by
  obtain ⟨m, h1, h2, h3, h4⟩ := h
  refine ⟨m, h1.below hb, h2, fun k hk => ?_, h4⟩
  rcases hF k hk with hk | hk
  · exact ⟨Nat.lt_of_lt_of_le (h3 k hk).1 hb.size, (h3 k hk).2⟩
  · exact ⟨hk.2, fun ha => by have := h1.lts k ha; omega⟩
theorem CacheL.set (h : CacheL w p s F l) {g : Nat} (hg : F g) (hs : w'.heap.size = w.heap.size) (hk : ∀ k, k ≠ g → w'.heap[k]? = w.heap[k]?) : CacheL w' p s F l := by
  obtain ⟨m, h1, h2, h3, h4⟩ := h
  exact ⟨m, h1.keep (fun k hk' => hk k (fun e => (h3 g hg).2 (e ▸ hk'))), h2, fun k hk' => ⟨by rw [hs]; exact (h3 k hk').1, (h3 k hk').2⟩, h4⟩
theorem kept_ofL {m m' : PM} {s' : PS} {Q : Nat → Prop} (h : PgMem w p m s) (he : Ext s) (h3 : ∀ k, F k → k < w.heap.size ∧ ¬ allB p m s k) (hl : m.l = l) (hm : PgMem w' p m' s') (he' : Ext s') (ho : Out Q w w') (hQ : ∀ k, Q k → allB p m s k) (hf : Fresh w p m s m' s') (hl' : m'.l = m.l) : CacheL w' p s' F l ∧ Kept F w w' := by
  refine ⟨⟨m', hm, he', fun k hk => ⟨Nat.lt_of_lt_of_le (h3 k hk).1 ho.size, fun ha => ?_⟩, hl'.trans hl⟩, ⟨ho.os, ho.tape, ho.output, ho.size, fun k hk hn => ho.block k hk (fun hq => hn (fun hfk => (h3 k hfk).2 (hQ k hq)))⟩⟩
  rcases hf k ha with h5 | h5
  · exact (h3 k hk).2 h5
  · have := (h3 k hk).1; omega
theorem write_l (h : CacheL w p s F l) (ht : s.t ≤ 100000) (x : Nat) (hx : x < s.P) (hP : s.P ≤ 1024) (y : List UInt8) (hyl : y.length = 256) (hdl : s.dl = []) (a : Option Addr) (c : Nat) (hy : Bytes w a y) :
    Calls Tryz.prog 35 #[.pointer (some ⟨p, 0, none⟩), .int .i64 (x : Int), .slice a 256 c] w fun e w' => e = .returned (.int .i64 0) ∧ CacheL w' p (writeS s x y) F l ∧ Kept F w w' := by
  obtain ⟨m, h1, h2, h3, h4⟩ := h
  have hW := pgWrite_any h1 ht (x : Int) (by omega) y a c hy
  rw [hyl] at hW
  refine hW.mono ?_
  rintro e w' (⟨hb, _⟩ | ⟨hb, rfl, m', hl', hm, ho, hf⟩)
  · exfalso
    apply hb
    unfold writeE
    rw [if_neg (by omega), hyl, if_neg (by omega), hdl]
    rfl
  · exact ⟨rfl, kept_ofL h1 h2 h3 h4 hm (writeS_ext h2 _ _) ho (fun k hq => by
      rcases hq with (e | e | e) | e
      · exact .inl (.inl e)
      · exact .inl (.inr (.inr (.inr (.inl e))))
      · exact .inl (.inr (.inr (.inl e)))
      · exact .inl (.inr (.inr (.inr (.inr (.inl e)))))) hf hl'⟩
theorem com_l (h : CacheL w p s F l) (ht : s.t ≤ 7000) (hP : s.P ≤ 100) (hc : comOk s) :
    Calls Tryz.prog 37 #[.pointer (some ⟨p, 0, none⟩)] w fun e w' => e = .returned (.int .i64 0) ∧ CacheL w' p (commitS s) F l ∧ Kept F w w' := by
  obtain ⟨m, h1, h2, h3, h4⟩ := h
  refine (com_any h1 h2 ht hP).mono ?_
  rintro e w' (⟨hb, rfl, m', hl', hm, ho, hf⟩ | ⟨hb, _⟩)
  · exact ⟨rfl, kept_ofL h1 h2 h3 h4 hm (commitS_ext h2) ho (fun k hq => by
      rcases hq with e | e | e
      · exact .inl (.inl e)
      · exact .inl (.inr (.inr (.inr (.inr (.inl e)))))
      · exact .inl (.inr (.inl e))) hf hl'⟩
  · exact absurd hc hb
theorem commitS_G (h0 : 0 < s.dl.length) : (commitS s).G = s.G + 1 := by
  unfold commitS
  rw [if_neg (by omega)]
  split <;> rfl
theorem groups_l (h : CacheL w p s F l) (ht : s.t ≤ 7000) : Calls Tryz.prog 46 #[.pointer (some ⟨l, 0, none⟩)] w fun e w' => e = .returned (.int .i64 (s.G : Int)) ∧ w' = w := by
  obtain ⟨m, h1, h2, h3, rfl⟩ := h
  exact groups_any h1.log.mem (by have := h1.log.gr; omega)
theorem used_l (h : CacheL w p s F l) : Calls Tryz.prog 47 #[.pointer (some ⟨l, 0, none⟩)] w fun e w' => ∃ u : Nat, e = .returned (.int .i64 (u : Int)) ∧ u ≤ s.S ∧ w' = w := by
  obtain ⟨m, h1, h2, h3, rfl⟩ := h
  refine (used_any h1.log.mem).mono ?_
  rintro _ w' ⟨rfl, rfl⟩
  exact ⟨_, rfl, h1.log.inv.used, rfl⟩
/-- the log's disk, opened again -/
theorem disk_l (h : CacheL w p s F l) (ht : s.t ≤ 7000) : Calls Tryz.prog 26 #[.pointer (some ⟨l, 0, none⟩)] w fun e w1 => ∃ d', e = .returned (.pointer (some ⟨d', 0, none⟩)) ∧ Below w.heap.size w w1 ∧
    Calls Tryz.prog 41 #[.pointer (some ⟨d', 0, none⟩), .int .i64 (s.S : Int)] w1 fun e w2 => ∃ l2 d g cap mb n, e = .returned (.tuple #[.pointer (some ⟨l2, 0, none⟩), .int .i64 0]) ∧ LogMem w2 w1.heap.size l2 d g cap mb n (.slice none 0 0) s.S s.G (usedOf s.gs) (plOf s.gs) (psOf (fresh s.S s.P) s.ls) [] ∧ Below w1.heap.size w1 w2 := by
  obtain ⟨m, h1, h2, h3, rfl⟩ := h
  have hlen : (psOf (fresh s.S s.P) s.ls).length = s.S + 1 + s.P := h1.log.inv.len
  have hmost := h1.log.inv.most
  have hls := h1.log.lsl
  have hgr := h1.log.gr
  refine (logDisk_ok h1.log.mem (by omega) hmost (by rw [chOf_length]; omega)).mono ?_
  rintro _ w1 ⟨d', g', cap', v', rfl, hD, hb⟩
  refine ⟨d', rfl, hb, (open_ok hD s.S s.G s.P s.gs h1.log.inv (by omega) (by rw [chOf_length]; omega)).mono ?_⟩
  rintro _ w2 ⟨l2, d, g, cap, mb, n, rfl, _, hM, hb2⟩
  exact ⟨l2, d, g, cap, mb, n, rfl, hM, hb2⟩
theorem page_l (h : CacheL w p s F l) {q : Nat} (hq : q < s.P) : (psOf (fresh s.S s.P) s.ls)[(plOf s.gs q).getD (s.S + 1 + q)]? = some (s.page q) ∧ (s.page q).length = 256 ∧ (psOf (fresh s.S s.P) s.ls).length = s.S + 1 + s.P ∧ (psOf (fresh s.S s.P) s.ls).length ≤ 1024 := by
  obtain ⟨m, h1, h2, h3, rfl⟩ := h
  have hlen := pageNow_length h1.log.inv q hq
  refine ⟨?_, hlen, h1.log.inv.len, h1.log.inv.most⟩
  show (psOf (fresh s.S s.P) s.ls)[placeOf s.S s.gs q]? = some (pageNow (psOf (fresh s.S s.P) s.ls) s.S s.gs q)
  unfold pageNow at hlen ⊢
  cases e : (psOf (fresh s.S s.P) s.ls)[placeOf s.S s.gs q]? with
  | none => rw [List.getD_eq_getElem?_getD, e] at hlen; simp at hlen
  | some y => rw [List.getD_eq_getElem?_getD, e]; rfl
end
noncomputable def codeWo (n : Nat) : Code := ((Tryz.f11.body.bind (regionAt n)).getD .skip)
set_option maxHeartbeats 1000000 in
theorem wo_region22 {V0 W5 : World} {g c gw cw q : Nat} {v : UInt8} {A : Act} (sz : A.tmps.size = 134) (e9 : A.eval (.tmp 9) = .slice (some ⟨gw, 0, none⟩) 14 cw) (e16 : A.eval (.tmp 16) = .int .i64 (q : Int)) (e17 : A.eval (.tmp 17) = .slice (some ⟨g, 0, none⟩) 256 c) (e18 : A.eval (.tmp 18) = .int .i64 0) (hq : q < 14) (hV0 : V0 = W5.drew) (hs0 : V0.cell? ⟨g, 0, none⟩ = some (.int .u8 (v.toNat : Int)) ∧ V0.cell? ⟨gw, q, none⟩ = some (.int .u8 (v.toNat : Int))) :
    (codeWo 22).wp Tryz.prog (fun x a V => x = .normal ∧ a = (((((((((((((((((A.put (some 108) (.int .i64 0)).put (some 109) (.bool false)).put (some 110) (.bool false)).put (some 111) (.slice (some ⟨g, 0, none⟩) 256 c)).put (some 112) (.int .i64 256)).put (some 113) (.bool false)).put (some 114) (.bool false)).put (some 115) (.bool false)).put (some 116) (.slice (some ⟨g, 0, none⟩) 256 c)).put (some 117) (.pointer (some ⟨g, 0, none⟩))).put (some 118) (.int .u8 (v.toNat : Int))).put (some 119) (.slice (some ⟨gw, 0, none⟩) 14 cw)).put (some 120) (.int .i64 (q : Int))).put (some 121) (.pointer (some ⟨gw, q, none⟩))).put (some 122) (.int .u8 (v.toNat : Int))).put (some 123) (.bool false)).put (some 124) (.bool false)) ∧ V = V0) A W5 := by
  have hm : Tryz.prog.follows .mixedOrders = true := by kernel_rfl
  have hq1 : (q : Int) < 14 := by omega
  unfold codeWo
  conv => arg 2; whnf
  refine wp_region_G (fun _ => false) (fun V => V.cell? ⟨g, 0, none⟩ = some (.int .u8 (v.toNat : Int)) ∧ V.cell? ⟨gw, q, none⟩ = some (.int .u8 (v.toNat : Int))) hm ?_
  rw [show ({ W5 with drawn := W5.drawn + 1 } : World) = V0 from hV0.symm]
  refine wpAnyG_take (i := 0) (v := .int .i64 0) rfl (by kernel_rfl) (by kernel_rfl) (by kernel_rfl) (fun _ _ _ h => nomatch h.1) (yg_mv (by simp [Region.wanted]) (.tmp 18) rfl e18) hs0 ?_
  show wpAnyG _ _ _ _ _ _ _ _ (A.put (some 108) (.int .i64 0)) _
  refine wpAnyG_take (i := 1) (v := .bool false) rfl (by kernel_rfl) (by kernel_rfl) (by kernel_rfl) (fun _ _ _ h => nomatch h.1) (yg_bin (by simp [Region.wanted]) (.tmp 108) (.const (.int .i64 0)) rfl (ev_eq _ _ (by simp [sz])) rfl (fun w => by simp [go_sem])) hs0 ?_
  show wpAnyG _ _ _ _ _ _ _ _ ((A.put (some 108) (.int .i64 0)).put (some 109) (.bool false)) _
  refine wpAnyG_take (i := 2) (v := .bool false) rfl (by kernel_rfl) (by kernel_rfl) (by kernel_rfl) (fun _ _ _ h => nomatch h.1) (yg_mv (by simp [Region.wanted]) (.tmp 109) rfl (ev_eq _ _ (by simp [put_sz, sz]))) hs0 ?_
  show wpAnyG _ _ _ _ _ _ _ _ (((A.put (some 108) (.int .i64 0)).put (some 109) (.bool false)).put (some 110) (.bool false)) _
  refine wpAnyG_take (i := 3) (v := .slice (some ⟨g, 0, none⟩) 256 c) rfl (by kernel_rfl) (by kernel_rfl) (by kernel_rfl) (fun _ _ _ h => nomatch h.1) (yg_mv (guard_f (i := 2) (d := 110) rfl rfl (by simp [put_sz, sz]) (ev_eq _ _ (by simp [put_sz, sz]))) (.tmp 17) rfl ((ev_ne _ _ (by decide)).trans ((ev_ne _ _ (by decide)).trans ((ev_ne _ _ (by decide)).trans e17)))) hs0 ?_
  show wpAnyG _ _ _ _ _ _ _ _ ((((A.put (some 108) (.int .i64 0)).put (some 109) (.bool false)).put (some 110) (.bool false)).put (some 111) (.slice (some ⟨g, 0, none⟩) 256 c)) _
  refine wpAnyG_take (i := 4) (v := .int .i64 256) rfl (by kernel_rfl) (by kernel_rfl) (by kernel_rfl) (fun _ _ _ h => nomatch h.1) (yg_len (guard_f (i := 2) (d := 110) rfl rfl (by simp [put_sz, sz]) ((ev_ne _ _ (by decide)).trans (ev_eq _ _ (by simp [put_sz, sz])))) 111 rfl (ev_eq _ _ (by simp [put_sz, sz])) (fun w _ => by simp [go_sem])) hs0 ?_
  show wpAnyG _ _ _ _ _ _ _ _ (((((A.put (some 108) (.int .i64 0)).put (some 109) (.bool false)).put (some 110) (.bool false)).put (some 111) (.slice (some ⟨g, 0, none⟩) 256 c)).put (some 112) (.int .i64 256)) _
  refine wpAnyG_take (i := 5) (v := .bool false) rfl (by kernel_rfl) (by kernel_rfl) (by kernel_rfl) (fun _ _ _ h => nomatch h.1) (yg_bin (guard_f (i := 2) (d := 110) rfl rfl (by simp [put_sz, sz]) ((ev_ne _ _ (by decide)).trans ((ev_ne _ _ (by decide)).trans (ev_eq _ _ (by simp [put_sz, sz]))))) (.tmp 112) (.const (.int .i64 256)) rfl (ev_eq _ _ (by simp [put_sz, sz])) rfl (fun w => by simp [go_sem])) hs0 ?_
  show wpAnyG _ _ _ _ _ _ _ _ ((((((A.put (some 108) (.int .i64 0)).put (some 109) (.bool false)).put (some 110) (.bool false)).put (some 111) (.slice (some ⟨g, 0, none⟩) 256 c)).put (some 112) (.int .i64 256)).put (some 113) (.bool false)) _
  refine wpAnyG_take (i := 6) (v := .bool false) rfl (by kernel_rfl) (by kernel_rfl) (by kernel_rfl) (fun _ _ _ h => nomatch h.1) (yg_pickF (by simp [Region.wanted]) (.tmp 110) (.const (.bool true)) (.tmp 113) rfl ((ev_ne _ _ (by decide)).trans ((ev_ne _ _ (by decide)).trans ((ev_ne _ _ (by decide)).trans (ev_eq _ _ (by simp [put_sz, sz]))))) (ev_eq _ _ (by simp [put_sz, sz]))) hs0 ?_
  show wpAnyG _ _ _ _ _ _ _ _ (((((((A.put (some 108) (.int .i64 0)).put (some 109) (.bool false)).put (some 110) (.bool false)).put (some 111) (.slice (some ⟨g, 0, none⟩) 256 c)).put (some 112) (.int .i64 256)).put (some 113) (.bool false)).put (some 114) (.bool false)) _
  refine wpAnyG_take (i := 7) (v := .bool false) rfl (by kernel_rfl) (by kernel_rfl) (by kernel_rfl) (fun _ _ _ h => nomatch h.1) (yg_mv (by simp [Region.wanted]) (.tmp 114) rfl (ev_eq _ _ (by simp [put_sz, sz]))) hs0 ?_
  show wpAnyG _ _ _ _ _ _ _ _ ((((((((A.put (some 108) (.int .i64 0)).put (some 109) (.bool false)).put (some 110) (.bool false)).put (some 111) (.slice (some ⟨g, 0, none⟩) 256 c)).put (some 112) (.int .i64 256)).put (some 113) (.bool false)).put (some 114) (.bool false)).put (some 115) (.bool false)) _
  refine wpAnyG_take (i := 8) (v := .slice (some ⟨g, 0, none⟩) 256 c) rfl (by kernel_rfl) (by kernel_rfl) (by kernel_rfl) (fun _ _ _ h => nomatch h.1) (yg_mv (guard_f (i := 7) (d := 115) rfl rfl (by simp [put_sz, sz]) (ev_eq _ _ (by simp [put_sz, sz]))) (.tmp 17) rfl ((ev_ne _ _ (by decide)).trans ((ev_ne _ _ (by decide)).trans ((ev_ne _ _ (by decide)).trans ((ev_ne _ _ (by decide)).trans ((ev_ne _ _ (by decide)).trans ((ev_ne _ _ (by decide)).trans ((ev_ne _ _ (by decide)).trans ((ev_ne _ _ (by decide)).trans e17))))))))) hs0 ?_
  show wpAnyG _ _ _ _ _ _ _ _ (((((((((A.put (some 108) (.int .i64 0)).put (some 109) (.bool false)).put (some 110) (.bool false)).put (some 111) (.slice (some ⟨g, 0, none⟩) 256 c)).put (some 112) (.int .i64 256)).put (some 113) (.bool false)).put (some 114) (.bool false)).put (some 115) (.bool false)).put (some 116) (.slice (some ⟨g, 0, none⟩) 256 c)) _
  obtain ⟨Az1, hAz1⟩ : ∃ Az1, Az1 = (((((((((A.put (some 108) (.int .i64 0)).put (some 109) (.bool false)).put (some 110) (.bool false)).put (some 111) (.slice (some ⟨g, 0, none⟩) 256 c)).put (some 112) (.int .i64 256)).put (some 113) (.bool false)).put (some 114) (.bool false)).put (some 115) (.bool false)).put (some 116) (.slice (some ⟨g, 0, none⟩) 256 c)) := ⟨_, rfl⟩
  have szAz1 : Az1.tmps.size = 134 := by rw [hAz1]; simp [put_sz, sz]
  have eAz19 : Az1.eval (.tmp 9) = .slice (some ⟨gw, 0, none⟩) 14 cw := by rw [hAz1]; exact ((ev_ne _ _ (by decide)).trans ((ev_ne _ _ (by decide)).trans ((ev_ne _ _ (by decide)).trans ((ev_ne _ _ (by decide)).trans ((ev_ne _ _ (by decide)).trans ((ev_ne _ _ (by decide)).trans ((ev_ne _ _ (by decide)).trans ((ev_ne _ _ (by decide)).trans ((ev_ne _ _ (by decide)).trans e9)))))))))
  have eAz116 : Az1.eval (.tmp 16) = .int .i64 (q : Int) := by rw [hAz1]; exact ((ev_ne _ _ (by decide)).trans ((ev_ne _ _ (by decide)).trans ((ev_ne _ _ (by decide)).trans ((ev_ne _ _ (by decide)).trans ((ev_ne _ _ (by decide)).trans ((ev_ne _ _ (by decide)).trans ((ev_ne _ _ (by decide)).trans ((ev_ne _ _ (by decide)).trans ((ev_ne _ _ (by decide)).trans e16)))))))))
  have eAz1115 : Az1.eval (.tmp 115) = .bool false := by rw [hAz1]; exact ((ev_ne _ _ (by decide)).trans (ev_eq _ _ (by simp [put_sz, sz])))
  have eAz1116 : Az1.eval (.tmp 116) = .slice (some ⟨g, 0, none⟩) 256 c := by rw [hAz1]; exact (ev_eq _ _ (by simp [put_sz, sz]))
  rw [← hAz1]
  refine wpAnyG_take (i := 9) (v := .pointer (some ⟨g, 0, none⟩)) rfl (by kernel_rfl) (by kernel_rfl) (by kernel_rfl) (fun _ _ _ h => nomatch h.1) (yg_ix (guard_f (i := 7) (d := 115) rfl rfl (by simp [szAz1]) eAz1115) (.tmp 116) (.const (.int .i64 0)) rfl eAz1116 rfl (fun w => by simp [go_sem])) hs0 ?_
  show wpAnyG _ _ _ _ _ _ _ _ (Az1.put (some 117) (.pointer (some ⟨g, 0, none⟩))) _
  refine wpAnyG_take (i := 10) (v := .int .u8 (v.toNat : Int)) rfl (by kernel_rfl) (by kernel_rfl) (by kernel_rfl) (fun _ _ _ h => nomatch h.1) (yg_ld (guard_f (i := 7) (d := 115) rfl rfl (by simp [put_sz, szAz1]) ((ev_ne _ _ (by decide)).trans eAz1115)) (.tmp 117) rfl (ev_eq _ _ (by simp [szAz1])) (fun w hw => by have h1 := hw.1; simp [go_sem, h1])) hs0 ?_
  show wpAnyG _ _ _ _ _ _ _ _ ((Az1.put (some 117) (.pointer (some ⟨g, 0, none⟩))).put (some 118) (.int .u8 (v.toNat : Int))) _
  refine wpAnyG_take (i := 11) (v := .slice (some ⟨gw, 0, none⟩) 14 cw) rfl (by kernel_rfl) (by kernel_rfl) (by kernel_rfl) (fun _ _ _ h => nomatch h.1) (yg_mv (guard_f (i := 7) (d := 115) rfl rfl (by simp [put_sz, szAz1]) ((ev_ne _ _ (by decide)).trans ((ev_ne _ _ (by decide)).trans eAz1115))) (.tmp 9) rfl ((ev_ne _ _ (by decide)).trans ((ev_ne _ _ (by decide)).trans eAz19))) hs0 ?_
  show wpAnyG _ _ _ _ _ _ _ _ (((Az1.put (some 117) (.pointer (some ⟨g, 0, none⟩))).put (some 118) (.int .u8 (v.toNat : Int))).put (some 119) (.slice (some ⟨gw, 0, none⟩) 14 cw)) _
  refine wpAnyG_take (i := 12) (v := .int .i64 (q : Int)) rfl (by kernel_rfl) (by kernel_rfl) (by kernel_rfl) (fun _ _ _ h => nomatch h.1) (yg_mv (guard_f (i := 7) (d := 115) rfl rfl (by simp [put_sz, szAz1]) ((ev_ne _ _ (by decide)).trans ((ev_ne _ _ (by decide)).trans ((ev_ne _ _ (by decide)).trans eAz1115)))) (.tmp 16) rfl ((ev_ne _ _ (by decide)).trans ((ev_ne _ _ (by decide)).trans ((ev_ne _ _ (by decide)).trans eAz116)))) hs0 ?_
  show wpAnyG _ _ _ _ _ _ _ _ ((((Az1.put (some 117) (.pointer (some ⟨g, 0, none⟩))).put (some 118) (.int .u8 (v.toNat : Int))).put (some 119) (.slice (some ⟨gw, 0, none⟩) 14 cw)).put (some 120) (.int .i64 (q : Int))) _
  refine wpAnyG_take (i := 13) (v := .pointer (some ⟨gw, q, none⟩)) rfl (by kernel_rfl) (by kernel_rfl) (by kernel_rfl) (fun _ _ _ h => nomatch h.1) (yg_ix (guard_f (i := 7) (d := 115) rfl rfl (by simp [put_sz, szAz1]) ((ev_ne _ _ (by decide)).trans ((ev_ne _ _ (by decide)).trans ((ev_ne _ _ (by decide)).trans ((ev_ne _ _ (by decide)).trans eAz1115))))) (.tmp 119) (.tmp 120) rfl ((ev_ne _ _ (by decide)).trans (ev_eq _ _ (by simp [put_sz, szAz1]))) (ev_eq _ _ (by simp [put_sz, szAz1])) (fun w => by simp [go_sem, hq1])) hs0 ?_
  show wpAnyG _ _ _ _ _ _ _ _ (((((Az1.put (some 117) (.pointer (some ⟨g, 0, none⟩))).put (some 118) (.int .u8 (v.toNat : Int))).put (some 119) (.slice (some ⟨gw, 0, none⟩) 14 cw)).put (some 120) (.int .i64 (q : Int))).put (some 121) (.pointer (some ⟨gw, q, none⟩))) _
  refine wpAnyG_take (i := 14) (v := .int .u8 (v.toNat : Int)) rfl (by kernel_rfl) (by kernel_rfl) (by kernel_rfl) (fun _ _ _ h => nomatch h.1) (yg_ld (guard_f (i := 7) (d := 115) rfl rfl (by simp [put_sz, szAz1]) ((ev_ne _ _ (by decide)).trans ((ev_ne _ _ (by decide)).trans ((ev_ne _ _ (by decide)).trans ((ev_ne _ _ (by decide)).trans ((ev_ne _ _ (by decide)).trans eAz1115)))))) (.tmp 121) rfl (ev_eq _ _ (by simp [put_sz, szAz1])) (fun w hw => by have h1 := hw.2; simp [go_sem, h1])) hs0 ?_
  show wpAnyG _ _ _ _ _ _ _ _ ((((((Az1.put (some 117) (.pointer (some ⟨g, 0, none⟩))).put (some 118) (.int .u8 (v.toNat : Int))).put (some 119) (.slice (some ⟨gw, 0, none⟩) 14 cw)).put (some 120) (.int .i64 (q : Int))).put (some 121) (.pointer (some ⟨gw, q, none⟩))).put (some 122) (.int .u8 (v.toNat : Int))) _
  refine wpAnyG_take (i := 15) (v := .bool false) rfl (by kernel_rfl) (by kernel_rfl) (by kernel_rfl) (fun _ _ _ h => nomatch h.1) (yg_bin (guard_f (i := 7) (d := 115) rfl rfl (by simp [put_sz, szAz1]) ((ev_ne _ _ (by decide)).trans ((ev_ne _ _ (by decide)).trans ((ev_ne _ _ (by decide)).trans ((ev_ne _ _ (by decide)).trans ((ev_ne _ _ (by decide)).trans ((ev_ne _ _ (by decide)).trans eAz1115))))))) (.tmp 118) (.tmp 122) rfl ((ev_ne _ _ (by decide)).trans ((ev_ne _ _ (by decide)).trans ((ev_ne _ _ (by decide)).trans ((ev_ne _ _ (by decide)).trans (ev_eq _ _ (by simp [put_sz, szAz1])))))) (ev_eq _ _ (by simp [put_sz, szAz1])) (fun w => by simp [go_sem])) hs0 ?_
  show wpAnyG _ _ _ _ _ _ _ _ (((((((Az1.put (some 117) (.pointer (some ⟨g, 0, none⟩))).put (some 118) (.int .u8 (v.toNat : Int))).put (some 119) (.slice (some ⟨gw, 0, none⟩) 14 cw)).put (some 120) (.int .i64 (q : Int))).put (some 121) (.pointer (some ⟨gw, q, none⟩))).put (some 122) (.int .u8 (v.toNat : Int))).put (some 123) (.bool false)) _
  refine wpAnyG_take (i := 16) (v := .bool false) rfl (by kernel_rfl) (by kernel_rfl) (by kernel_rfl) (fun _ _ _ h => nomatch h.1) (yg_pickF (by simp [Region.wanted]) (.tmp 115) (.const (.bool true)) (.tmp 123) rfl ((ev_ne _ _ (by decide)).trans ((ev_ne _ _ (by decide)).trans ((ev_ne _ _ (by decide)).trans ((ev_ne _ _ (by decide)).trans ((ev_ne _ _ (by decide)).trans ((ev_ne _ _ (by decide)).trans ((ev_ne _ _ (by decide)).trans eAz1115))))))) (ev_eq _ _ (by simp [put_sz, szAz1]))) hs0 ?_
  show wpAnyG _ _ _ _ _ _ _ _ ((((((((Az1.put (some 117) (.pointer (some ⟨g, 0, none⟩))).put (some 118) (.int .u8 (v.toNat : Int))).put (some 119) (.slice (some ⟨gw, 0, none⟩) 14 cw)).put (some 120) (.int .i64 (q : Int))).put (some 121) (.pointer (some ⟨gw, q, none⟩))).put (some 122) (.int .u8 (v.toNat : Int))).put (some 123) (.bool false)).put (some 124) (.bool false)) _
  refine wpAnyG_done (by kernel_rfl) ⟨rfl, ?_, rfl⟩ _
  show ((((((((Az1.put (some 117) (.pointer (some ⟨g, 0, none⟩))).put (some 118) (.int .u8 (v.toNat : Int))).put (some 119) (.slice (some ⟨gw, 0, none⟩) 14 cw)).put (some 120) (.int .i64 (q : Int))).put (some 121) (.pointer (some ⟨gw, q, none⟩))).put (some 122) (.int .u8 (v.toNat : Int))).put (some 123) (.bool false)).put (some 124) (.bool false)) = _
  rw [hAz1]
set_option maxHeartbeats 4000000 in
theorem topWorn_walk (a : Option Addr) (l : List UInt8) (cap : Nat) (w : World) (hl : Bytes w a l) (hll : l.length ≤ 9223372036854775807) : Calls Tryz.prog 11 #[.slice a l.length cap] w fun e w' => e = .returned (.bool true) ∧ Below w.heap.size w w' := by
  obtain ⟨i0, hi0, hz0, hz1, hz2⟩ := info_parts Tryz.info5
  obtain ⟨N, hN⟩ : ∃ N, N = l.length := ⟨_, rfl⟩
  have HL := hid hl
  have HN := hid hN
  rw [← hN] at hll ⊢
  clear hl hN
  go_enter Tryz.func11, Tryz.ntmps11
  go_wp2_with fail
  refine (new_ok 20 w (by omega) (by omega)).mono ?_
  rintro _ w1 ⟨d0, g0, cap0, rfl, hD, hb1⟩
  have Ho := hid (open_ok hD 5 0 14 [] (by exact inv_new 20 5 14 rfl (by omega) (by omega) (by omega)) (by omega) (by simp))
  have Hb1 := hid hb1
  clear hD hb1
  go_wp2_with fail
  refine Ho.out.mono ?_
  rintro _ w2 ⟨lg, d, g, cp, mb, n0, rfl, hn0, hM, hb2⟩
  obtain rfl : n0 = 0 := by
    have : usedOf [] = 0 := rfl
    omega
  have HM := hid (hM.mono Hb1.out.size)
  have Hb2 := hid (Below.on' Hb1.out hb2)
  clear hM hb2 Ho Hb1
  have hA : At1 w2 0 5 14 0 lg d g cp mb 0 (.slice none 0 0) 0 [] [] := ⟨HM.out.mono (B' := 0) (Nat.zero_le _), inv_new _ 5 14 rfl (by omega) (by omega) (by omega), Nat.le_refl _, Nat.zero_le _, Nat.zero_le _⟩
  have HNw := hid (pgNew_ok hA (by omega) 3 (by omega) (by omega))
  clear hA
  go_wp2_with fail
  refine HNw.out.mono ?_
  rintro _ w3 ⟨p, pm, rfl, hP, hb3, hfr, hl3⟩
  have Hb3 := hid (Below.on' Hb2.out hb3)
  obtain ⟨s0, hs0⟩ : ∃ s0, s0 = newS 5 14 0 0 [] [] 3 := ⟨_, rfl⟩
  have HC3 : Hid (CacheL w3 p s0 (fun k => k < w.heap.size) lg) := by
    rw [hs0]
    refine ⟨pm, hP, newS_ext _ _ _ _ _ _ _, fun k hk => ⟨Nat.lt_of_lt_of_le hk Hb3.out.size, fun ha => ?_⟩, hl3⟩
    rcases hfr k ha with h5 | h5
    · have := (HM.out.lts k h5).1; omega
    · have := Hb2.out.size; omega
  have k0 : Hid (s0.S = 5 ∧ s0.P = 14 ∧ s0.dl = [] ∧ s0.t = 0 ∧ ∀ q, q < 14 → s0.page q = List.replicate 256 0) := by
    rw [hs0]
    refine ⟨rfl, rfl, rfl, rfl, fun q hq => ?_⟩
    show (fresh 5 14).getD (5 + 1 + q) [] = _
    unfold fresh
    rw [List.getD_eq_getElem?_getD, List.getElem?_replicate, if_pos (by omega)]
    rfl
  clear hP hb3 hfr HNw hs0 hl3
  go_wp2_with (at_make; refine wpList_make_full _ rfl _ _ 49 rfl w3.heap.size 5 i0 (.int .u8 0) 1 Tryz.underlying49 hi0 hz0 hz1 .i64 .i64 _ _ 14 rfl rfl (by omega) (by omega) (by rw [hz2]; omega) (by unfold maxLen; omega) (Nat.le_refl _) ?_; intro w4 hown4 hgrow4)
  have hsz3 := Hb3.out.size
  have hb4 : Below w3.heap.size w3 w4 := (Below.refl _ w3).grown hgrow4 (Nat.le_refl _) (by simp)
  have hgl := (hown4.lt w3.heap.size rfl).2
  obtain ⟨F, hF⟩ : ∃ F : Nat → Prop, F = fun k => k < w.heap.size ∨ k = w3.heap.size := ⟨_, rfl⟩
  have HFg : Hid (F w3.heap.size) := by rw [hF]; exact .inr rfl
  have HFw : Hid (∀ k, k < w.heap.size → F k) := by rw [hF]; exact fun k hk => .inl hk
  have HC4 : Hid (CacheL w4 p s0 F lg) := HC3.out.add hb4 (fun k hk => by
    rw [hF] at hk
    rcases hk with hk | hk
    · exact .inl hk
    · exact .inr ⟨by omega, by omega⟩)
  have Hb4 := hid (Below.on' Hb3.out hb4)
  rw [made_zeros] at hown4
  have HO4 := hid (hown4.mono hsz3)
  clear hF hb4 hgrow4 hown4 HC3 Hb3
  go_wp2_with fail
  go_loopw [10] (fun i wr => ∃ (k : Nat) (s : PS) (ws : List UInt8), k ≤ N ∧ k ≤ 60 ∧ i = .int .i64 (k : Int) ∧ (s.S = 5 ∧ s.P = 14 ∧ s.dl = []) ∧ s.t ≤ 4 * k ∧ ws.length = 14 ∧ (∀ q, q < 14 → (s.page q)[0]? = ws[q]?) ∧ wr.ownsRow w.heap.size 5 1 (.slice (some ⟨w3.heap.size, 0, none⟩) 14 14) 14 (cellsOf ws) ∧ CacheL wr p s F lg ∧ Below w.heap.size w wr) (fun i _ => 60 - (intOf i).toNat)
  case atStart => exact ⟨0, s0, List.replicate 14 0, Nat.zero_le _, Nat.zero_le _, rfl, ⟨k0.out.1, k0.out.2.1, k0.out.2.2.1⟩, by have := k0.out.2.2.2.1; omega, List.length_replicate, fun q hq => by rw [k0.out.2.2.2.2 q hq, List.getElem?_replicate, List.getElem?_replicate, if_pos (by omega), if_pos hq], HO4.out, HC4.out, Hb4.out⟩
  case round =>
    obtain ⟨k, s, ws, hkN, hk60, rfl, hs, hst, hws, hpg, hO, hC, hB⟩ := hrel
    have Hs := hid hs
    have Hws := hid hws
    have Hpg := hid hpg
    have HO := hid hO
    have HC := hid hC
    have HB := hid hB
    clear hs hws hpg hO hC hB HO4 HC4 Hb4
    by_cases hlt : k < N ∧ k < 60
    · obtain ⟨hlt1, hlt2⟩ := hlt
      have f1 : (k : Int) < (N : Int) := by omega
      have f2 : (k : Int) < 60 := by omega
      have hkl : k < l.length := by have := HN.out; omega
      obtain ⟨b, o, ha, d0⟩ := HL.out k hkl
      subst ha
      have d1 := (HB.out.cell (World.block_lt_of_cell? _ _ d0)).trans d0
      obtain ⟨x, hx⟩ : ∃ x, x = (l[k]).toNat := ⟨_, rfl⟩
      have hx256 : x < 256 := by rw [hx]; exact (l[k]).toNat_lt
      rw [← hx] at d1
      clear hx d0
      go_wp2_with (at_make; refine wpList_make_full _ rfl _ _ 49 rfl wr.heap.size 5 i0 (.int .u8 0) 1 Tryz.underlying49 hi0 hz0 hz1 .i64 .i64 _ _ 256 rfl rfl (by omega) (by omega) (by rw [hz2]; omega) (by unfold maxLen; omega) (Nat.le_refl _) ?_; intro w5 hown5 hgrow5; rw [made_zeros] at hown5; have c2 := (hown5.cellAt 0 (by omega)).trans (cellsOf_get _ 0 (by simp)); have c3 := hown5.frozenAt 0; rw [List.getElem_replicate] at c2; have Hown5 := hid hown5; have Hgrow5 := hid hgrow5; clear hown5 hgrow5)
      generalize hnz : (x : Int) % 14 = nz
      obtain ⟨n, rfl, hn14⟩ : ∃ n : Nat, nz = (n : Int) ∧ n < 14 := ⟨nz.toNat, by omega, by omega⟩
      obtain ⟨by8, hby8⟩ : ∃ by8 : UInt8, by8 = UInt8.ofNat (k + 1) := ⟨_, rfl⟩
      have hby : (by8.toNat : Int) = (k : Int) + 1 := by rw [hby8, UInt8.toNat_ofNat']; omega
      obtain ⟨y, hy⟩ : ∃ y : List UInt8, y = (List.replicate 256 0).set 0 by8 := ⟨_, rfl⟩
      have hyl : y.length = 256 := by rw [hy]; simp
      obtain ⟨w6, hw6⟩ : ∃ w6, w6 = w5.setCell ⟨wr.heap.size, 0, none⟩ (.int .u8 ((k : Int) + 1)) := ⟨_, rfl⟩
      rw [← hw6]
      have b5 : Below wr.heap.size wr w5 := (Below.refl _ wr).grown Hgrow5.out (Nat.le_refl _) (by simp)
      have b6 : Below wr.heap.size wr w6 := by rw [hw6]; exact b5.setCell (Nat.le_refl _) _
      have r6 : w6.ownsRow wr.heap.size 5 1 (.slice (some ⟨wr.heap.size, 0, none⟩) 256 256) 256 (cellsOf y) := by
        have h1 := (Hown5.out.stored 0 (.int .u8 ((k : Int) + 1))).1
        have e : (cellsOf (List.replicate 256 0)).set 0 (.int .u8 ((k : Int) + 1)) = cellsOf y := by rw [hy, ← hby]; simp [cellsOf]
        rw [e] at h1
        rw [hw6]
        exact h1
      have hG : s.G ≤ 240 := by
        obtain ⟨m, h1, _⟩ := HC.out
        have := h1.log.gr
        omega
      have HC6 := hid (HC.out.below b6)
      have HO6 := hid (own_below HO.out b6)
      have HB6 := hid (Below.on' HB.out b6)
      have HGr := hid (groups_l HC6.out (by omega))
      have HW := hid (write_l HC6.out (by omega) n (by have := Hs.out.2.1; omega) (by have := Hs.out.2.1; omega) y hyl Hs.out.2.2 (some ⟨wr.heap.size, 0, none⟩) 256 (bytes_of_row r6 hyl))
      have HY := hid hy
      have HYl := hid hyl
      have HBy := hid hby
      have szr : wr.heap.size ≤ w6.heap.size := b6.size
      have f9 : IntKind.i64.wrap ((s.G : Int) + 1) = (s.G : Int) + 1 := by rw [IntKind.wrap_i64]; omega
      clear hnz hby8 hby hy hyl hw6 b5 b6 r6 Hown5 Hgrow5 c2 c3 d1
      go_wp2_with fail
      refine HGr.out.mono ?_
      rintro _ _ ⟨rfl, rfl⟩
      clear HGr
      go_wp2_with fail
      refine HW.out.mono ?_
      rintro _ w7 ⟨rfl, C7, o7⟩
      obtain ⟨sW, hsW⟩ : ∃ sW, sW = writeS s n y := ⟨_, rfl⟩
      rw [← hsW] at C7
      have HsW : Hid (sW.dl.length = 1 ∧ sW.S = 5 ∧ sW.P = 14 ∧ sW.t = s.t + 1 ∧ sW.G = s.G ∧ comOk sW ∧ ∀ q, q < 14 → sW.now q = if q = n then y else s.page q) := by
        have hd1 : sW.dl.length = 1 := by rw [hsW]; show (dIns n y s.dl).length = 1; rw [Hs.out.2.2]; rfl
        have hS5 : sW.S = 5 := by rw [hsW]; exact Hs.out.1
        refine ⟨hd1, hS5, by rw [hsW]; exact Hs.out.2.1, by rw [hsW]; rfl, by rw [hsW]; rfl, .inr (by rw [hd1, hS5]; omega), fun q hq => ?_⟩
        have hok : CaOk s := by obtain ⟨m, h1, _⟩ := HC6.out; exact h1.ok
        rw [hsW, writeS_now hok]
        have e : s.now q = s.page q := by unfold PS.now; rw [Hs.out.2.2]; rfl
        rw [e]
      have HCo := hid (com_l C7 (by have := HsW.out.2.2.2.1; omega) (by have := HsW.out.2.2.1; omega) HsW.out.2.2.2.2.2.1)
      have HC7 := hid C7
      have HO7 := hid (own_keep HO6.out (w' := w7) (fun k e => by cases e; exact o7.get HFg.out (HO6.out.lt _ rfl).2))
      have HB7 := hid (HB6.out.trans (o7.below (B := w.heap.size) HB6.out.size (fun k hk => HFw.out k hk)))
      clear hsW C7 o7 HW HC6 HO6 HB6
      go_wp2_with fail
      refine HCo.out.mono ?_
      rintro _ w8 ⟨rfl, C8, o8⟩
      have hG8 : (commitS sW).G = s.G + 1 := by rw [commitS_G (by have := HsW.out.1; omega), HsW.out.2.2.2.2.1]
      obtain ⟨q1, q2, q3, q4, q5, q6, q7⟩ := commitS_same (s := sW)
      have hdl8 := commitS_dl (s := sW)
      have hpg8 : ∀ q, q < 14 → (commitS sW).page q = if q = n then y else s.page q := fun q hq => by
        obtain ⟨m, h1, _⟩ := HC7.out
        rw [commitS_page h1 (by have := h1.log.gr; have := HsW.out.2.2.2.1; omega) HsW.out.2.2.2.2.2.1 q (by have := HsW.out.2.2.1; omega)]
        exact HsW.out.2.2.2.2.2.2 q hq
      obtain ⟨s8, hs8⟩ : ∃ s8, s8 = commitS sW := ⟨_, rfl⟩
      rw [← hs8] at C8 hG8 q3 q4 q5 hdl8 hpg8
      have HGr := hid (groups_l C8 (by have := HsW.out.2.2.2.1; omega))
      rw [hG8, show ((s.G + 1 : Nat) : Int) = (s.G : Int) + 1 by omega] at HGr
      have HUs := hid (used_l C8)
      have HO8 := own_keep HO7.out (w' := w8) (fun k e => by cases e; exact o8.get HFg.out (HO7.out.lt _ rfl).2)
      have HB8 := hid (HB7.out.trans (o8.below (B := w.heap.size) HB7.out.size (fun k hk => HFw.out k hk)))
      have c4 := (HO8.cellAt n (by omega)).trans (cellsOf_get _ n (by rw [Hws.out]; exact hn14))
      have c5 := HO8.frozenAt n
      have Hst := hid (HO8.stored n (.int .u8 ((k : Int) + 1)))
      generalize (ws[n]'(by rw [Hws.out]; exact hn14)).toNat = c0 at c4
      have g1 : (n : Int) < 14 := by omega
      have H8 : Hid (s8.S = 5 ∧ s8.P = 14 ∧ s8.dl = [] ∧ s8.t = s.t + 4 ∧ ∀ q, q < 14 → s8.page q = if q = n then y else s.page q) := ⟨by rw [q3]; exact HsW.out.2.1, by rw [q4]; exact HsW.out.2.2.1, hdl8, by have := HsW.out.2.2.2.1; omega, hpg8⟩
      have HC8 := hid C8
      clear C8 o8 HO8 hG8 q1 q2 q3 q4 q5 q6 q7 hdl8 hpg8 hs8 HCo HO7 HB7
      have HS8 := hid H8.out.1
      go_wp2_with (first | (go_at_call 46; refine HGr.out.mono ?_; rintro _ _ ⟨rfl, rfl⟩) | (go_at_call 47; refine HUs.out.mono ?_; rintro _ _ ⟨uu, rfl, huu, rfl⟩; have g5 : ¬ (5 : Int) < (uu : Int) := by (have := HS8.out; omega)))
      go_roundw
      case rel =>
        refine ⟨k + 1, s8, ws.set n by8, by omega, by omega, by go_num, ⟨H8.out.1, H8.out.2.1, H8.out.2.2.1⟩, by have := H8.out.2.2.2.1; omega, by rw [List.length_set]; exact Hws.out, fun q hq => ?_, ?_, HC8.out.set HFg.out (by simp [World.setCell]) (fun j hj => heap_setCell_other _ _ _ _ hj), HB8.out.setCell hsz3 _⟩
        · rw [H8.out.2.2.2.2 q hq]
          by_cases hqn : q = n
          · subst hqn
            rw [if_pos rfl, HY.out, List.getElem?_set_self (by simp), List.getElem?_set_self (by rw [Hws.out]; exact hq)]
          · rw [if_neg hqn, List.getElem?_set_ne (fun e => hqn e.symm)]
            exact Hpg.out q hq
        · have h1 := Hst.out.1
          have e : (cellsOf ws).set n (.int .u8 ((k : Int) + 1)) = cellsOf (ws.set n by8) := by rw [← HBy.out]; simp [cellsOf, List.map_set]
          rw [e] at h1
          exact h1
      case measure => simp [intOf]; omega
    · have HDk := hid (disk_l HC.out (by omega))
      rw [Hs.out.1] at HDk
      have HGr : Hid (∀ w', Below wr.heap.size wr w' → Calls Tryz.prog 46 #[.pointer (some ⟨lg, 0, none⟩)] w' fun e w'' => e = .returned (.int .i64 (s.G : Int)) ∧ w'' = w') := fun w' hb => groups_l (HC.out.below hb) (by omega)
      have hG : s.G ≤ 240 := by
        obtain ⟨m, h1, _⟩ := HC.out
        have := h1.log.gr
        omega
      have Hpl : Hid (∀ q, q < 14 → (psOf (fresh 5 s.P) s.ls)[(plOf s.gs q).getD (5 + 1 + q)]? = some (s.page q) ∧ (s.page q).length = 256 ∧ (psOf (fresh 5 s.P) s.ls).length = 5 + 1 + 14 ∧ (psOf (fresh 5 s.P) s.ls).length ≤ 1024) := fun q hq => by
        have h := page_l HC.out (q := q) (by have := Hs.out.2.1; omega)
        rw [Hs.out.1] at h
        exact ⟨h.1, h.2.1, by rw [h.2.2.1, Hs.out.2.1], h.2.2.2⟩
      rcases (show (¬ (k : Int) < (N : Int)) ∨ ((k : Int) < (N : Int) ∧ ¬ (k : Int) < 60) by omega) with f1 | ⟨f1, f2⟩
      all_goals
        go_wp2_with fail
        refine HDk.out.mono ?_
        rintro _ w5 ⟨d', rfl, b5, hop⟩
        have Hop := hid hop
        have B5 := hid b5
        clear hop b5 HDk
        go_wp2_with fail
        refine Hop.out.mono ?_
        rintro _ w6 ⟨l2, d2, g2, cap2, mb2, n2, rfl, hM, b6⟩
        have HM2 := hid hM
        have B6 := hid (Below.on' B5.out b6)
        clear hM b6 Hop
        go_wp2_with fail
        go_loopw [16] (fun i wr2 => ∃ j : Nat, j ≤ 14 ∧ i = .int .i64 (j : Int) ∧ Below w6.heap.size w6 wr2) (fun i _ => 14 - (intOf i).toNat)
        case atStart => exact ⟨0, by omega, rfl, Below.refl _ _⟩
        case round =>
          obtain ⟨j, hj, rfl, hB7⟩ := hrel
          have HB7 := hid hB7
          clear hB7
          by_cases hj14 : j < 14
          · obtain ⟨p1, p2, p3, p4⟩ := Hpl.out j hj14
            have HRd := hid (logRead_ok (HM2.out.below HB7.out) 14 p3 p4 j hj14 (s.page j) p1)
            have g1 : (j : Int) < 14 := by omega
            have Hp2 := hid p2
            clear p1 p2 p3 p4
            go_wp2_with fail
            refine HRd.out.mono ?_
            rintro _ w8 ⟨g8, c8, rfl, r8, _, b8⟩
            have B8 := hid (Below.on' HB7.out b8)
            have Bw8 := Below.on' B6.out B8.out
            have hO8 := own_below HO.out Bw8
            obtain ⟨v, hv⟩ : ∃ v, v = ws[j]'(by rw [Hws.out]; exact hj14) := ⟨_, rfl⟩
            have c1 := (hO8.cellAt j (by omega)).trans (cellsOf_get _ j (by rw [Hws.out]; exact hj14))
            rw [← hv] at c1
            have hp0 : (s.page j)[0]? = some v := by
              rw [Hpg.out j hj14, List.getElem?_eq_getElem (by rw [Hws.out]; exact hj14), hv]
            have c2 : w8.cell? ⟨g8, 0, none⟩ = some (.int .u8 (v.toNat : Int)) := by
              have h0 : 0 < (s.page j).length := by rw [Hp2.out]; omega
              have h1 := (r8.cellAt 0 (by omega)).trans (cellsOf_get _ 0 h0)
              rw [List.getElem?_eq_getElem h0] at hp0
              rw [Option.some.inj hp0] at h1
              exact h1
            clear hp0 hv hO8 r8 b8 HRd
            have Hc1 := hid c1
            have Hc2 := hid c2
            clear c1 c2 Bw8
            go_wp2_with fail
            obtain ⟨V0, hV0⟩ : ∃ V0, V0 = w8.drew := ⟨_, rfl⟩
            have b10 : Below w8.heap.size w8 V0 := by rw [hV0]; exact (Below.refl _ w8).drew
            refine wp_act _ fun A hA => ?_
            have sz : A.tmps.size = 134 := by rw [hA]; rfl
            have e9 : A.eval (.tmp 9) = .slice (some ⟨w3.heap.size, 0, none⟩) 14 14 := by rw [hA]; rfl
            have e16 : A.eval (.tmp 16) = .int .i64 (j : Int) := by rw [hA]; rfl
            have e17 : A.eval (.tmp 17) = .slice (some ⟨g8, 0, none⟩) 256 c8 := by rw [hA]; rfl
            have e18 : A.eval (.tmp 18) = .int .i64 0 := by rw [hA]; rfl
            refine wp_split _ (wo_region22 sz e9 e16 e17 e18 hj14 hV0 ⟨(b10.cell (World.block_lt_of_cell? _ _ Hc2.out)).trans Hc2.out, (b10.cell (World.block_lt_of_cell? _ _ Hc1.out)).trans Hc1.out⟩) ?_
            rintro _ _ ⟨rfl, rfl⟩
            rw [hA]
            simp only [Act.put, List.setIfInBounds_toArray, List.set_cons_succ, List.set_cons_zero]
            have HB10 := hid (Below.on' B8.out b10)
            clear hA sz e9 e16 e17 e18 b10 hV0
            go_wp2
            go_roundw
            case rel => exact ⟨j + 1, by omega, by go_num, HB10.out⟩
            case measure => simp [intOf]; omega
          · have Bw := Below.on' B6.out HB7.out
            have HG1 := hid (groups_any (HM2.out.below HB7.out) (by omega))
            have HG2 := hid (HGr.out _ Bw)
            have HBe := hid (Below.on' HB.out Bw)
            clear Bw
            go_wp2_with fail
            refine HG1.out.mono ?_
            rintro _ _ ⟨rfl, rfl⟩
            go_wp2_with fail
            refine HG2.out.mono ?_
            rintro _ _ ⟨rfl, rfl⟩
            go_wp2
            go_ret
            exact ⟨ret_bool (by simp), HBe.out⟩
theorem cellsByteW : Tryz.prog.cellsOf 5 = 1 := by kernel_rfl
open Go.ChangeShapes Go.WideShapes Go.ChangeAt Go.Deep in
/-- a row of bytes that is handed in -/
theorem open_bytesW {H : Type} {enc : TypeId × Value → H} {W : World} {a : Option Addr} {len cap : Nat} {d : DataW H} {p : List MemPlace}
    (h : DataW.Trod enc Tryz.prog W 0 (fun _ => true) true 49 (.slice a len cap) d p) : ∃ l : List UInt8, l.length = len ∧ Bytes W a l ∧ l.length ≤ 9223372036854775807 := by
  obtain ⟨fuel, hf⟩ := h
  rcases open_ints Tryz.underlying49 Tryz.underlying5 cellsByteW hf with ⟨hcs, _⟩ | ⟨x, l', c', zs, hcs, _, hl, hm, hz, hx, hcell, hwz⟩
  · simp [Value.cells] at hcs
    obtain ⟨rfl, rfl, rfl⟩ := hcs
    exact ⟨[], rfl, fun i hi => by simp at hi, by simp⟩
  · simp [Value.cells] at hcs
    obtain ⟨rfl, rfl, rfl⟩ := hcs
    simp only [if_true] at hz
    have hlen : ((zs.take len).map fun z => UInt8.ofNat z.toNat).length = len := by rw [List.length_map, List.length_take]; omega
    refine ⟨(zs.take len).map fun z => UInt8.ofNat z.toNat, hlen, fun i hi => ?_, by rw [hlen]; unfold maxLen at hm; omega⟩
    obtain ⟨b, o, spot⟩ := x
    have hc := hcell i (by omega)
    have hspot : spot = none := by simpa [Addr.add] using World.cell?_spot (hcell 0 (by omega))
    subst hspot
    refine ⟨b, o, rfl, ?_⟩
    rw [addr_add] at hc
    rw [hc]
    have hi' : i < zs.length := by omega
    have hw := hwz zs[i] (List.getElem_mem _)
    have hr : 0 ≤ zs[i] ∧ zs[i] ≤ 255 := by simpa [Lit.wf, IntKind.min, IntKind.max, IntKind.signed, IntKind.bits] using hw
    simp only [List.getD, List.getElem?_eq_getElem hi', Option.getD_some, List.getElem_map, List.getElem_take]
    congr 2
    rw [UInt8.toNat_ofNat']
    omega

end Go.Proofs.YtdieafkmnckhaaaGreat
