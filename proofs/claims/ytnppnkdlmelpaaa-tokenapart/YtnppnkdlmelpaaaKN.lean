/- TokenNarrow and TokenLasts, walked. -/
import Derived.Test.YtnppnkdlmelpaaaKD3
namespace Go.Proofs.Ytnppnkdlmelpaaa
open Go.RowKit Go.Maps Go.Sort Go.Shelf
set_option linter.unusedVariables false
set_option maxRecDepth 20000

/-- deeds that lie in a row of the world -/
structure KDs (w : World) (a : Option Addr) (l : List KDeed) : Prop where
  cells : ∀ i (h : i < l.length), ∃ b o, a = some ⟨b, o, none⟩ ∧ w.cell? ⟨b, o + i * 7, none⟩ = some (.int .i64 l[i].kind) ∧ w.cell? ⟨b, o + i * 7 + 1, none⟩ = some (.int .i64 l[i].id) ∧ w.cell? ⟨b, o + i * 7 + 2, none⟩ = some (.int .i64 l[i].num) ∧ w.cell? ⟨b, o + i * 7 + 3, none⟩ = some (.int .i64 l[i].now) ∧ w.cell? ⟨b, o + i * 7 + 4, none⟩ = some (.string l[i].cli) ∧ w.cell? ⟨b, o + i * 7 + 5, none⟩ = some (.int .u8 l[i].sco) ∧ w.cell? ⟨b, o + i * 7 + 6, none⟩ = some (.slice l[i].sa l[i].zs.length l[i].sc)
  ok : ∀ x ∈ l, DeedOk w w.heap.size x
  length : l.length ≤ maxLen
theorem KDs.at {w w' : World} {a : Option Addr} {l : List KDeed} (h : KDs w a l) (hb : Below w.heap.size w w') {k : Nat} {x : KDeed} (hx : l[k]? = some x) : ∃ b o, a = some ⟨b, o, none⟩ ∧ w'.cell? ⟨b, o + k * 7, none⟩ = some (.int .i64 x.kind) ∧ w'.cell? ⟨b, o + k * 7 + 1, none⟩ = some (.int .i64 x.id) ∧ w'.cell? ⟨b, o + k * 7 + 2, none⟩ = some (.int .i64 x.num) ∧ w'.cell? ⟨b, o + k * 7 + 3, none⟩ = some (.int .i64 x.now) ∧ w'.cell? ⟨b, o + k * 7 + 4, none⟩ = some (.string x.cli) ∧ w'.cell? ⟨b, o + k * 7 + 5, none⟩ = some (.int .u8 x.sco) ∧ w'.cell? ⟨b, o + k * 7 + 6, none⟩ = some (.slice x.sa x.zs.length x.sc) ∧ DeedOk w' w.heap.size x := by
  obtain ⟨h1, h2⟩ := List.getElem?_eq_some_iff.1 hx
  obtain ⟨b, o, e, c0, c1, c2, c3, c4, c5, c6⟩ := h.cells k h1
  rw [h2] at c0 c1 c2 c3 c4 c5 c6
  have q := h.ok x (List.mem_of_getElem? hx)
  have f : ∀ {j : Nat} {v : Value}, w.cell? ⟨b, j, none⟩ = some v → w'.cell? ⟨b, j, none⟩ = some v := fun hc => (hb.cell (World.block_lt_of_cell? _ _ hc)).trans hc
  exact ⟨b, o, e, f c0, f c1, f c2, f c3, f c4, f c5, f c6, q.hc, q.hs, q.hi.below hb, q.hib, q.hl⟩
theorem RSt.mono {w : World} {B B' r n : Nat} (h : RSt w B r n) (hB : B' ≤ B) : RSt w B' r n := by
  obtain ⟨a, c, a', c', U, h1, h2, h3⟩ := h
  exact ⟨a, c, a', c', U, h1.mono hB, h2, h3⟩
theorem duo_start {w w1 w2 w3 : World} {p mf mt r : Nat} (h1 : StoAt w1 w.heap.size p mf mt 0 0 sto0) (b1 : Below w.heap.size w w1) (h2 : RSt w2 w1.heap.size r 0) (b2 : Below w1.heap.size w1 w2) (b3 : Below w2.heap.size w2 w3) : Duo w3 w.heap.size p mf mt r 0 sto0 ∧ Below w.heap.size w w3 := by
  refine ⟨⟨⟨0, 0, Nat.le_refl _, Nat.le_refl _, (h1.below b2).below b3⟩, sto0_ok, Nat.le_refl _, Nat.le_refl _, (h2.mono b1.size).below b3⟩, ?_⟩
  have k2 := b1.trans (b2.mono b1.size)
  exact k2.trans (b3.mono k2.size)
/-- what the loop over deeds keeps -/
def Did (w : World) (p mf mt r : Nat) (k : Nat) (wr : World) : Prop := ∃ T, Duo wr w.heap.size p mf mt r (2 * k) T ∧ Below w.heap.size w wr
theorem dout_below {w wr w' : World} {p mf mt r n : Nat} {T : Sto} (hb : Below w.heap.size w wr) (hd : Duo wr w.heap.size p mf mt r n T) (o : Out (DOut p mf mt r) wr w') : Below w.heap.size w w' := by
  have l := hd.lts
  exact hb.trans (o.below hb.size (fun k hk => by unfold DOut at hk; omega))
theorem and_nar {a b : Int} (ha : 0 ≤ a ∧ a ≤ 255) (hb : 0 ≤ b ∧ b ≤ 255) (h : nar a b) : (bits BinOp.and IntKind.u8 a b == a) = true := by
  have := and_bits a.toNat (by omega) b.toNat (by omega)
  rw [Int.toNat_of_nonneg ha.1, Int.toNat_of_nonneg hb.1] at this
  rw [this]
  unfold nar at h
  rw [h, Int.toNat_of_nonneg ha.1]
  simp

set_option maxHeartbeats 6400000 in
theorem tokenNarrow_walk (W : World) {a : Option Addr} {l : List KDeed} (hl : KDs W a l) (cap : Nat) (id now : Int) :
    Calls Try.prog 3 #[.slice a l.length cap, .int .i64 id, .int .i64 now] W fun e w' => e = .returned (.bool true) ∧ Below W.heap.size W w' := by
  have Hl := hid hl
  have hN2 : l.length ≤ 9223372036854775807 := by simpa [maxLen] using hl.length
  have HN := hid (new_any W)
  have HR := hid rNew_any
  have HLv := hid lawLive_any
  clear hl
  generalize hN : l.length = N at *
  have HLen := hid hN
  clear hN
  go_enter Try.func3, Try.ntmps3
  go_wp2_with (first
    | (go_at_call 7; refine HN.out.mono ?_; rintro e w1 ⟨p, mf, mt, rfl, hT1, hb1⟩; have H1 := hid hT1; have B1 := hid hb1; clear hT1 hb1)
    | (go_at_call 8; refine (HR.out _).mono ?_; rintro e w2 ⟨r, rfl, hR2, hb2⟩; have H2 := hid hR2; have B2 := hid hb2; clear hR2 hb2)
    | (go_at_call 9; refine (HLv.out _).mono ?_; rintro e w3 ⟨rfl, hb3⟩; have H3 := hid (duo_start H1.out B1.out H2.out B2.out hb3); clear hb3))
  go_loopw [9] (fun i wr => ∃ k : Nat, k ≤ N ∧ k ≤ 80 ∧ i = .int .i64 k ∧ Did W p mf mt r k wr) (fun i _ => N - (intOf i).toNat)
  case atStart => exact ⟨0, Nat.zero_le _, Nat.zero_le _, rfl, sto0, H3.out.1, H3.out.2⟩
  case round =>
    obtain ⟨k, hk, hk8, rfl, T, hD, hb⟩ := hrel
    have HD := hid hD
    have HB := hid hb
    clear hD hb
    have hstop : (k < N ∧ k < 80) ∨ (¬ k < N) ∨ (k < N ∧ k = 80) := by omega
    rcases hstop with ⟨hlt, h8⟩ | hstop
    · have g1 : decide ((k : Int) < (N : Int)) = true := by simpa using hlt
      have g2 : decide ((k : Int) < 80) = true := by simp; omega
      have Hg : Hid (l[k]? = some (l[k]'(by rw [HLen.out]; exact hlt))) := List.getElem?_eq_getElem _
      generalize l[k]'(by rw [HLen.out]; exact hlt) = x at *
      obtain ⟨b, o, ea, c0, c1, c2, c3, c4, c5, c6, hok⟩ := Hl.out.at HB.out Hg.out
      cases ea
      have Hdo := hid (doK_any HD.out (by omega) HB.out.size x hok)
      clear hok
      unfold deedV at Hdo
      go_wp2_with (go_at_call 10; refine Hdo.out.mono ?_; rintro e w4 ⟨⟨bb, rfl⟩, hD4, ho4⟩)
      go_roundw
      case rel => exact ⟨k + 1, by omega, by omega, by go_num, tDo T x, hD4, dout_below HB.out HD.out ho4⟩
      case measure => simp [intOf]; omega
    · obtain ⟨n1, n2, _, _, hs⟩ := HD.out.sto
      have ok := HD.out.ok
      obtain ⟨V, hV⟩ : ∃ V, V = wr := ⟨_, rfl⟩
      rw [← hV] at hs HB HD ⊢
      clear hV
      have Hacc := access_any hs ok id now
      obtain ⟨x, hx⟩ : ∃ x, x = tAccess T id now := ⟨_, rfl⟩
      rw [← hx] at Hacc
      obtain ⟨⟨ta, tb, tc, td⟩, z⟩ := x
      unfold Tok.sessV at Hacc
      dsimp only at Hacc
      have HA := hid Hacc
      have HS := hid hs
      clear Hacc hs
      by_cases hz : z = 0
      · subst hz
        obtain ⟨a1, a2, a3, a4⟩ := tAccess_ok (T := T) (id := id) (now := now) (by rw [← hx])
        rw [← hx] at a2 a3 a4
        obtain ⟨⟨si, ss, sl, so, sn⟩, s1, s2, s3⟩ := ok.tk _ a2
        have hand := and_nar (ok.tu _ a2).2 (ok.nx _ s1).2 s3
        have hfi := fFind_in ok.upf s1 (ok.idf _ s1)
        dsimp only at a3 a4 s2 hand hfi
        have s2' := s2.symm
        subst s2'
        have HF := hid (fun (V : World) (hV : StoAt V W.heap.size p mf mt n1 n2 T) => by
          have := family_any hV ok tb
          rw [hfi] at this
          unfold Fam.sessV at this
          exact this)
        have hid9 : (ta == id) = true := by simpa using a3
        have hnow : decide (now < td) = true := by simpa using a4
        clear hx ok a1 a2 a3 a4 s1 s3 hfi
        rcases hstop with h1 | ⟨h1, h2⟩
        · have g1 : decide ((k : Int) < (N : Int)) = false := by simpa using h1
          clear hk hk8
          go_wp2_with (first
            | (go_at_call 11; refine HA.out.mono ?_; rintro e w4 ⟨rfl, hb4⟩; have B4 := hid hb4; have S4 := hid ((HS.out.below hb4).below ((Below.refl _ w4).alloc (Nat.le_refl _) (.cells #[.int .i64 ta, .int .i64 tb, .int .u8 tc, .int .i64 td] 34))); clear hb4)
            | (go_at_call 12; refine (HF.out _ S4.out).mono ?_; rintro e w5 ⟨rfl, hb5⟩; have t5 := (hb5.block w4.heap.size (by simp)).trans (MapKept.heap_alloc w4 (.cells #[.int .i64 ta, .int .i64 tb, .int .u8 tc, .int .i64 td] 34)).1; have d5 : w4.heap.size < w5.heap.size := (Array.getElem?_eq_some_iff.1 t5).1; have q0 : w5.cell? ⟨w4.heap.size, 0, none⟩ = some (.int .i64 ta) := cell_of_row _ _ 0 _ _ _ t5; have q2 : w5.cell? ⟨w4.heap.size, 2, none⟩ = some (.int .u8 tc) := cell_of_row _ _ 2 _ _ _ t5; have q3 : w5.cell? ⟨w4.heap.size, 3, none⟩ = some (.int .i64 td) := cell_of_row _ _ 3 _ _ _ t5; have B5 := hid hb5; clear hb5 t5))
          go_ret
          have k4 := HB.out.trans (B4.out.mono HB.out.size)
          have k4' := k4.alloc (by have := HB.out.size; have := B4.out.size; omega) (.cells #[.int .i64 ta, .int .i64 tb, .int .u8 tc, .int .i64 td] 34)
          have k5 := k4'.trans (B5.out.mono k4'.size)
          exact ⟨ret_bool (by simp), k5.alloc k5.size _⟩
        · subst h2
          have g1 : decide (((80 : Nat) : Int) < (N : Int)) = true := by simp; omega
          have g2 : decide (((80 : Nat) : Int) < 80) = false := by decide
          go_wp2_with (first
            | (go_at_call 11; refine HA.out.mono ?_; rintro e w4 ⟨rfl, hb4⟩; have B4 := hid hb4; have S4 := hid ((HS.out.below hb4).below ((Below.refl _ w4).alloc (Nat.le_refl _) (.cells #[.int .i64 ta, .int .i64 tb, .int .u8 tc, .int .i64 td] 34))); clear hb4)
            | (go_at_call 12; refine (HF.out _ S4.out).mono ?_; rintro e w5 ⟨rfl, hb5⟩; have t5 := (hb5.block w4.heap.size (by simp)).trans (MapKept.heap_alloc w4 (.cells #[.int .i64 ta, .int .i64 tb, .int .u8 tc, .int .i64 td] 34)).1; have d5 : w4.heap.size < w5.heap.size := (Array.getElem?_eq_some_iff.1 t5).1; have q0 : w5.cell? ⟨w4.heap.size, 0, none⟩ = some (.int .i64 ta) := cell_of_row _ _ 0 _ _ _ t5; have q2 : w5.cell? ⟨w4.heap.size, 2, none⟩ = some (.int .u8 tc) := cell_of_row _ _ 2 _ _ _ t5; have q3 : w5.cell? ⟨w4.heap.size, 3, none⟩ = some (.int .i64 td) := cell_of_row _ _ 3 _ _ _ t5; have B5 := hid hb5; clear hb5 t5))
          go_ret
          have k4 := HB.out.trans (B4.out.mono HB.out.size)
          have k4' := k4.alloc (by have := HB.out.size; have := B4.out.size; omega) (.cells #[.int .i64 ta, .int .i64 tb, .int .u8 tc, .int .i64 td] 34)
          have k5 := k4'.trans (B5.out.mono k4'.size)
          exact ⟨ret_bool (by simp), k5.alloc k5.size _⟩
      · have e0 := tAccess_err (T := T) (id := id) (now := now) (by rw [← hx]; exact hz)
        rw [← hx] at e0
        unfold Tok.sess0 at e0
        have qz : (z != 0) = true := by simpa using hz
        clear hx ok hz
        injection e0 with e1 e2 e3 e4
        subst e1 e2 e3 e4
        rcases hstop with h1 | ⟨h1, h2⟩
        · have g1 : decide ((k : Int) < (N : Int)) = false := by simpa using h1
          clear hk hk8
          go_wp2_with (go_at_call 11; refine HA.out.mono ?_; rintro e w4 ⟨rfl, hb4⟩; have B4 := hid hb4; have S4 := hid ((HS.out.below hb4).below ((Below.refl _ w4).alloc (Nat.le_refl _) (.cells #[.int .i64 0, .int .i64 0, .int .u8 0, .int .i64 0] 34))); clear hb4)
          go_ret
          exact ⟨rfl, (HB.out.trans (B4.out.mono HB.out.size)).alloc (by have := HB.out.size; have := B4.out.size; omega) _⟩
        · subst h2
          have g1 : decide (((80 : Nat) : Int) < (N : Int)) = true := by simp; omega
          have g2 : decide (((80 : Nat) : Int) < 80) = false := by decide
          go_wp2_with (go_at_call 11; refine HA.out.mono ?_; rintro e w4 ⟨rfl, hb4⟩; have B4 := hid hb4; have S4 := hid ((HS.out.below hb4).below ((Below.refl _ w4).alloc (Nat.le_refl _) (.cells #[.int .i64 0, .int .i64 0, .int .u8 0, .int .i64 0] 34))); clear hb4)
          go_ret
          exact ⟨rfl, (HB.out.trans (B4.out.mono HB.out.size)).alloc (by have := HB.out.size; have := B4.out.size; omega) _⟩

theorem kFind_in {next : Int} {l : List Tok.Sess} (hup : l.Pairwise (fun a b => a.id < b.id)) {s : Tok.Sess} (hs : s ∈ l) (hx : 1 ≤ s.id ∧ s.id < next) : kFind next l s.id = (s, 0) := by
  unfold kFind
  rw [if_neg (by omega)]
  cases hfd : l.find? (fun t => t.id == s.id) with
  | none => have := List.find?_eq_none.1 hfd s hs; simp at this
  | some t =>
    have h1 := List.mem_of_find?_eq_some hfd
    have h2 : t.id = s.id := by have := List.find?_some hfd; simpa using this
    have : t = s := Nums1.eq (num := Tok.Sess.id) (hup.imp (fun h => by omega)) h1 hs h2
    rw [this]
/-- Access of a token that is there, at a time that is one -/
theorem acc_at {T : Sto} (ok : StoOk T) {t : Tok.Sess} (ht : t ∈ T.ts) (now : Int) (hn : 0 ≤ now ∧ now ≤ 1099511627776) : tAccess T t.id now = if now < T.noted then (Tok.sess0, 9) else if now < t.unt then (t, 0) else (Tok.sess0, 12) := by
  have te : timeErr now T.noted = if now < T.noted then 9 else 0 := by unfold timeErr; rw [if_neg (by omega)]
  unfold tAccess
  rw [te, kFind_in ok.upt ht (ok.idt t ht)]
  by_cases h : now < T.noted
  · simp [h]
  · by_cases h2 : now < t.unt <;> simp [h, h2]
set_option maxHeartbeats 6400000 in
theorem tokenLasts_walk (W : World) {a : Option Addr} {l : List KDeed} (hl : KDs W a l) (cap : Nat) (id now : Int) :
    Calls Try.prog 4 #[.slice a l.length cap, .int .i64 id, .int .i64 now] W fun e w' => e = .returned (.bool true) ∧ Below W.heap.size W w' := by
  have Hl := hid hl
  have hN2 : l.length ≤ 9223372036854775807 := by simpa [maxLen] using hl.length
  have HN := hid (new_any W)
  have HR := hid rNew_any
  have HLv := hid lawLive_any
  clear hl
  generalize hN : l.length = N at *
  have HLen := hid hN
  clear hN
  go_enter Try.func4, Try.ntmps4
  go_wp2_with (first
    | (go_at_call 7; refine HN.out.mono ?_; rintro e w1 ⟨p, mf, mt, rfl, hT1, hb1⟩; have H1 := hid hT1; have B1 := hid hb1; clear hT1 hb1)
    | (go_at_call 8; refine (HR.out _).mono ?_; rintro e w2 ⟨r, rfl, hR2, hb2⟩; have H2 := hid hR2; have B2 := hid hb2; clear hR2 hb2)
    | (go_at_call 9; refine (HLv.out _).mono ?_; rintro e w3 ⟨rfl, hb3⟩; have H3 := hid (duo_start H1.out B1.out H2.out B2.out hb3); clear hb3))
  go_loopw [9] (fun i wr => ∃ k : Nat, k ≤ N ∧ k ≤ 60 ∧ i = .int .i64 k ∧ Did W p mf mt r k wr) (fun i _ => N - (intOf i).toNat)
  case atStart => exact ⟨0, Nat.zero_le _, Nat.zero_le _, rfl, sto0, H3.out.1, H3.out.2⟩
  case round =>
    obtain ⟨k, hk, hk8, rfl, T, hD, hb⟩ := hrel
    have HD := hid hD
    have HB := hid hb
    clear hD hb
    have hstop : (k < N ∧ k < 60) ∨ (¬ k < N) ∨ (k < N ∧ k = 60) := by omega
    rcases hstop with ⟨hlt, h8⟩ | hstop
    · have g1 : decide ((k : Int) < (N : Int)) = true := by simpa using hlt
      have g2 : decide ((k : Int) < 60) = true := by simp; omega
      have Hg : Hid (l[k]? = some (l[k]'(by rw [HLen.out]; exact hlt))) := List.getElem?_eq_getElem _
      generalize l[k]'(by rw [HLen.out]; exact hlt) = x at *
      obtain ⟨b, o, ea, c0, c1, c2, c3, c4, c5, c6, hok⟩ := Hl.out.at HB.out Hg.out
      cases ea
      have Hdo := hid (doK_any HD.out (by omega) HB.out.size x hok)
      clear hok
      unfold deedV at Hdo
      go_wp2_with (go_at_call 10; refine Hdo.out.mono ?_; rintro e w4 ⟨⟨bb, rfl⟩, hD4, ho4⟩)
      go_roundw
      case rel => exact ⟨k + 1, by omega, by omega, by go_num, tDo T x, hD4, dout_below HB.out HD.out ho4⟩
      case measure => simp [intOf]; omega
    · obtain ⟨n1, n2, _, _, hs⟩ := HD.out.sto
      have ok := HD.out.ok
      obtain ⟨V, hV⟩ : ∃ V, V = wr := ⟨_, rfl⟩
      rw [← hV] at hs HB HD ⊢
      clear hV
      have Hacc := access_any hs ok id now
      obtain ⟨x, hx⟩ : ∃ x, x = tAccess T id now := ⟨_, rfl⟩
      rw [← hx] at Hacc
      obtain ⟨⟨ta, tb, tc, td⟩, z⟩ := x
      unfold Tok.sessV at Hacc
      dsimp only at Hacc
      have HA := hid Hacc
      have HS := hid hs
      clear Hacc hs
      by_cases hz : z = 0
      · subst hz
        obtain ⟨a1, a2, a3, a4⟩ := tAccess_ok (T := T) (id := id) (now := now) (by rw [← hx])
        rw [← hx] at a2 a3 a4
        have tu := (ok.tu _ a2).1
        have ti := ok.idt _ a2
        dsimp only at a3 a4 tu ti
        subst a3
        have tt := timeErr_ok a1
        have e2 := acc_at ok a2 (td - 1) (by omega)
        have e3 := acc_at ok a2 td (by omega)
        dsimp only at e2 e3
        have HA2 := hid (fun (V : World) (hV : StoAt V W.heap.size p mf mt n1 n2 T) => access_any hV ok ta (td - 1))
        have HA3 := hid (fun (V : World) (hV : StoAt V W.heap.size p mf mt n1 n2 T) => access_any hV ok ta td)
        rw [e2] at HA2
        rw [e3] at HA3
        rw [if_neg (by omega), if_neg (by omega)] at HA3
        have hw1 : -9223372036854775808 ≤ td - 1 ∧ td - 1 ≤ 9223372036854775807 := by omega
        have hlt9 : ¬ td - 1 < T.noted := by omega
        rw [if_neg hlt9, if_pos (by omega)] at HA2
        obtain ⟨⟨ua, ub, uc, ud⟩, hu⟩ : ∃ u : Tok.Sess, u = ⟨ta, tb, tc, td⟩ := ⟨_, rfl⟩
        rw [← hu] at HA2
        unfold Tok.sessV at HA2 HA3
        dsimp only at HA2 HA3
        clear hx ok a1 a2 a4 ti e2 e3 hu hlt9
        rcases hstop with h1 | ⟨h1, h2⟩
        · have g1 : decide ((k : Int) < (N : Int)) = false := by simpa using h1
          clear hk hk8
          go_wp2_with (first
            | (go_at_call 11; refine (HA3.out _ S5.out).mono ?_; rintro e w6 ⟨rfl, hb6⟩; have t6 := (hb6.block w4.heap.size (by simp; omega)).trans (heap_more T5.out d5 (.cells #[.int .i64 ua, .int .i64 ub, .int .u8 uc, .int .i64 ud] 34)); have d6 : w4.heap.size < w6.heap.size := (Array.getElem?_eq_some_iff.1 t6).1; have r3 : w6.cell? ⟨w4.heap.size, 3, none⟩ = some (.int .i64 td) := cell_of_row _ _ 3 _ _ _ t6; have B6 := hid hb6; clear hb6 t6)
            | (go_at_call 11; refine (HA2.out _ S4.out).mono ?_; rintro e w5 ⟨rfl, hb5⟩; have t5 := (hb5.block w4.heap.size (by simp)).trans (MapKept.heap_alloc w4 (.cells #[.int .i64 ta, .int .i64 tb, .int .u8 tc, .int .i64 td] 34)).1; have d5 : w4.heap.size < w5.heap.size := (Array.getElem?_eq_some_iff.1 t5).1; have q3 : w5.cell? ⟨w4.heap.size, 3, none⟩ = some (.int .i64 td) := cell_of_row _ _ 3 _ _ _ t5; have B5 := hid hb5; have T5 := hid t5; have S5 := hid ((S4.out.below hb5).below ((Below.refl _ w5).alloc (Nat.le_refl _) (.cells #[.int .i64 ua, .int .i64 ub, .int .u8 uc, .int .i64 ud] 34))); clear hb5 t5)
            | (go_at_call 11; refine HA.out.mono ?_; rintro e w4 ⟨rfl, hb4⟩; have B4 := hid hb4; have S4 := hid ((HS.out.below hb4).below ((Below.refl _ w4).alloc (Nat.le_refl _) (.cells #[.int .i64 ta, .int .i64 tb, .int .u8 tc, .int .i64 td] 34))); clear hb4))
          go_ret
          have k4 := HB.out.trans (B4.out.mono HB.out.size)
          have k4' := k4.alloc (by have := HB.out.size; have := B4.out.size; omega) (.cells #[.int .i64 ta, .int .i64 tb, .int .u8 tc, .int .i64 td] 34)
          have k5 := k4'.trans (B5.out.mono k4'.size)
          have k5' := k5.alloc k5.size (.cells #[.int .i64 ua, .int .i64 ub, .int .u8 uc, .int .i64 ud] 34)
          have k6 := k5'.trans (B6.out.mono k5'.size)
          exact ⟨rfl, k6.alloc k6.size _⟩
        · subst h2
          have g1 : decide (((60 : Nat) : Int) < (N : Int)) = true := by simp; omega
          have g2 : decide (((60 : Nat) : Int) < 60) = false := by decide
          go_wp2_with (first
            | (go_at_call 11; refine (HA3.out _ S5.out).mono ?_; rintro e w6 ⟨rfl, hb6⟩; have t6 := (hb6.block w4.heap.size (by simp; omega)).trans (heap_more T5.out d5 (.cells #[.int .i64 ua, .int .i64 ub, .int .u8 uc, .int .i64 ud] 34)); have d6 : w4.heap.size < w6.heap.size := (Array.getElem?_eq_some_iff.1 t6).1; have r3 : w6.cell? ⟨w4.heap.size, 3, none⟩ = some (.int .i64 td) := cell_of_row _ _ 3 _ _ _ t6; have B6 := hid hb6; clear hb6 t6)
            | (go_at_call 11; refine (HA2.out _ S4.out).mono ?_; rintro e w5 ⟨rfl, hb5⟩; have t5 := (hb5.block w4.heap.size (by simp)).trans (MapKept.heap_alloc w4 (.cells #[.int .i64 ta, .int .i64 tb, .int .u8 tc, .int .i64 td] 34)).1; have d5 : w4.heap.size < w5.heap.size := (Array.getElem?_eq_some_iff.1 t5).1; have q3 : w5.cell? ⟨w4.heap.size, 3, none⟩ = some (.int .i64 td) := cell_of_row _ _ 3 _ _ _ t5; have B5 := hid hb5; have T5 := hid t5; have S5 := hid ((S4.out.below hb5).below ((Below.refl _ w5).alloc (Nat.le_refl _) (.cells #[.int .i64 ua, .int .i64 ub, .int .u8 uc, .int .i64 ud] 34))); clear hb5 t5)
            | (go_at_call 11; refine HA.out.mono ?_; rintro e w4 ⟨rfl, hb4⟩; have B4 := hid hb4; have S4 := hid ((HS.out.below hb4).below ((Below.refl _ w4).alloc (Nat.le_refl _) (.cells #[.int .i64 ta, .int .i64 tb, .int .u8 tc, .int .i64 td] 34))); clear hb4))
          go_ret
          have k4 := HB.out.trans (B4.out.mono HB.out.size)
          have k4' := k4.alloc (by have := HB.out.size; have := B4.out.size; omega) (.cells #[.int .i64 ta, .int .i64 tb, .int .u8 tc, .int .i64 td] 34)
          have k5 := k4'.trans (B5.out.mono k4'.size)
          have k5' := k5.alloc k5.size (.cells #[.int .i64 ua, .int .i64 ub, .int .u8 uc, .int .i64 ud] 34)
          have k6 := k5'.trans (B6.out.mono k5'.size)
          exact ⟨rfl, k6.alloc k6.size _⟩
      · have e0 := tAccess_err (T := T) (id := id) (now := now) (by rw [← hx]; exact hz)
        rw [← hx] at e0
        unfold Tok.sess0 at e0
        have qz : (z != 0) = true := by simpa using hz
        clear hx ok hz
        injection e0 with e1 e2 e3 e4
        subst e1 e2 e3 e4
        rcases hstop with h1 | ⟨h1, h2⟩
        · have g1 : decide ((k : Int) < (N : Int)) = false := by simpa using h1
          clear hk hk8
          go_wp2_with (go_at_call 11; refine HA.out.mono ?_; rintro e w4 ⟨rfl, hb4⟩; have B4 := hid hb4; have S4 := hid ((HS.out.below hb4).below ((Below.refl _ w4).alloc (Nat.le_refl _) (.cells #[.int .i64 0, .int .i64 0, .int .u8 0, .int .i64 0] 34))); clear hb4)
          go_ret
          exact ⟨rfl, (HB.out.trans (B4.out.mono HB.out.size)).alloc (by have := HB.out.size; have := B4.out.size; omega) _⟩
        · subst h2
          have g1 : decide (((60 : Nat) : Int) < (N : Int)) = true := by simp; omega
          have g2 : decide (((60 : Nat) : Int) < 60) = false := by decide
          go_wp2_with (go_at_call 11; refine HA.out.mono ?_; rintro e w4 ⟨rfl, hb4⟩; have B4 := hid hb4; have S4 := hid ((HS.out.below hb4).below ((Below.refl _ w4).alloc (Nat.le_refl _) (.cells #[.int .i64 0, .int .i64 0, .int .u8 0, .int .i64 0] 34))); clear hb4)
          go_ret
          exact ⟨rfl, (HB.out.trans (B4.out.mono HB.out.size)).alloc (by have := HB.out.size; have := B4.out.size; omega) _⟩

end Go.Proofs.Ytnppnkdlmelpaaa
