/- The reference's Open and Reseal of any bytes, by contracts. -/
import Derived.Test.YtdglmoikgmlaaaaGreatDoorJR9
namespace Go.Proofs.YtdglmoikgmlaaaaGreatDoor
open Go.RowKit Go.Maps
set_option linter.unusedVariables false
set_option maxRecDepth 20000
set_option maxHeartbeats 1000000 in
theorem ropen_err {w : World} {g : Nat} (t u : ByteArray) (v : Value) (z c : Int) (hc : c ≠ 0) (H : Calls Tryz.prog 30 #[.pointer (some ⟨g, 0, none⟩), .string t, .string u] w fun e w' => e = .returned (.tuple #[.int .i64 z, .int .i64 c]) ∧ Below w.heap.size w w') :
    Calls Tryz.prog 25 #[.pointer (some ⟨g, 0, none⟩), .string t, .string u, v] w fun e w' => e = .returned (.tuple #[.slice none 0 0, .int .i64 0, .int .i64 c]) ∧ Below w.heap.size w w' := by
  have q0 : (c != 0) = true := by simpa using hc
  go_enter Tryz.func25, Tryz.ntmps25
  go_wp2_with (go_at_call 30; refine H.mono ?_; rintro _ w1 ⟨rfl, b1⟩)
  go_ret3
  exact ⟨rfl, b1⟩
set_option maxHeartbeats 1000000 in
theorem ropen_empty {w : World} {g : Nat} (t u : ByteArray) (a : Option Addr) (cap : Nat) (z : Int) (H : Calls Tryz.prog 30 #[.pointer (some ⟨g, 0, none⟩), .string t, .string u] w fun e w' => e = .returned (.tuple #[.int .i64 z, .int .i64 0]) ∧ Below w.heap.size w w') :
    Calls Tryz.prog 25 #[.pointer (some ⟨g, 0, none⟩), .string t, .string u, .slice a 0 cap] w fun e w' => e = .returned (.tuple #[.slice none 0 0, .int .i64 0, .int .i64 3]) ∧ Below w.heap.size w w' := by
  go_enter Tryz.func25, Tryz.ntmps25
  go_wp2_with (go_at_call 30; refine H.mono ?_; rintro _ w1 ⟨rfl, b1⟩)
  go_ret3
  exact ⟨rfl, b1⟩
set_option maxHeartbeats 4000000 in
theorem ropen_rng {w : World} {g : Nat} (t u : ByteArray) (z : Int) (v : Nat) (hv : v ≤ 255) (gs m cap : Nat) (hm0 : 0 < m) (q0 : w.cell? ⟨gs, 0, none⟩ = some (.int .u8 (v : Int))) (key : List UInt8) (HC : Calls Tryz.prog 30 #[.pointer (some ⟨g, 0, none⟩), .string t, .string u] w fun e w' => e = .returned (.tuple #[.int .i64 z, .int .i64 0]) ∧ Below w.heap.size w w')
    (HKy : ∀ W, Below w.heap.size w W → Calls Tryz.prog 28 #[.pointer (some ⟨g, 0, none⟩), .string t, .string u, .int .i64 (v : Int)] W (HashErr W key 2)) :
    Calls Tryz.prog 25 #[.pointer (some ⟨g, 0, none⟩), .string t, .string u, .slice (some ⟨gs, 0, none⟩) m cap] w fun e w' => e = .returned (.tuple #[.slice none 0 0, .int .i64 0, .int .i64 2]) ∧ Below w.heap.size w w' := by
  obtain ⟨Z, hZ⟩ : ∃ Z, Z = bvs (List.replicate 32 0) := ⟨_, rfl⟩
  have zh := (zero_of_info zero_hash).1
  rw [← hZ] at zh
  have hz : Hid (HV Z (List.replicate 32 0)) := by
    show HV _ _
    rw [hZ]; exact hv_zero
  have Zh := hid zh
  have HC := hid HC
  have HKy := hid HKy
  have Q0 := hid q0
  have gm0 : ((m : Int) == 0) = false := by simp; omega
  have hm0' := hid hm0
  clear hZ q0
  go_enter Tryz.func25, Tryz.ntmps25
  go_wp2_with (first
    | (go_at_call 30; refine HC.out.mono ?_; rintro _ w1 ⟨rfl, b1⟩; have B1 := hid b1; have q1 := (b1.cell (World.block_lt_of_cell? _ _ Q0.out)).trans Q0.out; clear b1)
    | (go_at_call 28; refine (HKy.out w1 B1.out).mono ?_; rintro _ w2 ⟨O, rfl, hO, b2⟩; obtain rfl := hO.eq; have hlk := hid hO.len; have B2 := hid (Below.on' B1.out b2); have X2 : Hid ((w2.alloc (.cells Z 23)).heap[w2.heap.size]? = some (.cells Z 23 (0, 0))) := heap_alloc_new w2 _; have HI := hid hO.info; have HZ9 := hid (hz.out.size.trans hO.size.symm); have HO1 := hid hO.one; clear b2 hO)
    | (with_reducible show Go.wpList _ _ _ _ _ _; refine wpList_alloc_row rfl 23 rfl Z Zh.out ?_)
    | (with_reducible show Go.wpList _ _ _ _ _ _; refine wpList_store_row rfl 23 _ _ rfl w2.heap.size (bvs key) rfl rfl 23 Z X2.out HI.out HZ9.out HO1.out ?_))
  go_ret3
  exact ⟨rfl, (B2.out.alloc B2.out.size _).setRow B2.out.size _⟩
theorem rCur_any {w : World} {B g : Nat} {root : List UInt8} {s : TS} (h : RT w B g root s) (ok : s.Ok) (t u : ByteArray) (ht : t.size ≤ maxLen) (hu : u.size ≤ maxLen) :
    Calls Tryz.prog 30 #[.pointer (some ⟨g, 0, none⟩), .string t, .string u] w fun e w' => e = .returned (.tuple #[.int .i64 ((s.cur t u).1 : Int), .int .i64 ((s.cur t u).2 : Int)]) ∧ Below w.heap.size w w' := by
  obtain ⟨gv, lv, h⟩ := h
  have hf := ok.few
  have hgf := ok.gfew
  exact rCurrent_any h (by omega) (by omega) t u ht hu
theorem rOpen_any {w : World} {B g : Nat} {root : List UInt8} {s : TS} (h : RT w B g root s) (ok : s.Ok) (t u : ByteArray) (ht : t.size ≤ maxLen) (hu : u.size ≤ maxLen) (S : List UInt8) (a : Option Addr) (m cap : Nat) (hm : m = S.length) (hm9 : m ≤ 140737488351232) (hmc : m ≤ cap) (ha : S ≠ [] → ∃ gs, a = some ⟨gs, 0, none⟩) (hB : Bytes w a S) :
    Calls Tryz.prog 25 #[.pointer (some ⟨g, 0, none⟩), .string t, .string u, .slice a m cap] w (ROpP w (s.openR root t u S)) := by
  have h0 := h
  obtain ⟨gv, lv, h⟩ := h
  have hf := ok.few
  have hgf := ok.gfew
  have HC := rCurrent_any h (by omega) (by omega) t u ht hu
  cases S with
  | nil =>
    subst hm
    rw [openR_nil]
    by_cases he : (s.cur t u).2 ≠ 0
    · rw [if_pos he]
      exact (ropen_err t u _ _ _ (by omega) HC).mono fun e w' h9 => ⟨_, h9.1, lies_nil _, h9.2⟩
    · rw [if_neg he]
      have he0 : (s.cur t u).2 = 0 := by omega
      rw [he0] at HC
      exact (ropen_empty t u a cap _ HC).mono fun e w' h9 => ⟨_, h9.1, lies_nil _, h9.2⟩
  | cons b S =>
    obtain ⟨gs, rfl⟩ := ha (by simp)
    have hb8 : UInt8.ofNat b.toNat = b := by simp
    have hlt := b.toNat_lt
    show Calls _ _ _ _ (ROpP w (s.openB root t u b S))
    unfold TS.openB
    by_cases he : (s.cur t u).2 ≠ 0
    · rw [if_pos he]
      exact (ropen_err t u _ _ _ (by omega) HC).mono fun e w' h9 => ⟨_, h9.1, lies_nil _, h9.2⟩
    · rw [if_neg he]
      have he0 : (s.cur t u).2 = 0 := by omega
      rw [he0] at HC
      by_cases hk : (s.keyR root t u (b.toNat : Int)).2 ≠ 0
      · rw [if_pos hk]
        have q0 : w.cell? ⟨gs, 0, none⟩ = some (.int .u8 (b.toNat : Int)) := by
          obtain ⟨b9, o9, e9, hc9⟩ := hB 0 (by simp)
          cases e9
          exact hc9
        have h2 := keyR_err he0 hk
        rw [h2]
        exact (ropen_rng t u _ b.toNat (by omega) gs m cap (by rw [hm]; simp) q0 _ HC (fun W hW => by have := rKey_any (h0.below hW) ok t u ht hu (b.toNat : Int); rw [h2] at this; exact this)).mono fun e w' h9 => ⟨_, h9.1, lies_nil _, h9.2⟩
      · rw [if_neg hk]
        have hk0 : (s.keyR root t u (b.toNat : Int)).2 = 0 := by omega
        exact ropen_gen t u _ b.toNat (by omega) _ S gs m cap (by rw [hm]; rfl) hm9 hmc (by rw [hb8]; exact hB) HC (fun W hW => by have := rKey_any (h0.below hW) ok t u ht hu (b.toNat : Int); rw [hk0] at this; exact this)
theorem OutJ.rm {w w1 w2 : World} {B g : Nat} (b : Below w.heap.size w w1) (o : OutJ (RM w1 B g) w1 w2) : OutJ (RM w B g) w w2 :=
  ⟨o.os.trans b.os, o.tape.trans b.tape, o.output.trans b.output, Nat.le_trans b.size o.size, fun k hk hp => (o.block k (Nat.lt_of_lt_of_le hk b.size) (fun ⟨h1, h2⟩ => hp ⟨h1, by rw [b.block k hk] at h2; exact h2⟩)).trans (b.block k hk)⟩
def RResP (w : World) (B g : Nat) (root : List UInt8) (r : TS × (List UInt8 × (Bool × Nat))) (e : Ending) (w' : World) : Prop := ∃ v, e = .returned (.tuple #[v, .bool r.2.2.1, .int .i64 (r.2.2.2 : Int)]) ∧ w'.ownsRow w.heap.size 5 1 v r.2.1.length (cellsOf r.2.1) ∧ RT w' B g root r.1 ∧ OutJ (RM w B g) w w'
theorem resealR_eq (s : TS) (root : List UInt8) (t u : ByteArray) (S : List UInt8) : s.resealR root t u S = if (s.openR root t u S).2.2 ≠ 0 then (s, ([], (false, (s.openR root t u S).2.2))) else if (s.openR root t u S).2.1 = verOf s.vs t u then (s, (S, (false, 0))) else ((s.sealR root t u (s.openR root t u S).1).1, ((s.sealR root t u (s.openR root t u S).1).2.1, (decide ((s.sealR root t u (s.openR root t u S).1).2.2 = 0), (s.sealR root t u (s.openR root t u S).1).2.2))) := by
  cases S with
  | nil =>
    rw [openR_nil, if_pos]
    · rfl
    · show (if (s.cur t u).2 ≠ 0 then (s.cur t u).2 else 3) ≠ 0
      split <;> omega
  | cons b S => rfl
theorem openR_ok {s : TS} {root : List UInt8} {t u : ByteArray} {S : List UInt8} (h : (s.openR root t u S).2.2 = 0) : (s.cur t u).2 = 0 := by
  cases S with
  | nil => rw [openR_nil] at h; simp only at h; split at h <;> omega
  | cons b S =>
    change (s.openB root t u b S).2.2 = 0 at h
    unfold TS.openB at h
    by_cases he : (s.cur t u).2 ≠ 0
    · rw [if_pos he] at h; exact h
    · omega
set_option maxHeartbeats 4000000 in
theorem rReseal_any {w : World} {B g : Nat} {root : List UInt8} {s : TS} (h : RT w B g root s) (ok : s.Ok) (hB0 : B ≤ w.heap.size) (hsn : s.n ≤ 1000) (t u : ByteArray) (ht : t.size ≤ maxLen) (hu : u.size ≤ maxLen) (S : List UInt8) (a : Option Addr) (m cap : Nat) (hm : m = S.length) (hm9 : m ≤ 140737488351232) (hmc : m ≤ cap) (ha : S ≠ [] → ∃ gs, a = some ⟨gs, 0, none⟩) (hB : Bytes w a S) (hcn : a = none → cap = 0) :
    Calls Tryz.prog 26 #[.pointer (some ⟨g, 0, none⟩), .string t, .string u, .slice a m cap] w (RResP w B g root (s.resealR root t u S)) := by
  have HO := hid (rOpen_any h ok t u ht hu S a m cap hm hm9 hmc ha hB)
  have hf := ok.few
  have hgf := ok.gfew
  have HC := hid (fun (W : World) (hW : Below w.heap.size w W) => rCur_any (h.below hW) ok t u ht hu)
  have HS := hid (fun (W : World) (hW : Below w.heap.size w W) (p : List UInt8) (a : Option Addr) (n c : Nat) (hn : n = p.length) (hb : Bytes W a p) => rSeal_any (h.below hW) ok (Nat.le_trans hB0 hW.size) hsn t u ht hu p a n c hn hb)
  have HB := hid (fun (W : World) (hW : Below w.heap.size w W) => hB.below hW)
  have H := hid h
  have Hm := hid hm
  have Hm9 := hid hm9
  have Hcn := hid hcn
  obtain ⟨R, hR⟩ : ∃ R, R = s.resealR root t u S := ⟨_, rfl⟩
  have HR : Hid (R = _) := hR.trans (resealR_eq s root t u S)
  rw [← hR]
  obtain ⟨po, vo, eo, hop⟩ : ∃ po vo eo, s.openR root t u S = (po, (vo, eo)) := ⟨_, _, _, rfl⟩
  rw [hop] at HO HR
  have Hcur : Hid (eo = 0 → s.cur t u = (verOf s.vs t u, 0)) := fun h0 => by
    have h1 := openR_ok (s := s) (root := root) (t := t) (u := u) (S := S) (by rw [hop]; exact h0)
    obtain ⟨_, _, _, h2⟩ := cur_ok h1
    exact Prod.ext h2 h1
  clear h hm hm9 hmc hB hsn hR hop ha hf hgf hB0 hcn
  by_cases he : eo = 0
  · have Hc := hid (Hcur.out he)
    rw [Hc.out] at HC
    subst he
    by_cases hv : vo = verOf s.vs t u
    · have q1 : ((verOf s.vs t u : Int) == (vo : Int)) = true := by simp; omega
      have Hv := hid hv
      clear hv
      go_enter Tryz.func26, Tryz.ntmps26
      go_wp2_with (first
        | (go_at_call 25; refine HO.out.mono ?_; rintro _ w1 ⟨v1, rfl, o1, b1⟩; have B1 := hid b1; clear b1 o1)
        | (go_at_call 30; refine (HC.out w1 B1.out).mono ?_; rintro _ w2 ⟨rfl, b2⟩; have B2 := hid (Below.on' B1.out b2); clear b2)
        | (at_builtin; refine app_src _ rfl (.tmp 40) (.tmp 41) rfl w.heap.size (.slice none 0 0) [] rfl (World.ownsRow_nil _ _ _ _) a m cap S Hm.out rfl (HB.out w2 B2.out) Hcn.out (by have := Hm.out; have := Hm9.out; simp; omega) B2.out.size ?_; intro v3 w3 o3 b3; have O3 := hid o3; have B3 := hid (B2.out.trans b3); clear o3 b3))
      go_ret3
      have hR1 : R = (s, (S, (false, 0))) := by
        rw [HR.out, if_neg (by simp), if_pos Hv.out]
      rw [hR1]
      exact ⟨v3, rfl, by have := O3.out; rw [List.nil_append] at this; exact this, H.out.below B3.out, OutJ.of_below B3.out⟩
    · have q1 : ((verOf s.vs t u : Int) == (vo : Int)) = false := by simp; omega
      have Hv := hid hv
      obtain ⟨sr, lr, er, hsr⟩ : ∃ sr lr er, s.sealR root t u po = (sr, (lr, er)) := ⟨_, _, _, rfl⟩
      have HS9 := hid (fun (W : World) (hW : Below w.heap.size w W) (a : Option Addr) (n c : Nat) (hn : n = po.length) (hb : Bytes W a po) => by have := HS.out W hW po a n c hn hb; rw [hsr] at this; exact this)
      have Hsr := hid hsr
      clear hv hsr
      go_enter Tryz.func26, Tryz.ntmps26
      go_wp2_with (first
        | (go_at_call 25; refine HO.out.mono ?_; rintro _ w1 ⟨v1, rfl, ⟨a1, c1, rfl, hB1⟩, b1⟩; have B1 := hid b1; have HB1 := hid hB1; clear b1 hB1)
        | (go_at_call 30; refine (HC.out w1 B1.out).mono ?_; rintro _ w2 ⟨rfl, b2⟩; have B2 := hid (Below.on' B1.out b2); have HB2 := hid (HB1.out.below b2); clear b2)
        | (go_at_call 24; refine (HS9.out w2 B2.out a1 _ c1 rfl HB2.out).mono ?_; rintro _ w3 ⟨v3, rfl, o3, t3, x3⟩; have O3 := hid (own_mono o3 B2.out.size); have T3 := hid t3; have X3 := hid x3; clear o3 t3 x3))
      go_ret3
      have hR1 : R = (sr, (lr, (decide (er = 0), er))) := by
        rw [HR.out, if_neg (by simp), if_neg Hv.out]
        simp only [Hsr.out]
      rw [hR1]
      refine ⟨v3, ?_, O3.out, T3.out, ?_⟩
      · have hd : ((er : Int) == 0) = decide (er = 0) := by
          by_cases h0 : er = 0
          · subst h0; rfl
          · have : ¬ (er : Int) = 0 := by omega
            simp [h0]
        rw [← hd]
        rfl
      · exact OutJ.rm B2.out X3.out
  · have q1 : ((eo : Int) != 0) = true := by simp; omega
    have He := hid he
    clear he
    go_enter Tryz.func26, Tryz.ntmps26
    go_wp2_with (go_at_call 25; refine HO.out.mono ?_; rintro _ w1 ⟨v1, rfl, o1, b1⟩; have B1 := hid b1; clear b1 o1)
    go_ret3
    have hR1 : R = (s, ([], (false, eo))) := by
      rw [HR.out, if_pos He.out]
    rw [hR1]
    exact ⟨_, rfl, nilJ _ _, H.out.below B1.out, OutJ.of_below B1.out⟩
end Go.Proofs.YtdglmoikgmlaaaaGreatDoor
