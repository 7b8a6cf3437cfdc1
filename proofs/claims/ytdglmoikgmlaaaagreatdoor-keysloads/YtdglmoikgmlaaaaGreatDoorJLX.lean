/- YtdglmoikgmlaaaaGreatDoorJR10 + YtdglmoikgmlaaaaGreatDoorJRR + YtdglmoikgmlaaaaGreatDoorJRK + YtdglmoikgmlaaaaGreatDoorJLX -/
import Derived.Test.YtdglmoikgmlaaaaGreatDoorJR9
import Derived.Test.YtdglmoikgmlaaaaGreatDoorJRows
import Derived.Test.YtdglmoikgmlaaaaGreatDoorJX1
import Derived.Test.YtdglmoikgmlaaaaGreatDoorJLoad
/- The reference's Open and Reseal of any bytes, by contracts. -/
namespace Go.Proofs.YtdglmoikgmlaaaaGreatDoor
open Go.RowKit Go.Maps
set_option linter.unusedVariables false
set_option maxRecDepth 20000
set_option maxHeartbeats 1000000 in
theorem ropen_err {w : World} {g : Nat} (t u : ByteArray) (v : Value) (z c : Int) (hc : c ≠ 0) (H : Calls Tryz.prog 30 #[.pointer (some ⟨g, 0, none⟩), .string t, .string u] w fun e w' => e = .returned (.tuple #[.int .i64 z, .int .i64 c]) ∧ Below w.heap.size w w') :
    Calls Tryz.prog 25 #[.pointer (some ⟨g, 0, none⟩), .string t, .string u, v] w fun e w' => e = .returned (.tuple #[.slice none 0 0, .int .i64 0, .int .i64 c]) ∧ Below w.heap.size w w' := by
  have q0 : (c != 0) = true := by simpa using hc
  go_enter Tryz.func25, Tryz.ntmps25
  go_wp2_with (go_at_call 30; refine H.mono ?_; rintro _ w1 ⟨rfl, b1⟩)
  go_ret3
  exact ⟨rfl, b1⟩
set_option maxHeartbeats 1000000 in
theorem ropen_empty {w : World} {g : Nat} (t u : ByteArray) (a : Option Addr) (cap : Nat) (z : Int) (H : Calls Tryz.prog 30 #[.pointer (some ⟨g, 0, none⟩), .string t, .string u] w fun e w' => e = .returned (.tuple #[.int .i64 z, .int .i64 0]) ∧ Below w.heap.size w w') :
    Calls Tryz.prog 25 #[.pointer (some ⟨g, 0, none⟩), .string t, .string u, .slice a 0 cap] w fun e w' => e = .returned (.tuple #[.slice none 0 0, .int .i64 0, .int .i64 3]) ∧ Below w.heap.size w w' := by
  go_enter Tryz.func25, Tryz.ntmps25
  go_wp2_with (go_at_call 30; refine H.mono ?_; rintro _ w1 ⟨rfl, b1⟩)
  go_ret3
  exact ⟨rfl, b1⟩
set_option maxHeartbeats 4000000 in
theorem ropen_rng {w : World} {g : Nat} (t u : ByteArray) (z : Int) (v : Nat) (hv : v ≤ 255) (gs m cap : Nat) (hm0 : 0 < m) (q0 : w.cell? ⟨gs, 0, none⟩ = some (.int .u8 (v : Int))) (key : List UInt8) (HC : Calls Tryz.prog 30 #[.pointer (some ⟨g, 0, none⟩), .string t, .string u] w fun e w' => e = .returned (.tuple #[.int .i64 z, .int .i64 0]) ∧ Below w.heap.size w w')
    (HKy : ∀ W, Below w.heap.size w W → Calls Tryz.prog 28 #[.pointer (some ⟨g, 0, none⟩), .string t, .string u, .int .i64 (v : Int)] W (HashErr W key 2)) :
    Calls Tryz.prog 25 #[.pointer (some ⟨g, 0, none⟩), .string t, .string u, .slice (some ⟨gs, 0, none⟩) m cap] w fun e w' => e = .returned (.tuple #[.slice none 0 0, .int .i64 0, .int .i64 2]) ∧ Below w.heap.size w w' := by
  obtain ⟨Z, hZ⟩ : ∃ Z, Z = bvs (List.replicate 32 0) := ⟨_, rfl⟩
  have zh := (zero_of_info zero_hash).1
  rw [← hZ] at zh
  have hz : Hid (HV Z (List.replicate 32 0)) := by
    show HV _ _
    rw [hZ]; exact hv_zero
  have Zh := hid zh
  have HC := hid HC
  have HKy := hid HKy
  have Q0 := hid q0
  have gm0 : ((m : Int) == 0) = false := by simp; omega
  have hm0' := hid hm0
  clear hZ q0
  go_enter Tryz.func25, Tryz.ntmps25
  go_wp2_with (first
    | (go_at_call 30; refine HC.out.mono ?_; rintro _ w1 ⟨rfl, b1⟩; have B1 := hid b1; have q1 := (b1.cell (World.block_lt_of_cell? _ _ Q0.out)).trans Q0.out; clear b1)
    | (go_at_call 28; refine (HKy.out w1 B1.out).mono ?_; rintro _ w2 ⟨O, rfl, hO, b2⟩; obtain rfl := hO.eq; have hlk := hid hO.len; have B2 := hid (Below.on' B1.out b2); have X2 : Hid ((w2.alloc (.cells Z 23)).heap[w2.heap.size]? = some (.cells Z 23 (0, 0))) := heap_alloc_new w2 _; have HI := hid hO.info; have HZ9 := hid (hz.out.size.trans hO.size.symm); have HO1 := hid hO.one; clear b2 hO)
    | (with_reducible show Go.wpList _ _ _ _ _ _; refine wpList_alloc_row rfl 23 rfl Z Zh.out ?_)
    | (with_reducible show Go.wpList _ _ _ _ _ _; refine wpList_store_row rfl 23 _ _ rfl w2.heap.size (bvs key) rfl rfl 23 Z X2.out HI.out HZ9.out HO1.out ?_))
  go_ret3
  exact ⟨rfl, (B2.out.alloc B2.out.size _).setRow B2.out.size _⟩
theorem rCur_any {w : World} {B g : Nat} {root : List UInt8} {s : TS} (h : RT w B g root s) (ok : s.Ok) (t u : ByteArray) (ht : t.size ≤ maxLen) (hu : u.size ≤ maxLen) :
    Calls Tryz.prog 30 #[.pointer (some ⟨g, 0, none⟩), .string t, .string u] w fun e w' => e = .returned (.tuple #[.int .i64 ((s.cur t u).1 : Int), .int .i64 ((s.cur t u).2 : Int)]) ∧ Below w.heap.size w w' := by
  obtain ⟨gv, lv, h⟩ := h
  have hf := ok.few
  have hgf := ok.gfew
  exact rCurrent_any h (by omega) (by omega) t u ht hu
theorem rOpen_any {w : World} {B g : Nat} {root : List UInt8} {s : TS} (h : RT w B g root s) (ok : s.Ok) (t u : ByteArray) (ht : t.size ≤ maxLen) (hu : u.size ≤ maxLen) (S : List UInt8) (a : Option Addr) (m cap : Nat) (hm : m = S.length) (hm9 : m ≤ 140737488351232) (hmc : m ≤ cap) (ha : S ≠ [] → ∃ gs, a = some ⟨gs, 0, none⟩) (hB : Bytes w a S) :
    Calls Tryz.prog 25 #[.pointer (some ⟨g, 0, none⟩), .string t, .string u, .slice a m cap] w (ROpP w (s.openR root t u S)) := by
  have h0 := h
  obtain ⟨gv, lv, h⟩ := h
  have hf := ok.few
  have hgf := ok.gfew
  have HC := rCurrent_any h (by omega) (by omega) t u ht hu
  cases S with
  | nil =>
    subst hm
    rw [openR_nil]
    by_cases he : (s.cur t u).2 ≠ 0
    · rw [if_pos he]
      exact (ropen_err t u _ _ _ (by omega) HC).mono fun e w' h9 => ⟨_, h9.1, lies_nil _, h9.2⟩
    · rw [if_neg he]
      have he0 : (s.cur t u).2 = 0 := by omega
      rw [he0] at HC
      exact (ropen_empty t u a cap _ HC).mono fun e w' h9 => ⟨_, h9.1, lies_nil _, h9.2⟩
  | cons b S =>
    obtain ⟨gs, rfl⟩ := ha (by simp)
    have hb8 : UInt8.ofNat b.toNat = b := by simp
    have hlt := b.toNat_lt
    show Calls _ _ _ _ (ROpP w (s.openB root t u b S))
    unfold TS.openB
    by_cases he : (s.cur t u).2 ≠ 0
    · rw [if_pos he]
      exact (ropen_err t u _ _ _ (by omega) HC).mono fun e w' h9 => ⟨_, h9.1, lies_nil _, h9.2⟩
    · rw [if_neg he]
      have he0 : (s.cur t u).2 = 0 := by omega
      rw [he0] at HC
      by_cases hk : (s.keyR root t u (b.toNat : Int)).2 ≠ 0
      · rw [if_pos hk]
        have q0 : w.cell? ⟨gs, 0, none⟩ = some (.int .u8 (b.toNat : Int)) := by
          obtain ⟨b9, o9, e9, hc9⟩ := hB 0 (by simp)
          cases e9
          exact hc9
        have h2 := keyR_err he0 hk
        rw [h2]
        exact (ropen_rng t u _ b.toNat (by omega) gs m cap (by rw [hm]; simp) q0 _ HC (fun W hW => by have := rKey_any (h0.below hW) ok t u ht hu (b.toNat : Int); rw [h2] at this; exact this)).mono fun e w' h9 => ⟨_, h9.1, lies_nil _, h9.2⟩
      · rw [if_neg hk]
        have hk0 : (s.keyR root t u (b.toNat : Int)).2 = 0 := by omega
        exact ropen_gen t u _ b.toNat (by omega) _ S gs m cap (by rw [hm]; rfl) hm9 hmc (by rw [hb8]; exact hB) HC (fun W hW => by have := rKey_any (h0.below hW) ok t u ht hu (b.toNat : Int); rw [hk0] at this; exact this)
theorem OutJ.rm {w w1 w2 : World} {B g : Nat} (b : Below w.heap.size w w1) (o : OutJ (RM w1 B g) w1 w2) : OutJ (RM w B g) w w2 :=
  ⟨o.os.trans b.os, o.tape.trans b.tape, o.output.trans b.output, Nat.le_trans b.size o.size, fun k hk hp => (o.block k (Nat.lt_of_lt_of_le hk b.size) (fun ⟨h1, h2⟩ => hp ⟨h1, by rw [b.block k hk] at h2; exact h2⟩)).trans (b.block k hk)⟩
def RResP (w : World) (B g : Nat) (root : List UInt8) (r : TS × (List UInt8 × (Bool × Nat))) (e : Ending) (w' : World) : Prop := ∃ v, e = .returned (.tuple #[v, .bool r.2.2.1, .int .i64 (r.2.2.2 : Int)]) ∧ w'.ownsRow w.heap.size 5 1 v r.2.1.length (cellsOf r.2.1) ∧ RT w' B g root r.1 ∧ OutJ (RM w B g) w w'
theorem resealR_eq (s : TS) (root : List UInt8) (t u : ByteArray) (S : List UInt8) : s.resealR root t u S = if (s.openR root t u S).2.2 ≠ 0 then (s, ([], (false, (s.openR root t u S).2.2))) else if (s.openR root t u S).2.1 = verOf s.vs t u then (s, (S, (false, 0))) else ((s.sealR root t u (s.openR root t u S).1).1, ((s.sealR root t u (s.openR root t u S).1).2.1, (decide ((s.sealR root t u (s.openR root t u S).1).2.2 = 0), (s.sealR root t u (s.openR root t u S).1).2.2))) := by
  cases S with
  | nil =>
    rw [openR_nil, if_pos]
    · rfl
    · show (if (s.cur t u).2 ≠ 0 then (s.cur t u).2 else 3) ≠ 0
      split <;> omega
  | cons b S => rfl
theorem openR_ok {s : TS} {root : List UInt8} {t u : ByteArray} {S : List UInt8} (h : (s.openR root t u S).2.2 = 0) : (s.cur t u).2 = 0 := by
  cases S with
  | nil => rw [openR_nil] at h; simp only at h; split at h <;> omega
  | cons b S =>
    change (s.openB root t u b S).2.2 = 0 at h
    unfold TS.openB at h
    by_cases he : (s.cur t u).2 ≠ 0
    · rw [if_pos he] at h; exact h
    · omega
set_option maxHeartbeats 4000000 in
theorem rReseal_any {w : World} {B g : Nat} {root : List UInt8} {s : TS} (h : RT w B g root s) (ok : s.Ok) (hB0 : B ≤ w.heap.size) (hsn : s.n ≤ 1099511627776) (t u : ByteArray) (ht : t.size ≤ maxLen) (hu : u.size ≤ maxLen) (S : List UInt8) (a : Option Addr) (m cap : Nat) (hm : m = S.length) (hm9 : m ≤ 140737488351232) (hmc : m ≤ cap) (ha : S ≠ [] → ∃ gs, a = some ⟨gs, 0, none⟩) (hB : Bytes w a S) (hcn : a = none → cap = 0) :
    Calls Tryz.prog 26 #[.pointer (some ⟨g, 0, none⟩), .string t, .string u, .slice a m cap] w (RResP w B g root (s.resealR root t u S)) := by
  have HO := hid (rOpen_any h ok t u ht hu S a m cap hm hm9 hmc ha hB)
  have hf := ok.few
  have hgf := ok.gfew
  have HC := hid (fun (W : World) (hW : Below w.heap.size w W) => rCur_any (h.below hW) ok t u ht hu)
  have HS := hid (fun (W : World) (hW : Below w.heap.size w W) (p : List UInt8) (a : Option Addr) (n c : Nat) (hn : n = p.length) (hb : Bytes W a p) => rSeal_any (h.below hW) ok (Nat.le_trans hB0 hW.size) hsn t u ht hu p a n c hn hb)
  have HB := hid (fun (W : World) (hW : Below w.heap.size w W) => hB.below hW)
  have H := hid h
  have Hm := hid hm
  have Hm9 := hid hm9
  have Hcn := hid hcn
  obtain ⟨R, hR⟩ : ∃ R, R = s.resealR root t u S := ⟨_, rfl⟩
  have HR : Hid (R = _) := hR.trans (resealR_eq s root t u S)
  rw [← hR]
  obtain ⟨po, vo, eo, hop⟩ : ∃ po vo eo, s.openR root t u S = (po, (vo, eo)) := ⟨_, _, _, rfl⟩
  rw [hop] at HO HR
  have Hcur : Hid (eo = 0 → s.cur t u = (verOf s.vs t u, 0)) := fun h0 => by
    have h1 := openR_ok (s := s) (root := root) (t := t) (u := u) (S := S) (by rw [hop]; exact h0)
    obtain ⟨_, _, _, h2⟩ := cur_ok h1
    exact Prod.ext h2 h1
  clear h hm hm9 hmc hB hsn hR hop ha hf hgf hB0 hcn
  by_cases he : eo = 0
  · have Hc := hid (Hcur.out he)
    rw [Hc.out] at HC
    subst he
    by_cases hv : vo = verOf s.vs t u
    · have q1 : ((verOf s.vs t u : Int) == (vo : Int)) = true := by simp; omega
      have Hv := hid hv
      clear hv
      go_enter Tryz.func26, Tryz.ntmps26
      go_wp2_with (first
        | (go_at_call 25; refine HO.out.mono ?_; rintro _ w1 ⟨v1, rfl, o1, b1⟩; have B1 := hid b1; clear b1 o1)
        | (go_at_call 30; refine (HC.out w1 B1.out).mono ?_; rintro _ w2 ⟨rfl, b2⟩; have B2 := hid (Below.on' B1.out b2); clear b2)
        | (at_builtin; refine app_src _ rfl (.tmp 40) (.tmp 41) rfl w.heap.size (.slice none 0 0) [] rfl (World.ownsRow_nil _ _ _ _) a m cap S Hm.out rfl (HB.out w2 B2.out) Hcn.out (by have := Hm.out; have := Hm9.out; simp; omega) B2.out.size ?_; intro v3 w3 o3 b3; have O3 := hid o3; have B3 := hid (B2.out.trans b3); clear o3 b3))
      go_ret3
      have hR1 : R = (s, (S, (false, 0))) := by
        rw [HR.out, if_neg (by simp), if_pos Hv.out]
      rw [hR1]
      exact ⟨v3, rfl, by have := O3.out; rw [List.nil_append] at this; exact this, H.out.below B3.out, OutJ.of_below B3.out⟩
    · have q1 : ((verOf s.vs t u : Int) == (vo : Int)) = false := by simp; omega
      have Hv := hid hv
      obtain ⟨sr, lr, er, hsr⟩ : ∃ sr lr er, s.sealR root t u po = (sr, (lr, er)) := ⟨_, _, _, rfl⟩
      have HS9 := hid (fun (W : World) (hW : Below w.heap.size w W) (a : Option Addr) (n c : Nat) (hn : n = po.length) (hb : Bytes W a po) => by have := HS.out W hW po a n c hn hb; rw [hsr] at this; exact this)
      have Hsr := hid hsr
      clear hv hsr
      go_enter Tryz.func26, Tryz.ntmps26
      go_wp2_with (first
        | (go_at_call 25; refine HO.out.mono ?_; rintro _ w1 ⟨v1, rfl, ⟨a1, c1, rfl, hB1⟩, b1⟩; have B1 := hid b1; have HB1 := hid hB1; clear b1 hB1)
        | (go_at_call 30; refine (HC.out w1 B1.out).mono ?_; rintro _ w2 ⟨rfl, b2⟩; have B2 := hid (Below.on' B1.out b2); have HB2 := hid (HB1.out.below b2); clear b2)
        | (go_at_call 24; refine (HS9.out w2 B2.out a1 _ c1 rfl HB2.out).mono ?_; rintro _ w3 ⟨v3, rfl, o3, t3, x3⟩; have O3 := hid (own_mono o3 B2.out.size); have T3 := hid t3; have X3 := hid x3; clear o3 t3 x3))
      go_ret3
      have hR1 : R = (sr, (lr, (decide (er = 0), er))) := by
        rw [HR.out, if_neg (by simp), if_neg Hv.out]
        simp only [Hsr.out]
      rw [hR1]
      refine ⟨v3, ?_, O3.out, T3.out, ?_⟩
      · have hd : ((er : Int) == 0) = decide (er = 0) := by
          by_cases h0 : er = 0
          · subst h0; rfl
          · have : ¬ (er : Int) = 0 := by omega
            simp [h0]
        rw [← hd]
        rfl
      · exact OutJ.rm B2.out X3.out
  · have q1 : ((eo : Int) != 0) = true := by simp; omega
    have He := hid he
    clear he
    go_enter Tryz.func26, Tryz.ntmps26
    go_wp2_with (go_at_call 25; refine HO.out.mono ?_; rintro _ w1 ⟨v1, rfl, o1, b1⟩; have B1 := hid b1; clear b1 o1)
    go_ret3
    have hR1 : R = (s, ([], (false, eo))) := by
      rw [HR.out, if_pos He.out]
    rw [hR1]
    exact ⟨_, rfl, nilJ _ _, H.out.below B1.out, OutJ.of_below B1.out⟩
end Go.Proofs.YtdglmoikgmlaaaaGreatDoor
/- The reference's Rows of a tree of keys. -/
namespace Go.Proofs.YtdglmoikgmlaaaaGreatDoor.Xr
open Go.RowKit Go.Maps
set_option linter.unusedVariables false
set_option maxRecDepth 20000
def RZ (w0 : World) (v : Value) (rs : List RC) (m : List Rw) (V : World) : Prop := Below w0.heap.size w0 V ∧ V.ownsRow w0.heap.size 67 2 v rs.length (rcCells rs) ∧ RowsIs V rs m
theorem RZ.on {w0 V V' : World} {v : Value} {rs : List RC} {m : List Rw} (h : RZ w0 v rs m V) (hb : Below V.heap.size V V') : RZ w0 v rs m V' := ⟨h.1.trans (hb.mono h.1.size), own_onW h.2.1 hb, h.2.2.below hb⟩
theorem RZ.app {w0 V V' : World} {v v' : Value} {rs : List RC} {m : List Rw} (h : RZ w0 v rs m V) {r : RC} {x : Rw} (hx : RowIs V r x) (ho : V'.ownsRow w0.heap.size 67 2 v' (rs ++ [r]).length (rcCells (rs ++ [r]))) (hg : V.grownBy V' v.ownBlock) : RZ w0 v' (rs ++ [r]) (m ++ [x]) V' :=
  ⟨h.1.trans ((Below.refl _ _).grown hg h.1.size (fun k hk => (h.2.1.lt k hk).1)), ho, (h.2.2.grown h.2.1 hg).app ⟨⟨hx.1, hx.2.1, hx.2.2.grown h.2.1 hg⟩, trivial⟩⟩
theorem below_one' {B : Nat} {w : World} (h : B ≤ w.heap.size) (x : Obj) : Below B w (w.alloc x) := (Below.refl _ w).alloc h _
theorem below_two' {B : Nat} {w : World} (h : B ≤ w.heap.size) (x y : Obj) : Below B w ((w.alloc x).alloc y) := ((Below.refl _ w).alloc h _).alloc (by simp; omega) _
theorem refNumJ (n : Nat) (h : n ≤ 4611686018427387904) (w : World) : Calls Tryz.prog 34 #[.int .i64 (n : Int)] w fun e w' => e = .returned (.tuple #[.string (txtJ n), .int .i64 0]) ∧ Below w.heap.size w w' := refNumber_any n h w
set_option maxHeartbeats 6400000 in
theorem rRows_any {w : World} {B g : Nat} {root : List UInt8} {s : TS} {gv lv : Value} (h : RTree w B g root s gv lv) (ok : s.Ok) (hn : s.n ≤ 4611686018427387904) : Calls Tryz.prog 12 #[.pointer (some ⟨g, 0, none⟩)] w (PRows w s) := by
  have H := hid h
  have Ok := hid ok
  obtain ⟨ga, gcap, rfl, hx⟩ := textsJ_of_own h.gone
  obtain ⟨va, vcap, rfl, hv⟩ := vers_of_own h.vers
  have Hx := hid hx
  have Hv := hid hv
  have c32 := h.c32
  obtain ⟨m, hm⟩ : ∃ m, m = s.gs.length := ⟨_, rfl⟩
  obtain ⟨N, hN⟩ : ∃ N, N = s.vs.length := ⟨_, rfl⟩
  have H33 : Hid (∀ W, Below w.heap.size w W → W.cell? ⟨g, 33, none⟩ = some (.slice ga m gcap)) := fun W hW => by rw [hm]; exact (h.below hW).c33
  have H34 : Hid (∀ W, Below w.heap.size w W → W.cell? ⟨g, 34, none⟩ = some (.slice va N vcap)) := fun W hW => by rw [hN]; exact (h.below hW).c34
  have hm9 : m ≤ 16 := by rw [hm]; exact ok.gfew
  have hN9 : N ≤ 16 := by rw [hN]; exact ok.few
  have Hm := hid hm
  have HN := hid hN
  clear h ok hx hv hm hN
  go_enter Tryz.func12, Tryz.ntmps12
  go_wp2_with (go_at_call 34; refine (refNumJ s.n hn _).mono ?_; rintro _ w1 ⟨rfl, b1⟩; have B1 := hid b1; clear b1)
  obtain ⟨W3, hW3⟩ : ∃ W3, W3 = (w1.alloc (.cells #[.string (txtJ s.n)] 9)).alloc (.cells #[.string ⟨#[35]⟩, .slice (some ⟨w1.heap.size, 0, none⟩) 1 1] 67) := ⟨_, rfl⟩
  rw [← hW3]
  have R3 : Hid (RZ w (.slice (some ⟨w1.heap.size + 1, 0, none⟩) 1 1) [RC.mk ⟨#[35]⟩ (some ⟨w1.heap.size, 0, none⟩) 1 1] [hRow s.n] W3) := by
    show RZ _ _ _ _ _
    have hsz : (w1.alloc (.cells #[.string (txtJ s.n)] 9)).heap.size = w1.heap.size + 1 := by simp
    have ho := own_new1 (B := w.heap.size) (w1.alloc (.cells #[.string (txtJ s.n)] 9)) (by rw [hsz]; have := B1.out.size; omega) ⟨#[35]⟩ (some ⟨w1.heap.size, 0, none⟩) 1 1
    rw [hsz] at ho
    rw [hW3]
    exact ⟨B1.out.trans (below_two' B1.out.size _ _), ho, ⟨rfl, rfl, .inr ⟨_, _, rfl, ((MapKept.heap_alloc _ _).2 _ (by simp)).trans (MapKept.heap_alloc w1 _).1, rfl⟩⟩, trivial⟩
  clear hW3
  go_loopw [5, 6] (fun v i wr => ∃ (k : Nat) (rs : List RC), k ≤ m ∧ i = .int .i64 (k : Int) ∧ RZ w v rs (hRow s.n :: (s.gs.take k).map gRow) wr) (fun _ i _ => m - (intOf i).toNat)
  case atStart => exact ⟨0, _, Nat.zero_le _, rfl, R3.out⟩
  case round =>
    obtain ⟨k, rs, hk, rfl, hz⟩ := hrel
    have Z0 := hid hz
    have c33 := H33.out wr hz.1
    have hrk : rs.length = k + 1 := by
      have h1 := hz.2.2.length
      have := Hm.out
      simp at h1
      omega
    have Hrk := hid hrk
    clear hz hrk
    by_cases hlt : k < m
    · have g1 : (k : Int) < (m : Int) := by omega
      have hkl : k < s.gs.length := by have := Hm.out; omega
      obtain ⟨bb, oo, rfl, hc0⟩ := Hx.out k hkl
      have hc := (Z0.out.1.cell (World.block_lt_of_cell? _ _ hc0)).trans hc0
      have Htk := hid (List.take_succ_eq_append_getElem hkl)
      obtain ⟨x, hxk⟩ : ∃ x, x = s.gs[k] := ⟨_, rfl⟩
      rw [← hxk] at Htk hc
      clear hxk hc0
      go_wp2_with (at_builtin; refine app_rowL rfl (.tmp 33) (.tmp 42) rfl wr x none 0 0 rfl w.heap.size _ rs rfl Z0.out.2.1 rfl (by have := Hrk.out; omega) Z0.out.1.size ?_; intro v7 w7 ho7 hg7; have zz := hid (Z0.out.app (x := gRow x) ⟨rfl, rfl, .inl rfl⟩ ho7 hg7); clear ho7 hg7)
      go_roundw
      case rel => exact ⟨k + 1, _, by omega, by go_num, by rw [Htk.out, List.map_append, ← List.cons_append]; exact zz.out⟩
      case measure => simp [intOf]; omega
    · have e : k = m := by omega
      subst e
      have g1 : ¬ (k : Int) < (k : Int) := by omega
      have R4 : Hid (RZ w u5 rs (hRow s.n :: s.gs.map gRow) wr) := by
        have h3 := Z0.out
        rw [List.take_of_length_le (by have := Hm.out; omega)] at h3
        exact h3
      rename World => Vr
      go_wp2
      clear c33 g1
      go_loopw [5, 7] (fun v i wr => ∃ (j : Nat) (rs : List RC), j ≤ N ∧ i = .int .i64 (j : Int) ∧ RZ w v rs (hRow s.n :: (s.gs.map gRow ++ (s.vs.take j).map vRow)) wr) (fun _ i _ => N - (intOf i).toNat)
      case atStart => exact ⟨0, _, Nat.zero_le _, rfl, by rw [List.take_zero, List.map_nil, List.append_nil]; exact R4.out⟩
      case round =>
        obtain ⟨j, rs2, hj, rfl, hz2⟩ := hrel
        have Z2 := hid hz2
        have c34 := H34.out wr hz2.1
        have hrk2 : rs2.length ≤ 1000 := by
          have h1 := hz2.2.2.length
          have := Hm.out
          simp at h1
          omega
        have Hrk2 := hid hrk2
        clear hz2 hrk2
        by_cases hlt2 : j < N
        · have g2 : (j : Int) < (N : Int) := by omega
          have hkl : j < s.vs.length := by have := HN.out; omega
          obtain ⟨bb, rfl, d0, d1, d2⟩ := Hv.out j hkl
          have Htk := hid (List.take_succ_eq_append_getElem hkl)
          have nm := Ok.out.names _ (List.getElem_mem hkl)
          obtain ⟨x, hxk⟩ : ∃ x, x = s.vs[j] := ⟨_, rfl⟩
          rw [← hxk] at Htk d0 d1 d2 nm
          clear hxk
          obtain ⟨⟨x1, x2⟩, xn⟩ := x
          simp only at d0 d1 d2 nm
          have zt : x1.size ≤ 9 := okN_len nm.1
          have zu : x2.size ≤ 9 := okN_len nm.2.1
          have q1 : ¬ 9223372036854775807 < x1.size + 1 := by omega
          have q2 : ¬ 9223372036854775807 < x1.size + 1 + x2.size := by omega
          have zn := hid nm.2.2.2.1
          have HC : Hid (∀ W, Below w.heap.size w W → W.cell? ⟨g, 34, none⟩ = some (.slice (some ⟨bb, 0, none⟩) N vcap) ∧ W.cell? ⟨bb, j * 3, none⟩ = some (.string x1) ∧ W.cell? ⟨bb, j * 3 + 1, none⟩ = some (.string x2)) := fun W hW => ⟨H34.out W hW, (hW.cell (World.block_lt_of_cell? _ _ d0)).trans d0, (hW.cell (World.block_lt_of_cell? _ _ d1)).trans d1⟩
          have e2 := (Z2.out.1.cell (World.block_lt_of_cell? _ _ d2)).trans d2
          clear d0 d1 d2 nm zt zu
          go_wp2_with (go_at_call 34; refine (refNumJ xn (by have := zn.out; omega) _).mono ?_; rintro _ W5 ⟨rfl, b5⟩; have Z5 := hid (Z2.out.on b5); clear b5)
          have z : Hid (RZ w u5 rs2 (hRow s.n :: (s.gs.map gRow ++ (s.vs.take j).map vRow)) W5.drew) := Z5.out.on (below_drewN _ _ 1)
          clear e2 c34
          go_region_held3 (fun w9 => w9.cell? ⟨g, 34, none⟩ = some (.slice (some ⟨bb, 0, none⟩) N vcap) ∧ w9.cell? ⟨bb, j * 3, none⟩ = some (.string x1) ∧ w9.cell? ⟨bb, j * 3 + 1, none⟩ = some (.string x2))
            (first
              | exact HC.out _ zz.out.1
              | exact HC.out _ z.out.1
              | exact HC.out _ (z.out.on (below_one' (Nat.le_refl _) _)).1
              | exact HC.out _ (z.out.on (below_two' (Nat.le_refl _) _ _)).1)
            (((with_reducible (show ite _ (Oper.wp _ { dst := some 88, op := _, type := _, pos := _, after := _, guard := _ } _ _ _ _) _)); rw [if_pos (by simp [Region.wanted])]; refine app_rowR (.tmp 65) (.tmp 87) rfl (W5.drew.alloc (.cells #[.string (txtJ xn)] 9)) _ _ _ _ rfl w.heap.size u5 rs2 rfl (z.out.on (below_one' (Nat.le_refl _) _)).2.1 (by rw [show (W5.drew.alloc (.cells #[.string (txtJ xn)] 9)).heap.size = W5.drew.heap.size + 1 by simp]; rfl) (by have := Hrk2.out; omega) (z.out.on (below_one' (Nat.le_refl _) _)).1.size ?_; intro v' w' ho' hg'; have zz := hid ((z.out.on (below_one' (Nat.le_refl _) _)).app (x := vRow ((x1, x2), xn)) ⟨rfl, rfl, .inr ⟨_, _, rfl, (MapKept.heap_alloc W5.drew _).1, rfl⟩⟩ ho' hg'); clear ho' hg'))
          all_goals go_wp2
          all_goals go_roundw
          all_goals first
            | exact ⟨j + 1, _, by omega, by go_num, by rw [Htk.out, List.map_append, ← List.append_assoc, ← List.cons_append]; exact zz.out⟩
            | (simp [intOf]; omega)
        · have e : j = N := by omega
          have g2 : ¬ (j : Int) < (N : Int) := by omega
          have h3 := Z2.out
          rw [List.take_of_length_le (by have := HN.out; omega)] at h3
          have HS := hid (sortedG_any h3.2.1 (by have := Hrk2.out; omega))
          have R5 := hid h3
          clear h3
          go_wp2_with (go_at_call 35; refine HS.out.mono ?_; rintro _ w6 ⟨v6, S, rfl, ho6, hp6, hi6, hb6⟩; have O6 := hid ho6; have P6 := hid hp6; have I6 := hid hi6; have B6 := hid hb6; clear ho6 hp6 hi6 hb6)
          go_ret
          obtain ⟨m', p1, p2⟩ := RowsIs.perm P6.out (R5.out.2.2.below B6.out)
          exact ⟨_, S, m', rfl, ⟨O6.out.1, O6.out.2.imp id fun ⟨g9, c9, cu9, h1, h2, h3⟩ => ⟨g9, c9, cu9, h1, Nat.le_trans R5.out.1.size h2, h3⟩⟩, p2, p1, p2.order I6.out, R5.out.1.trans (B6.out.mono R5.out.1.size)⟩
end Go.Proofs.YtdglmoikgmlaaaaGreatDoor.Xr
/- The rows of a tree of keys have keys that are all different: both sides' rows are the same. -/
namespace Go.Proofs.YtdglmoikgmlaaaaGreatDoor.Xr
open Go.RowKit Go.Maps
set_option linter.unusedVariables false
set_option maxRecDepth 20000
theorem okN_no {t : ByteArray} (h : okN t = true) : (47 : UInt8) ∉ t.data.toList ∧ (35 : UInt8) ∉ t.data.toList := by
  unfold okN nameB at h
  have h1 := List.all_eq_true.1 ((Bool.and_eq_true _ _).mp h).2
  exact ⟨fun hm => by have := h1 _ hm; revert this; decide, fun hm => by have := h1 _ hm; revert this; decide⟩
theorem split_at : ∀ {a b c d : List UInt8}, (47 : UInt8) ∉ a → (47 : UInt8) ∉ c → a ++ 47 :: b = c ++ 47 :: d → a = c ∧ b = d
  | [], _, [], _, _, _, h => ⟨rfl, by simpa using h⟩
  | [], _, y :: c, _, _, h2, h => by
    simp at h
    exact absurd (h.1 ▸ List.mem_cons_self) h2
  | x :: a, _, [], _, h1, _, h => by
    simp at h
    exact absurd (h.1 ▸ List.mem_cons_self) h1
  | x :: a, _, y :: c, _, h1, h2, h => by
    simp at h
    obtain ⟨e1, e2⟩ := split_at (fun hm => h1 (List.mem_cons_of_mem _ hm)) (fun hm => h2 (List.mem_cons_of_mem _ hm)) h.2
    exact ⟨by rw [h.1, e1], e2⟩
theorem vRow_data (p : (ByteArray × ByteArray) × Nat) : (vRow p).key.data.toList = p.1.1.data.toList ++ 47 :: p.1.2.data.toList := by
  unfold vRow
  simp [ByteArray.data_append]
theorem keyR_eq {a b : Rw} (h : keyR a = keyR b) : a.key.data.toList = b.key.data.toList := by
  unfold keyR at h
  rw [(str_eqJ _ _).2 h]
theorem bytes_eq {a b : ByteArray} (h : a.data.toList = b.data.toList) : a = b := by
  cases a; cases b
  simp at h
  rw [h]
theorem mOf_keys {s : TS} (ok : s.Ok) : ∀ a ∈ mOf s, ∀ b ∈ mOf s, keyR a = keyR b → a = b := by
  have hg : ∀ t ∈ s.gs, keyR (hRow s.n) ≠ keyR (gRow t) := fun t ht e => by
    have h1 := keyR_eq e
    have h2 : (35 : UInt8) ∈ (gRow t).key.data.toList := by rw [← h1]; exact List.mem_cons_self
    exact (okN_no (ok.gnames t ht)).2 h2
  have hv : ∀ p ∈ s.vs, keyR (hRow s.n) ≠ keyR (vRow p) := fun p hp e => by
    have h1 := keyR_eq e
    have h2 : (47 : UInt8) ∈ (hRow s.n).key.data.toList := by rw [h1, vRow_data]; simp
    revert h2
    show (47 : UInt8) ∈ [(35 : UInt8)] → False
    decide
  have gv : ∀ t ∈ s.gs, ∀ p ∈ s.vs, keyR (gRow t) ≠ keyR (vRow p) := fun t ht p hp e => by
    have h1 := keyR_eq e
    have h2 : (47 : UInt8) ∈ (gRow t).key.data.toList := by rw [h1, vRow_data]; simp
    exact (okN_no (ok.gnames t ht)).1 h2
  have mem : ∀ a ∈ mOf s, a = hRow s.n ∨ (∃ t ∈ s.gs, a = gRow t) ∨ ∃ p ∈ s.vs, a = vRow p := fun a ha => by
    rcases List.mem_cons.1 ha with h | h
    · exact .inl h
    · rcases List.mem_append.1 h with h | h
      · obtain ⟨t, h1, h2⟩ := List.mem_map.1 h
        exact .inr (.inl ⟨t, h1, h2.symm⟩)
      · obtain ⟨t, h1, h2⟩ := List.mem_map.1 h
        exact .inr (.inr ⟨t, h1, h2.symm⟩)
  intro a ha b hb e
  rcases mem a ha with rfl | ⟨t, ht, rfl⟩ | ⟨p, hp, rfl⟩ <;> rcases mem b hb with rfl | ⟨t', ht', rfl⟩ | ⟨p', hp', rfl⟩
  · rfl
  · exact absurd e (hg t' ht')
  · exact absurd e (hv p' hp')
  · exact absurd e.symm (hg t ht)
  · rw [show t = t' from bytes_eq (keyR_eq e)]
  · exact absurd e (gv t ht p' hp')
  · exact absurd e.symm (hv p hp)
  · exact absurd e.symm (gv t' ht' p hp)
  · have h1 := keyR_eq e
    rw [vRow_data, vRow_data] at h1
    obtain ⟨e1, e2⟩ := split_at (okN_no (ok.names p hp).1).1 (okN_no (ok.names p' hp').1).1 h1
    have e3 : p.1 = p'.1 := Prod.ext (bytes_eq e1) (bytes_eq e2)
    rw [key_one ok.nodup hp hp' e3]
theorem same_rows {w : World} {B1 B2 : Nat} {v1 v2 : Value} {r1 r2 : List RC} {m1 m2 : List Rw} {s : TS} (ok : s.Ok) (h1 : w.ownsRow B1 67 2 v1 r1.length (rcCells r1)) (h2 : w.ownsRow B2 67 2 v2 r2.length (rcCells r2)) (i1 : RowsIs w r1 m1) (i2 : RowsIs w r2 m2) (p1 : m1.Perm (mOf s)) (p2 : m2.Perm (mOf s)) (o1 : InOrder keyR m1) (o2 : InOrder keyR m2) :
    Calls Tryz.prog 10 #[v1, v2] w fun e w' => e = .returned (.bool true) ∧ Below w.heap.size w w' := by
  have e : m1 = m2 := uniq keyR (p1.trans p2.symm) o1 o2 (fun a ha b hb => mOf_keys ok a (p1.mem_iff.1 ha) b (p1.mem_iff.1 hb))
  subst e
  refine sameRows_any h1 h2 i1 i2 ?_ ?_
  · rw [p1.length_eq]
    have := ok.few
    have := ok.gfew
    simp [mOf]
    omega
  · intro x hx
    have := p1.mem_iff.1 hx
    rcases List.mem_cons.1 this with h | h
    · rw [h]; simp [hRow]
    · rcases List.mem_append.1 h with h | h
      · obtain ⟨t, _, rfl⟩ := List.mem_map.1 h
        simp [gRow]
      · obtain ⟨t, _, rfl⟩ := List.mem_map.1 h
        simp [vRow]
end Go.Proofs.YtdglmoikgmlaaaaGreatDoor.Xr
/- Load of a tree of keys, as mathematics: what is loaded are just the tree's rows; the reference's reading comes to the same. -/
namespace Go.Proofs.YtdglmoikgmlaaaaGreatDoor.Xr
open Go.RowKit Go.Maps
set_option linter.unusedVariables false
set_option maxRecDepth 20000
theorem lt_app : ∀ (l b : List UInt8), b ≠ [] → l < l ++ b
  | [], b :: r, _ => List.nil_lt_cons _ _
  | [], [], h => absurd rfl h
  | a :: l, b, h => by
    rw [List.cons_append, List.cons_lt_cons_iff]
    exact .inr ⟨rfl, lt_app l b h⟩
theorem cut_some {s : ByteArray} {p : ByteArray × ByteArray} (h : cutS s = some p) : s = p.1 ++ ⟨#[47]⟩ ++ p.2 ∧ (47 : UInt8) ∉ p.1.data.toList := by
  unfold cutS at h
  cases hf : s.data.toList.findIdx? (· == 47) with
  | none => rw [hf] at h; cases h
  | some i =>
    rw [hf] at h
    simp only [Option.map_some] at h
    obtain rfl := Option.some.inj h
    obtain ⟨h1, h2, h3⟩ := List.findIdx?_eq_some_iff_getElem.1 hf
    have h4 : s.data.toList[i] = 47 := by simpa using h2
    have hs : s.size = s.data.toList.length := Lib.size_eq s
    have e1 : (s.extract 0 i).data.toList = s.data.toList.take i := by simp
    have e2 : (s.extract (i + 1) s.size).data.toList = s.data.toList.drop (i + 1) := by
      rw [hs]
      simp
      rw [List.take_of_length_le (by simp)]
    constructor
    · refine bytes_eq ?_
      simp only [ByteArray.data_append, Array.toList_append]
      rw [e1, e2]
      show s.data.toList = (s.data.toList.take i ++ [47]) ++ s.data.toList.drop (i + 1)
      rw [← h4, List.append_assoc]
      show _ = s.data.toList.take i ++ (s.data.toList[i] :: s.data.toList.drop (i + 1))
      rw [← List.drop_eq_getElem_cons h1, List.take_append_drop]
    · intro hm
      rw [e1] at hm
      obtain ⟨j, hj, ej⟩ := List.mem_iff_getElem.1 hm
      have hj' : j < i := by rw [List.length_take] at hj; omega
      have := h3 j hj'
      rw [List.getElem_take] at ej
      simp [ej] at this
def Step (s s' : TS) (r : Rw) : Prop := s'.n = s.n ∧ ((∃ t u v, s'.vs = s.vs ++ [((t, u), v)] ∧ s'.gs = s.gs ∧ r = vRow ((t, u), v) ∧ cutS r.key = some (t, u) ∧ r.key ≠ headK ∧ okN t = true ∧ okN u = true ∧ 2 ≤ v ∧ v ≤ 16) ∨ (s'.gs = s.gs ++ [r.key] ∧ s'.vs = s.vs ∧ r = gRow r.key ∧ cutS r.key = none ∧ r.key ≠ headK ∧ okN r.key = true))
theorem mem_head {s : TS} {m : List Rw} (hp : m.Perm (mOf s)) : hRow s.n ∈ m := hp.mem_iff.2 List.mem_cons_self
theorem mem_ver {s : TS} {m : List Rw} (hp : m.Perm (mOf s)) {p : (ByteArray × ByteArray) × Nat} (h : p ∈ s.vs) : vRow p ∈ m := hp.mem_iff.2 (List.mem_cons_of_mem _ (List.mem_append_right _ (List.mem_map.2 ⟨p, h, rfl⟩)))
theorem mem_gone {s : TS} {m : List Rw} (hp : m.Perm (mOf s)) {t : ByteArray} (h : t ∈ s.gs) : gRow t ∈ m := hp.mem_iff.2 (List.mem_cons_of_mem _ (List.mem_append_left _ (List.mem_map.2 ⟨t, h, rfl⟩)))
theorem step_shape {s s' : TS} (ok : s.Ok) {m : List Rw} {r : Rw} (hp : m.Perm (mOf s)) (hr : ∀ a ∈ m, a.key.toList < r.key.toList) (h : takeR s r = some s') : Step s s' r := by
  have hh : r.key ≠ headK := fun e => by
    have h1 := hr _ (mem_head hp)
    rw [e] at h1
    exact List.lt_irrefl _ h1
  cases hc : cutS r.key with
  | some p =>
    rw [takeR_ver hh hc] at h
    unfold tvR at h
    cases ho : oneN r.cols 2 16 with
    | none => rw [ho] at h; cases h
    | some v =>
      rw [ho] at h
      simp only [Option.bind_some] at h
      split at h
      · rename_i hcur
        obtain rfl := Option.some.inj h
        obtain ⟨n1, n2, hg, _⟩ := cur_ok hcur.1
        obtain ⟨e1, e2⟩ := cut_some hc
        obtain ⟨ec, v2, v16⟩ := oneN_some ho
        have er : r = vRow ((p.1, p.2), v) := by
          obtain ⟨k, c⟩ := r
          simp only at e1 ec
          rw [vRow, e1, ec]
        refine ⟨rfl, .inl ⟨p.1, p.2, v, ?_, rfl, er, hc, hh, n1, n2, v2, v16⟩⟩
        show rotV s.vs p.1 p.2 v = _
        unfold rotV
        rw [List.filter_eq_self.2]
        intro q hq
        by_cases e : q.1 = (p.1, p.2)
        · have h1 := hr _ (mem_ver hp hq)
          have h2 : (vRow q).key = r.key := by rw [er]; unfold vRow; rw [e]
          rw [h2] at h1
          exact absurd h1 (List.lt_irrefl _)
        · unfold isAt
          simp [e]
      · cases h
  | none =>
    rw [takeR_gone hh hc] at h
    split at h
    · rename_i hg
      obtain rfl := Option.some.inj h
      obtain ⟨h1, h2⟩ := hg
      have er : r = gRow r.key := by
        obtain ⟨k, c⟩ := r
        simp only at h1
        rw [gRow, List.eq_nil_of_length_eq_zero h1]
      unfold TS.desR at h2 ⊢
      by_cases hn : okN r.key = true
      · rw [if_pos hn] at h2 ⊢
        by_cases hg : isIn s.gs r.key = true
        · rw [if_pos hg] at h2; cases h2
        · rw [if_neg hg] at h2 ⊢
          by_cases hf : s.gs.length = 16
          · rw [if_pos hf] at h2; cases h2
          · rw [if_neg hf]
            refine ⟨rfl, .inr ⟨rfl, ?_, er, hc, hh, hn⟩⟩
            show s.vs.filter (keptT r.key) = s.vs
            rw [List.filter_eq_self]
            intro q hq
            unfold keptT
            by_cases e : q.1.1 = r.key
            · have h3 := hr _ (mem_ver hp hq)
              rw [show (vRow q).key.toList = (vRow q).key.data.toList from Lib.toList_data _, vRow_data, e, Lib.toList_data] at h3
              exact absurd h3 (List.lt_asymm (lt_app _ _ (by simp)))
            · simp [e]
      · rw [if_neg hn] at h2; cases h2
    · cases h
theorem step_perm {s s' : TS} {m : List Rw} {r : Rw} (hp : m.Perm (mOf s)) (h : Step s s' r) : (m ++ [r]).Perm (mOf s') := by
  obtain ⟨hn, h⟩ := h
  rcases h with ⟨t, u, v, e1, e2, e3, _⟩ | ⟨e1, e2, e3, _⟩
  · unfold mOf
    rw [hn, e1, e2, List.map_append, List.map_singleton, ← e3, ← List.append_assoc, ← List.cons_append]
    exact hp.append_right _
  · unfold mOf
    rw [hn, e1, e2, List.map_append, List.map_singleton, ← e3]
    refine (hp.append_right _).trans ?_
    unfold mOf
    rw [List.cons_append]
    refine List.Perm.cons _ ?_
    rw [List.append_assoc, List.append_assoc]
    exact List.Perm.append_left _ List.perm_append_comm
theorem rise_snoc {m : List Rw} {r : Rw} (h : Rise (m ++ [r])) : Rise m ∧ ∀ a ∈ m, a.key.toList < r.key.toList := by
  obtain ⟨h1, _, h3⟩ := List.pairwise_append.1 h
  exact ⟨h1, fun a ha => h3 a ha r (List.mem_singleton.2 rfl)⟩
theorem load_perm : ∀ (n : Nat) (m : List Rw) (s : TS), m.length = n + 1 → Rise m → (m.head?.map (·.key)) = some headK → loadF TS0 m = some s → s.Ok ∧ m.Perm (mOf s) ∧ s.n ≤ 1099511627776
  | 0, m, s, hl, hr, hh, h => by
    obtain ⟨r, rfl⟩ := List.length_eq_one_iff.1 hl
    have hk : r.key = headK := by simpa using hh
    simp only [loadF] at h
    cases ht : takeR TS0 r with
    | none => rw [ht] at h; cases h
    | some s1 =>
      rw [ht] at h
      simp only [Option.bind_some] at h
      obtain rfl := Option.some.inj h
      have ok := takeR_ok TS0_ok ht
      rw [takeR_head hk] at ht
      cases ho : oneN r.cols 0 1099511627776 with
      | none => rw [ho] at ht; cases ht
      | some n =>
        rw [ho] at ht
        obtain rfl := Option.some.inj ht
        obtain ⟨ec, _, hn⟩ := oneN_some ho
        refine ⟨ok, ?_, hn⟩
        have er : r = hRow n := by
          obtain ⟨k, c⟩ := r
          simp only at hk ec
          rw [hRow, hk, ec]
          rfl
        rw [er]
        exact List.Perm.refl _
  | n + 1, m, s, hl, hr, hh, h => by
    rcases List.eq_nil_or_concat m with rfl | ⟨m1, r, rfl⟩
    · simp at hl
    · rw [List.concat_eq_append] at *
      have hl1 : m1.length = n + 1 := by simp at hl; omega
      obtain ⟨hr1, hlt⟩ := rise_snoc hr
      have hh1 : (m1.head?.map (·.key)) = some headK := by
        cases m1 with
        | nil => simp at hl1
        | cons x m1 => simpa using hh
      rw [loadF_snoc] at h
      cases h1 : loadF TS0 m1 with
      | none => rw [h1] at h; cases h
      | some s1 =>
        rw [h1] at h
        simp only [Option.bind_some] at h
        obtain ⟨ok, hp, hn⟩ := load_perm n m1 s1 hl1 hr1 hh1 h1
        have hst := step_shape ok hp hlt h
        exact ⟨takeR_ok ok h, step_perm hp hst, by rw [hst.1]; exact hn⟩
theorem mOf_len {s : TS} (ok : s.Ok) : (mOf s).length ≤ 33 := by
  have := ok.few
  have := ok.gfew
  unfold mOf
  simp only [List.length_cons, List.length_append, List.length_map]
  omega
theorem load_few {m : List Rw} (hh : (m.head?.map (·.key)) = some headK) (hr : riseB m = true) (k : Nat) (s : TS) (h : loadF TS0 (m.take k) = some s) (hk : k ≤ m.length) : k ≤ 33 := by
  by_cases h0 : k = 0
  · omega
  · have hl : (m.take k).length = k := by rw [List.length_take]; omega
    have h2 := load_perm (k - 1) (m.take k) s (by omega) ((riseB_iff _).1 (riseB_pre k hr)) (by
      cases m with
      | nil => cases hh
      | cons x m =>
        obtain ⟨j, rfl⟩ : ∃ j, k = j + 1 := ⟨k - 1, by omega⟩
        simpa using hh) h
    have := h2.2.1.length_eq
    have := mOf_len h2.1
    omega
theorem loadR_perm {m : List Rw} {s : TS} (h : loadR m = some s) : s.Ok ∧ m.Perm (mOf s) ∧ s.n ≤ 1099511627776 ∧ Rise m := by
  unfold loadR at h
  split at h
  · rename_i h1
    obtain ⟨⟨r, m', rfl, hk⟩, hr⟩ := h1
    obtain ⟨q1, q2, q3⟩ := load_perm m'.length (r :: m') s rfl hr (by simp [hk]) h
    exact ⟨q1, q2, q3, hr⟩
  · cases h
theorem ver_new {s : TS} {m : List Rw} {r : Rw} (hp : m.Perm (mOf s)) (hr : ∀ a ∈ m, a.key.toList < r.key.toList) {t u : ByteArray} (e : r.key = t ++ ⟨#[47]⟩ ++ u) : ∀ q ∈ s.vs, q.1 ≠ (t, u) := fun q hq e2 => by
  have h1 := hr _ (mem_ver hp hq)
  have h2 : (vRow q).key = r.key := by rw [e]; unfold vRow; rw [e2]
  rw [h2] at h1
  exact absurd h1 (List.lt_irrefl _)
theorem rotV_new {vs : List ((ByteArray × ByteArray) × Nat)} {t u : ByteArray} (v : Nat) (h : ∀ q ∈ vs, q.1 ≠ (t, u)) : rotV vs t u v = vs ++ [((t, u), v)] := by
  unfold rotV
  rw [List.filter_eq_self.2]
  intro q hq
  unfold isAt
  simp [h q hq]
theorem gone_new {s : TS} {m : List Rw} {r : Rw} (hp : m.Perm (mOf s)) (hr : ∀ a ∈ m, a.key.toList < r.key.toList) : s.vs.filter (keptT r.key) = s.vs := by
  rw [List.filter_eq_self]
  intro q hq
  unfold keptT
  by_cases e : q.1.1 = r.key
  · have h3 := hr _ (mem_ver hp hq)
    rw [show (vRow q).key.toList = (vRow q).key.data.toList from Lib.toList_data _, vRow_data, e, Lib.toList_data] at h3
    exact absurd h3 (List.lt_asymm (lt_app _ _ (by simp)))
  · simp [e]
theorem head_lt {t : ByteArray} (l : List UInt8) (h : okN t = true) : headK.toList < t.data.toList ++ l := by
  unfold okN nameB at h
  have h1 := (Bool.and_eq_true _ _).mp h
  have hk : headK.toList = [35] := by decide +kernel
  rw [hk]
  cases ht : t.data.toList with
  | nil => rw [ht] at h1; exact absurd h1.1 (by decide)
  | cons c r =>
    rw [ht] at h1
    have h2 := List.all_eq_true.1 h1.2 c List.mem_cons_self
    rw [List.cons_append, List.cons_lt_cons_iff]
    refine .inl ?_
    rw [UInt8.lt_iff_toNat_lt]
    show 35 < c.toNat
    unfold nmB at h2
    simp at h2
    omega
def rStep (x : TS × Nat) (r : Rw) : Option (TS × Nat) :=
  if r.cols.length = 0 then (if okN r.key = true then some ({ x.1 with gs := x.1.gs ++ [r.key] }, x.2) else none)
  else if r.cols.length ≠ 1 ∨ (toNum (r.cols.headD ⟨#[]⟩).data.toList).2 ≠ 0 then none
  else if r.key = headK then (if 1099511627776 < (toNum (r.cols.headD ⟨#[]⟩).data.toList).1 then none else some ({ x.1 with n := (toNum (r.cols.headD ⟨#[]⟩).data.toList).1 }, x.2 + 1))
  else match cutS r.key with
    | none => none
    | some p => if okN p.1 = true ∧ okN p.2 = true ∧ 2 ≤ (toNum (r.cols.headD ⟨#[]⟩).data.toList).1 ∧ (toNum (r.cols.headD ⟨#[]⟩).data.toList).1 ≤ 16 then some ({ x.1 with vs := x.1.vs ++ [((p.1, p.2), (toNum (r.cols.headD ⟨#[]⟩).data.toList).1)] }, x.2) else none
def rFold : TS × Nat → List Rw → Option (TS × Nat)
  | x, [] => some x
  | x, r :: m => (rStep x r).bind fun x' => rFold x' m
theorem rFold_app (x : TS × Nat) (m m' : List Rw) : rFold x (m ++ m') = (rFold x m).bind fun x' => rFold x' m' := by
  induction m generalizing x with
  | nil => simp [rFold]
  | cons r m ih =>
    simp only [List.cons_append, rFold]
    cases rStep x r with
    | none => rfl
    | some x' => simp only [Option.bind_some]; exact ih x'
theorem rFold_snoc (x : TS × Nat) (m : List Rw) (r : Rw) : rFold x (m ++ [r]) = (rFold x m).bind fun x' => rStep x' r := by
  rw [rFold_app]
  cases rFold x m with
  | none => rfl
  | some x' =>
    simp only [Option.bind_some, rFold]
    cases rStep x' r <;> rfl
def rFine (s : TS) : Prop := s.gs.length ≤ 16 ∧ s.vs.length ≤ 16 ∧ ∀ p ∈ s.vs, p.1.1 ∉ s.gs
theorem numOf_txt (n : Nat) (h : n ≤ 4611686018427387904) : toNum (([txtJ n] : List ByteArray).headD ⟨#[]⟩).data.toList = (n, 0) := toNum_numT n h
theorem step_ref {s s' : TS} {r : Rw} {c : Nat} (h : Step s s' r) : rStep (s, c) r = some (s', c) := by
  obtain ⟨vs, gs, n⟩ := s
  obtain ⟨vs', gs', n'⟩ := s'
  obtain ⟨hn, h⟩ := h
  simp only at hn
  subst hn
  rcases h with ⟨t, u, v, e1, e2, e3, e4, e5, e6, e7, e8, e9⟩ | ⟨e1, e2, e3, e4, e5, e6⟩
  · simp only at e1 e2
    subst e1 e2
    have ec : r.cols = [txtJ v] := by rw [e3]; rfl
    unfold rStep
    rw [ec, numOf_txt v (by omega), if_neg (by simp), if_neg (by simp), if_neg e5, e4]
    exact if_pos (c := okN t = true ∧ okN u = true ∧ 2 ≤ v ∧ v ≤ 16) ⟨e6, e7, e8, e9⟩
  · simp only at e1 e2
    subst e1 e2
    have ec : r.cols = [] := by rw [e3]; rfl
    unfold rStep
    rw [ec, if_pos (by rfl), if_pos e6]
theorem load_ref : ∀ (n : Nat) (m : List Rw) (s : TS), m.length = n + 1 → Rise m → (m.head?.map (·.key)) = some headK → loadF TS0 m = some s → rFold (TS0, 0) m = some (s, 1)
  | 0, m, s, hl, hr, hh, h => by
    obtain ⟨r, rfl⟩ := List.length_eq_one_iff.1 hl
    have hk : r.key = headK := by simpa using hh
    simp only [loadF] at h
    cases ht : takeR TS0 r with
    | none => rw [ht] at h; cases h
    | some s1 =>
      rw [ht] at h
      simp only [Option.bind_some] at h
      obtain rfl := Option.some.inj h
      rw [takeR_head hk] at ht
      cases ho : oneN r.cols 0 1099511627776 with
      | none => rw [ho] at ht; cases ht
      | some n =>
        rw [ho] at ht
        obtain rfl := Option.some.inj ht
        obtain ⟨ec, _, hn⟩ := oneN_some ho
        simp only [rFold]
        unfold rStep
        rw [ec, numOf_txt n (by omega), if_neg (by simp), if_neg (by simp), if_pos hk, if_neg (by simp only; omega)]
        rfl
  | n + 1, m, s, hl, hr, hh, h => by
    rcases List.eq_nil_or_concat m with rfl | ⟨m1, r, rfl⟩
    · simp at hl
    · rw [List.concat_eq_append] at *
      have hl1 : m1.length = n + 1 := by simp at hl; omega
      obtain ⟨hr1, hlt⟩ := rise_snoc hr
      have hh1 : (m1.head?.map (·.key)) = some headK := by
        cases m1 with
        | nil => simp at hl1
        | cons x m1 => simpa using hh
      rw [loadF_snoc] at h
      cases h1 : loadF TS0 m1 with
      | none => rw [h1] at h; cases h
      | some s1 =>
        rw [h1] at h
        simp only [Option.bind_some] at h
        obtain ⟨ok, hp, hn⟩ := load_perm n m1 s1 hl1 hr1 hh1 h1
        rw [rFold_snoc, load_ref n m1 s1 hl1 hr1 hh1 h1]
        exact step_ref (step_shape ok hp hlt h)
theorem loadR_ref {m : List Rw} {s : TS} (h : loadR m = some s) : rFold (TS0, 0) m = some (s, 1) ∧ rFine s := by
  obtain ⟨ok, _⟩ := loadR_perm h
  refine ⟨?_, ok.gfew, ok.few, fun p hp => (ok.names p hp).2.2.2.2⟩
  unfold loadR at h
  split at h
  · rename_i h1
    obtain ⟨⟨r, m', rfl, hk⟩, hr⟩ := h1
    exact load_ref m'.length (r :: m') s rfl hr (by simp [hk]) h
  · cases h
theorem rStep_fine {x x' : TS × Nat} {r : Rw} (h : rStep x r = some x') (hf : rFine x'.1) : rFine x.1 := by
  obtain ⟨f1, f2, f3⟩ := hf
  unfold rStep at h
  split at h
  · split at h
    · obtain rfl := Option.some.inj h
      simp only [List.length_append, List.length_singleton] at f1 f2 f3
      exact ⟨by omega, f2, fun p hp hm => f3 p hp (List.mem_append_left _ hm)⟩
    · cases h
  · split at h
    · cases h
    · split at h
      · split at h
        · cases h
        · obtain rfl := Option.some.inj h
          exact ⟨f1, f2, f3⟩
      · split at h
        · cases h
        · split at h
          · obtain rfl := Option.some.inj h
            simp only [List.length_append, List.length_singleton] at f1 f2 f3
            exact ⟨f1, by omega, fun p hp => f3 p (List.mem_append_left _ hp)⟩
          · cases h
theorem rStep_head {x x' : TS × Nat} {r : Rw} (h : rStep x r = some x') : r.key = headK ∨ (headK.toList < r.key.toList ∧ x'.2 = x.2) := by
  by_cases hk : r.key = headK
  · exact .inl hk
  · refine .inr ?_
    unfold rStep at h
    split at h
    · split at h
      · rename_i hn
        obtain rfl := Option.some.inj h
        have := head_lt (t := r.key) [] hn
        rw [List.append_nil, ← Lib.toList_data] at this
        exact ⟨this, rfl⟩
      · cases h
    · split at h
      · cases h
      · split at h
        · cases h
        · rename_i p hc
          split at h
          · rename_i hn
            obtain rfl := Option.some.inj h
            refine ⟨?_, rfl⟩
            obtain ⟨e1, _⟩ := cut_some hc
            have := head_lt (t := p.1) (47 :: p.2.data.toList) hn.1
            have e2 : r.key.data.toList = p.1.data.toList ++ 47 :: p.2.data.toList := by
              rw [e1]
              simp [ByteArray.data_append]
            rw [← e2, ← Lib.toList_data] at this
            exact this
          · cases h
theorem rFold_count : ∀ (m : List Rw) (x x' : TS × Nat), rFold x m = some x' → (∀ r ∈ m, r.key ≠ headK) → x'.2 = x.2
  | [], x, x', h, _ => by obtain rfl := Option.some.inj h; rfl
  | r :: m, x, x', h, hn => by
    simp only [rFold] at h
    cases h1 : rStep x r with
    | none => rw [h1] at h; cases h
    | some x1 =>
      rw [h1] at h
      simp only [Option.bind_some] at h
      rcases rStep_head h1 with hk | ⟨_, hc⟩
      · exact absurd hk (hn r List.mem_cons_self)
      · rw [rFold_count m x1 x' h (fun r hr => hn r (List.mem_cons_of_mem _ hr)), hc]
theorem ref_head {m : List Rw} {x : TS × Nat} (hr : Rise m) (h : rFold (TS0, 0) m = some x) (hc : x.2 = 1) : (m.head?.map (·.key)) = some headK := by
  cases m with
  | nil =>
    obtain rfl := Option.some.inj h
    cases hc
  | cons r m =>
    have h0 := h
    simp only [rFold] at h
    cases h1 : rStep (TS0, 0) r with
    | none => rw [h1] at h; cases h
    | some x1 =>
      rcases rStep_head h1 with hk | ⟨hlt, _⟩
      · simp [hk]
      · have h2 := rFold_count (r :: m) (TS0, 0) x h0 (fun y hy => by
          rcases List.mem_cons.1 hy with rfl | hy
          · intro e; rw [e] at hlt; exact List.lt_irrefl _ hlt
          · intro e
            have h3 := (List.pairwise_cons.1 hr).1 y hy
            rw [e] at h3
            exact List.lt_asymm h3 hlt)
        rw [hc] at h2
        cases h2
theorem ref_load : ∀ (n : Nat) (m : List Rw) (x : TS × Nat), m.length = n + 1 → Rise m → (m.head?.map (·.key)) = some headK → rFold (TS0, 0) m = some x → rFine x.1 → loadF TS0 m = some x.1
  | 0, m, x, hl, hr, hh, h, hf => by
    obtain ⟨r, rfl⟩ := List.length_eq_one_iff.1 hl
    have hk : r.key = headK := by simpa using hh
    simp only [rFold] at h
    cases h1 : rStep (TS0, 0) r with
    | none => rw [h1] at h; cases h
    | some x1 =>
      rw [h1] at h
      simp only [Option.bind_some] at h
      obtain rfl := Option.some.inj h
      simp only [loadF]
      rw [takeR_head hk]
      unfold rStep at h1
      split at h1
      · rename_i h0
        split at h1
        · rename_i hn
          rw [hk] at hn
          exact absurd hn (by decide +kernel)
        · cases h1
      · split at h1
        · cases h1
        · rename_i hb
          split at h1
          · cases h1
          · rename_i hle
            obtain rfl := Option.some.inj h1
            unfold oneN numR
            rw [if_pos (Classical.byContradiction fun h9 => hb (.inl h9)), if_pos ⟨Classical.byContradiction fun h9 => hb (.inr h9), Nat.zero_le _, by omega⟩]
            rfl
  | n + 1, m, x, hl, hr, hh, h, hf => by
    rcases List.eq_nil_or_concat m with rfl | ⟨m1, r, rfl⟩
    · simp at hl
    · rw [List.concat_eq_append] at *
      have hl1 : m1.length = n + 1 := by simp at hl; omega
      obtain ⟨hr1, hlt⟩ := rise_snoc hr
      have hh1 : (m1.head?.map (·.key)) = some headK := by
        cases m1 with
        | nil => simp at hl1
        | cons x m1 => simpa using hh
      rw [rFold_snoc] at h
      cases h1 : rFold (TS0, 0) m1 with
      | none => rw [h1] at h; cases h
      | some x1 =>
        rw [h1] at h
        simp only [Option.bind_some] at h
        have hld := ref_load n m1 x1 hl1 hr1 hh1 h1 (rStep_fine h hf)
        obtain ⟨ok, hp, hn⟩ := load_perm n m1 x1.1 hl1 hr1 hh1 hld
        rw [loadF_snoc, hld]
        simp only [Option.bind_some]
        have hk : r.key ≠ headK := fun e => by
          have h9 := hlt _ (mem_head hp)
          rw [e] at h9
          exact List.lt_irrefl _ h9
        obtain ⟨f1, f2, f3⟩ := hf
        unfold rStep at h
        split at h
        · rename_i h0
          split at h
          · rename_i hn9
            obtain rfl := Option.some.inj h
            simp only [List.length_append, List.length_singleton] at f1 f2 f3
            have hc : cutS r.key = none := by
              cases hc : cutS r.key with
              | none => rfl
              | some p =>
                obtain ⟨e1, _⟩ := cut_some hc
                refine absurd ?_ (okN_no hn9).1
                rw [e1]
                simp [ByteArray.data_append]
            rw [takeR_gone hk hc]
            have hg : isIn x1.1.gs r.key = false := by
              cases hg : isIn x1.1.gs r.key with
              | false => rfl
              | true =>
                have h9 := hlt _ (mem_gone hp (isIn_iff.1 hg))
                exact absurd h9 (List.lt_irrefl _)
            have hd : x1.1.desR r.key = (x1.1.des r.key, 0) := by
              unfold TS.desR
              rw [if_pos hn9, if_neg (by rw [hg]; simp), if_neg (by omega)]
            rw [hd, if_pos ⟨h0, rfl⟩]
            unfold TS.des
            rw [gone_new hp hlt]
          · cases h
        · split at h
          · cases h
          · rename_i hb
            split at h
            · cases h
            · rename_i p hc
              split at h
              · rename_i hn9
                obtain rfl := Option.some.inj h
                simp only [List.length_append, List.length_singleton] at f1 f2 f3
                obtain ⟨e1, _⟩ := cut_some hc
                rw [takeR_ver hk hc]
                unfold tvR oneN numR
                rw [if_pos (Classical.byContradiction fun h9 => hb (.inl h9)), if_pos ⟨Classical.byContradiction fun h9 => hb (.inr h9), hn9.2.2.1, hn9.2.2.2⟩]
                simp only [Option.bind_some]
                have hg : isIn x1.1.gs p.1 = false := by
                  cases hg : isIn x1.1.gs p.1 with
                  | false => rfl
                  | true => exact absurd (isIn_iff.1 hg) (f3 _ (List.mem_append_right _ (List.mem_singleton.2 rfl)))
                have hcur : (x1.1.cur p.1 p.2).2 = 0 := by
                  unfold TS.cur
                  rw [if_pos (by rw [hn9.1, hn9.2.1]; rfl), if_neg (by rw [hg]; simp)]
                rw [if_pos ⟨hcur, by omega⟩]
                unfold TS.rot
                rw [rotV_new _ (ver_new hp hlt e1)]
              · cases h
theorem ref_loadR {m : List Rw} {x : TS × Nat} (hr : riseB m = true) (h : rFold (TS0, 0) m = some x) (hc : x.2 = 1) (hf : rFine x.1) : loadR m = some x.1 := by
  have hr' := (riseB_iff _).1 hr
  have hh := ref_head hr' h hc
  cases m with
  | nil => cases hh
  | cons r m =>
    rw [loadR_some (by simpa using hh) hr]
    exact ref_load m.length (r :: m) x rfl hr' hh h hf
end Go.Proofs.YtdglmoikgmlaaaaGreatDoor.Xr
