/- YtdglmoikgmlaaaaGreatDoorJ24 + YtdglmoikgmlaaaaGreatDoorJ25 + YtdglmoikgmlaaaaGreatDoorJT0 -/
import Derived.Test.YtdglmoikgmlaaaaGreatDoorJ23
import Derived.Lib.LazyBuf
/- Reseal, over a tree as mathematics. -/
namespace Go.Proofs.YtdglmoikgmlaaaaGreatDoor
open Go.RowKit Go.Maps
set_option linter.unusedVariables false
set_option maxRecDepth 20000
set_option maxHeartbeats 400000 in
theorem cloneJ (x : List UInt8) (ad : Addr) (cap : Nat) (w : World) (hB : Bytes w (some ad) x) (hlen : x.length ≤ 140737488351232) :
    Calls Tryz.prog 45 #[.slice (some ad) x.length cap] w fun e w' => ∃ v, e = .returned v ∧ w'.ownsRow w.heap.size 5 1 v x.length (cellsOf x) ∧ Below w.heap.size w w' := by
  have hcell : Hid (∀ j (h : j < x.length), w.cell? (ad.add j) = some (.int .u8 (x[j].toNat : Int))) := fun j hj => by
    obtain ⟨b, o, e, hc⟩ := hB j hj
    cases e
    rw [addr_add]
    exact hc
  have Hlt : Hid (0 < x.length → ad.block < w.heap.size) := fun h => by
    obtain ⟨b, o, e, hc⟩ := hB 0 h
    cases e
    exact World.block_lt_of_cell? _ _ hc
  have hnil := fun wx => Lib.run_eql_slice_nil (P := Tryz.prog) wx 41 5 (some ad) x.length cap 0 0 Tryz.underlying41
  have Hown := hid (World.ownsRow_lit (base := w.heap.size) (e := 5) (size := 1) w #[] 0 (Nat.le_refl _) (by decide) rfl)
  have Hcell2 : Hid (∀ j (h : j < x.length), (w.alloc (.cells #[] 5)).cell? (ad.add j) = some (.int .u8 (x[j].toNat : Int))) := fun j hj => by
    have h := hcell.out j hj
    exact (((Below.refl w.heap.size w).alloc (Nat.le_refl _) _).cell (World.block_lt_of_cell? _ _ h)).trans h
  clear hB
  go_enter Tryz.func45, Tryz.ntmps45
  go_wp2_with (at_builtin; refine app_bytes _ rfl (.tmp 5) (.tmp 6) rfl w.heap.size _ [] rfl Hown.out ad x.length cap x rfl rfl Hcell2.out (by simp; omega) (by simp) ?_; intro v1 w1 ho1 hb1 hs1)
  go_ret
  exact ⟨_, rfl, by simpa using ho1, ((Below.refl _ _).alloc (Nat.le_refl _) _).trans hb1⟩

theorem version_m {w : World} {B g mv mg : Nat} {root : List UInt8} {s : TS} {d : Nat} (h : TreeM w B g mv mg root s d) (t u : ByteArray) (ht : t.size ≤ maxLen) (hu : u.size ≤ maxLen) :
    Calls Tryz.prog 44 #[.pointer (some ⟨g, 0, none⟩), .agg #[.string t, .string u]] w fun e w' => e = .returned (.int .i64 (verOf s.vs t u : Int)) ∧ Below w.heap.size w w' := by
  obtain ⟨ok, hne, nv, ng, V, G, h1, hV, hG, _⟩ := h
  exact version_ok h1 t u (keyP t u) (keyOf_place t u ht hu) _ (hV.ver t u ht hu)
/-- Reseal -/
def TS.resealB (s : TS) (root : List UInt8) (t u : ByteArray) (b : UInt8) (S : List UInt8) : TS × (List UInt8 × (Bool × Nat)) :=
  if (s.openB root t u b S).2.2 ≠ 0 then (s, ([], (false, (s.openB root t u b S).2.2)))
  else if (s.openB root t u b S).2.1 = verOf s.vs t u then (s, (b :: S, (false, 0)))
  else ((s.sealR root t u (s.openB root t u b S).1).1, ((s.sealR root t u (s.openB root t u b S).1).2.1, (decide ((s.sealR root t u (s.openB root t u b S).1).2.2 = 0), (s.sealR root t u (s.openB root t u b S).1).2.2)))
def ResP (w : World) (B g mv mg : Nat) (root : List UInt8) (d : Nat) (r : TS × (List UInt8 × (Bool × Nat))) (e : Ending) (w' : World) : Prop := ∃ v, e = .returned (.tuple #[v, .bool r.2.2.1, .int .i64 (r.2.2.2 : Int)]) ∧ w'.ownsRow w.heap.size 5 1 v r.2.1.length (cellsOf r.2.1) ∧ TreeM w' B g mv mg root r.1 d ∧ OutJ (Mine g mv mg) w w'
set_option maxHeartbeats 4000000 in
theorem reseal_m {w : World} {B g mv mg : Nat} {root : List UInt8} {s : TS} {d : Nat} (h : TreeM w B g mv mg root s d) (hsn : s.n ≤ 1000) (t u : ByteArray) (ht : t.size ≤ maxLen) (hu : u.size ≤ maxLen) (b : UInt8) (S : List UInt8) (gs m cap : Nat) (hm : m = S.length + 1) (hm9 : m ≤ 140737488351232) (hmc : m ≤ cap) (hB : Bytes w (some ⟨gs, 0, none⟩) (b :: S)) (hT : TabAt w) (hKA : KAt w) :
    Calls Tryz.prog 18 #[.pointer (some ⟨g, 0, none⟩), .string t, .string u, .slice (some ⟨gs, 0, none⟩) m cap] w (ResP w B g mv mg root d (s.resealB root t u b S)) := by
  have HO := hid (open_m h t u ht hu b S gs m cap hm hm9 hmc hB hT hKA)
  have HV := hid (fun (W : World) (hW : Below w.heap.size w W) => version_m (h.below hW) t u ht hu)
  have HS := hid (fun (W : World) (hW : Below w.heap.size w W) (p : List UInt8) (a : Option Addr) (n c : Nat) (hn : n = p.length) (hb : Bytes W a p) => seal_m (h.below hW) hsn t u ht hu p a n c hn hb (hT.belowJ hW) (hKA.below hW))
  have HCl := hid (fun (W : World) (hW : Below w.heap.size w W) => cloneJ (b :: S) ⟨gs, 0, none⟩ cap W (hB.below hW) (by simp; omega))
  have H := hid h
  have hlen : m = (b :: S).length := by simp; omega
  have Hlen := hid hlen
  obtain ⟨R, hR⟩ : ∃ R, R = s.resealB root t u b S := ⟨_, rfl⟩
  have HR := hid hR
  rw [← hR]
  obtain ⟨po, vo, eo, hop⟩ : ∃ po vo eo, s.openB root t u b S = (po, (vo, eo)) := ⟨_, _, _, rfl⟩
  rw [hop] at HO
  have Hop := hid hop
  clear h hm hm9 hmc hB hT hKA hsn hlen hR hop
  by_cases he : eo = 0
  · subst he
    by_cases hv : vo = verOf s.vs t u
    · have q1 : ((vo : Int) == (verOf s.vs t u : Int)) = true := by simp; omega
      have Hv := hid hv
      clear hv
      go_enter Tryz.func18, Tryz.ntmps18
      go_wp2_with (first
        | (go_at_call 17; refine HO.out.mono ?_; rintro _ w1 ⟨v1, rfl, o1, b1⟩; have B1 := hid b1; clear b1 o1)
        | (go_at_call 44; refine (HV.out w1 B1.out).mono ?_; rintro _ w2 ⟨rfl, b2⟩; have B2 := hid (Below.on' B1.out b2); clear b2)
        | (go_at_call 45; rw [Hlen.out]; refine (HCl.out w2 B2.out).mono ?_; rintro _ w3 ⟨v3, rfl, o3, b3⟩; have B3 := hid (Below.on' B2.out b3); have O3 := hid (own_mono o3 B2.out.size); clear b3 o3))
      go_ret3
      have hR1 : R = (s, (b :: S, (false, 0))) := by
        rw [HR.out]
        unfold TS.resealB
        rw [Hop.out, if_neg (by simp), if_pos Hv.out]
      rw [hR1]
      exact ⟨v3, rfl, O3.out, H.out.below B3.out, OutJ.of_below B3.out⟩
    · have q1 : ((vo : Int) == (verOf s.vs t u : Int)) = false := by simp; omega
      have Hv := hid hv
      obtain ⟨sr, lr, er, hsr⟩ : ∃ sr lr er, s.sealR root t u po = (sr, (lr, er)) := ⟨_, _, _, rfl⟩
      have HS9 := hid (fun (W : World) (hW : Below w.heap.size w W) (a : Option Addr) (n c : Nat) (hn : n = po.length) (hb : Bytes W a po) => by have := HS.out W hW po a n c hn hb; rw [hsr] at this; exact this)
      have Hsr := hid hsr
      clear hv hsr
      go_enter Tryz.func18, Tryz.ntmps18
      go_wp2_with (first
        | (go_at_call 17; refine HO.out.mono ?_; rintro _ w1 ⟨v1, rfl, o1, b1⟩; have B1 := hid b1; obtain ⟨a1, c1, rfl, hB1, _⟩ := bytes_of_own o1; have HB1 := hid hB1; clear b1 o1 hB1)
        | (go_at_call 44; refine (HV.out w1 B1.out).mono ?_; rintro _ w2 ⟨rfl, b2⟩; have B2 := hid (Below.on' B1.out b2); have HB2 := hid (HB1.out.below b2); clear b2)
        | (go_at_call 15; refine (HS9.out w2 B2.out a1 _ c1 rfl HB2.out).mono ?_; rintro _ w3 ⟨v3, rfl, o3, t3, x3⟩; have O3 := hid (own_mono o3 B2.out.size); have T3 := hid t3; have X3 := hid ((OutJ.of_below B2.out).trans x3); clear o3 t3 x3))
      go_ret3
      have hR1 : R = (sr, (lr, (decide (er = 0), er))) := by
        rw [HR.out]
        unfold TS.resealB
        rw [Hop.out, if_neg (by simp), if_neg Hv.out]
        simp only [Hsr.out]
      rw [hR1]
      refine ⟨v3, ?_, O3.out, T3.out, X3.out⟩
      have hd : ((er : Int) == 0) = decide (er = 0) := by
        by_cases h0 : er = 0
        · subst h0; rfl
        · have : ¬ (er : Int) = 0 := by omega
          simp [h0]
      rw [← hd]
      rfl
  · have q1 : ((eo : Int) != 0) = true := by simp; omega
    have He := hid he
    clear he
    go_enter Tryz.func18, Tryz.ntmps18
    go_wp2_with (go_at_call 17; refine HO.out.mono ?_; rintro _ w1 ⟨v1, rfl, o1, b1⟩; have B1 := hid b1; clear b1 o1)
    go_ret3
    have hR1 : R = (s, ([], (false, eo))) := by
      rw [HR.out]
      unfold TS.resealB
      rw [Hop.out, if_pos He.out]
    rw [hR1]
    exact ⟨_, rfl, nilJ _ _, H.out.below B1.out, OutJ.of_below B1.out⟩
end Go.Proofs.YtdglmoikgmlaaaaGreatDoor

/- Open and Reseal of any bytes, none too, over a tree as mathematics. -/
namespace Go.Proofs.YtdglmoikgmlaaaaGreatDoor
open Go.RowKit Go.Maps
set_option linter.unusedVariables false
set_option maxRecDepth 20000
section
variable {w : World} {B g mv mg : Nat} {root : List UInt8} {s : TS} {d : Nat}
theorem openR_nil (s : TS) (root : List UInt8) (t u : ByteArray) : s.openR root t u [] = ([], (0, if (s.cur t u).2 ≠ 0 then (s.cur t u).2 else 3)) := rfl
theorem open_none (h : TreeM w B g mv mg root s d) (t u : ByteArray) (ht : t.size ≤ maxLen) (hu : u.size ≤ maxLen) (a : Option Addr) (cap : Nat) :
    Calls Tryz.prog 17 #[.pointer (some ⟨g, 0, none⟩), .string t, .string u, .slice a 0 cap] w fun e w' => e = .returned (.tuple #[.slice none 0 0, .int .i64 0, .int .i64 ((if (s.cur t u).2 ≠ 0 then (s.cur t u).2 else 3 : Nat) : Int)]) ∧ Below w.heap.size w w' := by
  have HC := current_m h t u ht hu
  by_cases he : (s.cur t u).2 ≠ 0
  · rw [if_pos he]
    exact open_err t u _ _ _ (by omega) HC
  · rw [if_neg he]
    have he0 : (s.cur t u).2 = 0 := by omega
    rw [he0] at HC
    exact open_empty t u a cap _ HC
theorem open_l (h : TreeM w B g mv mg root s d) (t u : ByteArray) (ht : t.size ≤ maxLen) (hu : u.size ≤ maxLen) (S : List UInt8) (a : Option Addr) (m cap : Nat) (hm : m = S.length) (hm9 : m ≤ 140737488351232) (hmc : m ≤ cap) (ha : S ≠ [] → ∃ gs, a = some ⟨gs, 0, none⟩) (hB : Bytes w a S) (hT : TabAt w) (hKA : KAt w) :
    Calls Tryz.prog 17 #[.pointer (some ⟨g, 0, none⟩), .string t, .string u, .slice a m cap] w fun e w' => ∃ v, e = .returned (.tuple #[v, .int .i64 ((s.openR root t u S).2.1 : Int), .int .i64 ((s.openR root t u S).2.2 : Int)]) ∧ w'.ownsRow w.heap.size 5 1 v (s.openR root t u S).1.length (cellsOf (s.openR root t u S).1) ∧ Below w.heap.size w w' := by
  cases S with
  | nil =>
    subst hm
    refine (open_none h t u ht hu a cap).mono fun e w' h9 => ?_
    rw [openR_nil]
    exact ⟨_, h9.1, nilJ _ _, h9.2⟩
  | cons b S =>
    obtain ⟨gs, rfl⟩ := ha (by simp)
    exact open_m h t u ht hu b S gs m cap (by simpa using hm) hm9 hmc hB hT hKA
/-- Reseal -/
def TS.resealR (s : TS) (root : List UInt8) (t u : ByteArray) : List UInt8 → TS × (List UInt8 × (Bool × Nat))
  | [] => (s, ([], (false, if (s.cur t u).2 ≠ 0 then (s.cur t u).2 else 3)))
  | b :: S => s.resealB root t u b S
set_option maxHeartbeats 1000000 in
theorem reseal_none (h : TreeM w B g mv mg root s d) (t u : ByteArray) (ht : t.size ≤ maxLen) (hu : u.size ≤ maxLen) (a : Option Addr) (cap : Nat) :
    Calls Tryz.prog 18 #[.pointer (some ⟨g, 0, none⟩), .string t, .string u, .slice a 0 cap] w (ResP w B g mv mg root d (s.resealR root t u [])) := by
  obtain ⟨eo, heo⟩ : ∃ eo : Nat, eo = if (s.cur t u).2 ≠ 0 then (s.cur t u).2 else 3 := ⟨_, rfl⟩
  have hne : eo ≠ 0 := by rw [heo]; split <;> omega
  have HO := hid (by have := open_none h t u ht hu a cap; rw [← heo] at this; exact this)
  have HR : Hid (s.resealR root t u [] = (s, ([], (false, eo)))) := by
    show _ = _
    rw [heo]; rfl
  obtain ⟨R, hR⟩ : ∃ R, R = s.resealR root t u [] := ⟨_, rfl⟩
  rw [← hR] at HR ⊢
  have H := hid h
  have q1 : ((eo : Int) != 0) = true := by simp; omega
  clear h hne heo hR
  go_enter Tryz.func18, Tryz.ntmps18
  go_wp2_with (go_at_call 17; refine HO.out.mono ?_; rintro _ w1 ⟨rfl, b1⟩; have B1 := hid b1; clear b1)
  go_ret3
  rw [HR.out]
  exact ⟨_, rfl, nilJ _ _, H.out.below B1.out, OutJ.of_below B1.out⟩
theorem reseal_l (h : TreeM w B g mv mg root s d) (hsn : s.n ≤ 1000) (t u : ByteArray) (ht : t.size ≤ maxLen) (hu : u.size ≤ maxLen) (S : List UInt8) (a : Option Addr) (m cap : Nat) (hm : m = S.length) (hm9 : m ≤ 140737488351232) (hmc : m ≤ cap) (ha : S ≠ [] → ∃ gs, a = some ⟨gs, 0, none⟩) (hB : Bytes w a S) (hT : TabAt w) (hKA : KAt w) :
    Calls Tryz.prog 18 #[.pointer (some ⟨g, 0, none⟩), .string t, .string u, .slice a m cap] w (ResP w B g mv mg root d (s.resealR root t u S)) := by
  cases S with
  | nil =>
    subst hm
    exact reseal_none h t u ht hu a cap
  | cons b S =>
    obtain ⟨gs, rfl⟩ := ha (by simp)
    exact reseal_m h hsn t u ht hu b S gs m cap (by simpa using hm) hm9 hmc hB hT hKA
end
end Go.Proofs.YtdglmoikgmlaaaaGreatDoor

/- A new tree of keys, as mathematics. -/
namespace Go.Proofs.YtdglmoikgmlaaaaGreatDoor
open Go.RowKit Go.Maps
set_option linter.unusedVariables false
set_option maxRecDepth 20000
def TS0 : TS := ⟨[], [], 0⟩
theorem TS0_ok : TS0.Ok := ⟨(fun p hp => nomatch hp), List.nodup_nil, (fun p hp => nomatch hp), List.nodup_nil, by decide, by decide⟩
theorem treeM_new {w : World} {B B' g mv mg : Nat} {root : List UInt8} (h : TreeAt w B' g root mv mg 0 0 (.map []) (.map []) 0) (hne : mv ≠ mg) (hB : B ≤ B') : TreeM w B g mv mg root TS0 0 :=
  ⟨TS0_ok, hne, 0, 0, _, _, ⟨h.obj, h.vm, h.gm, h.len, Nat.le_trans hB h.bg, Nat.le_trans hB h.bv, Nat.le_trans hB h.bm⟩, vrel_new, grel_new, Nat.le_refl _, Nat.le_refl _⟩
end Go.Proofs.YtdglmoikgmlaaaaGreatDoor
