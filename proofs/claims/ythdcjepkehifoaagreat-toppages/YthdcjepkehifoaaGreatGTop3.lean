/- YthdcjepkehifoaaGreatGTop1 + YthdcjepkehifoaaGreatGTop2 + YthdcjepkehifoaaGreatGTop3 -/
import Derived.Test.YthdcjepkehifoaaGreatGCache
import Derived.Test.YthdcjepkehifoaaGreatBCutOk
import Derived.Test.YthdcjepkehifoaaGreatBLift
import Derived.BigQuiet
import Derived.Deep.Slices
import Derived.SliceStrings
import Derived.ChangeSlices
/- A cache whose log was opened anew: for TopPages. -/
namespace Go.Proofs.YthdcjepkehifoaaGreat
open Go.RowKit Go.Maps Go.Sort Go.Shelf
set_option linter.unusedVariables false
set_option maxRecDepth 20000
/-- the disk of a cache's log -/
theorem logd_c {w : World} {p : Nat} {s : PS} {F : Nat → Prop} (h : Cache w p s F) (ht : s.t ≤ 7000) : Calls Tryz.prog 62 #[.pointer (some ⟨p, 0, none⟩)] w fun r w' => w' = w ∧ ∃ l0, r = .returned (.pointer (some ⟨l0, 0, none⟩)) ∧
    Calls Tryz.prog 31 #[.pointer (some ⟨l0, 0, none⟩)] w fun r1 w1 => Below w.heap.size w w1 ∧ ∃ d0 g cap v, r1 = .returned (.pointer (some ⟨d0, 0, none⟩)) ∧ DiskAt w1 w.heap.size d0 g cap v (psOf (fresh s.S s.P) s.ls) ((chOf (fresh s.S s.P) s.ls).drop s.k0) := by
  obtain ⟨m1, h1, h2, h3⟩ := h
  refine (pgLog_any h1).mono ?_
  rintro _ w' ⟨rfl, rfl⟩
  refine ⟨rfl, _, rfl, ?_⟩
  have hlen : (psOf (fresh s.S s.P) s.ls).length = s.S + 1 + s.P := h1.log.inv.len
  have hmost := h1.log.inv.most
  have hls := h1.log.lsl
  refine (logDisk_ok h1.log.mem (by omega) hmost (by rw [List.length_drop, chOf_length]; omega)).mono ?_
  rintro _ w1 ⟨d', g', cap', v', rfl, hD, hb⟩
  exact ⟨hb, d', g', cap', v', rfl, hD⟩
/-- what is so of the log of a cache -/
theorem Cache.logs {w : World} {p : Nat} {s : PS} {F : Nat → Prop} (h : Cache w p s F) : LogInv (psOf (fresh s.S s.P) s.ls) s.S s.G s.gs s.P ∧ s.G ≤ s.t ∧ s.ls.length ≤ 102 * s.t ∧ s.k0 ≤ s.ls.length ∧ usedOf s.gs ≤ s.S ∧ CaOk s := by
  obtain ⟨m1, h1, h2, h3⟩ := h
  exact ⟨h1.log.inv, h1.log.gr, h1.log.lsl, h1.log.cut, h1.log.inv.used, h1.ok⟩
theorem Cache.com_now {w : World} {p : Nat} {s : PS} {F : Nat → Prop} (h : Cache w p s F) (ht : s.t ≤ 7000) (hc : comOk s) (q : Nat) (hq : q < s.P) : (commitS s).now q = s.now q := by
  obtain ⟨m1, h1, h2, h3⟩ := h
  have := h1.log.gr
  exact commitS_now h1 (by omega) hc q hq
theorem commitS_k0 (s : PS) : (commitS s).k0 = s.k0 := by
  unfold commitS
  split
  · rfl
  · split <;> rfl
theorem commitS_none {s : PS} (h : s.dl.length = 0) : (commitS s).ls.length = s.ls.length := by
  unfold commitS
  rw [if_pos h]
theorem commitS_some {s : PS} (h : 0 < s.dl.length) : s.ls.length + s.dl.length + 2 ≤ (commitS s).ls.length := by
  unfold commitS
  rw [if_neg (by omega)]
  split
  · show _ ≤ (s.ls ++ commitWs (usedOf s.gs) s.G (dNs s) (dXs s)).length
    rw [List.length_append, commitWs_length]
    simp [dXs]
    omega
  · show _ ≤ ((s.ls ++ cpWs s.S s.P s.G s.gs s.ls) ++ commitWs (usedOf (ckS s).gs) (ckS s).G (dNs (ckS s)) (dXs (ckS s))).length
    rw [List.length_append, List.length_append, commitWs_length]
    have : (dXs (ckS s)).length = s.dl.length := by simp [dXs, ckS]
    omega
/-- a log is opened on a disk, and a cache over it -/
theorem reopen {w : World} {B d g c : Nat} {v : Value} {S P t G : Nat} {gs : List (List Nat)} {ls ch : List (Nat × List UInt8)} (hD : DiskAt w B d g c v (psOf (fresh S P) ls) ch) (hi : LogInv (psOf (fresh S P) ls) S G gs P) (hG : G ≤ t) (hls : ls.length ≤ 102 * t) (hu : usedOf gs ≤ 100 * t) (ht : t ≤ 7000) (hch : ch.length ≤ 1000000) (mo : Nat) (hm1 : 1 ≤ mo) (hm2 : mo ≤ 64) :
    Calls Tryz.prog 41 #[.pointer (some ⟨d, 0, none⟩), .int .i64 (S : Int)] w fun e w' => ∃ l0, e = .returned (.tuple #[.pointer (some ⟨l0, 0, none⟩), .int .i64 0]) ∧ Below w.heap.size w w' ∧
      Calls Tryz.prog 72 #[.pointer (some ⟨l0, 0, none⟩), .int .i64 (mo : Int)] w' fun e w'' => ∃ p, e = .returned (.tuple #[.pointer (some ⟨p, 0, none⟩), .int .i64 0]) ∧ (∀ F : Nat → Prop, (∀ k, F k → k < w.heap.size) → Cache w'' p (newS ls.length S P t G gs ls mo) F) ∧ Below w'.heap.size w' w'' := by
  refine (open_ok hD S G P gs hi (by omega) hch).mono ?_
  rintro _ w' ⟨l, d', g', cap, mb, n, rfl, hn, hM, hb⟩
  refine ⟨l, rfl, hb, ?_⟩
  have hlo := hM.lts
  have hA : AtC w' ls.length S P t l d' g' cap mb n (.slice none 0 0) G gs ls := ⟨by
      have e : (chOf (fresh S P) ls).drop ls.length = [] := by rw [List.drop_eq_nil_iff, chOf_length]; exact Nat.le_refl _
      rw [e]
      exact hM.mono (B' := 0) (Nat.zero_le _), hi, hG, hls, by omega, Nat.le_refl _⟩
  refine (pgNew_ok hA (by omega) mo hm1 hm2).mono ?_
  rintro _ w'' ⟨p, m, rfl, hP, hb2, hall, _⟩
  refine ⟨p, rfl, fun F hF => ⟨m, hP, newS_ext _ _ _ _ _ _ _ _, fun k hk => ⟨?_, fun ha => ?_⟩⟩, hb2⟩
  · have h1 := hF k hk
    have h2 := hb.size
    have h3 := hb2.size
    omega
  · have h1 := hF k hk
    have h2 := hb.size
    rcases hall k ha with h | h
    · have := (hlo k h).1; omega
    · omega
end Go.Proofs.YthdcjepkehifoaaGreat

/- TopPages' walk. -/
namespace Go.Proofs.YthdcjepkehifoaaGreat
open Go.RowKit Go.Maps Go.Sort Go.Shelf
set_option linter.unusedVariables false
set_option maxRecDepth 20000
def RowsIn (w : World) (a : Option Addr) (l : List (List UInt8)) : Prop := ∀ i (h : i < l.length), ∃ b o sa sc, a = some ⟨b, o, none⟩ ∧ w.cell? ⟨b, o + i, none⟩ = some (.slice sa l[i].length sc) ∧ Bytes w sa l[i] ∧ l[i].length ≤ 9223372036854775807
theorem Cache.set {w w' : World} {p : Nat} {s : PS} {F : Nat → Prop} (h : Cache w p s F) {g : Nat} (hg : F g) (hs : w'.heap.size = w.heap.size) (hk : ∀ k, k ≠ g → w'.heap[k]? = w.heap[k]?) : Cache w' p s F := by
  obtain ⟨m, h1, h2, h3⟩ := h
  exact ⟨m, h1.keep (fun k hk' => hk k (fun e => (h3 g hg).2 (e ▸ hk'))), h2, fun k hk' => ⟨by rw [hs]; exact (h3 k hk').1, (h3 k hk').2⟩⟩
theorem irow_form {u : World} {B : Nat} {v : Value} {n : Nat} {cs : List Value} (h : u.ownsRow B 3 1 v n cs) : ∃ a c, v = .slice a n c := by
  rcases h.2 with ⟨h1, h2⟩ | ⟨g, cap, _, h1, _⟩
  · exact ⟨none, 0, by rw [h1, h2]⟩
  · exact ⟨_, _, h1⟩
/-- a log is opened on what was cut, and a cache over it -/
theorem reopen2 {w : World} {B d g c : Nat} {v : Value} {s : PS} {ch : List (Nat × List UInt8)} (hD : DiskAt w B d g c v (psOf (fresh s.S s.P) s.ls) ch) (hi : LogInv (psOf (fresh s.S s.P) s.ls) s.S s.G s.gs s.P ∧ s.G ≤ s.t ∧ s.ls.length ≤ 102 * s.t ∧ s.k0 ≤ s.ls.length ∧ usedOf s.gs ≤ s.S ∧ CaOk s) (hS : s.S = 20) (hdl : s.dl = []) (ht1 : 1 ≤ s.t) (ht : s.t ≤ 7000) (hch : ch.length ≤ 1000000) :
    Calls Tryz.prog 41 #[.pointer (some ⟨d, 0, none⟩), .int .i64 20] w fun e w' => ∃ l0, e = .returned (.tuple #[.pointer (some ⟨l0, 0, none⟩), .int .i64 0]) ∧ Below w.heap.size w w' ∧
      Calls Tryz.prog 72 #[.pointer (some ⟨l0, 0, none⟩), .int .i64 2] w' fun e w'' => ∃ p s3, e = .returned (.tuple #[.pointer (some ⟨p, 0, none⟩), .int .i64 0]) ∧ (∀ F : Nat → Prop, (∀ k, F k → k < w.heap.size) → Cache w'' p s3 F) ∧ (s3.S = s.S ∧ s3.P = s.P ∧ s3.dl = [] ∧ s3.t = s.t ∧ ∀ q, s3.now q = s.now q) ∧ Below w'.heap.size w' w'' := by
  have h := reopen hD hi.1 hi.2.1 hi.2.2.1 (by omega) ht hch 2 (by omega) (by omega)
  rw [show (20 : Int) = (s.S : Int) by rw [hS]; rfl]
  refine h.mono ?_
  rintro _ w' ⟨l0, rfl, hb, hN⟩
  refine ⟨l0, rfl, hb, hN.mono ?_⟩
  rintro _ w'' ⟨p, rfl, hC, hb2⟩
  exact ⟨p, _, rfl, hC, ⟨rfl, rfl, rfl, rfl, fun q => by unfold PS.now; rw [hdl]; rfl⟩, hb2⟩
/-- between two groups -/
def TP (w : World) (g p : Nat) (F : Nat → Prop) (k : Nat) (wr : World) : Prop := ∃ (s : PS) (ws : List UInt8), s.S = 20 ∧ s.P = 39 ∧ s.dl = [] ∧ s.t ≤ k ∧ ws.length = 39 ∧ (∀ q, q < 39 → (s.now q)[7]? = ws[q]?) ∧ wr.ownsRow w.heap.size 5 1 (.slice (some ⟨g, 0, none⟩) 39 39) 39 (cellsOf ws) ∧ Cache wr p s F ∧ Below w.heap.size w wr
theorem TP.drewN {w : World} {g p : Nat} {F : Nat → Prop} {k : Nat} {wr : World} (h : TP w g p F k wr) (n : Nat) : TP w g p F k (wr.drewN n) := by
  obtain ⟨s, ws, h1, h2, h3, h4, h5, h6, h7, h8, h9⟩ := h
  exact ⟨s, ws, h1, h2, h3, h4, h5, h6, own_below h7 (below_drewN _ _ _), h8.below (below_drewN _ _ _), h9.trans (below_drewN _ _ _)⟩
/-- between two writes -/
def TW (w : World) (g p : Nat) (F : Nat → Prop) (s0 : PS) (k : Nat) (wr : World) : Prop := ∃ (s : PS) (ws : List UInt8), s.S = 20 ∧ s.P = 39 ∧ s.dl.length ≤ k ∧ s.t ≤ s0.t + k ∧ s.ls = s0.ls ∧ s.k0 = s0.k0 ∧ ws.length = 39 ∧ (∀ q, q < 39 → (s.now q)[7]? = ws[q]?) ∧ wr.ownsRow w.heap.size 5 1 (.slice (some ⟨g, 0, none⟩) 39 39) 39 (cellsOf ws) ∧ Cache wr p s F ∧ Below w.heap.size w wr
set_option maxHeartbeats 2000000 in
theorem topPages_walk (a : Option Addr) (l : List (List UInt8)) (cap : Nat) (x : Nat) (hx : x < 256) (w : World) (hl : RowsIn w a l) (hll : l.length ≤ 9223372036854775807) : Calls Tryz.prog 12 #[.slice a l.length cap, .int .u8 (x : Int)] w fun e w' => e = .returned (.bool true) ∧ Below w.heap.size w w' := by
  obtain ⟨i0, hi0, hz0, hz1, hz2⟩ := info_parts Tryz.info5
  obtain ⟨N, hN⟩ : ∃ N, N = l.length := ⟨_, rfl⟩
  have HL := hid hl
  have HN := hid hN
  rw [← hN] at hll ⊢
  clear hl hN
  go_enter Tryz.func12, Tryz.ntmps12
  go_wp2_with fail
  refine (new_ok 60 w (by omega) (by omega)).mono ?_
  rintro _ w1 ⟨d0, g0, cap0, rfl, hD, hb1⟩
  have Ho := hid (reopen (S := 20) (P := 39) (t := 0) (G := 0) (gs := []) (ls := []) hD (by exact inv_new 60 20 39 rfl (by omega) (by omega) (by omega)) (by omega) (by simp) (Nat.le_refl _) (by omega) (by simp) 2 (by omega) (by omega))
  have Hb1 := hid hb1
  clear hD hb1
  go_wp2_with fail
  refine Ho.out.mono ?_
  rintro _ w2 ⟨lg, rfl, hb2, hN⟩
  have HNw := hid hN
  have Hb2 := hid (Below.on' Hb1.out hb2)
  clear hb2 Ho hN
  go_wp2_with fail
  refine HNw.out.mono ?_
  rintro _ w3 ⟨p, rfl, hC, hb3⟩
  have Hb3 := hid (Below.on' Hb2.out hb3)
  have HC3 := hid (hC (fun k => k < w.heap.size) (fun k hk => by have := Hb1.out.size; omega))
  clear hC hb3 HNw Hb1 Hb2
  obtain ⟨s0, hs0⟩ : ∃ s0, s0 = newS 0 20 39 0 0 [] [] 2 := ⟨_, rfl⟩
  have k0 : Hid (s0.S = 20 ∧ s0.P = 39 ∧ s0.dl = [] ∧ s0.t = 0 ∧ ∀ q, q < 39 → s0.now q = List.replicate 256 0) := by
    rw [hs0]
    refine ⟨rfl, rfl, rfl, rfl, fun q hq => ?_⟩
    show (fresh 20 39).getD (20 + 1 + q) [] = _
    unfold fresh
    rw [List.getD_eq_getElem?_getD, List.getElem?_replicate, if_pos (by omega)]
    rfl
  have HC3' : Hid (Cache w3 p s0 (fun k => k < w.heap.size)) := by rw [hs0]; exact HC3.out
  clear hs0 HC3
  go_wp2_with (at_make; refine wpList_make_full _ rfl _ _ 36 rfl w3.heap.size 5 i0 (.int .u8 0) 1 Tryz.underlying36 hi0 hz0 hz1 .i64 .i64 _ _ 39 rfl rfl (by omega) (by omega) (by rw [hz2]; omega) (by unfold maxLen; omega) (Nat.le_refl _) ?_; intro w4 hown4 hgrow4)
  have hsz3 := Hb3.out.size
  have hb4 : Below w3.heap.size w3 w4 := (Below.refl _ w3).grown hgrow4 (Nat.le_refl _) (by simp)
  have hgl := (hown4.lt w3.heap.size rfl).2
  obtain ⟨F, hF⟩ : ∃ F : Nat → Prop, F = fun k => k < w.heap.size ∨ (w3.heap.size ≤ k ∧ k < w4.heap.size) := ⟨_, rfl⟩
  have HFg : Hid (F w3.heap.size) := by rw [hF]; exact .inr ⟨Nat.le_refl _, hgl⟩
  have HFw : Hid (∀ k, k < w.heap.size → F k) := by rw [hF]; exact fun k hk => .inl hk
  have HFl : Hid (∀ k, F k → k < w4.heap.size) := by rw [hF]; rintro k (h | h); have := hb4.size; omega; exact h.2
  have HC4 : Hid (Cache w4 p s0 F) := by rw [hF]; exact HC3'.out.add hb4
  have Hb4 := hid (Below.on' Hb3.out hb4)
  rw [made_zeros] at hown4
  have HO4 := hid (hown4.mono hsz3)
  have HT0 : Hid (TP w w3.heap.size p F 0 w4) := ⟨s0, List.replicate 39 0, k0.out.1, k0.out.2.1, k0.out.2.2.1, by have := k0.out.2.2.2.1; omega, List.length_replicate, fun q hq => by rw [k0.out.2.2.2.2 q hq, List.getElem?_replicate, List.getElem?_replicate, if_pos (by omega), if_pos hq], HO4.out, HC4.out, Hb4.out⟩
  clear hF hb4 hgrow4 hown4 HC3' Hb3 HO4 HC4 Hb4 k0
  have hgw : w.heap.size ≤ w3.heap.size := hsz3
  generalize w3.heap.size = g at *
  go_wp2_with fail
  go_loopw [9, 12] (fun pv i wr => ∃ (k p : Nat), k ≤ N ∧ k ≤ 12 ∧ pv = .pointer (some ⟨p, 0, none⟩) ∧ i = .int .i64 (k : Int) ∧ w4.heap.size ≤ wr.heap.size ∧ TP w g p F (18 * k) wr) (fun _ i _ => 12 - (intOf i).toNat)
  case atStart => exact ⟨0, p, Nat.zero_le _, Nat.zero_le _, rfl, rfl, Nat.le_refl _, HT0.out⟩
  case round =>
    obtain ⟨k, p, hkN, hk12, rfl, rfl, hsz, s, ws, hS, hP, hdl, hst, hws, hnow, hO, hC, hB⟩ := hrel
    clear HT0
    have Hs : Hid (s.S = 20 ∧ s.P = 39 ∧ s.dl = []) := ⟨hS, hP, hdl⟩
    have Hws := hid hws
    have Hnow := hid hnow
    have HO := hid hO
    have HC := hid hC
    have HB := hid hB
    obtain ⟨w5, hw5⟩ : ∃ w5, w5 = wr := ⟨_, rfl⟩
    subst hw5
    clear hS hP hdl hws hnow hO hC hB
    by_cases hlt : k < N ∧ k < 12
    · obtain ⟨hlt1, hlt2⟩ := hlt
      have f1 : (k : Int) < (N : Int) := by omega
      have f2 : (k : Int) < 12 := by omega
      have f3 : (0 : Int) ≤ (k : Int) := by omega
      have hkl : k < l.length := by have := HN.out; omega
      obtain ⟨b, o, sa, sc, ha, d0, hby, hbl⟩ := HL.out k hkl
      subst ha
      have HDl := hid d0
      have HBy := hid hby
      clear d0 hby
      generalize l[k] = y at *
      obtain ⟨M, hM⟩ : ∃ M, M = y.length := ⟨_, rfl⟩
      rw [← hM] at HDl hbl
      have HM := hid hM
      clear hM
      have Hlog := hid (logd_c HC.out (by omega))
      go_wp2_with fail
      refine Hlog.out.mono ?_
      rintro _ _ ⟨rfl, l0, rfl, hdk⟩
      have Hdk := hid hdk
      clear hdk Hlog
      go_wp2_with fail
      refine Hdk.out.mono ?_
      rintro _ w6 ⟨hb6, d6, g6, c6, v6, rfl, hD6⟩
      have Hcn := hid (count_any hD6)
      rw [List.length_drop, chOf_length] at Hcn
      obtain ⟨C0, hC0⟩ : ∃ C0, C0 = s.ls.length - s.k0 := ⟨_, rfl⟩
      rw [← hC0] at Hcn
      have HC0 := hid hC0
      clear hC0
      have HC6 := hid (HC.out.below hb6)
      have HO6 := hid (own_below HO.out hb6)
      have HB6 := hid (Below.on' HB.out hb6)
      have hsz6 := hb6.size
      have hlog := HC.out.logs
      have HL6 := hid hlog
      have hcount : s.k0 ≤ s.ls.length ∧ s.ls.length ≤ 102 * s.t := ⟨hlog.2.2.2.1, hlog.2.2.1⟩
      clear hb6 hD6 Hdk hlog HC HO HB
      go_wp2_with fail
      refine Hcn.out.mono ?_
      rintro _ u9 ⟨rfl, hu9⟩
      subst u9
      have HT : Hid (TW w g p F s 0 w6) := ⟨s, ws, Hs.out.1, Hs.out.2.1, by rw [Hs.out.2.2]; exact Nat.le_refl _, Nat.le_refl _, rfl, rfl, Hws.out, Hnow.out, HO6.out, HC6.out, HB6.out⟩
      clear Hcn Hws Hnow HO6 HC6 HB6
      go_wp2
      go_loopw [15] (fun i wr => ∃ j : Nat, j ≤ M ∧ j ≤ 15 ∧ i = .int .i64 (j : Int) ∧ w6.heap.size ≤ wr.heap.size ∧ TW w g p F s j wr) (fun i _ => 15 - (intOf i).toNat)
      case atStart => exact ⟨0, Nat.zero_le _, Nat.zero_le _, rfl, Nat.le_refl _, HT.out⟩
      case round =>
        obtain ⟨j, hjM, hj15, rfl, hszr, s1, ws1, hS1, hP1, hd1, ht1, hls1, hk1, hws1, hnow1, hO1, hC1, hB1⟩ := hrel
        obtain ⟨w7, hw7⟩ : ∃ w7, w7 = wr := ⟨_, rfl⟩
        subst hw7
        clear HT
        have Hls := hid hls1
        have Hk1 := hid hk1
        have Hws1 := hid hws1
        have Hnow1 := hid hnow1
        have HO1 := hid hO1
        have HC1 := hid hC1
        have HB1 := hid hB1
        have Hs1 : Hid (s1.S = 20 ∧ s1.P = 39) := ⟨hS1, hP1⟩
        clear hls1 hk1 hws1 hnow1 hO1 hC1 hB1 hS1 hP1
        have e1 := (HB1.out.cell (World.block_lt_of_cell? _ _ HDl.out)).trans HDl.out
        by_cases hltj : j < M ∧ j < 15
        · have f4 : (j : Int) < (M : Int) := by omega
          have f5 : (j : Int) < 15 := by omega
          have f6 : (0 : Int) ≤ (j : Int) := by omega
          have hjy : j < y.length := by have := HM.out; omega
          obtain ⟨yb, yo, hya, hyc⟩ := HBy.out j hjy
          subst hya
          have e2 := (HB1.out.cell (World.block_lt_of_cell? _ _ hyc)).trans hyc
          obtain ⟨z, hz⟩ : ∃ z, z = (y[j]).toNat := ⟨_, rfl⟩
          have hz256 : z < 256 := by rw [hz]; exact (y[j]).toNat_lt
          rw [← hz] at e2
          clear hz hyc
          obtain ⟨v8, hv8⟩ : ∃ v8 : UInt8, v8 = UInt8.ofNat (x + j) := ⟨_, rfl⟩
          have hv8' : ((v8.toNat : Nat) : Int) = ((x : Int) + (j : Int)) % 256 := by rw [hv8, UInt8.toNat_ofNat']; omega
          have f7 : IntKind.u8.wrap (j : Int) = (j : Int) := by rw [IntKind.wrap_u8]; omega
          have f8 : IntKind.u8.wrap ((x : Int) + (j : Int)) = (v8.toNat : Int) := by rw [IntKind.wrap_u8]; omega
          clear hv8
          have HV8 := hid hv8'
          clear hv8'
          go_wp2_with (at_make; refine wpList_make_full _ rfl _ _ 36 rfl w7.heap.size 5 i0 (.int .u8 0) 1 Tryz.underlying36 hi0 hz0 hz1 .i64 .i64 _ _ 256 rfl rfl (by omega) (by omega) (by rw [hz2]; omega) (by unfold maxLen; omega) (Nat.le_refl _) ?_; intro w8 hown5 hgrow5; rw [made_zeros] at hown5; have c2 := (hown5.cellAt 7 (by omega)).trans (cellsOf_get _ 7 (by simp)); have c3 := hown5.frozenAt 7; rw [List.getElem_replicate] at c2; have Hown5 := hid hown5; have Hgrow5 := hid hgrow5; clear hown5 hgrow5)
          generalize hnz : (z : Int) % 39 = nz
          obtain ⟨n, rfl, hn39⟩ : ∃ n : Nat, nz = (n : Int) ∧ n < 39 := ⟨nz.toNat, by omega, by omega⟩
          obtain ⟨y8, hy8⟩ : ∃ y8 : List UInt8, y8 = (List.replicate 256 0).set 7 v8 := ⟨_, rfl⟩
          have hyl : y8.length = 256 := by rw [hy8]; simp
          obtain ⟨w9, hw9⟩ : ∃ w9, w9 = w8.setCell ⟨w7.heap.size, 7, none⟩ (.int .u8 (v8.toNat : Int)) := ⟨_, rfl⟩
          rw [← hw9]
          have b5 : Below w7.heap.size w7 w8 := (Below.refl _ w7).grown Hgrow5.out (Nat.le_refl _) (by simp)
          have b6 : Below w7.heap.size w7 w9 := by rw [hw9]; exact b5.setCell (Nat.le_refl _) _
          have r6 : w9.ownsRow w7.heap.size 5 1 (.slice (some ⟨w7.heap.size, 0, none⟩) 256 256) 256 (cellsOf y8) := by
            have h1 := (Hown5.out.stored 7 (.int .u8 (v8.toNat : Int))).1
            have e : (cellsOf (List.replicate 256 0)).set 7 (.int .u8 (v8.toNat : Int)) = cellsOf y8 := by rw [hy8]; simp [cellsOf]
            rw [e] at h1
            rw [hw9]
            exact h1
          have hlt9 := (r6.lt _ rfl).2
          have hwe : writeE s1 (n : Int) y8.length = 0 := by
            unfold writeE
            rw [if_neg (by have := Hs1.out.2; omega), hyl, if_neg (by omega), if_neg (by omega)]
          have HWr := hid (write_c (HC1.out.add b6) (by omega) (n : Int) (by omega) y8 (some ⟨w7.heap.size, 0, none⟩) 256 (bytes_of_row r6 hyl) 256 hyl.symm)
          have HO9 := hid (own_below HO1.out b6)
          have HB9 := hid (Below.on' HB1.out b6)
          have HR9 := hid r6
          have HY8 := hid hy8
          have HYl := hid hyl
          have HWe := hid hwe
          have hsz9 := b6.size
          clear hnz hy8 hyl hw9 b5 b6 r6 Hown5 Hgrow5 c2 c3 e1 e2 hwe f7 f8
          go_wp2_with fail
          refine HWr.out.mono ?_
          rintro _ w10 (⟨hbad, _⟩ | ⟨_, rfl, C10, o10⟩)
          · exact absurd HWe.out hbad
          have hR10 := own_keep HR9.out (w' := w10) (fun k e => by cases e; exact o10.get (.inr ⟨Nat.le_refl _, hlt9⟩) hlt9)
          have hO10 := own_keep HO9.out (w' := w10) (fun k e => by cases e; exact o10.get (.inl HFg.out) (HO9.out.lt _ rfl).2)
          have HB10 := hid (HB9.out.trans (o10.below (B := w.heap.size) HB9.out.size (fun k hk => .inl (HFw.out k hk))))
          rw [Int.toNat_natCast] at C10
          have HC10 := hid (C10.mono (F' := F) (fun k hk => .inl hk))
          have hsz10 := o10.size
          have c7 := (hR10.cellAt 7 (by omega)).trans (cellsOf_get _ 7 (by rw [HYl.out]; omega))
          have hv7 : y8[7]'(by rw [HYl.out]; omega) = v8 := by have := HY8.out; subst this; simp
          rw [hv7] at c7
          have c4 := (hO10.cellAt n (by omega)).trans (cellsOf_get _ n (by rw [Hws1.out]; exact hn39))
          have c5 := hO10.frozenAt n
          have Hst := hid (hO10.stored n (.int .u8 (v8.toNat : Int)))
          generalize (ws1[n]'(by rw [Hws1.out]; exact hn39)).toNat = c0 at c4
          have g1 : (n : Int) < 39 := by omega
          have hok : CaOk s1 := HC1.out.logs.2.2.2.2.2
          have H10 : Hid ((writeS s1 n y8).S = 20 ∧ (writeS s1 n y8).P = 39 ∧ (writeS s1 n y8).dl.length ≤ j + 1 ∧ (writeS s1 n y8).t ≤ s.t + (j + 1) ∧ (writeS s1 n y8).ls = s.ls ∧ (writeS s1 n y8).k0 = s.k0 ∧ ∀ q, (writeS s1 n y8).now q = if q = n then y8 else s1.now q) := ⟨Hs1.out.1, Hs1.out.2, by show (dIns n y8 s1.dl).length ≤ j + 1; have := dIns_len n y8 s1.dl; omega, by show s1.t + 1 ≤ _; omega, Hls.out, Hk1.out, fun q => writeS_now hok n y8 q⟩
          generalize writeS s1 n y8 = s2 at *
          clear C10 o10 hR10 hO10 HWr HC1 HO1 HB1 HO9 HB9 HR9 hok HWe hv7
          go_wp2_with fail
          refine ⟨⟨j + 1, by omega, by omega, by go_num, by simp [World.setCell]; omega, s2, ws1.set n v8, H10.out.1, H10.out.2.1, H10.out.2.2.1, H10.out.2.2.2.1, H10.out.2.2.2.2.1, H10.out.2.2.2.2.2.1, by rw [List.length_set]; exact Hws1.out, fun q hq => ?_, ?_, HC10.out.set HFg.out (by simp [World.setCell]) (fun j hj => heap_setCell_other _ _ _ _ hj), HB10.out.setCell hgw _⟩, by simp [intOf]; omega⟩
          · rw [H10.out.2.2.2.2.2.2 q]
            by_cases hqn : q = n
            · subst hqn
              rw [if_pos rfl, HY8.out, List.getElem?_set_self (by simp), List.getElem?_set_self (by rw [Hws1.out]; exact hq)]
            · rw [if_neg hqn, List.getElem?_set_ne (fun e => hqn e.symm)]
              exact Hnow1.out q hq
          · have h1 := Hst.out.1
            have e : (cellsOf ws1).set n (.int .u8 (v8.toNat : Int)) = cellsOf (ws1.set n v8) := by simp [cellsOf, List.map_set]
            rw [e] at h1
            exact h1
        · have hcase : (¬ (j : Int) < (M : Int)) ∨ ((j : Int) < (M : Int) ∧ ¬ (j : Int) < 15) := by omega
          have Hdi := hid (dirty_c HC1.out (by omega))
          rcases hcase with d1 | ⟨d1, d2⟩
          all_goals
            go_wp2_with fail
            refine Hdi.out.mono ?_
            rintro _ w8 ⟨dv, rfl, hdr, hb8⟩
            obtain ⟨da, dc, rfl⟩ := irow_form hdr
            obtain ⟨D, hD⟩ : ∃ D, D = s1.dl.length := ⟨_, rfl⟩
            rw [← hD]
            have hcok : comOk s1 := by
              by_cases h0 : s1.dl.length = 0
              · exact .inl h0
              · exact .inr (by have := Hs1.out.1; omega)
            have HC8 := hid (HC1.out.below hb8)
            have HO8 := hid (own_below HO1.out hb8)
            have HB8 := hid (Below.on' HB1.out hb8)
            have hsz8 := hb8.size
            have HCo := hid (com_c HC8.out (by omega) (by have := Hs1.out.2; omega))
            have Hcok := hid hcok
            have HD := hid hD
            clear hdr hb8 Hdi HC1 HO1 HB1 hcok hD
            go_wp2_with fail
            refine HCo.out.mono ?_
            rintro _ w9 (⟨_, rfl, C9, o9⟩ | ⟨hbad, _⟩)
            rotate_left
            · exact absurd Hcok.out hbad
            obtain ⟨q1, q2, q3, q4, q5, q6, q7⟩ := commitS_same (s := s1)
            have q8 := commitS_dl (s := s1)
            have q9 := commitS_k0 s1
            have q10 : (∀ q, q < 39 → (commitS s1).now q = s1.now q) := fun q hq => HC8.out.com_now (by omega) Hcok.out q (by have := Hs1.out.2; omega)
            have q11 : s1.dl.length = 0 → (commitS s1).ls.length = s1.ls.length := commitS_none
            have q12 : 0 < s1.dl.length → s1.ls.length + s1.dl.length + 2 ≤ (commitS s1).ls.length := commitS_some
            generalize commitS s1 = s2 at *
            have H2 : Hid (s2.S = 20 ∧ s2.P = 39 ∧ s2.dl = [] ∧ s2.t = s1.t + 3 ∧ s2.k0 = s.k0 ∧ ∀ q, q < 39 → (s2.now q)[7]? = ws1[q]?) := ⟨q3.trans Hs1.out.1, q4.trans Hs1.out.2, q8, q5, q9.trans Hk1.out, fun q hq => by rw [q10 q hq]; exact Hnow1.out q hq⟩
            have hlg := C9.logs
            have HG2 := hid hlg
            obtain ⟨C1, hC1⟩ : ∃ C1, C1 = s2.ls.length - s2.k0 := ⟨_, rfl⟩
            obtain ⟨nn, hnn⟩ : ∃ nn, nn = C1 - C0 := ⟨_, rfl⟩
            have hC01 : C0 ≤ C1 ∧ C1 ≤ 1000000 ∧ (D = 0 → nn = 0) ∧ (0 < D → D + 2 ≤ nn) := by
              have t1 := HC0.out
              have t2 := HD.out
              have t3 := Hls.out
              have t4 := Hk1.out
              rw [t3, ← t2] at q11 q12
              have t5 := hlg.2.2.1
              by_cases h0 : D = 0
              · have := q11 h0; omega
              · have := q12 (by omega); omega
            have HC1c := hid hC1
            have HO9 := hid (own_keep HO8.out (w' := w9) (fun k e => by cases e; exact o9.get HFg.out (HO8.out.lt _ rfl).2))
            have HB9 := hid (HB8.out.trans (o9.below (B := w.heap.size) HB8.out.size (fun k hk => HFw.out k hk)))
            have HC9 := hid C9
            have hsz9 := o9.size
            have ht2 : s2.t ≤ s.t + 18 := by omega
            have HLg := hid (logd_c C9 (by omega))
            have f8 : IntKind.i64.wrap ((C1 : Int) - (C0 : Int)) = (nn : Int) := by rw [IntKind.wrap_i64]; omega
            clear q1 q2 q3 q4 q5 q6 q7 q8 q9 q10 q11 q12 hlg hC1 C9 o9 HCo HC8 HO8 HB8 Hcok hnn d1
            go_wp2_with fail
            refine HLg.out.mono ?_
            rintro _ u9 ⟨hu9, l1, rfl, hdk⟩
            subst u9
            have Hdk := hid hdk
            clear hdk HLg
            go_wp2_with fail
            refine Hdk.out.mono ?_
            rintro _ w10 ⟨hb10, d10, g10, c10, v10, rfl, hD10⟩
            have Hcn := hid (count_any hD10)
            rw [List.length_drop, chOf_length, ← HC1c.out] at Hcn
            have HC10 := hid (HC9.out.below hb10)
            have HO10 := hid (own_below HO9.out hb10)
            have HB10 := hid (Below.on' HB9.out hb10)
            have hsz10 := hb10.size
            have HLg := hid (logd_c HC10.out (by omega))
            clear hb10 hD10 Hdk HC9 HO9 HB9
            have hDc : (D = 0 ∧ nn = 0) ∨ (0 < D ∧ D + 2 ≤ nn) := by omega
            have Hd15 : Hid (D ≤ 15) := (by have := HD.out; omega : D ≤ 15)
            have hd15 := Hd15.out
            have f9 : IntKind.i64.wrap ((D : Int) + 2) = (D : Int) + 2 := by rw [IntKind.wrap_i64]; omega
            have hsimp : Hid (∀ {α : Prop}, α → α) := fun h => h
            rcases hDc with ⟨hD0, hn0⟩ | ⟨hD0, hn0⟩
            · clear HD Hd15
              subst hD0
              subst hn0
              go_wp2_with fail
              refine Hcn.out.mono ?_
              rintro _ u9 ⟨rfl, hu9⟩
              subst u9
              clear Hcn
              go_wp2_with fail
              refine HLg.out.mono ?_
              rintro _ u9 ⟨hu9, l2, rfl, hdk⟩
              subst u9
              have Hdk := hid hdk
              clear hdk HLg
              go_wp2_with fail
              refine Hdk.out.mono ?_
              rintro _ w11 ⟨hb11, d11, g11, c11, v11, rfl, hD11⟩
              have HD11 := hid hD11
              have HC11 := hid (HC10.out.below hb11)
              have HO11 := hid (own_below HO10.out hb11)
              have HB11 := hid (Below.on' HB10.out hb11)
              have hsz11 := hb11.size
              have HLg := hid (logd_c HC11.out (by omega))
              clear hb11 hD11 Hdk HC10 HO10 HB10
              go_wp2_with fail
              refine HLg.out.mono ?_
              rintro _ u9 ⟨hu9, l3, rfl, hdk⟩
              subst u9
              have Hdk := hid hdk
              clear hdk HLg
              go_wp2_with fail
              refine Hdk.out.mono ?_
              rintro _ w12 ⟨hb12, d12, g12, c12, v12, rfl, hD12⟩
              have Hcn := hid (count_any hD12)
              have hchl : ((chOf (fresh s2.S s2.P) s2.ls).drop s2.k0).length = C1 := by rw [List.length_drop, chOf_length]; exact HC1c.out.symm
              rw [hchl] at Hcn
              have hps : (psOf (fresh s2.S s2.P) s2.ls).length = 60 := by have := HG2.out.1.len; rw [this, H2.out.1, H2.out.2.1]
              have hcut := cut_ok (HD11.out.below hb12) C1 (by rw [hchl]; exact Nat.le_refl _) (by rw [hchl]; omega) (by omega) (by omega)
              rw [← hchl, undo_all, hchl] at hcut
              have Hcut := hid hcut
              have HO12 := hid (own_below HO11.out hb12)
              have HB12 := hid (Below.on' HB11.out hb12)
              have hsz12 := hb12.size
              clear hb12 hD12 Hdk HC11 HO11 HB11 hchl hps hcut HD11
              go_wp2_with fail
              refine Hcn.out.mono ?_
              rintro _ u9 ⟨rfl, hu9⟩
              subst u9
              clear Hcn
              go_wp2_with fail
              refine Hcut.out.mono ?_
              rintro _ w13 ⟨d13, g13, c13, rfl, hD13, hb13⟩
              have Hop := hid (reopen2 hD13 HG2.out H2.out.1 H2.out.2.2.1 (by have := H2.out.2.2.2.1; omega) (by omega) (by simp))
              have HO13 := hid (own_below HO12.out hb13)
              have HB13 := hid (Below.on' HB12.out hb13)
              have hsz13 := hb13.size
              clear hb13 hD13 Hcut HO12 HB12
              go_wp2_with fail
              refine Hop.out.mono ?_
              rintro _ w14 ⟨l4, rfl, hb14, hnew⟩
              have Hnew := hid hnew
              have HO14 := hid (own_below HO13.out hb14)
              have HB14 := hid (Below.on' HB13.out hb14)
              have hsz14 := hb14.size
              clear hb14 hnew Hop HO13 HB13
              go_wp2_with fail
              refine Hnew.out.mono ?_
              rintro _ w15 ⟨p5, s5, rfl, hC5, hs5, hb15⟩
              have HC15 := hid (hC5 F (fun k hk => by have := HFl.out k hk; omega))
              have HO15 := hid (own_below HO14.out hb15)
              have HB15 := hid (Below.on' HB14.out hb15)
              have hsz15 := hb15.size
              have H5 := hid hs5
              clear hb15 hC5 hs5 Hnew HO14 HB14
              go_wp2_with fail
              first | go_roundw | skip
              case rel => exact ⟨k + 1, p5, by omega, by omega, rfl, by go_num, by omega, s5, ws1, H5.out.1.trans H2.out.1, H5.out.2.1.trans H2.out.2.1, H5.out.2.2.1, by have := H5.out.2.2.2.1; omega, Hws1.out, fun q hq => by rw [H5.out.2.2.2.2 q]; exact H2.out.2.2.2.2.2 q hq, HO15.out, HC15.out, HB15.out⟩
              case measure => simp [intOf]; omega
            · have i1 : (0 : Int) < (D : Int) := by omega
              have i2 : ¬ (nn : Int) < (D : Int) + 2 := by omega
              have i3 : ¬ (D : Int) = 0 := by omega
              have i4 : ((D : Int) == 0) = false := by simp; omega
              go_wp2_with fail
              refine Hcn.out.mono ?_
              rintro _ u9 ⟨rfl, hu9⟩
              subst u9
              clear Hcn
              go_wp2_with fail
              refine HLg.out.mono ?_
              rintro _ u9 ⟨hu9, l2, rfl, hdk⟩
              subst u9
              have Hdk := hid hdk
              clear hdk HLg
              go_wp2_with fail
              refine Hdk.out.mono ?_
              rintro _ w11 ⟨hb11, d11, g11, c11, v11, rfl, hD11⟩
              have HD11 := hid hD11
              have HC11 := hid (HC10.out.below hb11)
              have HO11 := hid (own_below HO10.out hb11)
              have HB11 := hid (Below.on' HB10.out hb11)
              have hsz11 := hb11.size
              have HLg := hid (logd_c HC11.out (by omega))
              clear hb11 hD11 Hdk HC10 HO10 HB10
              go_wp2_with fail
              refine HLg.out.mono ?_
              rintro _ u9 ⟨hu9, l3, rfl, hdk⟩
              subst u9
              have Hdk := hid hdk
              clear hdk HLg
              go_wp2_with fail
              refine Hdk.out.mono ?_
              rintro _ w12 ⟨hb12, d12, g12, c12, v12, rfl, hD12⟩
              have Hcn := hid (count_any hD12)
              have hchl : ((chOf (fresh s2.S s2.P) s2.ls).drop s2.k0).length = C1 := by rw [List.length_drop, chOf_length]; exact HC1c.out.symm
              rw [hchl] at Hcn
              have hps : (psOf (fresh s2.S s2.P) s2.ls).length = 60 := by have := HG2.out.1.len; rw [this, H2.out.1, H2.out.2.1]
              have hcut := cut_ok (HD11.out.below hb12) C1 (by rw [hchl]; exact Nat.le_refl _) (by rw [hchl]; omega) (by omega) (by omega)
              rw [← hchl, undo_all, hchl] at hcut
              have Hcut := hid hcut
              have HO12 := hid (own_below HO11.out hb12)
              have HB12 := hid (Below.on' HB11.out hb12)
              have hsz12 := hb12.size
              clear hb12 hD12 Hdk HC11 HO11 HB11 hchl hps hcut HD11
              go_wp2_with fail
              refine Hcn.out.mono ?_
              rintro _ u9 ⟨rfl, hu9⟩
              subst u9
              clear Hcn
              go_wp2_with fail
              refine Hcut.out.mono ?_
              rintro _ w13 ⟨d13, g13, c13, rfl, hD13, hb13⟩
              have Hop := hid (reopen2 hD13 HG2.out H2.out.1 H2.out.2.2.1 (by have := H2.out.2.2.2.1; omega) (by omega) (by simp))
              have HO13 := hid (own_below HO12.out hb13)
              have HB13 := hid (Below.on' HB12.out hb13)
              have hsz13 := hb13.size
              clear hb13 hD13 Hcut HO12 HB12
              go_wp2_with fail
              refine Hop.out.mono ?_
              rintro _ w14 ⟨l4, rfl, hb14, hnew⟩
              have Hnew := hid hnew
              have HO14 := hid (own_below HO13.out hb14)
              have HB14 := hid (Below.on' HB13.out hb14)
              have hsz14 := hb14.size
              clear hb14 hnew Hop HO13 HB13
              go_wp2_with fail
              refine Hnew.out.mono ?_
              rintro _ w15 ⟨p5, s5, rfl, hC5, hs5, hb15⟩
              have HC15 := hid (hC5 F (fun k hk => by have := HFl.out k hk; omega))
              have HO15 := hid (own_below HO14.out hb15)
              have HB15 := hid (Below.on' HB14.out hb15)
              have hsz15 := hb15.size
              have H5 := hid hs5
              clear hb15 hC5 hs5 Hnew HO14 HB14
              go_wp2_with fail
              first | go_roundw | skip
              case rel => exact ⟨k + 1, p5, by omega, by omega, rfl, by go_num, by omega, s5, ws1, H5.out.1.trans H2.out.1, H5.out.2.1.trans H2.out.2.1, H5.out.2.2.1, by have := H5.out.2.2.2.1; omega, Hws1.out, fun q hq => by rw [H5.out.2.2.2.2 q]; exact H2.out.2.2.2.2.2 q hq, HO15.out, HC15.out, HB15.out⟩
              case measure => simp [intOf]; omega
    · have hcase : (¬ (k : Int) < (N : Int)) ∨ ((k : Int) < (N : Int) ∧ ¬ (k : Int) < 12) := by omega
      have HT : Hid (TP w g p F 216 w5) := ⟨s, ws, Hs.out.1, Hs.out.2.1, Hs.out.2.2, by omega, Hws.out, Hnow.out, HO.out, HC.out, HB.out⟩
      clear Hs Hws Hnow HO HC HB HL
      rcases hcase with d1 | ⟨d1, d2⟩
      all_goals
        go_wp2
        go_loopw [21] (fun i wr => ∃ j : Nat, j ≤ 39 ∧ i = .int .i64 (j : Int) ∧ TP w g p F (216 + j) wr) (fun i _ => 39 - (intOf i).toNat)
        case atStart => exact ⟨0, Nat.zero_le _, rfl, HT.out⟩
        case round =>
          obtain ⟨j, hj, rfl, s1, ws1, hS1, hP1, hd1, ht1, hws1, hnow1, hO1, hC1, hB1⟩ := hrel
          clear HT
          have Hs1 : Hid (s1.S = 20 ∧ s1.P = 39 ∧ s1.dl = []) := ⟨hS1, hP1, hd1⟩
          have Hws1 := hid hws1
          have Hnow1 := hid hnow1
          have HO1 := hid hO1
          have HB1 := hid hB1
          by_cases hltj : j < 39
          · have f4 : (j : Int) < 39 := by omega
            have f6 : (0 : Int) ≤ (j : Int) := by omega
            have Hrd := hid (read_c hC1 (by omega) (j : Int) (by omega))
            clear hC1 hS1 hd1 hws1 hnow1 hO1 hB1
            go_wp2_with fail
            refine Hrd.out.mono ?_
            rintro _ w6 (⟨hbad, _⟩ | ⟨_, rb, rc, rfl, hr6, hC6, hK6, _⟩)
            · exact absurd hbad (by unfold badP; omega)
            rw [Int.toNat_natCast] at hr6 hC6
            have hq := Hnow1.out j hltj
            have hn256 : 7 < (s1.now j).length := by
              rcases Nat.lt_or_ge 7 (s1.now j).length with h | h
              · exact h
              · rw [List.getElem?_eq_none h] at hq
                rw [List.getElem?_eq_getElem (by rw [Hws1.out]; exact hltj)] at hq
                cases hq
            rw [List.getElem?_eq_getElem hn256, List.getElem?_eq_getElem (by rw [Hws1.out]; exact hltj)] at hq
            have hq' := Option.some.inj hq
            have c7 := (hr6.cellAt 7 (by omega)).trans (cellsOf_get _ 7 hn256)
            have hO6 := own_keep HO1.out (w' := w6) (fun k e => by cases e; exact hK6.get HFg.out (HO1.out.lt _ rfl).2)
            have c8 := (hO6.cellAt j (by omega)).trans (cellsOf_get _ j (by rw [Hws1.out]; exact hltj))
            rw [hq'] at c7
            generalize (ws1[j]'(by rw [Hws1.out]; exact hltj)).toNat = z at c7 c8
            have rsame := readS_same (s := s1) j
            have HNx : Hid (TP w g p F (216 + (j + 1)) w6) := ⟨readS s1 j, ws1, rsame.1.trans Hs1.out.1, rsame.2.1.trans Hs1.out.2.1, rsame.2.2.2.2.1.trans Hs1.out.2.2, by have := rsame.2.2.2.1; omega, Hws1.out, fun q hq => by rw [readS_now]; exact Hnow1.out q hq, hO6, hC6.mono (fun k hk => .inl hk), HB1.out.trans (hK6.below (B := w.heap.size) HB1.out.size (fun k hk => HFw.out k hk))⟩
            clear hr6 hC6 hK6 hO6 hq hq' hn256 rsame Hrd HO1 HB1 Hnow1
            go_wp2_with fail
            go_quiet (fail)
            go_wp2
            go_roundw
            case rel => exact ⟨j + 1, by omega, by go_num, HNx.out.drewN _⟩
            case measure => simp [intOf]; omega
          · have hj39 : j = 39 := by omega
            subst hj39
            go_wp2
            go_ret
            exact ⟨rfl, HB1.out⟩
end Go.Proofs.YthdcjepkehifoaaGreat

/- The rows of bytes that TopPages is handed. -/
namespace Go.Proofs.YthdcjepkehifoaaGreat
open Go.RowKit Go.Maps Go.Sort Go.Shelf
set_option linter.unusedVariables false
set_option maxRecDepth 20000
theorem cellsByteW : Tryz.prog.cellsOf 5 = 1 := by kernel_rfl
open Go.ChangeShapes Go.WideShapes Go.ChangeAt Go.Deep in
/-- a row of bytes that is handed in -/
theorem open_bytesW {H : Type} {enc : TypeId × Value → H} {W : World} {a : Option Addr} {len cap : Nat} {d : DataW H} {p : List MemPlace}
    (h : DataW.Trod enc Tryz.prog W 0 (fun _ => true) true 36 (.slice a len cap) d p) : ∃ l : List UInt8, l.length = len ∧ Bytes W a l ∧ l.length ≤ 9223372036854775807 := by
  obtain ⟨fuel, hf⟩ := h
  rcases open_ints Tryz.underlying36 Tryz.underlying5 cellsByteW hf with ⟨hcs, _⟩ | ⟨x, l', c', zs, hcs, _, hl, hm, hz, hx, hcell, hwz⟩
  · simp [Value.cells] at hcs
    obtain ⟨rfl, rfl, rfl⟩ := hcs
    exact ⟨[], rfl, fun i hi => by simp at hi, by simp⟩
  · simp [Value.cells] at hcs
    obtain ⟨rfl, rfl, rfl⟩ := hcs
    simp only [if_true] at hz
    have hlen : ((zs.take len).map fun z => UInt8.ofNat z.toNat).length = len := by rw [List.length_map, List.length_take]; omega
    refine ⟨(zs.take len).map fun z => UInt8.ofNat z.toNat, hlen, fun i hi => ?_, by rw [hlen]; unfold maxLen at hm; omega⟩
    obtain ⟨b, o, spot⟩ := x
    have hc := hcell i (by omega)
    have hspot : spot = none := by simpa [Addr.add] using World.cell?_spot (hcell 0 (by omega))
    subst hspot
    refine ⟨b, o, rfl, ?_⟩
    rw [addr_add] at hc
    rw [hc]
    have hi' : i < zs.length := by omega
    have hw := hwz zs[i] (List.getElem_mem _)
    have hr : 0 ≤ zs[i] ∧ zs[i] ≤ 255 := by simpa [Lit.wf, IntKind.min, IntKind.max, IntKind.signed, IntKind.bits] using hw
    simp only [List.getD, List.getElem?_eq_getElem hi', Option.getD_some, List.getElem_map, List.getElem_take]
    congr 2
    rw [UInt8.toNat_ofNat']
    omega

theorem cellsRowW : Tryz.prog.cellsOf 36 = 1 := by kernel_rfl
open Go.ChangeShapes Go.WideShapes Go.ChangeAt Go.Deep in
/-- a row of rows of bytes that is handed in -/
theorem open_rowsW {H : Type} {enc : TypeId × Value → H} {W : World} {a : Option Addr} {len cap : Nat} {d : DataW H} {p : List MemPlace}
    (h : DataW.Trod enc Tryz.prog W 0 (fun _ => true) true 46 (.slice a len cap) d p) : ∃ l : List (List UInt8), l.length = len ∧ RowsIn W a l ∧ l.length ≤ 9223372036854775807 := by
  obtain ⟨fuel, hf⟩ := h
  rcases open_slice1 Tryz.underlying46 cellsRowW hf with ⟨hcs, _⟩ | ⟨x, l', c', m, n, V, D, Pl, hcs, hb, hl, hm, hmm, _, hx⟩
  · simp [Value.cells] at hcs
    obtain ⟨rfl, rfl, rfl⟩ := hcs
    exact ⟨[], rfl, fun i hi => by simp at hi, by simp⟩
  · simp [Value.cells] at hcs
    obtain ⟨rfl, rfl, rfl⟩ := hcs
    simp only [if_true] at hmm
    have each : ∀ i, i < len → ∃ q : List UInt8, ∃ b o sa sc, x = ⟨b, o, none⟩ ∧ W.cell? ⟨b, o + i, none⟩ = some (.slice sa q.length sc) ∧ Bytes W sa q ∧ q.length ≤ 9223372036854775807 := by
      intro i hi
      obtain ⟨h1, h2⟩ := hx i (by omega)
      obtain ⟨sa, sl, sc, hV⟩ : ∃ sa sl sc, V i = .slice sa sl sc := by
        rcases open_ints Tryz.underlying36 Tryz.underlying5 cellsByteW h2 with ⟨e, _⟩ | ⟨x', l', c', zs, e, _⟩
        · exact ⟨_, _, _, (List.cons.inj e).1⟩
        · exact ⟨_, _, _, (List.cons.inj e).1⟩
      rw [hV] at h1 h2
      obtain ⟨q, hq, hby, hql⟩ := open_bytesW (a := sa) (len := sl) (cap := sc) (d := D i) (p := Pl i) ⟨n, h2⟩
      subst hq
      obtain ⟨b, o, spot⟩ := x
      have hspot : spot = none := by simpa [Addr.add] using World.cell?_spot (hx 0 (by omega)).1
      subst hspot
      rw [addr_add] at h1
      exact ⟨q, b, o, sa, sc, rfl, h1, hby, hql⟩
    obtain ⟨q, hq⟩ := choose_lt each
    refine ⟨(List.range len).map q, by simp, fun i hi => ?_, by simp; unfold maxLen at hm; omega⟩
    have hi' : i < len := by simpa using hi
    obtain ⟨b, o, sa, sc, e, h0, h1, h2⟩ := hq i hi'
    exact ⟨b, o, sa, sc, by rw [e], by simpa using h0, by simpa using h1, by simpa using h2⟩
end Go.Proofs.YthdcjepkehifoaaGreat
