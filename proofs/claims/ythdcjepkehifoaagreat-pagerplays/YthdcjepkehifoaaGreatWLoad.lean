/- load of package wal, where the disk is a log's, by a contract. -/
import Derived.Test.YthdcjepkehifoaaGreatWNote

namespace Go.Proofs.YthdcjepkehifoaaGreat
open Go.RowKit Go.Maps
set_option linter.unusedVariables false
set_option maxRecDepth 20000

/-- what a log's own block says is used -/
def usedIn (l : Nat) (w : World) : Nat := match w.cell? ⟨l, 1, none⟩ with | some (.int _ x) => x.toNat | _ => 0
theorem LogMem.usedIn {w : World} {B l d g cap mb n : Nat} {v : Value} {S G U : Nat} {pl : Nat → Option Nat} {ps : List (List UInt8)} {ch : List (Nat × List UInt8)} (h : LogMem w B l d g cap mb n v S G U pl ps ch) : Go.Proofs.YthdcjepkehifoaaGreat.usedIn l w = U := by
  unfold Go.Proofs.YthdcjepkehifoaaGreat.usedIn
  rw [h.c1]
  simp

theorem hgood {P Q : Nat} {ns : List Nat} (h : GoodIx P ns) (hQ : P ≤ Q) : GoodIx Q ns := ⟨h.pos, h.few, h.up, fun n hn => Nat.lt_of_lt_of_le (h.lt n hn) hQ⟩
theorem parseIndex_good {P : Nat} {ns : List Nat} (hg : GoodIx P ns) (hP : P ≤ 65536) (b o cap : Nat) (w : World) (hB : Bytes w (some ⟨b, o, none⟩) (indexB ns)) (hcap : 256 ≤ cap) :
    Calls Tryz.prog 138 #[.slice (some ⟨b, o, none⟩) 256 cap] w fun e w' => ∃ g c, e = .returned (.tuple #[.slice (some ⟨g, 0, none⟩) ns.length c, .bool true]) ∧ w'.ownsRow w.heap.size 3 1 (.slice (some ⟨g, 0, none⟩) ns.length c) ns.length (nums ns) ∧ Below w.heap.size w w' := by
  refine (parseIndex_any (indexB ns) (indexB_length ns (by have := hg.few; omega)) b o cap w hB hcap).mono ?_
  rintro e w' (⟨ns', g, c, rfl, heq, hg', ho, hb⟩ | ⟨hno, _⟩)
  · obtain rfl := indexB_inj (Nat.le_refl _) (hgood hg hP) hg' heq
    exact ⟨g, c, rfl, ho, hb⟩
  · exact absurd rfl (hno _ (hgood hg hP))
theorem nums_of_row {w : World} {B g c : Nat} {l : List Nat} (h : w.ownsRow B 3 1 (.slice (some ⟨g, 0, none⟩) l.length c) l.length (nums l)) : Nums w (some ⟨g, 0, none⟩) l := fun i hi => by
  refine ⟨g, 0, rfl, ?_⟩
  rw [Nat.zero_add, h.cellAt i (by omega), nums_get l i hi]
theorem at_int {w : World} {B d g cap : Nat} {v : Value} {ps : List (List UInt8)} {ch : List (Nat × List UInt8)} (h : DiskAt w B d g cap v ps ch) (S : Nat) (n : Nat) (x : List UInt8) (hx : ps[n]? = some x) (nI : Int) (hn : nI = (n : Int)) :
    Calls Tryz.prog 133 #[.agg #[.pointer (some ⟨d, 0, none⟩), .int .i64 (S : Int)], .int .i64 nI] w (GotPage x w) := by
  subst hn
  exact at_some h S n x hx
theorem LogMem.setHead {w : World} {B l d g cap mb n : Nat} {v : Value} {S G U : Nat} {pl : Nat → Option Nat} {ps : List (List UInt8)} {ch : List (Nat × List UInt8)} (h : LogMem w B l d g cap mb n v S G U pl ps ch) (G' U' : Nat) :
    LogMem ((w.setCell ⟨l, 0, none⟩ (.int .i64 (G' : Int))).setCell ⟨l, 1, none⟩ (.int .i64 (U' : Int))) B l d g cap mb n v S G' U' pl ps ch ∧ Out (fun k => k = l) w ((w.setCell ⟨l, 0, none⟩ (.int .i64 (G' : Int))).setCell ⟨l, 1, none⟩ (.int .i64 (U' : Int))) := by
  have o : ∀ k, k ≠ l → ((w.setCell ⟨l, 0, none⟩ (.int .i64 (G' : Int))).setCell ⟨l, 1, none⟩ (.int .i64 (U' : Int))).heap[k]? = w.heap[k]? := fun k hk => (heap_setCell_other _ _ _ _ hk).trans (heap_setCell_other _ _ _ _ hk)
  have s : ((w.setCell ⟨l, 0, none⟩ (.int .i64 (G' : Int))).setCell ⟨l, 1, none⟩ (.int .i64 (U' : Int))).heap.size = w.heap.size := by simp [World.setCell]
  refine ⟨⟨?_, h.disk.keep (o d (Ne.symm h.ld)) (o g (Ne.symm h.lg)) (fun k e => o k (fun e' => h.lv (by rw [e, e']))), h.map.keep (o mb h.mne.1), h.bl, h.bm, h.ld, h.lg, h.lv⟩, ⟨rfl, rfl, rfl, Nat.le_of_eq s.symm, fun k hk hp => o k hp⟩⟩
  rw [heap_setCell_same _ l 1 _ _ (.int .i64 (U' : Int)) (heap_setCell_same w l 0 _ _ (.int .i64 (G' : Int)) h.obj)]
  simp

set_option maxHeartbeats 1600000 in
theorem load_ok' {w : World} {B l d g cap mb : Nat} {v : Value} {S G P : Nat} {gs : List (List Nat)} {ps : List (List UInt8)} {ch : List (Nat × List UInt8)} (h : LogMem w B l d g cap mb 0 v S 0 0 (fun _ => none) ps ch) (hi : LogInv ps S G gs P) (hG : G < 9223372036854775808) :
    Calls Tryz.prog 89 #[.pointer (some ⟨l, 0, none⟩)] w fun e w' => e = .returned (.bool true) ∧ ∃ n, n ≤ usedOf gs ∧ LogMem w' B l d g cap mb n v S G (usedOf gs) (plOf gs) ps ch ∧ Out (fun k => k = l ∨ k = mb) w w' := by
  obtain ⟨b0, hb0, hhead⟩ := hi.head
  have hlen := hi.len
  have hmost := hi.most
  have hused := hi.used
  have H := hid h
  have c2 := h.c2
  have c3 := h.c3
  have Hat := hid (at_some h.disk S 0 b0 hb0)
  have hb256 : b0.length = 256 := hi.full _ (List.mem_of_getElem? hb0)
  have Hi := hid hi
  have Hhead := hid hhead
  have Hb256 := hid hb256
  have hltl := (h.lts l (.inl rfl)).2
  clear h hi hhead hb256 hb0
  generalize hUh : usedOf gs = Uh at *
  have HUh := hid hUh
  clear hUh
  go_enter Tryz.func89, Tryz.ntmps89
  go_wp2_with (first | (go_at_call 133; refine Hat.out.mono ?_; rintro e w1 ⟨g1, c1', rfl, ho1, hc1, hb1⟩; have Hph := hid (parseHead_any b0 Hb256.out g1 0 c1' w1 (bytes_of_row ho1 Hb256.out) hc1); have Hb1 := hid hb1; clear ho1 hb1) | (go_at_call 137; refine Hph.out.mono ?_; rintro e w2 ⟨G2, U2, ok, rfl, hok, hb2⟩; obtain ⟨rfl, hin⟩ : ok = true ∧ HeadIn b0 G2 U2 := (hok.resolve_right (fun h => h.2 _ _ Hhead.out)); obtain ⟨rfl, rfl⟩ := hin.uniq Hhead.out; have Hb2 := hid (Hb1.out.trans (hb2.mono Hb1.out.size)); clear hok hb2 hin))
  have Hb3 := hid (Hb2.out.alloc Hb2.out.size (.cells #[.int .i64 (G2 : Int), .int .i64 (U2 : Int)] 96))
  have Hx := hid (heap_alloc_new w2 (.cells #[.int .i64 (G2 : Int), .int .i64 (U2 : Int)] 96))
  have hxs : w.heap.size ≤ w2.heap.size := Hb2.out.size
  generalize w2.alloc (.cells #[.int .i64 (G2 : Int), .int .i64 (U2 : Int)] 96) = W at *
  generalize w2.heap.size = X at *
  have x1 := cell_of_row _ _ 1 _ _ _ Hx.out
  have H3 := hid (H.out.below Hb3.out)
  have k3 := H3.out.c3
  have d1 : ¬ (S : Int) < (U2 : Int) := by omega
  clear c2 c3 Hat
  go_quiet (fail)
  go_wp2
  clear x1 k3
  go_loopw [5, 6] (fun _ _ wr => ∃ pre suf, gs = pre ++ suf ∧ (∃ n, n ≤ usedOf pre ∧ LogMem wr B l d g cap mb n v S 0 (usedOf pre) (plOf pre) ps ch) ∧ wr.heap[X]? = some (.cells #[.int .i64 (G2 : Int), .int .i64 (U2 : Int)] 96 (0, 0)) ∧ Out (fun k => k = l ∨ k = mb) w wr) (fun _ _ wr => U2 - usedIn l wr)
  case atStart =>
    exact ⟨[], gs, rfl, ⟨0, Nat.zero_le _, H3.out.keep (fun _ _ => rfl)⟩, Hx.out, (Out.of_below Hb3.out).trans (Out.of_below (P := fun _ => False) (below_drewN _ _ _)) (fun _ _ e => e.elim)⟩
  case round =>
    obtain ⟨pre, suf, hgs, ⟨n, hn, hM⟩, hX, ho⟩ := hrel
    have HM := hid hM
    have HX := hid hX
    have Ho := hid ho
    have Hgs := hid hgs
    have hup : usedOf pre ≤ U2 := by rw [← HUh.out, hgs, usedOf_append]; omega
    have e1 := hM.c1
    have x1 := cell_of_row _ _ 1 _ _ _ hX
    clear hM hX ho hgs Hx H3 Hb3 Hb1 Hb2
    cases suf with
    | nil =>
      have Heq : Hid (usedOf pre = U2 ∧ gs = pre) := by
        have h := Hgs.out
        rw [List.append_nil] at h
        exact ⟨by rw [← HUh.out, h], h⟩
      have d2 : ¬ ((usedOf pre : Nat) : Int) < (U2 : Int) := by have := Heq.out.1; omega
      have x0 := cell_of_row _ _ 0 _ _ _ HX.out
      have e0 := HM.out.c0
      have z0 := HM.out.z 0
      have z1 := HM.out.z 1
      go_wp2
      go_quiet (fail)
      go_wp2
      go_ret
      refine ⟨rfl, n, by have := Heq.out.1; omega, ?_, ?_⟩
      · rw [Heq.out.2]
        exact ((HM.out.keep (w' := wr.drewN nq) (fun _ _ => rfl)).setHead G2 U2).1
      · exact Ho.out.trans (Out.trans (Out.of_below (P := fun k => k = l) (below_drewN _ _ nq)) ((HM.out.keep (w' := wr.drewN nq) (fun _ _ => rfl)).setHead G2 U2).2 (fun _ _ e => e)) (fun _ _ e => .inl e)
    | cons ns suf =>
      have Hnx : Hid (ps[1 + usedOf pre]? = some (indexB ns) ∧ GoodIx P ns ∧ usedOf pre + ns.length + 1 ≤ U2) := by
        have hgr := Hi.out.groups
        have hg := Hgs.out
        rw [hg] at hgr
        have h3 := hgr.next
        refine ⟨h3.1, h3.2.1, ?_⟩
        rw [← HUh.out, hg, usedOf_append]
        have : usedOf (ns :: suf) = ns.length + 1 + usedOf suf := by
          have := usedOf_append [ns] suf
          have e : usedOf [ns] = ns.length + 1 := by have := usedOf_snoc [] ns; rw [List.nil_append, usedOf_nil] at this; omega
          rw [e] at this
          exact this
        omega
      have d2 : ((usedOf pre : Nat) : Int) < (U2 : Int) := by have := Hnx.out.2.2; omega
      go_wp2
      go_quiet (fail)
      go_wp2
      clear e1 x1 d2
      have HV := hid (HM.out.keep (w' := wr.drewN nq) (fun _ _ => rfl))
      have HXV : Hid ((wr.drewN nq).heap[X]? = some (.cells #[.int .i64 (G2 : Int), .int .i64 (U2 : Int)] 96 (0, 0))) := HX.out
      have HoV := hid (Ho.out.trans (Out.of_below (P := fun _ => False) (below_drewN _ wr nq)) (fun _ _ e => e.elim))
      have Hus := hid HM.out.usedIn
      clear HM HX Ho
      generalize wr.drewN nq = V at *
      have k2 := HV.out.c2
      have k3 := HV.out.c3
      have Hnx1 := hid (next_any (HV.out.keep (w' := V.drew) (fun _ _ => rfl)) (by omega))
      have Hat1 : Hid (∀ nI, nI = ((1 + usedOf pre : Nat) : Int) → Calls Tryz.prog 133 #[.agg #[.pointer (some ⟨d, 0, none⟩), .int .i64 (S : Int)], .int .i64 nI] V.drew (GotPage (indexB ns) V.drew)) := fun nI hn => at_int (HV.out.keep (w' := V.drew) (fun _ _ => rfl)).disk S _ _ Hnx.out.1 nI hn
      have Hl256 := hid (indexB_length ns (by have := Hnx.out.2.1.few; omega))
      go_region_held3 (fun w9 => w9.cell? ⟨l, 2, none⟩ = some (.pointer (some ⟨d, 0, none⟩)) ∧ w9.cell? ⟨l, 3, none⟩ = some (.int .i64 (S : Int))) (first | exact ⟨k2, k3⟩ | exact q5.out | exact q4.out)
        (first
          | ((go_at_call 139; refine Hnx1.out.mono ?_; rintro e w3 ⟨rfl, rfl⟩))
          | ((go_at_call 133; refine (Hat1.out _ (by omega)).mono ?_; rintro e w4 ⟨g4, c4, rfl, ho4, hc4, hb4'⟩; have hb4 := undrew1 hb4'; have H4 := hid (HV.out.below hb4); have q4 := hid (And.intro H4.out.c2 H4.out.c3); have Hpi := hid (parseIndex_good Hnx.out.2.1 (by omega) g4 0 c4 w4 (bytes_of_row ho4 Hl256.out) hc4); have HB4 := hid hb4; clear ho4 hb4 hb4'))
          | ((go_at_call 138; refine Hpi.out.mono ?_; rintro e w5 ⟨g5, c5, rfl, ho5, hb5⟩; have H5 := hid (H4.out.below hb5); have q5 := hid (And.intro H5.out.c2 H5.out.c3); have HB5 := hid (HB4.out.trans (hb5.mono HB4.out.size)); have Ho5 := hid ho5; clear ho5 hb5)))
      clear k2 k3 q4 q5 Hnx1 Hat1 Hpi H4
      go_wp2
      have hXlt : X < V.heap.size := (Array.getElem?_eq_some_iff.1 HXV.out).1
      have HX5 := hid ((HB5.out.block X hXlt).trans HXV.out)
      have x1 := cell_of_row _ _ 1 _ _ _ HX5.out
      have u1 := H5.out.c1
      obtain ⟨m, hm⟩ : ∃ m, ns[ns.length - 1]? = some m := ⟨_, List.getElem?_eq_getElem (by have := Hnx.out.2.1.pos; omega)⟩
      have hmP : m < P := Hnx.out.2.1.lt m (List.mem_of_getElem? hm)
      have hg5 : g5 < w5.heap.size ∧ V.heap.size ≤ g5 := ⟨(Ho5.out.lt g5 rfl).2, Nat.le_trans HB4.out.size (Ho5.out.lt g5 rfl).1⟩
      have Hg5 := hid hg5
      have Hft : Hid (∀ room : Int, ((ns.length : Int) + 1 ≤ room) → Calls Tryz.prog 140 #[.pointer (some ⟨l, 0, none⟩), .slice (some ⟨g5, 0, none⟩) ns.length c5, .int .i64 room] w5.drew fun e w' => e = .returned (.bool true) ∧ Below w5.heap.size w5 w') := fun room hr => by
        have h := fits_ok (H5.out.keep (w' := w5.drew) (fun _ _ => rfl)) P hlen hmost ns g5 0 c5 m (nums_of_row (own_keep (w' := w5.drew) Ho5.out (fun _ _ => rfl))) ⟨Hnx.out.2.1.pos, Hnx.out.2.1.few⟩ hm hmP room
        rw [decide_eq_true hr] at h
        exact h.mono fun e w' hh => ⟨hh.1, undrew1 hh.2⟩
      have Hroom : Hid ((ns.length : Int) + 1 ≤ (U2 : Int) - ((usedOf pre : Nat) : Int)) := by have := Hnx.out.2.2; show _ ≤ _; omega
      have f1 : IntKind.i64.wrap ((U2 : Int) - ((usedOf pre : Nat) : Int)) = (U2 : Int) - ((usedOf pre : Nat) : Int) := by rw [IntKind.wrap_i64]; omega
      clear hm hg5 HB4
      go_region_held3 (fun w9 => w9.cell? ⟨X, 1, none⟩ = some (.int .i64 (U2 : Int)) ∧ w9.cell? ⟨l, 1, none⟩ = some (.int .i64 ((usedOf pre : Nat) : Int))) (first | exact ⟨x1, u1⟩ | exact q6.out)
        (first
          | ((go_at_call 140; refine (Hft.out _ Hroom.out).mono ?_; rintro e w6 ⟨rfl, hb6⟩; have H6 := hid (H5.out.below hb6); have q6 := hid (And.intro ((hb6.cell (World.block_lt_of_cell? _ _ x1)).trans x1) H6.out.c1); have HB6 := hid hb6; clear hb6)))
      clear x1 u1 q6 Hft
      have Hnums6 := hid ((nums_of_row Ho5.out).below HB6.out)
      have hne5 : g5 ≠ l ∧ g5 ≠ mb := by
        have h1 := (HV.out.lts l (.inl rfl)).2
        have h2 := (HV.out.lts mb (.inr (.inr (.inr (.inl rfl))))).2
        have h3 := Hg5.out.2
        omega
      have Hnt := hid (note_any H6.out ns g5 0 c5 Hnums6.out Hnx.out.2.1.nodup ⟨Hnx.out.2.1.pos, Hnx.out.2.1.few⟩ (fun x hx => by have := Hnx.out.2.1.lt x hx; omega) hne5 (by omega) (by omega))
      have HX6 := hid ((HB6.out.block X (Array.getElem?_eq_some_iff.1 HX5.out).1).trans HX5.out)
      have hXne : X ≠ l ∧ X ≠ mb := by
        have h1 := HV.out.obj
        obtain ⟨es, clock, h2⟩ := HV.out.map.isMap
        refine ⟨?_, ?_⟩
        · rintro rfl
          rw [HXV.out] at h1
          cases h1
        · rintro rfl
          rw [HXV.out] at h2
          cases h2
      have HXne := hid hXne
      clear hne5 hXne
      go_wp2_with (go_at_call 141; refine Hnt.out.mono ?_; rintro e w7 ⟨rfl, hM7, ho7⟩; have HM7 := hid hM7; have Ho7 := hid ho7; clear hM7 ho7)
      go_roundw
      case rel =>
        refine ⟨pre ++ [ns], suf, by rw [Hgs.out]; simp, ⟨n + ns.length, by rw [usedOf_snoc]; omega, by rw [usedOf_snoc, plOf_snoc]; exact HM7.out⟩, ?_, ?_⟩
        · exact (Ho7.out.block X (Array.getElem?_eq_some_iff.1 HX6.out).1 (fun h => h.elim HXne.out.1 HXne.out.2)).trans HX6.out
        · exact HoV.out.trans (Out.trans (Out.of_below (P := fun k => k = l ∨ k = mb) (HB5.out.trans (HB6.out.mono HB5.out.size))) Ho7.out (fun _ _ e => e)) (fun _ _ e => e)
      case measure =>
        rw [HM7.out.usedIn, Hus.out]
        have := Hnx.out.2.2
        omega
end Go.Proofs.YthdcjepkehifoaaGreat
