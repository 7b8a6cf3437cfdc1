/- YthdcjepkehifoaaGreatWBr1 + YthdcjepkehifoaaGreatWBr2 -/
import Derived.Test.YthdcjepkehifoaaGreatWPlays
/- load and Open of package wal over a disk that is no log. -/
namespace Go.Proofs.YthdcjepkehifoaaGreat
open Go.RowKit Go.Maps
set_option linter.unusedVariables false
set_option maxRecDepth 20000

theorem GroupsAt.pref {ps : List (List UInt8)} {P : Nat} (hP : P ≤ 65536) {hs : List (List Nat)} (h : GroupsAt ps P hs) {gs : List (List Nat)} (h' : GroupsAt ps P gs) (hlt : usedOf hs ≤ usedOf gs) : ∃ rest, gs = hs ++ rest := by
  revert h hlt
  refine snoc_ind (p := fun hs => GroupsAt ps P hs → usedOf hs ≤ usedOf gs → ∃ rest, gs = hs ++ rest) ?_ ?_ hs
  · intro _ _
    exact ⟨gs, rfl⟩
  · intro hs ns ih h hlt
    rw [usedOf_snoc] at hlt
    obtain ⟨h1, h2, h3⟩ := h.inv
    obtain ⟨rest, e⟩ := ih h1 (by omega)
    cases rest with
    | nil =>
      rw [List.append_nil] at e
      rw [e] at hlt
      omega
    | cons ms rest =>
      rw [e] at h'
      obtain ⟨g1, g2, _⟩ := h'.next
      rw [h2] at g1
      have := indexB_inj hP h3 g2 (Option.some.inj g1)
      exact ⟨rest, by rw [e, this]; simp⟩
/-- what parseIndex tells, its flag a letter -/
def IxP (x : List UInt8) (w : World) (e : Ending) (w' : World) : Prop :=
  ∃ (v : Value) (ok : Bool), e = .returned (.tuple #[v, .bool ok]) ∧ Below w.heap.size w w' ∧ ((ok = true ∧ ∃ ns g c, v = .slice (some ⟨g, 0, none⟩) ns.length c ∧ x = indexB ns ∧ GoodIx 65536 ns ∧ w'.ownsRow w.heap.size 3 1 (.slice (some ⟨g, 0, none⟩) ns.length c) ns.length (nums ns)) ∨ (ok = false ∧ ∀ ns, GoodIx 65536 ns → x ≠ indexB ns))
theorem parseIndex_p (x : List UInt8) (hl : x.length = 256) (b o cap : Nat) (w : World) (hB : Bytes w (some ⟨b, o, none⟩) x) (hcap : 256 ≤ cap) :
    Calls Tryz.prog 138 #[.slice (some ⟨b, o, none⟩) 256 cap] w (IxP x w) := by
  refine (parseIndex_any x hl b o cap w hB hcap).mono ?_
  rintro e w' (⟨ns, g, c, rfl, h1, h2, h3, h4⟩ | ⟨h1, v, rfl, h2⟩)
  · exact ⟨_, true, rfl, h4, .inl ⟨rfl, ns, g, c, rfl, h1, h2, h3⟩⟩
  · exact ⟨v, false, rfl, h2, .inr ⟨rfl, h1⟩⟩
theorem good_last {P : Nat} {ns : List Nat} (h : GoodIx 65536 ns) {m : Nat} (hm : ns[ns.length - 1]? = some m) (hP : m < P) : GoodIx P ns := by
  refine ⟨h.pos, h.few, h.up, fun n hn => ?_⟩
  obtain ⟨i, hi, rfl⟩ := List.getElem_of_mem hn
  have hl : ns.length - 1 < ns.length := by have := h.pos; omega
  rw [List.getElem?_eq_getElem hl] at hm
  have e := Option.some.inj hm
  rcases (show i = ns.length - 1 ∨ i < ns.length - 1 by omega) with rfl | hlt
  · omega
  · have := List.pairwise_iff_getElem.1 h.up i (ns.length - 1) hi hl hlt
    omega

set_option maxHeartbeats 3200000 in
theorem load_no {w : World} {B l d g cap mb : Nat} {v : Value} {S P : Nat} {ps : List (List UInt8)} {ch : List (Nat × List UInt8)} (h : LogMem w B l d g cap mb 0 v S 0 0 (fun _ => none) ps ch) (hlen : ps.length = S + 1 + P) (htwo : 2 ≤ S) (hone : 1 ≤ P) (hmost : ps.length ≤ 1024) (hfull : ∀ p ∈ ps, p.length = 256) (hno : ∀ G gs, ¬ LogInv ps S G gs P) :
    Calls Tryz.prog 89 #[.pointer (some ⟨l, 0, none⟩)] w fun e w' => e = .returned (.bool false) ∧ Out (fun k => k = l ∨ k = mb) w w' := by
  obtain ⟨b0, hb0⟩ : ∃ b0, ps[0]? = some b0 := ⟨_, List.getElem?_eq_getElem (by omega)⟩
  have H := hid h
  have c2 := h.c2
  have c3 := h.c3
  have Hat := hid (at_some h.disk S 0 b0 hb0)
  have Hb256 := hid (hfull _ (List.mem_of_getElem? hb0))
  have Hinv : Hid (∀ G gs, HeadIn b0 G (usedOf gs) → usedOf gs ≤ S → GroupsAt ps P gs → False) := fun G gs h1 h2 h3 => hno G gs ⟨hlen, htwo, hone, hmost, hfull, ⟨b0, hb0, h1⟩, h2, h3⟩
  have Hfull := hid hfull
  have hltl := (h.lts l (.inl rfl)).2
  clear h hno hb0 hfull
  go_enter Tryz.func89, Tryz.ntmps89
  go_wp2_with (first | (go_at_call 133; refine Hat.out.mono ?_; rintro e w1 ⟨g1, c1', rfl, ho1, hc1, hb1⟩; have Hph := hid (parseHead_any b0 Hb256.out g1 0 c1' w1 (bytes_of_row ho1 Hb256.out) hc1); have Hb1 := hid hb1; clear ho1 hb1) | (go_at_call 137; refine Hph.out.mono ?_; rintro e w2 ⟨G2, U2, ok, rfl, hok, hb2⟩; have Hok := hid hok; have Hb2 := hid (Hb1.out.trans (hb2.mono Hb1.out.size)); clear hok hb2))
  have Hb3 := hid (Hb2.out.alloc Hb2.out.size (.cells #[.int .i64 (G2 : Int), .int .i64 (U2 : Int)] 96))
  have Hx := hid (heap_alloc_new w2 (.cells #[.int .i64 (G2 : Int), .int .i64 (U2 : Int)] 96))
  have hxs : w.heap.size ≤ w2.heap.size := Hb2.out.size
  generalize w2.alloc (.cells #[.int .i64 (G2 : Int), .int .i64 (U2 : Int)] 96) = W at *
  generalize w2.heap.size = X at *
  have x1 := cell_of_row _ _ 1 _ _ _ Hx.out
  have H3 := hid (H.out.below Hb3.out)
  have k3 := H3.out.c3
  clear c2 c3 Hat
  rcases (show (ok = false) ∨ (ok = true ∧ (S : Int) < (U2 : Int) ∧ HeadIn b0 G2 U2) ∨ (ok = true ∧ ¬ (S : Int) < (U2 : Int) ∧ HeadIn b0 G2 U2) by
    rcases Hok.out with ⟨h1, h2⟩ | ⟨h1, _⟩
    · by_cases h : (S : Int) < (U2 : Int)
      · exact .inr (.inl ⟨h1, h, h2⟩)
      · exact .inr (.inr ⟨h1, h, h2⟩)
    · exact .inl h1) with rfl | ⟨rfl, d1, _⟩ | ⟨rfl, d1, hin⟩
  · go_quiet (fail)
    go_wp2
    go_ret
    exact ⟨rfl, (Out.of_below Hb3.out).on2 (below_drewN _ _ _)⟩
  · go_quiet (fail)
    go_wp2
    go_ret
    exact ⟨rfl, (Out.of_below Hb3.out).on2 (below_drewN _ _ _)⟩
  have Hin := hid hin
  have hUS : U2 ≤ S := by omega
  clear hin Hok
  go_quiet (fail)
  go_wp2
  clear x1 k3
  go_loopw [5, 6] (fun _ _ wr => ∃ pre, GroupsAt ps P pre ∧ usedOf pre ≤ U2 ∧ (∃ n, n ≤ usedOf pre ∧ LogMem wr B l d g cap mb n v S 0 (usedOf pre) (plOf pre) ps ch) ∧ wr.heap[X]? = some (.cells #[.int .i64 (G2 : Int), .int .i64 (U2 : Int)] 96 (0, 0)) ∧ Out (fun k => k = l ∨ k = mb) w wr) (fun _ _ wr => U2 - usedIn l wr)
  case atStart =>
    exact ⟨[], .nil, Nat.zero_le _, ⟨0, Nat.zero_le _, H3.out.keep (fun _ _ => rfl)⟩, Hx.out, (Out.of_below Hb3.out).trans (Out.of_below (P := fun _ => False) (below_drewN _ _ _)) (fun _ _ e => e.elim)⟩
  case round =>
    obtain ⟨pre, hpre, hup, ⟨n, hn, hM⟩, hX, ho⟩ := hrel
    have HM := hid hM
    have HX := hid hX
    have Ho := hid ho
    have Hpre := hid hpre
    have e1 := hM.c1
    have x1 := cell_of_row _ _ 1 _ _ _ hX
    clear hM hX ho hpre Hx H3 Hb3 Hb1 Hb2
    rcases (show usedOf pre = U2 ∨ usedOf pre < U2 by omega) with heq | hlt
    · exact (Hinv.out G2 pre (by rw [heq]; exact Hin.out) (by omega) Hpre.out).elim
    have d2 : ((usedOf pre : Nat) : Int) < (U2 : Int) := by omega
    obtain ⟨x, hx⟩ : ∃ x, ps[1 + usedOf pre]? = some x := ⟨_, List.getElem?_eq_getElem (by omega)⟩
    have Hx1 := hid hx
    have Hl256 := hid (Hfull.out x (List.mem_of_getElem? hx))
    clear hx
    go_wp2
    go_quiet (fail)
    go_wp2
    clear e1 x1 d2
    have HV := hid (HM.out.keep (w' := wr.drewN nq) (fun _ _ => rfl))
    have HXV : Hid ((wr.drewN nq).heap[X]? = some (.cells #[.int .i64 (G2 : Int), .int .i64 (U2 : Int)] 96 (0, 0))) := HX.out
    have HoV := hid (Ho.out.trans (Out.of_below (P := fun _ => False) (below_drewN _ wr nq)) (fun _ _ e => e.elim))
    have Hus := hid HM.out.usedIn
    clear HM HX Ho
    generalize wr.drewN nq = V at *
    have k2 := HV.out.c2
    have k3 := HV.out.c3
    have Hnx1 := hid (next_any (HV.out.keep (w' := V.drew) (fun _ _ => rfl)) (by omega))
    have Hat1 : Hid (∀ nI, nI = ((1 + usedOf pre : Nat) : Int) → Calls Tryz.prog 133 #[.agg #[.pointer (some ⟨d, 0, none⟩), .int .i64 (S : Int)], .int .i64 nI] V.drew (GotPage x V.drew)) := fun nI hn => at_int (HV.out.keep (w' := V.drew) (fun _ _ => rfl)).disk S _ _ Hx1.out nI hn
    go_region_held3 (fun w9 => w9.cell? ⟨l, 2, none⟩ = some (.pointer (some ⟨d, 0, none⟩)) ∧ w9.cell? ⟨l, 3, none⟩ = some (.int .i64 (S : Int))) (first | exact ⟨k2, k3⟩ | exact q5.out | exact q4.out)
      (first
        | ((go_at_call 139; refine Hnx1.out.mono ?_; rintro e w3 ⟨rfl, rfl⟩))
        | ((go_at_call 133; refine (Hat1.out _ (by omega)).mono ?_; rintro e w4 ⟨g4, c4, rfl, ho4, hc4, hb4'⟩; have hb4 := undrew1 hb4'; have H4 := hid (HV.out.below hb4); have q4 := hid (And.intro H4.out.c2 H4.out.c3); have Hpi := hid (parseIndex_p x Hl256.out g4 0 c4 w4 (bytes_of_row ho4 Hl256.out) hc4); have HB4 := hid hb4; clear ho4 hb4 hb4'))
        | ((go_at_call 138; refine Hpi.out.mono ?_; rintro e w5 ⟨iv, iok, rfl, hb5, hix⟩; have H5 := hid (H4.out.below hb5); have q5 := hid (And.intro H5.out.c2 H5.out.c3); have HB5 := hid (HB4.out.trans (hb5.mono HB4.out.size)); have Hix := hid hix; clear hix hb5)))
    clear k2 k3 q4 q5 Hnx1 Hat1 Hpi H4
    go_wp2
    have hXlt : X < V.heap.size := (Array.getElem?_eq_some_iff.1 HXV.out).1
    have HX5 := hid ((HB5.out.block X hXlt).trans HXV.out)
    have x1 := cell_of_row _ _ 1 _ _ _ HX5.out
    have u1 := H5.out.c1
    have f1 : IntKind.i64.wrap ((U2 : Int) - ((usedOf pre : Nat) : Int)) = (U2 : Int) - ((usedOf pre : Nat) : Int) := by rw [IntKind.wrap_i64]; omega
    rcases Hix.out with ⟨rfl, ns, g5, c5, rfl, hxe, hg5, ho5⟩ | ⟨rfl, _⟩
    · have Ho5 := hid ho5
      have Hg := hid hg5
      have Hxe := hid hxe
      obtain ⟨m, hm⟩ : ∃ m, ns[ns.length - 1]? = some m := ⟨_, List.getElem?_eq_getElem (by have := hg5.pos; omega)⟩
      have hnum := nums_of_row (own_keep (w' := w5.drew) ho5 (fun _ _ => rfl))
      by_cases hgood : m < P ∧ (ns.length : Int) + 1 ≤ (U2 : Int) - ((usedOf pre : Nat) : Int)
      · have hgP := good_last hg5 hm hgood.1
        have Hft : Hid (∀ room : Int, ((ns.length : Int) + 1 ≤ room) → Calls Tryz.prog 140 #[.pointer (some ⟨l, 0, none⟩), .slice (some ⟨g5, 0, none⟩) ns.length c5, .int .i64 room] w5.drew fun e w' => e = .returned (.bool true) ∧ Below w5.heap.size w5 w') := fun room hr => by
          have h := fits_ok (H5.out.keep (w' := w5.drew) (fun _ _ => rfl)) P hlen hmost ns g5 0 c5 m hnum ⟨hg5.pos, hg5.few⟩ hm hgood.1 room
          rw [decide_eq_true hr] at h
          exact h.mono fun e w' hh => ⟨hh.1, undrew1 hh.2⟩
        have Hroom := hid hgood.2
        have HgP := hid hgP
        have hgl : g5 < w5.heap.size ∧ V.heap.size ≤ g5 := ⟨(ho5.lt g5 rfl).2, Nat.le_trans HB4.out.size (ho5.lt g5 rfl).1⟩
        have Hg5 := hid hgl
        have hnl := hgood.2
        clear hm HB4 hg5 hxe ho5 hnum hgood hgP hgl
        go_region_held3 (fun w9 => w9.cell? ⟨X, 1, none⟩ = some (.int .i64 (U2 : Int)) ∧ w9.cell? ⟨l, 1, none⟩ = some (.int .i64 ((usedOf pre : Nat) : Int))) (first | exact ⟨x1, u1⟩ | exact q6.out)
          (first
            | ((go_at_call 140; refine (Hft.out _ Hroom.out).mono ?_; rintro e w6 ⟨rfl, hb6⟩; have H6 := hid (H5.out.below hb6); have q6 := hid (And.intro ((hb6.cell (World.block_lt_of_cell? _ _ x1)).trans x1) H6.out.c1); have HB6 := hid hb6; clear hb6)))
        clear x1 u1 q6 Hft
        have Hnums6 := hid ((nums_of_row Ho5.out).below HB6.out)
        have hne5 : g5 ≠ l ∧ g5 ≠ mb := by
          have h1 := (HV.out.lts l (.inl rfl)).2
          have h2 := (HV.out.lts mb (.inr (.inr (.inr (.inl rfl))))).2
          have h3 := Hg5.out.2
          omega
        have Hnt := hid (note_any H6.out ns g5 0 c5 Hnums6.out HgP.out.nodup ⟨HgP.out.pos, HgP.out.few⟩ (fun x hx => by have := HgP.out.lt x hx; omega) hne5 (by omega) (by omega))
        have HX6 := hid ((HB6.out.block X (Array.getElem?_eq_some_iff.1 HX5.out).1).trans HX5.out)
        have hXne : X ≠ l ∧ X ≠ mb := by
          have h1 := HV.out.obj
          obtain ⟨es, clock, h2⟩ := HV.out.map.isMap
          refine ⟨?_, ?_⟩
          · rintro rfl
            rw [HXV.out] at h1
            cases h1
          · rintro rfl
            rw [HXV.out] at h2
            cases h2
        have HXne := hid hXne
        clear hne5 hXne
        go_wp2_with (go_at_call 141; refine Hnt.out.mono ?_; rintro e w7 ⟨rfl, hM7, ho7⟩; have HM7 := hid hM7; have Ho7 := hid ho7; clear hM7 ho7)
        go_roundw
        case rel =>
          refine ⟨pre ++ [ns], .snoc Hpre.out (by rw [Hx1.out, Hxe.out]) HgP.out, by rw [usedOf_snoc]; omega, ⟨n + ns.length, by rw [usedOf_snoc]; omega, by rw [usedOf_snoc, plOf_snoc]; exact HM7.out⟩, ?_, ?_⟩
          · exact (Ho7.out.block X (Array.getElem?_eq_some_iff.1 HX6.out).1 (fun h => h.elim HXne.out.1 HXne.out.2)).trans HX6.out
          · exact HoV.out.trans (Out.trans (Out.of_below (P := fun k => k = l ∨ k = mb) (HB5.out.trans (HB6.out.mono HB5.out.size))) Ho7.out (fun _ _ e => e)) (fun _ _ e => e)
        case measure =>
          rw [HM7.out.usedIn, Hus.out]
          omega
      · have Hft : Hid (∀ room : Int, (room = (U2 : Int) - ((usedOf pre : Nat) : Int)) → Calls Tryz.prog 140 #[.pointer (some ⟨l, 0, none⟩), .slice (some ⟨g5, 0, none⟩) ns.length c5, .int .i64 room] w5.drew fun e w' => e = .returned (.bool false) ∧ Below w5.heap.size w5 w') := fun room hr => by
          by_cases hmP : m < P
          · have h := fits_ok (H5.out.keep (w' := w5.drew) (fun _ _ => rfl)) P hlen hmost ns g5 0 c5 m hnum ⟨hg5.pos, hg5.few⟩ hm hmP room
            rw [decide_eq_false (by rw [hr]; exact fun h => hgood ⟨hmP, h⟩)] at h
            exact h.mono fun e w' hh => ⟨hh.1, undrew1 hh.2⟩
          · exact (fits_bad (H5.out.keep (w' := w5.drew) (fun _ _ => rfl)) P hlen hmost ns g5 0 c5 m hnum ⟨hg5.pos, hg5.few⟩ hm (by omega) room).mono fun e w' hh => ⟨hh.1, undrew1 hh.2⟩
        clear hm HB4 hg5 hxe ho5 hnum hgood
        go_region_held3 (fun w9 => w9.cell? ⟨X, 1, none⟩ = some (.int .i64 (U2 : Int)) ∧ w9.cell? ⟨l, 1, none⟩ = some (.int .i64 ((usedOf pre : Nat) : Int))) (first | exact ⟨x1, u1⟩ | exact q6.out)
          (first
            | ((go_at_call 140; refine (Hft.out _ rfl).mono ?_; rintro e w6 ⟨rfl, hb6⟩; have H6 := hid (H5.out.below hb6); have q6 := hid (And.intro ((hb6.cell (World.block_lt_of_cell? _ _ x1)).trans x1) H6.out.c1); have HB6 := hid hb6; clear hb6)))
        clear x1 u1 q6 Hft
        go_wp2
        go_ret
        exact ⟨rfl, (HoV.out.on2 HB5.out).on2 HB6.out⟩
    · clear HB4
      go_quiet (fail)
      go_wp2
      go_ret
      exact ⟨rfl, (HoV.out.on2 HB5.out).on2 (below_drewN _ _ _)⟩
set_option maxHeartbeats 800000 in
theorem open_no {w : World} {B d0 g0 cap0 : Nat} {v0 : Value} {ps : List (List UInt8)} {ch : List (Nat × List UInt8)} (h : DiskAt w B d0 g0 cap0 v0 ps ch) (S P : Nat) (hlen : ps.length = S + 1 + P) (htwo : 2 ≤ S) (hone : 1 ≤ P) (hmost : ps.length ≤ 1024) (hfull : ∀ p ∈ ps, p.length = 256) (hno : ∀ G gs, ¬ LogInv ps S G gs P) (hch : ch.length ≤ 1000000) :
    Calls Tryz.prog 41 #[.pointer (some ⟨d0, 0, none⟩), .int .i64 (S : Int)] w fun e w' => e = .returned (.tuple #[.pointer none, .int .i64 15]) ∧ Below w.heap.size w w' := by
  have H := hid h
  have Hno := hid hno
  have Hfull := hid hfull
  have Hp := hid (pages_any h S (by omega) (by omega) hmost)
  rw [show (ps.length : Int) - (S : Int) - 1 = (P : Int) by omega] at Hp
  have d1 : ¬ (S : Int) < 2 := by omega
  have d2 : ¬ (P : Int) < 1 := by omega
  have hmm := @run_makeMap Tryz.prog
  have h1p : 1 ≤ ps.length := by omega
  have Hlen := hid hlen
  clear h hlen hno hfull
  go_enter Tryz.func41, Tryz.ntmps41
  go_wp2_with (fail)
  refine Hp.out.mono ?_
  rintro e w1 ⟨rfl, hb1⟩
  have H1 := hid (H.out.below hb1)
  have Hb1 := hid hb1
  clear hb1 Hp
  go_wp2_with (fail)
  refine (count_any H1.out).mono ?_
  rintro e w2 ⟨rfl, rfl⟩
  have Hcut := hid (cut_ok H1.out ch.length (Nat.le_refl _) hch h1p hmost)
  rw [undo_all] at Hcut
  go_wp2_with (fail)
  refine Hcut.out.mono ?_
  rintro e w3 ⟨d, g, cap, rfl, hD3, hb3⟩
  have HD3 := hid hD3
  have Hb3 := hid (Hb1.out.trans (hb3.mono Hb1.out.size))
  clear hD3 hb3 Hcut
  go_wp2_with (fail)
  have hs3 : w.heap.size ≤ w3.heap.size := Hb3.out.size
  have hM : LogMem ((w3.alloc (.map #[] 0)).alloc (.cells #[.int .i64 0, .int .i64 0, .pointer (some ⟨d, 0, none⟩), .int .i64 (S : Int), .map (some w3.heap.size)] 101)) w.heap.size (w3.heap.size + 1) d g cap w3.heap.size 0 (.slice none 0 0) S 0 0 (fun _ => none) ps [] := by
    have hbb : Below w3.heap.size w3 ((w3.alloc (.map #[] 0)).alloc (.cells #[.int .i64 0, .int .i64 0, .pointer (some ⟨d, 0, none⟩), .int .i64 (S : Int), .map (some w3.heap.size)] 101)) := ((Below.refl _ w3).alloc (Nat.le_refl _) _).alloc (by rw [World.size_alloc]; omega) _
    have hn := heap_alloc_new (w3.alloc (.map #[] 0)) (.cells #[.int .i64 0, .int .i64 0, .pointer (some ⟨d, 0, none⟩), .int .i64 (S : Int), .map (some w3.heap.size)] 101)
    rw [World.size_alloc] at hn
    have hl := HD3.out.lts
    exact ⟨hn, (HD3.out.below hbb).mono Hb1.out.size, (made_pl w3).keep (Below.heap_alloc _ _ _ (by rw [World.size_alloc]; omega)), by omega, by omega, by omega, by omega, (fun h => by cases h)⟩
  have Hld := hid (load_no hM Hlen.out htwo hone hmost Hfull.out Hno.out)
  have Hb4 := hid ((Hb3.out.alloc hs3 (.map #[] 0)).alloc (by rw [World.size_alloc]; omega) (.cells #[.int .i64 0, .int .i64 0, .pointer (some ⟨d, 0, none⟩), .int .i64 (S : Int), .map (some w3.heap.size)] 101))
  have HM := hid hM
  clear hM
  refine Hld.out.mono ?_
  rintro e w5 ⟨rfl, ho5⟩
  have Ho5 := hid ho5
  clear ho5 Hld
  go_wp2
  go_ret2
  refine ⟨rfl, Hb4.out.trans (Ho5.out.below (Nat.le_trans Hb4.out.size (Nat.le_refl _)) ?_)⟩
  rintro k (rfl | rfl) <;> omega
end Go.Proofs.YthdcjepkehifoaaGreat

/- What the reference reads in any block: zeros, an index. -/
namespace Go.Proofs.YthdcjepkehifoaaGreat
open Go.RowKit Go.Maps
set_option linter.unusedVariables false
set_option maxRecDepth 20000

/-- what zeros tells -/
def ZP (x : List UInt8) (at0 : Nat) (w : World) (e : Ending) (w' : World) : Prop := ∃ r : Bool, e = .returned (.bool r) ∧ (r = true ↔ ∀ j (hj : j < x.length), at0 ≤ j → x[j] = 0) ∧ w' = w
set_option maxHeartbeats 400000 in
theorem zeros_any (x : List UInt8) (b o n cap at0 : Nat) (w : World) (hx : Bytes w (some ⟨b, o, none⟩) x) (hn : n = x.length) (ha : at0 ≤ x.length) (lx : x.length ≤ 256) :
    Calls Tryz.prog 91 #[.slice (some ⟨b, o, none⟩) n cap, .int .i64 (at0 : Int)] w (ZP x at0 w) := by
  subst hn
  have Hx := hid hx
  clear hx
  go_enter Tryz.func91, Tryz.ntmps91
  go_wp2
  go_loopw [5] (fun i wr => ∃ k : Nat, at0 ≤ k ∧ k ≤ x.length ∧ i = .int .i64 k ∧ (∀ j (hj : j < x.length), at0 ≤ j → j < k → x[j] = 0) ∧ wr = w) (fun i _ => x.length - (intOf i).toNat)
  case atStart => exact ⟨at0, Nat.le_refl _, ha, rfl, fun j _ h1 h2 => by omega, rfl⟩
  case round =>
    obtain ⟨k, hk1, hk, rfl, hz, rfl⟩ := hrel
    have Hz := hid hz
    clear hz
    by_cases hlt : k < x.length
    · obtain ⟨b1, o1, ha, hc1⟩ := Hx.out k hlt
      cases ha
      have g1 : (k : Int) < (x.length : Int) := by omega
      by_cases h0 : x[k] = 0
      · have Hn : Hid (∀ j (hj : j < x.length), at0 ≤ j → j < k + 1 → x[j] = 0) := fun j hj h1 h2 => by
          rcases (show j < k ∨ j = k by omega) with h | rfl
          · exact Hz.out j hj h1 h
          · exact h0
        rw [h0] at hc1
        clear h0
        go_wp2
        go_roundw
        case rel => exact ⟨k + 1, by omega, by omega, by go_num, Hn.out, trivial⟩
        case measure => simp [intOf]; omega
      · have Hne : Hid (¬ ∀ j (hj : j < x.length), at0 ≤ j → x[j] = 0) := fun h => h0 (h k hlt hk1)
        have hne : x[k].toNat ≠ 0 := fun h => h0 (UInt8.toNat_inj.1 h)
        generalize x[k].toNat = xx at *
        have d1 : ((xx : Int) != 0) = true := by rw [bne_iff_ne]; omega
        have d2 : ((xx : Int) == 0) = false := by rw [beq_eq_false_iff_ne]; omega
        clear h0
        go_wp2
        go_ret
        exact ⟨false, rfl, ⟨(fun h => by cases h), fun h => absurd h Hne.out⟩, rfl⟩
    · have g1 : ¬ (k : Int) < (x.length : Int) := by omega
      go_wp2
      go_ret
      exact ⟨true, rfl, ⟨fun _ j hj h1 => Hz.out j hj h1 (by omega), fun _ => rfl⟩, rfl⟩

theorem take2 (x : List UInt8) (o : Nat) (h : o + 1 < x.length) : (x.drop o).take 2 = [x[o], x[o + 1]] := by
  rw [List.drop_eq_getElem_cons (by omega), List.drop_eq_getElem_cons (by omega)]
  rfl
theorem numAt_eq (x : List UInt8) (o : Nat) (h : o + 1 < x.length) : numAt x o = 256 * (x[o]'(by omega)).toNat + x[o + 1].toNat := by
  unfold numAt
  rw [take2 x o h]
  simp [num]
  omega
/-- the bytes of an index block -/
theorem ix_of (x : List UInt8) (hl : x.length = 256) (K : Nat) (hK : numAt x 0 = K) (hK2 : K ≤ 100) (hz : ∀ j (hj : j < x.length), 2 + 2 * K ≤ j → x[j] = 0) : x = indexB (numsOf x K) := by
  have hflat : ∀ k, k ≤ 127 → (numsOf x k).flatMap (be 2) = (x.drop 2).take (2 * k) := by
    intro k
    induction k with
    | zero => intro _; simp [numsOf]
    | succ k ih =>
      intro hk
      have e : numsOf x (k + 1) = numsOf x k ++ [numAt x (2 * (k + 1))] := by
        unfold numsOf
        rw [List.range_succ, List.map_append]
        rfl
      rw [e, List.flatMap_append, ih (by omega)]
      have h2 : be 2 (numAt x (2 * (k + 1))) = (x.drop (2 * (k + 1))).take 2 := by
        have := be_num ((x.drop (2 * (k + 1))).take 2)
        rw [List.length_take, List.length_drop, Nat.min_eq_left (by omega)] at this
        exact this
      rw [List.flatMap_cons, List.flatMap_nil, List.append_nil, h2, show 2 * (k + 1) = 2 * k + 2 by omega, List.take_add, List.drop_drop, Nat.add_comm 2 (2 * k)]
  have h0 : be 2 K = x.take 2 := by
    have := be_num ((x.drop 0).take 2)
    rw [List.drop_zero, List.length_take, Nat.min_eq_left (by omega)] at this
    rw [← hK]
    exact this
  unfold indexB ixB
  rw [numsOf_length, hflat K (by omega), h0]
  have hrest : List.replicate (254 - 2 * K) 0 = (x.drop 2).drop (2 * K) := by
    apply List.ext_getElem
    · rw [List.length_replicate, List.length_drop, List.length_drop]; omega
    · intro i h1 h2
      rw [List.getElem_replicate, List.getElem_drop, List.getElem_drop]
      exact (hz _ _ (by omega)).symm
  rw [hrest, List.take_append_drop, List.take_append_drop]

/-- what group tells of any block -/
def GrP (x : List UInt8) (P n E : Nat) (w : World) (e : Ending) (w' : World) : Prop :=
  ∃ (v : Value) (ok : Bool), e = .returned (.tuple #[v, .bool ok]) ∧ Below w.heap.size w w' ∧ ((ok = true ∧ ∃ ns a c, v = .slice a ns.length c ∧ x = indexB ns ∧ GoodIx P ns ∧ n + ns.length ≤ E) ∨ (ok = false ∧ ∀ ns, GoodIx P ns → x = indexB ns → ¬ n + ns.length ≤ E))
theorem ix_len {P : Nat} {x : List UInt8} {ns : List Nat} (hP : P ≤ 1024) (hg : GoodIx P ns) (h : x = indexB ns) : numAt x 0 = ns.length ∧ numsOf x ns.length = ns := index_read (hgood hg (by omega)) h

/-- so many numbers are below P, and rise -/
def UpTo (P : Nat) (ns : List Nat) (k : Nat) : Prop := (∀ i (hi : i < ns.length), i < k → ns[i] < P) ∧ ∀ i j (hi : i < ns.length) (hj : j < ns.length), i < j → j < k → ns[i] < ns[j]
theorem UpTo.step {P : Nat} {ns : List Nat} {k : Nat} (h : UpTo P ns k) (hk : k < ns.length) (h1 : ns[k] < P) (h2 : ∀ j, j < k → ∀ hj : j < ns.length, ns[j] < ns[k]) : UpTo P ns (k + 1) := by
  refine ⟨fun i hi hik => ?_, fun i j hi hj hij hjk => ?_⟩
  · rcases (show i < k ∨ i = k by omega) with h' | rfl
    · exact h.1 i hi h'
    · exact h1
  · rcases (show j < k ∨ j = k by omega) with h' | rfl
    · exact h.2 i j hi hj hij h'
    · exact h2 i hij hi
theorem UpTo.of {P : Nat} {ns : List Nat} (h : GoodIx P ns) (k : Nat) : UpTo P ns k := ⟨fun i hi _ => h.lt _ (List.getElem_mem hi), fun i j hi hj hij _ => List.pairwise_iff_getElem.1 h.up i j hi hj hij⟩
theorem UpTo.good {P : Nat} {ns : List Nat} (h : UpTo P ns ns.length) (h1 : 1 ≤ ns.length) (h2 : ns.length ≤ 100) : GoodIx P ns := by
  refine ⟨h1, h2, List.pairwise_iff_getElem.2 fun i j hi hj hij => h.2 i j hi hj hij hj, fun n hn => ?_⟩
  obtain ⟨i, hi, rfl⟩ := List.getElem_of_mem hn
  exact h.1 i hi hi
set_option maxHeartbeats 1600000 in
theorem group_any {w : World} {B m r : Nat} {F L : Value} {vs us : List Value} {S G U : Nat} {fs : List (List UInt8)} {ls : List (Nat × List UInt8)} (h : RefLog w B m r F L vs us S G U fs ls) (hok : ∀ c ∈ ls, c.1 < fs.length ∧ c.2.length = 256) (hf : ∀ p ∈ fs, p.length = 256) (P : Nat) (hl : fs.length = S + 1 + P) (hfl : fs.length ≤ 1024) (hls : ls.length ≤ 1000000) (n : Nat) (x : List UInt8) (hx : (psOf fs ls)[n]? = some x) (hx256 : x.length = 256) (E : Nat) (hn : n ≤ 2000) (hE2 : E ≤ 2000) :
    Calls Tryz.prog 93 #[.pointer (some ⟨m, 0, none⟩), .int .i64 (n : Int), .int .i64 (E : Int)] w (GrP x P n E w) := by
  have hP : P ≤ 1024 := by omega
  have Hb := hid (rblock_any h hok hf hfl hls n x hx)
  rw [hx256] at Hb
  have H := hid h
  have Hl := hid hl
  have H256 := hid hx256
  clear h hok hf hx hl
  obtain ⟨K, hK⟩ : ∃ K, numAt x 0 = K := ⟨_, rfl⟩
  have hK16 : K < 65536 := by rw [← hK]; exact numAt_lt _ _
  have HK := hid hK
  go_enter Tryz.func93, Tryz.ntmps93
  go_wp2_with (fail)
  refine Hb.out.mono ?_
  rintro e w1 ⟨v, rfl, ho, hb1⟩
  obtain ⟨gb, gc, rfl, hgc, hgb1, hgb2⟩ := row_form ho (by omega)
  have HB := hid (bytes_of_row ho hx256)
  have Hb1 := hid hb1
  have hpa := pair_any x gb 0 256 gc 0 w1 HB.out hx256.symm (by omega) (by omega)
  rw [← numAt_eq x 0 (by omega), hK] at hpa
  have Hpa := hid hpa
  clear hpa hK ho hb1 Hb hx256
  go_wp2_with (fail)
  refine Hpa.out.mono ?_
  rintro e w2 ⟨rfl, hb2⟩
  have HB2 := hid (HB.out.keep (hb2.block gb hgb2))
  have Hb2 := hid (Hb1.out.trans (hb2.mono Hb1.out.size))
  have hgb3 : gb < w2.heap.size := Nat.lt_of_lt_of_le hgb2 hb2.size
  clear hb2 Hpa HB Hb1
  have g3 : IntKind.i64.wrap ((n : Int) + (K : Int)) = (n : Int) + (K : Int) := by rw [IntKind.wrap_i64]; omega
  rcases (show K < 1 ∨ (¬ K < 1 ∧ 100 < K) ∨ (¬ K < 1 ∧ ¬ 100 < K ∧ E < n + K) ∨ (¬ K < 1 ∧ ¬ 100 < K ∧ ¬ E < n + K) by omega) with hk | ⟨hk1, hk2⟩ | ⟨hk1, hk2, hk3⟩ | ⟨hk1, hk2, hk3⟩
  · have d1 : (K : Int) < 1 := by omega
    go_wp2
    go_ret2
    refine ⟨_, false, rfl, Hb2.out, .inr ⟨rfl, fun ns hg he _ => ?_⟩⟩
    have := (ix_len hP hg he).1
    have := hg.pos
    have := HK.out
    omega
  · have d1 : ¬ (K : Int) < 1 := by omega
    have d2 : (100 : Int) < (K : Int) := by omega
    go_wp2
    go_ret2
    refine ⟨_, false, rfl, Hb2.out, .inr ⟨rfl, fun ns hg he _ => ?_⟩⟩
    have := (ix_len hP hg he).1
    have := hg.few
    have := HK.out
    omega
  · have d1 : ¬ (K : Int) < 1 := by omega
    have d2 : ¬ (100 : Int) < (K : Int) := by omega
    have d3 : (E : Int) < (n : Int) + (K : Int) := by omega
    go_wp2
    go_ret2
    refine ⟨_, false, rfl, Hb2.out, .inr ⟨rfl, fun ns hg he hle => ?_⟩⟩
    have := (ix_len hP hg he).1
    have := HK.out
    omega
  have d1 : ¬ (K : Int) < 1 := by omega
  have d2 : ¬ (100 : Int) < (K : Int) := by omega
  have d3 : ¬ (E : Int) < (n : Int) + (K : Int) := by omega
  have g5 : IntKind.i64.wrap (2 * (K : Int)) = 2 * (K : Int) := by rw [IntKind.wrap_i64]; omega
  have g6 : IntKind.i64.wrap (2 + 2 * (K : Int)) = ((2 + 2 * K : Nat) : Int) := by rw [IntKind.wrap_i64]; omega
  have Hz := hid (zeros_any x gb 0 256 gc (2 + 2 * K) w2 HB2.out H256.out.symm (by rw [H256.out]; omega) (by rw [H256.out]; omega))
  go_wp2_with (fail)
  refine Hz.out.mono ?_
  rintro e w3 ⟨rz, rfl, hrz, hw3⟩
  subst w3
  have Hrz := hid hrz
  clear Hz hrz
  cases rz with
  | false =>
    go_wp2
    go_ret2
    refine ⟨_, false, rfl, Hb2.out, .inr ⟨rfl, fun ns hg he _ => ?_⟩⟩
    have hln := (ix_len hP hg he).1
    have hKK := HK.out
    have : ∀ j (hj : j < x.length), 2 + 2 * K ≤ j → x[j] = 0 := fun j hj h => by
      subst he
      exact index_zero ns hg.few j hj (by omega)
    have := Hrz.out.2 this
    cases this
  | true =>
    have Hxe := hid (ix_of x H256.out K HK.out (by omega) (Hrz.out.1 rfl))
    clear Hrz g5 g6 g3 d3
    have H2 := hid (H.out.below Hb2.out)
    have HN : Hid ((numsOf x K).length = K) := numsOf_length x K
    have Hni : Hid (∀ i (hi : i < K), (numsOf x K)[i]'(by rw [HN.out]; exact hi) = numAt x (2 + 2 * i)) := fun i hi => by
      rw [numsOf_get, show 2 * (i + 1) = 2 + 2 * i by omega]
    have Hms : Hid (∀ ms, GoodIx P ms → x = indexB ms → ms = numsOf x K) := fun ms hg he => by
      have h1 := ix_len hP hg he
      have h2 := HK.out
      rw [← h2, h1.1]
      exact h1.2.symm
    generalize numsOf x K = ns at *
    have HG0 : Hid (GRel w2 ns 0 (.slice none 0 0) w2 ∧ UpTo P ns 0) := ⟨⟨by rw [List.take_zero]; exact World.ownsRow_nil _ _ _ _, Below.refl _ _⟩, fun i hi h => absurd h (Nat.not_lt_zero _), fun i j hi hj hij h => absurd h (Nat.not_lt_zero _)⟩
    go_wp2
    go_loopw [10, 11] (fun v i wr => ∃ k : Nat, k ≤ K ∧ i = .int .i64 k ∧ GRel w2 ns k v wr ∧ UpTo P ns k) (fun _ i _ => K - (intOf i).toNat)
    case atStart => exact ⟨0, Nat.zero_le _, rfl, HG0.out⟩
    case round =>
      obtain ⟨k, hk, rfl, hR, hup⟩ := hrel
      have HR := hid hR
      have Hup := hid hup
      obtain ⟨hown, hbel⟩ := hR
      clear HG0 hup
      by_cases hlt : k < K
      · have hkn : k < ns.length := by rw [HN.out]; exact hlt
        have dk : (k : Int) < (K : Int) := by omega
        have hsz := hbel.size
        have HBr := hid (HB2.out.keep (hbel.block gb hgb3))
        have hpa := pair_any x gb 0 256 gc (2 + 2 * k) wr HBr.out H256.out.symm (by rw [H256.out]; omega) (by rw [H256.out]; omega)
        rw [← numAt_eq x (2 + 2 * k) (by rw [H256.out]; omega), ← Hni.out k hlt] at hpa
        have Hpa := hid hpa
        have f1 : IntKind.i64.wrap (2 * (k : Int)) = 2 * (k : Int) := by rw [IntKind.wrap_i64]; omega
        have f2 : IntKind.i64.wrap (2 + 2 * (k : Int)) = ((2 + 2 * k : Nat) : Int) := by rw [IntKind.wrap_i64]; omega
        have Hown := hid hown
        have Hbel := hid hbel
        clear hpa hown hbel
        have hx16 : ns[k] < 65536 := by rw [Hni.out k hlt]; exact numAt_lt _ _
        go_wp2_with (fail)
        refine Hpa.out.mono ?_
        rintro e w4 ⟨rfl, hb4⟩
        have Hb4 := hid hb4
        have Hown4 := hid (own_below Hown.out hb4)
        have H4 := hid ((H2.out.below Hbel.out).below hb4)
        have Hall := hid (Hb2.out.trans ((Hbel.out.trans (hb4.mono hsz)).mono Hb2.out.size))
        clear hb4 Hpa f1 f2
        have Hpg := hid (rpages_any H4.out P Hl.out hfl)
        obtain ⟨i0, hi0, hz0, hz1, hz2⟩ := info_parts Tryz.info3
        have Htk := hid (show nums (ns.take (k + 1)) = nums (ns.take k) ++ [.int .i64 (ns[k] : Int)] by unfold nums; rw [List.take_succ_eq_append_getElem hkn, List.map_append]; rfl)
        have Hbad : Hid (¬ UpTo P ns (k + 1) → ∀ ms, GoodIx P ms → x = indexB ms → False) := fun hnu ms hg he => by
          have e1 := Hms.out ms hg he
          subst e1
          exact hnu (UpTo.of hg (k + 1))
        have Hup1 : Hid (ns[k] < P → (∀ j, j < k → ∀ hj : j < ns.length, ns[j] < ns[k]) → UpTo P ns (k + 1)) := fun h1 h2 => Hup.out.step hkn h1 h2
        have hnl : ns.length ≤ 100 := by rw [HN.out]; omega
        generalize hxk : ns[k] = xx at *
        have Hxk := hid hxk
        clear hxk
        by_cases hxP : xx < P
        · have d4 : ¬ (P : Int) ≤ (xx : Int) := by omega
          rcases (show k = 0 ∨ ∃ j, k = j + 1 by cases k with | zero => exact .inl rfl | succ j => exact .inr ⟨j, rfl⟩) with rfl | ⟨j, rfl⟩
          · have d5 : ¬ (0 : Int) < ((0 : Nat) : Int) := by omega
            go_wp2_with (fail)
            refine Hpg.out.mono ?_
            rintro e w5 ⟨rfl, hb5⟩
            have Hown5 := hid (own_below Hown4.out hb5)
            have Hb5 := hid ((Hbel.out.trans (Hb4.out.mono hsz)).trans (hb5.mono (Nat.le_trans hsz Hb4.out.size)))
            clear hb5 Hpg Hown4 Hb4
            go_wp2_with (at_builtin; refine wpList_append_own_at _ rfl _ _ 30 rfl w2.heap.size 3 i0 (.int .i64 0) 1 8 Tryz.underlying30 hi0 hz0 hz1 hz2 rfl (by decide) _ _ _ rfl (Hown5.out.alloc _) ⟨w5.heap.size, 0, none⟩ 1 1 [.int .i64 (xx : Int)] rfl rfl (World.news_of_block (cs := #[.int .i64 (xx : Int)]) (t := 3) (fr := (0, 0)) (heap_alloc_new w5 _)) (by simp [Value.oneCell']) (by unfold maxLen; omega) (by omega) (by rw [World.size_alloc]; have := Hb5.out.size; omega) ?_; intro v' w6 hown6 hgrow6 hnil6 hloc6)
            go_roundw
            case rel => exact ⟨0 + 1, by omega, by go_num, ⟨by rw [Htk.out]; exact hown6, (Hb5.out.alloc Hb5.out.size _).grown hgrow6 (by rw [World.size_alloc]; have := Hb5.out.size; omega) (fun j e => (Hown5.out.lt j e).1)⟩, Hup1.out hxP (fun j hj => by omega)⟩
            case measure => simp [intOf]; omega
          · have d5 : (0 : Int) < ((j + 1 : Nat) : Int) := by omega
            have d6 : IntKind.i64.wrap (((j + 1 : Nat) : Int) - 1) = (j : Int) := by rw [IntKind.wrap_i64]; omega
            have hjn : j < ns.length := by omega
            have hc := (nums_get (ns.take (j + 1)) j (by rw [List.length_take]; omega))
            rw [List.getElem_take] at hc
            have Hlow : Hid (ns[j] < xx → ∀ i, i < j + 1 → ∀ hi : i < ns.length, ns[i] < xx) := fun hlt i hi hil => by
              rcases (show i = j ∨ i < j by omega) with rfl | h
              · exact hlt
              · have := Hup.out.2 i j hil hjn h (by omega); omega
            have Hnup : Hid (¬ ns[j] < xx → ¬ UpTo P ns (j + 1 + 1)) := fun hn hu => hn (by have := hu.2 j (j + 1) hjn hkn (by omega) (by omega); rw [Hxk.out] at this; exact this)
            generalize ns[j] = y at *
            have Hc := hid hc
            clear hc
            by_cases hyx : y < xx
            · have d7 : ¬ (xx : Int) ≤ (y : Int) := by omega
              go_wp2_with (fail)
              refine Hpg.out.mono ?_
              rintro e w5 ⟨rfl, hb5⟩
              have Hown5 := hid (own_below Hown4.out hb5)
              have Hb5 := hid ((Hbel.out.trans (Hb4.out.mono hsz)).trans (hb5.mono (Nat.le_trans hsz Hb4.out.size)))
              clear hb5 Hpg Hown4 Hb4
              obtain ⟨og, oc, rfl, _, _⟩ := Hown5.out.form (by omega)
              have c1 := (Hown5.out.cellAt j (by omega)).trans Hc.out
              have d8 : (0 : Int) ≤ (j : Int) := by omega
              have d9 : (j : Int) < ((j + 1 : Nat) : Int) := by omega
              go_wp2_with (at_builtin; refine wpList_append_own_at _ rfl _ _ 30 rfl w2.heap.size 3 i0 (.int .i64 0) 1 8 Tryz.underlying30 hi0 hz0 hz1 hz2 rfl (by decide) _ _ _ rfl (Hown5.out.alloc _) ⟨w5.heap.size, 0, none⟩ 1 1 [.int .i64 (xx : Int)] rfl rfl (World.news_of_block (cs := #[.int .i64 (xx : Int)]) (t := 3) (fr := (0, 0)) (heap_alloc_new w5 _)) (by simp [Value.oneCell']) (by unfold maxLen; omega) (by omega) (by rw [World.size_alloc]; have := Hb5.out.size; omega) ?_; intro v' w6 hown6 hgrow6 hnil6 hloc6)
              go_roundw
              case rel => exact ⟨(j + 1) + 1, by omega, by go_num, ⟨by rw [Htk.out]; exact hown6, (Hb5.out.alloc Hb5.out.size _).grown hgrow6 (by rw [World.size_alloc]; have := Hb5.out.size; omega) (fun j e => (Hown5.out.lt j e).1)⟩, Hup1.out hxP (Hlow.out hyx)⟩
              case measure => simp [intOf]; omega
            · have d7 : (xx : Int) ≤ (y : Int) := by omega
              have HF := hid (Hbad.out (Hnup.out hyx))
              go_wp2_with (fail)
              refine Hpg.out.mono ?_
              rintro e w5 ⟨rfl, hb5⟩
              have Hown5 := hid (own_below Hown4.out hb5)
              have Hb5 := hid (Hall.out.trans (hb5.mono Hall.out.size))
              clear hb5 Hpg Hown4 Hb4
              obtain ⟨og, oc, rfl, _, _⟩ := Hown5.out.form (by omega)
              have c1 := (Hown5.out.cellAt j (by omega)).trans Hc.out
              have d8 : (0 : Int) ≤ (j : Int) := by omega
              have d9 : (j : Int) < ((j + 1 : Nat) : Int) := by omega
              go_wp2
              go_ret2
              exact ⟨_, false, rfl, Hb5.out, .inr ⟨rfl, fun ms hg he _ => HF.out ms hg he⟩⟩
        · have d4 : (P : Int) ≤ (xx : Int) := by omega
          have HF := hid (Hbad.out (fun hu => by have := hu.1 k hkn (by omega); rw [Hxk.out] at this; omega))
          go_wp2_with (fail)
          refine Hpg.out.mono ?_
          rintro e w5 ⟨rfl, hb5⟩
          have Hb5 := hid (Hall.out.trans (hb5.mono Hall.out.size))
          clear hb5 Hpg
          go_wp2
          go_ret2
          exact ⟨_, false, rfl, Hb5.out, .inr ⟨rfl, fun ms hg he _ => HF.out ms hg he⟩⟩
      · obtain rfl : k = K := by omega
        have dk : ¬ (k : Int) < (k : Int) := by omega
        obtain ⟨va, vc, rfl⟩ : ∃ va vc, u10 = .slice va k vc := by
          rcases hown.2 with ⟨h1, h2⟩ | ⟨g, cap, _, h1, _⟩
          · exact ⟨none, 0, by rw [h1, h2]⟩
          · exact ⟨_, _, h1⟩
        have Hbel := hid hbel
        clear hown hbel
        go_wp2
        go_ret2
        have hu := Hup.out
        rw [← HN.out] at hu
        exact ⟨_, true, rfl, Hb2.out.trans (Hbel.out.mono Hb2.out.size), .inl ⟨rfl, ns, va, vc, (by rw [HN.out]; rfl), Hxe.out, hu.good (by rw [HN.out]; omega) (by rw [HN.out]; omega), by rw [HN.out]; omega⟩⟩
end Go.Proofs.YthdcjepkehifoaaGreat
