/- The reference's Families, fresh, drop, in: that they end, and what they leave. -/
import Derived.Test.YtmnhhomkglffcaaGreatDoorKR2
namespace Go.Proofs.YtmnhhomkglffcaaGreatDoor
open Go.RowKit Go.Maps Go.Sort Go.Shelf
set_option linter.unusedVariables false
set_option maxRecDepth 20000

/-- some row, and nothing that was there is changed -/
def RowPost (w : World) (e : Ending) (w' : World) : Prop := (∃ a n c, e = .returned (.slice a n c)) ∧ Below w.heap.size w w'
/-- a row of families of the call's own, of at most so many -/
def FRow (w : World) (B : Nat) (v : Value) (k : Nat) (wr : World) : Prop := ∃ l : List Fam.Sess, l.length ≤ k ∧ wr.ownsRow B 35 5 v l.length (Fam.sCells l) ∧ Below B w wr
def KRow (w : World) (B : Nat) (v : Value) (k : Nat) (wr : World) : Prop := ∃ l : List Tok.Sess, l.length ≤ k ∧ wr.ownsRow B 55 4 v l.length (Tok.sCells l) ∧ Below B w wr

set_option maxHeartbeats 1600000 in
theorem rFamilies_any {w : World} {B r : Nat} {a : Option Addr} {c : Nat} {a' : Option Addr} {c' : Nat} {U : Sto} (h : RAt w B r a c a' c' U) (hl : U.fs.length ≤ 1000000000) (x : Int) :
    Calls Tryz.prog 56 #[.pointer (some ⟨r, 0, none⟩), .int .i64 x] w (RowPost w) := by
  have hr := h.lt
  have H := hid h
  clear h
  generalize hN : U.fs.length = N at *
  have HN := hid hN
  clear hN
  go_enter Tryz.func56, Tryz.ntmps56
  go_wp2
  go_loopw [5, 6] (fun v i wr => ∃ k : Nat, k ≤ N ∧ i = .int .i64 k ∧ FRow w w.heap.size v k wr) (fun _ i _ => N - (intOf i).toNat)
  case atStart => exact ⟨0, Nat.zero_le _, rfl, [], Nat.le_refl _, World.ownsRow_nil _ _ _ _, Below.refl _ _⟩
  case round =>
    obtain ⟨k, hk, rfl, l, hlk, hrow, hb⟩ := hrel
    have Hb := hid hb
    have Hrow := hid hrow
    have hR := H.out.below hb
    have c3 := hR.c3
    rw [HN.out] at c3
    have hz : w.heap.size ≤ wr.heap.size := hb.size
    clear hb hrow
    by_cases hlt : k < N
    · have Hg : Hid (U.fs[k]? = some (U.fs[k]'(by rw [HN.out]; exact hlt))) := List.getElem?_eq_getElem _
      generalize U.fs[k]'(by rw [HN.out]; exact hlt) = s at *
      obtain ⟨_, b, o, ea, d0, d1, d2, d3, d4⟩ := hR.sinf.at Hg.out
      cases ea
      clear hR
      by_cases he : s.ses = x
      · have b1 : (s.ses == x) = true := by simpa using he
        clear he
        go_wp2_with (first
          | (at_builtin; refine Fam.app_sess _ rfl _ _ rfl w.heap.size u5 l rfl Hrow.out s rfl (by omega) hz ?_; intro v' w3 hrow3 hg3)
          | go_in)
        go_roundw
        case rel => exact ⟨k + 1, by omega, by go_num, l ++ [s], by simp; omega, hrow3, Hb.out.trans ⟨hg3.os, hg3.tape, hg3.output, hg3.size, fun i hi => hg3.block i (by omega) (row_ne_low Hrow.out hi)⟩⟩
        case measure => simp [intOf]; omega
      · have b1 : (s.ses == x) = false := by simpa using he
        go_wp2
        go_roundw
        case rel => exact ⟨k + 1, by omega, by go_num, l, by omega, Hrow.out, Hb.out⟩
        case measure => simp [intOf]; omega
    · have e : k = N := by omega
      clear hR
      subst e
      obtain ⟨a9, c9, rfl, _⟩ := Fam.sess_of_own Hrow.out
      go_wp2
      go_ret
      exact ⟨⟨_, _, _, rfl⟩, Hb.out⟩

section
variable {w w' : World} {B r : Nat} {a : Option Addr} {c : Nat} {a' : Option Addr} {c' : Nat} {U : Sto}
theorem row_set {B r : Nat} {e : TypeId} {size n cap m : Nat} {xs : List Value} {ad : Option Addr} (h : w.ownsRow B e size (.slice ad n cap) m xs) (hne : (Value.slice ad n cap).ownBlock ≠ some r) (o : Nat) (v : Value) : (w.setCell ⟨r, o, none⟩ v).ownsRow B e size (.slice ad n cap) m xs :=
  row_kept h (fun x hx => heap_setCell_other _ _ _ _ (fun e => hne (by rw [hx]; show some x.block = some r; rw [e])))
theorem RAt.set0 (h : RAt w B r a c a' c' U) (x : Int) : RAt (w.setCell ⟨r, 0, none⟩ (.int .i64 x)) B r a c a' c' ⟨U.noted, x, U.fs, U.nt, U.ts⟩ :=
  ⟨by rw [heap_setCell_same _ _ _ _ _ _ h.obj]; rfl, row_set h.rowf h.nef _ _, row_set h.rowt h.net _ _, h.br, h.nef, h.net⟩
theorem RAt.set1 (h : RAt w B r a c a' c' U) (x : Int) : RAt (w.setCell ⟨r, 1, none⟩ (.int .i64 x)) B r a c a' c' ⟨U.noted, U.nf, U.fs, x, U.ts⟩ :=
  ⟨by rw [heap_setCell_same _ _ _ _ _ _ h.obj]; rfl, row_set h.rowf h.nef _ _, row_set h.rowt h.net _ _, h.br, h.nef, h.net⟩
theorem RAt.set2 (h : RAt w B r a c a' c' U) (x : Int) : RAt (w.setCell ⟨r, 2, none⟩ (.int .i64 x)) B r a c a' c' ⟨x, U.nf, U.fs, U.nt, U.ts⟩ :=
  ⟨by rw [heap_setCell_same _ _ _ _ _ _ h.obj]; rfl, row_set h.rowf h.nef _ _, row_set h.rowt h.net _ _, h.br, h.nef, h.net⟩
theorem RAt.set3 (h : RAt w B r a c a' c' U) {ad : Option Addr} {cap : Nat} {F : List Fam.Sess} (hrow : w.ownsRow B 35 5 (.slice ad F.length cap) F.length (Fam.sCells F)) (hne : (Value.slice ad F.length cap).ownBlock ≠ some r) : RAt (w.setCell ⟨r, 3, none⟩ (.slice ad F.length cap)) B r ad cap a' c' ⟨U.noted, U.nf, F, U.nt, U.ts⟩ :=
  ⟨by rw [heap_setCell_same _ _ _ _ _ _ h.obj]; rfl, row_set hrow hne _ _, row_set h.rowt h.net _ _, h.br, hne, h.net⟩
theorem RAt.set4 (h : RAt w B r a c a' c' U) {ad : Option Addr} {cap : Nat} {T : List Tok.Sess} (hrow : w.ownsRow B 55 4 (.slice ad T.length cap) T.length (Tok.sCells T)) (hne : (Value.slice ad T.length cap).ownBlock ≠ some r) : RAt (w.setCell ⟨r, 4, none⟩ (.slice ad T.length cap)) B r a c ad cap ⟨U.noted, U.nf, U.fs, U.nt, T⟩ :=
  ⟨by rw [heap_setCell_same _ _ _ _ _ _ h.obj]; rfl, row_set h.rowf h.nef _ _, row_set hrow hne _ _, h.br, h.nef, hne⟩
theorem RAt.other (h : RAt w B r a c a' c' U) (g o : Nat) (v : Value) (hg : ∀ k, rBlk r a a' k → k ≠ g) : RAt (w.setCell ⟨g, o, none⟩ v) B r a c a' c' U := h.keep fun k hk => heap_setCell_other _ _ _ _ (hg k hk)
theorem RAt.four (h : RAt w B r a c a' c' U) {g : Nat} (v1 v2 v3 v4 : Value) (hg : ∀ k, rBlk r a a' k → k ≠ g) : RAt (Go.Proofs.YtmnhhomkglffcaaGreatDoor.set4 w g v1 v2 v3 v4) B r a c a' c' U := h.keep fun k hk => set4_other (hg k hk)
theorem RAt.five (h : RAt w B r a c a' c' U) {g : Nat} (v1 v2 v3 v4 v5 : Value) (hg : ∀ k, rBlk r a a' k → k ≠ g) : RAt (Go.Proofs.YtmnhhomkglffcaaGreatDoor.set5 w g v1 v2 v3 v4 v5) B r a c a' c' U := h.keep fun k hk => set5_other (hg k hk)
/-- a row of one's own does not lie in a block that was there -/
theorem own_ne {B : Nat} {e : TypeId} {size n cap m : Nat} {xs : List Value} {ad : Option Addr} (h : w.ownsRow B e size (.slice ad n cap) m xs) {g : Nat} (hg : g < B) : ∀ k, (∃ x, ad = some x ∧ k = x.block) → k ≠ g := by
  rintro k ⟨x, rfl, rfl⟩ rfl
  have := (h.lt _ rfl).1
  omega
theorem more_below {w3 w4 : World} {B : Nat} {e : TypeId} {size n : Nat} {v : Value} {xs : List Value} (h : w3.ownsRow B e size v n xs) (hB : B ≤ w3.heap.size) (hg : w3.grownBy w4 v.ownBlock) : Below B w3 w4 := ⟨hg.os, hg.tape, hg.output, hg.size, fun k hk => hg.block k (by omega) (row_ne_low h hk)⟩
theorem own_ne' {B : Nat} {e : TypeId} {size m : Nat} {xs : List Value} {v : Value} (h : w.ownsRow B e size v m xs) {g : Nat} (hg : g < B) : v.ownBlock ≠ some g := fun e => by
  have := (h.lt g e).1
  omega
end
/-- a token, and the store with it -/
def FreshPost (w : World) (B r : Nat) (a : Option Addr) (c : Nat) (U : Sto) (e : Ending) (w' : World) : Prop :=
  ∃ (t : Tok.Sess) (x : Int) (a2 : Option Addr) (c2 : Nat), e = .returned (Tok.sessV t) ∧ RAt w' B r a c a2 c2 ⟨U.noted, U.nf, U.fs, x, U.ts ++ [t]⟩ ∧ Out (fun k => k = r) w w' ∧ ∀ ad, a2 = some ad → w.heap.size ≤ ad.block

set_option maxHeartbeats 3200000 in
theorem rFresh_any {w : World} {B r : Nat} {a : Option Addr} {c : Nat} {a' : Option Addr} {c' : Nat} {U : Sto} (h : RAt w B r a c a' c' U) (hB : B ≤ w.heap.size) (hl : U.ts.length ≤ 1000000000) (fam sco unt : Int) :
    Calls Tryz.prog 57 #[.pointer (some ⟨r, 0, none⟩), .int .i64 fam, .int .u8 sco, .int .i64 unt] w (FreshPost w B r a c U) := by
  have hr := h.lt
  have c1 := h.c1
  have c4 := h.c4
  have z1 := h.z 1
  have z4 := h.z 4
  have H := hid h
  have hbr := h.br
  by_cases hu : 1099511627776 < unt
  · have gu : decide (1099511627776 < unt) = true := by simpa using hu
    clear hu
    obtain ⟨W, hW⟩ : ∃ W, W = (((w.setCell ⟨r, 1, none⟩ (.int .i64 (wrap64 (U.nt + 1)))).alloc (.cells #[.int .i64 0, .int .i64 0, .int .u8 0, .int .i64 0] 55)).alloc (.cells #[.int .i64 U.nt, .int .i64 fam, .int .u8 sco, .int .i64 1099511627776] 55)) := ⟨_, rfl⟩
    have hS : RAt (w.setCell ⟨r, 1, none⟩ (.int .i64 (wrap64 (U.nt + 1)))) B r a c a' c' ⟨U.noted, U.nf, U.fs, wrap64 (U.nt + 1), U.ts⟩ := h.set1 _
    have tb := two_blocks (w.setCell ⟨r, 1, none⟩ (.int .i64 (wrap64 (U.nt + 1)))) #[.int .i64 0, .int .i64 0, .int .u8 0, .int .i64 0] #[.int .i64 U.nt, .int .i64 fam, .int .u8 sco, .int .i64 1099511627776] 55 55
    rw [← hW] at tb
    have sz : (w.setCell ⟨r, 1, none⟩ (.int .i64 (wrap64 (U.nt + 1)))).heap.size = w.heap.size := by simp [World.setCell]
    rw [sz] at tb
    have hRW := hS.below (by rw [sz]; exact tb.2.2)
    have oW : Out (fun k => k = r) w W := ((Out.refl (fun k => k = r) w).setCell ⟨r, 1, none⟩ (.int .i64 (wrap64 (U.nt + 1))) rfl).trans (Out.of_below (by rw [sz]; exact tb.2.2)) (fun _ _ e => e)
    have sW : w.heap.size + 1 < W.heap.size := (Array.getElem?_eq_some_iff.1 tb.2.1).1
    have HRW := hid hRW
    have OW := hid oW
    have TB := hid tb
    have SW := hid sW
    have HW := hid hW
    clear h hS tb sz hRW oW sW hW
    go_enter Tryz.func57, Tryz.ntmps57
    go_wp2_with (first
      | (at_builtin; refine Tok.app_sess _ rfl _ _ rfl W.heap.size v3 U.ts rfl R3.out ⟨U.nt, fam, sco, 1099511627776⟩ rfl (by omega) B3.out.size ?_; intro v4 w4 hrow4 hg4; obtain ⟨g4, cp4, rfl, hg4l, _⟩ := Tok.own_block hrow4 (by simp); have b34 := more_below R3.out B3.out.size hg4; have HB4 := hid (B3.out.trans b34); have R4 := hid hrow4; have hR4 := HRW.out.below HB4.out; have k4 := hR4.c4; have y4 := hR4.z 4; have HR4 := hid hR4; have sW := SW.out; have e4 := (HB4.out.block (w.heap.size + 1) sW).trans TB.out.2.1; have f4 := (HB4.out.block w.heap.size (by omega)).trans TB.out.1; clear q0 q1 q2 q3; have q0 : w4.cell? ⟨w.heap.size + 1, 0, none⟩ = some (.int .i64 U.nt) := cell_of_row _ _ 0 _ _ _ e4; have q1 : w4.cell? ⟨w.heap.size + 1, 1, none⟩ = some (.int .i64 fam) := cell_of_row _ _ 1 _ _ _ e4; have q2 : w4.cell? ⟨w.heap.size + 1, 2, none⟩ = some (.int .u8 sco) := cell_of_row _ _ 2 _ _ _ e4; have q3 : w4.cell? ⟨w.heap.size + 1, 3, none⟩ = some (.int .i64 1099511627776) := cell_of_row _ _ 3 _ _ _ e4; have z0 : w4.cell? ⟨w.heap.size, 0, none⟩ = some (.int .i64 0) := cell_of_row _ _ 0 _ _ _ f4; have z1 : w4.cell? ⟨w.heap.size, 1, none⟩ = some (.int .i64 0) := cell_of_row _ _ 1 _ _ _ f4; have z2 : w4.cell? ⟨w.heap.size, 2, none⟩ = some (.int .u8 0) := cell_of_row _ _ 2 _ _ _ f4; have z3 : w4.cell? ⟨w.heap.size, 3, none⟩ = some (.int .i64 0) := cell_of_row _ _ 3 _ _ _ f4; have y0 : w4.frozen? ⟨w.heap.size, 0, none⟩ = false := frozen_of_row _ _ 0 _ _ f4; have y1 : w4.frozen? ⟨w.heap.size, 1, none⟩ = false := frozen_of_row _ _ 1 _ _ f4; have y2 : w4.frozen? ⟨w.heap.size, 2, none⟩ = false := frozen_of_row _ _ 2 _ _ f4; have y3 : w4.frozen? ⟨w.heap.size, 3, none⟩ = false := frozen_of_row _ _ 3 _ _ f4; have F4 := hid f4; have n1 : r ≠ w.heap.size := (by omega); have n2 : r ≠ w.heap.size + 1 := (by omega); have n3 : w.heap.size ≠ r := (by omega); have n4 : w.heap.size + 1 ≠ r := (by omega); clear hrow4 hg4 b34 hR4 e4 f4 sW)
      | (at_builtin; rw [← HW.out]; refine Tok.app_all _ rfl _ _ rfl W.heap.size rfl B a' c' U.ts HRW.out.rowt rfl (by omega) (Nat.le_refl _) ?_; intro v3 w3 hrow3 hg3; have hb3 := below_of_grown hg3; have R3 := hid hrow3; have B3 := hid hb3; have sW := SW.out; have e3 := (hb3.block (w.heap.size + 1) sW).trans TB.out.2.1; have q0 : w3.cell? ⟨w.heap.size + 1, 0, none⟩ = some (.int .i64 U.nt) := cell_of_row _ _ 0 _ _ _ e3; have q1 : w3.cell? ⟨w.heap.size + 1, 1, none⟩ = some (.int .i64 fam) := cell_of_row _ _ 1 _ _ _ e3; have q2 : w3.cell? ⟨w.heap.size + 1, 2, none⟩ = some (.int .u8 sco) := cell_of_row _ _ 2 _ _ _ e3; have q3 : w3.cell? ⟨w.heap.size + 1, 3, none⟩ = some (.int .i64 1099511627776) := cell_of_row _ _ 3 _ _ _ e3; have E3 := hid e3; clear hrow3 hg3 hb3 e3 sW)
      | go_in)
    obtain ⟨w5, hw5⟩ : ∃ w5, w5 = w4.setCell ⟨r, 4, none⟩ (.slice (some ⟨g4, 0, none⟩) (U.ts.length + 1) cp4) := ⟨_, rfl⟩
    have hw5' : w5 = w4.setCell ⟨r, 4, none⟩ (.slice (some ⟨g4, 0, none⟩) (U.ts ++ [(⟨U.nt, fam, sco, 1099511627776⟩ : Tok.Sess)]).length cp4) := by rw [hw5]; simp
    have h5 := HR4.out.set4 (R4.out.mono (by have := HRW.out.lt; have := SW.out; omega)) (own_ne' R4.out HRW.out.lt)
    rw [← hw5'] at h5
    have f5 : w5.heap[w.heap.size]? = w4.heap[w.heap.size]? := by rw [hw5]; exact heap_setCell_other _ _ _ _ n3
    obtain ⟨w7, hw7⟩ : ∃ w7, w7 = set4 w5 w.heap.size (.int .i64 U.nt) (.int .i64 fam) (.int .u8 sco) (.int .i64 1099511627776) := ⟨_, rfl⟩
    have f7 : w7.heap[w.heap.size]? = some (.cells #[.int .i64 U.nt, .int .i64 fam, .int .u8 sco, .int .i64 1099511627776] 55 (0, 0)) := by rw [hw7]; exact set4_same (f5.trans F4.out)
    have h7 := h5.four (g := w.heap.size) (.int .i64 U.nt) (.int .i64 fam) (.int .u8 sco) (.int .i64 1099511627776) (by
      rintro k (rfl | ⟨ad, e, rfl⟩ | ⟨ad, e, rfl⟩)
      · omega
      · have := (H.out.lts ad.block (.inr (.inl ⟨ad, e, rfl⟩))).2; omega
      · cases e; show g4 ≠ _; have := SW.out; omega)
    have o5 : Out (fun k => k = r) w w5 := by rw [hw5]; exact (OW.out.trans (Out.of_below HB4.out) (fun _ _ e => e)).setCell ⟨r, 4, none⟩ _ rfl
    have o7 := o5.four (g := w.heap.size) (Nat.le_refl _) (.int .i64 U.nt) (.int .i64 fam) (.int .u8 sco) (.int .i64 1099511627776)
    rw [← hw7] at h7 o7
    show bodyPost _ _ _ _ _ (set4 (w4.setCell ⟨r, 4, none⟩ (.slice (some ⟨g4, 0, none⟩) _ cp4)) w.heap.size (.int .i64 U.nt) (.int .i64 fam) (.int .u8 sco) (.int .i64 1099511627776))
    rw [← hw5, ← hw7]
    obtain ⟨c0, c1, c2, c3⟩ := row4 f7
    exact bodyPost_ret (v := Tok.sessV ⟨U.nt, fam, sco, 1099511627776⟩) (by simp [results, Tryz.results57, go_sem, Tok.sessV, c0, c1, c2, c3]) rfl ⟨_, _, _, _, rfl, h7, o7, fun ad e => by cases e; show w.heap.size ≤ g4; have := SW.out; omega⟩
  · have gu : decide (1099511627776 < unt) = false := by simpa using hu
    clear hu
    obtain ⟨W, hW⟩ : ∃ W, W = (((w.setCell ⟨r, 1, none⟩ (.int .i64 (wrap64 (U.nt + 1)))).alloc (.cells #[.int .i64 0, .int .i64 0, .int .u8 0, .int .i64 0] 55)).alloc (.cells #[.int .i64 U.nt, .int .i64 fam, .int .u8 sco, .int .i64 unt] 55)) := ⟨_, rfl⟩
    have hS : RAt (w.setCell ⟨r, 1, none⟩ (.int .i64 (wrap64 (U.nt + 1)))) B r a c a' c' ⟨U.noted, U.nf, U.fs, wrap64 (U.nt + 1), U.ts⟩ := h.set1 _
    have tb := two_blocks (w.setCell ⟨r, 1, none⟩ (.int .i64 (wrap64 (U.nt + 1)))) #[.int .i64 0, .int .i64 0, .int .u8 0, .int .i64 0] #[.int .i64 U.nt, .int .i64 fam, .int .u8 sco, .int .i64 unt] 55 55
    rw [← hW] at tb
    have sz : (w.setCell ⟨r, 1, none⟩ (.int .i64 (wrap64 (U.nt + 1)))).heap.size = w.heap.size := by simp [World.setCell]
    rw [sz] at tb
    have hRW := hS.below (by rw [sz]; exact tb.2.2)
    have oW : Out (fun k => k = r) w W := ((Out.refl (fun k => k = r) w).setCell ⟨r, 1, none⟩ (.int .i64 (wrap64 (U.nt + 1))) rfl).trans (Out.of_below (by rw [sz]; exact tb.2.2)) (fun _ _ e => e)
    have sW : w.heap.size + 1 < W.heap.size := (Array.getElem?_eq_some_iff.1 tb.2.1).1
    have HRW := hid hRW
    have OW := hid oW
    have TB := hid tb
    have SW := hid sW
    have HW := hid hW
    clear h hS tb sz hRW oW sW hW
    go_enter Tryz.func57, Tryz.ntmps57
    go_wp2_with (first
      | (at_builtin; refine Tok.app_sess _ rfl _ _ rfl W.heap.size v3 U.ts rfl R3.out ⟨U.nt, fam, sco, unt⟩ rfl (by omega) B3.out.size ?_; intro v4 w4 hrow4 hg4; obtain ⟨g4, cp4, rfl, hg4l, _⟩ := Tok.own_block hrow4 (by simp); have b34 := more_below R3.out B3.out.size hg4; have HB4 := hid (B3.out.trans b34); have R4 := hid hrow4; have hR4 := HRW.out.below HB4.out; have k4 := hR4.c4; have y4 := hR4.z 4; have HR4 := hid hR4; have sW := SW.out; have e4 := (HB4.out.block (w.heap.size + 1) sW).trans TB.out.2.1; have f4 := (HB4.out.block w.heap.size (by omega)).trans TB.out.1; clear q0 q1 q2 q3; have q0 : w4.cell? ⟨w.heap.size + 1, 0, none⟩ = some (.int .i64 U.nt) := cell_of_row _ _ 0 _ _ _ e4; have q1 : w4.cell? ⟨w.heap.size + 1, 1, none⟩ = some (.int .i64 fam) := cell_of_row _ _ 1 _ _ _ e4; have q2 : w4.cell? ⟨w.heap.size + 1, 2, none⟩ = some (.int .u8 sco) := cell_of_row _ _ 2 _ _ _ e4; have q3 : w4.cell? ⟨w.heap.size + 1, 3, none⟩ = some (.int .i64 unt) := cell_of_row _ _ 3 _ _ _ e4; have z0 : w4.cell? ⟨w.heap.size, 0, none⟩ = some (.int .i64 0) := cell_of_row _ _ 0 _ _ _ f4; have z1 : w4.cell? ⟨w.heap.size, 1, none⟩ = some (.int .i64 0) := cell_of_row _ _ 1 _ _ _ f4; have z2 : w4.cell? ⟨w.heap.size, 2, none⟩ = some (.int .u8 0) := cell_of_row _ _ 2 _ _ _ f4; have z3 : w4.cell? ⟨w.heap.size, 3, none⟩ = some (.int .i64 0) := cell_of_row _ _ 3 _ _ _ f4; have y0 : w4.frozen? ⟨w.heap.size, 0, none⟩ = false := frozen_of_row _ _ 0 _ _ f4; have y1 : w4.frozen? ⟨w.heap.size, 1, none⟩ = false := frozen_of_row _ _ 1 _ _ f4; have y2 : w4.frozen? ⟨w.heap.size, 2, none⟩ = false := frozen_of_row _ _ 2 _ _ f4; have y3 : w4.frozen? ⟨w.heap.size, 3, none⟩ = false := frozen_of_row _ _ 3 _ _ f4; have F4 := hid f4; have n1 : r ≠ w.heap.size := (by omega); have n2 : r ≠ w.heap.size + 1 := (by omega); have n3 : w.heap.size ≠ r := (by omega); have n4 : w.heap.size + 1 ≠ r := (by omega); clear hrow4 hg4 b34 hR4 e4 f4 sW)
      | (at_builtin; rw [← HW.out]; refine Tok.app_all _ rfl _ _ rfl W.heap.size rfl B a' c' U.ts HRW.out.rowt rfl (by omega) (Nat.le_refl _) ?_; intro v3 w3 hrow3 hg3; have hb3 := below_of_grown hg3; have R3 := hid hrow3; have B3 := hid hb3; have sW := SW.out; have e3 := (hb3.block (w.heap.size + 1) sW).trans TB.out.2.1; have q0 : w3.cell? ⟨w.heap.size + 1, 0, none⟩ = some (.int .i64 U.nt) := cell_of_row _ _ 0 _ _ _ e3; have q1 : w3.cell? ⟨w.heap.size + 1, 1, none⟩ = some (.int .i64 fam) := cell_of_row _ _ 1 _ _ _ e3; have q2 : w3.cell? ⟨w.heap.size + 1, 2, none⟩ = some (.int .u8 sco) := cell_of_row _ _ 2 _ _ _ e3; have q3 : w3.cell? ⟨w.heap.size + 1, 3, none⟩ = some (.int .i64 unt) := cell_of_row _ _ 3 _ _ _ e3; have E3 := hid e3; clear hrow3 hg3 hb3 e3 sW)
      | go_in)
    obtain ⟨w5, hw5⟩ : ∃ w5, w5 = w4.setCell ⟨r, 4, none⟩ (.slice (some ⟨g4, 0, none⟩) (U.ts.length + 1) cp4) := ⟨_, rfl⟩
    have hw5' : w5 = w4.setCell ⟨r, 4, none⟩ (.slice (some ⟨g4, 0, none⟩) (U.ts ++ [(⟨U.nt, fam, sco, unt⟩ : Tok.Sess)]).length cp4) := by rw [hw5]; simp
    have h5 := HR4.out.set4 (R4.out.mono (by have := HRW.out.lt; have := SW.out; omega)) (own_ne' R4.out HRW.out.lt)
    rw [← hw5'] at h5
    have f5 : w5.heap[w.heap.size]? = w4.heap[w.heap.size]? := by rw [hw5]; exact heap_setCell_other _ _ _ _ n3
    obtain ⟨w7, hw7⟩ : ∃ w7, w7 = set4 w5 w.heap.size (.int .i64 U.nt) (.int .i64 fam) (.int .u8 sco) (.int .i64 unt) := ⟨_, rfl⟩
    have f7 : w7.heap[w.heap.size]? = some (.cells #[.int .i64 U.nt, .int .i64 fam, .int .u8 sco, .int .i64 unt] 55 (0, 0)) := by rw [hw7]; exact set4_same (f5.trans F4.out)
    have h7 := h5.four (g := w.heap.size) (.int .i64 U.nt) (.int .i64 fam) (.int .u8 sco) (.int .i64 unt) (by
      rintro k (rfl | ⟨ad, e, rfl⟩ | ⟨ad, e, rfl⟩)
      · omega
      · have := (H.out.lts ad.block (.inr (.inl ⟨ad, e, rfl⟩))).2; omega
      · cases e; show g4 ≠ _; have := SW.out; omega)
    have o5 : Out (fun k => k = r) w w5 := by rw [hw5]; exact (OW.out.trans (Out.of_below HB4.out) (fun _ _ e => e)).setCell ⟨r, 4, none⟩ _ rfl
    have o7 := o5.four (g := w.heap.size) (Nat.le_refl _) (.int .i64 U.nt) (.int .i64 fam) (.int .u8 sco) (.int .i64 unt)
    rw [← hw7] at h7 o7
    show bodyPost _ _ _ _ _ (set4 (w4.setCell ⟨r, 4, none⟩ (.slice (some ⟨g4, 0, none⟩) _ cp4)) w.heap.size (.int .i64 U.nt) (.int .i64 fam) (.int .u8 sco) (.int .i64 unt))
    rw [← hw5, ← hw7]
    obtain ⟨c0, c1, c2, c3⟩ := row4 f7
    exact bodyPost_ret (v := Tok.sessV ⟨U.nt, fam, sco, unt⟩) (by simp [results, Tryz.results57, go_sem, Tok.sessV, c0, c1, c2, c3]) rfl ⟨_, _, _, _, rfl, h7, o7, fun ad e => by cases e; show w.heap.size ≤ g4; have := SW.out; omega⟩
end Go.Proofs.YtmnhhomkglffcaaGreatDoor
