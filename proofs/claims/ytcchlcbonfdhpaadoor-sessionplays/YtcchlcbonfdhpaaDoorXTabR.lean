/- Rows of a table of sessions, on the program's side, exact. -/
import Derived.Test.YtcchlcbonfdhpaaDoorXTx
namespace Go.Proofs.YtcchlcbonfdhpaaDoor
open Go.RowKit Go.Maps Go.Sort Go.Shelf
set_option linter.unusedVariables false
set_option maxRecDepth 20000
theorem r2_on {V V' : World} (hb : Below V.heap.size V V') {g : Nat} {b c : Value} (h : V.cell? ⟨g, 1, none⟩ = some b ∧ V.cell? ⟨g, 0, none⟩ = some c ∧ NTab V) :
    V'.cell? ⟨g, 1, none⟩ = some b ∧ V'.cell? ⟨g, 0, none⟩ = some c ∧ NTab V' := ⟨cell_on hb h.1, cell_on hb h.2.1, h.2.2.below hb⟩
theorem box_out {V : World} {bx : Nat} {x y : Value} (k : Nat) (hk : k ≠ bx) : ((V.setCell ⟨bx, 0, none⟩ x).setCell ⟨bx, 1, none⟩ y).heap[k]? = V.heap[k]? :=
  (heap_setCell_other _ _ _ _ hk).trans (heap_setCell_other _ _ _ _ hk)
theorem r2_box {V : World} {g bx : Nat} {b c x y : Value} (hg : g ≠ bx) (ht : 2 ≠ bx) (h : V.cell? ⟨g, 1, none⟩ = some b ∧ V.cell? ⟨g, 0, none⟩ = some c ∧ NTab V) :
    ((V.setCell ⟨bx, 0, none⟩ x).setCell ⟨bx, 1, none⟩ y).cell? ⟨g, 1, none⟩ = some b ∧ ((V.setCell ⟨bx, 0, none⟩ x).setCell ⟨bx, 1, none⟩ y).cell? ⟨g, 0, none⟩ = some c ∧ NTab ((V.setCell ⟨bx, 0, none⟩ x).setCell ⟨bx, 1, none⟩ y) :=
  ⟨(World.cell?_of_block (a := ⟨g, 1, none⟩) (box_out g hg)).trans h.1, (World.cell?_of_block (a := ⟨g, 0, none⟩) (box_out g hg)).trans h.2.1, (World.cell?_of_block (a := ⟨2, 15, none⟩) (box_out _ ht)).trans h.2.2⟩
theorem box_set {V : World} {bx t : Nat} {c0 c1 x y : Value} (h : V.heap[bx]? = some (.cells #[c0, c1] t (0, 0))) : ((V.setCell ⟨bx, 0, none⟩ x).setCell ⟨bx, 1, none⟩ y).heap[bx]? = some (.cells #[x, y] t (0, 0)) := by
  rw [heap_setCell_same _ _ _ _ _ _ (heap_setCell_same _ _ _ _ _ _ h)]
  rfl
/-- Texts of two numbers, wherever they lie -/
theorem textsG (X : World) (b p q : Nat) (h0 : X.cell? ⟨b, 0, none⟩ = some (.int .i64 (p : Int))) (h1 : X.cell? ⟨b, 1, none⟩ = some (.int .i64 (q : Int))) (ht : NTab X) (hp : p ≤ 4611686018427387904) (hq : q ≤ 4611686018427387904) : Calls Tryd.prog 33 #[.slice (some ⟨b, 0, none⟩) 2 2] X (ColPost X [txt p, txt q]) := by
  refine (texts_any X b 2 [p, q] (fun i hi => ?_) (fun n hn => by simp at hn; rcases hn with rfl | rfl <;> assumption) (by show 2 ≤ 1000; omega) ht).mono ?_
  · simp only [List.length_cons, List.length_nil] at hi
    match i, hi with
    | 0, _ => exact h0
    | 1, _ => exact h1
  · rintro e w' ⟨v, rfl, ho, h⟩
    obtain ⟨a, c, rfl, hc⟩ := col_of_own (xs := [txt p, txt q]) ho (by show 0 < 2; omega)
    exact ⟨a, c, rfl, hc, h⟩
theorem below_two {B : Nat} {w : World} (h : B ≤ w.heap.size) (x y : Obj) : Below B w ((w.alloc x).alloc y) := ((Below.refl _ w).alloc h _).alloc (by simp; omega) _
theorem below_one {B : Nat} {w : World} (h : B ≤ w.heap.size) (x : Obj) : Below B w (w.alloc x) := (Below.refl _ w).alloc h _
/-- what Texts gives, where a box may have been made -/
def TxPost (w : World) (p nn nd : Nat) (bx : Option Nat) (e : Ending) (w1 : World) : Prop := ∃ ca cc, e = .returned (.slice ca [txt nn, txt nd].length cc) ∧ ColAt w1 ca [txt nn, txt nd] ∧ Below w.heap.size w w1 ∧ (w1.cell? ⟨p, 1, none⟩ = some (.int .i64 (nn : Int)) ∧ w1.cell? ⟨p, 0, none⟩ = some (.int .i64 (nd : Int)) ∧ NTab w1) ∧ ∀ b, bx = some b → w1.heap[b]? = some (.cells #[.string ⟨#[]⟩, .slice none 0 0] 67 (0, 0))
theorem shA {w : World} {p nn nd : Nat} (h : w.cell? ⟨p, 1, none⟩ = some (.int .i64 (nn : Int)) ∧ w.cell? ⟨p, 0, none⟩ = some (.int .i64 (nd : Int)) ∧ NTab w) (hp : nn ≤ 4611686018427387904) (hq : nd ≤ 4611686018427387904) : Calls Tryd.prog 33 #[.slice (some ⟨w.heap.size, 0, none⟩) 2 2] (w.alloc (.cells #[.int .i64 (nn : Int), .int .i64 (nd : Int)] 3)).drew (TxPost w p nn nd (none)) := by
  have hb : Below w.heap.size w (w.alloc (.cells #[.int .i64 (nn : Int), .int .i64 (nd : Int)] 3)) := by first | exact below_one (Nat.le_refl _) _ | exact below_two (Nat.le_refl _) _ _
  have hd : Below (w.alloc (.cells #[.int .i64 (nn : Int), .int .i64 (nd : Int)] 3)).heap.size (w.alloc (.cells #[.int .i64 (nn : Int), .int .i64 (nd : Int)] 3)) (w.alloc (.cells #[.int .i64 (nn : Int), .int .i64 (nd : Int)] 3)).drew := below_drewN _ _ 1
  have h2 := r2_on hd (r2_on hb h)
  refine (textsG _ _ nn nd (by simp [go_sem]) (by simp [go_sem]) h2.2.2 hp hq).mono ?_
  rintro e w1 ⟨ca, cc, rfl, hcol, hb1⟩
  refine ⟨ca, cc, rfl, hcol, Below.on' (Below.on' hb hd) hb1, r2_on hb1 h2, fun b e => ?_⟩
  cases e
theorem shB {w : World} {p nn nd : Nat} (h : w.cell? ⟨p, 1, none⟩ = some (.int .i64 (nn : Int)) ∧ w.cell? ⟨p, 0, none⟩ = some (.int .i64 (nd : Int)) ∧ NTab w) (hp : nn ≤ 4611686018427387904) (hq : nd ≤ 4611686018427387904) : Calls Tryd.prog 33 #[.slice (some ⟨w.heap.size, 0, none⟩) 2 2] ((w.alloc (.cells #[.int .i64 (nn : Int), .int .i64 (nd : Int)] 3)).alloc (.cells #[.string ⟨#[]⟩, .slice none 0 0] 67)).drew (TxPost w p nn nd (some (w.heap.size + 1))) := by
  have hb : Below w.heap.size w ((w.alloc (.cells #[.int .i64 (nn : Int), .int .i64 (nd : Int)] 3)).alloc (.cells #[.string ⟨#[]⟩, .slice none 0 0] 67)) := by first | exact below_one (Nat.le_refl _) _ | exact below_two (Nat.le_refl _) _ _
  have hd : Below ((w.alloc (.cells #[.int .i64 (nn : Int), .int .i64 (nd : Int)] 3)).alloc (.cells #[.string ⟨#[]⟩, .slice none 0 0] 67)).heap.size ((w.alloc (.cells #[.int .i64 (nn : Int), .int .i64 (nd : Int)] 3)).alloc (.cells #[.string ⟨#[]⟩, .slice none 0 0] 67)) ((w.alloc (.cells #[.int .i64 (nn : Int), .int .i64 (nd : Int)] 3)).alloc (.cells #[.string ⟨#[]⟩, .slice none 0 0] 67)).drew := below_drewN _ _ 1
  have h2 := r2_on hd (r2_on hb h)
  refine (textsG _ _ nn nd (by simp [go_sem]) (by simp [go_sem]) h2.2.2 hp hq).mono ?_
  rintro e w1 ⟨ca, cc, rfl, hcol, hb1⟩
  refine ⟨ca, cc, rfl, hcol, Below.on' (Below.on' hb hd) hb1, r2_on hb1 h2, fun b e => ?_⟩
  cases e
  refine ((Below.on' hd hb1).block _ (by simp)).trans ?_
  have := (MapKept.heap_alloc (w.alloc (.cells #[.int .i64 (nn : Int), .int .i64 (nd : Int)] 3)) (.cells #[.string ⟨#[]⟩, .slice none 0 0] 67)).1
  simpa using this
theorem shC {w : World} {p nn nd : Nat} (h : w.cell? ⟨p, 1, none⟩ = some (.int .i64 (nn : Int)) ∧ w.cell? ⟨p, 0, none⟩ = some (.int .i64 (nd : Int)) ∧ NTab w) (hp : nn ≤ 4611686018427387904) (hq : nd ≤ 4611686018427387904) : Calls Tryd.prog 33 #[.slice (some ⟨w.heap.size + 1, 0, none⟩) 2 2] ((w.alloc (.cells #[.string ⟨#[]⟩, .slice none 0 0] 67)).alloc (.cells #[.int .i64 (nn : Int), .int .i64 (nd : Int)] 3)).drew (TxPost w p nn nd (some w.heap.size)) := by
  have hb : Below w.heap.size w ((w.alloc (.cells #[.string ⟨#[]⟩, .slice none 0 0] 67)).alloc (.cells #[.int .i64 (nn : Int), .int .i64 (nd : Int)] 3)) := by first | exact below_one (Nat.le_refl _) _ | exact below_two (Nat.le_refl _) _ _
  have hd : Below ((w.alloc (.cells #[.string ⟨#[]⟩, .slice none 0 0] 67)).alloc (.cells #[.int .i64 (nn : Int), .int .i64 (nd : Int)] 3)).heap.size ((w.alloc (.cells #[.string ⟨#[]⟩, .slice none 0 0] 67)).alloc (.cells #[.int .i64 (nn : Int), .int .i64 (nd : Int)] 3)) ((w.alloc (.cells #[.string ⟨#[]⟩, .slice none 0 0] 67)).alloc (.cells #[.int .i64 (nn : Int), .int .i64 (nd : Int)] 3)).drew := below_drewN _ _ 1
  have h2 := r2_on hd (r2_on hb h)
  refine (textsG _ _ nn nd (by simp [go_sem]) (by simp [go_sem]) h2.2.2 hp hq).mono ?_
  rintro e w1 ⟨ca, cc, rfl, hcol, hb1⟩
  refine ⟨ca, cc, rfl, hcol, Below.on' (Below.on' hb hd) hb1, r2_on hb1 h2, fun b e => ?_⟩
  cases e
  refine ((Below.on' hd hb1).block _ (by simp; omega)).trans ?_
  exact ((MapKept.heap_alloc (w.alloc (.cells #[.string ⟨#[]⟩, .slice none 0 0] 67)) (.cells #[.int .i64 (nn : Int), .int .i64 (nd : Int)] 3)).2 w.heap.size (by simp)).trans (MapKept.heap_alloc w (.cells #[.string ⟨#[]⟩, .slice none 0 0] 67)).1
theorem box_end {w w1 : World} {bx : Nat} {ca : Option Addr} {l : List ByteArray} (b1 : Below w.heap.size w w1) (hbx : w.heap.size ≤ bx) (hx : w1.heap[bx]? = some (.cells #[.string ⟨#[]⟩, .slice none 0 0] 67 (0, 0))) (hc : ColAt w1 ca l) (x y : Value) :
    Below w.heap.size w ((w1.setCell ⟨bx, 0, none⟩ x).setCell ⟨bx, 1, none⟩ y) ∧ ((w1.setCell ⟨bx, 0, none⟩ x).setCell ⟨bx, 1, none⟩ y).heap[bx]? = some (.cells #[x, y] 67 (0, 0)) ∧ ColAt ((w1.setCell ⟨bx, 0, none⟩ x).setCell ⟨bx, 1, none⟩ y) ca l := by
  refine ⟨(b1.setCell hbx _).setCell hbx _, box_set hx, ?_⟩
  obtain ⟨b, cur, e, h1, h2⟩ := hc
  refine ⟨b, cur, e, (box_out b (fun e => ?_)).trans h1, h2⟩
  subst e
  rw [hx] at h1
  injection h1 with h1
  injection h1 with _ ht _
  exact absurd ht (by decide)
theorem rows_one {w : World} {r : RC} {x : Rw} (h : RowIs w r x) : RowsIs w [r] [x] := ⟨h, trivial⟩
theorem cc_on {V V' : World} (hb : Below V.heap.size V V') {g : Nat} {b c : Value} (h : V.cell? ⟨g, 0, none⟩ = some b ∧ V.cell? ⟨g, 1, none⟩ = some c) : V'.cell? ⟨g, 0, none⟩ = some b ∧ V'.cell? ⟨g, 1, none⟩ = some c := ⟨cell_on hb h.1, cell_on hb h.2⟩
theorem TabOk.tm2 {T : Tab} (ok : TabOk T) : ∀ s ∈ T.l, (0 ≤ s.since ∧ s.since ≤ 1099511627776) ∧ 0 ≤ s.used ∧ s.used ≤ 1099511627776 := fun s hs => by
  have h1 := ok.tm s hs
  have h2 := ok.nt
  omega
set_option maxHeartbeats 6400000 in
theorem tRows_any {w : World} {B p mb n : Nat} {T : Tab} (h : TabAt w B p mb n T) (ok : TabOk T) (hl : T.l.length ≤ 1000000) (ht : NTab w) :
    Calls Tryd.prog 11 #[.pointer (some ⟨p, 0, none⟩)] w (RowsPost w (rowsM T)) := by
  have HF := hid (fun (V : World) (hb : Below w.heap.size w V) => rowsOf_any (h.below hb).num ok.up (by omega) ok.id1 ok.tm2 ⟨#[]⟩ rfl (ht.below hb))
  obtain ⟨nn, hnn⟩ : ∃ nn : Nat, T.next = nn := ⟨T.next.toNat, by have := ok.nx; omega⟩
  obtain ⟨nd, hnd⟩ : ∃ nd : Nat, T.noted = nd := ⟨T.noted.toNat, by have := ok.nt; omega⟩
  have b1 : nn ≤ 4611686018427387904 := by have := ok.nx; omega
  have b2 : nd ≤ 4611686018427387904 := by have := ok.nt; omega
  have hM : rowsM T = ⟨⟨#[35]⟩, [txt nn, txt nd]⟩ :: T.l.map sesRow := by unfold rowsM; rw [hnn, hnd]; rfl
  rw [hM]
  have z0 : Hid (w.cell? ⟨p, 1, none⟩ = some (.int .i64 (nn : Int)) ∧ w.cell? ⟨p, 0, none⟩ = some (.int .i64 (nd : Int)) ∧ NTab w) := ⟨by rw [← hnn]; exact h.c1, by rw [← hnd]; exact h.c0, ht⟩
  have HL := hid hl
  have hp0 := h.lts.1
  have ht0 : 2 < w.heap.size := World.block_lt_of_cell? _ _ ht
  have HMs : Hid ((T.l.map sesRow).length ≤ 1000000) := by show _ ≤ _; rw [List.length_map]; exact hl
  generalize T.l.map sesRow = ms at *
  clear hM hnn hnd h ok ht hl
  go_enter Tryd.func11, Tryd.ntmps11
  go_wp2
  go_region_held3 (fun w9 => w9.cell? ⟨p, 1, none⟩ = some (.int .i64 (nn : Int)) ∧ w9.cell? ⟨p, 0, none⟩ = some (.int .i64 (nd : Int)) ∧ NTab w9)
    (first
      | (with_reducible exact r2_box (by have := B1.out.size; omega) (by have := B1.out.size; omega) z.out)
      | (with_reducible exact r2_box (by have := B1.out.size; omega) (by have := B1.out.size; omega) (r2_on (below_one (Nat.le_refl _) _) z.out))
      | (with_reducible exact z.out)
      | (with_reducible exact r2_on (below_one (Nat.le_refl _) _) z.out)
      | exact z0.out
      | exact r2_on (below_one (Nat.le_refl _) _) z0.out
      | exact r2_on (below_two (Nat.le_refl _) _ _) z0.out)
    (first
      | (go_at_call 33; (with_reducible (refine (shA z0.out b1 b2).mono ?_)); rintro e w1 ⟨ca, cc, rfl, hcol, hb1, hz, _⟩; have z := hid hz; have B1 := hid hb1; have HC := hid hcol; clear hz hb1 hcol)
      | (go_at_call 33; (with_reducible (refine (shB z0.out b1 b2).mono ?_)); rintro e w1 ⟨ca, cc, rfl, hcol, hb1, hz, hx⟩; have z := hid hz; have B1 := hid hb1; have HC := hid hcol; have HX := hid (hx _ rfl); have k0 := cell_of_row _ _ 0 _ _ _ HX.out; have k1 := cell_of_row _ _ 1 _ _ _ HX.out; have f0 := frozen_of_row _ _ 0 _ _ HX.out; have f1 := frozen_of_row _ _ 1 _ _ HX.out; clear hz hb1 hcol hx)
      | (go_at_call 33; (with_reducible (refine (shC z0.out b1 b2).mono ?_)); rintro e w1 ⟨ca, cc, rfl, hcol, hb1, hz, hx⟩; have z := hid hz; have B1 := hid hb1; have HC := hid hcol; have HX := hid (hx _ rfl); have k0 := cell_of_row _ _ 0 _ _ _ HX.out; have k1 := cell_of_row _ _ 1 _ _ _ HX.out; have f0 := frozen_of_row _ _ 0 _ _ HX.out; have f1 := frozen_of_row _ _ 1 _ _ HX.out; clear hz hb1 hcol hx))
  · obtain ⟨W3, hW3⟩ : ∃ W3, W3 = w1.alloc (.cells #[.string ⟨#[35]⟩, .slice ca 2 cc] 67) := ⟨_, rfl⟩
    rw [← hW3]
    have q1 : Below w.heap.size w W3 := by rw [hW3]; exact B1.out.alloc B1.out.size _
    have q2 : W3.heap[w1.heap.size]? = some (.cells #[.string ⟨#[35]⟩, .slice ca 2 cc] 67 (0, 0)) := by rw [hW3]; exact (MapKept.heap_alloc w1 _).1
    have q3 : ColAt W3 ca [txt nn, txt nd] := by rw [hW3]; exact HC.out.below (below_one (Nat.le_refl _) _)
    obtain ⟨bx, hbx⟩ : ∃ bx, bx = w1.heap.size := ⟨_, rfl⟩
    rw [← hbx] at q2 ⊢
    have HQ := hid q2
    have HQ1 := hid q1
    have HQ3 := hid q3
    have c0 : W3.cell? ⟨bx, 0, none⟩ = some (.string ⟨#[35]⟩) := cell_of_row _ _ 0 _ _ _ q2
    have c1 : W3.cell? ⟨bx, 1, none⟩ = some (.slice ca 2 cc) := cell_of_row _ _ 1 _ _ _ q2
    have C := hid (And.intro c0 c1)
    have hbl : bx < W3.heap.size := (Array.getElem?_eq_some_iff.1 q2).1
    clear q1 q2 q3 hW3 hbx c0 c1
    go_wp2
    go_region_held3 (fun w9 => w9.cell? ⟨bx, 0, none⟩ = some (.string ⟨#[35]⟩) ∧ w9.cell? ⟨bx, 1, none⟩ = some (.slice ca 2 cc))
      (first
        | exact D6.out
        | (with_reducible exact D4.out)
        | (with_reducible exact cc_on (below_one (Nat.le_refl _) _) D4.out)
        | exact C.out
        | exact cc_on (below_one (Nat.le_refl _) _) C.out)
      (first
        | (go_at_call 34; (with_reducible (refine (HF.out (W3.alloc (.cells #[.string ⟨#[35]⟩, .slice ca 2 cc] 67)).drew (Below.on' (Below.on' HQ1.out (below_one (Nat.le_refl _) _)) (below_drewN _ _ 1))).mono ?_)); rintro e w4 ⟨v4, rs, rfl, ho4, hi4, hb4⟩; have D4 := hid (cc_on hb4 (cc_on (below_drewN _ _ 1) (cc_on (below_one (Nat.le_refl _) _) C.out))); have D5 := hid D4.out; have NE : Hid (some bx ≠ (Value.slice (some ⟨W3.heap.size, 0, none⟩) 1 1).ownBlock) := (fun e => by simp [Value.ownBlock] at e; omega); have HH := hid ((own_onW (own_onW (own_new1 W3 ⟨#[35]⟩ ca 2 cc) (below_drewN _ _ 1)) hb4).mono HQ1.out.size); have HO := hid ho4; have HI := hid hi4; have HCo := hid (((HQ3.out.below (below_one (Nat.le_refl _) _)).below (below_drewN _ _ 1)).below hb4); have B4 := hid (Below.on' (Below.on' (Below.on' HQ1.out (below_one (Nat.le_refl _) _)) (below_drewN _ _ 1)) hb4); clear ho4 hi4 hb4)
        | (go_at_call 34; (with_reducible (refine (HF.out W3.drew (Below.on' HQ1.out (below_drewN _ _ 1))).mono ?_)); rintro e w4 ⟨v4, rs, rfl, ho4, hi4, hb4⟩; have D4 := hid (cc_on hb4 (cc_on (below_drewN _ _ 1) C.out)); have D5 := hid (cc_on (below_one (Nat.le_refl _) (.cells #[.string ⟨#[35]⟩, .slice ca 2 cc] 67)) D4.out); have NE : Hid (some bx ≠ (Value.slice (some ⟨w4.heap.size, 0, none⟩) 1 1).ownBlock) := (fun e => by have h5 := hb4.size; have h6 : W3.drew.heap.size = W3.heap.size := rfl; simp [Value.ownBlock] at e; omega); have HH := hid ((own_new1 w4 ⟨#[35]⟩ ca 2 cc).mono (Nat.le_trans HQ1.out.size hb4.size)); have HO := hid (own_onW ho4 (below_one (Nat.le_refl _) (.cells #[.string ⟨#[35]⟩, .slice ca 2 cc] 67))); have HI := hid (hi4.below (below_one (Nat.le_refl _) (.cells #[.string ⟨#[35]⟩, .slice ca 2 cc] 67))); have HCo := hid (((HQ3.out.below (below_drewN _ _ 1)).below hb4).below (below_one (Nat.le_refl _) (.cells #[.string ⟨#[35]⟩, .slice ca 2 cc] 67))); have B4 := hid ((Below.on' (Below.on' HQ1.out (below_drewN _ _ 1)) hb4).alloc (Nat.le_trans HQ1.out.size hb4.size) (.cells #[.string ⟨#[35]⟩, .slice ca 2 cc] 67)); clear ho4 hi4 hb4)
        | ((with_reducible (show ite _ (Oper.wp _ { dst := some 25, op := _, type := _, pos := _, after := _, guard := _ } _ _ _ _) _)); rw [if_pos (by simp [Region.wanted])]; refine app_rowsW (.tmp 20) (.tmp 24) rfl w.heap.size _ [RC.mk ⟨#[35]⟩ ca 2 cc] rfl HH.out _ _ rs rfl HO.out (by have := HI.out.length; have := HL.out; have := HMs.out; simp; omega) B4.out.size ?_; intro v6 w6 ho6 hg6; have eb := hg6.block bx (World.block_lt_of_cell? _ _ D5.out.1) NE.out; have D6 := hid (And.intro ((World.cell?_of_block (a := ⟨bx, 0, none⟩) eb).trans D5.out.1) ((World.cell?_of_block (a := ⟨bx, 1, none⟩) eb).trans D5.out.2)); have R6 : Hid (RowsPost w (⟨⟨#[35]⟩, [txt nn, txt nd]⟩ :: ms) (.returned v6) w6) := ⟨v6, _, rfl, ho6, (RowsIs.app (rows_one (r := RC.mk ⟨#[35]⟩ ca 2 cc) (x := Rw.mk ⟨#[35]⟩ [txt nn, txt nd]) ⟨rfl, rfl, HCo.out⟩) HI.out).grown HH.out hg6, B4.out.trans ((Below.refl _ _).grown hg6 B4.out.size (fun k hk => (HH.out.lt k hk).1))⟩; clear ho6 hg6 eb))
    all_goals go_wp2
    all_goals go_ret
    all_goals exact R6.out
  · obtain ⟨q1, q2, q3⟩ := box_end B1.out (by omega) HX.out HC.out (.string ⟨#[35]⟩) (.slice ca 2 cc)
    obtain ⟨W3, hW3⟩ : ∃ W3, W3 = ((w1).setCell ⟨w.heap.size + 1, 0, none⟩ (.string ⟨#[35]⟩)).setCell ⟨w.heap.size + 1, 1, none⟩ (.slice ca 2 cc) := ⟨_, rfl⟩
    rw [← hW3] at q1 q2 q3 ⊢
    obtain ⟨bx, hbx⟩ : ∃ bx, bx = w.heap.size + 1 := ⟨_, rfl⟩
    rw [← hbx] at q2 ⊢
    have HQ := hid q2
    have HQ1 := hid q1
    have HQ3 := hid q3
    have c0 : W3.cell? ⟨bx, 0, none⟩ = some (.string ⟨#[35]⟩) := cell_of_row _ _ 0 _ _ _ q2
    have c1 : W3.cell? ⟨bx, 1, none⟩ = some (.slice ca 2 cc) := cell_of_row _ _ 1 _ _ _ q2
    have C := hid (And.intro c0 c1)
    have hbl : bx < W3.heap.size := (Array.getElem?_eq_some_iff.1 q2).1
    clear q1 q2 q3 hW3 hbx c0 c1
    go_wp2
    go_region_held3 (fun w9 => w9.cell? ⟨bx, 0, none⟩ = some (.string ⟨#[35]⟩) ∧ w9.cell? ⟨bx, 1, none⟩ = some (.slice ca 2 cc))
      (first
        | exact D6.out
        | (with_reducible exact D4.out)
        | (with_reducible exact cc_on (below_one (Nat.le_refl _) _) D4.out)
        | exact C.out
        | exact cc_on (below_one (Nat.le_refl _) _) C.out)
      (first
        | (go_at_call 34; (with_reducible (refine (HF.out (W3.alloc (.cells #[.string ⟨#[35]⟩, .slice ca 2 cc] 67)).drew (Below.on' (Below.on' HQ1.out (below_one (Nat.le_refl _) _)) (below_drewN _ _ 1))).mono ?_)); rintro e w4 ⟨v4, rs, rfl, ho4, hi4, hb4⟩; have D4 := hid (cc_on hb4 (cc_on (below_drewN _ _ 1) (cc_on (below_one (Nat.le_refl _) _) C.out))); have D5 := hid D4.out; have NE : Hid (some bx ≠ (Value.slice (some ⟨W3.heap.size, 0, none⟩) 1 1).ownBlock) := (fun e => by simp [Value.ownBlock] at e; omega); have HH := hid ((own_onW (own_onW (own_new1 W3 ⟨#[35]⟩ ca 2 cc) (below_drewN _ _ 1)) hb4).mono HQ1.out.size); have HO := hid ho4; have HI := hid hi4; have HCo := hid (((HQ3.out.below (below_one (Nat.le_refl _) _)).below (below_drewN _ _ 1)).below hb4); have B4 := hid (Below.on' (Below.on' (Below.on' HQ1.out (below_one (Nat.le_refl _) _)) (below_drewN _ _ 1)) hb4); clear ho4 hi4 hb4)
        | (go_at_call 34; (with_reducible (refine (HF.out W3.drew (Below.on' HQ1.out (below_drewN _ _ 1))).mono ?_)); rintro e w4 ⟨v4, rs, rfl, ho4, hi4, hb4⟩; have D4 := hid (cc_on hb4 (cc_on (below_drewN _ _ 1) C.out)); have D5 := hid (cc_on (below_one (Nat.le_refl _) (.cells #[.string ⟨#[35]⟩, .slice ca 2 cc] 67)) D4.out); have NE : Hid (some bx ≠ (Value.slice (some ⟨w4.heap.size, 0, none⟩) 1 1).ownBlock) := (fun e => by have h5 := hb4.size; have h6 : W3.drew.heap.size = W3.heap.size := rfl; simp [Value.ownBlock] at e; omega); have HH := hid ((own_new1 w4 ⟨#[35]⟩ ca 2 cc).mono (Nat.le_trans HQ1.out.size hb4.size)); have HO := hid (own_onW ho4 (below_one (Nat.le_refl _) (.cells #[.string ⟨#[35]⟩, .slice ca 2 cc] 67))); have HI := hid (hi4.below (below_one (Nat.le_refl _) (.cells #[.string ⟨#[35]⟩, .slice ca 2 cc] 67))); have HCo := hid (((HQ3.out.below (below_drewN _ _ 1)).below hb4).below (below_one (Nat.le_refl _) (.cells #[.string ⟨#[35]⟩, .slice ca 2 cc] 67))); have B4 := hid ((Below.on' (Below.on' HQ1.out (below_drewN _ _ 1)) hb4).alloc (Nat.le_trans HQ1.out.size hb4.size) (.cells #[.string ⟨#[35]⟩, .slice ca 2 cc] 67)); clear ho4 hi4 hb4)
        | ((with_reducible (show ite _ (Oper.wp _ { dst := some 25, op := _, type := _, pos := _, after := _, guard := _ } _ _ _ _) _)); rw [if_pos (by simp [Region.wanted])]; refine app_rowsW (.tmp 20) (.tmp 24) rfl w.heap.size _ [RC.mk ⟨#[35]⟩ ca 2 cc] rfl HH.out _ _ rs rfl HO.out (by have := HI.out.length; have := HL.out; have := HMs.out; simp; omega) B4.out.size ?_; intro v6 w6 ho6 hg6; have eb := hg6.block bx (World.block_lt_of_cell? _ _ D5.out.1) NE.out; have D6 := hid (And.intro ((World.cell?_of_block (a := ⟨bx, 0, none⟩) eb).trans D5.out.1) ((World.cell?_of_block (a := ⟨bx, 1, none⟩) eb).trans D5.out.2)); have R6 : Hid (RowsPost w (⟨⟨#[35]⟩, [txt nn, txt nd]⟩ :: ms) (.returned v6) w6) := ⟨v6, _, rfl, ho6, (RowsIs.app (rows_one (r := RC.mk ⟨#[35]⟩ ca 2 cc) (x := Rw.mk ⟨#[35]⟩ [txt nn, txt nd]) ⟨rfl, rfl, HCo.out⟩) HI.out).grown HH.out hg6, B4.out.trans ((Below.refl _ _).grown hg6 B4.out.size (fun k hk => (HH.out.lt k hk).1))⟩; clear ho6 hg6 eb))
    all_goals go_wp2
    all_goals go_ret
    all_goals exact R6.out
  · obtain ⟨q1, q2, q3⟩ := box_end B1.out (by omega) HX.out HC.out (.string ⟨#[35]⟩) (.slice ca 2 cc)
    obtain ⟨W3, hW3⟩ : ∃ W3, W3 = ((w1).setCell ⟨w.heap.size, 0, none⟩ (.string ⟨#[35]⟩)).setCell ⟨w.heap.size, 1, none⟩ (.slice ca 2 cc) := ⟨_, rfl⟩
    rw [← hW3] at q1 q2 q3 ⊢
    obtain ⟨bx, hbx⟩ : ∃ bx, bx = w.heap.size := ⟨_, rfl⟩
    rw [← hbx] at q2 ⊢
    have HQ := hid q2
    have HQ1 := hid q1
    have HQ3 := hid q3
    have c0 : W3.cell? ⟨bx, 0, none⟩ = some (.string ⟨#[35]⟩) := cell_of_row _ _ 0 _ _ _ q2
    have c1 : W3.cell? ⟨bx, 1, none⟩ = some (.slice ca 2 cc) := cell_of_row _ _ 1 _ _ _ q2
    have C := hid (And.intro c0 c1)
    have hbl : bx < W3.heap.size := (Array.getElem?_eq_some_iff.1 q2).1
    clear q1 q2 q3 hW3 hbx c0 c1
    go_wp2
    go_region_held3 (fun w9 => w9.cell? ⟨bx, 0, none⟩ = some (.string ⟨#[35]⟩) ∧ w9.cell? ⟨bx, 1, none⟩ = some (.slice ca 2 cc))
      (first
        | exact D6.out
        | (with_reducible exact D4.out)
        | (with_reducible exact cc_on (below_one (Nat.le_refl _) _) D4.out)
        | exact C.out
        | exact cc_on (below_one (Nat.le_refl _) _) C.out)
      (first
        | (go_at_call 34; (with_reducible (refine (HF.out (W3.alloc (.cells #[.string ⟨#[35]⟩, .slice ca 2 cc] 67)).drew (Below.on' (Below.on' HQ1.out (below_one (Nat.le_refl _) _)) (below_drewN _ _ 1))).mono ?_)); rintro e w4 ⟨v4, rs, rfl, ho4, hi4, hb4⟩; have D4 := hid (cc_on hb4 (cc_on (below_drewN _ _ 1) (cc_on (below_one (Nat.le_refl _) _) C.out))); have D5 := hid D4.out; have NE : Hid (some bx ≠ (Value.slice (some ⟨W3.heap.size, 0, none⟩) 1 1).ownBlock) := (fun e => by simp [Value.ownBlock] at e; omega); have HH := hid ((own_onW (own_onW (own_new1 W3 ⟨#[35]⟩ ca 2 cc) (below_drewN _ _ 1)) hb4).mono HQ1.out.size); have HO := hid ho4; have HI := hid hi4; have HCo := hid (((HQ3.out.below (below_one (Nat.le_refl _) _)).below (below_drewN _ _ 1)).below hb4); have B4 := hid (Below.on' (Below.on' (Below.on' HQ1.out (below_one (Nat.le_refl _) _)) (below_drewN _ _ 1)) hb4); clear ho4 hi4 hb4)
        | (go_at_call 34; (with_reducible (refine (HF.out W3.drew (Below.on' HQ1.out (below_drewN _ _ 1))).mono ?_)); rintro e w4 ⟨v4, rs, rfl, ho4, hi4, hb4⟩; have D4 := hid (cc_on hb4 (cc_on (below_drewN _ _ 1) C.out)); have D5 := hid (cc_on (below_one (Nat.le_refl _) (.cells #[.string ⟨#[35]⟩, .slice ca 2 cc] 67)) D4.out); have NE : Hid (some bx ≠ (Value.slice (some ⟨w4.heap.size, 0, none⟩) 1 1).ownBlock) := (fun e => by have h5 := hb4.size; have h6 : W3.drew.heap.size = W3.heap.size := rfl; simp [Value.ownBlock] at e; omega); have HH := hid ((own_new1 w4 ⟨#[35]⟩ ca 2 cc).mono (Nat.le_trans HQ1.out.size hb4.size)); have HO := hid (own_onW ho4 (below_one (Nat.le_refl _) (.cells #[.string ⟨#[35]⟩, .slice ca 2 cc] 67))); have HI := hid (hi4.below (below_one (Nat.le_refl _) (.cells #[.string ⟨#[35]⟩, .slice ca 2 cc] 67))); have HCo := hid (((HQ3.out.below (below_drewN _ _ 1)).below hb4).below (below_one (Nat.le_refl _) (.cells #[.string ⟨#[35]⟩, .slice ca 2 cc] 67))); have B4 := hid ((Below.on' (Below.on' HQ1.out (below_drewN _ _ 1)) hb4).alloc (Nat.le_trans HQ1.out.size hb4.size) (.cells #[.string ⟨#[35]⟩, .slice ca 2 cc] 67)); clear ho4 hi4 hb4)
        | ((with_reducible (show ite _ (Oper.wp _ { dst := some 25, op := _, type := _, pos := _, after := _, guard := _ } _ _ _ _) _)); rw [if_pos (by simp [Region.wanted])]; refine app_rowsW (.tmp 20) (.tmp 24) rfl w.heap.size _ [RC.mk ⟨#[35]⟩ ca 2 cc] rfl HH.out _ _ rs rfl HO.out (by have := HI.out.length; have := HL.out; have := HMs.out; simp; omega) B4.out.size ?_; intro v6 w6 ho6 hg6; have eb := hg6.block bx (World.block_lt_of_cell? _ _ D5.out.1) NE.out; have D6 := hid (And.intro ((World.cell?_of_block (a := ⟨bx, 0, none⟩) eb).trans D5.out.1) ((World.cell?_of_block (a := ⟨bx, 1, none⟩) eb).trans D5.out.2)); have R6 : Hid (RowsPost w (⟨⟨#[35]⟩, [txt nn, txt nd]⟩ :: ms) (.returned v6) w6) := ⟨v6, _, rfl, ho6, (RowsIs.app (rows_one (r := RC.mk ⟨#[35]⟩ ca 2 cc) (x := Rw.mk ⟨#[35]⟩ [txt nn, txt nd]) ⟨rfl, rfl, HCo.out⟩) HI.out).grown HH.out hg6, B4.out.trans ((Below.refl _ _).grown hg6 B4.out.size (fun k hk => (HH.out.lt k hk).1))⟩; clear ho6 hg6 eb))
    all_goals go_wp2
    all_goals go_ret
    all_goals exact R6.out
end Go.Proofs.YtcchlcbonfdhpaaDoor
