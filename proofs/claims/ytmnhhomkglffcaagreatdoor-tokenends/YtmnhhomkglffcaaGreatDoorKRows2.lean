/- Rows of a store: that they end, and how many there are. (Printed by gen/krows.py.) -/
import Derived.Test.YtmnhhomkglffcaaGreatDoorKRows
namespace Go.Proofs.YtmnhhomkglffcaaGreatDoor
open Go.RowKit Go.Maps Go.Sort Go.Shelf
set_option linter.unusedVariables false
set_option maxRecDepth 20000
/-- append(v, x...), v and x rows of rows of the call's own -/
theorem app_rows {w : World} {ops : Array Oper} {rest : List Oper} {o : Oper} {a : Act} {Q : Exit → Act → World → Prop} (hgd : o.guard = none) (sl x : Operand)
    (ho : o.op = .call { callee := .builtin .append, args := #[sl, x], argTypes := #[43, 43] }) (base : Nat) (v : Value) (n : Nat) (xs : List Value) (hs : a.eval sl = v) (hown : w.ownsRow base 86 2 v n xs)
    (base2 : Nat) (v2 : Value) (m : Nat) (ys : List Value) (hx : a.eval x = v2) (hown2 : w.ownsRow base2 86 2 v2 m ys) (hone : ∀ u ∈ ys, u.oneCell' = true) (hb : n + m ≤ 3000000000) (hbase : base ≤ w.heap.size)
    (h : ∀ v' w' zs, w'.ownsRow base 86 2 v' (n + m) zs → Below base w w' → wpList Tryz.prog ops Q rest (a.put o.dst v') w') :
    wpList Tryz.prog ops Q (o :: rest) a w := by
  obtain ⟨i0, hi, hz0, hz1, hz2⟩ := info_parts Tryz.info86
  rcases hown2.2 with ⟨rfl, h0⟩ | ⟨g, cap, cur, rfl, hg, hbk, hc, hm, hsz, ht⟩
  · subst h0
    exact wpList_append_own_none hgd sl x 43 ho base 86 i0 2 Tryz.underlying43 hi v n xs hs hown hx (h _ _ _ hown (Below.refl _ _))
  · refine wpList_append_own w hgd sl x 43 ho base 86 i0 (.agg #[.string ⟨#[]⟩, .slice none 0 0]) 2 40 Tryz.underlying43 hi hz0 hz1 hz2 rfl (by decide) v n xs hs hown ⟨g, 0, none⟩ m cap ys hx hown2.1 (fun j u hj => ?_) hone (by unfold maxLen; omega) (by omega) hbase ?_
    · have hjl : j < ys.length := (List.getElem?_eq_some_iff.1 hj).1
      rw [hown2.1] at hjl
      have := World.ownsRow.cellAt hown2 j hjl
      rw [show (⟨g, 0, none⟩ : Addr).add j = ⟨g, 0 + j, none⟩ by unfold Addr.add; split <;> simp_all, Nat.zero_add, this]
      exact hj
    · intro v' w' h1 h2 h3
      exact h v' w' _ h1 ((Below.refl _ _).grown h2 hbase (fun k hk => (hown.lt k hk).1))
theorem own_new1 (w : World) (k : ByteArray) (ca : Option Addr) (cn cc : Nat) : (w.alloc (.cells #[.string k, .slice ca cn cc] 86)).ownsRow w.heap.size 86 2 (.slice (some ⟨w.heap.size, 0, none⟩) 1 1) 1 [.string k, .slice ca cn cc] :=
  ⟨rfl, .inr ⟨w.heap.size, 1, #[.string k, .slice ca cn cc], rfl, Nat.le_refl _, (MapKept.heap_alloc w _).1, Nat.le_refl _, by unfold maxLen; omega, rfl, rfl⟩⟩
theorem ints3 (w : World) (p q s : Int) : Ints (w.alloc (.cells #[.int .i64 p, .int .i64 q, .int .i64 s] 3)) (some ⟨w.heap.size, 0, none⟩) [p, q, s] := fun i hi => ⟨w.heap.size, 0, rfl, by
  rw [World.cell?_alloc_at _ _ _ _ rfl]
  simp only [List.length_cons, List.length_nil] at hi
  match i, hi with
  | 0, _ => rfl
  | 1, _ => rfl
  | 2, _ => rfl⟩
theorem texts3_weak (w : World) (ht : TabAt w) (p q s : Int) : Calls Tryz.prog 42 #[.slice (some ⟨w.heap.size, 0, none⟩) 3 3] (w.alloc (.cells #[.int .i64 p, .int .i64 q, .int .i64 s] 3)) fun e w' => (∃ a c, e = .returned (.slice a 3 c)) ∧ Below w.heap.size w w' := by
  have hb : Below w.heap.size w (w.alloc (.cells #[.int .i64 p, .int .i64 q, .int .i64 s] 3)) := (Below.refl _ w).alloc (Nat.le_refl _) _
  refine (texts_weak _ (ints3 w p q s) 3 (by show 3 ≤ 1000; omega) (ht.below hb)).mono ?_
  rintro e w' ⟨a, c, he, h⟩
  exact ⟨⟨a, c, he⟩, Below.on' hb h⟩
set_option maxHeartbeats 6400000 in
theorem rows_any {w : World} {B p mf mt n1 n2 : Nat} {T : Sto} (h : StoAt w B p mf mt n1 n2 T) (ok : StoOk T) (hlf : T.fs.length ≤ 1000000000) (hlt : T.ts.length ≤ 1000000000) (ht : TabAt w) :
    Calls Tryz.prog 13 #[.pointer (some ⟨p, 0, none⟩)] w fun e w' => (∃ a c, e = .returned (.slice a (1 + T.fs.length + T.ts.length) c)) ∧ Below w.heap.size w w' := by
  have H := hid h
  have HT := hid ht
  have Hf := fun (V : World) (hb : Below w.heap.size w V) => Fam.rowsOf_any (h.below hb).numf ok.upf hlf ok.id1 (fun s hs => (ok.nx s hs).2) ⟨#[102]⟩ (by decide) (ht.below hb)
  have Ht := fun (V : World) (hb : Below w.heap.size w V) => Tok.rowsOf_any (h.below hb).numt ok.upt hlt ok.id2 (fun s hs => (ok.tu s hs).2) ⟨#[116]⟩ (by decide) (ht.below hb)
  have HF := hid Hf
  have HK := hid Ht
  obtain ⟨N, hN⟩ : ∃ N, N = T.fs.length := ⟨_, rfl⟩
  obtain ⟨M, hM⟩ : ∃ M, M = T.ts.length := ⟨_, rfl⟩
  rw [← hN, ← hM]
  rw [← hN] at HF hlf
  rw [← hM] at HK hlt
  have z : Hid (w.drew.cell? ⟨p, 1, none⟩ = some (.int .i64 T.nf) ∧ w.drew.cell? ⟨p, 3, none⟩ = some (.int .i64 T.nt) ∧ w.drew.cell? ⟨p, 0, none⟩ = some (.int .i64 T.noted) ∧ TabAt w.drew) := ⟨cell_of_row _ _ 1 _ _ _ h.obj, cell_of_row _ _ 3 _ _ _ h.obj, h.c0, ht⟩
  generalize T.nf = xf at *
  generalize T.nt = xt at *
  generalize T.noted = xn at *
  clear Hf Ht hN hM h ht ok
  have hd : Below w.heap.size w w.drew := below_drewN _ _ 1
  have HD := hid hd
  clear hd
  go_enter Tryz.func13, Tryz.ntmps13
  go_wp2
  go_region_held3 (fun w9 => w9.cell? ⟨p, 1, none⟩ = some (.int .i64 xf) ∧ w9.cell? ⟨p, 3, none⟩ = some (.int .i64 xt) ∧ w9.cell? ⟨p, 0, none⟩ = some (.int .i64 xn) ∧ TabAt w9)
    (first
      | exact z.out
      | exact r3_on ((Below.refl _ _).alloc (Nat.le_refl _) _) z.out)
    ((go_at_call 42; refine (texts3_weak _ (by exact z.out.2.2.2) _ _ _).mono ?_; rintro e w1 ⟨⟨ca, cc, rfl⟩, hb1⟩; have b1 : Below w.heap.size w w1 := undrew1 hb1; have z := hid (r3_on hb1 z.out); have B1 := hid b1; clear hb1 b1))
  obtain ⟨W, hW⟩ : ∃ W, W = w1.alloc (.cells #[.string ⟨#[35]⟩, .slice ca 3 cc] 86) := ⟨_, rfl⟩
  have hr := own_new1 w1 ⟨#[35]⟩ ca 3 cc
  rw [← hW] at hr ⊢
  have HR := hid hr
  have B2 : Hid (Below w.heap.size w W) := by show Below _ _ _; rw [hW]; exact B1.out.alloc B1.out.size _
  have hsz : w1.heap.size < W.heap.size := by rw [hW]; simp
  clear hr hW
  go_wp2_with (first
    | (go_at_call 43; refine (HF.out _ (by exact B2.out)).mono ?_; rintro e w3 ⟨v3, rfl, ⟨ys, ho3, hone3⟩, hb3⟩; have HO := hid ho3; have HE := hid hone3; have HR3 := hid (own_onW HR.out hb3); have B3 := hid (Below.on' B2.out hb3); have S3 := hid hb3.size; clear ho3 hone3 hb3)
    | (at_builtin; refine app_rows rfl _ _ rfl w1.heap.size _ 1 _ rfl HR3.out W.heap.size _ N ys rfl HO.out HE.out (by omega) (by have := S3.out; omega) ?_; intro v4 w4 zs ho4 hb4; have HO4 := hid ho4; have B4 := hid (B3.out.trans (hb4.mono B1.out.size)); have S4 := hid hb4.size; clear ho4 hb4)
    | (go_at_call 45; refine (HK.out _ (by exact B4.out)).mono ?_; rintro e w5 ⟨v5, rfl, ⟨us, ho5, hone5⟩, hb5⟩; have HO5 := hid ho5; have HE5 := hid hone5; have HR5 := hid (own_onW HO4.out hb5); have B5 := hid (Below.on' B4.out hb5); have S5 := hid hb5.size; clear ho5 hone5 hb5)
    | (at_builtin; refine app_rows rfl _ _ rfl w1.heap.size _ (1 + N) _ rfl HR5.out w4.heap.size _ M us rfl HO5.out HE5.out (by omega) (by have := S3.out; have := S4.out; have := S5.out; omega) ?_; intro v6 w6 zs6 ho6 hb6; have HO6 := hid ho6; have B6 := hid (B5.out.trans (hb6.mono B1.out.size)); clear ho6 hb6))
  obtain ⟨a9, c9, e9⟩ := slice_of_own HO6.out
  go_ret
  exact ⟨⟨a9, c9, congrArg Ending.returned e9⟩, B6.out⟩
end Go.Proofs.YtmnhhomkglffcaaGreatDoor
