/- Rows of a table of sessions, on the program's side: columnsOf and RowsOf, exact. -/
import Derived.Test.YtcchlcbonfdhpaaDoorXRow
import Derived.Test.YtcchlcbonfdhpaaDoorSTab
namespace Go.Proofs.YtcchlcbonfdhpaaDoor
open Go.RowKit Go.Maps Go.Sort Go.Shelf
set_option linter.unusedVariables false
set_option maxRecDepth 20000
/-- a row of texts is given back -/
def ColPost (w : World) (l : List ByteArray) (e : Ending) (w' : World) : Prop := ∃ a c, e = .returned (.slice a l.length c) ∧ ColAt w' a l ∧ Below w.heap.size w w'
/-- rows are given back -/
def RowsPost (w : World) (m : List Rw) (e : Ending) (w' : World) : Prop := ∃ v rs, e = .returned v ∧ w'.ownsRow w.heap.size 67 2 v rs.length (rcCells rs) ∧ RowsIs w' rs m ∧ Below w.heap.size w w'
theorem col4_on {V V' : World} (hb : Below V.heap.size V V') {g : Nat} {b c d e : Value} (h : V.cell? ⟨g, 1, none⟩ = some b ∧ V.cell? ⟨g, 2, none⟩ = some c ∧ V.cell? ⟨g, 3, none⟩ = some d ∧ V.cell? ⟨g, 4, none⟩ = some e ∧ NTab V) :
    V'.cell? ⟨g, 1, none⟩ = some b ∧ V'.cell? ⟨g, 2, none⟩ = some c ∧ V'.cell? ⟨g, 3, none⟩ = some d ∧ V'.cell? ⟨g, 4, none⟩ = some e ∧ NTab V' := ⟨cell_on hb h.1, cell_on hb h.2.1, cell_on hb h.2.2.1, cell_on hb h.2.2.2.1, h.2.2.2.2.below hb⟩
set_option maxHeartbeats 3200000 in
theorem columnsOf_any (fa : Int) (ft fu : ByteArray) (ms mu : Nat) (hs : ms ≤ 4611686018427387904) (hu : mu ≤ 4611686018427387904) (w : World) (ht : NTab w) :
    Calls Tryd.prog 35 #[.agg #[.int .i64 fa, .string ft, .string fu, .int .i64 (ms : Int), .int .i64 (mu : Int)]] w (ColPost w [ft, fu, txt ms, txt mu]) := by
  obtain ⟨W, hW⟩ : ∃ W, W = w.alloc (.cells #[.int .i64 fa, .string ft, .string fu, .int .i64 (ms : Int), .int .i64 (mu : Int)] 42) := ⟨_, rfl⟩
  have hb : Below w.heap.size w W := by rw [hW]; exact (Below.refl _ w).alloc (Nat.le_refl _) _
  have t0 : W.heap[w.heap.size]? = some (.cells #[.int .i64 fa, .string ft, .string fu, .int .i64 (ms : Int), .int .i64 (mu : Int)] 42 (0, 0)) := by rw [hW]; exact (MapKept.heap_alloc w _).1
  have z : Hid (W.cell? ⟨w.heap.size, 1, none⟩ = some (.string ft) ∧ W.cell? ⟨w.heap.size, 2, none⟩ = some (.string fu) ∧ W.cell? ⟨w.heap.size, 3, none⟩ = some (.int .i64 (ms : Int)) ∧ W.cell? ⟨w.heap.size, 4, none⟩ = some (.int .i64 (mu : Int)) ∧ NTab W) := ⟨cell_of_row _ _ 1 _ _ _ t0, cell_of_row _ _ 2 _ _ _ t0, cell_of_row _ _ 3 _ _ _ t0, cell_of_row _ _ 4 _ _ _ t0, ht.below hb⟩
  have BB := hid hb
  have HW := hid hW
  clear hb t0 hW ht
  go_enter Tryd.func35, Tryd.ntmps35
  go_wp2
  rw [← HW.out]
  go_region_held3 (fun w9 => w9.cell? ⟨w.heap.size, 1, none⟩ = some (.string ft) ∧ w9.cell? ⟨w.heap.size, 2, none⟩ = some (.string fu) ∧ w9.cell? ⟨w.heap.size, 3, none⟩ = some (.int .i64 (ms : Int)) ∧ w9.cell? ⟨w.heap.size, 4, none⟩ = some (.int .i64 (mu : Int)) ∧ NTab w9)
    (first
      | exact z.out
      | exact col4_on ((Below.refl _ _).alloc (Nat.le_refl _) _) z.out)
    ((go_at_call 54; refine (text_any _ (by omega) _ (by exact z.out.2.2.2.2)).mono ?_; rintro e w1 ⟨rfl, hb1⟩; have z := hid (col4_on hb1 z.out); have BB := hid (show Below w.heap.size w w1 by first | exact Below.on' BB.out hb1 | exact Below.on' BB.out (undrew1 hb1)); clear hb1))
  all_goals go_wp2
  all_goals go_ret
  all_goals exact ⟨_, _, rfl, ⟨_, _, rfl, (MapKept.heap_alloc w1 _).1, rfl⟩, BB.out.alloc BB.out.size _⟩
/-- a session's row -/
def sesRow (s : Sess) : Rw := ⟨txt s.id.toNat, [s.ten, s.usr, txt s.since.toNat, txt s.used.toNat]⟩
theorem rowsOf1_any (s : Sess) (W : World) : Calls Tryd.prog 56 (#[.agg #[.int .i64 s.id, .string s.ten, .string s.usr, .int .i64 s.since, .int .i64 s.used]] ++ #[]) W fun e w' => e = .returned (.bool true) ∧ Below W.heap.size W w' := by
  go_enter Tryd.func56, Tryd.ntmps56
  go_wp2
  go_ret
  exact ⟨rfl, (Below.refl _ _).alloc (Nat.le_refl _) _⟩
theorem eg_rowsOf1 : ∀ args w, (callFunc 56 args).run Tryd.prog w = .ok (.enter 56 args) w := enters_of Tryd.func56 (by kernel_rfl) rfl
theorem eg_cols : ∀ args w, (callFunc 35 args).run Tryd.prog w = .ok (.enter 35 args) w := enters_of Tryd.func35 (by kernel_rfl) rfl
theorem rowS {w V : World} {p o mb n : Nat} {next : Int} {l : List Sess} (h : NumAt w p o mb n next l) (ht : NTab w) (hb : Below w.heap.size w V) {s : Sess} (hs : s ∈ l) (hi : 1 ≤ s.id ∧ s.id ≤ 1099511627776) :
    V.cell? ⟨p, o + 1, none⟩ = some (.map (some mb)) ∧ (Instr.lookup 37 (.map (some mb)) (.int .i64 s.id) false).run Tryd.prog V = .ok (.agg #[.int .i64 s.id, .string s.ten, .string s.usr, .int .i64 s.since, .int .i64 s.used]) V ∧ NTab V := by
  have hN := h.below hb
  exact ⟨hN.c1, (hN.map.look_in intKeyed Tryd.underlying37 (sessZero _) (sessR_mk sess0) sessR_inv hs (zkey (by omega) (by omega))).2, ht.below hb⟩
/-- rows of the call's own so far -/
def RZ (n0 : Nat) (w0 : World) (v : Value) (rs : List RC) (m : List Rw) (V : World) : Prop := Below n0 w0 V ∧ V.ownsRow n0 67 2 v rs.length (rcCells rs) ∧ RowsIs V rs m
theorem RZ.on {n0 : Nat} {w0 V V' : World} {v : Value} {rs : List RC} {m : List Rw} (h : RZ n0 w0 v rs m V) (hb : Below V.heap.size V V') (hn : n0 ≤ w0.heap.size) : RZ n0 w0 v rs m V' := ⟨h.1.trans (hb.mono (Nat.le_trans hn h.1.size)), own_onW h.2.1 hb, h.2.2.below hb⟩
theorem RZ.app {n0 : Nat} {w0 V V' : World} {v v' : Value} {rs : List RC} {m : List Rw} (h : RZ n0 w0 v rs m V) (hn : n0 ≤ w0.heap.size) {r : RC} {x : Rw} (hx : RowIs V r x) (ho : V'.ownsRow n0 67 2 v' (rs ++ [r]).length (rcCells (rs ++ [r]))) (hg : V.grownBy V' v.ownBlock) : RZ n0 w0 v' (rs ++ [r]) (m ++ [x]) V' :=
  ⟨h.1.trans ((Below.refl _ _).grown hg (Nat.le_trans hn h.1.size) (fun k hk => (h.2.1.lt k hk).1)), ho, (h.2.2.grown h.2.1 hg).app ⟨⟨hx.1, hx.2.1, hx.2.2.grown h.2.1 hg⟩, trivial⟩⟩
theorem nomark (mark t : ByteArray) (h : mark = ⟨#[]⟩) : mark ++ t = t := by
  subst h
  apply ByteArray.ext
  simp [ByteArray.data_append]
set_option maxHeartbeats 6400000 in
theorem rowsOf_any {w : World} {p o mb n : Nat} {next : Int} {l : List Sess} (h : NumAt w p o mb n next l) (hup : l.Pairwise (fun a b => a.id < b.id)) (hln : l.length ≤ 1000000000) (hid1 : ∀ s ∈ l, 1 ≤ s.id ∧ s.id ≤ 1099511627776) (hsc : ∀ s ∈ l, (0 ≤ s.since ∧ s.since ≤ 1099511627776) ∧ 0 ≤ s.used ∧ s.used ≤ 1099511627776) (mark : ByteArray) (hmk : mark = ⟨#[]⟩) (ht : NTab w) :
    Calls Tryd.prog 34 #[.pointer (some ⟨p, o, none⟩), .string mark, .func (.func 35) #[] #[]] w (RowsPost w (l.map sesRow)) := by
  have Hn := hid (numbers_any h hup hln (fun _ => true) 56 #[] eg_rowsOf1 (fun s _ W _ => rowsOf1_any s W))
  have H := hid h
  have Hid1 := hid hid1
  have Hsc := hid hsc
  have HT := hid ht
  have hm : mark.size ≤ 100 := by rw [hmk]; decide
  have Hmk := hid hmk
  have hfl : l.filter (fun _ => true) = l := List.filter_eq_self.2 (fun _ _ => rfl)
  have Hfl := hid hfl
  have hzl : (wantedIds l (fun _ => true)).length = l.length := by unfold wantedIds; rw [List.length_map, hfl]
  have Hcol := eg_cols
  clear h hup hid1 hsc ht hmk
  go_enter Tryd.func34, Tryd.ntmps34
  go_wp2_with (go_at_call 55; refine Hn.out.mono ?_; rintro e w2 ⟨v, rfl, hrow, hb2⟩; obtain ⟨a, c, rfl, hints, hcap⟩ := ints_of_own hrow)
  have Hints := hid hints
  have Hb2 := hid hb2
  have H2 := hid (H.out.below hb2)
  have HT2 := hid (HT.out.below hb2)
  generalize hN : (wantedIds l (fun _ => true)).length = N at *
  have HN := hid hN
  have Hzl := hid hzl
  have hN2 : N ≤ 1000000000 := by omega
  clear hints hb2 hrow hcap hN hzl hfl
  go_loopw [7, 13] (fun v i wr => ∃ (k : Nat) (rs : List RC), k ≤ N ∧ i = .int .i64 k ∧ RZ w2.heap.size w2 v rs ((l.take k).map sesRow) wr)
    (fun _ i _ => N - (intOf i).toNat)
  case atStart => exact ⟨0, [], Nat.zero_le _, rfl, Below.refl _ _, World.ownsRow_nil _ _ _ _, trivial⟩
  case round =>
    obtain ⟨k, rs, hk, rfl, hz⟩ := hrel
    have Z0 := hid hz
    have hrk : rs.length = k := by
      have h1 := hz.2.2.length
      rw [List.length_map, List.length_take] at h1
      have := Hzl.out
      omega
    have Hrk := hid hrk
    clear hz hrk
    by_cases hlt : k < N
    · obtain ⟨s, hsl, hfs, he1, he2⟩ := wantedIds_get (l := l) (f := fun _ => true) (k := k) (by rw [HN.out]; exact hlt)
      obtain ⟨b, o', ea, hc⟩ := (Hints.out.below Z0.out.1) k (by rw [HN.out]; exact hlt)
      cases ea
      rw [he1] at hc
      rw [Hfl.out] at he2
      have Htk := hid (take_snoc_get he2)
      have Hs := hid hsl
      have hi := Hid1.out s hsl
      have hsm := Hsc.out s hsl
      have Hi := hid hi
      obtain ⟨fa, ft, fu, fs, fe⟩ := s
      dsimp only at hi hsm
      obtain ⟨ni, rfl⟩ : ∃ ni : Nat, fa = ni := ⟨fa.toNat, by omega⟩
      obtain ⟨ms, rfl⟩ : ∃ ms : Nat, fs = ms := ⟨fs.toNat, by omega⟩
      obtain ⟨mu, rfl⟩ : ∃ mu : Nat, fe = mu := ⟨fe.toNat, by omega⟩
      dsimp only at hc
      have z : Hid (RZ w2.heap.size w2 u7 rs ((l.take k).map sesRow) wr.drew) := Z0.out.on (below_drewN _ _ 1) (Nat.le_refl _)
      have key := fun (V : World) (hV : Below w2.heap.size w2 V) => rowS H2.out HT2.out hV Hs.out Hi.out
      dsimp only at key
      have HK := hid key
      have hlt' : k < l.length := by have := Hzl.out; omega
      have hlt2 : (k : Int) < (l.length : Int) := by omega
      have Hsz := hid (txt_size ni (by omega))
      have b1 : ni ≤ 4611686018427387904 := by omega
      have b2 : ms ≤ 4611686018427387904 := by omega
      have b3 : mu ≤ 4611686018427387904 := by omega
      clear he1 he2 hsl hfs key hi hsm
      go_wp2_with fail
      go_region_held3 (fun w9 => w9.cell? ⟨p, o + 1, none⟩ = some (.map (some mb)) ∧ (Instr.lookup 37 (.map (some mb)) (.int .i64 (ni : Int)) false).run Tryd.prog w9 = .ok (.agg #[.int .i64 (ni : Int), .string ft, .string fu, .int .i64 (ms : Int), .int .i64 (mu : Int)]) w9 ∧ NTab w9)
        (first
          | exact HK.out _ zz.out.1
          | exact HK.out _ z.out.1
          | exact HK.out _ (z.out.1.alloc z.out.1.size _))
        (first
          | (go_at_call 54; refine (text_any _ b1 _ (by exact (HK.out _ z.out.1).2.2)).mono ?_; rintro e w1 ⟨rfl, hb1⟩; have z := hid (z.out.on hb1 (Nat.le_refl _)); first | (have cb := hid (cb.out.below hb1)) | skip; have hmt : ¬ 9223372036854775807 < mark.size + (txt ni).size := (by have := Hsz.out; omega); clear hb1)
          | (go_at_call 35; refine (columnsOf_any _ _ _ _ _ b2 b3 _ (by exact (HK.out _ z.out.1).2.2)).mono ?_; rintro e w1 ⟨ca, cc, rfl, hcol, hb1⟩; have z := hid (z.out.on hb1 (Nat.le_refl _)); have cb := hid hcol; clear hb1 hcol)
          | ((with_reducible (show ite _ (Oper.wp _ { dst := some 32, op := _, type := _, pos := _, after := _, guard := _ } _ _ _ _) _)); rw [if_pos (by simp [Region.wanted])]; refine app_rowR (.tmp 17) (.tmp 31) rfl _ _ _ _ _ rfl w2.heap.size u7 rs rfl z.out.2.1 rfl (by have := Hrk.out; omega) z.out.1.size ?_; intro v' w' ho' hg'; have zz := hid (z.out.app (Nat.le_refl _) (x := sesRow ⟨(ni : Int), ft, fu, (ms : Int), (mu : Int)⟩) ⟨nomark _ _ Hmk.out, rfl, cb.out⟩ ho' hg'); clear ho' hg'))
      all_goals go_wp2
      all_goals go_roundw
      all_goals first
        | exact ⟨k + 1, _, by omega, by go_num, by rw [Htk.out, List.map_append]; exact zz.out⟩
        | (simp [intOf]; omega)
    · have e : k = N := by omega
      subst e
      have hlt' : ¬ k < l.length := by have := Hzl.out; omega
      have hlt2 : ¬ (k : Int) < (l.length : Int) := by omega
      go_wp2
      go_ret
      refine ⟨_, rs, rfl, Z0.out.2.1.mono Hb2.out.size, ?_, Below.on' Hb2.out Z0.out.1⟩
      have h3 := Z0.out.2.2
      rw [List.take_of_length_le (by omega)] at h3
      exact h3
end Go.Proofs.YtcchlcbonfdhpaaDoor
