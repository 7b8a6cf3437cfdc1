/- Rows of a store: that they end, and how many there are. (Printed by gen/krows.py.) -/
import Derived.Test.YtmnhhomkglffcaaGreatDoorKCols
import Derived.Laws.AppendOwnNone
namespace Go.Proofs.YtmnhhomkglffcaaGreatDoor
open Go.RowKit Go.Maps Go.Sort Go.Shelf
set_option linter.unusedVariables false
set_option maxRecDepth 20000
theorem Tryz.info86 : (Tryz.prog.info? 86).map (fun i => (i.zero, i.size, i.bytes)) = some (some (.agg #[.string ⟨#[]⟩, .slice none 0 0]), 2, 40) := by kernel_rfl
/-- append(v, row), v a row of rows of the call's own -/
theorem app_rowR {W : World} {o : Oper} {a : Act} {K : Act → World → Prop} {Q : Exit → Act → World → Prop} (sl x : Operand)
    (ho : o.op = .call { callee := .builtin .append, args := #[sl, x], argTypes := #[43, 43] }) (w : World) (k : ByteArray) (ca : Option Addr) (cn cc : Nat) (hW : W = w.alloc (.cells #[.string k, .slice ca cn cc] 86)) (base : Nat) (v : Value) (n : Nat) (xs : List Value) (hs : a.eval sl = v)
    (hown : w.ownsRow base 86 2 v n xs) (hx : a.eval x = .slice (some ⟨w.heap.size, 0, none⟩) 1 1) (hone : ∀ u ∈ xs, u.oneCell' = true) (hb : n ≤ 2000000000) (hbase : base ≤ w.heap.size)
    (h : ∀ v' w' ys, w'.ownsRow base 86 2 v' (n + 1) ys → (∀ u ∈ ys, u.oneCell' = true) → Below base w w' → K (a.put o.dst v') w') :
    o.wp Tryz.prog a W K Q := by
  subst hW
  obtain ⟨i0, hi, hz0, hz1, hz2⟩ := info_parts Tryz.info86
  refine wp_append_own _ sl x 43 ho base 86 i0 (.agg #[.string ⟨#[]⟩, .slice none 0 0]) 2 40 Tryz.underlying43 hi hz0 hz1 hz2 rfl (by decide) v n xs hs (hown.alloc _) ⟨w.heap.size, 0, none⟩ 1 1 [.string k, .slice ca cn cc] hx rfl (World.news_of_block (cs := #[.string k, .slice ca cn cc]) (t := 86) (fr := (0, 0)) (MapKept.heap_alloc w _).1) (by simp [Value.oneCell']) (by unfold maxLen; omega) (by omega) (by simp; omega) ?_
  intro v' w' h1 h2 h3
  exact h v' w' _ h1 (fun u hu => by
    rcases List.mem_append.1 hu with hu | hu
    · exact hone u hu
    · simp at hu
      rcases hu with rfl | rfl <;> rfl) (((Below.refl _ _).alloc hbase _).trans ((Below.refl _ _).grown h2 (by simp; omega) (fun k hk => (hown.lt k hk).1)))
theorem r3_on {V V' : World} (hb : Below V.heap.size V V') {g : Nat} {b c d : Value} (h : V.cell? ⟨g, 1, none⟩ = some b ∧ V.cell? ⟨g, 3, none⟩ = some c ∧ V.cell? ⟨g, 0, none⟩ = some d ∧ TabAt V) :
    V'.cell? ⟨g, 1, none⟩ = some b ∧ V'.cell? ⟨g, 3, none⟩ = some c ∧ V'.cell? ⟨g, 0, none⟩ = some d ∧ TabAt V' := ⟨cell_on hb h.1, cell_on hb h.2.1, cell_on hb h.2.2.1, h.2.2.2.below hb⟩
/-- a row of rows of the call's own, in a world behind another -/
theorem rz_on {n0 k : Nat} {w0 V V' : World} {v : Value} {xs : List Value} (h : Below n0 w0 V ∧ V.ownsRow n0 86 2 v k xs) (hb : Below V.heap.size V V') (hn : n0 ≤ w0.heap.size) : Below n0 w0 V' ∧ V'.ownsRow n0 86 2 v k xs := ⟨h.1.trans (hb.mono (Nat.le_trans hn h.1.size)), own_onW h.2 hb⟩
end Go.Proofs.YtmnhhomkglffcaaGreatDoor
namespace Go.Proofs.YtmnhhomkglffcaaGreatDoor.Fam
open Go.RowKit Go.Maps Go.Sort Go.Shelf
theorem rowsOf1_any (s : Sess) (W : World) : Calls Tryz.prog 77 (#[.agg #[.int .i64 s.id, .int .i64 s.ses, .string s.cli, .int .u8 s.sco, .int .i64 s.nxt]] ++ #[]) W fun e w' => e = .returned (.bool true) ∧ Below W.heap.size W w' := by
  go_enter Tryz.func77, Tryz.ntmps77
  go_wp2
  go_ret
  exact ⟨rfl, (Below.refl _ _).alloc (Nat.le_refl _) _⟩
theorem eg_rowsOf1 : ∀ args w, (callFunc 77 args).run Tryz.prog w = .ok (.enter 77 args) w := enters_of Tryz.func77 (by kernel_rfl) rfl
theorem eg_cols : ∀ args w, (callFunc 44 args).run Tryz.prog w = .ok (.enter 44 args) w := enters_of Tryz.func44 (by kernel_rfl) rfl
theorem rowS {w V : World} {p o mb n : Nat} {next : Int} {l : List Sess} (h : NumAt w p o mb n next l) (ht : TabAt w) (hb : Below w.heap.size w V) {s : Sess} (hs : s ∈ l) (hi : 1 ≤ s.id ∧ s.id ≤ 1099511627776) :
    V.cell? ⟨p, o + 1, none⟩ = some (.map (some mb)) ∧ (Instr.lookup 46 (.map (some mb)) (.int .i64 s.id) false).run Tryz.prog V = .ok (.agg #[.int .i64 s.id, .int .i64 s.ses, .string s.cli, .int .u8 s.sco, .int .i64 s.nxt]) V ∧ TabAt V := by
  have hN := h.below hb
  exact ⟨hN.c1, (hN.map.look_in intKeyed Tryz.underlying46 (sessZero _) (sessR_mk sess0) sessR_inv hs (zkey (by omega) (by omega))).2, ht.below hb⟩
set_option maxHeartbeats 6400000 in
theorem rowsOf_any {w : World} {p o mb n : Nat} {next : Int} {l : List Sess} (h : NumAt w p o mb n next l) (hup : l.Pairwise (fun a b => a.id < b.id)) (hln : l.length ≤ 1000000000) (hid1 : ∀ s ∈ l, 1 ≤ s.id ∧ s.id ≤ 1099511627776) (hsc : ∀ s ∈ l, 0 ≤ s.sco ∧ s.sco ≤ 255) (mark : ByteArray) (hm : mark.size ≤ 100) (ht : TabAt w) :
    Calls Tryz.prog 43 #[.pointer (some ⟨p, o, none⟩), .string mark, .func (.func 44) #[] #[]] w fun e w' => ∃ v, e = .returned v ∧ (∃ xs, w'.ownsRow w.heap.size 86 2 v l.length xs ∧ ∀ u ∈ xs, u.oneCell' = true) ∧ Below w.heap.size w w' := by
  have Hn := hid (numbers_any h hup hln (fun _ => true) 77 #[] eg_rowsOf1 (fun s _ W _ => rowsOf1_any s W))
  have H := hid h
  have Hid1 := hid hid1
  have Hsc := hid hsc
  have HT := hid ht
  have hfl : l.filter (fun _ => true) = l := List.filter_eq_self.2 (fun _ _ => rfl)
  have hzl : (wantedIds l (fun _ => true)).length = l.length := by unfold wantedIds; rw [List.length_map, hfl]
  have Hcol := eg_cols
  clear h hup hid1 hsc ht
  go_enter Tryz.func43, Tryz.ntmps43
  go_wp2_with (go_at_call 75; refine Hn.out.mono ?_; rintro e w2 ⟨v, rfl, hrow, hb2⟩; obtain ⟨a, c, rfl, hints, hcap⟩ := ints_of_own hrow)
  have Hints := hid hints
  have Hb2 := hid hb2
  have H2 := hid (H.out.below hb2)
  have HT2 := hid (HT.out.below hb2)
  generalize hN : (wantedIds l (fun _ => true)).length = N at *
  have HN := hid hN
  have Hzl := hid hzl
  have hN2 : N ≤ 1000000000 := by omega
  clear hints hb2 hrow hcap hN hzl hfl
  go_loopw [7, 13] (fun v i wr => ∃ (k : Nat) (xs : List Value), k ≤ N ∧ i = .int .i64 k ∧ (Below w2.heap.size w2 wr ∧ wr.ownsRow w2.heap.size 86 2 v k xs) ∧ ∀ u ∈ xs, u.oneCell' = true)
    (fun _ i _ => N - (intOf i).toNat)
  case atStart => exact ⟨0, [], Nat.zero_le _, rfl, ⟨Below.refl _ _, World.ownsRow_nil _ _ _ _⟩, fun u hu => by cases hu⟩
  case round =>
    obtain ⟨k, xs, hk, rfl, hz, hone⟩ := hrel
    have Z0 := hid hz
    have Hone := hid hone
    clear hz hone
    by_cases hlt : k < N
    · obtain ⟨s, hsl, hfs, he1, he2⟩ := wantedIds_get (l := l) (f := fun _ => true) (k := k) (by rw [HN.out]; exact hlt)
      obtain ⟨b, o', ea, hc⟩ := (Hints.out.below Z0.out.1) k (by rw [HN.out]; exact hlt)
      cases ea
      rw [he1] at hc
      have Hs := hid hsl
      have Hi := hid (Hid1.out s hsl)
      have Hc := hid (Hsc.out s hsl)
      obtain ⟨fa, fb, fc, fd, fe⟩ := s
      dsimp only at Hi Hc hc
      have z : Hid (Below w2.heap.size w2 wr.drew ∧ wr.drew.ownsRow w2.heap.size 86 2 u7 k xs) := rz_on Z0.out (below_drewN _ _ 1) (Nat.le_refl _)
      have key := fun (V : World) (hV : Below w2.heap.size w2 V) => rowS H2.out HT2.out hV Hs.out Hi.out
      dsimp only at key
      have HK := hid key
      have hlt' : k < l.length := by have := Hzl.out; omega
      have hlt2 : (k : Int) < (l.length : Int) := by omega
      clear he1 he2 hsl hfs key
      go_wp2_with fail
      go_region_held3 (fun w9 => w9.cell? ⟨p, o + 1, none⟩ = some (.map (some mb)) ∧ (Instr.lookup 46 (.map (some mb)) (.int .i64 fa) false).run Tryz.prog w9 = .ok (.agg #[.int .i64 fa, .int .i64 fb, .string fc, .int .u8 fd, .int .i64 fe]) w9 ∧ TabAt w9)
        (first
          | exact HK.out _ zz.out.1
          | exact HK.out _ z.out.1
          | exact HK.out _ (z.out.1.alloc z.out.1.size _))
        (first
          | (go_at_call 76; refine (text_weak _ _ (by exact (HK.out _ z.out.1).2.2)).mono ?_; rintro e w1 ⟨t, ht1, rfl, hb1⟩; have z := hid (rz_on z.out hb1 (Nat.le_refl _)); have hmt : ¬ 9223372036854775807 < mark.size + t.size := (by omega); clear hb1)
          | (go_at_call 44; refine (familyColumns_any ⟨fa, fb, fc, fd, fe⟩ Hc.out _ (by exact (HK.out _ z.out.1).2.2)).mono ?_; rintro e w1 ⟨⟨ca, cn, cc, rfl⟩, hb1⟩; have z := hid (rz_on z.out hb1 (Nat.le_refl _)); clear hb1)
          | (with_reducible (show ite _ (Oper.wp _ { dst := some 32, op := _, type := _, pos := _, after := _, guard := _ } _ _ _ _) _); rw [if_pos (by simp [Region.wanted])]; refine app_rowR (.tmp 17) (.tmp 31) rfl _ _ _ _ _ rfl w2.heap.size u7 k xs rfl z.out.2 rfl Hone.out (by omega) z.out.1.size ?_; intro v' w' ys ho' hone' hb'; have Hone2 := hid hone'; have zz := hid (And.intro (z.out.1.trans hb') ho'); clear ho' hb' hone'))
      all_goals go_wp2
      all_goals go_roundw
      all_goals first
        | exact ⟨k + 1, ys, by omega, by go_num, zz.out, Hone2.out⟩
        | (simp [intOf]; omega)
    · have e : k = N := by omega
      subst e
      have hlt' : ¬ k < l.length := by have := Hzl.out; omega
      have hlt2 : ¬ (k : Int) < (l.length : Int) := by omega
      go_wp2
      go_ret
      exact ⟨_, rfl, ⟨xs, by rw [← Hzl.out]; exact Z0.out.2.mono Hb2.out.size, Hone.out⟩, Below.on' Hb2.out Z0.out.1⟩
end Go.Proofs.YtmnhhomkglffcaaGreatDoor.Fam
namespace Go.Proofs.YtmnhhomkglffcaaGreatDoor
open Go.RowKit Go.Maps Go.Sort Go.Shelf
end Go.Proofs.YtmnhhomkglffcaaGreatDoor
namespace Go.Proofs.YtmnhhomkglffcaaGreatDoor.Tok
open Go.RowKit Go.Maps Go.Sort Go.Shelf
theorem rowsOf1_any (s : Sess) (W : World) : Calls Tryz.prog 79 (#[.agg #[.int .i64 s.id, .int .i64 s.fam, .int .u8 s.sco, .int .i64 s.unt]] ++ #[]) W fun e w' => e = .returned (.bool true) ∧ Below W.heap.size W w' := by
  go_enter Tryz.func79, Tryz.ntmps79
  go_wp2
  go_ret
  exact ⟨rfl, (Below.refl _ _).alloc (Nat.le_refl _) _⟩
theorem eg_rowsOf1 : ∀ args w, (callFunc 79 args).run Tryz.prog w = .ok (.enter 79 args) w := enters_of Tryz.func79 (by kernel_rfl) rfl
theorem eg_cols : ∀ args w, (callFunc 46 args).run Tryz.prog w = .ok (.enter 46 args) w := enters_of Tryz.func46 (by kernel_rfl) rfl
theorem rowS {w V : World} {p o mb n : Nat} {next : Int} {l : List Sess} (h : NumAt w p o mb n next l) (ht : TabAt w) (hb : Below w.heap.size w V) {s : Sess} (hs : s ∈ l) (hi : 1 ≤ s.id ∧ s.id ≤ 1099511627776) :
    V.cell? ⟨p, o + 1, none⟩ = some (.map (some mb)) ∧ (Instr.lookup 50 (.map (some mb)) (.int .i64 s.id) false).run Tryz.prog V = .ok (.agg #[.int .i64 s.id, .int .i64 s.fam, .int .u8 s.sco, .int .i64 s.unt]) V ∧ TabAt V := by
  have hN := h.below hb
  exact ⟨hN.c1, (hN.map.look_in intKeyed Tryz.underlying50 (sessZero _) (sessR_mk sess0) sessR_inv hs (zkey (by omega) (by omega))).2, ht.below hb⟩
set_option maxHeartbeats 6400000 in
theorem rowsOf_any {w : World} {p o mb n : Nat} {next : Int} {l : List Sess} (h : NumAt w p o mb n next l) (hup : l.Pairwise (fun a b => a.id < b.id)) (hln : l.length ≤ 1000000000) (hid1 : ∀ s ∈ l, 1 ≤ s.id ∧ s.id ≤ 1099511627776) (hsc : ∀ s ∈ l, 0 ≤ s.sco ∧ s.sco ≤ 255) (mark : ByteArray) (hm : mark.size ≤ 100) (ht : TabAt w) :
    Calls Tryz.prog 45 #[.pointer (some ⟨p, o, none⟩), .string mark, .func (.func 46) #[] #[]] w fun e w' => ∃ v, e = .returned v ∧ (∃ xs, w'.ownsRow w.heap.size 86 2 v l.length xs ∧ ∀ u ∈ xs, u.oneCell' = true) ∧ Below w.heap.size w w' := by
  have Hn := hid (numbers_any h hup hln (fun _ => true) 79 #[] eg_rowsOf1 (fun s _ W _ => rowsOf1_any s W))
  have H := hid h
  have Hid1 := hid hid1
  have Hsc := hid hsc
  have HT := hid ht
  have hfl : l.filter (fun _ => true) = l := List.filter_eq_self.2 (fun _ _ => rfl)
  have hzl : (wantedIds l (fun _ => true)).length = l.length := by unfold wantedIds; rw [List.length_map, hfl]
  have Hcol := eg_cols
  clear h hup hid1 hsc ht
  go_enter Tryz.func45, Tryz.ntmps45
  go_wp2_with (go_at_call 74; refine Hn.out.mono ?_; rintro e w2 ⟨v, rfl, hrow, hb2⟩; obtain ⟨a, c, rfl, hints, hcap⟩ := ints_of_own hrow)
  have Hints := hid hints
  have Hb2 := hid hb2
  have H2 := hid (H.out.below hb2)
  have HT2 := hid (HT.out.below hb2)
  generalize hN : (wantedIds l (fun _ => true)).length = N at *
  have HN := hid hN
  have Hzl := hid hzl
  have hN2 : N ≤ 1000000000 := by omega
  clear hints hb2 hrow hcap hN hzl hfl
  go_loopw [7, 13] (fun v i wr => ∃ (k : Nat) (xs : List Value), k ≤ N ∧ i = .int .i64 k ∧ (Below w2.heap.size w2 wr ∧ wr.ownsRow w2.heap.size 86 2 v k xs) ∧ ∀ u ∈ xs, u.oneCell' = true)
    (fun _ i _ => N - (intOf i).toNat)
  case atStart => exact ⟨0, [], Nat.zero_le _, rfl, ⟨Below.refl _ _, World.ownsRow_nil _ _ _ _⟩, fun u hu => by cases hu⟩
  case round =>
    obtain ⟨k, xs, hk, rfl, hz, hone⟩ := hrel
    have Z0 := hid hz
    have Hone := hid hone
    clear hz hone
    by_cases hlt : k < N
    · obtain ⟨s, hsl, hfs, he1, he2⟩ := wantedIds_get (l := l) (f := fun _ => true) (k := k) (by rw [HN.out]; exact hlt)
      obtain ⟨b, o', ea, hc⟩ := (Hints.out.below Z0.out.1) k (by rw [HN.out]; exact hlt)
      cases ea
      rw [he1] at hc
      have Hs := hid hsl
      have Hi := hid (Hid1.out s hsl)
      have Hc := hid (Hsc.out s hsl)
      obtain ⟨fa, fb, fd, fe⟩ := s
      dsimp only at Hi Hc hc
      have z : Hid (Below w2.heap.size w2 wr.drew ∧ wr.drew.ownsRow w2.heap.size 86 2 u7 k xs) := rz_on Z0.out (below_drewN _ _ 1) (Nat.le_refl _)
      have key := fun (V : World) (hV : Below w2.heap.size w2 V) => rowS H2.out HT2.out hV Hs.out Hi.out
      dsimp only at key
      have HK := hid key
      have hlt' : k < l.length := by have := Hzl.out; omega
      have hlt2 : (k : Int) < (l.length : Int) := by omega
      clear he1 he2 hsl hfs key
      go_wp2_with fail
      go_region_held3 (fun w9 => w9.cell? ⟨p, o + 1, none⟩ = some (.map (some mb)) ∧ (Instr.lookup 50 (.map (some mb)) (.int .i64 fa) false).run Tryz.prog w9 = .ok (.agg #[.int .i64 fa, .int .i64 fb, .int .u8 fd, .int .i64 fe]) w9 ∧ TabAt w9)
        (first
          | exact HK.out _ zz.out.1
          | exact HK.out _ z.out.1
          | exact HK.out _ (z.out.1.alloc z.out.1.size _))
        (first
          | (go_at_call 76; refine (text_weak _ _ (by exact (HK.out _ z.out.1).2.2)).mono ?_; rintro e w1 ⟨t, ht1, rfl, hb1⟩; have z := hid (rz_on z.out hb1 (Nat.le_refl _)); have hmt : ¬ 9223372036854775807 < mark.size + t.size := (by omega); clear hb1)
          | (go_at_call 46; refine (tokenColumns_any ⟨fa, fb, fd, fe⟩ Hc.out _ (by exact (HK.out _ z.out.1).2.2)).mono ?_; rintro e w1 ⟨⟨ca, cn, cc, rfl⟩, hb1⟩; have z := hid (rz_on z.out hb1 (Nat.le_refl _)); clear hb1)
          | (with_reducible (show ite _ (Oper.wp _ { dst := some 32, op := _, type := _, pos := _, after := _, guard := _ } _ _ _ _) _); rw [if_pos (by simp [Region.wanted])]; refine app_rowR (.tmp 17) (.tmp 31) rfl _ _ _ _ _ rfl w2.heap.size u7 k xs rfl z.out.2 rfl Hone.out (by omega) z.out.1.size ?_; intro v' w' ys ho' hone' hb'; have Hone2 := hid hone'; have zz := hid (And.intro (z.out.1.trans hb') ho'); clear ho' hb' hone'))
      all_goals go_wp2
      all_goals go_roundw
      all_goals first
        | exact ⟨k + 1, ys, by omega, by go_num, zz.out, Hone2.out⟩
        | (simp [intOf]; omega)
    · have e : k = N := by omega
      subst e
      have hlt' : ¬ k < l.length := by have := Hzl.out; omega
      have hlt2 : ¬ (k : Int) < (l.length : Int) := by omega
      go_wp2
      go_ret
      exact ⟨_, rfl, ⟨xs, by rw [← Hzl.out]; exact Z0.out.2.mono Hb2.out.size, Hone.out⟩, Below.on' Hb2.out Z0.out.1⟩
end Go.Proofs.YtmnhhomkglffcaaGreatDoor.Tok
namespace Go.Proofs.YtmnhhomkglffcaaGreatDoor
open Go.RowKit Go.Maps Go.Sort Go.Shelf
end Go.Proofs.YtmnhhomkglffcaaGreatDoor
