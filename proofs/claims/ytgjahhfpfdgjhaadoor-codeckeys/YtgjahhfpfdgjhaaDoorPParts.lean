/- The parts of a key: codec.Parts. -/
import Derived.Test.YtgjahhfpfdgjhaaDoorPBridge
import Derived.Maps.AppendAt
namespace Go.Proofs.YtgjahhfpfdgjhaaDoor
open Go.RowKit Go.Shelf
set_option linter.unusedVariables false
set_option maxRecDepth 20000
attribute [local go_sem] Oper.semAt_some
/-- the texts that have come -/
def outT (pre : List Prt) : List ByteArray := pre.map fun y => mkText y.1
theorem outT_snoc (pre : List Prt) (y : Prt) : outT (pre ++ [y]) = outT pre ++ [mkText y.1] := by simp [outT]
theorem outT_length (pre : List Prt) : (outT pre).length = pre.length := by simp [outT]
/-- what the loop keeps -/
structure PAt (h : Nat) (w : World) (pre : List Prt) (W : World) : Prop where
  box2 : Boxed W h 22 (.slice none 0 0)
  box3 : Boxed W (h + 1) 24 (.int .i64 0)
  box4 : ∃ v, Boxed W (h + 2) 22 v ∧ W.ownsRow h 9 1 v (outT pre).length (strsOf (outT pre)) ∧ True
  bel : Below h w W
  siz : h + 4 ≤ W.heap.size
  good : (∀ y ∈ pre, y.2 = true) ∧ pre.length ≤ 8
theorem pAt_own (h : Nat) (w : World) (hw : h = w.heap.size) (B : Nat) (hB : h ≤ B) : OwnFrom B (fun pre W => PAt h w pre W) := fun s W W' row hs hg hr =>
  ⟨boxed_own h 22 (fun (_ : Unit) => Value.slice none 0 0) () W W' row hs.box2 hg (fun r e => (hr r e).2),
   boxed_own (h + 1) 24 (fun (_ : Unit) => Value.int .i64 0) () W W' row hs.box3 hg (fun r e => (hr r e).2),
   holdsRow_own h (h + 2) 22 9 1 (fun s => (outT s).length) (fun s => strsOf (outT s)) (fun _ _ => True) s W W' row hs.box4 hg (fun r e => (hr r e).2),
   ownFrom_below (β := Unit) (n₀ := h) (B := B) (w₀ := w) (by omega) hB () W W' row hs.bel hg hr, Nat.le_trans hs.siz hg.size, hs.good⟩
/-- what is left when the loop is left -/
structure PEnd (h : Nat) (w : World) (c : Code) (pre : List Prt) (W : World) : Prop where
  ret : c = .ret
  box2 : Boxed W h 22 (.slice none 0 0)
  box3 : Boxed W (h + 1) 24 (.int .i64 3)
  bel : Below h w W
  bad : (∃ y ∈ pre, y.2 = false) ∨ 8 < pre.length
theorem pEnd_own (h : Nat) (w : World) (hw : h = w.heap.size) (c : Code) (B : Nat) (hB : h ≤ B) : OwnFrom B (fun pre W => PEnd h w c pre W) := fun s W W' row hs hg hr =>
  ⟨hs.ret, boxed_own h 22 (fun (_ : Unit) => Value.slice none 0 0) () W W' row hs.box2 hg (fun r e => (hr r e).2),
   boxed_own (h + 1) 24 (fun (_ : Unit) => Value.int .i64 3) () W W' row hs.box3 hg (fun r e => (hr r e).2),
   ownFrom_below (β := Unit) (n₀ := h) (B := B) (w₀ := w) (by omega) hB () W W' row hs.bel hg hr, hs.bad⟩
/-- append(v, text) in a round -/
theorem appIn_text {ro : Option Nat} {n : Nat} (w : World) {ops : Array Oper} {rest : List Oper} {o : Oper} {a : Act} {Q : Exit → Act → World → Prop} (hgd : o.guard = none) (sl x : Operand)
    (ho : o.op = .call { callee := .builtin .append, args := #[sl, x], argTypes := #[22, 22] }) (base : Nat) (v : Value) (xs : List ByteArray) (hs : a.eval sl = v)
    (hown : w.ownsRow base 9 1 v xs.length (strsOf xs)) (s : ByteArray) (hx : a.eval x = .slice (some ⟨w.heap.size, 0, none⟩) 1 1) (hb : xs.length ≤ 1000000) (hbase : base ≤ w.heap.size)
    (h : ∀ v' w', w'.ownsRow base 9 1 v' (xs ++ [s]).length (strsOf (xs ++ [s])) → Below base w w' → (w.alloc (.cells #[.string s] 9)).grownBy w' v.ownBlock → wpListIn (WideAt ro) n Tryd.prog ops Q rest (a.put o.dst v') w') :
    wpListIn (WideAt ro) n Tryd.prog ops Q (o :: rest) a (w.alloc (.cells #[.string s] 9)) := by
  obtain ⟨i0, hi, hz0, hz1, hz2⟩ := info_parts Tryd.info9
  refine stepIn_of (fun a' w' => ∃ v', a' = a.put o.dst v' ∧ w'.ownsRow base 9 1 v' (xs ++ [s]).length (strsOf (xs ++ [s])) ∧ Below base w w' ∧ (w.alloc (.cells #[.string s] 9)).grownBy w' v.ownBlock) (fun c e => by rw [ho] at e; cases e)
    (wpList_append_own _ hgd sl x 22 ho base 9 i0 (.string ⟨#[]⟩) 1 16 Tryd.underlying22 hi hz0 hz1 hz2 rfl (by decide) v xs.length (strsOf xs) hs (hown.alloc _) ⟨w.heap.size, 0, none⟩ 1 1 [.string s] hx rfl (cell_one_new _ _ _) (fun u hu => by simp at hu; subst hu; rfl) (by unfold maxLen; omega) (by omega) (by simp; omega) ?_) (by rintro _ _ ⟨v', rfl, h1, h2, h3⟩; exact h v' _ h1 h2 h3)
  intro v' w' h1 h2 h3
  have e : strsOf xs ++ [.string s] = strsOf (xs ++ [s]) := by simp [strsOf]
  have e2 : xs.length + 1 = (xs ++ [s]).length := by simp
  rw [e, e2] at h1
  exact wpList_nil ⟨rfl, v', rfl, h1, ((Below.refl _ _).alloc hbase _).trans ((Below.refl _ _).grown h2 (by simp; omega) (fun k hk => (hown.lt k hk).1)), h2⟩
theorem own_setK {w : World} {B e n B0 : Nat} {u : Value} {ys : List Value} (h : w.ownsRow B e 1 u n ys) (hne : some B0 ≠ u.ownBlock) (v : Value) : (w.setCell ⟨B0, 0, none⟩ v).ownsRow B e 1 u n ys := by
  refine ⟨h.1, ?_⟩
  rcases h.2 with h0 | ⟨g, cap, cur, hv, hg, hgb, r⟩
  · exact .inl h0
  · refine .inr ⟨g, cap, cur, hv, hg, ((grownBy_setCell' w B0 v).block g (Array.getElem?_eq_some_iff.1 hgb).1 (fun e => hne ?_)).trans hgb, r⟩
    rw [hv]
    cases e
    rfl
/-- the walk stops here -/
theorem stopP {F : Fence} {n : Nat} {P : Program} {ops : Array Oper} {Q : Exit → Act → World → Prop} {l : List Oper} {a : Act} {w : World} (h : Hid (wpListIn F n P ops Q l a w)) : wpListIn F n P ops Q l a w := h
/-- what the sequence says of the bytes -/
theorem seqF_parts (f : Nat) (r : List UInt8) (hf : r.length ≤ f) (h : ∀ y ∈ seqF f r, y.2 = true) : keyOf ((seqF f r).map (·.1)) = r := by
  induction f generalizing r with
  | zero => have : r = [] := List.length_eq_zero_iff.1 (by omega); subst this; rfl
  | succ f ih =>
    by_cases h0 : r = []
    · subst h0; rfl
    · cases hq : fp r with
      | none => rw [seqF_none f r h0 hq] at h; exact absurd (h ([], false) (by simp)) (by simp)
      | some q =>
        obtain ⟨t, k⟩ := q
        obtain ⟨e, hk, hk2⟩ := fp_some r t k hq
        rw [seqF_some f r h0 t k hq] at h ⊢
        have h1 := ih (r.drop k) (by rw [List.length_drop]; omega) (fun y hy => h y (by simp [hy]))
        simp only [List.map_cons, keyOf]
        rw [h1]
        exact e.symm
theorem seqF_key (f : Nat) (ps : List (List UInt8)) (hf : (keyOf ps).length ≤ f) : seqF f (keyOf ps) = ps.map fun p => (p, true) := by
  induction ps generalizing f with
  | nil => exact seqF_nil f
  | cons p ps ih =>
    have hl : (keyOf (p :: ps)).length = (esc p).length + 2 + (keyOf ps).length := by simp only [keyOf, List.length_append, List.length_cons]; omega
    obtain ⟨f', rfl⟩ : ∃ f', f = f' + 1 := ⟨f - 1, by omega⟩
    have hne : keyOf (p :: ps) ≠ [] := by intro e; rw [e] at hl; simp at hl; omega
    rw [seqF_some f' (keyOf (p :: ps)) hne p ((esc p).length + 2) (fp_key p (keyOf ps))]
    have hd : (keyOf (p :: ps)).drop ((esc p).length + 2) = keyOf ps := by
      show (esc p ++ 0 :: 1 :: keyOf ps).drop ((esc p).length + 2) = keyOf ps
      rw [List.drop_append]
      simp
    rw [hd, ih f' (by omega)]
    rfl
theorem seq_bad (x : List UInt8) (pre : List Prt) (hp : pre <+: seqF x.length x) (hb : (∃ y ∈ pre, y.2 = false) ∨ 8 < pre.length) (ps : List (List UInt8)) : ¬ IsParts x ps := fun h => by
  have e := seqF_key x.length ps (by rw [h.1]; exact Nat.le_refl _)
  rw [h.1] at e
  rw [e] at hp
  rcases hb with ⟨y, hy, hf⟩ | hb
  · have := hp.subset hy
    obtain ⟨p, _, rfl⟩ := List.mem_map.1 this
    cases hf
  · have := hp.length_le
    rw [List.length_map] at this
    have := h.2.2
    omega

set_option maxHeartbeats 2000000 in
theorem parts_any (x : List UInt8) (a : Option Addr) (cap : Nat) (w : World) (hB : Bytes w a x) (hcap : x.length ≤ cap) (hlen : x.length ≤ 140737488351232) :
    Calls Tryd.prog 14 #[.slice a x.length cap] w (TextsPost (parRes x) (parErr x) w) := by
  by_cases h64 : 64 < x.length
  · have e1 : parErr x = 6 := by unfold parErr; rw [if_pos h64]
    have e2 : parRes x = [] := by unfold parRes; rw [e1, if_neg (by omega)]
    rw [e1, e2]
    have d0 : (64 : Int) < (x.length : Int) := by omega
    go_enter Tryd.func14, Tryd.ntmps14
    go_wp2
    obtain ⟨W1, hW1⟩ : ∃ W1, W1 = (w.alloc (.cells #[.slice none 0 0] 22)).alloc (.cells #[.int .i64 6] 24) := ⟨_, rfl⟩
    have c2 : W1.cell? ⟨w.heap.size, 0, none⟩ = some (.slice none 0 0) := by rw [hW1]; exact ((Boxed.new w 22 (.slice none 0 0)).alloc _).cell
    have c3 : W1.cell? ⟨w.heap.size + 1, 0, none⟩ = some (.int .i64 6) := by
      have h := (Boxed.new (w.alloc (.cells #[.slice none 0 0] 22)) 24 (.int .i64 6)).cell
      rw [World.size_alloc, ← hW1] at h
      exact h
    have b1 : Below w.heap.size w W1 := by rw [hW1]; exact ((Below.refl _ w).alloc (Nat.le_refl _) _).alloc (by simp) _
    rw [← hW1]
    refine bodyPost_ret (v := .tuple #[.slice none 0 0, .int .i64 6]) ?_ rfl (TextsPost.none _ b1)
    simp [results, Tryd.f14, go_sem, c2, c3]
  have Hnone := hid (parErr_none x h64)
  have Hsome := hid (parErr_some x h64)
  generalize parErr x = er at *
  generalize parRes x = rr at *
  have HB := hid hB
  obtain ⟨N, hN⟩ : ∃ N, N = x.length := ⟨_, rfl⟩
  have HN := hid hN
  rw [← hN] at h64 hcap ⊢
  have d0 : ¬ (64 : Int) < (N : Int) := by omega
  clear hB hN hlen
  refine (callsIn_wide (n := 3)).1 ?_
  refine callsIn_of_wp_marks Tryd.func14 rfl trivial ?_ rfl
  simp only [Tryd.ntmps14, List.size_toArray, List.length_cons, List.length_nil, Nat.reduceAdd, Nat.reduceSub, Array.replicate_succ, Array.replicate_zero, List.push_toArray, List.append_toArray, List.nil_append, List.cons_append]
  gi_wp2_with fail
  refine ⟨trivial, (callsIn_wide.2 (eachPart_any _ _ _ _)).mono ?_⟩
  rintro _ w' ⟨rfl, rfl⟩
  gi_wp2_with fail
  obtain ⟨h, hh⟩ : ∃ h, h = w.heap.size := ⟨_, rfl⟩
  obtain ⟨W3, hW3⟩ : ∃ W3, W3 = ((w.alloc (.cells #[.slice none 0 0] 22)).alloc (.cells #[.int .i64 0] 24)).alloc (.cells #[.slice none 0 0] 22) := ⟨_, rfl⟩
  have s3 : W3.heap.size = h + 3 := by rw [hW3, hh]; simp
  have x2 : Boxed W3 h 22 (.slice none 0 0) := by rw [hW3, hh]; exact ((Boxed.new w 22 (.slice none 0 0)).alloc _).alloc _
  have x3 : Boxed W3 (h + 1) 24 (.int .i64 0) := by
    have h9 := (Boxed.new (w.alloc (.cells #[.slice none 0 0] 22)) 24 (.int .i64 0)).alloc (.cells #[.slice none 0 0] 22)
    rw [World.size_alloc, ← hW3, ← hh] at h9
    exact h9
  have x4 : Boxed W3 (h + 2) 22 (.slice none 0 0) := by
    have h9 := Boxed.new ((w.alloc (.cells #[.slice none 0 0] 22)).alloc (.cells #[.int .i64 0] 24)) 22 (.slice none 0 0)
    rw [World.size_alloc, World.size_alloc, ← hW3, ← hh] at h9
    exact h9
  have b3 : Below h w W3 := by rw [hW3, hh]; exact (((Below.refl _ w).alloc (Nat.le_refl _) _).alloc (by simp) _).alloc (by simp; omega) _
  obtain ⟨W0, hW0⟩ : ∃ W0, W0 = W3.alloc (.cells #[.slice a N cap] 23) := ⟨_, rfl⟩
  have s0 : W0.heap.size = h + 4 := by rw [hW0, World.size_alloc, s3]
  have xk : W0.cell? ⟨h + 3, 0, none⟩ = some (.slice a N cap) := by
    have h9 := (Boxed.new W3 23 (.slice a N cap)).cell
    rw [s3, ← hW0] at h9
    exact h9
  have p0 : Hid (PAt h w [] W0) := by
    show PAt _ _ _ _
    rw [hW0]
    exact ⟨x2.alloc _, x3.alloc _, ⟨_, x4.alloc _, World.ownsRow_nil _ _ _ _, trivial⟩, b3.alloc (by omega) _, by rw [World.size_alloc]; omega, by simp, by simp⟩
  have hBB : BytesB h W0 a x := by
    have h9 := (BytesB.of HB.out).keep (p0.out.bel.mono (Nat.le_of_eq hh.symm))
    rw [← hh] at h9
    exact h9
  have hN64 : x.length ≤ 64 := by have := HN.out; omega
  have hNc : x.length ≤ cap := by have := HN.out; omega
  rw [HN.out] at xk
  have hseq := each_stops (3 - 1) (h + 3) x a cap hN64 hNc h W0 (by omega) (by omega) xk hBB
  rw [← hW3, ← hW0]
  rw [show w.heap.size = h from hh.symm]
  have Hh := hid hh
  clear x2 x3 x4 b3 hBB xk hW3 hW0 hh
  refine wpIn_rangeFunc_ownF rfl (by omega) (gf := 45) (lb := #[.pointer (some ⟨h + 3, 0, none⟩)]) rfl trivial (enters_of Tryd.func45 (by kernel_rfl) rfl)
    hseq belowK_t (belowK_b (by omega)) (Below.refl _ _) (fun _ => rfl) (fun pre W => PAt h w pre W) (fun c pre W => PEnd h w c pre W) (pAt_own h w Hh.out _ (by omega)) (fun c => pEnd_own h w Hh.out c _ (by omega)) p0.out
    (fun y => { tmps := #[.slice a N cap, undef, .pointer (some ⟨h, 0, none⟩), .pointer (some ⟨h + 1, 0, none⟩), .pointer (some ⟨h + 2, 0, none⟩), .string ⟨y.1.toArray⟩, .bool y.2, .slice a N cap, .int .i64 (N : Int), .bool false, .slice a N cap, .func (.func 45) #[] #[.pointer (some ⟨h + 3, 0, none⟩)], .string ⟨y.1.toArray⟩, .bool y.2, undef, undef, undef, undef, undef, undef, undef, undef, undef, undef, undef, undef, undef, undef, undef], defers := [] }) ?assign ?body ?done ?stop
  case assign =>
    intro l y W Kk hKk
    gi_wp2
    exact hKk
  case body =>
    rintro l pre ⟨t, ok⟩ W hI hlt
    obtain ⟨v, hv, hown, _⟩ := hI.box4
    obtain ⟨a4, c4, rfl, _, _⟩ := texts_of_own hown
    have k2 := hI.box2.cell
    have k3 := hI.box3.cell
    have k4 := hv.cell
    have f2 := hI.box2.frozen
    have k3' : (W.setCell ⟨h, 0, none⟩ (.slice none 0 0)).cell? ⟨h + 1, 0, none⟩ = some (.int .i64 0) := (hI.box3.other (by omega) _).cell
    have f3' : (W.setCell ⟨h, 0, none⟩ (.slice none 0 0)).frozen? ⟨h + 1, 0, none⟩ = false := (hI.box3.other (by omega) _).frozen
    have hleave : ∀ y : Prt, (y.2 = false ∨ pre.length = 8) → PEnd h w .ret (pre ++ [y]) ((W.setCell ⟨h, 0, none⟩ (.slice none 0 0)).setCell ⟨h + 1, 0, none⟩ (.int .i64 3)) := fun y hy =>
      ⟨rfl, (hI.box2.set _).other (by omega) _, (hI.box3.other (by omega) _).set _, (hI.bel.setCell (p := ⟨h, 0, none⟩) (Nat.le_refl _) _).setCell (p := ⟨h + 1, 0, none⟩) (by show h ≤ h + 1; omega) _, by
        rcases hy with hy | hy
        · exact .inl ⟨y, by simp, hy⟩
        · exact .inr (by rw [List.length_append, hy]; simp)⟩
    have hkeep : KeepsOthers W ((W.setCell ⟨h, 0, none⟩ (.slice none 0 0)).setCell ⟨h + 1, 0, none⟩ (.int .i64 3)) := (KeepsOthers.setCell _ _ _).trans (KeepsOthers.setCell _ _ _)
    have Hleave := hid hleave
    have Hkeep := hid hkeep
    have Hlo : Hid ((outT pre).length = pre.length) := outT_length pre
    have HI := hid hI
    have Hv := hid hv
    have Hown := hid hown
    obtain ⟨L, hL⟩ : ∃ L, L = (outT pre).length := ⟨_, rfl⟩
    have HL := hid hL
    rw [← hL] at k4 Hv Hown
    have Hown1 : Hid (W.ownsRow h 9 1 (.slice a4 L c4) (outT pre).length (strsOf (outT pre))) := (by show World.ownsRow _ _ _ _ _ _ _; rw [← hL]; exact Hown.out)
    clear hleave hkeep hI hv hown hL
    cases ok with
    | false =>
      gi_wp2
      exact ⟨Hkeep.out, Hleave.out _ (.inl rfl)⟩
    | true =>
      by_cases h8 : L = 8
      · have q8 : ((L : Int) == 8) = true := by rw [beq_iff_eq]; omega
        gi_wp2
        exact ⟨Hkeep.out, Hleave.out _ (.inr (by have := HL.out; have := Hlo.out; omega))⟩
      · have q8 : ((L : Int) == 8) = false := by rw [beq_eq_false_iff_ne]; omega
        clear k2 k3 f2 k3' f3'
        have hL8 : L < 8 := by have := HL.out; have := Hlo.out; have := HI.out.good.2; omega
        gi_wp2_with (with_reducible show Go.wpListIn _ _ _ _ _ ({ dst := some 24, op := _, type := _, pos := _, after := _, guard := _ } :: _) _ _; refine stopP ?_)
        show wpListIn _ _ _ _ _ _ _ _
        refine appIn_text (ro := some l) W rfl (.tmp 21) (.tmp 23) rfl h (.slice a4 L c4) (outT pre) rfl Hown1.out ⟨t.toArray⟩ rfl (by have := HL.out; omega) (by have := HI.out.siz; omega) ?_
        intro v' W' ho' hb' hg'
        have nb2 : some h ≠ (Value.slice a4 L c4).ownBlock := HI.out.box2.not_row (by decide) Hown1.out
        have nb3 : some (h + 1) ≠ (Value.slice a4 L c4).ownBlock := HI.out.box3.not_row (by decide) Hown1.out
        have nb4 : some (h + 2) ≠ (Value.slice a4 L c4).ownBlock := Hv.out.not_row (by decide) Hown1.out
        have x2 : Boxed W' h 22 (.slice none 0 0) := (HI.out.box2.alloc _).kept hg' nb2
        have x3 : Boxed W' (h + 1) 24 (.int .i64 0) := (HI.out.box3.alloc _).kept hg' nb3
        have x4 : Boxed W' (h + 2) 22 (.slice a4 L c4) := (Hv.out.alloc _).kept hg' nb4
        have k4' := x4.cell
        have f4' := x4.frozen
        have hko : KeepsOthers W W' := (KeepsOthers.alloc W _).trans (KeepsOthers.of_grownBy hg' (fun j o ej hj => by
          rcases (Hown1.out.alloc (.cells #[.string ⟨t.toArray⟩] 9)).2 with ⟨e0, _⟩ | ⟨g, cp, cur, hv0, _, hgb, _⟩
          · rw [e0] at ej; simp [Value.ownBlock] at ej
          · rw [hv0] at ej
            have hgj : g = j := by simpa [Value.ownBlock] using ej
            rw [hgj, hj] at hgb
            cases hgb
            rfl))
        obtain ⟨v1, v2, v3, rfl⟩ : ∃ v1 v2 v3, v' = .slice v1 v2 v3 := by
          obtain ⟨a9, c9, e9, _, _⟩ := texts_of_own ho'
          exact ⟨_, _, _, e9⟩
        have hfin : PAt h w (pre ++ [(t, true)]) (W'.setCell ⟨h + 2, 0, none⟩ (.slice v1 v2 v3)) :=
          ⟨x2.other (by omega) _, x3.other (by omega) _, ⟨_, x4.set _, own_setK (by rw [outT_snoc]; exact ho') (x4.not_row (by decide) ho') _, trivial⟩, (HI.out.bel.trans hb').setCell (p := ⟨h + 2, 0, none⟩) (by show h ≤ h + 2; omega) _, (by rw [World.size_setCell]; exact Nat.le_trans HI.out.siz hb'.size), fun y hy => (by
            rcases List.mem_append.1 hy with hy | hy
            · exact HI.out.good.1 y hy
            · simp at hy; rw [hy]), by rw [List.length_append]; have := HL.out; have := Hlo.out; simp; omega⟩
        have Hfin := hid hfin
        have Hko2 : Hid (KeepsOthers W (W'.setCell ⟨h + 2, 0, none⟩ (.slice v1 v2 v3))) := hko.trans (KeepsOthers.setCell _ _ _)
        have Hbb : Hid (Below h W (W'.setCell ⟨h + 2, 0, none⟩ (.slice v1 v2 v3))) := hb'.setCell (p := ⟨h + 2, 0, none⟩) (by show h ≤ h + 2; omega) _
        clear hfin hko ho' hb' hg' nb2 nb3 nb4 x2 x3 x4 k4
        show wpListIn (Fence.wide.inRound l) _ _ _ _ _ _ _
        gi_wp2
        exact ⟨Hko2.out, Hbb.out, Hfin.out⟩
  case stop =>
    rintro D c pre W hD hpre hE hK
    obtain ⟨rfl, e2, e3, eb, ebad⟩ := hE
    obtain ⟨r1, r2⟩ := Hnone.out (seq_bad x pre hpre ebad)
    subst r1
    subst r2
    have c2 := cell_kept e2.cell (grownBy_putObj' _ D (.deferred none)) (fun r e => by cases e; exact ⟨_, hK, rfl⟩)
    have c3 := cell_kept e3.cell (grownBy_putObj' _ D (.deferred none)) (fun r e => by cases e; exact ⟨_, hK, rfl⟩)
    have bE : Below h w (W.putObj D (.deferred none)) := eb.trans (belowK_b (w := W0) (by omega) W D _ _ hD hK rfl rfl)
    rw [Hh.out] at bE
    have HK := hid hK
    clear hK
    gi_wp2
    refine ⟨by simp, .inl ⟨_, _, rfl, run_takeDeferred HK.out, ?_⟩⟩
    refine ⟨.tuple #[.slice none 0 0, .int .i64 3], ?_, TextsPost.none _ bE⟩
    simp [results, Tryd.f14, go_sem, c2, c3]
  case done =>
    rintro D xs W hD hxs hI hK
    obtain ⟨v, hv, hown, _⟩ := hI.box4
    obtain ⟨a4, c4, rfl, _, hc4⟩ := texts_of_own hown
    have hall := seqF_parts x.length x (Nat.le_refl _) (by rw [← hxs]; exact hI.good.1)
    rw [← hxs] at hall
    have hlo := outT_length xs
    obtain ⟨L, hL⟩ : ∃ L, L = (outT xs).length := ⟨_, rfl⟩
    have k4 := hv.cell
    rw [← hL] at k4 hc4
    have k2 := hI.box2.cell
    have f2 := hI.box2.frozen
    by_cases h0 : L = 0
    · have q0 : ((L : Int) == 0) = true := by rw [beq_iff_eq]; omega
      have k3' : (W.setCell ⟨h, 0, none⟩ (.slice none 0 0)).cell? ⟨h + 1, 0, none⟩ = some (.int .i64 0) := (hI.box3.other (by omega) _).cell
      have f3' : (W.setCell ⟨h, 0, none⟩ (.slice none 0 0)).frozen? ⟨h + 1, 0, none⟩ = false := (hI.box3.other (by omega) _).frozen
      obtain ⟨W2, hW2⟩ : ∃ W2, W2 = (W.setCell ⟨h, 0, none⟩ (.slice none 0 0)).setCell ⟨h + 1, 0, none⟩ (.int .i64 3) := ⟨_, rfl⟩
      have e2 : Boxed W2 h 22 (.slice none 0 0) := by rw [hW2]; exact (hI.box2.set _).other (by omega) _
      have e3 : Boxed W2 (h + 1) 24 (.int .i64 3) := by rw [hW2]; exact (hI.box3.other (by omega) _).set _
      have hK2 : W2.heap[D]? = some (.deferred (some [])) := by rw [hW2]; exact ((KeepsOthers.setCell _ _ _).trans (KeepsOthers.setCell _ _ _)).same D _ hK rfl
      have bE : Below h w (W2.putObj D (.deferred none)) := by
        have h9 : Below h w W2 := by rw [hW2]; exact (hI.bel.setCell (p := ⟨h, 0, none⟩) (Nat.le_refl _) _).setCell (p := ⟨h + 1, 0, none⟩) (by show h ≤ h + 1; omega) _
        exact h9.trans (belowK_b (w := W0) (by omega) W2 D _ _ hD hK2 rfl rfl)
      rw [Hh.out] at bE
      have c2 := cell_kept e2.cell (grownBy_putObj' _ D (.deferred none)) (fun r e => by cases e; exact ⟨_, hK2, rfl⟩)
      have c3 := cell_kept e3.cell (grownBy_putObj' _ D (.deferred none)) (fun r e => by cases e; exact ⟨_, hK2, rfl⟩)
      have hxn : xs = [] := List.length_eq_zero_iff.1 (by omega)
      obtain ⟨r1, r2⟩ := Hnone.out (fun ps hp => by
        rw [hxn] at hall
        have h9 := (key_inj _ _).1 (hp.1.trans hall.symm)
        rw [h9] at hp
        have := hp.2
        simp at this)
      subst r1
      subst r2
      have HK := hid hK2
      have HW2 := hid hW2
      clear hK hK2 hW2 hall hI hv hown hxn hL hxs hlo
      gi_wp2
      rw [← HW2.out]
      refine ⟨by simp, .inl ⟨_, _, rfl, run_takeDeferred HK.out, ?_⟩⟩
      refine ⟨.tuple #[.slice none 0 0, .int .i64 3], ?_, TextsPost.none _ bE⟩
      simp [results, Tryd.f14, go_sem, c2, c3]
    · have q0 : ((L : Int) == 0) = false := by rw [beq_eq_false_iff_ne]; omega
      have k4' : (W.setCell ⟨h, 0, none⟩ (.slice a4 L c4)).cell? ⟨h + 1, 0, none⟩ = some (.int .i64 0) := (hI.box3.other (by omega) _).cell
      have f3' : (W.setCell ⟨h, 0, none⟩ (.slice a4 L c4)).frozen? ⟨h + 1, 0, none⟩ = false := (hI.box3.other (by omega) _).frozen
      obtain ⟨W2, hW2⟩ : ∃ W2, W2 = (W.setCell ⟨h, 0, none⟩ (.slice a4 L c4)).setCell ⟨h + 1, 0, none⟩ (.int .i64 0) := ⟨_, rfl⟩
      have e2 : Boxed W2 h 22 (.slice a4 L c4) := by rw [hW2]; exact (hI.box2.set _).other (by omega) _
      have e3 : Boxed W2 (h + 1) 24 (.int .i64 0) := by rw [hW2]; exact (hI.box3.other (by omega) _).set _
      have o2 : W2.ownsRow h 9 1 (.slice a4 L c4) (outT xs).length (strsOf (outT xs)) := by
        rw [hW2, hL]
        exact own_setK (own_setK hown (hI.box2.not_row (by decide) hown) _) (hI.box3.not_row (by decide) hown) _
      have hK2 : W2.heap[D]? = some (.deferred (some [])) := by rw [hW2]; exact ((KeepsOthers.setCell _ _ _).trans (KeepsOthers.setCell _ _ _)).same D _ hK rfl
      have bE : Below h w (W2.putObj D (.deferred none)) := by
        have h9 : Below h w W2 := by rw [hW2]; exact (hI.bel.setCell (p := ⟨h, 0, none⟩) (Nat.le_refl _) _).setCell (p := ⟨h + 1, 0, none⟩) (by show h ≤ h + 1; omega) _
        exact h9.trans (belowK_b (w := W0) (by omega) W2 D _ _ hD hK2 rfl rfl)
      rw [Hh.out] at bE
      have c2 := cell_kept e2.cell (grownBy_putObj' _ D (.deferred none)) (fun r e => by cases e; exact ⟨_, hK2, rfl⟩)
      have c3 := cell_kept e3.cell (grownBy_putObj' _ D (.deferred none)) (fun r e => by cases e; exact ⟨_, hK2, rfl⟩)
      have hT : Texts (W2.putObj D (.deferred none)) a4 (outT xs) := by
        have h9 := ownsRow_putObj o2 (.deferred none) hK2 rfl
        rw [hL] at h9
        obtain ⟨a5, c5, e5, hT5, _⟩ := texts_of_own h9
        cases e5
        exact hT5
      obtain ⟨r1, r2⟩ := Hsome.out (xs.map (·.1)) ⟨hall, by rw [List.length_map]; omega, by rw [List.length_map]; exact hI.good.2⟩
      have r3 : rr = outT xs := by rw [r2]; unfold outT; rw [List.map_map]; rfl
      subst r1
      have HK := hid hK2
      have HW2 := hid hW2
      have Hr3 := hid r3
      have HL := hid hL
      clear hK hK2 hW2 hall hI hv hown r2 r3 hL hxs hlo o2
      gi_wp2
      rw [← HW2.out]
      refine ⟨by simp, .inl ⟨_, _, rfl, run_takeDeferred HK.out, ?_⟩⟩
      refine ⟨.tuple #[.slice a4 L c4, .int .i64 0], ?_, ?_⟩
      · simp [results, Tryd.f14, go_sem, c2, c3]
      · rw [Hr3.out]
        exact ⟨a4, c4, by rw [← HL.out]; rfl, hT, bE, by rw [← HL.out]; exact hc4⟩
end Go.Proofs.YtgjahhfpfdgjhaaDoor
