/- YthfmpebgmojcaaaDoorADel2 + YthfmpebgmojcaaaDoorAPrune + YthfmpebgmojcaaaDoorALive + YthfmpebgmojcaaaDoorARw1 + YthfmpebgmojcaaaDoorARw2 -/
import Derived.Test.YthfmpebgmojcaaaDoorADel
import Derived.Laws.AppendOwnNone
import Derived.Maps.AppendAt
/- Events cut off: slices.Delete at events. -/
namespace Go.Proofs.YthfmpebgmojcaaaDoor
open Go.RowKit Go.Shelf
set_option linter.unusedVariables false
set_option maxRecDepth 20000
end Go.Proofs.YthfmpebgmojcaaaDoor
/- Prune, and Events, of a chain, by contracts. -/
namespace Go.Proofs.YthfmpebgmojcaaaDoor
open Go.RowKit Go.Shelf
set_option linter.unusedVariables false
set_option maxRecDepth 20000
attribute [local go_sem ↓] loadL_fold storeL_fold
def pruR (c : Ch) (n : Int) : Ch := if pruE c n = 0 then pruC c (n.toNat - c.bn) else c
theorem pruR_ok {c : Ch} (ok : ChOk c) (n : Int) : ChOk (pruR c n) := by
  unfold pruR
  split
  · rename_i h
    obtain ⟨k, hk, hle⟩ := pruE_zero h
    rw [hk, Int.toNat_natCast, show c.bn + k - c.bn = k by omega]
    exact pruC_ok ok hle
  · exact ok
theorem pruR_sound {c : Ch} (ok : ChOk c) (hs : Sound c) (n : Int) : Sound (pruR c n) := by
  unfold pruR
  split
  · rename_i h
    obtain ⟨k, hk, hle⟩ := pruE_zero h
    rw [hk, Int.toNat_natCast, show c.bn + k - c.bn = k by omega]
    exact hs.pru ok hle
  · exact hs
theorem pruC_cnt {c : Ch} (ok : ChOk c) {k : Nat} (h : c.bn + k ≤ c.an) : (pruC c k).cnt = c.cnt := by
  have := ok.anc
  simp [pruC, Ch.cnt]
  omega
theorem pruR_cnt {c : Ch} (ok : ChOk c) (n : Int) : (pruR c n).cnt = c.cnt := by
  unfold pruR
  split
  · rename_i h
    obtain ⟨k, hk, hle⟩ := pruE_zero h
    rw [hk, Int.toNat_natCast, show c.bn + k - c.bn = k by omega]
    exact pruC_cnt ok hle
  · rfl
end Go.Proofs.YthfmpebgmojcaaaDoor
/- What must be whatever is asked: live of the laws on chains. -/
namespace Go.Proofs.YthfmpebgmojcaaaDoor
open Go.RowKit Go.Shelf
set_option linter.unusedVariables false
set_option maxRecDepth 20000
def buildH : Sem Value := Instr.build 69 #[]
theorem buildH_fold : Instr.build 69 #[] = buildH := rfl
theorem buildH_run (w : World) : buildH.run Tryd.prog w = .ok (.agg (bvs zero32)) w := run_build (P := Tryd.prog) w 69 #[] _ built_hash
theorem storeH_new (w : World) (l m : List UInt8) (hl : l.length = 32) (hm : m.length = 32) : (storeH (.pointer (some ⟨w.heap.size, 0, none⟩)) (.agg (bvs l))).run Tryd.prog (w.alloc (.cells (bvs m) 69)) = .ok () (w.alloc (.cells (bvs l) 69)) :=
  run_storeAt_new w 69 _ (bvs l) (size_hashs l hl) (by rw [bvs_size, bvs_size, hl, hm]) (bvs_one l)
attribute [local go_sem ↓] loadL_fold storeL_fold loadH_fold storeH_fold buildH_fold
end Go.Proofs.YthfmpebgmojcaaaDoor
/- Rows of a chain, their parts: state.Texts, audit.hashRow and eventKey, by contracts. -/
namespace Go.Proofs.YthfmpebgmojcaaaDoor
open Go.RowKit
set_option linter.unusedVariables false
set_option maxRecDepth 20000
theorem Tryd.info9 : (Tryd.prog.info? 9).map (fun i => (i.zero, i.size, i.bytes)) = some (some (.string ⟨#[]⟩), 1, 16) := by kernel_rfl
def strsOf (l : List ByteArray) : List Value := l.map Value.string
theorem strsOf_length (l : List ByteArray) : (strsOf l).length = l.length := by simp [strsOf]
theorem app_text (w : World) {ops : Array Oper} {rest : List Oper} {o : Oper} {a : Act} {Q : Exit → Act → World → Prop} (hgd : o.guard = none) (sl x : Operand)
    (ho : o.op = .call { callee := .builtin .append, args := #[sl, x], argTypes := #[73, 73] }) (base : Nat) (v : Value) (xs : List ByteArray) (hs : a.eval sl = v)
    (hown : w.ownsRow base 9 1 v xs.length (strsOf xs)) (s : ByteArray) (hx : a.eval x = .slice (some ⟨w.heap.size, 0, none⟩) 1 1) (hb : (xs.length + 1) * 16 ≤ 140737488355328) (hbase : base ≤ w.heap.size)
    (h : ∀ v' w', w'.ownsRow base 9 1 v' (xs ++ [s]).length (strsOf (xs ++ [s])) → Below base w w' → (∃ g cap, v' = .slice (some ⟨g, 0, none⟩) (xs ++ [s]).length cap) → wpList Tryd.prog ops Q rest (a.put o.dst v') w') :
    wpList Tryd.prog ops Q (o :: rest) a (w.alloc (.cells #[.string s] 9)) := by
  obtain ⟨i0, hi, hz0, hz1, hz2⟩ := info_parts Tryd.info9
  refine wpList_append_own _ hgd sl x 73 ho base 9 i0 (.string ⟨#[]⟩) 1 16 Tryd.underlying73 hi hz0 hz1 hz2 rfl (by decide) v xs.length (strsOf xs) hs (hown.alloc _) ⟨w.heap.size, 0, none⟩ 1 1 [.string s] hx rfl (cell_one_new _ _ _) (fun u hu => by simp at hu; subst hu; rfl) (by unfold maxLen; omega) (by omega) (by simp; omega) ?_
  intro v' w' h1 h2 h3
  have e : strsOf xs ++ [.string s] = strsOf (xs ++ [s]) := by simp [strsOf]
  have e2 : xs.length + 1 = (xs ++ [s]).length := by simp
  rw [e, e2] at h1
  refine h v' w' h1 (((Below.refl _ _).alloc hbase _).trans ((Below.refl _ _).grown h2 (by simp; omega) (fun k hk => (hown.lt k hk).1))) ?_
  rcases h1.2 with ⟨_, h0⟩ | ⟨g, cap, _, rfl, _⟩
  · simp at h0
  · exact ⟨g, cap, rfl⟩
theorem texts_of_own {w : World} {base : Nat} {v : Value} {xs : List ByteArray} (h : w.ownsRow base 9 1 v xs.length (strsOf xs)) : ∃ a cap, v = .slice a xs.length cap ∧ Texts w a xs ∧ xs.length ≤ cap := by
  rcases h.2 with ⟨rfl, h0⟩ | ⟨g, cap, cur, rfl, _, _, hcap, _⟩
  · exact ⟨none, 0, by rw [h0], fun i hi => by omega, by omega⟩
  · refine ⟨some ⟨g, 0, none⟩, cap, rfl, fun i hi => ⟨g, 0, rfl, ?_⟩, hcap⟩
    have := h.cells (g := g) rfl i (.string xs[i]) (by simp [strsOf, hi])
    rw [addr_add] at this
    exact this
theorem own_onW {w w' : World} {B e s n : Nat} {v : Value} {xs : List Value} (h : w.ownsRow B e s v n xs) (hb : Below w.heap.size w w') : w'.ownsRow B e s v n xs := by
  refine ⟨h.1, ?_⟩
  rcases h.2 with h0 | ⟨g, cap, cur, hv, hg, hgb, r⟩
  · exact .inl h0
  · exact .inr ⟨g, cap, cur, hv, hg, (hb.block _ (heap_lt hgb)).trans hgb, r⟩
theorem txt_size (n : Nat) (h : n ≤ 4611686018427387904) : (txt n).size ≤ 100 := by
  show (numT n).toArray.size ≤ 100
  unfold numT
  split
  · decide
  · rw [List.size_toArray, List.length_cons, lo_length]
    have := (Nat.log2_lt (by omega)).2 (show n < 2 ^ 63 by omega)
    omega
def evKey (n : Nat) : ByteArray := ⟨#[110]⟩ ++ txt n
set_option maxHeartbeats 400000 in
theorem eventKey_any (n : Nat) (h : n ≤ 4611686018427387904) (w : World) (ht : TabAt w) : Calls Tryd.prog 41 #[.int .i64 (n : Int)] w fun e w' => e = .returned (.string (evKey n)) ∧ Below w.heap.size w w' := by
  have HC := hid (text_any n h w ht)
  have hs := txt_size n h
  unfold evKey
  generalize txt n = t at *
  go_enter Tryd.func41, Tryd.ntmps41
  go_wp2_with (go_at_call 42; refine HC.out.mono ?_; rintro e w1 ⟨rfl, hb⟩)
  go_ret
  exact ⟨rfl, hb⟩
def NumsIn (w : World) (b : Nat) (l : List Nat) : Prop := ∀ i (h : i < l.length), w.cell? ⟨b, i, none⟩ = some (.int .i64 (l[i] : Int))
set_option maxHeartbeats 1000000 in
theorem texts_any (w : World) (b cap : Nat) (l : List Nat) (hl : NumsIn w b l) (hsm : ∀ n ∈ l, n ≤ 4611686018427387904) (hlen : l.length ≤ 1000) (ht : TabAt w) :
    Calls Tryd.prog 39 #[.slice (some ⟨b, 0, none⟩) l.length cap] w fun e w' => ∃ v, e = .returned v ∧ w'.ownsRow w.heap.size 9 1 v l.length (strsOf (l.map txt)) ∧ Below w.heap.size w w' := by
  have HL := hid hl
  have HT := hid ht
  have Hsm := hid hsm
  clear hl ht hsm
  go_enter Tryd.func39, Tryd.ntmps39
  go_wp2_with fail
  go_loopw [3, 8] (fun v i wr => ∃ k : Nat, k ≤ l.length ∧ i = .int .i64 (k : Int) ∧ wr.ownsRow w.heap.size 9 1 v ((l.take k).map txt).length (strsOf ((l.take k).map txt)) ∧ Below w.heap.size w wr) (fun _ i _ => l.length - (intOf i).toNat)
  case atStart => exact ⟨0, Nat.zero_le _, rfl, World.ownsRow_nil _ _ _ _, Below.refl _ _⟩
  case round =>
    obtain ⟨k, hk, rfl, hown, hbel⟩ := hrel
    have Hown := hid hown
    have Hbel := hid hbel
    have hle := hbel.size
    clear hown hbel
    by_cases hlt : k < l.length
    · have g1 : (k : Int) < (l.length : Int) := by omega
      have c0 := HL.out k hlt
      have hb1 : b < w.heap.size := World.block_lt_of_cell? _ _ c0
      have c1 := (Hbel.out.cell (p := ⟨b, k, none⟩) hb1).trans c0
      have HC := hid (text_any l[k] (Hsm.out _ (List.getElem_mem hlt)) wr (by have h := HT.out; unfold TabAt at h ⊢; exact (Hbel.out.cell (World.block_lt_of_cell? _ _ h)).trans h))
      have Hst : Hid ((l.take (k + 1)).map txt = (l.take k).map txt ++ [txt l[k]]) := by show _ = _; rw [List.take_succ_eq_append_getElem hlt, List.map_append]; rfl
      have Hlk : Hid (((l.take k).map txt).length ≤ 1000) := by show _ ≤ _; simp; omega
      generalize (l[k]'hlt) = m at *
      generalize txt m = t at *
      generalize (l.take k).map txt = xs at *
      clear c0
      go_wp2_with (first
        | (go_at_call 42; refine HC.out.mono ?_; rintro e w1 ⟨rfl, hb2⟩; have Hown1 := hid (own_onW Hown.out hb2); have Hb2 := hid hb2; clear hb2)
        | (at_builtin; refine app_text _ rfl (.tmp 12) (.tmp 15) rfl w.heap.size _ xs rfl Hown1.out t rfl (by have := Hlk.out; omega) (Nat.le_trans hle Hb2.out.size) ?_; intro v' w' hown' hb' hv'; have Hown' := hid hown'; have Hb' := hid hb'; clear hown' hb' hv'))
      go_roundw
      case rel => exact ⟨k + 1, by omega, by go_num, by rw [Hst.out]; exact Hown'.out, (Below.on' Hbel.out Hb2.out).trans Hb'.out⟩
      case measure => simp [intOf]; omega
    · have hkl : k = l.length := by omega
      have g1 : ¬ (k : Int) < (l.length : Int) := by omega
      have hend := Hown.out
      rw [hkl, List.take_length, List.length_map] at hend
      have Hend := hid hend
      clear hkl Hown hend
      go_wp2
      go_ret
      exact ⟨_, rfl, Hend.out, Hbel.out⟩
end Go.Proofs.YthfmpebgmojcaaaDoor
/- audit.hashRow, by a contract. -/
namespace Go.Proofs.YthfmpebgmojcaaaDoor
open Go.RowKit
set_option linter.unusedVariables false
set_option maxRecDepth 20000
def mkB (l : List UInt8) : ByteArray := ⟨l.toArray⟩
theorem size_row : (Tryd.prog.info? 75).map (·.size) = some 2 := by kernel_rfl
theorem conv_hash {w : World} {g : Nat} {h : List UInt8} (hl : h.length = 32) (hg : w.heap[g]? = some (.cells (bvs h) 69 (0, 0))) : (convert 40 9 (.slice (some ⟨g, 0, none⟩) 32 32)).run Tryd.prog w = .ok (.string (mkB h)) w := by
  have := run_convert_bytes_back (P := Tryd.prog) w 40 9 5 ⟨g, 0, none⟩ 32 h Tryd.underlying40 Tryd.underlying5 Tryd.underlying9 (fun j hj => by
    rw [addr_add, Nat.zero_add, cell_of_row _ _ _ _ _ _ hg, bvs_get h j hj])
  rw [hl] at this
  exact this
def HRowPost (w : World) (key : ByteArray) (h : List UInt8) (e : Ending) (w' : World) : Prop :=
  ∃ g, e = .returned (.agg #[.string key, .slice (some ⟨g, 0, none⟩) 1 1]) ∧ w'.heap[g]? = some (.cells #[.string (mkB h)] 9 (0, 0)) ∧ w.heap.size ≤ g ∧ Below w.heap.size w w'
set_option maxHeartbeats 1000000 in
theorem hashRow_any (w : World) (key : ByteArray) (h : List UInt8) (hl : h.length = 32) :
    Calls Tryd.prog 40 #[.string key, .agg (bvs h)] w (HRowPost w key h) := by
  obtain ⟨O, hO⟩ : ∃ O, O = bvs h := ⟨_, rfl⟩
  have x0 : ((w.alloc (.cells O 69)).alloc (.cells #[.string ⟨#[]⟩, .slice none 0 0] 75)).heap[w.heap.size]? = some (.cells (bvs h) 69 (0, 0)) := by rw [hO]; exact heap_alloc2_old w _ _
  have hcv := conv_hash hl x0
  rw [← hO]
  clear hO x0
  obtain ⟨t, ht⟩ : ∃ t, t = mkB h := ⟨_, rfl⟩
  rw [← ht] at hcv
  have Ht := hid ht
  clear ht
  go_enter Tryd.func40, Tryd.ntmps40
  go_wp2
  obtain ⟨w2, hw2⟩ : ∃ w2, w2 = (w.alloc (.cells O 69)).alloc (.cells #[.string key, .slice (some ⟨w.heap.size + 1 + 1, 0, none⟩) 1 1] 75) := ⟨_, rfl⟩
  have s2 : w2.heap.size = w.heap.size + 1 + 1 := by rw [hw2]; simp
  have r2 : w2.heap[w.heap.size + 1]? = some (.cells #[.string key, .slice (some ⟨w.heap.size + 1 + 1, 0, none⟩) 1 1] 75 (0, 0)) := by rw [hw2]; exact heap_alloc2_new w _ _
  have b2 : Below w.heap.size w w2 := by rw [hw2]; exact ((Below.refl _ w).alloc (Nat.le_refl _) _).alloc (by simp) _
  rw [← hw2]
  have b3 : Below w2.heap.size w2 (w2.alloc (.cells #[.string t] 9)) := (Below.refl _ w2).alloc (Nat.le_refl _) _
  refine bodyPost_ret (results_cell_row rfl _ _ (w.heap.size + 1) 75 #[.string key, .slice (some ⟨w.heap.size + 1 + 1, 0, none⟩) 1 1] (0, 0) _ rfl ((b3.block _ (by omega)).trans r2) Tryd.underlying75 rfl size_row) rfl ?_
  exact ⟨w.heap.size + 1 + 1, rfl, by rw [← s2, ← Ht.out]; exact heap_alloc_new w2 _, by omega, Below.on' b2 b3⟩
end Go.Proofs.YthfmpebgmojcaaaDoor
