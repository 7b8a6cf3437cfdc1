/- YthfmpebgmojcaaaDoorARow + YthfmpebgmojcaaaDoorAMath + YthfmpebgmojcaaaDoorACh + YthfmpebgmojcaaaDoorAFn + YthfmpebgmojcaaaDoorAToNum -/
import Derived.Test.YthfmpebgmojcaaaDoorANum
import Derived.Test.YthfmpebgmojcaaaDoorRowMath
import Derived.Lib.AppendStr
import Derived.Test.YthfmpebgmojcaaaDoorHDerive
import Derived.WalkKit
import Derived.WalkSpells
import Derived.WalkLawsBesides
/- codec.Row by a contract, beside the texts on hashes. -/
namespace Go.Proofs.YthfmpebgmojcaaaDoor
open Go.RowKit
set_option linter.unusedVariables false
set_option maxRecDepth 20000
set_option maxRecDepth 20000
def Texts (w : World) (a : Option Addr) (l : List ByteArray) : Prop := ∀ i (h : i < l.length), ∃ b o, a = some ⟨b, o, none⟩ ∧ w.cell? ⟨b, o + i, none⟩ = some (.string l[i])
theorem Texts.below {w w' : World} {a : Option Addr} {l : List ByteArray} (h : Texts w a l) (hb : Below w.heap.size w w') : Texts w' a l := fun i hi => by
  obtain ⟨b, o, ha, hc⟩ := h i hi
  exact ⟨b, o, ha, (hb.cell (World.block_lt_of_cell? _ _ hc)).trans hc⟩
def bs (l : List ByteArray) : List (List UInt8) := l.map fun s => s.data.toList
theorem app_nat (w : World) {ops : Array Oper} {rest : List Oper} {o : Oper} {a : Act} {Q : Exit → Act → World → Prop} (hgd : o.guard = none) (s x : Operand)
    (ho : o.op = .call { callee := .builtin .append, args := #[s, x], argTypes := #[40, 40] }) (base : Nat) (v : Value) (xs : List UInt8) (hs : a.eval s = v)
    (hown : w.ownsRow base 5 1 v xs.length (cellsOf xs)) (n : Nat) (hn : n < 256) (hx : a.eval x = .slice (some ⟨w.heap.size, 0, none⟩) 1 1) (hb : xs.length + 1 ≤ 140737488355328) (hbase : base ≤ w.heap.size)
    (h : ∀ v' w', w'.ownsRow base 5 1 v' (xs ++ [UInt8.ofNat n]).length (cellsOf (xs ++ [UInt8.ofNat n])) → Below base w w' → (0 < (xs ++ [UInt8.ofNat n]).length → ∃ g cap, v' = .slice (some ⟨g, 0, none⟩) (xs ++ [UInt8.ofNat n]).length cap) → wpList Tryd.prog ops Q rest (a.put o.dst v') w') :
    wpList Tryd.prog ops Q (o :: rest) a (w.alloc (.cells #[.int .u8 (n : Int)] 5)) := by
  have e : (#[.int .u8 (n : Int)] : Array Value) = (cellsOf [UInt8.ofNat n]).toArray := by
    simp only [cellsOf, List.map_cons, List.map_nil, UInt8.toNat_ofNat']
    rw [Nat.mod_eq_of_lt (by omega)]
  rw [e]
  exact app_lits w hgd s x ho base v xs hs hown [UInt8.ofNat n] 1 rfl hx hb hbase h
theorem app_str (w : World) {ops : Array Oper} {rest : List Oper} {o : Oper} {a : Act} {Q : Exit → Act → World → Prop} (hgd : o.guard = none) (sl x : Operand)
    (ho : o.op = .call { callee := .builtin .append, args := #[sl, x], argTypes := #[40, 9] }) (base : Nat) (v : Value) (xs : List UInt8) (hs : a.eval sl = v)
    (hown : w.ownsRow base 5 1 v xs.length (cellsOf xs)) (s : ByteArray) (hx : a.eval x = .string s) (hb : xs.length + s.size ≤ 140737488355328) (hbase : base ≤ w.heap.size)
    (h : ∀ v' w', w'.ownsRow base 5 1 v' (xs ++ s.data.toList).length (cellsOf (xs ++ s.data.toList)) → Below base w w' → (0 < (xs ++ s.data.toList).length → ∃ g cap, v' = .slice (some ⟨g, 0, none⟩) (xs ++ s.data.toList).length cap) → wpList Tryd.prog ops Q rest (a.put o.dst v') w') :
    wpList Tryd.prog ops Q (o :: rest) a w := by
  obtain ⟨i0, hi, hz0, hz1, hz2⟩ := info_parts Tryd.info5
  refine Lib.wpList_append_own_string w hgd sl x 40 9 ho base 5 i0 Tryd.underlying40 Tryd.underlying9 hi hz0 hz1 hz2 v xs.length (cellsOf xs) hs hown s hx (by unfold maxLen; omega) hb hbase ?_
  intro v' w' h1 h2 h3
  have e : cellsOf xs ++ Lib.strCells s = cellsOf (xs ++ s.data.toList) := by rw [cellsOf_append]; rfl
  have e2 : xs.length + s.size = (xs ++ s.data.toList).length := by rw [List.length_append, ← Lib.size_eq]
  rw [e, e2] at h1
  refine h v' w' h1 ((Below.refl _ _).grown h2 hbase (fun k hk => (hown.lt k hk).1)) (fun hpos => ?_)
  rcases h1.2 with ⟨_, h0⟩ | ⟨g, cap, _, rfl, _⟩
  · omega
  · exact ⟨g, cap, rfl⟩
def rowErr (l : List ByteArray) : Nat := if 8 < l.length then 2 else if l.any (fun s => decide (70 < s.size)) = true then 6 else if 72 < (rowOf (bs l)).length then 6 else 0
def rowRes (l : List ByteArray) : List UInt8 := if rowErr l = 0 then rowOf (bs l) else []
theorem own_lit (w : World) (n : Nat) (hn : n < 256) : (w.alloc (.cells #[.int .u8 (n : Int)] 5)).ownsRow w.heap.size 5 1 (.slice (some ⟨w.heap.size, 0, none⟩) 1 1) 1 (cellsOf [UInt8.ofNat n]) := by
  have e : (cellsOf [UInt8.ofNat n]) = [.int .u8 (n : Int)] := by
    simp only [cellsOf, List.map_cons, List.map_nil, UInt8.toNat_ofNat']
    rw [Nat.mod_eq_of_lt (by omega)]
  rw [e]
  exact ⟨rfl, .inr ⟨w.heap.size, 1, #[.int .u8 (n : Int)], rfl, Nat.le_refl _, heap_alloc_new w _, Nat.le_refl _, by decide, rfl, rfl⟩⟩
def rowTo (l : List ByteArray) (k : Nat) : List UInt8 := UInt8.ofNat l.length :: body (bs (l.take k))
theorem rowTo_step (l : List ByteArray) (k : Nat) (h : k < l.length) : rowTo l (k + 1) = (rowTo l k ++ [UInt8.ofNat l[k].size]) ++ l[k].data.toList := by
  unfold rowTo
  rw [List.take_succ_eq_append_getElem h]
  simp only [bs, List.map_append, List.map_cons, List.map_nil, body_append, body, col, List.append_nil, ← Lib.size_eq, List.cons_append, List.append_assoc, List.nil_append]
theorem rowTo_bound (l : List ByteArray) (k : Nat) (hk : k ≤ l.length) (hs : ∀ s ∈ l.take k, s.size ≤ 70) : (rowTo l k).length ≤ 1 + k * 71 := by
  induction k with
  | zero => simp [rowTo, bs, body]
  | succ k ih =>
    have h1 := ih (by omega) (fun s hs' => hs s (by
      rw [List.take_succ_eq_append_getElem (show k < l.length by omega)]
      exact List.mem_append_left _ hs'))
    have h2 := hs l[k] (by
      rw [List.take_succ_eq_append_getElem (show k < l.length by omega)]
      exact List.mem_append_right _ (List.mem_singleton.2 rfl))
    rw [rowTo_step l k (by omega)]
    simp only [List.length_append, List.length_cons, List.length_nil]
    rw [← Lib.size_eq]
    omega
set_option maxHeartbeats 400000 in
theorem row_any (l : List ByteArray) (a : Option Addr) (cap : Nat) (w : World) (hT : Texts w a l) (hsz : ∀ s ∈ l, s.size ≤ 140737488351232) (hlen : l.length ≤ 140737488351232) :
    Calls Tryd.prog 88 #[.slice a l.length cap] w fun e w' => ∃ a' cap', e = .returned (.tuple #[.slice a' (rowRes l).length cap', .int .i64 (rowErr l : Int)]) ∧ Bytes w' a' (rowRes l) ∧ Below w.heap.size w w' ∧ (rowRes l).length ≤ cap' := by
  by_cases h8 : 8 < l.length
  · have e1 : rowErr l = 2 := by unfold rowErr; rw [if_pos h8]
    have e2 : rowRes l = [] := by unfold rowRes; rw [e1, if_neg (by omega)]
    rw [e1, e2]
    go_enter Tryd.func88, Tryd.ntmps88
    go_wp2
    go_ret2
    exact ⟨none, 0, rfl, fun i hi => by simp at hi, Below.refl _ _, Nat.le_refl _⟩
  have HT := hid hT
  have Hsz := hid hsz
  clear hT hsz
  have Hown := hid (own_lit w l.length (by omega))
  have E : Hid (∀ e r, rowErr l = e → rowRes l = r → rowErr l = e) := fun _ _ h _ => h
  generalize he : rowErr l = er
  generalize hr : rowRes l = rr
  have He := hid he
  have Hr := hid hr
  clear he hr E
  go_enter Tryd.func88, Tryd.ntmps88
  go_wp2_with fail
  go_loopw [4, 16] (fun v i wr => ∃ k : Nat, k ≤ l.length ∧ i = .int .i64 k ∧ wr.ownsRow w.heap.size 5 1 v (rowTo l k).length (cellsOf (rowTo l k)) ∧ Below w.heap.size w wr ∧ ∀ s ∈ l.take k, s.size ≤ 70) (fun _ i _ => l.length - (intOf i).toNat)
  case atStart => exact ⟨0, Nat.zero_le _, rfl, Hown.out, (Below.refl _ _).alloc (Nat.le_refl _) _, by simp⟩
  case round =>
    obtain ⟨k, hk, rfl, hownr, hbel, hsm⟩ := hrel
    have hbd := rowTo_bound l k hk hsm
    have Hownr := hid hownr
    have hszr := hbel.size
    have Hbel := hid hbel
    have Hsm := hid hsm
    clear hownr hbel hsm
    by_cases hlt : k < l.length
    · obtain ⟨b, o, ha, hc⟩ := (HT.out.below Hbel.out) k hlt
      have Hstep := hid (rowTo_step l k hlt)
      have Hmem : Hid (l[k]'hlt ∈ l) := List.getElem_mem _
      have Htk : Hid (l.take (k + 1) = l.take k ++ [l[k]'hlt]) := List.take_succ_eq_append_getElem hlt
      generalize (l[k]'hlt) = s at hc Hstep Hmem Htk
      subst ha
      have hs47 := Hsz.out s Hmem.out
      by_cases h70 : 70 < s.size
      · have e1 : er = 6 := by
          rw [← He.out]
          unfold rowErr
          rw [if_neg h8, if_pos (List.any_eq_true.2 ⟨s, Hmem.out, by simpa using h70⟩)]
        have e2 : rr = [] := by rw [← Hr.out]; unfold rowRes; rw [He.out, e1, if_neg (by omega)]
        subst e1
        subst e2
        go_wp2
        go_ret2
        exact ⟨none, 0, rfl, fun i hi => by simp at hi, Hbel.out, Nat.le_refl _⟩
      · generalize hys : rowTo l k = ys at Hownr hbd Hstep
        have Hys := hid hys
        clear hys
        go_wp2_with (first | (at_builtin; refine app_nat _ rfl (.tmp 23) (.tmp 27) rfl w.heap.size _ ys rfl Hownr.out s.size (by omega) rfl (by omega) (by omega) ?_; intro v1 w1 ho1 hb1 hs1) | (at_builtin; refine app_str _ rfl (.tmp 29) (.tmp 30) rfl w.heap.size _ (ys ++ [UInt8.ofNat s.size]) rfl ho1 s rfl (by simp; omega) (by have := hb1.size; omega) ?_; intro v2 w2 ho2 hb2 hs2))
        go_roundw
        case rel =>
          refine ⟨k + 1, by omega, by go_num, by rw [Hstep.out]; exact ho2, Hbel.out.trans (hb1.trans hb2), ?_⟩
          intro t ht
          rw [Htk.out] at ht
          rcases List.mem_append.1 ht with h | h
          · exact Hsm.out t h
          · have : t = s := by simpa using h
            subst this
            omega
        case measure => simp [intOf]; omega
    · have hk' : k = l.length := by omega
      have hany : l.any (fun s => decide (70 < s.size)) = false := by
        rw [← Bool.not_eq_true, List.any_eq_true]
        rintro ⟨s, hs, h⟩
        have := Hsm.out s (by rw [hk', List.take_length]; exact hs)
        simp at h
        omega
      have hrow : rowTo l k = rowOf (bs l) := by
        unfold rowTo rowOf
        rw [hk', List.take_length]
        simp [bs]
      rw [hrow] at Hownr hbd
      obtain ⟨av, cv, hv, hB, hcap⟩ := bytes_of_own Hownr.out
      have HB := hid hB
      clear hB
      by_cases h72 : 72 < (rowOf (bs l)).length
      · have e1 : er = 6 := by
          rw [← He.out]
          unfold rowErr
          rw [if_neg h8, hany, if_neg (by simp), if_pos h72]
        have e2 : rr = [] := by rw [← Hr.out]; unfold rowRes; rw [He.out, e1, if_neg (by omega)]
        subst e1
        subst e2
        subst hv
        clear hany hrow hk'
        go_wp2
        go_ret2
        exact ⟨none, 0, rfl, fun i hi => by simp at hi, Hbel.out, Nat.le_refl _⟩
      · have e1 : er = 0 := by
          rw [← He.out]
          unfold rowErr
          rw [if_neg h8, hany, if_neg (by simp), if_neg h72]
        have e2 : rr = rowOf (bs l) := by rw [← Hr.out]; unfold rowRes; rw [He.out, e1, if_pos rfl]
        subst e1
        subst e2
        subst hv
        clear hany hrow hk'
        go_wp2
        go_ret2
        exact ⟨av, cv, rfl, HB.out, Hbel.out, hcap⟩
end Go.Proofs.YthfmpebgmojcaaaDoor
/- A chain of events: plain mathematics over hashes and rows. -/
namespace Go.Proofs.YthfmpebgmojcaaaDoor
open Go.RowKit
set_option linter.unusedVariables false
set_option maxRecDepth 20000
set_option maxRecDepth 20000
structure Ev where
  num : Nat
  tim : Nat
  what : ByteArray
  who : ByteArray
def txt (n : Nat) : ByteArray := ⟨(numT n).toArray⟩
def evL (e : Ev) : List ByteArray := [txt e.num, txt e.tim, e.what, e.who]
def evB (e : Ev) : List UInt8 := rowRes (evL e)
def nextH (h : List UInt8) (e : Ev) : List UInt8 := sha (h ++ evB e)
def endH (h : List UInt8) (l : List Ev) : List UInt8 := l.foldl nextH h
theorem nextH_length (h : List UInt8) (e : Ev) : (nextH h e).length = 32 := sha_length _
theorem endH_length (h : List UInt8) (l : List Ev) (hh : h.length = 32) : (endH h l).length = 32 := by
  induction l generalizing h with
  | nil => exact hh
  | cons e l ih => exact ih _ (nextH_length _ _)
theorem endH_snoc (h : List UInt8) (l : List Ev) (e : Ev) : endH h (l ++ [e]) = nextH (endH h l) e := by simp [endH]
theorem endH_append (h : List UInt8) (l m : List Ev) : endH h (l ++ m) = endH (endH h l) m := by simp [endH]
theorem endH_take (h : List UInt8) (l : List Ev) (k : Nat) (hk : k < l.length) : endH h (l.take (k + 1)) = nextH (endH h (l.take k)) l[k] := by
  rw [List.take_succ_eq_append_getElem hk, endH_snoc]
structure Ch where
  bn : Nat
  bh : List UInt8
  an : Nat
  ah : List UInt8
  ev : List Ev
  hd : List UInt8
  la : Nat
def zero32 : List UInt8 := List.replicate 32 0
def ch0 : Ch := ⟨0, zero32, 0, zero32, [], zero32, 0⟩
structure ChOk (c : Ch) : Prop where
  lb : c.bh.length = 32
  lan : c.ah.length = 32
  lh : c.hd.length = 32
  num : ∀ i (h : i < c.ev.length), c.ev[i].num = c.bn + i + 1
  few : c.ev.length ≤ 64
  anc : c.an ≤ c.bn + c.ev.length
  tim : ∀ e ∈ c.ev, e.tim ≤ c.la
  las : c.la ≤ 1099511627776
  siz : ∀ e ∈ c.ev, e.what.size ≤ 12 ∧ e.who.size ≤ 30
structure Lens (c : Ch) : Prop where
  lb : c.bh.length = 32
  lan : c.ah.length = 32
  lh : c.hd.length = 32
theorem ChOk.l {c : Ch} (h : ChOk c) : Lens c := ⟨h.lb, h.lan, h.lh⟩
theorem ch0_ok : ChOk ch0 := ⟨by decide, by decide, by decide, fun i h => by simp [ch0] at h, by decide, by decide, fun e h => by simp [ch0] at h, by decide, fun e h => by simp [ch0] at h⟩
def Ch.cnt (c : Ch) : Nat := c.bn + c.ev.length
def Ch.at (c : Ch) (k : Nat) : List UInt8 := endH c.bh (c.ev.take k)
theorem Ch.at_length {c : Ch} (h : ChOk c) (k : Nat) : (c.at k).length = 32 := endH_length _ _ h.lb
theorem Ch.at_zero (c : Ch) : c.at 0 = c.bh := by simp [Ch.at, endH]
theorem Ch.at_all (c : Ch) : c.at c.ev.length = endH c.bh c.ev := by simp [Ch.at]
def addE (c : Ch) (t : Int) (what who : ByteArray) : Int :=
  if t < 0 ∨ 1099511627776 < t then 2 else if 12 < what.size ∨ 30 < who.size then 6 else if t < (c.la : Int) then 9 else if 64 ≤ c.ev.length then 26 else 0
def newE (c : Ch) (t : Int) (what who : ByteArray) : Ev := ⟨c.cnt + 1, t.toNat, what, who⟩
def addC (c : Ch) (t : Int) (what who : ByteArray) : Ch := { c with ev := c.ev ++ [newE c t what who], hd := nextH c.hd (newE c t what who), la := t.toNat }
theorem addE_zero {c : Ch} {t : Int} {what who : ByteArray} (h : addE c t what who = 0) : 0 ≤ t ∧ t ≤ 1099511627776 ∧ what.size ≤ 12 ∧ who.size ≤ 30 ∧ (c.la : Int) ≤ t ∧ c.ev.length < 64 := by
  unfold addE at h
  split at h
  · cases h
  · split at h
    · cases h
    · split at h
      · cases h
      · split at h
        · cases h
        · omega
theorem addC_ok {c : Ch} (ok : ChOk c) {t : Int} {what who : ByteArray} (h : addE c t what who = 0) : ChOk (addC c t what who) := by
  obtain ⟨h1, h2, h3, h4, h5, h6⟩ := addE_zero h
  refine ⟨ok.lb, ok.lan, nextH_length _ _, fun i hi => ?_, by simp [addC]; omega, by simp [addC]; have := ok.anc; omega, fun e he => ?_, by simp [addC]; omega, fun e he => ?_⟩
  · simp only [addC, List.length_append, List.length_cons, List.length_nil] at hi
    simp only [addC]
    by_cases hl : i < c.ev.length
    · rw [List.getElem_append_left hl]; exact ok.num i hl
    · have : i = c.ev.length := by omega
      subst this
      rw [List.getElem_append_right (Nat.le_refl _)]
      simp [newE, Ch.cnt]
  · simp only [addC, List.mem_append, List.mem_singleton] at he ⊢
    rcases he with he | rfl
    · have := ok.tim e he; omega
    · exact Nat.le_refl _
  · simp only [addC, List.mem_append, List.mem_singleton] at he
    rcases he with he | rfl
    · exact ok.siz e he
    · exact ⟨h3, h4⟩
def ancC (c : Ch) : Ch := { c with an := c.cnt, ah := c.hd }
theorem ancC_ok {c : Ch} (ok : ChOk c) : ChOk (ancC c) := ⟨ok.lb, ok.lh, ok.lh, ok.num, ok.few, Nat.le_refl _, ok.tim, ok.las, ok.siz⟩
def pruE (c : Ch) (n : Int) : Int := if (c.an : Int) < n ∨ n < (c.bn : Int) then 2 else 0
def pruC (c : Ch) (k : Nat) : Ch := { c with bn := c.bn + k, bh := c.at k, ev := c.ev.drop k }
theorem pruE_zero {c : Ch} {n : Int} (h : pruE c n = 0) : ∃ k : Nat, n = ((c.bn + k : Nat) : Int) ∧ c.bn + k ≤ c.an := by
  unfold pruE at h
  split at h
  · cases h
  · exact ⟨n.toNat - c.bn, by omega, by omega⟩
theorem pruC_ok {c : Ch} (ok : ChOk c) {k : Nat} (h : c.bn + k ≤ c.an) : ChOk (pruC c k) := by
  have := ok.anc
  refine ⟨Ch.at_length ok k, ok.lan, ok.lh, fun i hi => ?_, by simp [pruC]; have := ok.few; omega, by simp [pruC]; omega, fun e he => ok.tim e (List.mem_of_mem_drop he), ok.las, fun e he => ok.siz e (List.mem_of_mem_drop he)⟩
  simp only [pruC, List.length_drop] at hi
  simp only [pruC, List.getElem_drop]
  rw [ok.num (k + i) (by omega)]
  omega
def verE (c : Ch) : Int := if (c.bn ≤ c.an ∧ c.at (c.an - c.bn) ≠ c.ah) ∨ c.at c.ev.length ≠ c.hd then 15 else 0
structure Sound (c : Ch) : Prop where
  head : c.at c.ev.length = c.hd
  anch : c.bn ≤ c.an → c.at (c.an - c.bn) = c.ah
theorem sound0 : Sound ch0 := ⟨by decide, by decide⟩
theorem Sound.ver {c : Ch} (h : Sound c) : verE c = 0 := by
  unfold verE
  rw [if_neg]
  rintro (⟨h1, h2⟩ | h2)
  · exact h2 (h.anch h1)
  · exact h2 h.head
theorem Sound.add {c : Ch} (h : Sound c) (ok : ChOk c) (t : Int) (what who : ByteArray) : Sound (addC c t what who) := by
  have h0 := h.head
  rw [Ch.at_all] at h0
  refine ⟨?_, fun hb => ?_⟩
  · rw [Ch.at_all]
    simp only [addC]
    rw [endH_snoc, h0]
  · have h1 := h.anch hb
    have h2 := ok.anc
    simp only [addC, Ch.at] at h1 hb ⊢
    rw [List.take_append_of_le_length (by omega)]
    exact h1
theorem Sound.anc {c : Ch} (h : Sound c) : Sound (ancC c) := by
  refine ⟨h.head, fun _ => ?_⟩
  have := h.head
  simp only [ancC, Ch.at, Ch.cnt] at this ⊢
  rw [show c.bn + c.ev.length - c.bn = c.ev.length by omega]
  exact this
theorem Sound.pru {c : Ch} (h : Sound c) (ok : ChOk c) {k : Nat} (hk : c.bn + k ≤ c.an) : Sound (pruC c k) := by
  have ha := ok.anc
  have e : ∀ j, k ≤ j → j ≤ c.ev.length → endH (c.at k) ((c.ev.drop k).take (j - k)) = c.at j := fun j h1 h2 => by
    unfold Ch.at
    rw [← endH_append]
    congr 1
    rw [show j = k + (j - k) by omega, List.take_add, show k + (j - k) - k = j - k by omega]
  refine ⟨?_, fun hb => ?_⟩
  · have h1 := e c.ev.length (by omega) (Nat.le_refl _)
    simp only [pruC, Ch.at, List.length_drop] at h1 ⊢
    rw [h1]
    exact h.head
  · have h1 := e (c.an - c.bn) (by omega) (by omega)
    have h2 := h.anch (by omega)
    simp only [pruC, Ch.at] at h1 h2 ⊢
    rw [show c.an - (c.bn + k) = c.an - c.bn - k by omega, h1]
    exact h2
end Go.Proofs.YthfmpebgmojcaaaDoor
/- A chain of events in memory. -/
namespace Go.Proofs.YthfmpebgmojcaaaDoor
open Go.RowKit
set_option linter.unusedVariables false
set_option maxRecDepth 20000
structure Out (P : Nat → Prop) (w w' : World) : Prop where
  os : w'.os = w.os
  tape : w'.tape = w.tape
  output : w'.output = w.output
  size : w.heap.size ≤ w'.heap.size
  block : ∀ k, k < w.heap.size → ¬ P k → w'.heap[k]? = w.heap[k]?
theorem Out.below {P : Nat → Prop} {w w' : World} (h : Out P w w') {B : Nat} (hB : B ≤ w.heap.size) (hP : ∀ k, P k → B ≤ k) : Below B w w' := ⟨h.os, h.tape, h.output, h.size, fun k hk => h.block k (by omega) (fun hp => by have := hP k hp; omega)⟩
theorem Out.refl (P : Nat → Prop) (w : World) : Out P w w := ⟨rfl, rfl, rfl, Nat.le_refl _, fun _ _ _ => rfl⟩
theorem Out.trans {P Q : Nat → Prop} {a b c : World} (h : Out P a b) (k : Out Q b c) (hq : ∀ i, i < a.heap.size → Q i → P i) : Out P a c :=
  ⟨k.os.trans h.os, k.tape.trans h.tape, k.output.trans h.output, Nat.le_trans h.size k.size, fun i hi hp => (k.block i (Nat.lt_of_lt_of_le hi h.size) (fun q => hp (hq i hi q))).trans (h.block i hi hp)⟩
theorem Out.of_below {P : Nat → Prop} {w w' : World} (h : Below w.heap.size w w') : Out P w w' := ⟨h.os, h.tape, h.output, h.size, fun k hk _ => h.block k hk⟩
theorem Out.on {P : Nat → Prop} {w w1 w2 : World} (h : Out P w w1) (k : Below w1.heap.size w1 w2) : Out P w w2 := h.trans (Out.of_below (P := P) k) (fun _ _ h => h)
theorem Out.imp {P Q : Nat → Prop} {w w' : World} (h : Out P w w') (hq : ∀ i, i < w.heap.size → P i → Q i) : Out Q w w' := ⟨h.os, h.tape, h.output, h.size, fun k hk hp => h.block k hk (fun q => hp (hq k hk q))⟩
theorem Out.drew {P : Nat → Prop} {w w' : World} (h : Out P w w') : Out P w w'.drew := ⟨h.os, h.tape, h.output, h.size, h.block⟩
theorem Out.setCell {P : Nat → Prop} {w w' : World} (h : Out P w w') (a : Addr) (v : Value) (ha : P a.block) : Out P w (w'.setCell a v) :=
  ⟨h.os, h.tape, h.output, by have : (w'.setCell a v).heap.size = w'.heap.size := by simp [World.setCell]
                              rw [this]; exact h.size, fun k hk hp => (heap_setCell_other _ _ _ _ (fun e => hp (by rw [e]; exact ha))).trans (h.block k hk hp)⟩
theorem Out.setCells {P : Nat → Prop} {w : World} (g : Nat) (hg : P g) : ∀ (vs : List Value) (o : Nat) (w' : World), Out P w w' → Out P w (w'.setCells g o vs)
  | [], _, _, h => h
  | v :: r, o, w', h => Out.setCells g hg r (o + 1) _ (h.setCell _ _ hg)
theorem Out.alloc {P : Nat → Prop} {w w' : World} (h : Out P w w') (o : Obj) : Out P w (w'.alloc o) := h.on ((Below.refl _ w').alloc (Nat.le_refl _) o)
theorem Out.of_grown {P : Nat → Prop} {w w' : World} {r : Option Nat} (h : w.grownBy w' r) (hr : ∀ k, r = some k → P k) : Out P w w' := ⟨h.os, h.tape, h.output, h.size, fun k hk hp => h.block k hk (fun e => hp (hr k e.symm))⟩
def lnkC (n : Nat) (h : List UInt8) : List Value := .int .i64 (n : Int) :: cellsOf h
def ccells (c : Ch) (v : Value) : List Value := lnkC c.bn c.bh ++ (lnkC c.an c.ah ++ (v :: (cellsOf c.hd ++ [.int .i64 (c.la : Int)])))
def eVals (e : Ev) : List Value := [.int .i64 (e.num : Int), .int .i64 (e.tim : Int), .string e.what, .string e.who]
def eCells (l : List Ev) : List Value := l.flatMap eVals
theorem lnkC_length (n : Nat) (h : List UInt8) : (lnkC n h).length = h.length + 1 := by simp [lnkC, cellsOf]
theorem lnkC_one (n : Nat) (h : List UInt8) : ∀ u ∈ lnkC n h, u.oneCell' = true := by
  intro u hu
  simp only [lnkC, List.mem_cons] at hu
  rcases hu with rfl | hu
  · rfl
  · exact cellsOf_one _ u hu
theorem eCells_append (a b : List Ev) : eCells (a ++ b) = eCells a ++ eCells b := by simp [eCells]
theorem eCells_one (e : Ev) : eCells [e] = eVals e := by simp [eCells]
theorem eCells_oneCell (l : List Ev) : ∀ u ∈ eCells l, u.oneCell' = true := by
  intro u hu
  obtain ⟨e, _, he⟩ := List.mem_flatMap.1 hu
  simp only [eVals, List.mem_cons, List.not_mem_nil, or_false] at he
  rcases he with rfl | rfl | rfl | rfl <;> rfl
theorem eCells_get (l : List Ev) (i : Nat) (h : i < l.length) (k : Nat) (hk : k < 4) : (eCells l)[i * 4 + k]? = (eVals l[i])[k]? := by
  induction l generalizing i with
  | nil => simp at h
  | cons e l ih =>
    have hl : (eVals e).length = 4 := rfl
    show (eVals e ++ eCells l)[i * 4 + k]? = _
    cases i with
    | zero => rw [List.getElem?_append_left (by omega)]; simp
    | succ i =>
      rw [List.getElem?_append_right (by omega), hl, show (i + 1) * 4 + k - 4 = i * 4 + k by omega, ih i (by simpa using h)]
      simp
theorem range_mid {w : World} {g : Nat} {A B C : List Value} {t : TypeId} {fr : Nat × Nat} (h : w.heap[g]? = some (.cells (A ++ (B ++ C)).toArray t fr)) (o : Nat) (ho : A.length = o) : w.rangeAt g o B := fun j v hj => by
  subst ho
  have hlt : j < B.length := (List.getElem?_eq_some_iff.1 hj).1
  rw [cell_of_row _ _ _ _ _ _ h, List.getElem?_toArray, List.getElem?_append_right (by omega), show A.length + j - A.length = j by omega, List.getElem?_append_left hlt]
  exact hj
theorem range_whole {w : World} {g : Nat} {L : List Value} {t : TypeId} {fr : Nat × Nat} (h : w.heap[g]? = some (.cells L.toArray t fr)) : w.rangeAt g 0 L := range_mid (A := []) (B := L) (C := []) (by simpa using h) 0 rfl
theorem cell_mid {w : World} {g : Nat} {A C : List Value} {u : Value} {t : TypeId} {fr : Nat × Nat} (h : w.heap[g]? = some (.cells (A ++ (u :: C)).toArray t fr)) (o : Nat) (ho : A.length = o) : w.cell? ⟨g, o, none⟩ = some u := by
  have := range_mid (B := [u]) (C := C) h o ho 0 u rfl
  exact this
theorem there_row {w : World} {g : Nat} {L : List Value} {t : TypeId} (h : w.heap[g]? = some (.cells L.toArray t (0, 0))) (o n : Nat) (ho : o + n ≤ L.length) : w.there g o n := fun j hj =>
  ⟨by rw [cell_of_row _ _ _ _ _ _ h, List.getElem?_toArray, List.getElem?_eq_getElem (by omega)]; rfl, frozen_of_row _ _ _ _ _ h⟩
theorem splice_mid {α : Type} (A B C B' : List α) (h : B'.length = B.length) (o : Nat) (ho : A.length = o) : splice (A ++ (B ++ C)) o B' = A ++ (B' ++ C) := by
  subst ho
  unfold splice
  rw [List.take_left' rfl, h, ← List.append_assoc, show A.length + B.length = (A ++ B).length by simp, List.append_assoc, ← List.append_assoc A B C, List.drop_left' rfl]
theorem set_mid {α : Type} (A C : List α) (u v : α) (o : Nat) (ho : A.length = o) : (A ++ (u :: C)).set o v = A ++ (v :: C) := by
  subst ho
  simp
structure ChAt (w : World) (B g : Nat) (v : Value) (c : Ch) : Prop where
  obj : w.heap[g]? = some (.cells (ccells c v).toArray 87 (0, 0))
  row : w.ownsRow B 55 4 v c.ev.length (eCells c.ev)
  bg : B ≤ g
section
variable {w w' : World} {B g : Nat} {v : Value} {c : Ch}
theorem ChAt.lt (h : ChAt w B g v c) : g < w.heap.size := (Array.getElem?_eq_some_iff.1 h.obj).1
theorem ChAt.ne (h : ChAt w B g v c) : ∀ k, v.ownBlock = some k → k ≠ g := by
  rintro k hk rfl
  rcases h.row.2 with ⟨rfl, _⟩ | ⟨g', cap, cur, rfl, _, hg, _⟩
  · cases hk
  · cases hk
    rw [h.obj] at hg
    injection hg with hg
    injection hg with _ hg
    exact absurd hg (by decide)
theorem ChAt.c0 (h : ChAt w B g v c) : w.cell? ⟨g, 0, none⟩ = some (.int .i64 (c.bn : Int)) := cell_mid (A := []) h.obj 0 rfl
theorem ChAt.rb (h : ChAt w B g v c) : w.rangeAt g 0 (lnkC c.bn c.bh) := range_mid (A := []) h.obj 0 rfl
theorem ChAt.c33 (h : ChAt w B g v c) (ok : Lens c) : w.cell? ⟨g, 33, none⟩ = some (.int .i64 (c.an : Int)) := cell_mid (A := lnkC c.bn c.bh) h.obj 33 (by rw [lnkC_length, ok.lb])
theorem ChAt.ra (h : ChAt w B g v c) (ok : Lens c) : w.rangeAt g 34 (cellsOf c.ah) := by
  have h0 := h.obj
  unfold ccells at h0
  rw [show lnkC c.an c.ah = [.int .i64 (c.an : Int)] ++ cellsOf c.ah from rfl, List.append_assoc, ← List.append_assoc (lnkC c.bn c.bh)] at h0
  exact range_mid h0 34 (by simp [lnkC_length, ok.lb])
theorem ChAt.c66 (h : ChAt w B g v c) (ok : Lens c) : w.cell? ⟨g, 66, none⟩ = some v := by
  have h0 := h.obj
  unfold ccells at h0
  rw [← List.append_assoc] at h0
  exact cell_mid h0 66 (by simp [lnkC_length, ok.lb, ok.lan])
theorem ccells_hd (c : Ch) (v : Value) : ccells c v = (lnkC c.bn c.bh ++ (lnkC c.an c.ah ++ [v])) ++ (cellsOf c.hd ++ [.int .i64 (c.la : Int)]) := by simp [ccells]
theorem ccells_la (c : Ch) (v : Value) : ccells c v = (lnkC c.bn c.bh ++ (lnkC c.an c.ah ++ (v :: cellsOf c.hd))) ++ (.int .i64 (c.la : Int) :: []) := by simp [ccells]
theorem ChAt.rh (h : ChAt w B g v c) (ok : Lens c) : w.rangeAt g 67 (cellsOf c.hd) := by
  have h0 := h.obj
  rw [ccells_hd] at h0
  exact range_mid h0 67 (by simp [lnkC_length, ok.lb, ok.lan])
theorem ChAt.c99 (h : ChAt w B g v c) (ok : Lens c) : w.cell? ⟨g, 99, none⟩ = some (.int .i64 (c.la : Int)) := by
  have h0 := h.obj
  rw [ccells_la] at h0
  exact cell_mid h0 99 (by simp [lnkC_length, ok.lb, ok.lan, cellsOf, ok.lh])
theorem ccells_length (ok : Lens c) (v : Value) : (ccells c v).length = 100 := by simp [ccells, lnkC_length, ok.lb, ok.lan, cellsOf, ok.lh]
theorem ChAt.there (h : ChAt w B g v c) (ok : Lens c) (o n : Nat) (ho : o + n ≤ 100) : w.there g o n := there_row h.obj o n (by rw [ccells_length ok]; exact ho)
theorem ChAt.fz (h : ChAt w B g v c) (o : Nat) : w.frozen? ⟨g, o, none⟩ = false := frozen_of_row _ _ _ _ _ h.obj
theorem ChAt.keep (h : ChAt w B g v c) (hg : w'.heap[g]? = w.heap[g]?) (hv : ∀ k, v.ownBlock = some k → w'.heap[k]? = w.heap[k]?) : ChAt w' B g v c := by
  refine ⟨hg.trans h.obj, ⟨h.row.1, ?_⟩, h.bg⟩
  rcases h.row.2 with h0 | ⟨k, cap, cur, rfl, hb, hk, r⟩
  · exact .inl h0
  · exact .inr ⟨k, cap, cur, rfl, hb, (hv k rfl).trans hk, r⟩
theorem ChAt.lts (h : ChAt w B g v c) : ∀ k, v.ownBlock = some k → B ≤ k ∧ k < w.heap.size := fun k hk => h.row.lt k hk
theorem ChAt.below (h : ChAt w B g v c) (hb : Below w.heap.size w w') : ChAt w' B g v c := h.keep (hb.block g h.lt) (fun k hk => hb.block k (h.lts k hk).2)
theorem ChAt.out {P : Nat → Prop} (h : ChAt w B g v c) (ho : Out P w w') (hg : ¬ P g) (hv : ∀ k, v.ownBlock = some k → ¬ P k) : ChAt w' B g v c := h.keep (ho.block g h.lt hg) (fun k hk => ho.block k (h.lts k hk).2 (hv k hk))
theorem ChAt.mono (h : ChAt w B g v c) {B' : Nat} (hB : B' ≤ B) : ChAt w B' g v c := by
  refine ⟨h.obj, ⟨h.row.1, ?_⟩, Nat.le_trans hB h.bg⟩
  rcases h.row.2 with h0 | ⟨k, cap, cur, rfl, hb, r⟩
  · exact .inl h0
  · exact .inr ⟨k, cap, cur, rfl, Nat.le_trans hB hb, r⟩
theorem ChAt.row_set (h : ChAt w B g v c) (o : Nat) (vs : List Value) : (w.setCells g o vs).ownsRow B 55 4 v c.ev.length (eCells c.ev) := by
  refine ⟨h.row.1, ?_⟩
  have hne := h.ne
  rcases h.row.2 with h0 | ⟨k, cap, cur, rfl, hb, hk, r⟩
  · exact .inl h0
  · exact .inr ⟨k, cap, cur, rfl, hb, (other_setCells g k (hne k rfl) vs o w).trans hk, r⟩
theorem ChAt.setHd (h : ChAt w B g v c) (ok : Lens c) (l : List UInt8) (hl : l.length = 32) : ChAt (w.setCells g 67 (cellsOf l)) B g v { c with hd := l } := by
  refine ⟨?_, h.row_set _ _, h.bg⟩
  rw [heap_setCells_same g _ (cellsOf l) 67 w _ h.obj (by rw [ccells_length ok, cellsOf_length, hl]; omega), ccells_hd, ccells_hd, splice_mid _ _ _ _ (by simp [cellsOf, hl, ok.lh]) 67 (by simp [lnkC_length, ok.lb, ok.lan])]
theorem ChAt.setAnc (h : ChAt w B g v c) (ok : Lens c) (n : Nat) (l : List UInt8) (hl : l.length = 32) : ChAt (w.setCells g 33 (lnkC n l)) B g v { c with an := n, ah := l } := by
  refine ⟨?_, h.row_set _ _, h.bg⟩
  rw [heap_setCells_same g _ (lnkC n l) 33 w _ h.obj (by rw [ccells_length ok, lnkC_length, hl]; omega)]
  unfold ccells
  rw [splice_mid _ _ _ _ (by simp [lnkC_length, hl, ok.lan]) 33 (by simp [lnkC_length, ok.lb])]
theorem ccells_set66 (ok : Lens c) (v u : Value) : (ccells c v).toArray.setIfInBounds 66 u = (ccells c u).toArray := by
  rw [List.setIfInBounds_toArray]
  unfold ccells
  rw [← List.append_assoc, set_mid _ _ _ _ 66 (by simp [lnkC_length, ok.lb, ok.lan]), List.append_assoc]
theorem ccells_set99 (ok : Lens c) (v : Value) (n : Nat) : (ccells c v).toArray.setIfInBounds 99 (.int .i64 (n : Int)) = (ccells { c with la := n } v).toArray := by
  rw [List.setIfInBounds_toArray, ccells_la, ccells_la, set_mid _ _ _ _ 99 (by simp [lnkC_length, ok.lb, ok.lan, cellsOf, ok.lh])]
theorem ChAt.setLa (h : ChAt w B g v c) (ok : Lens c) (n : Nat) : ChAt (w.setCell ⟨g, 99, none⟩ (.int .i64 (n : Int))) B g v { c with la := n } := by
  refine ⟨?_, h.row_set 99 [_], h.bg⟩
  rw [heap_setCell_same w g 99 _ _ _ h.obj, ccells_set99 ok]
end
def CBlk (g : Nat) (v : Value) (k : Nat) : Prop := k = g ∨ v.ownBlock = some k
theorem ChAt.blk {w : World} {B g : Nat} {v : Value} {c : Ch} (h : ChAt w B g v c) : ∀ k, CBlk g v k → B ≤ k := fun k hk => by
  rcases hk with rfl | hk
  · exact h.bg
  · exact (h.lts k hk).1
structure Tabs (w : World) (B : Nat) : Prop where
  tab : TabAt w
  kat : KAt w
  tb : 4 < B
  kb : 0 < B
theorem Tabs.keep {w w' : World} {B : Nat} (h : Tabs w B) (hb : Below B w w') : Tabs w' B :=
  ⟨by have := h.tab; unfold TabAt at this ⊢; exact (hb.cell (p := ⟨4, 15, none⟩) h.tb).trans this, fun i hi => (hb.cell (p := ⟨0, i, none⟩) h.kb).trans (h.kat i hi), h.tb, h.kb⟩
theorem Tabs.below {w w' : World} {B : Nat} (h : Tabs w B) (hB : B ≤ w.heap.size) (hb : Below w.heap.size w w') : Tabs w' B := h.keep (hb.mono hB)
theorem Tabs.mono {w : World} {B B' : Nat} (h : Tabs w B) (hB : B ≤ B') : Tabs w B' := ⟨h.tab, h.kat, Nat.lt_of_lt_of_le h.tb hB, Nat.lt_of_lt_of_le h.kb hB⟩
end Go.Proofs.YthfmpebgmojcaaaDoor
/- Small functions of packages audit and state: New, Count, Text, isTooLong, addError, by contracts. -/
namespace Go.Proofs.YthfmpebgmojcaaaDoor
open Go.RowKit
set_option linter.unusedVariables false
set_option maxRecDepth 20000
theorem ChAt.val {w : World} {B g : Nat} {v : Value} {c : Ch} (h : ChAt w B g v c) : ∃ a cap, v = .slice a c.ev.length cap := by
  rcases h.row.2 with ⟨rfl, h0⟩ | ⟨k, cap, cur, rfl, _⟩
  · exact ⟨none, 0, by rw [h0]⟩
  · exact ⟨_, cap, rfl⟩
theorem built_chain : Tryd.prog.built 87 [] = some (ccells ch0 (.slice none 0 0)).toArray := by kernel_rfl
set_option maxHeartbeats 400000 in
theorem new_any (w : World) : Calls Tryd.prog 16 #[] w fun e w' => ∃ g, e = .returned (.pointer (some ⟨g, 0, none⟩)) ∧ ChAt w' w.heap.size g (.slice none 0 0) ch0 ∧ Below w.heap.size w w' := by
  have bl := hid built_chain
  have Hz : Hid (∃ R, R = ccells ch0 (.slice none 0 0)) := ⟨_, rfl⟩
  obtain ⟨R, hR⟩ := Hz.out
  rw [← hR] at bl
  have HR := hid hR
  clear hR Hz
  go_enter Tryd.func16, Tryd.ntmps16
  go_wp2_with (with_reducible show Go.wpList _ _ _ _ _ _; refine wpList_build_none rfl 87 rfl R.toArray bl.out ?_)
  go_ret
  refine ⟨_, rfl, ⟨?_, World.ownsRow_nil _ _ _ _, Nat.le_refl _⟩, (Below.refl _ w).alloc (Nat.le_refl _) _⟩
  rw [← HR.out]
  exact heap_alloc_new w _
set_option maxHeartbeats 400000 in
theorem count_any {w : World} {B g : Nat} {v : Value} {c : Ch} (h : ChAt w B g v c) (ok : ChOk c) (hc : c.cnt < 1152921504606846976) :
    Calls Tryd.prog 23 #[.pointer (some ⟨g, 0, none⟩)] w fun e w' => e = .returned (.int .i64 (c.cnt : Int)) ∧ Below w.heap.size w w' := by
  obtain ⟨a, cap, rfl⟩ := h.val
  have c0 := h.c0
  have c66 := h.c66 ok.l
  clear h ok
  unfold Ch.cnt at hc ⊢
  generalize c.ev.length = n at *
  generalize c.bn = b at *
  go_enter Tryd.func23, Tryd.ntmps23
  go_wp2
  go_region
  all_goals go_wp2
  all_goals go_ret
  all_goals exact ⟨ret_int (by go_num), (Below.refl _ _).drew⟩
set_option maxHeartbeats 400000 in
theorem text_any (n : Nat) (h : n ≤ 4611686018427387904) (w : World) (ht : TabAt w) : Calls Tryd.prog 42 #[.int .i64 (n : Int)] w fun e w' => e = .returned (.string (txt n)) ∧ Below w.heap.size w w' := by
  have hn : Calls Tryd.prog 78 #[.int .i64 (n : Int)] w fun e w' => e = .returned (.tuple #[.string (txt n), .int .i64 0]) ∧ Below w.heap.size w w' := by
    by_cases h0 : n = 0
    · subst h0
      refine (number_zero w).mono ?_
      rintro e w' ⟨rfl, rfl⟩
      exact ⟨rfl, Below.refl _ _⟩
    · exact number_pos n (by omega) h w ht
  generalize txt n = t at *
  go_enter Tryd.func42, Tryd.ntmps42
  go_wp2_with (go_at_call 78; refine hn.mono ?_; rintro e w1 ⟨rfl, hb⟩)
  go_ret
  exact ⟨rfl, hb⟩
set_option maxHeartbeats 400000 in
theorem isTime_any (x : Int) (w : World) : Calls Tryd.prog 87 #[.int .i64 x] w fun e w' => e = .returned (.bool (decide (0 ≤ x ∧ x ≤ 1099511627776))) ∧ w' = w := by
  go_enter Tryd.func87, Tryd.ntmps87
  go_wp2
  all_goals go_ret
  all_goals refine ⟨ret_bool ?_, rfl⟩
  all_goals
    rw [Bool.eq_iff_iff]
    simp
    omega
set_option maxHeartbeats 400000 in
theorem tooLong_any (a b : ByteArray) (ha : a.size ≤ 9223372036854775807) (hb : b.size ≤ 9223372036854775807) (w : World) : Calls Tryd.prog 73 #[.string a, .string b] w fun e w' => e = .returned (.bool (decide (12 < a.size ∨ 30 < b.size))) ∧ w' = w := by
  go_enter Tryd.func73, Tryd.ntmps73
  go_wp2
  all_goals go_ret
  all_goals refine ⟨ret_bool ?_, rfl⟩
  all_goals
    rw [Bool.eq_iff_iff]
    simp
    omega
set_option maxHeartbeats 1000000 in
theorem addError_any {w : World} {B g : Nat} {v : Value} {c : Ch} (h : ChAt w B g v c) (ok : ChOk c) (t : Int) (what who : ByteArray) (h1 : what.size ≤ 9223372036854775807) (h2 : who.size ≤ 9223372036854775807) :
    Calls Tryd.prog 59 #[.pointer (some ⟨g, 0, none⟩), .int .i64 t, .string what, .string who] w fun e w' => e = .returned (.int .i64 (addE c t what who)) ∧ w' = w := by
  obtain ⟨a, cap, rfl⟩ := h.val
  have c99 := h.c99 ok.l
  have c66 := h.c66 ok.l
  have hf := ok.few
  clear h ok
  unfold addE
  generalize c.ev.length = n at *
  generalize c.la = la at *
  have H1 := hid (isTime_any t)
  have H2 := hid (tooLong_any what who h1 h2)
  by_cases e1 : 0 ≤ t ∧ t ≤ 1099511627776
  · rw [if_neg (by omega)]
    rw [decide_eq_true e1] at H1
    by_cases e2 : 12 < what.size ∨ 30 < who.size
    · rw [if_pos e2]
      rw [decide_eq_true e2] at H2
      clear e2 h1 h2
      go_enter Tryd.func59, Tryd.ntmps59
      go_wp2_with (first
        | (go_at_call 87; refine (H1.out _).mono ?_; rintro e w1 ⟨rfl, rfl⟩)
        | (go_at_call 73; refine (H2.out _).mono ?_; rintro e w1 ⟨rfl, rfl⟩))
      go_ret
      exact ⟨rfl, rfl⟩
    · rw [if_neg e2]
      rw [decide_eq_false e2] at H2
      clear e2 h1 h2
      by_cases e3 : t < (la : Int)
      · rw [if_pos e3]
        go_enter Tryd.func59, Tryd.ntmps59
        go_wp2_with (first
          | (go_at_call 87; refine (H1.out _).mono ?_; rintro e w1 ⟨rfl, rfl⟩)
          | (go_at_call 73; refine (H2.out _).mono ?_; rintro e w1 ⟨rfl, rfl⟩))
        go_ret
        exact ⟨rfl, rfl⟩
      · rw [if_neg e3]
        by_cases e4 : 64 ≤ n
        · rw [if_pos e4]
          have d4 : (64 : Int) ≤ (n : Int) := by omega
          go_enter Tryd.func59, Tryd.ntmps59
          go_wp2_with (first
            | (go_at_call 87; refine (H1.out _).mono ?_; rintro e w1 ⟨rfl, rfl⟩)
            | (go_at_call 73; refine (H2.out _).mono ?_; rintro e w1 ⟨rfl, rfl⟩))
          go_ret
          exact ⟨rfl, rfl⟩
        · rw [if_neg e4]
          have d4 : ¬ (64 : Int) ≤ (n : Int) := by omega
          go_enter Tryd.func59, Tryd.ntmps59
          go_wp2_with (first
            | (go_at_call 87; refine (H1.out _).mono ?_; rintro e w1 ⟨rfl, rfl⟩)
            | (go_at_call 73; refine (H2.out _).mono ?_; rintro e w1 ⟨rfl, rfl⟩))
          go_ret
          exact ⟨rfl, rfl⟩
  · rw [if_pos (by omega)]
    rw [decide_eq_false e1] at H1
    go_enter Tryd.func59, Tryd.ntmps59
    go_wp2_with (first
      | (go_at_call 87; refine (H1.out _).mono ?_; rintro e w1 ⟨rfl, rfl⟩)
      | (go_at_call 73; refine (H2.out _).mono ?_; rintro e w1 ⟨rfl, rfl⟩))
    go_ret
    exact ⟨rfl, rfl⟩
end Go.Proofs.YthfmpebgmojcaaaDoor
/- Numbers read back: codec.ToNumber, state.Number; printed by gen/atonum.py. -/
namespace Go.Proofs.YthfmpebgmojcaaaDoor
open Go.RowKit
set_option linter.unusedVariables false
set_option maxRecDepth 20000
theorem take_snoc (s : ByteArray) (k : Nat) (h : k < s.size) : s.data.toList.take (k + 1) = s.data.toList.take k ++ [s[k]] := by
  rw [List.take_succ_eq_append_getElem (by simpa using h)]; rfl
theorem take_all (s : ByteArray) : s.data.toList.take s.size = s.data.toList := List.take_of_length_le (by simp)
theorem all_of_prefix (s : ByteArray) (f : UInt8 → Bool) (k : Nat) (h : k < s.size) (hf : f s[k] = false) : s.data.toList.all f = false := by
  rw [← Bool.not_eq_true, List.all_eq_true]
  intro hall
  have := hall s[k] (by
    have : s[k] = s.data.toList[k]'(by simpa using h) := rfl
    rw [this]; exact List.getElem_mem _)
  rw [hf] at this
  cases this
def dv (c : Nat) : Option Nat := if 48 ≤ c ∧ c ≤ 57 then some (c - 48) else if 97 ≤ c ∧ c ≤ 102 then some (c - 87) else none
set_option maxHeartbeats 400000 in
theorem digitValue_any (c : Nat) (hc : c ≤ 255) (w : World) :
    Calls Tryd.prog 117 #[.int .u8 (c : Int)] w fun e w' => e = .returned (.tuple #[.int .u64 (((dv c).getD 0 : Nat) : Int), .bool (dv c).isSome]) ∧ w' = w := by
  go_enter Tryd.func117, Tryd.ntmps117
  go_wp2
  all_goals go_ret2
  all_goals refine ⟨ret_two (congrArg (Value.int .u64) ?_) (congrArg Value.bool ?_), rfl⟩
  all_goals
    unfold dv
    repeat' split
    all_goals first | rfl | (simp; done) | (simp; omega) | omega
set_option maxHeartbeats 400000 in
theorem hasPrefix_any (s : ByteArray) (w : World) (hs : s.size ≤ maxLen) :
    Calls Tryd.prog 116 #[.string s, .string ⟨#[48]⟩] w fun e w' => e = .returned (.bool (s.data.toList.head? == some 48)) ∧ w' = w := by
  unfold maxLen at hs
  go_enter Tryd.func116, Tryd.ntmps116
  go_wp2
  all_goals go_ret
  all_goals refine ⟨ret_bool ?_, rfl⟩
  · rw [List.head?_eq_getElem?]
    have h1 : 1 ≤ s.size := by omega
    have e : (s.extract 0 1).toList = s.data.toList.take 1 := by
      rw [ByteArray.toList_eq]; simp
    rw [e]
    cases hl : s.data.toList with
    | nil => have h2 := Lib.size_eq s; rw [hl] at h2; simp only [List.length_nil] at h2; omega
    | cons c r => simp
  · have h1 : s.data.toList = [] := List.length_eq_zero_iff.1 (by have h2 := Lib.size_eq s; omega)
    rw [h1]; rfl
open Go.RowKit
def hexB (c : UInt8) : Bool := (dv c.toNat).isSome
def digV (n : Nat) (l : List UInt8) : Nat := l.foldl (fun n c => n * 16 + (dv c.toNat).getD 0) n
def toNum (l : List UInt8) : Nat × Nat :=
  if l.length = 0 ∨ 17 < l.length then (0, 3)
  else if (l.headD 0).toNat ≠ 96 + l.length ∨ (l.drop 1).head? = some 48 then (0, 3)
  else if (l.drop 1).all hexB = false then (0, 3)
  else if 4611686018427387904 < digV 0 (l.drop 1) then (0, 2) else (digV 0 (l.drop 1), 0)
theorem dv_lt (c : Nat) : (dv c).getD 0 < 16 := by
  unfold dv
  repeat' split
  all_goals simp
  all_goals omega
theorem digV_lt (l : List UInt8) : digV 0 l < 16 ^ l.length := by
  suffices h : ∀ n k, n < 16 ^ k → digV n l < 16 ^ (k + l.length) by simpa using h 0 0 (by simp)
  induction l with
  | nil => intro n k h; simpa [digV] using h
  | cons c l ih =>
    intro n k h
    have := ih (n * 16 + (dv c.toNat).getD 0) (k + 1) (by have := dv_lt c.toNat; rw [Nat.pow_succ]; omega)
    simpa [digV, Nat.add_assoc, Nat.add_comm 1] using this
theorem digV_snoc (l : List UInt8) (c : UInt8) : digV 0 (l ++ [c]) = digV 0 l * 16 + (dv c.toNat).getD 0 := by simp [digV]
theorem or_nat (n v : Nat) (hv : v < 16) : n * 16 ||| v = n * 16 + v := by
  have := Nat.shiftLeft_add_eq_or_of_lt (i := 4) (b := v) (by simpa using hv) n
  rw [Nat.shiftLeft_eq] at this
  simpa using this.symm
theorem or_u64 (n v : Nat) (hn : n < 1152921504606846976) (hv : v < 16) : bits BinOp.or IntKind.u64 ((n : Int) * 16) (v : Int) = ((n * 16 + v : Nat) : Int) := by
  have h := bits_or_u64_nat (n * 16) v (by omega) (by omega)
  rw [or_nat n v hv] at h
  simpa using h
set_option maxHeartbeats 1000000 in
theorem toNumber_any (s : ByteArray) (w : World) (hs : s.size ≤ maxLen) :
    Calls Tryd.prog 99 #[.string s] w fun e w' => e = .returned (.tuple #[.int .i64 ((toNum s.data.toList).1 : Int), .int .i64 ((toNum s.data.toList).2 : Int)]) ∧ w' = w := by
  unfold maxLen at hs
  have hlen : s.data.toList.length = s.size := (Lib.size_eq s).symm
  by_cases h0 : s.size = 0
  · have e : toNum s.data.toList = (0, 3) := by unfold toNum; rw [hlen, if_pos (.inl h0)]
    rw [e]
    have d1 : (((s.size : Nat) : Int) == 0) = true := by rw [beq_iff_eq]; omega
    clear e hlen h0
    go_enter Tryd.func99, Tryd.ntmps99
    go_wp2
    go_ret2
    exact ⟨rfl, rfl⟩
  have d1 : (((s.size : Nat) : Int) == 0) = false := by rw [beq_eq_false_iff_ne]; omega
  by_cases h17 : 17 < s.size
  · have e : toNum s.data.toList = (0, 3) := by unfold toNum; rw [hlen, if_pos (.inr h17)]
    rw [e]
    have d2 : decide (17 < ((s.size : Nat) : Int)) = true := by simp; omega
    clear e hlen
    go_enter Tryd.func99, Tryd.ntmps99
    go_wp2
    go_ret2
    exact ⟨rfl, rfl⟩
  have d2 : decide (17 < ((s.size : Nat) : Int)) = false := by simp; omega
  have hpos : 0 < s.size := Nat.pos_of_ne_zero h0
  obtain ⟨d, hd⟩ : ∃ d, d = s.extract 1 s.size := ⟨_, rfl⟩
  have hdl : d.data.toList = s.data.toList.drop 1 := by rw [hd, Lib.extract_data, List.take_of_length_le (by simp)]
  have hdsz : d.size = s.size - 1 := by rw [Lib.size_eq, hdl, List.length_drop, hlen]
  have hs0 : s.data.toList.headD 0 = s[0]'hpos := by
    cases hh : s.data.toList with
    | nil => rw [hh] at hlen; simp at hlen; omega
    | cons c r =>
      have : s[0]'hpos = s.data.toList[0]'(by omega) := rfl
      rw [this]
      simp [hh]
  obtain ⟨c0, hc0⟩ : ∃ c0, c0 = s[0]'hpos := ⟨_, rfl⟩
  have E : Hid (toNum s.data.toList = if c0.toNat ≠ 96 + s.size ∨ d.data.toList.head? = some 48 then (0, 3) else if d.data.toList.all hexB = false then (0, 3) else if 4611686018427387904 < digV 0 d.data.toList then (0, 2) else (digV 0 d.data.toList, 0)) := by
    unfold toNum Hid
    rw [hlen, if_neg (by omega), hs0, ← hdl, hc0]
  generalize toNum s.data.toList = p at E ⊢
  have hd' : s.extract 1 s.size = d := hd.symm
  have hc0' : s[0]'hpos = c0 := hc0.symm
  have Hdsz := hid hdsz
  have hd16 : d.size ≤ 16 := by omega
  clear hdl hs0 hd hlen hc0 hdsz
  have hc255 : c0.toNat < 256 := c0.toNat_lt
  by_cases hA : c0.toNat ≠ 96 + s.size
  · have e : Hid (p = (0, 3)) := by rw [Hid, E.out, if_pos (.inl hA)]
    have dA : ((c0.toNat : Int) != 97 + (d.size : Int)) = true := by rw [bne_iff_ne]; have := Hdsz.out; omega
    clear hA E
    go_enter Tryd.func99, Tryd.ntmps99
    go_wp2_with (go_at_call 116; refine (hasPrefix_any _ _ (by unfold maxLen; omega)).mono ?_; rintro e w' ⟨rfl, rfl⟩)
    all_goals go_ret2
    exact ⟨by rw [e.out]; rfl, rfl⟩
  have dA : ((c0.toNat : Int) != 97 + (d.size : Int)) = false := by rw [bne_eq_false_iff_eq]; have := Hdsz.out; omega
  by_cases hB : d.data.toList.head? = some 48
  · have e : Hid (p = (0, 3)) := by rw [Hid, E.out, if_pos (.inr hB)]
    have dB : (d.data.toList.head? == some 48) = true := by rw [hB]; rfl
    clear hB E
    go_enter Tryd.func99, Tryd.ntmps99
    go_wp2_with (go_at_call 116; refine (hasPrefix_any _ _ (by unfold maxLen; omega)).mono ?_; rintro e w' ⟨rfl, rfl⟩)
    all_goals go_ret2
    exact ⟨by rw [e.out]; rfl, rfl⟩
  have dB : (d.data.toList.head? == some 48) = false := by simpa using hB
  have e : Hid (p = if d.data.toList.all hexB = false then (0, 3) else if 4611686018427387904 < digV 0 d.data.toList then (0, 2) else (digV 0 d.data.toList, 0)) := by rw [Hid, E.out, if_neg (fun h => h.elim hA hB)]
  clear hA hB E
  go_enter Tryd.func99, Tryd.ntmps99
  go_wp2_with (go_at_call 116; refine (hasPrefix_any _ _ (by unfold maxLen; omega)).mono ?_; rintro e w' ⟨rfl, rfl⟩)
  go_loop [5, 32] (fun n i => ∃ k : Nat, k ≤ d.size ∧ i = .int .i64 k ∧ n = .int .u64 (digV 0 (d.data.toList.take k) : Int) ∧ (d.data.toList.take k).all hexB = true) (fun _ i => d.size - (intOf i).toNat)
  case atStart => exact ⟨0, Nat.zero_le _, rfl, rfl, rfl⟩
  case round =>
    obtain ⟨k, hk, rfl, rfl, hall⟩ := hrel
    have Hall := hid hall
    clear hall
    obtain ⟨n, hn⟩ : ∃ n, n = digV 0 (d.data.toList.take k) := ⟨_, rfl⟩
    rw [← hn]
    have Hn := hid hn
    clear hn
    by_cases hlt : k < d.size
    · have hn60 : n < 1152921504606846976 := by
        have h1 := digV_lt (d.data.toList.take k)
        rw [← Hn.out] at h1
        have h2 : 16 ^ (d.data.toList.take k).length ≤ 16 ^ 15 := Nat.pow_le_pow_right (by omega) (by simp; omega)
        exact Nat.lt_of_lt_of_le h1 h2
      cases hdv : dv (d[k]'hlt).toNat with
      | none =>
        have Hdv := hid hdv
        have h1 : ((dv (d[k]'hlt).toNat).getD 0) = 0 := by rw [hdv]; rfl
        have h2 : (dv (d[k]'hlt).toNat).isSome = false := by rw [hdv]; rfl
        clear hdv
        go_wp2_with (go_at_call 117; refine (digitValue_any _ (by have := (d[k]'hlt).toNat_lt; omega) _).mono ?_; rintro e w' ⟨rfl, rfl⟩)
        go_ret2
        refine ⟨?_, rfl⟩
        rw [e.out, if_pos (all_of_prefix d hexB k hlt (by unfold hexB; rw [Hdv.out]; rfl))]
        rfl
      | some v =>
        have Hdv := hid hdv
        have h1 : ((dv (d[k]'hlt).toNat).getD 0) = v := by rw [hdv]; rfl
        have h2 : (dv (d[k]'hlt).toNat).isSome = true := by rw [hdv]; rfl
        clear hdv
        have hv := dv_lt (d[k]'hlt).toNat
        rw [h1] at hv
        go_wp2_with (go_at_call 117; refine (digitValue_any _ (by have := (d[k]'hlt).toNat_lt; omega) _).mono ?_; rintro e w' ⟨rfl, rfl⟩)
        go_round
        case rel =>
          refine ⟨k + 1, by omega, by go_num, ?_, ?_⟩
          · rw [take_snoc d k hlt, digV_snoc, ← Hn.out, h1]
            exact congrArg (Value.int .u64) (or_u64 n v hn60 hv)
          · rw [take_snoc d k hlt, List.all_append, Hall.out]
            simp [hexB, h2]
        case measure => simp [intOf]; omega
    · have hk' : k = d.size := by omega
      have H1 : Hid (d.data.toList.all hexB = true) := by
        have h := Hall.out
        rw [hk', take_all] at h
        exact h
      have H2 : Hid (digV 0 d.data.toList = n) := by
        rw [Hid, Hn.out, hk', take_all]
      clear hk'
      go_wp2
      · have hgt : 4611686018427387904 < (n : Int) := by assumption
        go_ret2
        refine ⟨?_, rfl⟩
        rw [e.out, H1.out, H2.out, if_neg (by simp), if_pos (by omega)]
        rfl
      · have hgt : (n : Int) ≤ 4611686018427387904 := by assumption
        go_ret2
        refine ⟨?_, rfl⟩
        rw [e.out, H1.out, H2.out, if_neg (by simp), if_neg (by omega)]
        rfl
open Go.Op (bytesLess)
theorem log_bounds (n : Nat) (h : n ≠ 0) : 16 ^ (n.log2 / 4) ≤ n ∧ n < 16 ^ (n.log2 / 4 + 1) := by
  have e1 : ∀ k, (16 : Nat) ^ k = 2 ^ (4 * k) := fun k => by rw [Nat.pow_mul]
  rw [e1, e1]
  constructor
  · exact Nat.le_trans (Nat.pow_le_pow_right (by omega) (by omega)) ((Nat.le_log2 h).1 (Nat.le_refl _))
  · exact Nat.lt_of_lt_of_le ((Nat.log2_lt h).1 (Nat.lt_succ_self _)) (Nat.pow_le_pow_right (by omega) (by omega))
theorem log_le (n : Nat) (h : n ≠ 0) (hn : n ≤ 4611686018427387904) : n.log2 / 4 ≤ 15 := by
  have h1 := (log_bounds n h).1
  have h2 : 16 ^ (n.log2 / 4) < 16 ^ 16 := Nat.lt_of_le_of_lt (Nat.le_trans h1 hn) (by decide)
  have := (Nat.pow_lt_pow_iff_right (a := 16) (by omega)).1 h2
  omega
theorem letr_toNat (k : Nat) (hk : k ≤ 15) : (letr k).toNat = 98 + k := by
  unfold letr
  rw [UInt8.toNat_ofNat']
  omega
theorem dv_hexc : ∀ d : Fin 16, dv (hexc d.val).toNat = some d.val := by decide +kernel
theorem hexc_ne : ∀ d : Fin 16, d.val ≠ 0 → hexc d.val ≠ 48 := by decide +kernel
theorem lo_hex (k n : Nat) : (lo k n).all hexB = true := by
  induction k with
  | zero => rfl
  | succ k ih =>
    have := dv_hexc ⟨n / 16 ^ k % 16, Nat.mod_lt _ (by omega)⟩
    simp only at this
    simp [lo, ih, hexB, this]
theorem digV_lo (k n m : Nat) : digV m (lo k n) = m * 16 ^ k + n % 16 ^ k := by
  induction k generalizing m with
  | zero => simp [lo, digV, Nat.mod_one]
  | succ k ih =>
    have h := dv_hexc ⟨n / 16 ^ k % 16, Nat.mod_lt _ (by omega)⟩
    simp only at h
    have e : digV m (lo (k + 1) n) = digV (m * 16 + n / 16 ^ k % 16) (lo k n) := by
      simp [digV, lo, h]
    rw [e, ih, mod_succ, Nat.add_mul, Nat.pow_succ, Nat.mul_assoc, Nat.mul_comm 16]
    omega
theorem toNum_numT (n : Nat) (hn : n ≤ 4611686018427387904) : toNum (numT n) = (n, 0) := by
  by_cases n0 : n = 0
  · subst n0; decide
  · have hl := log_le n n0 hn
    have hb := log_bounds n n0
    have e : numT n = letr (n.log2 / 4) :: lo (n.log2 / 4 + 1) n := by unfold numT; rw [if_neg n0]
    rw [e]
    generalize n.log2 / 4 = k at *
    have hd : digV 0 (lo (k + 1) n) = n := by rw [digV_lo, Nat.mod_eq_of_lt hb.2]; omega
    have hh : (lo (k + 1) n).head? ≠ some 48 := by
      simp only [lo, List.head?_cons, ne_eq, Option.some.injEq]
      have h1 : n / 16 ^ k < 16 := by
        rw [Nat.div_lt_iff_lt_mul (Nat.pow_pos (by omega)), Nat.mul_comm, ← Nat.pow_succ]
        exact hb.2
      have h2 : 0 < n / 16 ^ k := Nat.div_pos hb.1 (Nat.pow_pos (by omega))
      rw [Nat.mod_eq_of_lt h1]
      exact hexc_ne ⟨n / 16 ^ k, h1⟩ (by simp only; omega)
    unfold toNum
    simp only [List.length_cons, lo_length, List.headD_cons, letr_toNat k hl, List.drop_succ_cons, List.drop_zero, hd, lo_hex]
    rw [if_neg (by omega), if_neg (by rintro (h | h); omega; exact hh h), if_neg (by simp), if_neg (by omega)]
theorem txt_len (n : Nat) (h : n ≤ 4611686018427387904) : (txt n).size ≤ maxLen := by
  show (numT n).toArray.size ≤ maxLen
  have : maxLen = 9223372036854775807 := by decide
  unfold numT
  split
  · rw [this]; decide
  · rw [List.size_toArray, List.length_cons, lo_length]
    have := (Nat.log2_lt (by omega)).2 (show n < 2 ^ 63 by omega)
    omega
set_option maxHeartbeats 400000 in
theorem number_back (n lo hi : Nat) (h1 : lo ≤ n) (h2 : n ≤ hi) (h3 : hi ≤ 4611686018427387904) (w : World) :
    Calls Tryd.prog 71 #[.string (txt n), .int .i64 (lo : Int), .int .i64 (hi : Int)] w fun e w' => e = .returned (.tuple #[.int .i64 (n : Int), .bool true]) ∧ w' = w := by
  have HC := hid (toNumber_any (txt n) w (txt_len n (by omega)))
  have e1 : (txt n).data.toList = numT n := rfl
  rw [e1, toNum_numT n (by omega)] at HC
  clear e1
  generalize txt n = t at *
  have d1 : decide ((n : Int) < (lo : Int)) = false := decide_eq_false (by omega)
  have d2 : decide ((hi : Int) < (n : Int)) = false := decide_eq_false (by omega)
  have d3 : ¬ (n : Int) < (lo : Int) := by omega
  have d4 : ¬ (hi : Int) < (n : Int) := by omega
  go_enter Tryd.func71, Tryd.ntmps71
  go_wp2_with (go_at_call 99; refine HC.out.mono ?_; rintro e w1 ⟨rfl, e9⟩; subst w1)
  go_ret2
  exact ⟨rfl, rfl⟩
end Go.Proofs.YthfmpebgmojcaaaDoor
