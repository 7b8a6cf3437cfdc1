/- YthfmpebgmojcaaaDoorARow + YthfmpebgmojcaaaDoorAMath -/
import Derived.Test.YthfmpebgmojcaaaDoorANum
import Derived.Test.YthfmpebgmojcaaaDoorRowMath
import Derived.Lib.AppendStr
/- codec.Row by a contract, beside the texts on hashes. -/
namespace Go.Proofs.YthfmpebgmojcaaaDoor
open Go.RowKit
set_option linter.unusedVariables false
set_option maxRecDepth 20000
set_option maxRecDepth 20000
/-- texts that lie in a row of the world -/
def Texts (w : World) (a : Option Addr) (l : List ByteArray) : Prop := ∀ i (h : i < l.length), ∃ b o, a = some ⟨b, o, none⟩ ∧ w.cell? ⟨b, o + i, none⟩ = some (.string l[i])
theorem Texts.below {w w' : World} {a : Option Addr} {l : List ByteArray} (h : Texts w a l) (hb : Below w.heap.size w w') : Texts w' a l := fun i hi => by
  obtain ⟨b, o, ha, hc⟩ := h i hi
  exact ⟨b, o, ha, (hb.cell (World.block_lt_of_cell? _ _ hc)).trans hc⟩
def bs (l : List ByteArray) : List (List UInt8) := l.map fun s => s.data.toList

/-- append(v, byte(n)) -/
theorem app_nat (w : World) {ops : Array Oper} {rest : List Oper} {o : Oper} {a : Act} {Q : Exit → Act → World → Prop} (hgd : o.guard = none) (s x : Operand)
    (ho : o.op = .call { callee := .builtin .append, args := #[s, x], argTypes := #[40, 40] }) (base : Nat) (v : Value) (xs : List UInt8) (hs : a.eval s = v)
    (hown : w.ownsRow base 5 1 v xs.length (cellsOf xs)) (n : Nat) (hn : n < 256) (hx : a.eval x = .slice (some ⟨w.heap.size, 0, none⟩) 1 1) (hb : xs.length + 1 ≤ 140737488355328) (hbase : base ≤ w.heap.size)
    (h : ∀ v' w', w'.ownsRow base 5 1 v' (xs ++ [UInt8.ofNat n]).length (cellsOf (xs ++ [UInt8.ofNat n])) → Below base w w' → (0 < (xs ++ [UInt8.ofNat n]).length → ∃ g cap, v' = .slice (some ⟨g, 0, none⟩) (xs ++ [UInt8.ofNat n]).length cap) → wpList Tryd.prog ops Q rest (a.put o.dst v') w') :
    wpList Tryd.prog ops Q (o :: rest) a (w.alloc (.cells #[.int .u8 (n : Int)] 5)) := by
  have e : (#[.int .u8 (n : Int)] : Array Value) = (cellsOf [UInt8.ofNat n]).toArray := by
    simp only [cellsOf, List.map_cons, List.map_nil, UInt8.toNat_ofNat']
    rw [Nat.mod_eq_of_lt (by omega)]
  rw [e]
  exact app_lits w hgd s x ho base v xs hs hown [UInt8.ofNat n] 1 rfl hx hb hbase h

/-- append(v, s...), s a text -/
theorem app_str (w : World) {ops : Array Oper} {rest : List Oper} {o : Oper} {a : Act} {Q : Exit → Act → World → Prop} (hgd : o.guard = none) (sl x : Operand)
    (ho : o.op = .call { callee := .builtin .append, args := #[sl, x], argTypes := #[40, 9] }) (base : Nat) (v : Value) (xs : List UInt8) (hs : a.eval sl = v)
    (hown : w.ownsRow base 5 1 v xs.length (cellsOf xs)) (s : ByteArray) (hx : a.eval x = .string s) (hb : xs.length + s.size ≤ 140737488355328) (hbase : base ≤ w.heap.size)
    (h : ∀ v' w', w'.ownsRow base 5 1 v' (xs ++ s.data.toList).length (cellsOf (xs ++ s.data.toList)) → Below base w w' → (0 < (xs ++ s.data.toList).length → ∃ g cap, v' = .slice (some ⟨g, 0, none⟩) (xs ++ s.data.toList).length cap) → wpList Tryd.prog ops Q rest (a.put o.dst v') w') :
    wpList Tryd.prog ops Q (o :: rest) a w := by
  obtain ⟨i0, hi, hz0, hz1, hz2⟩ := info_parts Tryd.info5
  refine Lib.wpList_append_own_string w hgd sl x 40 9 ho base 5 i0 Tryd.underlying40 Tryd.underlying9 hi hz0 hz1 hz2 v xs.length (cellsOf xs) hs hown s hx (by unfold maxLen; omega) hb hbase ?_
  intro v' w' h1 h2 h3
  have e : cellsOf xs ++ Lib.strCells s = cellsOf (xs ++ s.data.toList) := by rw [cellsOf_append]; rfl
  have e2 : xs.length + s.size = (xs ++ s.data.toList).length := by rw [List.length_append, ← Lib.size_eq]
  rw [e, e2] at h1
  refine h v' w' h1 ((Below.refl _ _).grown h2 hbase (fun k hk => (hown.lt k hk).1)) (fun hpos => ?_)
  rcases h1.2 with ⟨_, h0⟩ | ⟨g, cap, _, rfl, _⟩
  · omega
  · exact ⟨g, cap, rfl⟩

/-- codec.Row's error, and its bytes -/
def rowErr (l : List ByteArray) : Nat := if 8 < l.length then 2 else if l.any (fun s => decide (70 < s.size)) = true then 6 else if 72 < (rowOf (bs l)).length then 6 else 0
def rowRes (l : List ByteArray) : List UInt8 := if rowErr l = 0 then rowOf (bs l) else []

theorem own_lit (w : World) (n : Nat) (hn : n < 256) : (w.alloc (.cells #[.int .u8 (n : Int)] 5)).ownsRow w.heap.size 5 1 (.slice (some ⟨w.heap.size, 0, none⟩) 1 1) 1 (cellsOf [UInt8.ofNat n]) := by
  have e : (cellsOf [UInt8.ofNat n]) = [.int .u8 (n : Int)] := by
    simp only [cellsOf, List.map_cons, List.map_nil, UInt8.toNat_ofNat']
    rw [Nat.mod_eq_of_lt (by omega)]
  rw [e]
  exact ⟨rfl, .inr ⟨w.heap.size, 1, #[.int .u8 (n : Int)], rfl, Nat.le_refl _, heap_alloc_new w _, Nat.le_refl _, by decide, rfl, rfl⟩⟩

/-- what a row has behind k columns -/
def rowTo (l : List ByteArray) (k : Nat) : List UInt8 := UInt8.ofNat l.length :: body (bs (l.take k))
theorem rowTo_step (l : List ByteArray) (k : Nat) (h : k < l.length) : rowTo l (k + 1) = (rowTo l k ++ [UInt8.ofNat l[k].size]) ++ l[k].data.toList := by
  unfold rowTo
  rw [List.take_succ_eq_append_getElem h]
  simp only [bs, List.map_append, List.map_cons, List.map_nil, body_append, body, col, List.append_nil, ← Lib.size_eq, List.cons_append, List.append_assoc, List.nil_append]
theorem rowTo_bound (l : List ByteArray) (k : Nat) (hk : k ≤ l.length) (hs : ∀ s ∈ l.take k, s.size ≤ 70) : (rowTo l k).length ≤ 1 + k * 71 := by
  induction k with
  | zero => simp [rowTo, bs, body]
  | succ k ih =>
    have h1 := ih (by omega) (fun s hs' => hs s (by
      rw [List.take_succ_eq_append_getElem (show k < l.length by omega)]
      exact List.mem_append_left _ hs'))
    have h2 := hs l[k] (by
      rw [List.take_succ_eq_append_getElem (show k < l.length by omega)]
      exact List.mem_append_right _ (List.mem_singleton.2 rfl))
    rw [rowTo_step l k (by omega)]
    simp only [List.length_append, List.length_cons, List.length_nil]
    rw [← Lib.size_eq]
    omega

set_option maxHeartbeats 400000 in
theorem row_any (l : List ByteArray) (a : Option Addr) (cap : Nat) (w : World) (hT : Texts w a l) (hsz : ∀ s ∈ l, s.size ≤ 140737488351232) (hlen : l.length ≤ 140737488351232) :
    Calls Tryd.prog 88 #[.slice a l.length cap] w fun e w' => ∃ a' cap', e = .returned (.tuple #[.slice a' (rowRes l).length cap', .int .i64 (rowErr l : Int)]) ∧ Bytes w' a' (rowRes l) ∧ Below w.heap.size w w' ∧ (rowRes l).length ≤ cap' := by
  by_cases h8 : 8 < l.length
  · have e1 : rowErr l = 2 := by unfold rowErr; rw [if_pos h8]
    have e2 : rowRes l = [] := by unfold rowRes; rw [e1, if_neg (by omega)]
    rw [e1, e2]
    go_enter Tryd.func88, Tryd.ntmps88
    go_wp2
    go_ret2
    exact ⟨none, 0, rfl, fun i hi => by simp at hi, Below.refl _ _, Nat.le_refl _⟩
  have HT := hid hT
  have Hsz := hid hsz
  clear hT hsz
  have Hown := hid (own_lit w l.length (by omega))
  have E : Hid (∀ e r, rowErr l = e → rowRes l = r → rowErr l = e) := fun _ _ h _ => h
  generalize he : rowErr l = er
  generalize hr : rowRes l = rr
  have He := hid he
  have Hr := hid hr
  clear he hr E
  go_enter Tryd.func88, Tryd.ntmps88
  go_wp2_with fail
  go_loopw [4, 16] (fun v i wr => ∃ k : Nat, k ≤ l.length ∧ i = .int .i64 k ∧ wr.ownsRow w.heap.size 5 1 v (rowTo l k).length (cellsOf (rowTo l k)) ∧ Below w.heap.size w wr ∧ ∀ s ∈ l.take k, s.size ≤ 70) (fun _ i _ => l.length - (intOf i).toNat)
  case atStart => exact ⟨0, Nat.zero_le _, rfl, Hown.out, (Below.refl _ _).alloc (Nat.le_refl _) _, by simp⟩
  case round =>
    obtain ⟨k, hk, rfl, hownr, hbel, hsm⟩ := hrel
    have hbd := rowTo_bound l k hk hsm
    have Hownr := hid hownr
    have hszr := hbel.size
    have Hbel := hid hbel
    have Hsm := hid hsm
    clear hownr hbel hsm
    by_cases hlt : k < l.length
    · obtain ⟨b, o, ha, hc⟩ := (HT.out.below Hbel.out) k hlt
      have Hstep := hid (rowTo_step l k hlt)
      have Hmem : Hid (l[k]'hlt ∈ l) := List.getElem_mem _
      have Htk : Hid (l.take (k + 1) = l.take k ++ [l[k]'hlt]) := List.take_succ_eq_append_getElem hlt
      generalize (l[k]'hlt) = s at hc Hstep Hmem Htk
      subst ha
      have hs47 := Hsz.out s Hmem.out
      by_cases h70 : 70 < s.size
      · have e1 : er = 6 := by
          rw [← He.out]
          unfold rowErr
          rw [if_neg h8, if_pos (List.any_eq_true.2 ⟨s, Hmem.out, by simpa using h70⟩)]
        have e2 : rr = [] := by rw [← Hr.out]; unfold rowRes; rw [He.out, e1, if_neg (by omega)]
        subst e1
        subst e2
        go_wp2
        go_ret2
        exact ⟨none, 0, rfl, fun i hi => by simp at hi, Hbel.out, Nat.le_refl _⟩
      · generalize hys : rowTo l k = ys at Hownr hbd Hstep
        have Hys := hid hys
        clear hys
        go_wp2_with (first | (at_builtin; refine app_nat _ rfl (.tmp 23) (.tmp 27) rfl w.heap.size _ ys rfl Hownr.out s.size (by omega) rfl (by omega) (by omega) ?_; intro v1 w1 ho1 hb1 hs1) | (at_builtin; refine app_str _ rfl (.tmp 29) (.tmp 30) rfl w.heap.size _ (ys ++ [UInt8.ofNat s.size]) rfl ho1 s rfl (by simp; omega) (by have := hb1.size; omega) ?_; intro v2 w2 ho2 hb2 hs2))
        go_roundw
        case rel =>
          refine ⟨k + 1, by omega, by go_num, by rw [Hstep.out]; exact ho2, Hbel.out.trans (hb1.trans hb2), ?_⟩
          intro t ht
          rw [Htk.out] at ht
          rcases List.mem_append.1 ht with h | h
          · exact Hsm.out t h
          · have : t = s := by simpa using h
            subst this
            omega
        case measure => simp [intOf]; omega
    · have hk' : k = l.length := by omega
      have hany : l.any (fun s => decide (70 < s.size)) = false := by
        rw [← Bool.not_eq_true, List.any_eq_true]
        rintro ⟨s, hs, h⟩
        have := Hsm.out s (by rw [hk', List.take_length]; exact hs)
        simp at h
        omega
      have hrow : rowTo l k = rowOf (bs l) := by
        unfold rowTo rowOf
        rw [hk', List.take_length]
        simp [bs]
      rw [hrow] at Hownr hbd
      obtain ⟨av, cv, hv, hB, hcap⟩ := bytes_of_own Hownr.out
      have HB := hid hB
      clear hB
      by_cases h72 : 72 < (rowOf (bs l)).length
      · have e1 : er = 6 := by
          rw [← He.out]
          unfold rowErr
          rw [if_neg h8, hany, if_neg (by simp), if_pos h72]
        have e2 : rr = [] := by rw [← Hr.out]; unfold rowRes; rw [He.out, e1, if_neg (by omega)]
        subst e1
        subst e2
        subst hv
        clear hany hrow hk'
        go_wp2
        go_ret2
        exact ⟨none, 0, rfl, fun i hi => by simp at hi, Hbel.out, Nat.le_refl _⟩
      · have e1 : er = 0 := by
          rw [← He.out]
          unfold rowErr
          rw [if_neg h8, hany, if_neg (by simp), if_neg h72]
        have e2 : rr = rowOf (bs l) := by rw [← Hr.out]; unfold rowRes; rw [He.out, e1, if_pos rfl]
        subst e1
        subst e2
        subst hv
        clear hany hrow hk'
        go_wp2
        go_ret2
        exact ⟨av, cv, rfl, HB.out, Hbel.out, hcap⟩
end Go.Proofs.YthfmpebgmojcaaaDoor

/- A chain of events: plain mathematics over hashes and rows. -/
namespace Go.Proofs.YthfmpebgmojcaaaDoor
open Go.RowKit
set_option linter.unusedVariables false
set_option maxRecDepth 20000
set_option maxRecDepth 20000

/-- an event -/
structure Ev where
  num : Nat
  tim : Nat
  what : ByteArray
  who : ByteArray
/-- a number's text -/
def txt (n : Nat) : ByteArray := ⟨(numT n).toArray⟩
/-- an event's bytes -/
def evL (e : Ev) : List ByteArray := [txt e.num, txt e.tim, e.what, e.who]
def evB (e : Ev) : List UInt8 := rowRes (evL e)
/-- a hash behind an event, and behind events -/
def nextH (h : List UInt8) (e : Ev) : List UInt8 := sha (h ++ evB e)
def endH (h : List UInt8) (l : List Ev) : List UInt8 := l.foldl nextH h
theorem nextH_length (h : List UInt8) (e : Ev) : (nextH h e).length = 32 := sha_length _
theorem endH_length (h : List UInt8) (l : List Ev) (hh : h.length = 32) : (endH h l).length = 32 := by
  induction l generalizing h with
  | nil => exact hh
  | cons e l ih => exact ih _ (nextH_length _ _)
theorem endH_snoc (h : List UInt8) (l : List Ev) (e : Ev) : endH h (l ++ [e]) = nextH (endH h l) e := by simp [endH]
theorem endH_append (h : List UInt8) (l m : List Ev) : endH h (l ++ m) = endH (endH h l) m := by simp [endH]
theorem endH_take (h : List UInt8) (l : List Ev) (k : Nat) (hk : k < l.length) : endH h (l.take (k + 1)) = nextH (endH h (l.take k)) l[k] := by
  rw [List.take_succ_eq_append_getElem hk, endH_snoc]

/-- a chain: its base, its anchor, its events, its head, its last time -/
structure Ch where
  bn : Nat
  bh : List UInt8
  an : Nat
  ah : List UInt8
  ev : List Ev
  hd : List UInt8
  la : Nat
def zero32 : List UInt8 := List.replicate 32 0
def ch0 : Ch := ⟨0, zero32, 0, zero32, [], zero32, 0⟩
/-- what is so of every chain -/
structure ChOk (c : Ch) : Prop where
  lb : c.bh.length = 32
  lan : c.ah.length = 32
  lh : c.hd.length = 32
  num : ∀ i (h : i < c.ev.length), c.ev[i].num = c.bn + i + 1
  few : c.ev.length ≤ 64
  anc : c.an ≤ c.bn + c.ev.length
  tim : ∀ e ∈ c.ev, e.tim ≤ c.la
  las : c.la ≤ 1099511627776
  siz : ∀ e ∈ c.ev, e.what.size ≤ 12 ∧ e.who.size ≤ 30
/-- its hashes are hashes -/
structure Lens (c : Ch) : Prop where
  lb : c.bh.length = 32
  lan : c.ah.length = 32
  lh : c.hd.length = 32
theorem ChOk.l {c : Ch} (h : ChOk c) : Lens c := ⟨h.lb, h.lan, h.lh⟩
theorem ch0_ok : ChOk ch0 := ⟨by decide, by decide, by decide, fun i h => by simp [ch0] at h, by decide, by decide, fun e h => by simp [ch0] at h, by decide, fun e h => by simp [ch0] at h⟩
def Ch.cnt (c : Ch) : Nat := c.bn + c.ev.length
/-- the hash behind the first k events -/
def Ch.at (c : Ch) (k : Nat) : List UInt8 := endH c.bh (c.ev.take k)
theorem Ch.at_length {c : Ch} (h : ChOk c) (k : Nat) : (c.at k).length = 32 := endH_length _ _ h.lb
theorem Ch.at_zero (c : Ch) : c.at 0 = c.bh := by simp [Ch.at, endH]
theorem Ch.at_all (c : Ch) : c.at c.ev.length = endH c.bh c.ev := by simp [Ch.at]

/-- Add's error -/
def addE (c : Ch) (t : Int) (what who : ByteArray) : Int :=
  if t < 0 ∨ 1099511627776 < t then 2 else if 12 < what.size ∨ 30 < who.size then 6 else if t < (c.la : Int) then 9 else if 64 ≤ c.ev.length then 26 else 0
def newE (c : Ch) (t : Int) (what who : ByteArray) : Ev := ⟨c.cnt + 1, t.toNat, what, who⟩
def addC (c : Ch) (t : Int) (what who : ByteArray) : Ch := { c with ev := c.ev ++ [newE c t what who], hd := nextH c.hd (newE c t what who), la := t.toNat }
theorem addE_zero {c : Ch} {t : Int} {what who : ByteArray} (h : addE c t what who = 0) : 0 ≤ t ∧ t ≤ 1099511627776 ∧ what.size ≤ 12 ∧ who.size ≤ 30 ∧ (c.la : Int) ≤ t ∧ c.ev.length < 64 := by
  unfold addE at h
  split at h
  · cases h
  · split at h
    · cases h
    · split at h
      · cases h
      · split at h
        · cases h
        · omega
theorem addC_ok {c : Ch} (ok : ChOk c) {t : Int} {what who : ByteArray} (h : addE c t what who = 0) : ChOk (addC c t what who) := by
  obtain ⟨h1, h2, h3, h4, h5, h6⟩ := addE_zero h
  refine ⟨ok.lb, ok.lan, nextH_length _ _, fun i hi => ?_, by simp [addC]; omega, by simp [addC]; have := ok.anc; omega, fun e he => ?_, by simp [addC]; omega, fun e he => ?_⟩
  · simp only [addC, List.length_append, List.length_cons, List.length_nil] at hi
    simp only [addC]
    by_cases hl : i < c.ev.length
    · rw [List.getElem_append_left hl]; exact ok.num i hl
    · have : i = c.ev.length := by omega
      subst this
      rw [List.getElem_append_right (Nat.le_refl _)]
      simp [newE, Ch.cnt]
  · simp only [addC, List.mem_append, List.mem_singleton] at he ⊢
    rcases he with he | rfl
    · have := ok.tim e he; omega
    · exact Nat.le_refl _
  · simp only [addC, List.mem_append, List.mem_singleton] at he
    rcases he with he | rfl
    · exact ok.siz e he
    · exact ⟨h3, h4⟩
/-- Anchor -/
def ancC (c : Ch) : Ch := { c with an := c.cnt, ah := c.hd }
theorem ancC_ok {c : Ch} (ok : ChOk c) : ChOk (ancC c) := ⟨ok.lb, ok.lh, ok.lh, ok.num, ok.few, Nat.le_refl _, ok.tim, ok.las, ok.siz⟩
/-- Prune: of n the error, and what it leaves -/
def pruE (c : Ch) (n : Int) : Int := if (c.an : Int) < n ∨ n < (c.bn : Int) then 2 else 0
def pruC (c : Ch) (k : Nat) : Ch := { c with bn := c.bn + k, bh := c.at k, ev := c.ev.drop k }
theorem pruE_zero {c : Ch} {n : Int} (h : pruE c n = 0) : ∃ k : Nat, n = ((c.bn + k : Nat) : Int) ∧ c.bn + k ≤ c.an := by
  unfold pruE at h
  split at h
  · cases h
  · exact ⟨n.toNat - c.bn, by omega, by omega⟩
theorem pruC_ok {c : Ch} (ok : ChOk c) {k : Nat} (h : c.bn + k ≤ c.an) : ChOk (pruC c k) := by
  have := ok.anc
  refine ⟨Ch.at_length ok k, ok.lan, ok.lh, fun i hi => ?_, by simp [pruC]; have := ok.few; omega, by simp [pruC]; omega, fun e he => ok.tim e (List.mem_of_mem_drop he), ok.las, fun e he => ok.siz e (List.mem_of_mem_drop he)⟩
  simp only [pruC, List.length_drop] at hi
  simp only [pruC, List.getElem_drop]
  rw [ok.num (k + i) (by omega)]
  omega
/-- Verify's error -/
def verE (c : Ch) : Int := if (c.bn ≤ c.an ∧ c.at (c.an - c.bn) ≠ c.ah) ∨ c.at c.ev.length ≠ c.hd then 15 else 0
/-- a chain whose hashes are right -/
structure Sound (c : Ch) : Prop where
  head : c.at c.ev.length = c.hd
  anch : c.bn ≤ c.an → c.at (c.an - c.bn) = c.ah
theorem sound0 : Sound ch0 := ⟨by decide, by decide⟩
theorem Sound.ver {c : Ch} (h : Sound c) : verE c = 0 := by
  unfold verE
  rw [if_neg]
  rintro (⟨h1, h2⟩ | h2)
  · exact h2 (h.anch h1)
  · exact h2 h.head
theorem Sound.add {c : Ch} (h : Sound c) (ok : ChOk c) (t : Int) (what who : ByteArray) : Sound (addC c t what who) := by
  have h0 := h.head
  rw [Ch.at_all] at h0
  refine ⟨?_, fun hb => ?_⟩
  · rw [Ch.at_all]
    simp only [addC]
    rw [endH_snoc, h0]
  · have h1 := h.anch hb
    have h2 := ok.anc
    simp only [addC, Ch.at] at h1 hb ⊢
    rw [List.take_append_of_le_length (by omega)]
    exact h1
theorem Sound.anc {c : Ch} (h : Sound c) : Sound (ancC c) := by
  refine ⟨h.head, fun _ => ?_⟩
  have := h.head
  simp only [ancC, Ch.at, Ch.cnt] at this ⊢
  rw [show c.bn + c.ev.length - c.bn = c.ev.length by omega]
  exact this
theorem Sound.pru {c : Ch} (h : Sound c) (ok : ChOk c) {k : Nat} (hk : c.bn + k ≤ c.an) : Sound (pruC c k) := by
  have ha := ok.anc
  have e : ∀ j, k ≤ j → j ≤ c.ev.length → endH (c.at k) ((c.ev.drop k).take (j - k)) = c.at j := fun j h1 h2 => by
    unfold Ch.at
    rw [← endH_append]
    congr 1
    rw [show j = k + (j - k) by omega, List.take_add, show k + (j - k) - k = j - k by omega]
  refine ⟨?_, fun hb => ?_⟩
  · have h1 := e c.ev.length (by omega) (Nat.le_refl _)
    simp only [pruC, Ch.at, List.length_drop] at h1 ⊢
    rw [h1]
    exact h.head
  · have h1 := e (c.an - c.bn) (by omega) (by omega)
    have h2 := h.anch (by omega)
    simp only [pruC, Ch.at] at h1 h2 ⊢
    rw [show c.an - (c.bn + k) = c.an - c.bn - k by omega, h1]
    exact h2
end Go.Proofs.YthfmpebgmojcaaaDoor
