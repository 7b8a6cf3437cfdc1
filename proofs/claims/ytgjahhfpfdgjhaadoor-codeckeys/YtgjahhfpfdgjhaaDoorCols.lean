/- codec.Columns, by a contract. -/
import Derived.Test.YtgjahhfpfdgjhaaDoorCol
import Derived.Maps.AppendAt
namespace Go.Proofs.YtgjahhfpfdgjhaaDoor
open Go.RowKit
set_option linter.unusedVariables false

/-- n columns, and nothing behind them -/
def cols : Nat → List UInt8 → Option (List (List UInt8))
  | 0, r => if r = [] then some [] else none
  | _ + 1, [] => none
  | n + 1, d :: t => if t.length < d.toNat then none else (cols n (t.drop d.toNat)).map (t.take d.toNat :: ·)
/-- the columns of a row -/
def columnsOf : List UInt8 → Option (List (List UInt8))
  | [] => none
  | d :: t => if 8 < d.toNat then none else cols d.toNat t
def colErr (x : List UInt8) : Nat := if 72 < x.length then 6 else if (columnsOf x).isNone then 3 else 0
def mkText (l : List UInt8) : ByteArray := ⟨l.toArray⟩
def colRes (x : List UInt8) : List ByteArray := if colErr x = 0 then ((columnsOf x).getD []).map mkText else []

theorem colErr_none (x : List UInt8) (h1 : ¬ 72 < x.length) (h2 : columnsOf x = none) : colErr x = 3 ∧ colRes x = [] := by
  have e : colErr x = 3 := by unfold colErr; rw [if_neg h1, h2]; rfl
  exact ⟨e, by unfold colRes; rw [e, if_neg (by omega)]⟩
theorem colErr_some (x : List UInt8) (h1 : ¬ 72 < x.length) (cs : List (List UInt8)) (h2 : columnsOf x = some cs) : colErr x = 0 ∧ colRes x = cs.map mkText := by
  have e : colErr x = 0 := by unfold colErr; rw [if_neg h1, h2]; rfl
  exact ⟨e, by unfold colRes; rw [e, if_pos rfl, h2]; rfl⟩

theorem Tryd.info9 : (Tryd.prog.info? 9).map (fun i => (i.zero, i.size, i.bytes)) = some (some (.string ⟨#[]⟩), 1, 16) := by kernel_rfl
/-- texts as cells -/
def strsOf (l : List ByteArray) : List Value := l.map Value.string
theorem strsOf_length (l : List ByteArray) : (strsOf l).length = l.length := by simp [strsOf]

/-- append(v, s), v a row of texts of the call's own -/
theorem app_text (w : World) {ops : Array Oper} {rest : List Oper} {o : Oper} {a : Act} {Q : Exit → Act → World → Prop} (hgd : o.guard = none) (sl x : Operand)
    (ho : o.op = .call { callee := .builtin .append, args := #[sl, x], argTypes := #[22, 22] }) (base : Nat) (v : Value) (xs : List ByteArray) (hs : a.eval sl = v)
    (hown : w.ownsRow base 9 1 v xs.length (strsOf xs)) (s : ByteArray) (hx : a.eval x = .slice (some ⟨w.heap.size, 0, none⟩) 1 1) (hb : (xs.length + 1) * 16 ≤ 140737488355328) (hbase : base ≤ w.heap.size)
    (h : ∀ v' w', w'.ownsRow base 9 1 v' (xs ++ [s]).length (strsOf (xs ++ [s])) → Below base w w' → (∃ g cap, v' = .slice (some ⟨g, 0, none⟩) (xs ++ [s]).length cap) → wpList Tryd.prog ops Q rest (a.put o.dst v') w') :
    wpList Tryd.prog ops Q (o :: rest) a (w.alloc (.cells #[.string s] 9)) := by
  obtain ⟨i0, hi, hz0, hz1, hz2⟩ := info_parts Tryd.info9
  refine wpList_append_own _ hgd sl x 22 ho base 9 i0 (.string ⟨#[]⟩) 1 16 Tryd.underlying22 hi hz0 hz1 hz2 rfl (by decide) v xs.length (strsOf xs) hs (hown.alloc _) ⟨w.heap.size, 0, none⟩ 1 1 [.string s] hx rfl (cell_one_new _ _ _) (fun u hu => by simp at hu; subst hu; rfl) (by unfold maxLen; omega) (by omega) (by simp; omega) ?_
  intro v' w' h1 h2 h3
  have e : strsOf xs ++ [.string s] = strsOf (xs ++ [s]) := by simp [strsOf]
  have e2 : xs.length + 1 = (xs ++ [s]).length := by simp
  rw [e, e2] at h1
  refine h v' w' h1 (((Below.refl _ _).alloc hbase _).trans ((Below.refl _ _).grown h2 (by simp; omega) (fun k hk => (hown.lt k hk).1))) ?_
  rcases h1.2 with ⟨_, h0⟩ | ⟨g, cap, _, rfl, _⟩
  · simp at h0
  · exact ⟨g, cap, rfl⟩

theorem texts_of_own {w : World} {base : Nat} {v : Value} {xs : List ByteArray} (h : w.ownsRow base 9 1 v xs.length (strsOf xs)) : ∃ a cap, v = .slice a xs.length cap ∧ Texts w a xs ∧ xs.length ≤ cap := by
  rcases h.2 with ⟨rfl, h0⟩ | ⟨g, cap, cur, rfl, _, _, hcap, _⟩
  · exact ⟨none, 0, by rw [h0], fun i hi => by omega, by omega⟩
  · refine ⟨some ⟨g, 0, none⟩, cap, rfl, fun i hi => ⟨g, 0, rfl, ?_⟩, hcap⟩
    have := h.cells (g := g) rfl i (.string xs[i]) (by simp [strsOf, hi])
    rw [addr_add] at this
    exact this

theorem cols_step (n : Nat) (d : UInt8) (t : List UInt8) (h : d.toNat ≤ t.length) : cols (n + 1) (d :: t) = (cols n (t.drop d.toNat)).map (t.take d.toNat :: ·) := by
  rw [cols, if_neg (by omega)]

/-- texts are handed back, in memory of the call's own, and an error -/
def TextsPost (rr : List ByteArray) (er : Nat) (w : World) (e : Ending) (w' : World) : Prop :=
  ∃ a' cap', e = .returned (.tuple #[.slice a' rr.length cap', .int .i64 (er : Int)]) ∧ Texts w' a' rr ∧ Below w.heap.size w w' ∧ rr.length ≤ cap'
theorem TextsPost.none (er : Nat) {w w' : World} (h : Below w.heap.size w w') : TextsPost [] er w (.returned (.tuple #[.slice none 0 0, .int .i64 (er : Int)])) w' :=
  ⟨Option.none, 0, rfl, fun i hi => by simp at hi, h, Nat.le_refl _⟩

set_option maxHeartbeats 1000000 in
theorem columns_any (x : List UInt8) (a : Option Addr) (cap : Nat) (w : World) (hB : Bytes w a x) (hcap : x.length ≤ cap) (hlen : x.length ≤ 140737488351232) :
    Calls Tryd.prog 21 #[.slice a x.length cap] w (TextsPost (colRes x) (colErr x) w) := by
  by_cases h72 : 72 < x.length
  · have e1 : colErr x = 6 := by unfold colErr; rw [if_pos h72]
    have e2 : colRes x = [] := by unfold colRes; rw [e1, if_neg (by omega)]
    rw [e1, e2]
    go_enter Tryd.func21, Tryd.ntmps21
    go_wp2
    go_ret2
    exact TextsPost.none _ (Below.refl _ _)
  have Hnone := hid (colErr_none x h72)
  have Hsome := hid (colErr_some x h72)
  generalize colErr x = er at *
  generalize colRes x = rr at *
  have HB := hid hB
  clear hB
  cases x with
  | nil =>
    obtain ⟨e1, e2⟩ := Hnone.out rfl
    subst e1
    subst e2
    simp only [List.length_nil] at *
    go_enter Tryd.func21, Tryd.ntmps21
    go_wp2
    go_ret2
    exact TextsPost.none _ (Below.refl _ _)
  | cons d t =>
    obtain ⟨b, o, rfl, hc⟩ := HB.out 0 (by simp)
    simp only [List.getElem_cons_zero, Nat.add_zero] at hc
    simp only [List.length_cons] at *
    have hd8 : d.toNat < 256 := d.toNat_lt
    have h0 : (((t.length : Int) + 1) == 0) = false := by rw [beq_eq_false_iff_ne]; omega
    by_cases h8 : 8 < d.toNat
    · obtain ⟨e1, e2⟩ := Hnone.out (by simp only [columnsOf, if_pos h8])
      subst e1
      subst e2
      have h1 : decide (8 < (d.toNat : Int)) = true := by simp; omega
      go_enter Tryd.func21, Tryd.ntmps21
      go_wp2
      go_ret2
      exact TextsPost.none _ (Below.refl _ _)
    have h1 : decide (8 < (d.toNat : Int)) = false := by simp; omega
    have Hcols : Hid (columnsOf (d :: t) = cols d.toNat t) := by simp only [Hid, columnsOf, if_neg h8]
    have hsl := slice_l (some ⟨b, o, none⟩) (t.length + 1) cap 1 1 t.length (cap - 1) rfl (by omega) rfl (by omega)
    have HB1 := hid (HB.out.cut (cap := cap) (by simpa using hcap) 1)
    simp only [List.drop_succ_cons, List.drop_zero] at HB1
    generalize cutAt (some ⟨b, o, none⟩) cap 1 = a1 at hsl HB1
    have f72 : decide (72 < (t.length : Int) + 1) = false := by simp; omega
    generalize hn : d.toNat = n at *
    clear hn
    go_enter Tryd.func21, Tryd.ntmps21
    go_wp2
    go_loopw [4, 5, 25] (fun v rv i wr => ∃ (k : Nat) (out : List ByteArray) (r : List UInt8) (ar : Option Addr) (cr : Nat), k ≤ n ∧ i = .int .u8 k ∧ rv = .slice ar r.length cr ∧ Bytes w ar r ∧ r.length ≤ cr ∧ r.length ≤ 72 ∧ out.length = k ∧
        wr.ownsRow w.heap.size 9 1 v out.length (strsOf out) ∧ Below w.heap.size w wr ∧ cols n t = (cols (n - k) r).map (fun cs => bs out ++ cs)) (fun _ _ i _ => n - (intOf i).toNat)
    case atStart => exact ⟨0, [], t, a1, cap - 1, Nat.zero_le _, rfl, rfl, HB1.out, by omega, by omega, rfl, World.ownsRow_nil _ _ _ _, Below.refl _ _, by simp [bs]⟩
    case round =>
      obtain ⟨k, out, r, ar, cr, hk, rfl, rfl, hBr, hcr, hr72, hout, hownr, hbel, hcols⟩ := hrel
      have HBr := hid (hBr.below hbel)
      have HBr0 := hid hBr
      have Hownr := hid hownr
      have Hbel := hid hbel
      have Hout := hid hout
      have Hcr := hid hcols
      have hsz := hbel.size
      clear hBr hownr hbel hout hcols
      by_cases hlt : k < n
      · obtain ⟨m, hm⟩ : ∃ m, n - k = m + 1 := ⟨n - k - 1, by omega⟩
        cases r with
        | nil =>
          obtain ⟨e1, e2⟩ := Hnone.out (by rw [Hcols.out, Hcr.out, hm]; rfl)
          subst e1
          subst e2
          clear hm
          simp only [List.length_nil] at *
          go_wp2_with (go_at_call 37; refine (firstColumn_nil _ _ _).mono ?_; rintro e w' ⟨rfl, hw⟩; rw [hw]; clear hw w')
          go_ret2
          exact TextsPost.none _ Hbel.out
        | cons d2 t2 =>
          simp only [List.length_cons] at *
          have hd2 : d2.toNat < 256 := d2.toNat_lt
          by_cases hshort : t2.length < d2.toNat
          · obtain ⟨e1, e2⟩ := Hnone.out (by rw [Hcols.out, Hcr.out, hm, cols, if_pos hshort]; rfl)
            subst e1
            subst e2
            clear hm
            go_wp2_with (go_at_call 37; refine (firstColumn_short d2 t2 _ _ _ HBr.out (by omega) hshort).mono ?_; rintro e w' ⟨rfl, hw⟩; rw [hw]; clear hw w')
            go_ret2
            exact TextsPost.none _ Hbel.out
          · obtain ⟨s, hs⟩ : ∃ s, s = mkText (t2.take d2.toNat) := ⟨_, rfl⟩
            have Hs := hid hs
            have hss : s.size = d2.toNat := by
              rw [hs]
              show (t2.take d2.toNat).toArray.size = _
              simp
              omega
            have hsl := slice_l ar (t2.length + 1) cr (1 + (d2.toNat : Int)) (1 + d2.toNat) (t2.length - d2.toNat) (cr - (1 + d2.toNat)) (by omega) (by omega) rfl (by omega)
            have HBn : Hid (Bytes w (cutAt ar cr (1 + d2.toNat)) (t2.drop d2.toNat)) := by
              have := HBr0.out.cut (cap := cr) (by simpa using hcr) (1 + d2.toNat)
              rw [Nat.add_comm 1, List.drop_succ_cons] at this
              rw [Nat.add_comm 1]
              exact this
            have Hnext : Hid (cols n t = (cols (n - (k + 1)) (t2.drop d2.toNat)).map (fun cs => bs (out ++ [s]) ++ cs)) := by
              rw [Hid, Hcr.out, hm, cols_step m d2 t2 (by omega), show n - (k + 1) = m by omega, Option.map_map, hs]
              congr 1
              funext cs
              simp [bs, mkText]
            generalize cutAt ar cr (1 + d2.toNat) = an at hsl HBn
            clear hs hm
            have Hfirst := hid (firstColumn_ok d2 t2 ar cr wr HBr.out (by omega) (by omega) (by omega))
            rw [show (⟨(t2.take d2.toNat).toArray⟩ : ByteArray) = s from Hs.out.symm] at Hfirst
            go_wp2_with (first | (go_at_call 37; refine Hfirst.out.mono ?_; rintro e w' ⟨rfl, hw⟩; rw [hw]; clear hw w') | (at_builtin; refine app_text _ rfl (.tmp 34) (.tmp 36) rfl w.heap.size _ out rfl Hownr.out s rfl (by have := Hout.out; omega) (by omega) ?_; intro v1 w1 ho1 hb1 hs1; have hz1 := hb1.size))
            go_roundw
            case rel =>
              refine ⟨k + 1, out ++ [s], t2.drop d2.toNat, an, cr - (1 + d2.toNat), by omega, by go_num, by rw [List.length_drop], HBn.out, by rw [List.length_drop]; omega, by rw [List.length_drop]; omega, by simp [Hout.out], ho1, Hbel.out.trans hb1, Hnext.out⟩
            case measure => simp [intOf]; omega
      · have hkn : n - k = 0 := by omega
        obtain ⟨av, cv, hv, hTx, hcv⟩ := texts_of_own Hownr.out
        subst hv
        have HTx := hid hTx
        clear hTx
        cases r with
        | nil =>
          obtain ⟨e1, e2⟩ := Hsome.out (bs out) (by rw [Hcols.out, Hcr.out, hkn]; simp [cols])
          have e3 : rr = out := by
            rw [e2]
            unfold bs
            rw [List.map_map]
            exact (List.map_congr_left (fun x _ => Lib.mk_data x)).trans (List.map_id out)
          subst e1
          subst e3
          clear hkn e2
          simp only [List.length_nil] at *
          go_wp2
          go_ret2
          exact ⟨av, cv, rfl, HTx.out, Hbel.out, hcv⟩
        | cons d2 t2 =>
          obtain ⟨e1, e2⟩ := Hnone.out (by rw [Hcols.out, Hcr.out, hkn]; simp [cols])
          subst e1
          subst e2
          clear hkn
          simp only [List.length_cons] at *
          go_wp2
          go_ret2
          exact TextsPost.none _ Hbel.out
end Go.Proofs.YtgjahhfpfdgjhaaDoor
