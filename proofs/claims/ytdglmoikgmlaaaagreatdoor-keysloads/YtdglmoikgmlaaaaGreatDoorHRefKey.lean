/- YtdglmoikgmlaaaaGreatDoorHRefTag + YtdglmoikgmlaaaaGreatDoorHRefKey -/
import Derived.Test.YtdglmoikgmlaaaaGreatDoorHDerive
import Derived.Laws.AppendOwnNone
import Derived.Test.YtdglmoikgmlaaaaGreatDoorHMask
import Derived.Test.YtdglmoikgmlaaaaGreatDoorHTag
import Derived.Deep.AppendLies
import Derived.Test.YtdglmoikgmlaaaaGreatDoorHKey
/- The reference's bytes of a hash, and its tags: holdfastref07.bytesOf, Tag. -/
namespace Go.Proofs.YtdglmoikgmlaaaaGreatDoor
open Go.RowKit
set_option linter.unusedVariables false
set_option maxRecDepth 20000
def SumOk : Prop := ∀ (w : World) (l : List UInt8) (a : Option Addr) (n cap : Nat), n = l.length → Bytes w a l → (a = none → cap = 0) → l.length ≤ 140737488355000 → l.length ≤ cap →
    Calls Tryz.prog 89 #[.slice a n cap] w fun e w' => ∃ O, e = .returned (.agg O) ∧ Hid (HV O (sha l)) ∧ Below w.heap.size w w'
set_option maxHeartbeats 1000000 in
theorem bytesOf_any {w : World} {H : Array Value} {h : List UInt8} (hH : HV H h) :
    Calls Tryz.prog 73 #[.agg H] w fun e w' => ∃ v, e = .returned v ∧ w'.ownsRow w.heap.size 5 1 v h.length (cellsOf h) ∧ Below w.heap.size w w' := by
  have HH := hid hH
  have lh : h.length = 32 := hH.len
  have x0 := hid (heap_alloc_new w (.cells H 23))
  have hsz : (Tryz.prog.info? 23).map (·.size) = some H.size := hH.info
  clear hH
  go_enter Tryz.func73, Tryz.ntmps73
  go_wp2_with fail
  go_loopw [3, 4] (fun v3 v4 wr => ∃ k : Nat, k ≤ 32 ∧ v4 = .int .i64 k ∧ wr.ownsRow (w.heap.size + 1) 5 1 v3 (h.take k).length (cellsOf (h.take k)) ∧ wr.heap[w.heap.size]? = some (.cells H 23 (0, 0)) ∧ Below w.heap.size w wr) (fun _ v4 _ => 32 - (intOf v4).toNat)
  case atStart => exact ⟨0, Nat.zero_le _, rfl, World.ownsRow_nil _ _ _ _, x0.out, (Below.refl _ w).alloc (Nat.le_refl _) _⟩
  case round =>
    clear x0
    obtain ⟨k, hk, rfl, hown, hx, hbel⟩ := hrel
    have Hown := hid hown
    have Hx := hid hx
    have Hbel := hid hbel
    have Hbig : Hid (w.heap.size + 1 ≤ wr.heap.size) := heap_lt hx
    clear hown hx hbel
    by_cases hlt : k < 32
    · have hkh : k < h.length := by omega
      have c1 : wr.cell? ⟨w.heap.size, k, none⟩ = some (.int .u8 (h[k].toNat : Int)) := by rw [cell_of_row _ _ _ _ _ _ Hx.out, HH.out.eq, bvs_get h k hkh]
      have Hst : Hid (h.take (k + 1) = h.take k ++ [h[k]]) := List.take_succ_eq_append_getElem hkh
      have Hlen : Hid ((h.take k).length ≤ 32) := by show _ ≤ _; simp; omega
      obtain ⟨c, hc⟩ : ∃ c, c = h[k] := ⟨_, rfl⟩
      rw [← hc] at c1 Hst
      clear hc hkh
      go_wp2_with (at_builtin; refine app_lits _ rfl (.tmp 9) (.tmp 13) rfl (w.heap.size + 1) _ (h.take k) rfl Hown.out [c] 1 rfl rfl (by have := Hlen.out; omega) Hbig.out ?_; intro v' w' hown' hb' hv'; have Hown' := hid hown'; have Hb' := hid hb'; clear hown' hb' hv')
      go_roundw
      case rel =>
        refine ⟨k + 1, by omega, by go_num, ?_, (Hb'.out.block _ (by omega)).trans Hx.out, Hbel.out.trans (Hb'.out.mono (by omega))⟩
        rw [Hst.out]; exact Hown'.out
      case measure => simp [intOf]; omega
    · have hk32 : k = 32 := by omega
      have h1 := Hown.out
      rw [hk32, List.take_of_length_le (by omega)] at h1
      have Hend := hid (own_mono h1 (Nat.le_succ _))
      clear hk32 hk Hown h1
      go_wp2
      go_ret
      exact ⟨_, rfl, Hend.out, Hbel.out⟩
theorem app_lit1 (w : World) {ops : Array Oper} {rest : List Oper} {o : Oper} {a : Act} {Q : Exit → Act → World → Prop} (hgd : o.guard = none) (s x : Operand)
    (ho : o.op = .call { callee := .builtin .append, args := #[s, x], argTypes := #[41, 41] }) (base : Nat) (v : Value) (xs : List UInt8) (hs : a.eval s = v)
    (hown : w.ownsRow base 5 1 v xs.length (cellsOf xs)) (c : UInt8) (hx : a.eval x = .slice (some ⟨w.heap.size, 0, none⟩) 1 1) (hb : xs.length ≤ 1000000) (hbase : base ≤ w.heap.size)
    (h : ∀ g cap w', w'.ownsRow base 5 1 (.slice (some ⟨g, 0, none⟩) (xs.length + 1) cap) (xs ++ [c]).length (cellsOf (xs ++ [c])) → Below base w w' → (∀ j, j < w.heap.size → some j ≠ v.ownBlock → w'.heap[j]? = w.heap[j]?) → (v.ownBlock = some g ∨ w.heap.size ≤ g) →
      wpList Tryz.prog ops Q rest (a.put o.dst (.slice (some ⟨g, 0, none⟩) (xs.length + 1) cap)) w') :
    wpList Tryz.prog ops Q (o :: rest) a (w.alloc (.cells (cellsOf [c]).toArray 5)) := by
  obtain ⟨i0, hi, hz0, hz1, hz2⟩ := info_parts Tryz.info5
  refine wpList_plain hgd fun K hK => ?_
  refine wp_append_lies _ s x 41 ho base 5 i0 _ 1 1 Tryz.underlying41 hi hz0 hz1 hz2 rfl (by omega) v xs.length (cellsOf xs) hs (hown.alloc _) ⟨w.heap.size, 0, none⟩ 1 1 (cellsOf [c]) hx (by simp [cellsOf]) (World.news_of_block (cs := (cellsOf [c]).toArray) (t := 5) (fr := (0, 0)) (heap_alloc_new w _)) (cellsOf_one [c]) (by omega) (by unfold maxLen; omega) (by omega) (by simp; omega) _ rfl ?_
  intro g cap w1 hown' hgrow hat hlt
  rw [← cellsOf_append] at hown'
  refine hK _ _ (h g cap w1 ?_ ?_ ?_ ?_)
  · rw [List.length_append]; exact hown'
  · exact ((Below.refl base w).alloc hbase _).grown hgrow (by simp; omega) fun j ej => (hown.lt j ej).1
  · intro j hj h1
    rw [hgrow.block j (by simp; omega) h1]
    exact Below.heap_alloc _ _ _ hj
  · rcases hat with h1 | h1
    · exact .inl h1
    · refine .inr ?_
      rw [h1]
      simp
theorem own_other {w w' : World} {B e n : Nat} {u v : Value} {ys : List Value} (h : w.ownsRow B e 1 u n ys) (hk : ∀ j, j < w.heap.size → some j ≠ v.ownBlock → w'.heap[j]? = w.heap[j]?) (hne : ∀ g, u.ownBlock = some g → v.ownBlock ≠ some g) : w'.ownsRow B e 1 u n ys := by
  refine ⟨h.1, ?_⟩
  rcases h.2 with h0 | ⟨g, cap, cur, hv, hg, hgb, r⟩
  · exact .inl h0
  · refine .inr ⟨g, cap, cur, hv, hg, (hk g (heap_lt hgb) (fun e => hne g (by rw [hv]; rfl) e.symm)).trans hgb, r⟩
theorem own_lt {w : World} {B e n : Nat} {v : Value} {ys : List Value} (h : w.ownsRow B e 1 v n ys) : ∀ g, v.ownBlock = some g → g < w.heap.size := fun g hg => (h.lt g hg).2
theorem app_srcH (w : World) {ops : Array Oper} {rest : List Oper} {o : Oper} {a : Act} {Q : Exit → Act → World → Prop} (hgd : o.guard = none) (s x : Operand)
    (ho : o.op = .call { callee := .builtin .append, args := #[s, x], argTypes := #[41, 41] }) (base : Nat) (v : Value) (xs : List UInt8) (hs : a.eval s = v)
    (hown : w.ownsRow base 5 1 v xs.length (cellsOf xs)) (ad : Option Addr) (n c : Nat) (news : List UInt8) (hn : n = news.length) (hx : a.eval x = .slice ad n c) (hB : Bytes w ad news) (hc : ad = none → c = 0)
    (hb : xs.length + news.length ≤ 140737488355328) (hbase : base ≤ w.heap.size)
    (h : ∀ v' w', w'.ownsRow base 5 1 v' (xs ++ news).length (cellsOf (xs ++ news)) → w.grownBy w' v.ownBlock → wpList Tryz.prog ops Q rest (a.put o.dst v') w') :
    wpList Tryz.prog ops Q (o :: rest) a w := by
  obtain ⟨i0, hi, hz0, hz1, hz2⟩ := info_parts Tryz.info5
  subst hn
  cases ad with
  | none =>
    have hl : news = [] := by
      cases news with
      | nil => rfl
      | cons c x => obtain ⟨b, o, e, _⟩ := hB 0 (by simp); cases e
    subst hl
    rw [hc rfl] at hx
    refine wpList_append_own_none hgd s x 41 ho base 5 i0 1 Tryz.underlying41 hi v xs.length (cellsOf xs) hs hown hx ?_
    refine h v w ?_ ⟨rfl, rfl, rfl, Nat.le_refl _, fun _ _ _ => rfl⟩
    rw [List.append_nil]
    exact hown
  | some ad =>
    refine wpList_append_own w hgd s x 41 ho base 5 i0 (.int .u8 0) 1 1 Tryz.underlying41 hi hz0 hz1 hz2 rfl (by decide) v xs.length (cellsOf xs) hs hown ad news.length c (cellsOf news) hx (by simp [cellsOf_length]) (fun j u hj => ?_) (cellsOf_one _) (by unfold maxLen; omega) (by omega) hbase ?_
    · have hj' : j < news.length := by
        have := (List.getElem?_eq_some_iff.1 hj).1
        simpa [cellsOf_length] using this
      obtain ⟨b, o, e, hcl⟩ := hB j hj'
      cases e
      rw [addr_add, hcl]
      rw [cellsOf_get news j hj'] at hj
      rw [← hj]
    · intro v' w' h1 h2 h3
      rw [← cellsOf_append, ← List.length_append] at h1
      exact h v' w' h1 h2
theorem bytes_ofH {w : World} {B e : Nat} {v : Value} {n : Nat} {l : List UInt8} (h : w.ownsRow B e 1 v n (cellsOf l)) : ∃ a cap, v = .slice a l.length cap ∧ Bytes w a l ∧ l.length ≤ cap ∧ (a = none → cap = 0) := by
  obtain ⟨a, cap, rfl, h1, h2⟩ := bytes_of_own h
  refine ⟨a, cap, rfl, h1, h2, fun e => ?_⟩
  subst e
  rcases h.2 with ⟨h3, _⟩ | ⟨g, c, cur, h3, _⟩
  · simp at h3; exact h3.2
  · simp at h3
theorem own_onH {w w' : World} {B e s n : Nat} {v : Value} {xs : List Value} (h : w.ownsRow B e s v n xs) (hb : Below w.heap.size w w') : w'.ownsRow B e s v n xs := by
  refine ⟨h.1, ?_⟩
  rcases h.2 with h0 | ⟨g, cap, cur, hv, hg, hgb, r⟩
  · exact .inl h0
  · exact .inr ⟨g, cap, cur, hv, hg, (hb.block _ (heap_lt hgb)).trans hgb, r⟩
def short (key : List UInt8) : List UInt8 := if 64 < key.length then sha key else key
theorem short_len (key : List UInt8) : (short key).length ≤ 64 := by
  unfold short
  split
  · rw [sha_length]; omega
  · omega
theorem block_short (key : List UInt8) : blockOf key = short key ++ List.replicate (64 - (short key).length) 0 := rfl
theorem xor36 (c : UInt8) : bits .xor .u8 (c.toNat : Int) 54 = ((c ^^^ 0x36).toNat : Int) := b_xor c 0x36
theorem xor5c (c : UInt8) : bits .xor .u8 (c.toNat : Int) 92 = ((c ^^^ 0x5c).toNat : Int) := b_xor c 0x5c
theorem mask_step (m : UInt8) (B : List UInt8) (i : Nat) (h : i < B.length) : maskB m (B.take (i + 1)) = maskB m (B.take i) ++ [B[i] ^^^ m] := by
  unfold maskB
  rw [List.take_succ_eq_append_getElem h, List.map_append]
  rfl
theorem own_some5 {w : World} {B e : Nat} {a : Option Addr} {n cap : Nat} {l : List UInt8} (h : w.ownsRow B e 1 (.slice a n cap) l.length (cellsOf l)) (h0 : 0 < l.length) : ∃ g c, Value.slice a n cap = .slice (some ⟨g, 0, none⟩) n c ∧ Bytes w (some ⟨g, 0, none⟩) l ∧ l.length ≤ c ∧ B ≤ g := by
  obtain ⟨a', c', e, h1, h2⟩ := bytes_of_own h
  cases e
  rcases h.2 with ⟨h3, _⟩ | ⟨g, c, cur, h3, hB, _⟩
  · simp at h3; omega
  · simp at h3
    obtain ⟨rfl, _, _⟩ := h3
    exact ⟨g, cap, rfl, h1, h2, hB⟩
theorem row5 {w : World} {B e g n cap : Nat} {l : List UInt8} (h : w.ownsRow B e 1 (.slice (some ⟨g, 0, none⟩) n cap) l.length (cellsOf l)) : Bytes w (some ⟨g, 0, none⟩) l := by
  obtain ⟨a', c', e, h1, h2⟩ := bytes_of_own h
  cases e
  exact h1
set_option maxHeartbeats 8000000 in
theorem refTag_any (hS : SumOk) {w : World} (key : List UInt8) (a : Option Addr) (n cap : Nat) (hn : n = key.length) (hB : Bytes w a key) (hc0 : a = none → cap = 0) (hl : key.length ≤ 140737488351232) (hcap : key.length ≤ cap)
    (b : List UInt8) (a' : Option Addr) (n' cap' : Nat) (hn' : n' = b.length) (hB' : Bytes w a' b) (hc0' : a' = none → cap' = 0) (hl' : b.length ≤ 140737488351232) (hcap' : b.length ≤ cap') :
    Calls Tryz.prog 72 #[.slice a n cap, .slice a' n' cap'] w (TagPost w (hmac key b)) := by
  obtain ⟨Z, hZ⟩ : ∃ Z, Z = bvs (List.replicate 32 0) := ⟨_, rfl⟩
  have zh := (zero_of_info zero_hash).1
  rw [← hZ] at zh
  have hz : Hid (HV Z (List.replicate 32 0)) := by
    show HV _ _
    rw [hZ]; exact hv_zero
  have zh := hid zh
  have HB := hid hB
  have HB' := hid hB'
  have Hn := hid hn
  have Hn' := hid hn'
  have Hc0 := hid hc0
  have Hc0' := hid hc0'
  have x0 := hid (heap_alloc_new w (.cells Z 23))
  have b0 : Hid (Below w.heap.size w (w.alloc (.cells Z 23))) := (Below.refl _ w).alloc (Nat.le_refl _) _
  have ln : n ≤ 140737488351232 := by omega
  have ln' : n' ≤ 140737488351232 := by omega
  have lc : n ≤ cap := by omega
  have lc' : n' ≤ cap' := by omega
  have hlk : key.length = n := hn.symm
  have hlk0 : (([] : List UInt8) ++ key).length = n := hn.symm
  clear hZ hB hB' hn hn' hc0 hc0' hl hl' hcap hcap'
  go_enter Tryz.func72, Tryz.ntmps72
  by_cases hlong : 64 < n
  · have q0 : (64 : Int) < (n : Int) := by omega
    have Hsh : Hid (short key = sha key) := by
      show _ = _
      unfold short; rw [if_pos (by omega)]
    go_wp2_with (first
      | (with_reducible show Go.wpList _ _ _ _ _ _; refine wpList_alloc_row rfl 23 rfl Z zh.out ?_)
      | (at_builtin; refine app_src _ rfl (.tmp 9) (.tmp 10) rfl (w.heap.size + 1) _ [] rfl (World.ownsRow_nil _ _ _ _) a n cap key Hn.out rfl (HB.out.below b0.out) Hc0.out (by simp; omega) (by simp) ?_; intro v5 W1 hown5 hb1; obtain ⟨a5, c5, rfl, hB5, hc5, hn5⟩ := bytes_ofH hown5; rw [hlk0]; have Hb1 := hid hb1; clear hown5 hb1 hB5 hc5 hn5))
    have b1 : Hid (Below w.heap.size w W1) := b0.out.trans (Hb1.out.mono (by omega))
    have x1 : Hid (W1.heap[w.heap.size]? = some (.cells Z 23 (0, 0))) := (Hb1.out.block _ (by omega)).trans x0.out
    clear Hb1 b0 x0
    refine (hS _ key a n cap Hn.out (HB.out.below b1.out) Hc0.out (by omega) (by omega)).mono ?_
    rintro _ W2 ⟨O, rfl, hO, hb2⟩
    have b2 : Hid (Below w.heap.size w W2) := Below.on' b1.out hb2
    have x2 : Hid (W2.heap[w.heap.size]? = some (.cells Z 23 (0, 0))) := (hb2.block _ (heap_lt x1.out)).trans x1.out
    clear hb2 b1 x1
    go_wp2_with fail
    refine (bytesOf_any hO.out).mono ?_
    rintro _ V ⟨v, rfl, hown, hb3⟩
    have HbV : Hid (Below w.heap.size w V) := Below.on' b2.out hb3
    have HXV : Hid (V.heap[w.heap.size]? = some (.cells Z 23 (0, 0))) := (hb3.block _ (heap_lt x2.out)).trans x2.out
    have HownV : Hid (V.ownsRow (w.heap.size + 1) 5 1 v (short key).length (cellsOf (short key))) := by
      show World.ownsRow _ _ _ _ _ _ _
      rw [Hsh.out]
      exact own_mono hown (heap_lt x2.out)
    clear hown hb3 b2 x2 hO Hsh HB Hc0
    go_wp2_with fail
    go_loopw [5] (fun v5 wr => ∃ j : Nat, (short key).length + j ≤ 64 ∧ wr.ownsRow (w.heap.size + 1) 5 1 v5 (short key ++ List.replicate j 0).length (cellsOf (short key ++ List.replicate j 0)) ∧ wr.heap[w.heap.size]? = some (.cells Z 23 (0, 0)) ∧ Below w.heap.size w wr) (fun v5 _ => 64 - (match v5 with | .slice _ n _ => n | _ => 0))
    case atStart => exact ⟨0, short_len key, by simpa using HownV.out, HXV.out, HbV.out⟩
    case round =>
      clear HownV HXV HbV
      obtain ⟨j, hj, hown, hx, hbel⟩ := hrel
      have Hown := hid hown
      have Hx := hid hx
      have Hbel := hid hbel
      have s1 : w.heap.size + 1 ≤ wr.heap.size := heap_lt hx
      obtain ⟨a5, c5, rfl, hB5, hc5, hn5⟩ := bytes_ofH hown
      have lj : (short key ++ List.replicate j 0).length = (short key).length + j := by simp
      rw [lj]
      obtain ⟨ls, hls⟩ : ∃ ls, ls = (short key).length := ⟨_, rfl⟩
      rw [← hls] at hj lj ⊢
      clear hown hx hbel hB5 hc5 hn5
      by_cases hlt : ls + j < 64
      · have q1 : ((ls + j : Nat) : Int) < 64 := by omega
        have q2 : (ls : Int) + (j : Int) < 64 := by omega
        go_wp2_with (at_builtin; refine app_lits _ rfl (.tmp 21) (.tmp 22) rfl (w.heap.size + 1) _ (short key ++ List.replicate j 0) rfl (by have h := Hown.out; rw [lj] at h; rw [lj]; exact h) [0] 1 rfl rfl (by omega) s1 ?_; intro v' w' hown' hb' hv'; obtain ⟨g', c', rfl⟩ := hv' (by simp; omega); have Hown' := hid hown'; have Hb' := hid hb'; clear hown' hb')
        go_roundw
        case rel =>
          refine ⟨j + 1, by omega, ?_, (Hb'.out.block _ (by omega)).trans Hx.out, Hbel.out.trans (Hb'.out.mono (by omega))⟩
          have h := Hown'.out
          rw [List.append_assoc, ← List.replicate_succ'] at h
          rw [show (short key).length + (j + 1) = (short key ++ List.replicate (j + 1) 0).length by simp]
          exact h
        case measure => simp; omega
      · have q1 : ¬ ((ls + j : Nat) : Int) < 64 := by omega
        have q2 : ¬ (ls : Int) + (j : Int) < 64 := by omega
        have hj64 : j = 64 - ls := by omega
        obtain ⟨B, hBdef⟩ : ∃ B, B = blockOf key := ⟨_, rfl⟩
        have lB : B.length = 64 := by rw [hBdef]; exact blockOf_length key
        have own5 : wr.ownsRow (w.heap.size + 1) 5 1 (.slice a5 64 c5) B.length (cellsOf B) := by
          have h := Hown.out
          rw [lj, show ls + j = 64 by omega] at h
          rw [lB, hBdef, block_short, ← hls, ← hj64]
          exact h
        obtain ⟨gk, c5', e5, hB5, hc5, hgk⟩ := own_some5 own5 (by omega)
        cases e5
        rw [show ls + j = 64 by omega]
        have Hown5 := hid own5
        have Hm : Hid (hmac key b = sha (maskB 0x5c B ++ sha (maskB 0x36 B ++ b))) := by
          show _ = _
          rw [hBdef]; rfl
        clear own5 Hown hB5 q1 q2 hj64 hBdef hls lj hj hlt
        go_wp2_with fail
        go_loopw [6, 7, 8] (fun v6 v7 v8 wr => ∃ i : Nat, i ≤ 64 ∧ v8 = .int .i64 (i : Int) ∧ wr.ownsRow (w.heap.size + 1) 5 1 v6 (maskB 0x36 (B.take i)).length (cellsOf (maskB 0x36 (B.take i))) ∧ wr.ownsRow (w.heap.size + 1) 5 1 v7 (maskB 0x5c (B.take i)).length (cellsOf (maskB 0x5c (B.take i))) ∧ wr.ownsRow (w.heap.size + 1) 5 1 (.slice (some ⟨gk, 0, none⟩) 64 c5) B.length (cellsOf B) ∧ (∀ g, v6.ownBlock = some g → v7.ownBlock ≠ some g ∧ g ≠ gk) ∧ (∀ g, v7.ownBlock = some g → g ≠ gk) ∧ wr.heap[w.heap.size]? = some (.cells Z 23 (0, 0)) ∧ Below w.heap.size w wr) (fun _ _ v8 _ => 64 - (intOf v8).toNat)
        case atStart => exact ⟨0, by omega, rfl, World.ownsRow_nil _ _ _ _, World.ownsRow_nil _ _ _ _, Hown5.out, fun g hg => by simp [Value.ownBlock] at hg, fun g hg => by simp [Value.ownBlock] at hg, Hx.out, Hbel.out⟩
        case round =>
          clear Hown5 Hx Hbel
          obtain ⟨i, hi, rfl, h6, h7, h5, ap6, ap7, hx, hbel⟩ := hrel
          have H6 := hid h6
          have H7 := hid h7
          have H5 := hid h5
          have A6 := hid ap6
          have A7 := hid ap7
          have Hx := hid hx
          have Hbel := hid hbel
          have s2 : w.heap.size + 1 ≤ wr.heap.size := heap_lt hx
          clear h6 h7 h5 ap6 ap7 hx hbel s1
          by_cases hlt : i < 64
          · have hiB : i < B.length := by omega
            have st6 := hid (mask_step 0x36 B i hiB)
            have st7 := hid (mask_step 0x5c B i hiB)
            obtain ⟨_, _, e1, c1⟩ := (row5 H5.out) i hiB
            cases e1
            rw [Nat.zero_add] at c1
            have l6 : (maskB 0x36 (B.take i)).length = i := by rw [maskB_length, List.length_take]; omega
            have l7 : (maskB 0x5c (B.take i)).length = i := by rw [maskB_length, List.length_take]; omega
            obtain ⟨c, hc⟩ : ∃ c, c = B[i] := ⟨_, rfl⟩
            rw [← hc] at c1 st6 st7
            have y6 := xor36 c
            have y7 := xor5c c
            obtain ⟨d6, hd6⟩ : ∃ d6, d6 = c ^^^ 0x36 := ⟨_, rfl⟩
            obtain ⟨d7, hd7⟩ : ∃ d7, d7 = c ^^^ 0x5c := ⟨_, rfl⟩
            rw [← hd6] at st6 y6
            rw [← hd7] at st7 y7
            have cw : Hid (∀ W : World, W.ownsRow (w.heap.size + 1) 5 1 (.slice (some ⟨gk, 0, none⟩) 64 c5) B.length (cellsOf B) → W.cell? ⟨gk, i, none⟩ = some (.int .u8 (c.toNat : Int))) := fun W hW => by
              obtain ⟨_, _, e2, c2⟩ := (row5 hW) i hiB
              cases e2
              rw [Nat.zero_add, ← hc] at c2
              exact c2
            clear hd6 hd7 hc
            go_wp2_with (at_builtin; first
              | (refine app_lit1 _ rfl (.tmp 28) (.tmp 34) rfl (w.heap.size + 1) _ (maskB 0x36 (B.take i)) rfl H6.out d6 rfl (by omega) s2 ?_; intro g6 k6 w1 h61 hb1 hk1 hg1; have H61 := hid h61; have Hb1 := hid hb1; have Hg1 := hid hg1; have H71 := hid (own_other H7.out hk1 (fun g hg e => (A6.out g e).1 hg)); have H51 := hid (own_other H5.out hk1 (fun g hg e => (A6.out g e).2 (by simpa [Value.ownBlock] using hg.symm))); have c2 := cw.out _ H51.out; have s3 : w.heap.size + 1 ≤ w1.heap.size := Nat.le_trans s2 hb1.size; clear h61 hb1 hk1 hg1)
              | (refine app_lit1 _ rfl (.tmp 36) (.tmp 42) rfl (w.heap.size + 1) _ (maskB 0x5c (B.take i)) rfl H71.out d7 rfl (by omega) s3 ?_; intro g7 k7 w2 h72 hb2 hk2 hg2; have H72 := hid h72; have Hb2 := hid hb2; have Hg2 := hid hg2; have Hk2 := hid hk2; clear h72 hb2 hk2 hg2))
            go_roundw
            case rel =>
              have n7 : ∀ g, u7.ownBlock = some g → g < wr.heap.size := own_lt H7.out
              have n5 : gk < wr.heap.size := own_lt H5.out gk rfl
              have z67 : u7.ownBlock ≠ some g6 := fun e => by
                rcases Hg1.out with h | h
                · exact (A6.out g6 h).1 e
                · have := n7 g6 e; omega
              have z65 : g6 ≠ gk := fun e => by
                rcases Hg1.out with h | h
                · exact (A6.out g6 h).2 e
                · omega
              have z75 : g7 ≠ gk := fun e => by
                rcases Hg2.out with h | h
                · exact A7.out g7 h e
                · have := Hb1.out.size; omega
              have z76 : g7 ≠ g6 := fun e => by
                rcases Hg2.out with h | h
                · exact z67 (by rw [← e]; exact h)
                · have := own_lt H61.out g6 rfl; omega
              refine ⟨i + 1, by omega, by go_num, ?_, ?_, own_other H51.out Hk2.out (fun g hg e => A7.out g e (by simpa [Value.ownBlock] using hg.symm)), fun g hg => ?_, fun g hg => ?_, (Hb2.out.block _ (by omega)).trans ((Hb1.out.block _ (by omega)).trans Hx.out), (Hbel.out.trans (Hb1.out.mono (by omega))).trans (Hb2.out.mono (by omega))⟩
              · rw [st6.out]; exact own_other (by have h := H61.out; rw [l6] at h; exact h) Hk2.out (fun g hg e => z67 (by simp [Value.ownBlock] at hg; rw [hg]; exact e))
              · rw [st7.out]; have h := H72.out; rw [l7] at h; exact h
              · simp [Value.ownBlock] at hg; subst hg; exact ⟨fun e => z76 (by simpa [Value.ownBlock] using e), z65⟩
              · simp [Value.ownBlock] at hg; subst hg; exact z75
            case measure => simp [intOf]; omega
          · have hi64 : i = 64 := by omega
            have E6 : Hid (wr.ownsRow (w.heap.size + 1) 5 1 u6 (maskB 0x36 B).length (cellsOf (maskB 0x36 B))) := by
              have h := H6.out
              rw [hi64, List.take_of_length_le (by omega)] at h
              exact h
            have E7 : Hid (wr.ownsRow (w.heap.size + 1) 5 1 u7 (maskB 0x5c B).length (cellsOf (maskB 0x5c B))) := by
              have h := H7.out
              rw [hi64, List.take_of_length_le (by omega)] at h
              exact h
            have lm6 : (maskB 0x36 B).length = 64 := by rw [maskB_length]; exact lB
            have lm7 : (maskB 0x5c B).length = 64 := by rw [maskB_length]; exact lB
            clear H6 H7 H5 hi64 A7
            obtain ⟨V, hV⟩ : ∃ V, V = wr := ⟨_, rfl⟩
            rw [← hV] at E6 E7 Hx Hbel s2 ⊢
            clear hV
            go_wp2_with (at_builtin; refine app_srcH _ rfl (.tmp 44) (.tmp 45) rfl (w.heap.size + 1) _ (maskB 0x36 B) rfl E6.out a' n' cap' b Hn'.out rfl (HB'.out.below Hbel.out) Hc0'.out (by have := Hn'.out; omega) s2 ?_; intro v6 w1 h61 hgr; have H61 := hid h61; have Hgr := hid hgr; clear h61 hgr)
            have E71 := hid (own_other E7.out (fun j hj h1 => Hgr.out.block j hj h1) (fun g hg e => (A6.out g e).1 hg))
            have hb1 : Below (w.heap.size + 1) V w1 := (Below.refl _ V).grown Hgr.out s2 (fun j ej => (E6.out.lt j ej).1)
            have b1 : Hid (Below w.heap.size w w1) := Hbel.out.trans (hb1.mono (by omega))
            have x1 : Hid (w1.heap[w.heap.size]? = some (.cells Z 23 (0, 0))) := (hb1.block _ (by omega)).trans Hx.out
            obtain ⟨a6, c6, rfl, hB6, hc6, hn6⟩ := bytes_ofH H61.out
            have lm : (maskB 0x36 B ++ b).length = 64 + n' := by rw [List.length_append, lm6, Hn'.out]
            rw [lm] at hc6 ⊢
            have HB6 := hid hB6
            have Hn6 := hid hn6
            clear hB6 hn6 hb1 H61 Hgr E6 E7 Hbel Hx A6
            go_wp2_with fail
            refine (hS _ (maskB 0x36 B ++ b) a6 (64 + n') c6 lm.symm HB6.out Hn6.out (by omega) (by omega)).mono ?_
            rintro _ w2 ⟨O1, rfl, hO1, hb2⟩
            have b2 : Hid (Below w.heap.size w w2) := Below.on' b1.out hb2
            have x2 : Hid (w2.heap[w.heap.size]? = some (.cells Z 23 (0, 0))) := (hb2.block _ (heap_lt x1.out)).trans x1.out
            have E72 := hid (own_onH E71.out hb2)
            clear hb2 b1 x1 E71 HB6 Hn6
            go_wp2_with fail
            refine (bytesOf_any hO1.out).mono ?_
            rintro _ w3 ⟨v50, rfl, h50, hb3⟩
            obtain ⟨a50, c50, rfl, hB50, hc50, hn50⟩ := bytes_ofH h50
            have l50 : (sha (maskB 0x36 B ++ b)).length = 32 := sha_length _
            rw [l50] at hc50 ⊢
            have b3 : Hid (Below w.heap.size w w3) := Below.on' b2.out hb3
            have x3 : Hid (w3.heap[w.heap.size]? = some (.cells Z 23 (0, 0))) := (hb3.block _ (heap_lt x2.out)).trans x2.out
            have E73 := hid (own_onH E72.out hb3)
            have s3 : w.heap.size + 1 ≤ w3.heap.size := heap_lt x3.out
            have HB50 := hid hB50
            have Hn50 := hid hn50
            clear hb3 b2 x2 E72 hB50 hn50 h50 hO1
            go_wp2_with (at_builtin; refine app_src _ rfl (.tmp 47) (.tmp 50) rfl (w.heap.size + 1) _ (maskB 0x5c B) rfl E73.out a50 32 c50 (sha (maskB 0x36 B ++ b)) l50.symm rfl HB50.out Hn50.out (by omega) s3 ?_; intro v7 w4 h74 hb4; have H74 := hid h74; have Hb4 := hid hb4; clear h74 hb4)
            have b4 : Hid (Below w.heap.size w w4) := b3.out.trans (Hb4.out.mono (by omega))
            have x4 : Hid (w4.heap[w.heap.size]? = some (.cells Z 23 (0, 0))) := (Hb4.out.block _ (by omega)).trans x3.out
            obtain ⟨a7, c7, rfl, hB7, hc7, hn7⟩ := bytes_ofH H74.out
            have lm2 : (maskB 0x5c B ++ sha (maskB 0x36 B ++ b)).length = 96 := by rw [List.length_append, lm7, l50]
            rw [lm2] at hc7 ⊢
            have HB7 := hid hB7
            have Hn7 := hid hn7
            clear hB7 hn7 H74 Hb4 b3 x3 E73 HB50 Hn50
            go_wp2_with fail
            refine (hS _ (maskB 0x5c B ++ sha (maskB 0x36 B ++ b)) a7 96 c7 lm2.symm HB7.out Hn7.out (by omega) (by omega)).mono ?_
            rintro _ w5 ⟨O2, rfl, hO2, hb5⟩
            have b5 : Hid (Below w.heap.size w w5) := Below.on' b4.out hb5
            have x5 : Hid (w5.heap[w.heap.size]? = some (.cells Z 23 (0, 0))) := (hb5.block _ (heap_lt x4.out)).trans x4.out
            clear hb5 b4 x4 HB7 Hn7
            go_wp2_with (with_reducible show Go.wpList _ _ _ _ _ _; refine wpList_store_row rfl 23 (.tmp 4) (.tmp 53) rfl w.heap.size O2 rfl rfl 23 Z x5.out hO2.out.info (hz.out.size.trans hO2.out.size.symm) hO2.out.one ?_)
            refine bodyPost_ret (results_cell_row rfl _ _ w.heap.size 23 O2 (0, 0) _ rfl (setRow_heap _ _ _ _ _ _ x5.out) Tryz.underlying23 rfl hO2.out.info) rfl ⟨O2, rfl, ?_, b5.out.setRow (by omega) _⟩
            rw [Hm.out]; exact hO2.out
  · have q0 : ¬ (64 : Int) < (n : Int) := by omega
    have Hsh : Hid (short key = key) := by
      show _ = _
      unfold short; rw [if_neg (by omega)]
    go_wp2_with (first
      | (with_reducible show Go.wpList _ _ _ _ _ _; refine wpList_alloc_row rfl 23 rfl Z zh.out ?_)
      | (at_builtin; refine app_src _ rfl (.tmp 9) (.tmp 10) rfl (w.heap.size + 1) _ [] rfl (World.ownsRow_nil _ _ _ _) a n cap key Hn.out rfl (HB.out.below b0.out) Hc0.out (by simp; omega) (by simp) ?_; intro v V hown hb1; obtain ⟨a5, c5, rfl, hB5, hc5, hn5⟩ := bytes_ofH hown; rw [hlk0] at hown ⊢; have Hown0 := hid hown; have Hb1 := hid hb1; clear hown hb1 hB5 hc5 hn5))
    have HbV : Hid (Below w.heap.size w V) := b0.out.trans (Hb1.out.mono (by omega))
    have HXV : Hid (V.heap[w.heap.size]? = some (.cells Z 23 (0, 0))) := (Hb1.out.block _ (by omega)).trans x0.out
    have HownV : Hid (V.ownsRow (w.heap.size + 1) 5 1 (.slice a5 n c5) (short key).length (cellsOf (short key))) := by
      show World.ownsRow _ _ _ _ _ _ _
      rw [Hsh.out, hlk]
      have h := Hown0.out
      rwa [List.nil_append] at h
    clear Hown0 Hb1 b0 x0 Hsh HB Hc0
    go_loopw [5] (fun v5 wr => ∃ j : Nat, (short key).length + j ≤ 64 ∧ wr.ownsRow (w.heap.size + 1) 5 1 v5 (short key ++ List.replicate j 0).length (cellsOf (short key ++ List.replicate j 0)) ∧ wr.heap[w.heap.size]? = some (.cells Z 23 (0, 0)) ∧ Below w.heap.size w wr) (fun v5 _ => 64 - (match v5 with | .slice _ n _ => n | _ => 0))
    case atStart => exact ⟨0, short_len key, by simpa using HownV.out, HXV.out, HbV.out⟩
    case round =>
      clear HownV HXV HbV
      obtain ⟨j, hj, hown, hx, hbel⟩ := hrel
      have Hown := hid hown
      have Hx := hid hx
      have Hbel := hid hbel
      have s1 : w.heap.size + 1 ≤ wr.heap.size := heap_lt hx
      obtain ⟨a5, c5, rfl, hB5, hc5, hn5⟩ := bytes_ofH hown
      have lj : (short key ++ List.replicate j 0).length = (short key).length + j := by simp
      rw [lj]
      obtain ⟨ls, hls⟩ : ∃ ls, ls = (short key).length := ⟨_, rfl⟩
      rw [← hls] at hj lj ⊢
      clear hown hx hbel hB5 hc5 hn5
      by_cases hlt : ls + j < 64
      · have q1 : ((ls + j : Nat) : Int) < 64 := by omega
        have q2 : (ls : Int) + (j : Int) < 64 := by omega
        go_wp2_with (at_builtin; refine app_lits _ rfl (.tmp 21) (.tmp 22) rfl (w.heap.size + 1) _ (short key ++ List.replicate j 0) rfl (by have h := Hown.out; rw [lj] at h; rw [lj]; exact h) [0] 1 rfl rfl (by omega) s1 ?_; intro v' w' hown' hb' hv'; obtain ⟨g', c', rfl⟩ := hv' (by simp; omega); have Hown' := hid hown'; have Hb' := hid hb'; clear hown' hb')
        go_roundw
        case rel =>
          refine ⟨j + 1, by omega, ?_, (Hb'.out.block _ (by omega)).trans Hx.out, Hbel.out.trans (Hb'.out.mono (by omega))⟩
          have h := Hown'.out
          rw [List.append_assoc, ← List.replicate_succ'] at h
          rw [show (short key).length + (j + 1) = (short key ++ List.replicate (j + 1) 0).length by simp]
          exact h
        case measure => simp; omega
      · have q1 : ¬ ((ls + j : Nat) : Int) < 64 := by omega
        have q2 : ¬ (ls : Int) + (j : Int) < 64 := by omega
        have hj64 : j = 64 - ls := by omega
        obtain ⟨B, hBdef⟩ : ∃ B, B = blockOf key := ⟨_, rfl⟩
        have lB : B.length = 64 := by rw [hBdef]; exact blockOf_length key
        have own5 : wr.ownsRow (w.heap.size + 1) 5 1 (.slice a5 64 c5) B.length (cellsOf B) := by
          have h := Hown.out
          rw [lj, show ls + j = 64 by omega] at h
          rw [lB, hBdef, block_short, ← hls, ← hj64]
          exact h
        obtain ⟨gk, c5', e5, hB5, hc5, hgk⟩ := own_some5 own5 (by omega)
        cases e5
        rw [show ls + j = 64 by omega]
        have Hown5 := hid own5
        have Hm : Hid (hmac key b = sha (maskB 0x5c B ++ sha (maskB 0x36 B ++ b))) := by
          show _ = _
          rw [hBdef]; rfl
        clear own5 Hown hB5 q1 q2 hj64 hBdef hls lj hj hlt
        go_wp2_with fail
        go_loopw [6, 7, 8] (fun v6 v7 v8 wr => ∃ i : Nat, i ≤ 64 ∧ v8 = .int .i64 (i : Int) ∧ wr.ownsRow (w.heap.size + 1) 5 1 v6 (maskB 0x36 (B.take i)).length (cellsOf (maskB 0x36 (B.take i))) ∧ wr.ownsRow (w.heap.size + 1) 5 1 v7 (maskB 0x5c (B.take i)).length (cellsOf (maskB 0x5c (B.take i))) ∧ wr.ownsRow (w.heap.size + 1) 5 1 (.slice (some ⟨gk, 0, none⟩) 64 c5) B.length (cellsOf B) ∧ (∀ g, v6.ownBlock = some g → v7.ownBlock ≠ some g ∧ g ≠ gk) ∧ (∀ g, v7.ownBlock = some g → g ≠ gk) ∧ wr.heap[w.heap.size]? = some (.cells Z 23 (0, 0)) ∧ Below w.heap.size w wr) (fun _ _ v8 _ => 64 - (intOf v8).toNat)
        case atStart => exact ⟨0, by omega, rfl, World.ownsRow_nil _ _ _ _, World.ownsRow_nil _ _ _ _, Hown5.out, fun g hg => by simp [Value.ownBlock] at hg, fun g hg => by simp [Value.ownBlock] at hg, Hx.out, Hbel.out⟩
        case round =>
          clear Hown5 Hx Hbel
          obtain ⟨i, hi, rfl, h6, h7, h5, ap6, ap7, hx, hbel⟩ := hrel
          have H6 := hid h6
          have H7 := hid h7
          have H5 := hid h5
          have A6 := hid ap6
          have A7 := hid ap7
          have Hx := hid hx
          have Hbel := hid hbel
          have s2 : w.heap.size + 1 ≤ wr.heap.size := heap_lt hx
          clear h6 h7 h5 ap6 ap7 hx hbel s1
          by_cases hlt : i < 64
          · have hiB : i < B.length := by omega
            have st6 := hid (mask_step 0x36 B i hiB)
            have st7 := hid (mask_step 0x5c B i hiB)
            obtain ⟨_, _, e1, c1⟩ := (row5 H5.out) i hiB
            cases e1
            rw [Nat.zero_add] at c1
            have l6 : (maskB 0x36 (B.take i)).length = i := by rw [maskB_length, List.length_take]; omega
            have l7 : (maskB 0x5c (B.take i)).length = i := by rw [maskB_length, List.length_take]; omega
            obtain ⟨c, hc⟩ : ∃ c, c = B[i] := ⟨_, rfl⟩
            rw [← hc] at c1 st6 st7
            have y6 := xor36 c
            have y7 := xor5c c
            obtain ⟨d6, hd6⟩ : ∃ d6, d6 = c ^^^ 0x36 := ⟨_, rfl⟩
            obtain ⟨d7, hd7⟩ : ∃ d7, d7 = c ^^^ 0x5c := ⟨_, rfl⟩
            rw [← hd6] at st6 y6
            rw [← hd7] at st7 y7
            have cw : Hid (∀ W : World, W.ownsRow (w.heap.size + 1) 5 1 (.slice (some ⟨gk, 0, none⟩) 64 c5) B.length (cellsOf B) → W.cell? ⟨gk, i, none⟩ = some (.int .u8 (c.toNat : Int))) := fun W hW => by
              obtain ⟨_, _, e2, c2⟩ := (row5 hW) i hiB
              cases e2
              rw [Nat.zero_add, ← hc] at c2
              exact c2
            clear hd6 hd7 hc
            go_wp2_with (at_builtin; first
              | (refine app_lit1 _ rfl (.tmp 28) (.tmp 34) rfl (w.heap.size + 1) _ (maskB 0x36 (B.take i)) rfl H6.out d6 rfl (by omega) s2 ?_; intro g6 k6 w1 h61 hb1 hk1 hg1; have H61 := hid h61; have Hb1 := hid hb1; have Hg1 := hid hg1; have H71 := hid (own_other H7.out hk1 (fun g hg e => (A6.out g e).1 hg)); have H51 := hid (own_other H5.out hk1 (fun g hg e => (A6.out g e).2 (by simpa [Value.ownBlock] using hg.symm))); have c2 := cw.out _ H51.out; have s3 : w.heap.size + 1 ≤ w1.heap.size := Nat.le_trans s2 hb1.size; clear h61 hb1 hk1 hg1)
              | (refine app_lit1 _ rfl (.tmp 36) (.tmp 42) rfl (w.heap.size + 1) _ (maskB 0x5c (B.take i)) rfl H71.out d7 rfl (by omega) s3 ?_; intro g7 k7 w2 h72 hb2 hk2 hg2; have H72 := hid h72; have Hb2 := hid hb2; have Hg2 := hid hg2; have Hk2 := hid hk2; clear h72 hb2 hk2 hg2))
            go_roundw
            case rel =>
              have n7 : ∀ g, u7.ownBlock = some g → g < wr.heap.size := own_lt H7.out
              have n5 : gk < wr.heap.size := own_lt H5.out gk rfl
              have z67 : u7.ownBlock ≠ some g6 := fun e => by
                rcases Hg1.out with h | h
                · exact (A6.out g6 h).1 e
                · have := n7 g6 e; omega
              have z65 : g6 ≠ gk := fun e => by
                rcases Hg1.out with h | h
                · exact (A6.out g6 h).2 e
                · omega
              have z75 : g7 ≠ gk := fun e => by
                rcases Hg2.out with h | h
                · exact A7.out g7 h e
                · have := Hb1.out.size; omega
              have z76 : g7 ≠ g6 := fun e => by
                rcases Hg2.out with h | h
                · exact z67 (by rw [← e]; exact h)
                · have := own_lt H61.out g6 rfl; omega
              refine ⟨i + 1, by omega, by go_num, ?_, ?_, own_other H51.out Hk2.out (fun g hg e => A7.out g e (by simpa [Value.ownBlock] using hg.symm)), fun g hg => ?_, fun g hg => ?_, (Hb2.out.block _ (by omega)).trans ((Hb1.out.block _ (by omega)).trans Hx.out), (Hbel.out.trans (Hb1.out.mono (by omega))).trans (Hb2.out.mono (by omega))⟩
              · rw [st6.out]; exact own_other (by have h := H61.out; rw [l6] at h; exact h) Hk2.out (fun g hg e => z67 (by simp [Value.ownBlock] at hg; rw [hg]; exact e))
              · rw [st7.out]; have h := H72.out; rw [l7] at h; exact h
              · simp [Value.ownBlock] at hg; subst hg; exact ⟨fun e => z76 (by simpa [Value.ownBlock] using e), z65⟩
              · simp [Value.ownBlock] at hg; subst hg; exact z75
            case measure => simp [intOf]; omega
          · have hi64 : i = 64 := by omega
            have E6 : Hid (wr.ownsRow (w.heap.size + 1) 5 1 u6 (maskB 0x36 B).length (cellsOf (maskB 0x36 B))) := by
              have h := H6.out
              rw [hi64, List.take_of_length_le (by omega)] at h
              exact h
            have E7 : Hid (wr.ownsRow (w.heap.size + 1) 5 1 u7 (maskB 0x5c B).length (cellsOf (maskB 0x5c B))) := by
              have h := H7.out
              rw [hi64, List.take_of_length_le (by omega)] at h
              exact h
            have lm6 : (maskB 0x36 B).length = 64 := by rw [maskB_length]; exact lB
            have lm7 : (maskB 0x5c B).length = 64 := by rw [maskB_length]; exact lB
            clear H6 H7 H5 hi64 A7
            obtain ⟨V, hV⟩ : ∃ V, V = wr := ⟨_, rfl⟩
            rw [← hV] at E6 E7 Hx Hbel s2 ⊢
            clear hV
            go_wp2_with (at_builtin; refine app_srcH _ rfl (.tmp 44) (.tmp 45) rfl (w.heap.size + 1) _ (maskB 0x36 B) rfl E6.out a' n' cap' b Hn'.out rfl (HB'.out.below Hbel.out) Hc0'.out (by have := Hn'.out; omega) s2 ?_; intro v6 w1 h61 hgr; have H61 := hid h61; have Hgr := hid hgr; clear h61 hgr)
            have E71 := hid (own_other E7.out (fun j hj h1 => Hgr.out.block j hj h1) (fun g hg e => (A6.out g e).1 hg))
            have hb1 : Below (w.heap.size + 1) V w1 := (Below.refl _ V).grown Hgr.out s2 (fun j ej => (E6.out.lt j ej).1)
            have b1 : Hid (Below w.heap.size w w1) := Hbel.out.trans (hb1.mono (by omega))
            have x1 : Hid (w1.heap[w.heap.size]? = some (.cells Z 23 (0, 0))) := (hb1.block _ (by omega)).trans Hx.out
            obtain ⟨a6, c6, rfl, hB6, hc6, hn6⟩ := bytes_ofH H61.out
            have lm : (maskB 0x36 B ++ b).length = 64 + n' := by rw [List.length_append, lm6, Hn'.out]
            rw [lm] at hc6 ⊢
            have HB6 := hid hB6
            have Hn6 := hid hn6
            clear hB6 hn6 hb1 H61 Hgr E6 E7 Hbel Hx A6
            go_wp2_with fail
            refine (hS _ (maskB 0x36 B ++ b) a6 (64 + n') c6 lm.symm HB6.out Hn6.out (by omega) (by omega)).mono ?_
            rintro _ w2 ⟨O1, rfl, hO1, hb2⟩
            have b2 : Hid (Below w.heap.size w w2) := Below.on' b1.out hb2
            have x2 : Hid (w2.heap[w.heap.size]? = some (.cells Z 23 (0, 0))) := (hb2.block _ (heap_lt x1.out)).trans x1.out
            have E72 := hid (own_onH E71.out hb2)
            clear hb2 b1 x1 E71 HB6 Hn6
            go_wp2_with fail
            refine (bytesOf_any hO1.out).mono ?_
            rintro _ w3 ⟨v50, rfl, h50, hb3⟩
            obtain ⟨a50, c50, rfl, hB50, hc50, hn50⟩ := bytes_ofH h50
            have l50 : (sha (maskB 0x36 B ++ b)).length = 32 := sha_length _
            rw [l50] at hc50 ⊢
            have b3 : Hid (Below w.heap.size w w3) := Below.on' b2.out hb3
            have x3 : Hid (w3.heap[w.heap.size]? = some (.cells Z 23 (0, 0))) := (hb3.block _ (heap_lt x2.out)).trans x2.out
            have E73 := hid (own_onH E72.out hb3)
            have s3 : w.heap.size + 1 ≤ w3.heap.size := heap_lt x3.out
            have HB50 := hid hB50
            have Hn50 := hid hn50
            clear hb3 b2 x2 E72 hB50 hn50 h50 hO1
            go_wp2_with (at_builtin; refine app_src _ rfl (.tmp 47) (.tmp 50) rfl (w.heap.size + 1) _ (maskB 0x5c B) rfl E73.out a50 32 c50 (sha (maskB 0x36 B ++ b)) l50.symm rfl HB50.out Hn50.out (by omega) s3 ?_; intro v7 w4 h74 hb4; have H74 := hid h74; have Hb4 := hid hb4; clear h74 hb4)
            have b4 : Hid (Below w.heap.size w w4) := b3.out.trans (Hb4.out.mono (by omega))
            have x4 : Hid (w4.heap[w.heap.size]? = some (.cells Z 23 (0, 0))) := (Hb4.out.block _ (by omega)).trans x3.out
            obtain ⟨a7, c7, rfl, hB7, hc7, hn7⟩ := bytes_ofH H74.out
            have lm2 : (maskB 0x5c B ++ sha (maskB 0x36 B ++ b)).length = 96 := by rw [List.length_append, lm7, l50]
            rw [lm2] at hc7 ⊢
            have HB7 := hid hB7
            have Hn7 := hid hn7
            clear hB7 hn7 H74 Hb4 b3 x3 E73 HB50 Hn50
            go_wp2_with fail
            refine (hS _ (maskB 0x5c B ++ sha (maskB 0x36 B ++ b)) a7 96 c7 lm2.symm HB7.out Hn7.out (by omega) (by omega)).mono ?_
            rintro _ w5 ⟨O2, rfl, hO2, hb5⟩
            have b5 : Hid (Below w.heap.size w w5) := Below.on' b4.out hb5
            have x5 : Hid (w5.heap[w.heap.size]? = some (.cells Z 23 (0, 0))) := (hb5.block _ (heap_lt x4.out)).trans x4.out
            clear hb5 b4 x4 HB7 Hn7
            go_wp2_with (with_reducible show Go.wpList _ _ _ _ _ _; refine wpList_store_row rfl 23 (.tmp 4) (.tmp 53) rfl w.heap.size O2 rfl rfl 23 Z x5.out hO2.out.info (hz.out.size.trans hO2.out.size.symm) hO2.out.one ?_)
            refine bodyPost_ret (results_cell_row rfl _ _ w.heap.size 23 O2 (0, 0) _ rfl (setRow_heap _ _ _ _ _ _ x5.out) Tryz.underlying23 rfl hO2.out.info) rfl ⟨O2, rfl, ?_, b5.out.setRow (by omega) _⟩
            rw [Hm.out]; exact hO2.out
end Go.Proofs.YtdglmoikgmlaaaaGreatDoor
/- Key of the reference, by a contract: the same bytes, and errors, as codec.Key's. -/
namespace Go.Proofs.YtdglmoikgmlaaaaGreatDoor
open Go.RowKit
set_option linter.unusedVariables false
theorem keyTo_bound (l : List ByteArray) (k : Nat) (hk : k ≤ l.length) (hs : ∀ s ∈ l.take k, s.size ≤ 64) : (keyOf (bs (l.take k))).length ≤ k * 130 := by
  induction k with
  | zero => simp [bs, keyOf]
  | succ k ih =>
    have hm : l.take (k + 1) = l.take k ++ [l[k]] := List.take_succ_eq_append_getElem (by omega)
    have h1 := ih (by omega) (fun s h => hs s (by rw [hm]; exact List.mem_append_left _ h))
    have h2 : l[k].size ≤ 64 := hs _ (by rw [hm]; exact List.mem_append_right _ List.mem_cons_self)
    have h3 : cnt0 l[k] ≤ l[k].size := by unfold cnt0; rw [Lib.size_eq]; exact List.count_le_length
    rw [key_snoc l k (by omega)]
    omega
set_option maxHeartbeats 1600000 in
set_option maxRecDepth 20000 in
theorem refKey_any (l : List ByteArray) (a : Option Addr) (cap : Nat) (w : World) (hT : Texts w a l) (hsz : ∀ s ∈ l, s.size ≤ 140737488351232) (hlen : l.length ≤ 140737488351232) :
    Calls Tryz.prog 71 #[.slice a l.length cap] w fun e w' => ∃ a' cap', e = .returned (.tuple #[.slice a' (keyRes l).length cap', .int .i64 (keyErr l : Int)]) ∧ Bytes w' a' (keyRes l) ∧ Below w.heap.size w w' ∧ (keyRes l).length ≤ cap' ∧ (a' = none → cap' = 0) := by
  by_cases h8 : l.length < 1 ∨ 8 < l.length
  · have e1 : keyErr l = 2 := by unfold keyErr; rw [if_pos h8]
    have e2 : keyRes l = [] := by unfold keyRes; rw [e1, if_neg (by omega)]
    rw [e1, e2]
    rcases (show l.length < 1 ∨ (1 ≤ l.length ∧ 8 < l.length) by omega) with h | ⟨h, h'⟩
    · have h0 : l.length = 0 := by omega
      rw [h0]
      clear h8 h h0
      go_enter Tryz.func71, Tryz.ntmps71
      go_wp2
      go_ret2
      exact ⟨none, 0, rfl, fun i hi => by simp at hi, Below.refl _ _, Nat.le_refl _, fun _ => rfl⟩
    · have g1 : ¬ l.length < 1 := by omega
      clear h8
      go_enter Tryz.func71, Tryz.ntmps71
      go_wp2
      go_ret2
      exact ⟨none, 0, rfl, fun i hi => by simp at hi, Below.refl _ _, Nat.le_refl _, fun _ => rfl⟩
  · have HT := hid hT
    have Hsz := hid hsz
    have h1 : 1 ≤ l.length := by omega
    have h2 : l.length ≤ 8 := by omega
    have g1 : ¬ l.length < 1 := by omega
    have g2 : ¬ 8 < l.length := by omega
    have H8 := hid h8
    clear hT hsz h8
    generalize he : keyErr l = er
    generalize hr : keyRes l = rr
    have He := hid he
    have Hr := hid hr
    clear he hr
    go_enter Tryz.func71, Tryz.ntmps71
    go_wp2
    go_loopw [5, 4] (fun i v wr => ∃ k : Nat, k ≤ l.length ∧ i = .int .i64 (k : Int) ∧ wr.ownsRow w.heap.size 5 1 v (keyOf (bs (l.take k))).length (cellsOf (keyOf (bs (l.take k)))) ∧ Below w.heap.size w wr ∧ ∀ s ∈ l.take k, s.size ≤ 64) (fun i _ _ => l.length - (intOf i).toNat)
    case atStart => exact ⟨0, by omega, rfl, World.ownsRow_nil _ _ _ _, Below.refl _ _, (fun s h => by simp at h)⟩
    case round =>
      obtain ⟨k, hk, rfl, hown, hbel, hsm⟩ := hrel
      have hbd := keyTo_bound l k hk hsm
      have Hown := hid hown
      have Hbel := hid hbel
      have Hsm := hid hsm
      have hszr := hbel.size
      clear hown hbel hsm
      by_cases hlt : k < l.length
      · obtain ⟨b, o, ha, hc⟩ := (HT.out.below Hbel.out) k hlt
        have Hstep := hid (key_step l k hlt)
        have Hmem : Hid (l[k]'hlt ∈ l) := List.getElem_mem _
        have Htk : Hid (l.take (k + 1) = l.take k ++ [l[k]'hlt]) := List.take_succ_eq_append_getElem hlt
        have Hle := hid (key_le l k hlt)
        generalize (l[k]'hlt) = s at *
        subst ha
        have hs47 := Hsz.out s Hmem.out
        have f0 : (0 : Int) ≤ (k : Int) := by omega
        have f1 : (k : Int) < (l.length : Int) := by omega
        by_cases h64 : 64 < s.size
        · have e1 : er = 6 := by
            rw [← He.out]
            unfold keyErr
            rw [if_neg H8.out, if_pos (by have := Hle.out; omega)]
          have e2 : rr = [] := by rw [← Hr.out]; unfold keyRes; rw [He.out, e1, if_neg (by omega)]
          subst e1
          subst e2
          go_wp2
          go_ret2
          exact ⟨none, 0, rfl, fun i hi => by simp at hi, Hbel.out, Nat.le_refl _, fun _ => rfl⟩
        · obtain ⟨K, hK⟩ : ∃ K, K = keyOf (bs (l.take k)) := ⟨_, rfl⟩
          rw [← hK] at Hown Hstep hbd
          clear hK Hle
          have g3 : (s.size : Int) ≤ 64 := by omega
          have HcT : Hid (∀ wq, Below w.heap.size w wq → wq.cell? ⟨b, o + k, none⟩ = some (.string s)) := fun wq hq => by
            obtain ⟨b', o', e', hc'⟩ := (HT.out.below hq) k hlt
            cases e'
            have hcc := hc'
            have : l[k] = s := by
              have h5 := (HT.out) k hlt
              obtain ⟨b6, o6, e6, hc6⟩ := h5
              cases e6
              have h7 := (Hbel.out.cell (World.block_lt_of_cell? _ _ hc6)).trans hc6
              rw [hc] at h7
              exact (Value.string.inj (Option.some.inj h7)).symm
            rw [this] at hcc
            exact hcc
          go_wp2
          go_loopw [6, 4] (fun i v wq => ∃ t : Nat, t ≤ s.size ∧ i = .int .i64 (t : Int) ∧ wq.ownsRow w.heap.size 5 1 v (K ++ esc (s.data.toList.take t)).length (cellsOf (K ++ esc (s.data.toList.take t))) ∧ Below w.heap.size w wq) (fun i _ _ => s.size - (intOf i).toNat)
          case atStart => exact ⟨0, Nat.zero_le _, rfl, by simpa [esc] using Hown.out, Hbel.out⟩
          case round =>
            obtain ⟨t, ht, rfl, hownr, hbel⟩ := hrel
            have hyl : (K ++ esc (s.data.toList.take t)).length ≤ 1040 + 2 * t := by
              rw [List.length_append, esc_length]
              have h1 : (s.data.toList.take t).length ≤ t := List.length_take_le _ _
              have h2 : (s.data.toList.take t).count 0 ≤ (s.data.toList.take t).length := List.count_le_length
              omega
            have hsz := hbel.size
            have hcq := HcT.out _ hbel
            by_cases htl : t < s.size
            · have Hesc := hid (esc_take s t htl)
              obtain ⟨c, hcx⟩ : ∃ c, s[t]'htl = c := ⟨_, rfl⟩
              rw [hcx] at Hesc
              generalize hys : K ++ esc (s.data.toList.take t) = ys at hownr hyl
              have Hys := hid hys
              clear hys
              have Hownr := hid hownr
              clear hownr
              by_cases h0 : c = 0
              · subst h0
                go_wp2_with (first | (at_builtin; refine app_lits _ rfl (.tmp 36) (.tmp 43) rfl w.heap.size _ ys rfl Hownr.out [0] 1 rfl rfl (by omega) (by omega) ?_; intro v1 w1 ho1 hb1 hs1; have hcq1 := HcT.out _ (hbel.trans hb1)) | (at_builtin; refine app_lits _ rfl (.tmp 52) (.tmp 53) rfl w.heap.size _ (ys ++ [0]) rfl ho1 [255] 1 rfl rfl (by simp; omega) (by have := hb1.size; omega) ?_; intro v2 w2 ho2 hb2 hs2))
                go_roundw
                case rel =>
                  refine ⟨t + 1, by omega, by go_num, ?_, hbel.trans (hb1.trans hb2)⟩
                  rw [Hesc.out, if_pos rfl, ← List.append_assoc, Hys.out]
                  simpa using ho2
                case measure => simp [intOf]; omega
              · have hne : ((c.toNat : Int) == 0) = false := by
                  rw [beq_eq_false_iff_ne]
                  intro e
                  exact h0 (UInt8.toNat_inj.1 (by simpa using e))
                go_wp2_with (at_builtin; refine app_lits _ rfl (.tmp 36) (.tmp 43) rfl w.heap.size _ ys rfl Hownr.out [c] 1 rfl rfl (by omega) (by omega) ?_; intro v1 w1 ho1 hb1 hs1; have hcq1 := HcT.out _ (hbel.trans hb1))
                go_roundw
                case rel =>
                  refine ⟨t + 1, by omega, by go_num, ?_, hbel.trans hb1⟩
                  rw [Hesc.out, if_neg h0, ← List.append_assoc, Hys.out]
                  exact ho1
                case measure => simp [intOf]; omega
            · have ht' : t = s.size := by omega
              subst ht'
              have t1 : ¬ (s.size : Int) < (s.size : Int) := by omega
              rw [take_all] at hownr hyl
              go_wp2_with (at_builtin; refine app_lits _ rfl (.tmp 55) (.tmp 56) rfl w.heap.size _ _ rfl hownr [0, 1] 2 rfl rfl (by omega) (by omega) ?_; intro v1 w1 ho1 hb1 hs1)
              go_roundw
              case rel =>
                refine ⟨k + 1, by omega, by go_num, by rw [Hstep.out]; exact ho1, hbel.trans hb1, fun q hq => ?_⟩
                rw [Htk.out] at hq
                rcases List.mem_append.1 hq with h | h
                · exact Hsm.out q h
                · rw [List.mem_singleton.1 h]; omega
              case measure => simp [intOf]; omega
      · have hkl : k = l.length := by omega
        subst hkl
        have f1 : ¬ (l.length : Int) < (l.length : Int) := by omega
        rw [List.take_length] at Hown hbd
        obtain ⟨a1, c1, hv, hBy, hcap, hcn⟩ := bytes_ofH Hown.out
        have Hcn := hid hcn
        clear hcn
        subst hv
        by_cases h64 : 64 < (keyOf (bs l)).length
        · have e1 : er = 6 := by rw [← He.out]; unfold keyErr; rw [if_neg H8.out, if_pos h64]
          have e2 : rr = [] := by rw [← Hr.out]; unfold keyRes; rw [He.out, e1, if_neg (by omega)]
          subst e1
          subst e2
          generalize (keyOf (bs l)).length = kl at *
          clear hBy
          go_wp2
          go_ret2
          first | exact ⟨none, 0, rfl, (fun i hi => absurd hi (Nat.not_lt_zero _)), Hbel.out, fun _ => rfl⟩ | exact ⟨none, 0, rfl, (fun i hi => absurd hi (Nat.not_lt_zero _)), Hbel.out, Nat.le_refl _, fun _ => rfl⟩
        · have e1 : er = 0 := by rw [← He.out]; unfold keyErr; rw [if_neg H8.out, if_neg h64]
          have e2 : rr = keyOf (bs l) := by rw [← Hr.out]; unfold keyRes; rw [He.out, e1, if_pos rfl]
          subst e1
          subst e2
          have HBy := hid hBy
          clear hBy
          go_wp2
          go_ret2
          exact ⟨_, _, rfl, HBy.out, Hbel.out, hcap, Hcn.out⟩
end Go.Proofs.YtdglmoikgmlaaaaGreatDoor
