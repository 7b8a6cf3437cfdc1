/- YtdglmoikgmlaaaaGreatDoorJW0 + YtdglmoikgmlaaaaGreatDoorJRR + YtdglmoikgmlaaaaGreatDoorJRK + YtdglmoikgmlaaaaGreatDoorJW3 -/
import Derived.Test.YtdglmoikgmlaaaaGreatDoorJP3
import Derived.Test.YtdglmoikgmlaaaaGreatDoorJ16
import Derived.Test.YtdglmoikgmlaaaaGreatDoorJRows
/- What the laws on keys that play share: new trees, and what rotating and destroying leave of another purpose. -/
namespace Go.Proofs.YtdglmoikgmlaaaaGreatDoor
open Go.RowKit Go.Maps
set_option linter.unusedVariables false
set_option maxRecDepth 20000
def TS0 : TS := ⟨[], [], 0⟩
theorem TS0_ok : TS0.Ok := ⟨(fun p hp => nomatch hp), List.nodup_nil, (fun p hp => nomatch hp), List.nodup_nil, by decide, by decide⟩
theorem treeM_new {w : World} {B B' g mv mg : Nat} {root : List UInt8} (h : TreeAt w B' g root mv mg 0 0 (.map []) (.map []) 0) (hne : mv ≠ mg) (hB : B ≤ B') : TreeM w B g mv mg root TS0 0 :=
  ⟨TS0_ok, hne, 0, 0, _, _, ⟨h.obj, h.vm, h.gm, h.len, Nat.le_trans hB h.bg, Nat.le_trans hB h.bv, Nat.le_trans hB h.bm⟩, vrel_new, grel_new, Nat.le_refl _, Nat.le_refl _⟩
theorem rt_new {w : World} {B B' g : Nat} {root : List UInt8} {gv lv : Value} {s : TS} (h : RTree w B' g root s gv lv) (hB : B ≤ B') : RT w B g root s :=
  ⟨gv, lv, h.obj, own_mono h.gone hB, own_mono h.vers hB, h.len, Nat.le_trans hB h.bg⟩
theorem verOf_filter (vs : List ((ByteArray × ByteArray) × Nat)) (f : (ByteArray × ByteArray) × Nat → Bool) (t u : ByteArray) (h : ∀ p, isAt t u p = true → f p = true) : verOf (vs.filter f) t u = verOf vs t u := by
  unfold verOf
  rw [List.find?_filter]
  congr 2
  have : (fun a => f a && isAt t u a) = isAt t u := funext fun p => by
    cases hp : isAt t u p with
    | false => simp
    | true => rw [h p hp]; rfl
  first
    | rw [this]
    | (congr 1; funext p; have := congrFun this p; simpa using this)
theorem verOf_snoc (vs : List ((ByteArray × ByteArray) × Nat)) (q : (ByteArray × ByteArray) × Nat) (t u : ByteArray) (h : isAt t u q = false) : verOf (vs ++ [q]) t u = verOf vs t u := by
  unfold verOf
  rw [List.find?_append]
  have : [q].find? (isAt t u) = none := by simp [h]
  rw [this, Option.or_none]
theorem rot_cur (s : TS) (t u c o : ByteArray) (h : ¬ (t = c ∧ u = o)) : (s.rotR t u).1.cur c o = s.cur c o := by
  unfold TS.rotR
  split
  · rfl
  · split
    · rfl
    · have hv : ∀ n, verOf (rotV s.vs t u n) c o = verOf s.vs c o := fun n => by
        unfold rotV
        rw [verOf_snoc _ _ _ _ (by unfold isAt; simp only [decide_eq_false_iff_not, Prod.mk.injEq]; exact h), verOf_filter _ _ _ _ (fun p hp => by
          have e := of_decide_eq_true hp
          unfold isAt
          simp only [Bool.not_eq_true', decide_eq_false_iff_not]
          rw [e]
          simp only [Prod.mk.injEq]
          exact fun h2 => h ⟨h2.1.symm, h2.2.symm⟩)]
      unfold TS.cur TS.rot
      simp only [hv]
theorem des_cur (s : TS) (t c o : ByteArray) (h : ¬ t = c) : (s.desR t).1.cur c o = s.cur c o := by
  unfold TS.desR
  split
  · split
    · rfl
    · split
      · rfl
      · have hv : verOf (s.vs.filter (keptT t)) c o = verOf s.vs c o := verOf_filter _ _ _ _ (fun p hp => by
          have e : p.1 = (c, o) := of_decide_eq_true hp
          unfold keptT
          rw [e]
          simp only [Bool.not_eq_true', decide_eq_false_iff_not]
          exact fun h2 => h h2.symm)
        have hg : isIn (s.gs ++ [t]) c = isIn s.gs c := by
          unfold isIn
          rw [List.any_append]
          simp [h]
        unfold TS.cur TS.des
        simp only [hv, hg]
  · rfl
theorem keyR_of {s s' : TS} {root : List UInt8} {c o : ByteArray} (h : s'.cur c o = s.cur c o) (v : Int) : s'.keyR root c o v = s.keyR root c o v := by
  unfold TS.keyR
  rw [h]
end Go.Proofs.YtdglmoikgmlaaaaGreatDoor

/- The reference's Rows of a tree of keys. -/
namespace Go.Proofs.YtdglmoikgmlaaaaGreatDoor.Xr
open Go.RowKit Go.Maps
set_option linter.unusedVariables false
set_option maxRecDepth 20000
def RZ (w0 : World) (v : Value) (rs : List RC) (m : List Rw) (V : World) : Prop := Below w0.heap.size w0 V ∧ V.ownsRow w0.heap.size 67 2 v rs.length (rcCells rs) ∧ RowsIs V rs m
theorem RZ.on {w0 V V' : World} {v : Value} {rs : List RC} {m : List Rw} (h : RZ w0 v rs m V) (hb : Below V.heap.size V V') : RZ w0 v rs m V' := ⟨h.1.trans (hb.mono h.1.size), own_onW h.2.1 hb, h.2.2.below hb⟩
theorem RZ.app {w0 V V' : World} {v v' : Value} {rs : List RC} {m : List Rw} (h : RZ w0 v rs m V) {r : RC} {x : Rw} (hx : RowIs V r x) (ho : V'.ownsRow w0.heap.size 67 2 v' (rs ++ [r]).length (rcCells (rs ++ [r]))) (hg : V.grownBy V' v.ownBlock) : RZ w0 v' (rs ++ [r]) (m ++ [x]) V' :=
  ⟨h.1.trans ((Below.refl _ _).grown hg h.1.size (fun k hk => (h.2.1.lt k hk).1)), ho, (h.2.2.grown h.2.1 hg).app ⟨⟨hx.1, hx.2.1, hx.2.2.grown h.2.1 hg⟩, trivial⟩⟩
theorem below_one' {B : Nat} {w : World} (h : B ≤ w.heap.size) (x : Obj) : Below B w (w.alloc x) := (Below.refl _ w).alloc h _
theorem below_two' {B : Nat} {w : World} (h : B ≤ w.heap.size) (x y : Obj) : Below B w ((w.alloc x).alloc y) := ((Below.refl _ w).alloc h _).alloc (by simp; omega) _
theorem refNumJ (n : Nat) (h : n ≤ 4611686018427387904) (w : World) : Calls Tryz.prog 34 #[.int .i64 (n : Int)] w fun e w' => e = .returned (.tuple #[.string (txtJ n), .int .i64 0]) ∧ Below w.heap.size w w' := refNumber_any n h w
set_option maxHeartbeats 6400000 in
theorem rRows_any {w : World} {B g : Nat} {root : List UInt8} {s : TS} {gv lv : Value} (h : RTree w B g root s gv lv) (ok : s.Ok) (hn : s.n ≤ 4611686018427387904) : Calls Tryz.prog 12 #[.pointer (some ⟨g, 0, none⟩)] w (PRows w s) := by
  have H := hid h
  have Ok := hid ok
  obtain ⟨ga, gcap, rfl, hx⟩ := textsJ_of_own h.gone
  obtain ⟨va, vcap, rfl, hv⟩ := vers_of_own h.vers
  have Hx := hid hx
  have Hv := hid hv
  have c32 := h.c32
  obtain ⟨m, hm⟩ : ∃ m, m = s.gs.length := ⟨_, rfl⟩
  obtain ⟨N, hN⟩ : ∃ N, N = s.vs.length := ⟨_, rfl⟩
  have H33 : Hid (∀ W, Below w.heap.size w W → W.cell? ⟨g, 33, none⟩ = some (.slice ga m gcap)) := fun W hW => by rw [hm]; exact (h.below hW).c33
  have H34 : Hid (∀ W, Below w.heap.size w W → W.cell? ⟨g, 34, none⟩ = some (.slice va N vcap)) := fun W hW => by rw [hN]; exact (h.below hW).c34
  have hm9 : m ≤ 16 := by rw [hm]; exact ok.gfew
  have hN9 : N ≤ 16 := by rw [hN]; exact ok.few
  have Hm := hid hm
  have HN := hid hN
  clear h ok hx hv hm hN
  go_enter Tryz.func12, Tryz.ntmps12
  go_wp2_with (go_at_call 34; refine (refNumJ s.n hn _).mono ?_; rintro _ w1 ⟨rfl, b1⟩; have B1 := hid b1; clear b1)
  obtain ⟨W3, hW3⟩ : ∃ W3, W3 = (w1.alloc (.cells #[.string (txtJ s.n)] 9)).alloc (.cells #[.string ⟨#[35]⟩, .slice (some ⟨w1.heap.size, 0, none⟩) 1 1] 67) := ⟨_, rfl⟩
  rw [← hW3]
  have R3 : Hid (RZ w (.slice (some ⟨w1.heap.size + 1, 0, none⟩) 1 1) [RC.mk ⟨#[35]⟩ (some ⟨w1.heap.size, 0, none⟩) 1 1] [hRow s.n] W3) := by
    show RZ _ _ _ _ _
    have hsz : (w1.alloc (.cells #[.string (txtJ s.n)] 9)).heap.size = w1.heap.size + 1 := by simp
    have ho := own_new1 (B := w.heap.size) (w1.alloc (.cells #[.string (txtJ s.n)] 9)) (by rw [hsz]; have := B1.out.size; omega) ⟨#[35]⟩ (some ⟨w1.heap.size, 0, none⟩) 1 1
    rw [hsz] at ho
    rw [hW3]
    exact ⟨B1.out.trans (below_two' B1.out.size _ _), ho, ⟨rfl, rfl, .inr ⟨_, _, rfl, ((MapKept.heap_alloc _ _).2 _ (by simp)).trans (MapKept.heap_alloc w1 _).1, rfl⟩⟩, trivial⟩
  clear hW3
  go_loopw [5, 6] (fun v i wr => ∃ (k : Nat) (rs : List RC), k ≤ m ∧ i = .int .i64 (k : Int) ∧ RZ w v rs (hRow s.n :: (s.gs.take k).map gRow) wr) (fun _ i _ => m - (intOf i).toNat)
  case atStart => exact ⟨0, _, Nat.zero_le _, rfl, R3.out⟩
  case round =>
    obtain ⟨k, rs, hk, rfl, hz⟩ := hrel
    have Z0 := hid hz
    have c33 := H33.out wr hz.1
    have hrk : rs.length = k + 1 := by
      have h1 := hz.2.2.length
      have := Hm.out
      simp at h1
      omega
    have Hrk := hid hrk
    clear hz hrk
    by_cases hlt : k < m
    · have g1 : (k : Int) < (m : Int) := by omega
      have hkl : k < s.gs.length := by have := Hm.out; omega
      obtain ⟨bb, oo, rfl, hc0⟩ := Hx.out k hkl
      have hc := (Z0.out.1.cell (World.block_lt_of_cell? _ _ hc0)).trans hc0
      have Htk := hid (List.take_succ_eq_append_getElem hkl)
      obtain ⟨x, hxk⟩ : ∃ x, x = s.gs[k] := ⟨_, rfl⟩
      rw [← hxk] at Htk hc
      clear hxk hc0
      go_wp2_with (at_builtin; refine app_rowL rfl (.tmp 33) (.tmp 42) rfl wr x none 0 0 rfl w.heap.size _ rs rfl Z0.out.2.1 rfl (by have := Hrk.out; omega) Z0.out.1.size ?_; intro v7 w7 ho7 hg7; have zz := hid (Z0.out.app (x := gRow x) ⟨rfl, rfl, .inl rfl⟩ ho7 hg7); clear ho7 hg7)
      go_roundw
      case rel => exact ⟨k + 1, _, by omega, by go_num, by rw [Htk.out, List.map_append, ← List.cons_append]; exact zz.out⟩
      case measure => simp [intOf]; omega
    · have e : k = m := by omega
      subst e
      have g1 : ¬ (k : Int) < (k : Int) := by omega
      have R4 : Hid (RZ w u5 rs (hRow s.n :: s.gs.map gRow) wr) := by
        have h3 := Z0.out
        rw [List.take_of_length_le (by have := Hm.out; omega)] at h3
        exact h3
      rename World => Vr
      go_wp2
      clear c33 g1
      go_loopw [5, 7] (fun v i wr => ∃ (j : Nat) (rs : List RC), j ≤ N ∧ i = .int .i64 (j : Int) ∧ RZ w v rs (hRow s.n :: (s.gs.map gRow ++ (s.vs.take j).map vRow)) wr) (fun _ i _ => N - (intOf i).toNat)
      case atStart => exact ⟨0, _, Nat.zero_le _, rfl, by rw [List.take_zero, List.map_nil, List.append_nil]; exact R4.out⟩
      case round =>
        obtain ⟨j, rs2, hj, rfl, hz2⟩ := hrel
        have Z2 := hid hz2
        have c34 := H34.out wr hz2.1
        have hrk2 : rs2.length ≤ 1000 := by
          have h1 := hz2.2.2.length
          have := Hm.out
          simp at h1
          omega
        have Hrk2 := hid hrk2
        clear hz2 hrk2
        by_cases hlt2 : j < N
        · have g2 : (j : Int) < (N : Int) := by omega
          have hkl : j < s.vs.length := by have := HN.out; omega
          obtain ⟨bb, rfl, d0, d1, d2⟩ := Hv.out j hkl
          have Htk := hid (List.take_succ_eq_append_getElem hkl)
          have nm := Ok.out.names _ (List.getElem_mem hkl)
          obtain ⟨x, hxk⟩ : ∃ x, x = s.vs[j] := ⟨_, rfl⟩
          rw [← hxk] at Htk d0 d1 d2 nm
          clear hxk
          obtain ⟨⟨x1, x2⟩, xn⟩ := x
          simp only at d0 d1 d2 nm
          have zt : x1.size ≤ 9 := okN_len nm.1
          have zu : x2.size ≤ 9 := okN_len nm.2.1
          have q1 : ¬ 9223372036854775807 < x1.size + 1 := by omega
          have q2 : ¬ 9223372036854775807 < x1.size + 1 + x2.size := by omega
          have zn := hid nm.2.2.2.1
          have HC : Hid (∀ W, Below w.heap.size w W → W.cell? ⟨g, 34, none⟩ = some (.slice (some ⟨bb, 0, none⟩) N vcap) ∧ W.cell? ⟨bb, j * 3, none⟩ = some (.string x1) ∧ W.cell? ⟨bb, j * 3 + 1, none⟩ = some (.string x2)) := fun W hW => ⟨H34.out W hW, (hW.cell (World.block_lt_of_cell? _ _ d0)).trans d0, (hW.cell (World.block_lt_of_cell? _ _ d1)).trans d1⟩
          have e2 := (Z2.out.1.cell (World.block_lt_of_cell? _ _ d2)).trans d2
          clear d0 d1 d2 nm zt zu
          go_wp2_with (go_at_call 34; refine (refNumJ xn (by have := zn.out; omega) _).mono ?_; rintro _ W5 ⟨rfl, b5⟩; have Z5 := hid (Z2.out.on b5); clear b5)
          have z : Hid (RZ w u5 rs2 (hRow s.n :: (s.gs.map gRow ++ (s.vs.take j).map vRow)) W5.drew) := Z5.out.on (below_drewN _ _ 1)
          clear e2 c34
          go_region_held3 (fun w9 => w9.cell? ⟨g, 34, none⟩ = some (.slice (some ⟨bb, 0, none⟩) N vcap) ∧ w9.cell? ⟨bb, j * 3, none⟩ = some (.string x1) ∧ w9.cell? ⟨bb, j * 3 + 1, none⟩ = some (.string x2))
            (first
              | exact HC.out _ zz.out.1
              | exact HC.out _ z.out.1
              | exact HC.out _ (z.out.on (below_one' (Nat.le_refl _) _)).1
              | exact HC.out _ (z.out.on (below_two' (Nat.le_refl _) _ _)).1)
            (((with_reducible (show ite _ (Oper.wp _ { dst := some 88, op := _, type := _, pos := _, after := _, guard := _ } _ _ _ _) _)); rw [if_pos (by simp [Region.wanted])]; refine app_rowR (.tmp 65) (.tmp 87) rfl (W5.drew.alloc (.cells #[.string (txtJ xn)] 9)) _ _ _ _ rfl w.heap.size u5 rs2 rfl (z.out.on (below_one' (Nat.le_refl _) _)).2.1 (by rw [show (W5.drew.alloc (.cells #[.string (txtJ xn)] 9)).heap.size = W5.drew.heap.size + 1 by simp]; rfl) (by have := Hrk2.out; omega) (z.out.on (below_one' (Nat.le_refl _) _)).1.size ?_; intro v' w' ho' hg'; have zz := hid ((z.out.on (below_one' (Nat.le_refl _) _)).app (x := vRow ((x1, x2), xn)) ⟨rfl, rfl, .inr ⟨_, _, rfl, (MapKept.heap_alloc W5.drew _).1, rfl⟩⟩ ho' hg'); clear ho' hg'))
          all_goals go_wp2
          all_goals go_roundw
          all_goals first
            | exact ⟨j + 1, _, by omega, by go_num, by rw [Htk.out, List.map_append, ← List.append_assoc, ← List.cons_append]; exact zz.out⟩
            | (simp [intOf]; omega)
        · have e : j = N := by omega
          have g2 : ¬ (j : Int) < (N : Int) := by omega
          have h3 := Z2.out
          rw [List.take_of_length_le (by have := HN.out; omega)] at h3
          have HS := hid (sortedG_any h3.2.1 (by have := Hrk2.out; omega))
          have R5 := hid h3
          clear h3
          go_wp2_with (go_at_call 35; refine HS.out.mono ?_; rintro _ w6 ⟨v6, S, rfl, ho6, hp6, hi6, hb6⟩; have O6 := hid ho6; have P6 := hid hp6; have I6 := hid hi6; have B6 := hid hb6; clear ho6 hp6 hi6 hb6)
          go_ret
          obtain ⟨m', p1, p2⟩ := RowsIs.perm P6.out (R5.out.2.2.below B6.out)
          exact ⟨_, S, m', rfl, ⟨O6.out.1, O6.out.2.imp id fun ⟨g9, c9, cu9, h1, h2, h3⟩ => ⟨g9, c9, cu9, h1, Nat.le_trans R5.out.1.size h2, h3⟩⟩, p2, p1, p2.order I6.out, R5.out.1.trans (B6.out.mono R5.out.1.size)⟩
end Go.Proofs.YtdglmoikgmlaaaaGreatDoor.Xr

/- The rows of a tree of keys have keys that are all different: both sides' rows are the same. -/
namespace Go.Proofs.YtdglmoikgmlaaaaGreatDoor.Xr
open Go.RowKit Go.Maps
set_option linter.unusedVariables false
set_option maxRecDepth 20000
theorem okN_no {t : ByteArray} (h : okN t = true) : (47 : UInt8) ∉ t.data.toList ∧ (35 : UInt8) ∉ t.data.toList := by
  unfold okN nameB at h
  have h1 := List.all_eq_true.1 ((Bool.and_eq_true _ _).mp h).2
  exact ⟨fun hm => by have := h1 _ hm; revert this; decide, fun hm => by have := h1 _ hm; revert this; decide⟩
theorem split_at : ∀ {a b c d : List UInt8}, (47 : UInt8) ∉ a → (47 : UInt8) ∉ c → a ++ 47 :: b = c ++ 47 :: d → a = c ∧ b = d
  | [], _, [], _, _, _, h => ⟨rfl, by simpa using h⟩
  | [], _, y :: c, _, _, h2, h => by
    simp at h
    exact absurd (h.1 ▸ List.mem_cons_self) h2
  | x :: a, _, [], _, h1, _, h => by
    simp at h
    exact absurd (h.1 ▸ List.mem_cons_self) h1
  | x :: a, _, y :: c, _, h1, h2, h => by
    simp at h
    obtain ⟨e1, e2⟩ := split_at (fun hm => h1 (List.mem_cons_of_mem _ hm)) (fun hm => h2 (List.mem_cons_of_mem _ hm)) h.2
    exact ⟨by rw [h.1, e1], e2⟩
theorem vRow_data (p : (ByteArray × ByteArray) × Nat) : (vRow p).key.data.toList = p.1.1.data.toList ++ 47 :: p.1.2.data.toList := by
  unfold vRow
  simp [ByteArray.data_append]
theorem keyR_eq {a b : Rw} (h : keyR a = keyR b) : a.key.data.toList = b.key.data.toList := by
  unfold keyR at h
  rw [(str_eqJ _ _).2 h]
theorem bytes_eq {a b : ByteArray} (h : a.data.toList = b.data.toList) : a = b := by
  cases a; cases b
  simp at h
  rw [h]
theorem mOf_keys {s : TS} (ok : s.Ok) : ∀ a ∈ mOf s, ∀ b ∈ mOf s, keyR a = keyR b → a = b := by
  have hg : ∀ t ∈ s.gs, keyR (hRow s.n) ≠ keyR (gRow t) := fun t ht e => by
    have h1 := keyR_eq e
    have h2 : (35 : UInt8) ∈ (gRow t).key.data.toList := by rw [← h1]; exact List.mem_cons_self
    exact (okN_no (ok.gnames t ht)).2 h2
  have hv : ∀ p ∈ s.vs, keyR (hRow s.n) ≠ keyR (vRow p) := fun p hp e => by
    have h1 := keyR_eq e
    have h2 : (47 : UInt8) ∈ (hRow s.n).key.data.toList := by rw [h1, vRow_data]; simp
    revert h2
    show (47 : UInt8) ∈ [(35 : UInt8)] → False
    decide
  have gv : ∀ t ∈ s.gs, ∀ p ∈ s.vs, keyR (gRow t) ≠ keyR (vRow p) := fun t ht p hp e => by
    have h1 := keyR_eq e
    have h2 : (47 : UInt8) ∈ (gRow t).key.data.toList := by rw [h1, vRow_data]; simp
    exact (okN_no (ok.gnames t ht)).1 h2
  have mem : ∀ a ∈ mOf s, a = hRow s.n ∨ (∃ t ∈ s.gs, a = gRow t) ∨ ∃ p ∈ s.vs, a = vRow p := fun a ha => by
    rcases List.mem_cons.1 ha with h | h
    · exact .inl h
    · rcases List.mem_append.1 h with h | h
      · obtain ⟨t, h1, h2⟩ := List.mem_map.1 h
        exact .inr (.inl ⟨t, h1, h2.symm⟩)
      · obtain ⟨t, h1, h2⟩ := List.mem_map.1 h
        exact .inr (.inr ⟨t, h1, h2.symm⟩)
  intro a ha b hb e
  rcases mem a ha with rfl | ⟨t, ht, rfl⟩ | ⟨p, hp, rfl⟩ <;> rcases mem b hb with rfl | ⟨t', ht', rfl⟩ | ⟨p', hp', rfl⟩
  · rfl
  · exact absurd e (hg t' ht')
  · exact absurd e (hv p' hp')
  · exact absurd e.symm (hg t ht)
  · rw [show t = t' from bytes_eq (keyR_eq e)]
  · exact absurd e (gv t ht p' hp')
  · exact absurd e.symm (hv p hp)
  · exact absurd e.symm (gv t' ht' p hp)
  · have h1 := keyR_eq e
    rw [vRow_data, vRow_data] at h1
    obtain ⟨e1, e2⟩ := split_at (okN_no (ok.names p hp).1).1 (okN_no (ok.names p' hp').1).1 h1
    have e3 : p.1 = p'.1 := Prod.ext (bytes_eq e1) (bytes_eq e2)
    rw [key_one ok.nodup hp hp' e3]
theorem same_rows {w : World} {B1 B2 : Nat} {v1 v2 : Value} {r1 r2 : List RC} {m1 m2 : List Rw} {s : TS} (ok : s.Ok) (h1 : w.ownsRow B1 67 2 v1 r1.length (rcCells r1)) (h2 : w.ownsRow B2 67 2 v2 r2.length (rcCells r2)) (i1 : RowsIs w r1 m1) (i2 : RowsIs w r2 m2) (p1 : m1.Perm (mOf s)) (p2 : m2.Perm (mOf s)) (o1 : InOrder keyR m1) (o2 : InOrder keyR m2) :
    Calls Tryz.prog 10 #[v1, v2] w fun e w' => e = .returned (.bool true) ∧ Below w.heap.size w w' := by
  have e : m1 = m2 := uniq keyR (p1.trans p2.symm) o1 o2 (fun a ha b hb => mOf_keys ok a (p1.mem_iff.1 ha) b (p1.mem_iff.1 hb))
  subst e
  refine sameRows_any h1 h2 i1 i2 ?_ ?_
  · rw [p1.length_eq]
    have := ok.few
    have := ok.gfew
    simp [mOf]
    omega
  · intro x hx
    have := p1.mem_iff.1 hx
    rcases List.mem_cons.1 this with h | h
    · rw [h]; simp [hRow]
    · rcases List.mem_append.1 h with h | h
      · obtain ⟨t, _, rfl⟩ := List.mem_map.1 h
        simp [gRow]
      · obtain ⟨t, _, rfl⟩ := List.mem_map.1 h
        simp [vRow]
end Go.Proofs.YtdglmoikgmlaaaaGreatDoor.Xr

/- holdfastlaw09.KeysPlays walked. (Printed by gen/jplays.py.) -/
namespace Go.Proofs.YtdglmoikgmlaaaaGreatDoor
open Go.RowKit Go.Maps
set_option linter.unusedVariables false
set_option maxRecDepth 20000
theorem hf_newplays : ∀ (args : Array Value) (w : World), (callFunc 6 args).run Tryz.prog w = .ok (.enter 6 args) w := fun args w => by simp [go_sem]
theorem hf_rnewplays : ∀ (args : Array Value) (w : World), (callFunc 7 args).run Tryz.prog w = .ok (.enter 7 args) w := fun args w => by simp [go_sem]
noncomputable def codeplays (n : Nat) : Code := ((Tryz.f3.body.bind (regionAt n)).getD .skip)
set_option maxHeartbeats 4000000 in
theorem plays_region1 {w0 V0 W5 : World} {B R : Nat} {root : List UInt8} {A : Act} (sz : A.tmps.size = 25) (e3 : A.eval (.tmp 2) = .pointer (some ⟨R, 0, none⟩)) (lk : root.length = 32) (hB : B ≤ V0.heap.size) (hB0 : B ≤ w0.heap.size) (hb0 : Below B w0 V0) (hV0 : V0 = W5.drew) (hs0 : (fun V => V.heap[R]? = some (.cells (bvs root) 23 (0, 0))) V0) :
    (codeplays 1).wp Tryz.prog (fun ex b V => ex = .normal ∧ ∃ g mv mg gr, b = ((((((A.put (some 7) (.agg (bvs root))).put (some 9) (.agg (bvs root))).put (some 8) (.pointer (some ⟨g, 0, none⟩))).put (some 10) (.pointer (some ⟨gr, 0, none⟩))).put (some 5) (.pointer (some ⟨g, 0, none⟩))).put (some 6) (.pointer (some ⟨gr, 0, none⟩))) ∧ KP w0 V B g mv mg gr root TS0 TS0 0 ∧ Below V0.heap.size V0 V) A W5 := by
  have hm : Tryz.prog.follows .mixedOrders = true := by kernel_rfl
  unfold codeplays
  conv => arg 2; whnf
  refine wp_region_G (fun _ => false) ((fun V => V.heap[R]? = some (.cells (bvs root) 23 (0, 0)))) hm ?_
  rw [show ({ W5 with drawn := W5.drawn + 1 } : World) = V0 from hV0.symm]
  refine wpAnyG_take (i := 0) (v := .agg (bvs root)) rfl (by kernel_rfl) (by kernel_rfl) (by kernel_rfl) (fun _ _ _ h => nomatch h.1) (yieldsIf_load_mid (by simp [Region.wanted]) 23 (.tmp 2) rfl R 0 e3 (cellsOf root) _ (fun V hV => rangeJ hV) Tryz.underlying23 rfl (by rw [cellsOf_length, lk]; exact size_hash)) hs0 ?_
  show wpAnyG _ _ _ _ _ _ _ _ (A.put (some 7) (.agg (bvs root))) _
  refine wpAnyG_take (i := 2) (v := .agg (bvs root)) rfl (by kernel_rfl) (by kernel_rfl) (by kernel_rfl) (fun _ _ _ h => nomatch h.1) (yieldsIf_load_mid (by simp [Region.wanted]) 23 (.tmp 2) rfl R 0 ((ev_ne _ _ (by decide)).trans e3) (cellsOf root) _ (fun V hV => rangeJ hV) Tryz.underlying23 rfl (by rw [cellsOf_length, lk]; exact size_hash)) hs0 ?_
  show wpAnyG _ _ _ _ _ _ _ _ ((A.put (some 7) (.agg (bvs root))).put (some 9) (.agg (bvs root))) _
  refine wpAnyG_all (rs := [1]) (by kernel_rfl) (by simp) fun i1 hm1 => ?_
  obtain rfl : i1 = 1 := by simpa using hm1
  refine wpOp_own rfl rfl fun K1 hK1 => ?_
  refine wp_calls1 6 hf_newplays (.tmp 7) _ rfl (.agg (bvs root)) ((ev_ne _ _ (by decide)).trans (ev_eq _ _ (by simp [sz]))) ?_
  refine (new_any V0 root lk).mono ?_
  rintro _ V1 ⟨g, mv, mg, rfl, t1, hb1, hne⟩
  have hs1 := (hb1.block R (heap_lt hs0)).trans hs0
  refine ⟨_, rfl, hK1 _ _ ⟨.inr hs1, ?_⟩⟩
  clear hK1 K1 hm1
  show wpAnyG _ _ _ _ _ _ _ _ (((A.put (some 7) (.agg (bvs root))).put (some 9) (.agg (bvs root))).put (some 8) (.pointer (some ⟨g, 0, none⟩))) _
  refine wpAnyG_all (rs := [3]) (by kernel_rfl) (by simp) fun i2 hm2 => ?_
  obtain rfl : i2 = 3 := by simpa using hm2
  refine wpOp_own rfl rfl fun K2 hK2 => ?_
  refine wp_calls1 7 hf_rnewplays (.tmp 9) _ rfl (.agg (bvs root)) ((ev_ne _ _ (by decide)).trans (ev_eq _ _ (by simp [put_sz, sz]))) ?_
  refine (rNew_any V1 root lk).mono ?_
  rintro _ V2 ⟨gr, rfl, r2, hb2⟩
  have hs2 := (hb2.block R (heap_lt hs1)).trans hs1
  refine ⟨_, rfl, hK2 _ _ ⟨.inr hs2, ?_⟩⟩
  clear hK2 K2 hm2
  show wpAnyG _ _ _ _ _ _ _ _ ((((A.put (some 7) (.agg (bvs root))).put (some 9) (.agg (bvs root))).put (some 8) (.pointer (some ⟨g, 0, none⟩))).put (some 10) (.pointer (some ⟨gr, 0, none⟩))) _
  refine wpAnyG_one (i := 4) (v := .pointer (some ⟨g, 0, none⟩)) rfl (by kernel_rfl) (yg_as (by simp [Region.wanted]) (.tmp 8) rfl ((ev_ne _ _ (by decide)).trans (ev_eq _ _ (by simp [put_sz, sz])))) hs2 ?_
  show wpAnyG _ _ _ _ _ _ _ _ (((((A.put (some 7) (.agg (bvs root))).put (some 9) (.agg (bvs root))).put (some 8) (.pointer (some ⟨g, 0, none⟩))).put (some 10) (.pointer (some ⟨gr, 0, none⟩))).put (some 5) (.pointer (some ⟨g, 0, none⟩))) _
  refine wpAnyG_one (i := 5) (v := .pointer (some ⟨gr, 0, none⟩)) rfl (by kernel_rfl) (yg_as (by simp [Region.wanted]) (.tmp 10) rfl ((ev_ne _ _ (by decide)).trans (ev_eq _ _ (by simp [put_sz, sz])))) hs2 ?_
  show wpAnyG _ _ _ _ _ _ _ _ ((((((A.put (some 7) (.agg (bvs root))).put (some 9) (.agg (bvs root))).put (some 8) (.pointer (some ⟨g, 0, none⟩))).put (some 10) (.pointer (some ⟨gr, 0, none⟩))).put (some 5) (.pointer (some ⟨g, 0, none⟩))).put (some 6) (.pointer (some ⟨gr, 0, none⟩))) _
  refine wpAnyG_done (by kernel_rfl) ⟨rfl, g, mv, mg, gr, rfl, ⟨(treeM_new t1 hne hB).below hb2, rt_new r2 (Nat.le_trans hB hb1.size), TS0_ok, hb0.trans ((hb1.mono hB).trans (hb2.mono (Nat.le_trans hB hb1.size))), hB0⟩, Below.on' hb1 hb2⟩ _
set_option maxHeartbeats 8000000 in
theorem keysPlays_walk {w : World} {O : Array Value} {root : List UInt8} (hO : HV O root) (l : List KD) (a : Option Addr) (cap : Nat) (hl : KDs w a l) (hT : TabsJ w) :
    Calls Tryz.prog 3 #[.agg O, .slice a l.length cap] w fun e w' => e = .returned (.bool true) ∧ Below w.heap.size w w' := by
  obtain ⟨Z, hZ⟩ : ∃ Z, Z = bvs (List.replicate 32 0) := ⟨_, rfl⟩
  have zh := (zero_of_info zero_hash).1
  rw [← hZ] at zh
  have hz : Hid (HV Z (List.replicate 32 0)) := by
    show HV _ _
    rw [hZ]; exact hv_zero
  have Zh := hid zh
  obtain ⟨W0, hW0⟩ : ∃ W0, W0 = w.alloc (.cells O 23) := ⟨_, rfl⟩
  have b0 : Below w.heap.size w W0 := by rw [hW0]; exact (Below.refl _ w).alloc (Nat.le_refl _) _
  have y0 : W0.heap[w.heap.size]? = some (.cells O 23 (0, 0)) := by rw [hW0]; exact heap_alloc_new w _
  obtain rfl : O = bvs root := hO.eq
  have Hlk := hid hO.len
  have HT := hid (fun (W : World) (hW : Below W0.heap.size W0 W) => (show TabsJ W from ⟨TabAt.belowJ hT.1 (Below.on' b0 hW), hT.2.below (Below.on' b0 hW)⟩))
  have HKD := hid (hl.below b0)
  have Y0 := hid y0
  have B0 := hid b0
  have HW := hid hW0.symm
  obtain ⟨N, hN⟩ : ∃ N, N = l.length := ⟨_, rfl⟩
  rw [← hN]
  have HN := hid hN
  clear hW0 b0 y0 hT hl hO hN zh hZ
  go_enter Tryz.func3, Tryz.ntmps3
  go_wp2
  rw [HW.out]
  obtain ⟨V0, hV0⟩ : ∃ V0, V0 = W0.drew := ⟨_, rfl⟩
  have b00 : Below W0.heap.size W0 V0 := by rw [hV0]; exact (Below.refl _ W0).drew
  refine wp_act _ fun A hA => ?_
  have sz : A.tmps.size = 25 := by rw [hA]; rfl
  have e3 : A.eval (.tmp 2) = .pointer (some ⟨w.heap.size, 0, none⟩) := by rw [hA]; rfl
  refine wp_split _ (plays_region1 (w0 := W0) (B := W0.heap.size) (root := root) sz e3 Hlk.out b00.size (Nat.le_refl _) b00 hV0 ((b00.block _ (heap_lt Y0.out)).trans Y0.out)) ?_
  rintro _ V1 ⟨g, mv, mg, gr, rfl, hK1, b01⟩
  rw [hA]
  simp only [Act.put, List.setIfInBounds_toArray, List.set_cons_succ, List.set_cons_zero]
  have K1 := hid hK1
  have HTb := hid (fun (W : World) (hW : Below W0.heap.size W0 W) => B0.out.trans (hW.mono B0.out.size))
  clear sz e3 hA A hV0 V0 b00 hK1 b01 Y0
  go_wp2_with (first
    | (go_at_call 8; refine (liveJ_any (HT.out V1 K1.out.b).1 (HT.out V1 K1.out.b).2).mono ?_; rintro _ w2 ⟨rfl, b2⟩; have K2 := hid (K1.out.below b2); clear b2)
    | (go_at_call 9; refine (play_any (n0 := 0) K2.out rfl (by omega) (Nat.le_refl _) (by omega) l a N cap HN.out HKD.out (HT.out W0 (Below.refl _ _))).mono ?_; rintro _ w3 ⟨rfl, s, hK3, hsn⟩; have K3 := hid hK3; have Hsn := hid hsn; clear hK3 hsn)
    | (go_at_call 11; refine (Xr.rows_m K3.out.t (by have := Hsn.out; omega) (HT.out w3 K3.out.b).1).mono ?_; rintro _ w4 ⟨v4, r4, m4, rfl, o4, i4, p4, q4, b4⟩; have K4 := hid (K3.out.below b4); have O4 := hid o4; have I4 := hid i4; have P4 := hid p4; have Q4 := hid q4; clear b4 o4 i4 p4 q4)
    | (go_at_call 12; obtain ⟨gv, lv, hr4⟩ := K4.out.r; refine (Xr.rRows_any hr4 K4.out.ok (by have := Hsn.out; omega)).mono ?_; rintro _ w5 ⟨v5, r5, m5, rfl, o5, i5, p5, q5, b5⟩; have K5 := hid (K4.out.below b5); have HSm := hid (Xr.same_rows K4.out.ok (Xr.own_onW O4.out b5) o5 (I4.out.below b5) i5 P4.out p5 Q4.out q5); clear b5 o5 i5 p5 q5 hr4)
    | (go_at_call 10; refine HSm.out.mono ?_; rintro _ w6 ⟨rfl, b6⟩; have K6 := hid (K5.out.below b6); clear b6))
  go_ret
  exact ⟨rfl, HTb.out _ K6.out.b⟩
end Go.Proofs.YtdglmoikgmlaaaaGreatDoor
