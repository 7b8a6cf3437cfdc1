/- YthdcjepkehifoaaGreatWDo + YthdcjepkehifoaaGreatWDo2 -/
import Derived.Test.YthdcjepkehifoaaGreatWRCom
/- Two logs, the program's and the reference's, side by side; open of law 3. -/
namespace Go.Proofs.YthdcjepkehifoaaGreat
open Go.RowKit Go.Maps
set_option linter.unusedVariables false
set_option maxRecDepth 20000

/-- both logs, of the same writes, apart from one another -/
def Duo (w : World) (B S P k la m G : Nat) (gs : List (List Nat)) (ls : List (Nat × List UInt8)) : Prop := ∃ Q R : Nat → Prop, LogQ w B S P k la G gs ls Q ∧ RQ w B m S G gs P ls R ∧ (∀ j, Q j → ¬ R j) ∧ (∀ j, Q j → B ≤ j ∧ j < w.heap.size) ∧ ∀ j, R j → B ≤ j ∧ j < w.heap.size
theorem duo_mk {w : World} {B S P k la m G : Nat} {gs : List (List Nat)} {ls : List (Nat × List UInt8)} {Q R : Nat → Prop} (h1 : LogQ w B S P k la G gs ls Q) (h2 : RQ w B m S G gs P ls R) (h3 : ∀ j, j < w.heap.size → Q j → ¬ R j) : Duo w B S P k la m G gs ls :=
  ⟨_, _, h1.cut, h2.cut, fun j hq hr => h3 j hq.2.2 hq.1 hr.1, fun j h => h.2, fun j h => h.2⟩
theorem Duo.below {w w' : World} {B S P k la m G : Nat} {gs : List (List Nat)} {ls : List (Nat × List UInt8)} (h : Duo w B S P k la m G gs ls) (hb : Below w.heap.size w w') : Duo w' B S P k la m G gs ls := by
  obtain ⟨Q, R, h1, h2, h3, h4, h5⟩ := h
  exact duo_mk (h1.below hb) (h2.below hb) (fun j _ => h3 j)
theorem Duo.log {w : World} {B S P k la m G : Nat} {gs : List (List Nat)} {ls : List (Nat × List UInt8)} (h : Duo w B S P k la m G gs ls) : LogAt w B S P k la G gs ls := by
  obtain ⟨Q, R, h1, _⟩ := h
  exact h1.at

/-- what open gives over a new disk: both logs -/
def OpenTwo (S P : Nat) (w : World) (e : Ending) (w' : World) : Prop :=
  ∃ l m, e = .returned (.tuple #[.pointer (some ⟨l, 0, none⟩), .pointer (some ⟨m, 0, none⟩), .bool true]) ∧ Duo w' w.heap.size S P 0 l m 0 [] [] ∧ Below w.heap.size w w'
set_option maxHeartbeats 1600000 in
theorem lawOpen_two (w : World) (S P : Nat) (hS : 2 ≤ S) (hP : 1 ≤ P) (h2 : S + 1 + P ≤ 1024) :
    Calls Tryz.prog 13 #[.int .i64 ((S + 1 + P : Nat) : Int), .int .i64 (S : Int)] w (OpenTwo S P w) := by
  obtain ⟨n, hn⟩ : ∃ n, n = S + 1 + P := ⟨_, rfl⟩
  have Hn := hid hn
  unfold OpenTwo
  rw [← hn] at h2 ⊢
  clear hn
  have h1 : 1 ≤ n := by have := Hn.out; omega
  go_enter Tryz.func13, Tryz.ntmps13
  go_wp2_with (fail)
  refine (new_ok n w h1 h2).mono ?_
  rintro e w1 ⟨d0, g0, cap0, rfl, hD, hb1⟩
  have HD := hid hD
  have Hb1 := hid hb1
  clear hD hb1
  go_wp2_with (fail)
  refine (refNew_ok n w1 h1 h2).mono ?_
  rintro e w2 ⟨r, F, vs, rfl, hR, hb2⟩
  have HR := hid hR
  have HD2 := hid (HD.out.below hb2)
  have Hb2 := hid (Hb1.out.trans (hb2.mono Hb1.out.size))
  clear hR hb2 HD Hb1
  have Ho := hid (open_ok HD2.out S 0 P [] (by exact inv_new n S P Hn.out hS hP h2) (by omega) (by simp))
  go_wp2_with (fail)
  refine Ho.out.mono ?_
  rintro e w3 ⟨l, d, g, cap, mb, n0, rfl, hn0, hM, hb3⟩
  obtain rfl : n0 = 0 := by
    have : usedOf [] = 0 := rfl
    omega
  have HM := hid hM
  have HR3 := hid (HR.out.below hb3)
  have Hb3 := hid (Hb2.out.trans (hb3.mono Hb2.out.size))
  have Hs2 := hid Hb2.out.size
  clear hM hb3 HR HD2 Ho Hb2
  go_wp2_with (fail)
  refine (refOpen_two HR3.out S P Hn.out hS hP h2).mono ?_
  rintro e w4 ⟨m, r3, F3, vs3, rfl, hL3, hfar, hb4⟩
  have HM4 := hid (HM.out.below hb4)
  have Hb4 := hid (Hb3.out.trans (hb4.mono Hb3.out.size))
  have HL3 := hid hL3
  have Hfar := hid hfar
  have Hlt := hid HM.out.lts
  have Hs3 := hid Hb3.out.size
  clear hb4 HM Hb3 HR3 hL3 hfar
  go_wp2
  go_ret3
  refine ⟨l, m, by simp, ?_, Hb4.out⟩
  have en : List.replicate n zpage = fresh S P := by unfold fresh; rw [Hn.out]
  have hiv : LogInv (psOf (fresh S P) []) S 0 [] P := by rw [← en]; exact inv_new n S P Hn.out hS hP h2
  have hlog : LogQ w4 w.heap.size S P 0 l 0 [] [] (fun j => j < w3.heap.size) := ⟨d, g, cap, mb, 0, _, ⟨by have h := HM4.out.mono Hs2.out; rw [en] at h; exact h, hiv, Nat.le_refl _, Nat.le_refl _, Nat.le_refl _⟩, fun j hj => (Hlt.out j hj).2⟩
  have hRW : RW w4 w3.heap.size m r3 F3 (.slice none 0 0) vs3 [] S 0 (usedOf []) (fresh S P) [] := by
    have h := HL3.out
    rw [en] at h
    exact ⟨h, Hfar.out, (fun c hc => by cases hc), fun p hp => by rw [(List.mem_replicate.1 hp).2, zpage_length]⟩
  have href : RQ w4 w.heap.size m S 0 [] P [] (fun j => w3.heap.size ≤ j) := ⟨r3, F3, _, vs3, [], hRW.mono Hs3.out, hiv, fun j hj => (hRW.lts j hj).1⟩
  exact duo_mk hlog href (fun j _ h1 h2 => by omega)

/-- what a deed may do to a log -/
def DStep (S P G : Nat) (gs : List (List Nat)) (ls : List (Nat × List UInt8)) (G' : Nat) (gs' : List (List Nat)) (ls' : List (Nat × List UInt8)) : Prop :=
  (G' = G ∧ gs' = gs ∧ ls' = ls) ∨ (G' = G ∧ gs' = [] ∧ ls' = ls ++ cpWs S P G gs ls) ∨
  (∃ ns xs, GoodIx P ns ∧ xs.length = ns.length ∧ (∀ x ∈ xs, x.length = 256) ∧ usedOf gs + ns.length + 1 ≤ S ∧ G' = G + 1 ∧ gs' = gs ++ [ns] ∧ ls' = ls ++ commitWs (usedOf gs) G ns xs)

/-- what counts of a page -/
def tri (w : World) (p : PgV) : Int × Nat × List UInt8 := (p.1, p.2.2.1, bytesAt w p)
theorem deed_tri {w : World} {H : Nat} {q : List Int} {sh : Bool} {y : UInt8} {l : List PgV} (h : DeedPgs w H q sh y l) : l.map (tri w) = (List.range l.length).map fun i => (q.getD i 0, lenOf sh i, List.replicate (lenOf sh i) (y + UInt8.ofNat i)) := by
  apply List.ext_getElem (by simp)
  intro i h1 h2
  rw [List.length_map] at h1
  obtain ⟨h', e⟩ := h.nums i h1
  simp only [List.getElem_map, List.getElem_range, tri]
  rw [h.at i h1, h.len i h1, e]
  simp [List.getD, List.getElem?_eq_getElem h']
theorem pick_tri {w w' : World} {l l' : List PgV} (h : l.map (tri w) = l'.map (tri w')) (n : Nat) : (pick l n).map (tri w) = (pick l' n).map (tri w') := by
  have e : ∀ (u : World) (k : List PgV), (pick k n).map (tri u) = (k.map (tri u)).filter (fun t => t.1 == (n : Int)) := fun u k => by
    unfold pick
    rw [List.filter_map]
    rfl
  rw [e, e, h]
theorem selN_tri {w w' : World} {l l' : List PgV} (h : l.map (tri w) = l'.map (tri w')) (n : Nat) : (selN l n).map (tri w) = (selN l' n).map (tri w') := by
  induction n with
  | zero => rfl
  | succ n ih => rw [selN, selN, List.map_append, List.map_append, ih, pick_tri h]
theorem nums_tri {w w' : World} {s s' : List PgV} (h : s.map (tri w) = s'.map (tri w')) : numsP s = numsP s' ∧ s.map (bytesAt w) = s'.map (bytesAt w') ∧ s.map (·.1) = s'.map (·.1) ∧ s.map (·.2.2.1) = s'.map (·.2.2.1) ∧ s.length = s'.length := by
  have a : ∀ (u : World) (k : List PgV), numsP k = (k.map (tri u)).map (fun t => t.1.toNat) := fun u k => by unfold numsP; rw [List.map_map]; rfl
  have b : ∀ (u : World) (k : List PgV), k.map (bytesAt u) = (k.map (tri u)).map (fun t => t.2.2) := fun u k => by rw [List.map_map]; rfl
  have c : ∀ (u : World) (k : List PgV), k.map (·.1) = (k.map (tri u)).map (fun t => t.1) := fun u k => by rw [List.map_map]; rfl
  have d : ∀ (u : World) (k : List PgV), k.map (·.2.2.1) = (k.map (tri u)).map (fun t => t.2.1) := fun u k => by rw [List.map_map]; rfl
  refine ⟨by rw [a w s, a w' s', h], by rw [b w s, b w' s', h], by rw [c w s, c w' s', h], by rw [d w s, d w' s', h], by simpa using congrArg List.length h⟩
theorem bad_tri {w w' : World} {l l' : List PgV} (h : l.map (tri w) = l'.map (tri w')) (P : Nat) : (BadRange P l ↔ BadRange P l') ∧ (BadForm l ↔ BadForm l') := by
  obtain ⟨_, _, h1, h2, _⟩ := nums_tri h
  have e : ∀ k : List PgV, BadRange P k ↔ ∃ x ∈ k.map (·.1), x < 0 ∨ (P : Int) ≤ x := fun k => by
    unfold BadRange
    simp only [List.mem_map]
    constructor
    · rintro ⟨p, hp, hx⟩; exact ⟨_, ⟨p, hp, rfl⟩, hx⟩
    · rintro ⟨_, ⟨p, hp, rfl⟩, hx⟩; exact ⟨p, hp, hx⟩
  have f : ∀ k : List PgV, (∃ p ∈ k, p.2.2.1 ≠ 256) ↔ ∃ x ∈ k.map (·.2.2.1), x ≠ 256 := fun k => by
    simp only [List.mem_map]
    constructor
    · rintro ⟨p, hp, hx⟩; exact ⟨_, ⟨p, hp, rfl⟩, hx⟩
    · rintro ⟨_, ⟨p, hp, rfl⟩, hx⟩; exact ⟨p, hp, hx⟩
  refine ⟨by rw [e, e, h1], ?_⟩
  unfold BadForm
  rw [f l, f l', h1, h2]
theorem cerr_tri {w w' : World} {l l' : List PgV} (h : l.map (tri w) = l'.map (tri w')) {S P U : Nat} {c : Int} (hc : CErr S P U l c) : CErr S P U l' c := by
  obtain ⟨h1, h2⟩ := bad_tri h P
  obtain ⟨_, _, _, _, hl⟩ := nums_tri h
  unfold CErr at hc ⊢
  rw [← h1, ← h2, ← hl]
  exact hc
theorem cok_tri {w w' : World} {l l' : List PgV} (h : l.map (tri w) = l'.map (tri w')) {S P U : Nat} (hc : COk S P U l) : COk S P U l' := by
  obtain ⟨h1, h2⟩ := bad_tri h P
  obtain ⟨_, _, _, _, hl⟩ := nums_tri h
  unfold COk at hc ⊢
  rw [← h1, ← h2, ← hl]
  exact hc
end Go.Proofs.YthdcjepkehifoaaGreat

/- do of law 3: a deed on both logs; they don't part. -/
namespace Go.Proofs.YthdcjepkehifoaaGreat
open Go.RowKit Go.Maps
set_option linter.unusedVariables false
set_option maxRecDepth 20000

/-- the program's Commit: what it tells is a letter -/
def DoP (w : World) (B S P k l G : Nat) (gs : List (List Nat)) (ls : List (Nat × List UInt8)) (Q : Nat → Prop) (lp : List PgV) (c : Int) (w' : World) : Prop :=
  (CErr S P (usedOf gs) lp c ∧ LogQ w' B S P (k + 1) l G gs ls Q) ∨ (c = 0 ∧ COk S P (usedOf gs) lp ∧ ∃ Q', (∀ j, Q' j → Q j ∨ w.heap.size ≤ j) ∧ LogQ w' B S P (k + 1) l (G + 1) (gs ++ [numsP (selN lp P)]) (ls ++ commitWs (usedOf gs) G (numsP (selN lp P)) ((selN lp P).map (bytesAt w))) Q')
def PCm (w : World) (B S P k l G : Nat) (gs : List (List Nat)) (ls : List (Nat × List UInt8)) (Q : Nat → Prop) (lp : List PgV) (e : Ending) (w' : World) : Prop := ∃ c : Int, e = .returned (.int .i64 c) ∧ Out Q w w' ∧ DoP w B S P k l G gs ls Q lp c w'
theorem cmq_one {w w' : World} {B S P k l G : Nat} {gs : List (List Nat)} {ls : List (Nat × List UInt8)} {Q : Nat → Prop} {lp : List PgV} {e : Ending} (h : CmQ w B S P k l G gs ls Q lp e w') : PCm w B S P k l G gs ls Q lp e w' := by
  obtain ⟨ho, ⟨c, rfl, hc, hL⟩ | ⟨rfl, hc, Q', hq, hL⟩⟩ := h
  · exact ⟨c, rfl, ho, .inl ⟨hc, hL⟩⟩
  · exact ⟨0, rfl, ho, .inr ⟨rfl, hc, Q', hq, hL⟩⟩
/-- the reference's Commit of the same pages tells the same -/
def DoR (w : World) (B m S P G : Nat) (gs : List (List Nat)) (ls : List (Nat × List UInt8)) (R : Nat → Prop) (lp : List PgV) (w' : World) : Prop :=
  (¬ COk S P (usedOf gs) lp ∧ RQ w' B m S G gs P ls R) ∨ (COk S P (usedOf gs) lp ∧ ∃ R', (∀ j, R' j → R j ∨ w.heap.size ≤ j) ∧ RQ w' B m S (G + 1) (gs ++ [numsP (selN lp P)]) P (ls ++ commitWs (usedOf gs) G (numsP (selN lp P)) ((selN lp P).map (bytesAt w))) R')
theorem cmr_one {w w' : World} {B m S P G : Nat} {gs : List (List Nat)} {ls : List (Nat × List UInt8)} {R : Nat → Prop} {lp : List PgV} {e : Ending} (h : CmR w B m S P G gs ls R lp e w') {c : Int} (hc : CErr S P (usedOf gs) lp c ∨ (c = 0 ∧ COk S P (usedOf gs) lp)) : e = .returned (.int .i64 c) ∧ Out R w w' ∧ DoR w B m S P G gs ls R lp w' := by
  obtain ⟨ho, ⟨c', rfl, hc', hL⟩ | ⟨rfl, hc', R', hq, hL⟩⟩ := h
  · rcases hc with hc | ⟨_, hc⟩
    · exact ⟨by rw [hc'.uniq hc], ho, .inl ⟨hc'.not, hL⟩⟩
    · exact absurd hc hc'.not
  · rcases hc with hc | ⟨rfl, _⟩
    · exact absurd hc' hc.not
    · exact ⟨rfl, ho, .inr ⟨hc', R', hq, hL⟩⟩
theorem DoP.code {w w' : World} {B S P k l G : Nat} {gs : List (List Nat)} {ls : List (Nat × List UInt8)} {Q : Nat → Prop} {lp : List PgV} {c : Int} (h : DoP w B S P k l G gs ls Q lp c w') : CErr S P (usedOf gs) lp c ∨ (c = 0 ∧ COk S P (usedOf gs) lp) := by
  rcases h with ⟨h, _⟩ | ⟨h1, h2, _⟩
  · exact .inl h
  · exact .inr ⟨h1, h2⟩

/-- the pages that were handed in, written over -/
def ORel (H U : Nat) (v0 : World) (gp : Option Addr) (lp : List PgV) (wr : World) : Prop :=
  (∀ i (h : i < lp.length), ∃ g b x, gp = some ⟨g, 0, none⟩ ∧ g ≠ b ∧ PgsAt wr g 0 lp ∧ lp[i].2.1 = some ⟨b, 0, none⟩ ∧ lp[i].2.2.1 ≤ 256 ∧ x.length = 256 ∧ b < U ∧ wr.ownsRow H 5 1 (.slice (some ⟨b, 0, none⟩) 256 256) 256 (cellsOf x)) ∧ Out (fun j => H ≤ j ∧ j < U) v0 wr
theorem ORel.step {H U : Nat} {v0 : World} {gp : Option Addr} {lp : List PgV} {wr : World} (h : ORel H U v0 gp lp wr) (i : Nat) (hi : i < lp.length) (b : Nat) (hb : lp[i].2.1 = some ⟨b, 0, none⟩) (k : Nat) : ORel H U v0 gp lp (wr.setCell ⟨b, k, none⟩ (.int .u8 99)) := by
  obtain ⟨h1, h2⟩ := h
  have hbb : H ≤ b ∧ b < U ∧ ∀ g, gp = some ⟨g, 0, none⟩ → g ≠ b := by
    obtain ⟨g', b', x', e1, e2, e3, e4, e5, e6, e7, e8⟩ := h1 i hi
    rw [hb] at e4
    cases e4
    exact ⟨(e8.lt _ rfl).1, e7, fun g hg => by rw [hg] at e1; cases e1; exact e2⟩
  refine ⟨fun j hj => ?_, h2.comp (out_set wr b k _) (fun j hj => .inl (by subst hj; exact ⟨hbb.1, hbb.2.1⟩))⟩
  obtain ⟨g', b', x', e1, e2, e3, e4, e5, e6, e7, e8⟩ := h1 j hj
  have hgb : g' ≠ b := hbb.2.2 g' e1
  have hP : PgsAt (wr.setCell ⟨b, k, none⟩ (.int .u8 99)) g' 0 lp := e3.keep (heap_setCell_other _ _ _ _ hgb)
  by_cases hbe : b' = b
  · subst hbe
    have hs := (e8.stored k (.int .u8 99)).1
    rw [show Value.int .u8 99 = .int .u8 (((99 : UInt8).toNat : Nat) : Int) from rfl, cellsOf_set] at hs
    exact ⟨g', b', _, e1, e2, hP, e4, e5, by rw [List.length_set]; exact e6, e7, hs⟩
  · exact ⟨g', b', x', e1, e2, hP, e4, e5, e6, e7, own_keep e8 fun q e => by
      obtain rfl : b' = q := by simpa [Value.ownBlock] using e
      exact heap_setCell_other _ _ _ _ hbe⟩
theorem orel_start {w u : World} {q : List Int} {sh : Bool} {y : UInt8} {lp : List PgV} {v : Value} {n cp : Nat} {gp : Option Addr} (hv : v = .slice gp n cp) (hd : DeedPgs u w.heap.size q sh y lp) (hrow : u.ownsRow w.heap.size 94 2 v lp.length (pgCells lp)) (hap : ∀ k, v.ownBlock = some k → ∀ p ∈ lp, ∀ o, p.2.1 ≠ some ⟨k, o, none⟩) {u' : World} (ho : Out (fun j => j < w.heap.size ∨ u.heap.size ≤ j) u u') : ORel w.heap.size u.heap.size u' gp lp u' := by
  refine ⟨fun i hi => ?_, ?_⟩
  · subst hv
    obtain ⟨g, c, e, hg, _⟩ := hrow.form (by omega)
    cases e
    obtain ⟨b, x, h1, h2, h3, h4⟩ := hd.own i hi
    obtain ⟨b', h1', _, hblt, _⟩ := hd.bytes i hi
    rw [h1] at h1'
    cases h1'
    have hlg := hrow.lt g rfl
    have hlb := h4.lt b rfl
    refine ⟨g, b, x, rfl, fun e => hap g rfl _ (List.getElem_mem hi) 0 (by rw [e]; exact h1), ?_, h1, by rw [hd.len i hi]; unfold lenOf; split <;> omega, h3, hblt, own_keep h4 fun j e => ?_⟩
    · have hp := pgs_of_row hrow
      exact hp.keep (ho.block g hlg.2 (fun h => by omega))
    · obtain rfl : b = j := by simpa [Value.ownBlock] using e
      exact ho.block b hlb.2 (fun h => by omega)
  · exact Out.refl _ _

theorem pg_form {u : World} {B : Nat} {vp : Value} {lp : List PgV} (hrow : u.ownsRow B 94 2 vp lp.length (pgCells lp)) : ∃ va vc, vp = .slice va lp.length vc ∧ (0 < lp.length → ∃ b, va = some ⟨b, 0, none⟩ ∧ PgsAt u b 0 lp) := by
  rcases (show lp.length = 0 ∨ 0 < lp.length by omega) with h0 | h0
  · rcases hrow.2 with ⟨h1, h2⟩ | ⟨g, cap, _, h1, _⟩
    · exact ⟨none, 0, by rw [h1, h2], fun h => by omega⟩
    · exact ⟨_, _, h1, fun h => by omega⟩
  · obtain ⟨gp, cp, rfl, _, _⟩ := hrow.form h0
    exact ⟨_, _, rfl, fun _ => ⟨gp, rfl, pgs_of_row hrow⟩⟩
theorem Out.on2 {P : Nat → Prop} {w w1 w2 : World} (h : Out P w w1) (k : Below w1.heap.size w1 w2) : Out P w w2 := h.trans (Out.of_below (P := P) k) (fun _ _ h => h)
theorem code_tri {w w' : World} {l l' : List PgV} (h : l.map (tri w) = l'.map (tri w')) {S P U : Nat} {c : Int} (hc : CErr S P U l c ∨ (c = 0 ∧ COk S P U l)) : CErr S P U l' c ∨ (c = 0 ∧ COk S P U l') := hc.imp (cerr_tri h) (fun h' => ⟨h'.1, cok_tri h h'.2⟩)
/-- both logs behind a group -/
theorem do_end {w u1 u2 u3 u4 wr : World} {B S P k la m G H : Nat} {gs : List (List Nat)} {ls : List (Nat × List UInt8)} {Q R : Nat → Prop} {lp lp2 : List PgV} {c : Int} (h3 : ∀ j, Q j → ¬ R j) (h4 : ∀ j, Q j → B ≤ j ∧ j < w.heap.size) (h5 : ∀ j, R j → B ≤ j ∧ j < w.heap.size) (hH : w.heap.size ≤ H) (ho2 : Out Q u1.drew u2) (hdo : DoP u1.drew B S P k la G gs ls Q lp c u2) (hb3 : Below u2.heap.size u2 u3) (htri : lp.map (tri u1.drew) = lp2.map (tri u3)) (ho4 : Out R u3 u4) (hdr : DoR u3 B m S P G gs ls R lp2 u4)
    (hk : ∀ j, j < u4.heap.size → ¬ (H ≤ j ∧ j < u1.heap.size) → wr.heap[j]? = u4.heap[j]?) (hw1 : w.heap.size ≤ u1.heap.size) (hs : u4.heap.size ≤ wr.heap.size) : ∃ G' gs' ls', Duo wr B S P (k + 1) la m G' gs' ls' ∧ DStep S P G gs ls G' gs' ls' := by
  have s2 : u1.heap.size ≤ u2.heap.size := ho2.size
  have s3 := hb3.size
  have s4 := ho4.size
  rcases hdo with ⟨hce, hL⟩ | ⟨rfl, hcok, Q', hq, hL⟩
  · rcases hdr with ⟨_, hR⟩ | ⟨hco, _⟩
    · refine ⟨G, gs, ls, duo_mk (((hL.below hb3).keep (w' := u4) fun j hj hq => ho4.block j hj (fun hr => h3 j hq hr)).keep (w' := wr) fun j hj hq => hk j hj (fun h => by have := (h4 j hq).2; omega)) (hR.keep (w' := wr) fun j hj hr => hk j hj (fun h => by have := (h5 j hr).2; omega)) (fun j _ => h3 j), .inl ⟨rfl, rfl, rfl⟩⟩
    · exact absurd hco (cerr_tri htri hce).not
  · rcases hdr with ⟨hn, _⟩ | ⟨hco, R', hr, hR⟩
    · exact absurd (cok_tri htri hcok) hn
    · obtain ⟨e1, e2, _⟩ := nums_tri (selN_tri htri P)
      rw [← e1, ← e2] at hR
      obtain ⟨g1, g2, g3⟩ := hcok.good
      obtain ⟨hgi, hns⟩ := hcok.nums
      have hLc := hL.cut
      have hqc : ∀ j, (Q' j ∧ B ≤ j ∧ j < u2.heap.size) → (Q j ∨ u1.heap.size ≤ j) ∧ j < u2.heap.size := fun j hj => ⟨hq j hj.1, hj.2.2⟩
      refine ⟨_, _, _, duo_mk (((hLc.below hb3).keep (w' := u4) fun j hj hq => ho4.block j hj (fun hr => ?_)).keep (w' := wr) fun j hj hq => hk j hj (fun h => ?_)) (hR.keep (w' := wr) fun j hj hr' => hk j hj (fun h => ?_)) (fun j hj hq hr' => ?_), .inr (.inr ⟨numsP (selN lp P), (selN lp P).map (bytesAt u1.drew), hgi, by rw [List.length_map, numsP_length], fun x hx => ?_, by have := hcok.2.2.2.2; omega, rfl, rfl, rfl⟩)⟩
      · rcases (hqc j hq).1 with hh | hh
        · exact h3 j hh hr
        · have := (h5 j hr).2; omega
      · rcases (hqc j hq).1 with hh | hh
        · have := (h4 j hh).2; omega
        · omega
      · rcases hr j hr' with hh | hh
        · have := (h5 j hh).2; omega
        · omega
      · have hq2 := hqc j hq
        rcases hr j hr' with hh | hh
        · rcases hq2.1 with hh2 | hh2
          · exact h3 j hh2 hh
          · have := (h5 j hh).2; omega
        · omega
      · obtain ⟨p, hpm, rfl⟩ := List.mem_map.1 hx
        rw [bytesAt_length]
        exact g2 p (selN_mem.1 hpm).1
set_option maxHeartbeats 3200000 in
theorem do_q {w : World} {B S P k la m G : Nat} {gs : List (List Nat)} {ls : List (Nat × List UInt8)} {Q R : Nat → Prop} (h1 : LogQ w B S P k la G gs ls Q) (h2 : RQ w B m S G gs P ls R) (h3 : ∀ j, Q j → ¬ R j) (h4 : ∀ j, Q j → B ≤ j ∧ j < w.heap.size) (h5 : ∀ j, R j → B ≤ j ∧ j < w.heap.size) (hk : k ≤ 900) (hP : P ≤ 100) (hB : B ≤ w.heap.size) (ck sh : Bool) (a : Option Addr) (q : List Int) (c : Nat) (y : UInt8) (hq : ∀ w', Below B w w' → IntsAt w' a q) :
    Calls Tryz.prog 16 #[.pointer (some ⟨la, 0, none⟩), .pointer (some ⟨m, 0, none⟩), .agg #[.bool ck, .bool sh, .slice a q.length c, .int .u8 (y.toNat : Int)]] w fun e w' => e = .returned (.bool true) ∧ (∃ G' gs' ls', Duo w' B S P (k + 1) la m G' gs' ls' ∧ DStep S P G gs ls G' gs' ls') ∧ Below B w w' ∧ Out (fun j => Q j ∨ R j) w w' := by
  have hgr : G ≤ k := by obtain ⟨_, _, _, _, _, _, h, _⟩ := h1; exact h.gr
  have hlsl : ls.length ≤ 102 * k := by obtain ⟨_, _, _, _, _, _, h, _⟩ := h1; exact h.lsl
  have Hb0 := hid ((Below.refl _ w).alloc (Nat.le_refl _) (.cells #[.bool ck, .bool sh, .slice a q.length c, .int .u8 (y.toNat : Int)] 32))
  have hd0 := heap_alloc_new w (.cells #[.bool ck, .bool sh, .slice a q.length c, .int .u8 (y.toNat : Int)] 32)
  have hs0 := World.size_alloc w (.cells #[.bool ck, .bool sh, .slice a q.length c, .int .u8 (y.toNat : Int)] 32)
  have HQ := hid (h1.below Hb0.out)
  have HR := hid (h2.below Hb0.out)
  have H3 := hid h3
  have H4 := hid h4
  have H5 := hid h5
  have Hq := hid hq
  have k0 := cell_of_row _ _ 0 _ _ _ hd0
  have k1 := cell_of_row _ _ 1 _ _ _ hd0
  have k2 := cell_of_row _ _ 2 _ _ _ hd0
  have k3 := cell_of_row _ _ 3 _ _ _ hd0
  clear h1 h2 h3 h4 h5 hq hd0
  go_enter Tryz.func16, Tryz.ntmps16
  cases ck with
  | true =>
    go_wp2_with (fail)
    generalize w.alloc (.cells #[.bool true, .bool sh, .slice a q.length c, .int .u8 (y.toNat : Int)] 32) = W0 at *
    clear k0 k1 k2 k3
    refine (q_check HQ.out (by omega) hP (by omega)).mono ?_
    rintro e w1 ⟨rfl, Q', hL1, hn1, ho1⟩
    have HR1 := hid (HR.out.keep (w' := w1) fun j hj hr => ho1.block j hj (fun hq => H3.out j hq hr))
    have HL1 := hid hL1.cut
    have Hn1 := hid (fun j (hj : Q' j ∧ B ≤ j ∧ j < w1.heap.size) => hn1 j hj.1)
    have Ho1 := hid ho1
    have hs1 := ho1.size
    clear hL1 hn1 ho1 HR HQ
    go_wp2_with (fail)
    refine (r_check HR1.out (by omega) (by omega) (by omega)).mono ?_
    rintro e w2 ⟨rfl, R', hL2, hn2, ho2⟩
    have HL2 := hid hL2
    have Hn2 := hid hn2
    have Ho2 := hid ho2
    have hs2 := ho2.size
    clear hL2 hn2 ho2 HR1
    have HL3 := hid (HL1.out.keep (w' := w2) fun j hj hq => Ho2.out.block j hj (fun hr => by
      rcases Hn1.out j hq with hh | hh
      · exact H3.out j hh hr
      · have := (H5.out j hr).2; omega))
    go_wp2
    go_ret
    refine ⟨rfl, ⟨G, [], ls ++ cpWs S P G gs ls, duo_mk HL3.out HL2.out (fun j hj hq hr => ?_), .inr (.inl ⟨rfl, rfl, rfl⟩)⟩, ?_⟩
    · rcases Hn1.out j hq with hh | hh
      · rcases Hn2.out j hr with hh2 | hh2
        · exact H3.out j hh hh2
        · have := (H4.out j hh).2; omega
      · rcases Hn2.out j hr with hh2 | hh2
        · have := (H5.out j hh2).2; omega
        · have := hq.2.2; omega
    · exact ⟨(Hb0.out.mono hB).trans ((Ho1.out.below (by omega) (fun j hj => (H4.out j hj).1)).trans (Ho2.out.below (by omega) (fun j hj => (H5.out j hj).1))), ((Out.of_below Hb0.out).trans Ho1.out (fun _ _ h => .inl h)).trans Ho2.out (fun _ _ h => .inr h)⟩
  | false =>
    go_wp2_with (fail)
    generalize w.alloc (.cells #[.bool false, .bool sh, .slice a q.length c, .int .u8 (y.toNat : Int)] 32) = W0 at *
    have hQW : ∀ j, Q j → j < W0.heap.size := fun j hj => by have := (H4.out j hj).2; omega
    have HQW := hid hQW
    have HRW : Hid (∀ j, R j → j < W0.heap.size) := fun j hj => by have := (H5.out j hj).2; omega
    have HbW := hid (Hb0.out.mono hB)
    clear hQW
    refine (pages_deed false sh a q c y W0 (Hq.out W0 HbW.out)).mono ?_
    rintro e u1 ⟨vp, lp, rfl, hlen, hdp, hrow, hap, hb1⟩
    obtain ⟨va, vc, rfl, hpg⟩ := pg_form hrow
    have HQ1 := hid (HQ.out.below hb1)
    have HR1 := hid (HR.out.below hb1)
    have Hor := hid (fun (u' : World) => orel_start (w := W0) (u := u1) (u' := u') rfl hdp hrow hap)
    have Hdp := hid (hdp.below (w' := u1.drew) ⟨rfl, rfl, rfl, Nat.le_refl _, fun _ _ => rfl⟩)
    have Hlen := hid hlen
    have hl102 : lp.length ≤ 102 := by omega
    have hs1 := hb1.size
    have Hb1 := hid (HbW.out.trans (hb1.mono (by omega)))
    have Hb10 := hid hb1
    have c0 := (hb1.cell (World.block_lt_of_cell? _ _ k0)).trans k0
    have c1 := (hb1.cell (World.block_lt_of_cell? _ _ k1)).trans k1
    have c2 := (hb1.cell (World.block_lt_of_cell? _ _ k2)).trans k2
    have c3 := (hb1.cell (World.block_lt_of_cell? _ _ k3)).trans k3
    have Hcm := hid (q_commit (HQ1.out.below (w' := u1.drew) ⟨rfl, rfl, rfl, Nat.le_refl _, fun _ _ => rfl⟩) HQW.out (by omega) (by show B ≤ u1.heap.size; omega) Hdp.out va vc (fun h => by obtain ⟨b, e, hp⟩ := hpg h; exact ⟨b, e, hp.keep rfl⟩))
    have Hbx : Hid (∀ (F : Nat → Prop) (u u' : World), (∀ j, F j → j < w.heap.size ∨ u.heap.size ≤ j) → Out F u u' → w.heap.size < u.heap.size → ∀ i v, u.cell? ⟨w.heap.size, i, none⟩ = some v → u'.cell? ⟨w.heap.size, i, none⟩ = some v) := fun F u u' hF ho hlt i v hc => (World.cell?_of_block (a := ⟨w.heap.size, i, none⟩) (ho.block w.heap.size hlt (fun h => by rcases hF w.heap.size h with h | h <;> omega))).trans hc
    clear k0 k1 k2 k3 hdp hrow hap hpg hb1 HQ HR hlen
    go_wp2
    go_region_held3 (fun w9 => w9.cell? ⟨w.heap.size, 0, none⟩ = some (.bool false) ∧ w9.cell? ⟨w.heap.size, 1, none⟩ = some (.bool sh) ∧ w9.cell? ⟨w.heap.size, 2, none⟩ = some (.slice a q.length c) ∧ w9.cell? ⟨w.heap.size, 3, none⟩ = some (.int .u8 (y.toNat : Int))) (first | exact ⟨c0, c1, c2, c3⟩ | exact q4.out | exact q2.out | exact q1.out)
      (first
        | ((go_at_call 75; refine (Hrc.out).mono ?_; intro e u4 hc4; obtain ⟨rfl, ho4, hdr⟩ := Hone.out e u4 hc4; have Ho4 := hid ho4; have Hdr := hid hdr; have q4 := hid (And.intro (Hbx.out R u3 u4 (fun j hj => .inl (by have := (H5.out j hj).2; omega)) ho4 (by omega) _ _ q2.out.1) (And.intro (Hbx.out R u3 u4 (fun j hj => .inl (by have := (H5.out j hj).2; omega)) ho4 (by omega) _ _ q2.out.2.1) (And.intro (Hbx.out R u3 u4 (fun j hj => .inl (by have := (H5.out j hj).2; omega)) ho4 (by omega) _ _ q2.out.2.2.1) (Hbx.out R u3 u4 (fun j hj => .inl (by have := (H5.out j hj).2; omega)) ho4 (by omega) _ _ q2.out.2.2.2)))); clear hc4 ho4 hdr))
        | ((go_at_call 47; refine (pages_deed false sh a q c y u2 (Hq.out u2 Hb2.out)).mono ?_; rintro e u3 ⟨vp2, lp2, rfl, hlen2, hdp2, hrow2, _, hb3⟩; obtain ⟨va2, vc2, rfl, hpg2⟩ := pg_form hrow2; have hs3 := hb3.size; have Htri : Hid (lp.map (tri u1.drew) = lp2.map (tri u3)) := (by rw [deed_tri Hdp.out, deed_tri hdp2, Hlen.out, hlen2]; exact rfl); have HR3 := hid ((HR1.out.keep (w' := u2) fun j hj hr => Ho2.out.block j hj (fun hq => H3.out j hq hr)).below hb3); have Hrc := hid (r_commit HR3.out (H := u2.heap.size) (fun j hj => by have := (H5.out j hj).2; omega) (by omega) (by omega) (by omega) hdp2 va2 vc2 hpg2); have Hone := hid (fun e u4 (h : CmR u3 B m S P G gs ls R lp2 e u4) => cmr_one h (code_tri Htri.out Hdo.out.code)); have q2 := hid (And.intro ((hb3.cell (World.block_lt_of_cell? _ _ q1.out.1)).trans q1.out.1) (And.intro ((hb3.cell (World.block_lt_of_cell? _ _ q1.out.2.1)).trans q1.out.2.1) (And.intro ((hb3.cell (World.block_lt_of_cell? _ _ q1.out.2.2.1)).trans q1.out.2.2.1) ((hb3.cell (World.block_lt_of_cell? _ _ q1.out.2.2.2)).trans q1.out.2.2.2)))); have Hb3 := hid hb3; clear hdp2 hrow2 hpg2 hb3 hlen2))
        | ((go_at_call 48; refine Hcm.out.mono ?_; intro e u2 hc2; obtain ⟨cc, rfl, ho2, hdo⟩ := cmq_one hc2; have Ho2 := hid ho2; have Hdo := hid hdo; have hs2 : u1.heap.size ≤ u2.heap.size := ho2.size; have Hb2 := hid (Hb1.out.trans (ho2.undrew.below (by omega) (fun j hj => (H4.out j hj).1))); have q1 := hid (And.intro (Hbx.out Q u1.drew u2 (fun j hj => .inl (H4.out j hj).2) ho2 (by show w.heap.size < u1.heap.size; omega) _ _ c0) (And.intro (Hbx.out Q u1.drew u2 (fun j hj => .inl (H4.out j hj).2) ho2 (by show w.heap.size < u1.heap.size; omega) _ _ c1) (And.intro (Hbx.out Q u1.drew u2 (fun j hj => .inl (H4.out j hj).2) ho2 (by show w.heap.size < u1.heap.size; omega) _ _ c2) (Hbx.out Q u1.drew u2 (fun j hj => .inl (H4.out j hj).2) ho2 (by show w.heap.size < u1.heap.size; omega) _ _ c3)))); clear hc2 ho2 hdo)))
    clear c0 c1 c2 c3 q1 q2 q4 Hcm Hrc Hone
    have hs4 := Ho4.out.size
    have HO4 : Hid (ORel W0.heap.size u1.heap.size u4 va lp u4) := Hor.out u4 ((((Ho2.out.undrew).imp (fun j _ hj => .inl (HQW.out j hj))).on2 Hb3.out).trans Ho4.out (fun j _ hj => .inl (HRW.out j hj)))
    have Hb4 := hid ((Hb2.out.trans (Hb3.out.mono (by omega))).trans (Ho4.out.below (by omega) (fun j hj => (H5.out j hj).1)))
    have HOw : Hid (Out (fun j => Q j ∨ R j) w u4) := ((((Out.of_below Hb0.out).on2 Hb10.out).trans Ho2.out.undrew (fun _ _ h => .inl h)).on2 Hb3.out).trans Ho4.out (fun _ _ h => .inr h)
    clear Hor
    go_wp2
    go_loopw [9] (fun i wr => ∃ n : Nat, n ≤ lp.length ∧ i = .int .i64 n ∧ ORel W0.heap.size u1.heap.size u4 va lp wr) (fun i _ => lp.length - (intOf i).toNat)
    case atStart => exact ⟨0, Nat.zero_le _, rfl, HO4.out⟩
    case round =>
      obtain ⟨n, hn, rfl, hO⟩ := hrel
      have HO := hid hO
      clear hO HO4
      by_cases hlt : n < lp.length
      · have g1 : (n : Int) < (lp.length : Int) := by omega
        have g0 : (0 : Int) ≤ (n : Int) := by omega
        go_wp2
        go_loopw [10] (fun i wr => ∃ z : Nat, z ≤ lp[n].2.2.1 ∧ i = .int .i64 z ∧ ORel W0.heap.size u1.heap.size u4 va lp wr) (fun i _ => lp[n].2.2.1 - (intOf i).toNat)
        case atStart => exact ⟨0, Nat.zero_le _, rfl, HO.out⟩
        case round =>
          obtain ⟨z, hz, rfl, hO⟩ := hrel
          have HO2 := hid hO
          clear hO HO
          obtain ⟨g, b, x, rfl, hgb, hpg, hb, hl, hx, hbU, how⟩ := HO2.out.1 n hlt
          have c1 := (hpg n hlt).2
          rw [Nat.zero_add, hb] at c1
          have Hst := hid (HO2.out.step n hlt b hb z)
          generalize lp[n].2.2.1 = ln at *
          generalize lp[n].2.2.2 = lc at *
          by_cases hzl : z < ln
          · have g2 : (z : Int) < (ln : Int) := by omega
            have g3 : (0 : Int) ≤ (z : Int) := by omega
            have c2 := (how.cellAt z (by omega)).trans (cellsOf_get x z (by omega))
            have z2 := how.frozenAt z
            generalize (x[z]'(by omega)).toNat = xz at c2
            clear how hb hgb hpg hx
            go_wp2
            go_roundw
            case rel => exact ⟨z + 1, by omega, by go_num, Hst.out⟩
            case measure => simp [intOf]; omega
          · obtain rfl : z = ln := by omega
            have g2 : ¬ (z : Int) < (z : Int) := by omega
            clear how hb hgb hpg hx Hst
            go_wp2
            go_roundw
            case rel => exact ⟨n + 1, by omega, by go_num, HO2.out⟩
            case measure => simp [intOf]; omega
      · obtain rfl : n = lp.length := by omega
        have g1 : ¬ (lp.length : Int) < (lp.length : Int) := by omega
        go_wp2
        go_ret
        refine ⟨rfl, do_end (w := w) H3.out H4.out H5.out (by omega) Ho2.out Hdo.out Hb3.out Htri.out Ho4.out Hdr.out (fun j hj => HO.out.2.block j hj) (by omega) HO.out.2.size, Hb4.out.trans (HO.out.2.below (by have := Hb4.out.size; omega) (fun j hj => by omega)), HOw.out.trans HO.out.2 (fun j hj hd => by omega)⟩
theorem do_any {w : World} {B S P k la m G : Nat} {gs : List (List Nat)} {ls : List (Nat × List UInt8)} (h : Duo w B S P k la m G gs ls) (hk : k ≤ 900) (hP : P ≤ 100) (hB : B ≤ w.heap.size) (ck sh : Bool) (a : Option Addr) (q : List Int) (c : Nat) (y : UInt8) (hq : ∀ w', Below B w w' → IntsAt w' a q) :
    Calls Tryz.prog 16 #[.pointer (some ⟨la, 0, none⟩), .pointer (some ⟨m, 0, none⟩), .agg #[.bool ck, .bool sh, .slice a q.length c, .int .u8 (y.toNat : Int)]] w fun e w' => e = .returned (.bool true) ∧ (∃ G' gs' ls', Duo w' B S P (k + 1) la m G' gs' ls' ∧ DStep S P G gs ls G' gs' ls') ∧ Below B w w' := by
  obtain ⟨Q, R, h1, h2, h3, h4, h5⟩ := h
  refine (do_q h1 h2 h3 h4 h5 hk hP hB ck sh a q c y hq).mono ?_
  rintro e w' ⟨rfl, h, hb, _⟩
  exact ⟨rfl, h, hb⟩
end Go.Proofs.YthdcjepkehifoaaGreat
