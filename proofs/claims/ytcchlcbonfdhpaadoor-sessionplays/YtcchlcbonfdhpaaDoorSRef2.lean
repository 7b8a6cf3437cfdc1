/- The reference's Get, drop and End, each by a contract. -/
import Derived.Test.YtcchlcbonfdhpaaDoorSRef
namespace Go.Proofs.YtcchlcbonfdhpaaDoor
open Go.RowKit Go.Maps Go.Sort Go.Shelf
set_option linter.unusedVariables false
set_option maxRecDepth 20000

theorem rFind_gone {w : World} {B r : Nat} {a : Option Addr} {cap : Nat} {T : Tab} (h : RTab w B r a cap T) (hl : T.l.length ≤ 1000000000) (x : Int) (hx : 1 ≤ x ∧ x < T.next) (hno : ∀ s ∈ T.l, s.id ≠ x) :
    Calls Tryd.prog 45 #[.pointer (some ⟨r, 0, none⟩), .int .i64 x] w fun e w' => e = .returned (.tuple #[.int .i64 (-1), .int .i64 12]) ∧ w' = w := by
  refine (rFind_any h hl x hx).mono ?_
  rintro e w' ⟨⟨rfl, _⟩ | ⟨i, s, rfl, hi, hs⟩, rfl⟩
  · exact ⟨rfl, rfl⟩
  · exact absurd hs (hno s (List.mem_of_getElem? hi))
theorem rFind_ok {w : World} {B r : Nat} {a : Option Addr} {cap : Nat} {T : Tab} (h : RTab w B r a cap T) (hl : T.l.length ≤ 1000000000) (h1 : Nums1 Sess.id T.l) (s : Sess) (hs : s ∈ T.l) (hx : 1 ≤ s.id ∧ s.id < T.next) :
    Calls Tryd.prog 45 #[.pointer (some ⟨r, 0, none⟩), .int .i64 s.id] w fun e w' => ∃ i : Nat, e = .returned (.tuple #[.int .i64 (i : Int), .int .i64 0]) ∧ T.l[i]? = some s ∧ w' = w := by
  refine (rFind_any h hl s.id hx).mono ?_
  rintro e w' ⟨⟨rfl, hno⟩ | ⟨i, t, rfl, hi, ht⟩, rfl⟩
  · exact absurd rfl (hno s hs)
  · have := h1.eq (List.mem_of_getElem? hi) hs ht
    subst this
    exact ⟨i, rfl, hi, rfl⟩
theorem SIn.at {w : World} {a : Option Addr} {l : List Sess} (h : SIn w a l) {i : Nat} {s : Sess} (hi : l[i]? = some s) : i < l.length ∧ ∃ b o, a = some ⟨b, o, none⟩ ∧ w.cell? ⟨b, o + i * 5, none⟩ = some (.int .i64 s.id) ∧ w.cell? ⟨b, o + i * 5 + 1, none⟩ = some (.string s.ten) ∧ w.cell? ⟨b, o + i * 5 + 2, none⟩ = some (.string s.usr) ∧ w.cell? ⟨b, o + i * 5 + 3, none⟩ = some (.int .i64 s.since) ∧ w.cell? ⟨b, o + i * 5 + 4, none⟩ = some (.int .i64 s.used) := by
  obtain ⟨h1, h2⟩ := List.getElem?_eq_some_iff.1 hi
  have := h i h1
  rw [h2] at this
  exact ⟨h1, this⟩

set_option maxHeartbeats 1600000 in
theorem rGet_any {w : World} {B r : Nat} {a : Option Addr} {cap : Nat} {T : Tab} (h : RTab w B r a cap T) (ok : TabOk T) (hl : T.l.length ≤ 1000000000) (id now : Int) :
    Calls Tryd.prog 21 #[.pointer (some ⟨r, 0, none⟩), .int .i64 id, .int .i64 now] w fun e w' => e = .returned (.tuple #[sessV (tGet T id now).1, .int .i64 (tGet T id now).2]) ∧ Below w.heap.size w w' := by
  have hr := h.lt
  have hb1 : Below w.heap.size w (w.alloc (.cells #[.int .i64 0, .string ⟨#[]⟩, .string ⟨#[]⟩, .int .i64 0, .int .i64 0] 42)) := (Below.refl _ w).alloc (Nat.le_refl _) _
  have h1 := h.below hb1
  have Ht := hid (rTime_any h1 now)
  have hN1 : Nums1 Sess.id T.l := ok.up.imp (fun h => by omega)
  by_cases e0 : timeErr now T.noted = 0
  · have Hte := Ht.out
    rw [e0] at Hte
    by_cases e1 : id < 1 ∨ T.next ≤ id
    · have e2 : tGet T id now = (sess0, 4) := by unfold tGet; rw [if_neg (by simp [e0]), if_pos e1]
      rw [e2]
      have Hf := hid (rFind_none h1 id e1)
      clear e0 e1 e2 h Ht h1 ok
      go_enter Tryd.func21, Tryd.ntmps21
      go_wp2_with (first
        | (go_at_call 43; refine Hte.mono ?_; rintro e w2 ⟨rfl, rfl⟩)
        | (go_at_call 45; refine Hf.out.mono ?_; rintro e w2 ⟨rfl, rfl⟩))
      exact bodyPost_ret (v := .tuple #[sessV sess0, .int .i64 4]) (by simp [results, Tryd.results21, go_sem, sessV, sess0]) rfl ⟨rfl, hb1⟩
    · cases hfd : T.l.find? (fun s => s.id == id) with
      | none =>
        have e2 : tGet T id now = (sess0, 12) := by unfold tGet; rw [if_neg (by simp [e0]), if_neg e1, hfd]
        rw [e2]
        have Hf := hid (rFind_gone h1 hl id (by omega) (fun s hs e => by have := List.find?_eq_none.1 hfd s hs; simp [e] at this))
        clear e0 e1 e2 h Ht h1 ok hfd
        go_enter Tryd.func21, Tryd.ntmps21
        go_wp2_with (first
          | (go_at_call 43; refine Hte.mono ?_; rintro e w2 ⟨rfl, rfl⟩)
          | (go_at_call 45; refine Hf.out.mono ?_; rintro e w2 ⟨rfl, rfl⟩))
        exact bodyPost_ret (v := .tuple #[sessV sess0, .int .i64 12]) (by simp [results, Tryd.results21, go_sem, sessV, sess0]) rfl ⟨rfl, hb1⟩
      | some s =>
        have hs : s ∈ T.l := List.mem_of_find?_eq_some hfd
        have hsid : s.id = id := by have := List.find?_some hfd; simpa using this
        subst hsid
        have Hf := hid (rFind_ok h1 hl hN1 s hs (ok.ids s hs))
        have Hov := fun w => rOver_any s now w (ok.times s hs)
        have c2 := h1.c2
        have HS := hid h1.sin
        have H1 := hid h1
        cases hov : overB s now
        · have e2 : tGet T s.id now = (s, 0) := by unfold tGet; rw [if_neg (by simp [e0]), if_neg e1, hfd]; simp [hov]
          rw [e2]
          rw [hov] at Hov
          clear e0 e1 e2 h Ht h1 ok hfd hs hov hN1
          go_enter Tryd.func21, Tryd.ntmps21
          go_wp2_with (first
            | (go_at_call 43; refine Hte.mono ?_; rintro e w2 ⟨rfl, rfl⟩)
            | (go_at_call 45; refine Hf.out.mono ?_; rintro e w2 ⟨i, rfl, hi, rfl⟩; obtain ⟨hil, b, o, rfl, d0, d1, d2, d3, d4⟩ := HS.out.at hi)
            | (go_at_call 44; refine (Hov _).mono ?_; rintro e w3 ⟨rfl, hb3⟩; have k2 := (H1.out.below hb3).c2; obtain ⟨hc3, hf3⟩ := bcell hb3; have hz3 : w.heap.size < w3.heap.size := (by have := hb3.size; simp at this; omega); obtain ⟨_, b', o', eb, q0, q1, q2, q3, q4⟩ := (H1.out.below hb3).sin.at hi; cases eb))
          have k3 : ∀ j v, (#[.int .i64 0, .string ⟨#[]⟩, .string ⟨#[]⟩, .int .i64 0, .int .i64 0] : Array Value)[j]? = some v → w3.cell? ⟨w.heap.size, j, none⟩ = some v := fun j v hj => by
            rw [hc3 _ _ (by simp), World.cell?_alloc_at _ _ _ _ rfl]
            exact hj
          have k30 := k3 0 _ rfl
          have k31 := k3 1 _ rfl
          have k32 := k3 2 _ rfl
          have k33 := k3 3 _ rfl
          have k34 := k3 4 _ rfl
          refine bodyPost_ret (v := .tuple #[sessV s, .int .i64 0]) (by simp [results, Tryd.results21, go_sem, sessV, k30, k31, k32, k33, k34]) rfl ⟨rfl, ?_⟩
          have hb13 : Below w.heap.size w w3 := hb1.trans (hb3.mono (by simp))
          exact below5 hb13 (Nat.le_refl _) _ _ _ _ _
        · have e2 : tGet T s.id now = (sess0, 12) := by unfold tGet; rw [if_neg (by simp [e0]), if_neg e1, hfd]; simp [hov]
          rw [e2]
          rw [hov] at Hov
          clear e0 e1 e2 h Ht h1 ok hfd hs hov hN1
          go_enter Tryd.func21, Tryd.ntmps21
          go_wp2_with (first
            | (go_at_call 43; refine Hte.mono ?_; rintro e w2 ⟨rfl, rfl⟩)
            | (go_at_call 45; refine Hf.out.mono ?_; rintro e w2 ⟨i, rfl, hi, rfl⟩; obtain ⟨hil, b, o, rfl, d0, d1, d2, d3, d4⟩ := HS.out.at hi)
            | (go_at_call 44; refine (Hov _).mono ?_; rintro e w3 ⟨rfl, hb3⟩; obtain ⟨hc3, hf3⟩ := bcell hb3; have hz3 : w.heap.size < w3.heap.size := (by have := hb3.size; simp at this; omega)))
          have k3 : ∀ j v, (#[.int .i64 0, .string ⟨#[]⟩, .string ⟨#[]⟩, .int .i64 0, .int .i64 0] : Array Value)[j]? = some v → w3.cell? ⟨w.heap.size, j, none⟩ = some v := fun j v hj => by
            rw [hc3 _ _ (by simp), World.cell?_alloc_at _ _ _ _ rfl]
            exact hj
          have k30 := k3 0 _ rfl
          have k31 := k3 1 _ rfl
          have k32 := k3 2 _ rfl
          have k33 := k3 3 _ rfl
          have k34 := k3 4 _ rfl
          refine bodyPost_ret (v := .tuple #[sessV sess0, .int .i64 12]) (by simp [results, Tryd.results21, go_sem, sessV, sess0, k30, k31, k32, k33, k34]) rfl ⟨rfl, ?_⟩
          have hb13 : Below w.heap.size w w3 := hb1.trans (hb3.mono (by simp))
          exact below5 hb13 (Nat.le_refl _) _ _ _ _ _
  · have e2 : tGet T id now = (sess0, timeErr now T.noted) := by unfold tGet; rw [if_pos e0]
    rw [e2]
    have b0 : (timeErr now T.noted == 0) = false := by simpa using e0
    have Hte := Ht.out
    generalize timeErr now T.noted = x at Hte e0 b0 ⊢
    clear h ok e2 Ht h1
    go_enter Tryd.func21, Tryd.ntmps21
    go_wp2_with (go_at_call 43; refine Hte.mono ?_; rintro e w2 ⟨rfl, rfl⟩)
    exact bodyPost_ret (v := .tuple #[sessV sess0, .int .i64 x]) (by simp [results, Tryd.results21, go_sem, sessV, sess0]) rfl ⟨rfl, hb1⟩

theorem butId_snoc (l : List Sess) (s : Sess) (x : Int) : butId (l ++ [s]) x = butId l x ++ (if s.id = x then [] else [s]) := by
  unfold butId
  rw [List.filter_append]
  congr 1
  by_cases h : s.id = x <;> simp [h]

set_option maxHeartbeats 1600000 in
theorem rDrop_any {w : World} {B r : Nat} {a : Option Addr} {cap : Nat} {T : Tab} (h : RTab w B r a cap T) (hl : T.l.length ≤ 1000000000) (x : Int) (hB : B ≤ w.heap.size) :
    Calls Tryd.prog 49 #[.pointer (some ⟨r, 0, none⟩), .int .i64 x] w fun e w' => e = .returned (.tuple #[]) ∧ (∃ a' cap', RTab w' B r a' cap' ⟨T.next, T.noted, butId T.l x⟩ ∧ ∀ ad, a' = some ad → w.heap.size ≤ ad.block) ∧ Out (fun k => k = r) w w' := by
  have hr := h.lt
  have H := hid h
  clear h
  go_enter Tryd.func49, Tryd.ntmps49
  go_wp2
  go_loopw [4, 5] (fun v i wr => ∃ k : Nat, k ≤ T.l.length ∧ i = .int .i64 k ∧ wr.ownsRow w.heap.size 42 5 v (butId (T.l.take k) x).length (sCells (butId (T.l.take k) x)) ∧ Below w.heap.size w wr)
    (fun _ i _ => T.l.length - (intOf i).toNat)
  case atStart => exact ⟨0, Nat.zero_le _, rfl, World.ownsRow_nil _ _ _ _, Below.refl _ _⟩
  case round =>
    obtain ⟨k, hk, rfl, hrow, hb⟩ := hrel
    have Hb := hid hb
    have Hrow := hid hrow
    have hR := H.out.below hb
    have c2 := hR.c2
    have hbl : (butId (T.l.take k) x).length ≤ k := by
      have h1 := List.length_filter_le (fun s : Sess => !(s.id == x)) (T.l.take k)
      have h2 : (T.l.take k).length ≤ k := List.length_take_le _ _
      show ((T.l.take k).filter _).length ≤ k
      omega
    clear hb hrow
    by_cases hlt : k < T.l.length
    · have Hg : Hid (T.l[k]? = some T.l[k]) := List.getElem?_eq_getElem hlt
      generalize T.l[k] = s at *
      obtain ⟨_, b, o, ea, d0, d1, d2, d3, d4⟩ := hR.sin.at Hg.out
      cases ea
      have Hsn := hid (take_snoc_get Hg.out)
      have hz : w.heap.size ≤ wr.heap.size := Hb.out.size
      clear hR
      by_cases he : s.id = x
      · have b1 : (s.id == x) = true := by simpa using he
        go_wp2
        go_roundw
        case rel => exact ⟨k + 1, by omega, by go_num, by rw [Hsn.out, butId_snoc, if_pos he, List.append_nil]; exact Hrow.out, Hb.out⟩
        case measure => simp [intOf]; omega
      · have b1 : (s.id == x) = false := by simpa using he
        go_wp2_with (first
          | (at_builtin; refine app_sess _ rfl _ _ rfl w.heap.size u4 (butId (T.l.take k) x) rfl Hrow.out s rfl (by omega) hz ?_; intro v' w3 hrow3 hg3)
          | go_in)
        go_roundw
        case rel =>
          refine ⟨k + 1, by omega, by go_num, ?_, Hb.out.trans ⟨hg3.os, hg3.tape, hg3.output, hg3.size, fun i hi => hg3.block i (by omega) (row_ne_low Hrow.out hi)⟩⟩
          rw [Hsn.out, butId_snoc, if_neg he]
          exact hrow3
        case measure => simp [intOf]; omega
    · have e : k = T.l.length := by omega
      have z2 := hR.z 2
      have hlt' := hR.lt
      have Hrow2 : Hid (wr.ownsRow w.heap.size 42 5 u4 (butId T.l x).length (sCells (butId T.l x))) := by
        have := Hrow.out
        rw [e, List.take_length] at this
        exact this
      have HR := hid hR
      clear hR Hrow hbl
      subst e
      obtain ⟨a', c', ev, _, _⟩ := sess_of_own Hrow2.out
      subst ev
      go_wp2
      go_end0
      have hne : (Value.slice a' (butId T.l x).length c').ownBlock ≠ some r := Ne.symm (row_ne_low Hrow2.out hr)
      refine ⟨rfl, ⟨a', c', ⟨?_, ?_, HR.out.br, hne⟩, fun ad e => (Hrow2.out.lt ad.block (by rw [e]; rfl)).1⟩, (Out.of_below Hb.out).trans ((Out.refl (fun k => k = r) wr).setCell ⟨r, 2, none⟩ _ rfl) (fun _ _ e => e)⟩
      · rw [heap_setCell_same wr r 2 _ _ _ HR.out.obj]
        simp
      · exact (Hrow2.out.mono hB).kept (grown_of_out ((Out.refl (fun k => k = r) wr).setCell ⟨r, 2, none⟩ _ rfl)) (.inr hne)
end Go.Proofs.YtcchlcbonfdhpaaDoor
